/- GrW. -/
import Derived.Test.YteabfjpajgakiafJ22
/- GroupTrue: the walk. -/
set_option linter.unusedSimpArgs false
set_option linter.unusedVariables false
set_option maxRecDepth 10000
namespace Go.Proofs.Yteabfjpajgakiaf
open Go.RowKit

set_option maxHeartbeats 8000000 in
theorem group_true (g : Grp) (A : Ad) (e : Ent) (k n : Int) (hk0 : -9223372036854775808 ≤ k) (hk1 : k ≤ 9223372036854775807) (hn0 : -9223372036854775808 ≤ n) (hn1 : n ≤ 9223372036854775807) (w : World) (hG : GrAt w g A) : Calls Try.prog 3 #[.agg (GL g A).toArray, entV e, .int .i64 k, .int .i64 n] w fun y w' => y = .returned (.bool true) ∧ Keeps w w' := by
  have HG : Hid (GrAt w g A) := hG
  clear hG
  have HC0 : Hid (∀ W, Keeps w W → Calls Try.prog 7 #[.agg (GL g A).toArray] W fun y w' => y = .returned (.int .i64 (grErr g)) ∧ Keeps W w') := fun W hk => group_check g A W (HG.out.keep hk)
  cases q0 : (grErr g == 0) with
  | false =>
    have q0' : (grErr g != 0) = true := by simp [bne, q0]
    generalize grErr g = ge at *
    go_enter Try.func3, Try.ntmps3
    go_wp2_with (first | (refine box31 rfl rfl rfl ?_; intro w1 bb hBbb hkbb hlbb hgbb) | (refine box35 rfl rfl (e := e) rfl ?_; intro w2 eb hBeb hkeb hleb hgeb) | (refine load31 rfl rfl bb rfl (hBbb.keep hkeb (by rw [GL_len]; decide)) ?_))
    refine (HC0.out w2 (hkbb.trans hkeb)).mono ?_
    rintro y w3 ⟨rfl, hb⟩
    have hk3 : Keeps w w3 := (hkbb.trans hkeb).trans hb
    clear hBbb hkbb hlbb hgbb hBeb hkeb hleb hgeb hb
    go_wp2_with fail
    refine (group_begun w3).mono ?_
    rintro y w4 ⟨rfl, hb⟩
    go_wp2_with fail
    go_ret
    exact ⟨rfl, hk3.trans hb⟩
  | true =>
    have q0' : (grErr g != 0) = false := by simp [bne, q0]
    have hz : grErr g = 0 := by simpa using q0
    have hlen : g.log.tail.length ≤ 50 := (gr_right hz).2.2.1
    have HWR : Hid (IntKind.i64.wrap ((g.log.tail.length : Int) + 1) = (g.log.tail.length : Int) + 1) := wrap_small (by omega) (by omega)
    have HCP : Hid (∀ W, Keeps w W → Calls Try.prog 10 #[.agg (GL g A).toArray, entV e] W fun y w' => ∃ B, GrOwn W.heap.size w' (pgG g e) B ∧ y = .returned (.tuple #[.agg (GL (pgG g e) B).toArray, .int .i64 (pgAns g e), .int .i64 (pgErr g e)]) ∧ Keeps W w') := fun W hk => group_put g A e W (HG.out.keep hk)
    have HQP : Hid (pgErr g e = 0 → grErr (pgG g e) = 0) := fun h => by
      have h1 : putLgErr g.log e = 0 := by unfold pgErr at h; rw [if_pos q0] at h; exact h
      unfold pgG
      rw [if_pos (by rw [h]; rfl)]
      exact gr_put hz h1
    have hcn := chF_in (c := n) (n := 51) (by decide)
    have hck := chF_in (c := k) (n := 3) (by decide)
    have hct := chF_in (c := n) (n := (g.log.tail.length : Int) + 1) (by omega)
    have HCK : Hid (∀ W, Calls Try.prog 12 #[.int .i64 k, .int .i64 3] W fun e w' => e = .returned (.int .i64 (chF k 3)) ∧ W = w') := fun W => choose_f k 3 W hk0 hk1 (by decide) (by decide)
    have HCN : Hid (∀ W, Calls Try.prog 12 #[.int .i64 n, .int .i64 51] W fun e w' => e = .returned (.int .i64 (chF n 51)) ∧ W = w') := fun W => choose_f n 51 W hn0 hn1 (by decide) (by decide)
    have HCT : Hid (∀ W, Calls Try.prog 12 #[.int .i64 n, .int .i64 ((g.log.tail.length : Int) + 1)] W fun e w' => e = .returned (.int .i64 (chF n ((g.log.tail.length : Int) + 1))) ∧ W = w') := fun W => choose_f n _ W hn0 hn1 (by omega) (by omega)
    have hR := gr_run hz (chF k 3).toNat (m := (chF n 51).toNat) (by omega)
    rw [Int.toNat_of_nonneg hcn.1] at hR
    have hC := gr_cut hz (n := (chF n ((g.log.tail.length : Int) + 1)).toNat) (by omega)
    rw [Int.toNat_of_nonneg hct.1] at hC
    have hRE : rgErr g (chF k 3) (chF n 51) = 0 := by
      unfold rgErr rnErr
      rw [if_pos q0, if_pos (inB_iff.2 ⟨hck.1, by omega⟩)]
      exact hR.1
    have hRG : rgG g (chF k 3) (chF n 51) = setNode g (chF k 3).toNat (runOut g.log (nodeAt g (chF k 3).toNat) (chF n 51)) := by
      unfold rgG rnOut
      rw [if_pos (by rw [hRE]; rfl)]
    have hCE : cgErr g (chF n ((g.log.tail.length : Int) + 1)) = 0 := by
      unfold cgErr
      rw [if_pos q0]
      exact hC.1
    have hCG : cgG g (chF n ((g.log.tail.length : Int) + 1)) = setLog g (cutLg g.log (chF n ((g.log.tail.length : Int) + 1))) := by
      unfold cgG
      rw [if_pos (by rw [hCE]; rfl)]
    have HQR : Hid (grErr (rgG g (chF k 3) (chF n 51)) = 0) := by show _ = _; rw [hRG]; exact hR.2
    have HQC : Hid (grErr (cgG g (chF n ((g.log.tail.length : Int) + 1))) = 0) := by show _ = _; rw [hCG]; exact hC.2
    have HCR : Hid (∀ W, Keeps w W → Calls Try.prog 11 #[.agg (GL g A).toArray, .int .i64 (chF k 3), .int .i64 (chF n 51)] W fun y w' => ∃ B, GrOwn W.heap.size w' (rgG g (chF k 3) (chF n 51)) B ∧ y = .returned (.tuple #[.agg (GL (rgG g (chF k 3) (chF n 51)) B).toArray, .int .i64 (rgNum g (chF k 3) (chF n 51)), .int .i64 0]) ∧ Keeps W w') := fun W hk => by
      have := group_run g A (chF k 3) (chF n 51) W (HG.out.keep hk)
      rw [hRE] at this
      exact this
    have HCC : Hid (∀ W, Keeps w W → Calls Try.prog 13 #[.agg (GL g A).toArray, .int .i64 (chF n ((g.log.tail.length : Int) + 1))] W fun y w' => ∃ B, GrOwn W.heap.size w' (cgG g (chF n ((g.log.tail.length : Int) + 1))) B ∧ y = .returned (.tuple #[.agg (GL (cgG g (chF n ((g.log.tail.length : Int) + 1))) B).toArray, .int .i64 0]) ∧ Keeps W w') := fun W hk => by
      have := group_cut g A (chF n ((g.log.tail.length : Int) + 1)) W (HG.out.keep hk)
      rw [hCE] at this
      exact this
    have HSS : Hid (∀ i j, i < 3 → j < 3 → ((nodeAt g i).at_ == (nodeAt g j).at_) = true → decide (g.log.base.at_ ≤ (nodeAt g i).at_) = true → ∀ W, Keeps w W → Calls Try.prog 9 #[nodeV g A i, nodeV g A j] W fun e w' => e = .returned (.bool true) ∧ Keeps W w') := fun i j _ _ q1 q2 W hk => by
      have := same_of (nodeAt g i) (nodeAt g j) (tabV g A i) (tabV g A j) W ((HG.out.keep hk).tab i) ((HG.out.keep hk).tab j)
      rw [show sameSt (nodeAt g i) (nodeAt g j) = true from by rw [gr_same hz i j (by simpa using q1) (by simpa using q2)]; exact same_self _] at this
      exact this
    clear hR hC hRE hRG hCE hCG hcn hck hct hk0 hk1 hn0 hn1
    generalize rgG g (chF k 3) (chF n 51) = GR at *
    generalize cgG g (chF n ((g.log.tail.length : Int) + 1)) = GC_ at *
    generalize rgNum g (chF k 3) (chF n 51) = nu at *
    generalize pgG g e = GP at *
    generalize pgAns g e = an at *
    generalize pgErr g e = pe at *
    generalize hck : chF k 3 = ck at *
    generalize hcn : chF n 51 = cn at *
    generalize hct : chF n ((g.log.tail.length : Int) + 1) = ct at *
    clear hck hcn hct
    rw [hz] at HC0 q0'
    clear hz q0 q0'
    go_enter Try.func3, Try.ntmps3
    go_wp2_with (first | (refine box31 rfl rfl rfl ?_; intro w1 bb hBbb hkbb hlbb hgbb) | (refine box35 rfl rfl (e := e) rfl ?_; intro w2 eb hBeb hkeb hleb hgeb) | (refine load31 rfl rfl bb rfl (hBbb.keep hkeb (by rw [GL_len]; decide)) ?_))
    refine (HC0.out w2 (hkbb.trans hkeb)).mono ?_
    rintro y w3 ⟨rfl, hb⟩
    have HK3 : Hid (Keeps w w3) := (hkbb.trans hkeb).trans hb
    have HB3 : Hid (CBox bb (GL g A) w3) := (hBbb.keep hkeb (by rw [GL_len]; decide)).keep hb (by rw [GL_len]; decide)
    have HE3 : Hid (CBox eb (EC e) w3) := hBeb.keep hb (Nat.le_of_ble_eq_true rfl)
    clear hBbb hkbb hlbb hgbb hBeb hkeb hleb hgeb hb HC0
    go_wp2_with fail
    go_loopw [9] (fun x wr => ∃ (i : Nat), i ≤ 3 ∧ x = .int .i64 i ∧ Hid (Keeps w3 wr)) (fun x _ => 3 - (intOf x).toNat)
    case atStart => exact ⟨0, by omega, rfl, Keeps.refl _⟩
    case round =>
      obtain ⟨i, hi', rfl, HR1⟩ := hrel
      by_cases hi : i < 3
      · go_wp2_with fail
        have e24 : decide ((i : Int) < 3) = true := decide_eq_true (by omega)
        simp only [e24]
        clear e24
        go_loopw [10] (fun x wr => ∃ (j : Nat), j ≤ 3 ∧ x = .int .i64 j ∧ Hid (Keeps w3 wr)) (fun x _ => 3 - (intOf x).toNat)
        case atStart => exact ⟨0, by omega, rfl, HR1.out⟩
        case round =>
          obtain ⟨j, hj', rfl, HR2⟩ := hrel
          by_cases hj : j < 3
          · have HSM : Hid (((nodeAt g i).at_ == (nodeAt g j).at_) = true → decide (g.log.base.at_ ≤ (nodeAt g i).at_) = true → ∀ W, Keeps wr W → Calls Try.prog 9 #[nodeV g A i, nodeV g A j] W fun e w' => e = .returned (.bool true) ∧ Keeps W w') := fun q1 q2 W hk => HSS.out i j hi hj q1 q2 W ((HK3.out.trans HR2.out).trans hk)
            have HB1 : Hid (CBox bb (GL g A) wr) := HB3.out.keep HR2.out (by rw [GL_len]; decide)
            go_wp2_with fail
            go_cut [65] (fun p wc => p = .bool false ∧ Keeps wr wc)
            case first =>
              cases q1 : ((nodeAt g i).at_ == (nodeAt g j).at_) with
              | false =>
                refine wp_region_held_drew (S := fun W => Keeps wr W) (by kernel_rfl) (Keeps.refl _).drew (fun hS => ?_)
                obtain ⟨V0, hV0⟩ : ∃ z, z = wr.drew := ⟨_, rfl⟩
                rw [← hV0] at hS ⊢
                clear hV0
                refine wpAnyH_take (i := 0) (v := .int .i64 i) rfl (by kernel_rfl) (by kernel_rfl) (by kernel_rfl) (fun _ _ _ h => h) (Or.inl ⟨by kernel_rfl, fun w _ => by kernel_rfl⟩) hS ?_
                refine wpAnyH_take (i := 1) (v := .pointer (some ⟨bb, 8, none⟩)) rfl (by kernel_rfl) (by kernel_rfl) (by kernel_rfl) (fun _ _ _ h => h) (Or.inl ⟨by kernel_rfl, fun w _ => by kernel_rfl⟩) hS ?_
                refine wpAnyH_take (i := 2) (v := .pointer (some ⟨bb, 8 + i * 7, none⟩)) rfl (by kernel_rfl) (by kernel_rfl) (by kernel_rfl) (fun _ _ _ h => h) (y_index (by kernel_rfl) rfl bb i hi (by kernel_rfl) (by kernel_rfl)) hS ?_
                refine wpAnyH_take (i := 3) (v := .pointer (some ⟨bb, 8 + i * 7, none⟩)) rfl (by kernel_rfl) (by kernel_rfl) (by kernel_rfl) (fun _ _ _ h => h) (Or.inl ⟨by kernel_rfl, fun w _ => by kernel_rfl⟩) hS ?_
                refine wpAnyH_take (i := 4) (v := .int .i64 (nodeAt g i).at_) rfl (by kernel_rfl) (by kernel_rfl) (by kernel_rfl) (fun _ _ _ h => h) (y_int (by kernel_rfl) rfl bb (8 + i * 7) (by kernel_rfl) (GL_at g A i hi) (fun W h => HB1.out.keep h (by rw [GL_len]; decide))) hS ?_
                refine wpAnyH_take (i := 5) (v := .int .i64 j) rfl (by kernel_rfl) (by kernel_rfl) (by kernel_rfl) (fun _ _ _ h => h) (Or.inl ⟨by kernel_rfl, fun w _ => by kernel_rfl⟩) hS ?_
                refine wpAnyH_take (i := 6) (v := .pointer (some ⟨bb, 8, none⟩)) rfl (by kernel_rfl) (by kernel_rfl) (by kernel_rfl) (fun _ _ _ h => h) (Or.inl ⟨by kernel_rfl, fun w _ => by kernel_rfl⟩) hS ?_
                refine wpAnyH_take (i := 7) (v := .pointer (some ⟨bb, 8 + j * 7, none⟩)) rfl (by kernel_rfl) (by kernel_rfl) (by kernel_rfl) (fun _ _ _ h => h) (y_index (by kernel_rfl) rfl bb j hj (by kernel_rfl) (by kernel_rfl)) hS ?_
                refine wpAnyH_take (i := 8) (v := .pointer (some ⟨bb, 8 + j * 7, none⟩)) rfl (by kernel_rfl) (by kernel_rfl) (by kernel_rfl) (fun _ _ _ h => h) (Or.inl ⟨by kernel_rfl, fun w _ => by kernel_rfl⟩) hS ?_
                refine wpAnyH_take (i := 9) (v := .int .i64 (nodeAt g j).at_) rfl (by kernel_rfl) (by kernel_rfl) (by kernel_rfl) (fun _ _ _ h => h) (y_int (by kernel_rfl) rfl bb (8 + j * 7) (by kernel_rfl) (GL_at g A j hj) (fun W h => HB1.out.keep h (by rw [GL_len]; decide))) hS ?_
                refine wpAnyH_take (i := 10) (v := .bool false) rfl (by kernel_rfl) (by kernel_rfl) (by kernel_rfl) (fun _ _ _ h => h) (Or.inl ⟨by kernel_rfl, fun w _ => Eq.trans (b := .ok (.value (.bool ((nodeAt g i).at_ == (nodeAt g j).at_))) w) (by kernel_rfl) (by rw [q1])⟩) hS ?_
                refine wpAnyH_take (i := 11) (v := .bool false) rfl (by kernel_rfl) (by kernel_rfl) (by kernel_rfl) (fun _ _ _ h => h) (Or.inl ⟨by kernel_rfl, fun w _ => by kernel_rfl⟩) hS ?_
                refine wpAnyH_take (i := 12) (v := undef) rfl (by kernel_rfl) (by kernel_rfl) (by kernel_rfl) (fun _ _ _ h => h) (Or.inr ⟨by kernel_rfl, rfl⟩) hS ?_
                refine wpAnyH_take (i := 13) (v := undef) rfl (by kernel_rfl) (by kernel_rfl) (by kernel_rfl) (fun _ _ _ h => h) (Or.inr ⟨by kernel_rfl, rfl⟩) hS ?_
                refine wpAnyH_take (i := 14) (v := undef) rfl (by kernel_rfl) (by kernel_rfl) (by kernel_rfl) (fun _ _ _ h => h) (Or.inr ⟨by kernel_rfl, rfl⟩) hS ?_
                refine wpAnyH_take (i := 15) (v := undef) rfl (by kernel_rfl) (by kernel_rfl) (by kernel_rfl) (fun _ _ _ h => h) (Or.inr ⟨by kernel_rfl, rfl⟩) hS ?_
                refine wpAnyH_take (i := 16) (v := undef) rfl (by kernel_rfl) (by kernel_rfl) (by kernel_rfl) (fun _ _ _ h => h) (Or.inr ⟨by kernel_rfl, rfl⟩) hS ?_
                refine wpAnyH_take (i := 17) (v := undef) rfl (by kernel_rfl) (by kernel_rfl) (by kernel_rfl) (fun _ _ _ h => h) (Or.inr ⟨by kernel_rfl, rfl⟩) hS ?_
                refine wpAnyH_take (i := 18) (v := undef) rfl (by kernel_rfl) (by kernel_rfl) (by kernel_rfl) (fun _ _ _ h => h) (Or.inr ⟨by kernel_rfl, rfl⟩) hS ?_
                refine wpAnyH_take (i := 19) (v := undef) rfl (by kernel_rfl) (by kernel_rfl) (by kernel_rfl) (fun _ _ _ h => h) (Or.inr ⟨by kernel_rfl, rfl⟩) hS ?_
                refine wpAnyH_take (i := 20) (v := undef) rfl (by kernel_rfl) (by kernel_rfl) (by kernel_rfl) (fun _ _ _ h => h) (Or.inr ⟨by kernel_rfl, rfl⟩) hS ?_
                refine wpAnyH_take (i := 21) (v := undef) rfl (by kernel_rfl) (by kernel_rfl) (by kernel_rfl) (fun _ _ _ h => h) (Or.inr ⟨by kernel_rfl, rfl⟩) hS ?_
                refine wpAnyH_take (i := 22) (v := .bool false) rfl (by kernel_rfl) (by kernel_rfl) (by kernel_rfl) (fun _ _ _ h => h) (Or.inl ⟨by kernel_rfl, fun w _ => by kernel_rfl⟩) hS ?_
                refine wpAnyH_take (i := 23) (v := .bool false) rfl (by kernel_rfl) (by kernel_rfl) (by kernel_rfl) (fun _ _ _ h => h) (Or.inl ⟨by kernel_rfl, fun w _ => by kernel_rfl⟩) hS ?_
                refine wpAnyH_take (i := 24) (v := undef) rfl (by kernel_rfl) (by kernel_rfl) (by kernel_rfl) (fun _ _ _ h => h) (Or.inr ⟨by kernel_rfl, rfl⟩) hS ?_
                refine wpAnyH_take (i := 25) (v := undef) rfl (by kernel_rfl) (by kernel_rfl) (by kernel_rfl) (fun _ _ _ h => h) (Or.inr ⟨by kernel_rfl, rfl⟩) hS ?_
                refine wpAnyH_take (i := 26) (v := undef) rfl (by kernel_rfl) (by kernel_rfl) (by kernel_rfl) (fun _ _ _ h => h) (Or.inr ⟨by kernel_rfl, rfl⟩) hS ?_
                refine wpAnyH_take (i := 27) (v := undef) rfl (by kernel_rfl) (by kernel_rfl) (by kernel_rfl) (fun _ _ _ h => h) (Or.inr ⟨by kernel_rfl, rfl⟩) hS ?_
                refine wpAnyH_take (i := 28) (v := undef) rfl (by kernel_rfl) (by kernel_rfl) (by kernel_rfl) (fun _ _ _ h => h) (Or.inr ⟨by kernel_rfl, rfl⟩) hS ?_
                refine wpAnyH_take (i := 29) (v := undef) rfl (by kernel_rfl) (by kernel_rfl) (by kernel_rfl) (fun _ _ _ h => h) (Or.inr ⟨by kernel_rfl, rfl⟩) hS ?_
                refine wpAnyH_take (i := 30) (v := undef) rfl (by kernel_rfl) (by kernel_rfl) (by kernel_rfl) (fun _ _ _ h => h) (Or.inr ⟨by kernel_rfl, rfl⟩) hS ?_
                refine wpAnyH_take (i := 31) (v := undef) rfl (by kernel_rfl) (by kernel_rfl) (by kernel_rfl) (fun _ _ _ h => h) (Or.inr ⟨by kernel_rfl, rfl⟩) hS ?_
                refine wpAnyH_take (i := 32) (v := undef) rfl (by kernel_rfl) (by kernel_rfl) (by kernel_rfl) (fun _ _ _ h => h) (Or.inr ⟨by kernel_rfl, rfl⟩) hS ?_
                refine wpAnyH_take (i := 33) (v := undef) rfl (by kernel_rfl) (by kernel_rfl) (by kernel_rfl) (fun _ _ _ h => h) (Or.inr ⟨by kernel_rfl, rfl⟩) hS ?_
                refine wpAnyH_ready (rs := [34]) (by kernel_rfl) (by simp) ?_
                refine AllReadyH.wrp rfl (by kernel_rfl) (fun K hK => ?_) (AllReadyH.nil)
                refine h_call ?_
                go_simp
                refine hK.out _ _ hS (fun hS => ?_)
                clear hK K
                refine wpAnyH_done (by kernel_rfl) ?_ _
                go_wp2_with fail
                go_meet
                exact ⟨by first | rfl | kernel_rfl | simp, hS⟩
              | true =>
                cases q2 : (decide (g.log.base.at_ ≤ (nodeAt g i).at_)) with
                | false =>
                  refine wp_region_held_drew (S := fun W => Keeps wr W) (by kernel_rfl) (Keeps.refl _).drew (fun hS => ?_)
                  obtain ⟨V0, hV0⟩ : ∃ z, z = wr.drew := ⟨_, rfl⟩
                  rw [← hV0] at hS ⊢
                  clear hV0
                  refine wpAnyH_take (i := 0) (v := .int .i64 i) rfl (by kernel_rfl) (by kernel_rfl) (by kernel_rfl) (fun _ _ _ h => h) (Or.inl ⟨by kernel_rfl, fun w _ => by kernel_rfl⟩) hS ?_
                  refine wpAnyH_take (i := 1) (v := .pointer (some ⟨bb, 8, none⟩)) rfl (by kernel_rfl) (by kernel_rfl) (by kernel_rfl) (fun _ _ _ h => h) (Or.inl ⟨by kernel_rfl, fun w _ => by kernel_rfl⟩) hS ?_
                  refine wpAnyH_take (i := 2) (v := .pointer (some ⟨bb, 8 + i * 7, none⟩)) rfl (by kernel_rfl) (by kernel_rfl) (by kernel_rfl) (fun _ _ _ h => h) (y_index (by kernel_rfl) rfl bb i hi (by kernel_rfl) (by kernel_rfl)) hS ?_
                  refine wpAnyH_take (i := 3) (v := .pointer (some ⟨bb, 8 + i * 7, none⟩)) rfl (by kernel_rfl) (by kernel_rfl) (by kernel_rfl) (fun _ _ _ h => h) (Or.inl ⟨by kernel_rfl, fun w _ => by kernel_rfl⟩) hS ?_
                  refine wpAnyH_take (i := 4) (v := .int .i64 (nodeAt g i).at_) rfl (by kernel_rfl) (by kernel_rfl) (by kernel_rfl) (fun _ _ _ h => h) (y_int (by kernel_rfl) rfl bb (8 + i * 7) (by kernel_rfl) (GL_at g A i hi) (fun W h => HB1.out.keep h (by rw [GL_len]; decide))) hS ?_
                  refine wpAnyH_take (i := 5) (v := .int .i64 j) rfl (by kernel_rfl) (by kernel_rfl) (by kernel_rfl) (fun _ _ _ h => h) (Or.inl ⟨by kernel_rfl, fun w _ => by kernel_rfl⟩) hS ?_
                  refine wpAnyH_take (i := 6) (v := .pointer (some ⟨bb, 8, none⟩)) rfl (by kernel_rfl) (by kernel_rfl) (by kernel_rfl) (fun _ _ _ h => h) (Or.inl ⟨by kernel_rfl, fun w _ => by kernel_rfl⟩) hS ?_
                  refine wpAnyH_take (i := 7) (v := .pointer (some ⟨bb, 8 + j * 7, none⟩)) rfl (by kernel_rfl) (by kernel_rfl) (by kernel_rfl) (fun _ _ _ h => h) (y_index (by kernel_rfl) rfl bb j hj (by kernel_rfl) (by kernel_rfl)) hS ?_
                  refine wpAnyH_take (i := 8) (v := .pointer (some ⟨bb, 8 + j * 7, none⟩)) rfl (by kernel_rfl) (by kernel_rfl) (by kernel_rfl) (fun _ _ _ h => h) (Or.inl ⟨by kernel_rfl, fun w _ => by kernel_rfl⟩) hS ?_
                  refine wpAnyH_take (i := 9) (v := .int .i64 (nodeAt g j).at_) rfl (by kernel_rfl) (by kernel_rfl) (by kernel_rfl) (fun _ _ _ h => h) (y_int (by kernel_rfl) rfl bb (8 + j * 7) (by kernel_rfl) (GL_at g A j hj) (fun W h => HB1.out.keep h (by rw [GL_len]; decide))) hS ?_
                  refine wpAnyH_take (i := 10) (v := .bool true) rfl (by kernel_rfl) (by kernel_rfl) (by kernel_rfl) (fun _ _ _ h => h) (Or.inl ⟨by kernel_rfl, fun w _ => Eq.trans (b := .ok (.value (.bool ((nodeAt g i).at_ == (nodeAt g j).at_))) w) (by kernel_rfl) (by rw [q1])⟩) hS ?_
                  refine wpAnyH_take (i := 11) (v := .bool true) rfl (by kernel_rfl) (by kernel_rfl) (by kernel_rfl) (fun _ _ _ h => h) (Or.inl ⟨by kernel_rfl, fun w _ => by kernel_rfl⟩) hS ?_
                  refine wpAnyH_take (i := 12) (v := .int .i64 i) rfl (by kernel_rfl) (by kernel_rfl) (by kernel_rfl) (fun _ _ _ h => h) (Or.inl ⟨by kernel_rfl, fun w _ => by kernel_rfl⟩) hS ?_
                  refine wpAnyH_take (i := 13) (v := .pointer (some ⟨bb, 8, none⟩)) rfl (by kernel_rfl) (by kernel_rfl) (by kernel_rfl) (fun _ _ _ h => h) (Or.inl ⟨by kernel_rfl, fun w _ => by kernel_rfl⟩) hS ?_
                  refine wpAnyH_take (i := 14) (v := .pointer (some ⟨bb, 8 + i * 7, none⟩)) rfl (by kernel_rfl) (by kernel_rfl) (by kernel_rfl) (fun _ _ _ h => h) (y_index (by kernel_rfl) rfl bb i hi (by kernel_rfl) (by kernel_rfl)) hS ?_
                  refine wpAnyH_take (i := 15) (v := .pointer (some ⟨bb, 8 + i * 7, none⟩)) rfl (by kernel_rfl) (by kernel_rfl) (by kernel_rfl) (fun _ _ _ h => h) (Or.inl ⟨by kernel_rfl, fun w _ => by kernel_rfl⟩) hS ?_
                  refine wpAnyH_take (i := 16) (v := .int .i64 (nodeAt g i).at_) rfl (by kernel_rfl) (by kernel_rfl) (by kernel_rfl) (fun _ _ _ h => h) (y_int (by kernel_rfl) rfl bb (8 + i * 7) (by kernel_rfl) (GL_at g A i hi) (fun W h => HB1.out.keep h (by rw [GL_len]; decide))) hS ?_
                  refine wpAnyH_take (i := 17) (v := .pointer (some ⟨bb, 0, none⟩)) rfl (by kernel_rfl) (by kernel_rfl) (by kernel_rfl) (fun _ _ _ h => h) (Or.inl ⟨by kernel_rfl, fun w _ => by kernel_rfl⟩) hS ?_
                  refine wpAnyH_take (i := 18) (v := .pointer (some ⟨bb, 0, none⟩)) rfl (by kernel_rfl) (by kernel_rfl) (by kernel_rfl) (fun _ _ _ h => h) (Or.inl ⟨by kernel_rfl, fun w _ => by kernel_rfl⟩) hS ?_
                  refine wpAnyH_take (i := 19) (v := .pointer (some ⟨bb, 0, none⟩)) rfl (by kernel_rfl) (by kernel_rfl) (by kernel_rfl) (fun _ _ _ h => h) (Or.inl ⟨by kernel_rfl, fun w _ => by kernel_rfl⟩) hS ?_
                  refine wpAnyH_take (i := 20) (v := .int .i64 g.log.base.at_) rfl (by kernel_rfl) (by kernel_rfl) (by kernel_rfl) (fun _ _ _ h => h) (y_int (by kernel_rfl) rfl bb 0 (by kernel_rfl) rfl (fun W h => HB1.out.keep h (by rw [GL_len]; decide))) hS ?_
                  refine wpAnyH_take (i := 21) (v := .bool false) rfl (by kernel_rfl) (by kernel_rfl) (by kernel_rfl) (fun _ _ _ h => h) (Or.inl ⟨by kernel_rfl, fun w _ => Eq.trans (b := .ok (.value (.bool (decide (g.log.base.at_ ≤ (nodeAt g i).at_)))) w) (by kernel_rfl) (by rw [q2])⟩) hS ?_
                  refine wpAnyH_take (i := 22) (v := .bool false) rfl (by kernel_rfl) (by kernel_rfl) (by kernel_rfl) (fun _ _ _ h => h) (Or.inl ⟨by kernel_rfl, fun w _ => by kernel_rfl⟩) hS ?_
                  refine wpAnyH_take (i := 23) (v := .bool false) rfl (by kernel_rfl) (by kernel_rfl) (by kernel_rfl) (fun _ _ _ h => h) (Or.inl ⟨by kernel_rfl, fun w _ => by kernel_rfl⟩) hS ?_
                  refine wpAnyH_take (i := 24) (v := undef) rfl (by kernel_rfl) (by kernel_rfl) (by kernel_rfl) (fun _ _ _ h => h) (Or.inr ⟨by kernel_rfl, rfl⟩) hS ?_
                  refine wpAnyH_take (i := 25) (v := undef) rfl (by kernel_rfl) (by kernel_rfl) (by kernel_rfl) (fun _ _ _ h => h) (Or.inr ⟨by kernel_rfl, rfl⟩) hS ?_
                  refine wpAnyH_take (i := 26) (v := undef) rfl (by kernel_rfl) (by kernel_rfl) (by kernel_rfl) (fun _ _ _ h => h) (Or.inr ⟨by kernel_rfl, rfl⟩) hS ?_
                  refine wpAnyH_take (i := 27) (v := undef) rfl (by kernel_rfl) (by kernel_rfl) (by kernel_rfl) (fun _ _ _ h => h) (Or.inr ⟨by kernel_rfl, rfl⟩) hS ?_
                  refine wpAnyH_take (i := 28) (v := undef) rfl (by kernel_rfl) (by kernel_rfl) (by kernel_rfl) (fun _ _ _ h => h) (Or.inr ⟨by kernel_rfl, rfl⟩) hS ?_
                  refine wpAnyH_take (i := 29) (v := undef) rfl (by kernel_rfl) (by kernel_rfl) (by kernel_rfl) (fun _ _ _ h => h) (Or.inr ⟨by kernel_rfl, rfl⟩) hS ?_
                  refine wpAnyH_take (i := 30) (v := undef) rfl (by kernel_rfl) (by kernel_rfl) (by kernel_rfl) (fun _ _ _ h => h) (Or.inr ⟨by kernel_rfl, rfl⟩) hS ?_
                  refine wpAnyH_take (i := 31) (v := undef) rfl (by kernel_rfl) (by kernel_rfl) (by kernel_rfl) (fun _ _ _ h => h) (Or.inr ⟨by kernel_rfl, rfl⟩) hS ?_
                  refine wpAnyH_take (i := 32) (v := undef) rfl (by kernel_rfl) (by kernel_rfl) (by kernel_rfl) (fun _ _ _ h => h) (Or.inr ⟨by kernel_rfl, rfl⟩) hS ?_
                  refine wpAnyH_take (i := 33) (v := undef) rfl (by kernel_rfl) (by kernel_rfl) (by kernel_rfl) (fun _ _ _ h => h) (Or.inr ⟨by kernel_rfl, rfl⟩) hS ?_
                  refine wpAnyH_ready (rs := [34]) (by kernel_rfl) (by simp) ?_
                  refine AllReadyH.wrp rfl (by kernel_rfl) (fun K hK => ?_) (AllReadyH.nil)
                  refine h_call ?_
                  go_simp
                  refine hK.out _ _ hS (fun hS => ?_)
                  clear hK K
                  refine wpAnyH_done (by kernel_rfl) ?_ _
                  go_wp2_with fail
                  go_meet
                  exact ⟨by first | rfl | kernel_rfl | simp, hS⟩
                | true =>
                  have HSM2 := HSM.out q1 q2
                  have HSM : Hid (∀ W, Keeps wr W → Calls Try.prog 9 #[nodeV g A i, nodeV g A j] W fun e w' => e = .returned (.bool true) ∧ Keeps W w') := HSM2
                  clear HSM2
                  refine wp_region_held_drew (S := fun W => Keeps wr W) (by kernel_rfl) (Keeps.refl _).drew (fun hS => ?_)
                  obtain ⟨V0, hV0⟩ : ∃ z, z = wr.drew := ⟨_, rfl⟩
                  rw [← hV0] at hS ⊢
                  clear hV0
                  refine wpAnyH_take (i := 0) (v := .int .i64 i) rfl (by kernel_rfl) (by kernel_rfl) (by kernel_rfl) (fun _ _ _ h => h) (Or.inl ⟨by kernel_rfl, fun w _ => by kernel_rfl⟩) hS ?_
                  refine wpAnyH_take (i := 1) (v := .pointer (some ⟨bb, 8, none⟩)) rfl (by kernel_rfl) (by kernel_rfl) (by kernel_rfl) (fun _ _ _ h => h) (Or.inl ⟨by kernel_rfl, fun w _ => by kernel_rfl⟩) hS ?_
                  refine wpAnyH_take (i := 2) (v := .pointer (some ⟨bb, 8 + i * 7, none⟩)) rfl (by kernel_rfl) (by kernel_rfl) (by kernel_rfl) (fun _ _ _ h => h) (y_index (by kernel_rfl) rfl bb i hi (by kernel_rfl) (by kernel_rfl)) hS ?_
                  refine wpAnyH_take (i := 3) (v := .pointer (some ⟨bb, 8 + i * 7, none⟩)) rfl (by kernel_rfl) (by kernel_rfl) (by kernel_rfl) (fun _ _ _ h => h) (Or.inl ⟨by kernel_rfl, fun w _ => by kernel_rfl⟩) hS ?_
                  refine wpAnyH_take (i := 4) (v := .int .i64 (nodeAt g i).at_) rfl (by kernel_rfl) (by kernel_rfl) (by kernel_rfl) (fun _ _ _ h => h) (y_int (by kernel_rfl) rfl bb (8 + i * 7) (by kernel_rfl) (GL_at g A i hi) (fun W h => HB1.out.keep h (by rw [GL_len]; decide))) hS ?_
                  refine wpAnyH_take (i := 5) (v := .int .i64 j) rfl (by kernel_rfl) (by kernel_rfl) (by kernel_rfl) (fun _ _ _ h => h) (Or.inl ⟨by kernel_rfl, fun w _ => by kernel_rfl⟩) hS ?_
                  refine wpAnyH_take (i := 6) (v := .pointer (some ⟨bb, 8, none⟩)) rfl (by kernel_rfl) (by kernel_rfl) (by kernel_rfl) (fun _ _ _ h => h) (Or.inl ⟨by kernel_rfl, fun w _ => by kernel_rfl⟩) hS ?_
                  refine wpAnyH_take (i := 7) (v := .pointer (some ⟨bb, 8 + j * 7, none⟩)) rfl (by kernel_rfl) (by kernel_rfl) (by kernel_rfl) (fun _ _ _ h => h) (y_index (by kernel_rfl) rfl bb j hj (by kernel_rfl) (by kernel_rfl)) hS ?_
                  refine wpAnyH_take (i := 8) (v := .pointer (some ⟨bb, 8 + j * 7, none⟩)) rfl (by kernel_rfl) (by kernel_rfl) (by kernel_rfl) (fun _ _ _ h => h) (Or.inl ⟨by kernel_rfl, fun w _ => by kernel_rfl⟩) hS ?_
                  refine wpAnyH_take (i := 9) (v := .int .i64 (nodeAt g j).at_) rfl (by kernel_rfl) (by kernel_rfl) (by kernel_rfl) (fun _ _ _ h => h) (y_int (by kernel_rfl) rfl bb (8 + j * 7) (by kernel_rfl) (GL_at g A j hj) (fun W h => HB1.out.keep h (by rw [GL_len]; decide))) hS ?_
                  refine wpAnyH_take (i := 10) (v := .bool true) rfl (by kernel_rfl) (by kernel_rfl) (by kernel_rfl) (fun _ _ _ h => h) (Or.inl ⟨by kernel_rfl, fun w _ => Eq.trans (b := .ok (.value (.bool ((nodeAt g i).at_ == (nodeAt g j).at_))) w) (by kernel_rfl) (by rw [q1])⟩) hS ?_
                  refine wpAnyH_take (i := 11) (v := .bool true) rfl (by kernel_rfl) (by kernel_rfl) (by kernel_rfl) (fun _ _ _ h => h) (Or.inl ⟨by kernel_rfl, fun w _ => by kernel_rfl⟩) hS ?_
                  refine wpAnyH_take (i := 12) (v := .int .i64 i) rfl (by kernel_rfl) (by kernel_rfl) (by kernel_rfl) (fun _ _ _ h => h) (Or.inl ⟨by kernel_rfl, fun w _ => by kernel_rfl⟩) hS ?_
                  refine wpAnyH_take (i := 13) (v := .pointer (some ⟨bb, 8, none⟩)) rfl (by kernel_rfl) (by kernel_rfl) (by kernel_rfl) (fun _ _ _ h => h) (Or.inl ⟨by kernel_rfl, fun w _ => by kernel_rfl⟩) hS ?_
                  refine wpAnyH_take (i := 14) (v := .pointer (some ⟨bb, 8 + i * 7, none⟩)) rfl (by kernel_rfl) (by kernel_rfl) (by kernel_rfl) (fun _ _ _ h => h) (y_index (by kernel_rfl) rfl bb i hi (by kernel_rfl) (by kernel_rfl)) hS ?_
                  refine wpAnyH_take (i := 15) (v := .pointer (some ⟨bb, 8 + i * 7, none⟩)) rfl (by kernel_rfl) (by kernel_rfl) (by kernel_rfl) (fun _ _ _ h => h) (Or.inl ⟨by kernel_rfl, fun w _ => by kernel_rfl⟩) hS ?_
                  refine wpAnyH_take (i := 16) (v := .int .i64 (nodeAt g i).at_) rfl (by kernel_rfl) (by kernel_rfl) (by kernel_rfl) (fun _ _ _ h => h) (y_int (by kernel_rfl) rfl bb (8 + i * 7) (by kernel_rfl) (GL_at g A i hi) (fun W h => HB1.out.keep h (by rw [GL_len]; decide))) hS ?_
                  refine wpAnyH_take (i := 17) (v := .pointer (some ⟨bb, 0, none⟩)) rfl (by kernel_rfl) (by kernel_rfl) (by kernel_rfl) (fun _ _ _ h => h) (Or.inl ⟨by kernel_rfl, fun w _ => by kernel_rfl⟩) hS ?_
                  refine wpAnyH_take (i := 18) (v := .pointer (some ⟨bb, 0, none⟩)) rfl (by kernel_rfl) (by kernel_rfl) (by kernel_rfl) (fun _ _ _ h => h) (Or.inl ⟨by kernel_rfl, fun w _ => by kernel_rfl⟩) hS ?_
                  refine wpAnyH_take (i := 19) (v := .pointer (some ⟨bb, 0, none⟩)) rfl (by kernel_rfl) (by kernel_rfl) (by kernel_rfl) (fun _ _ _ h => h) (Or.inl ⟨by kernel_rfl, fun w _ => by kernel_rfl⟩) hS ?_
                  refine wpAnyH_take (i := 20) (v := .int .i64 g.log.base.at_) rfl (by kernel_rfl) (by kernel_rfl) (by kernel_rfl) (fun _ _ _ h => h) (y_int (by kernel_rfl) rfl bb 0 (by kernel_rfl) rfl (fun W h => HB1.out.keep h (by rw [GL_len]; decide))) hS ?_
                  refine wpAnyH_take (i := 21) (v := .bool true) rfl (by kernel_rfl) (by kernel_rfl) (by kernel_rfl) (fun _ _ _ h => h) (Or.inl ⟨by kernel_rfl, fun w _ => Eq.trans (b := .ok (.value (.bool (decide (g.log.base.at_ ≤ (nodeAt g i).at_)))) w) (by kernel_rfl) (by rw [q2])⟩) hS ?_
                  refine wpAnyH_take (i := 22) (v := .bool true) rfl (by kernel_rfl) (by kernel_rfl) (by kernel_rfl) (fun _ _ _ h => h) (Or.inl ⟨by kernel_rfl, fun w _ => by kernel_rfl⟩) hS ?_
                  refine wpAnyH_take (i := 23) (v := .bool true) rfl (by kernel_rfl) (by kernel_rfl) (by kernel_rfl) (fun _ _ _ h => h) (Or.inl ⟨by kernel_rfl, fun w _ => by kernel_rfl⟩) hS ?_
                  refine wpAnyH_take (i := 24) (v := .int .i64 i) rfl (by kernel_rfl) (by kernel_rfl) (by kernel_rfl) (fun _ _ _ h => h) (Or.inl ⟨by kernel_rfl, fun w _ => by kernel_rfl⟩) hS ?_
                  refine wpAnyH_take (i := 25) (v := .pointer (some ⟨bb, 8, none⟩)) rfl (by kernel_rfl) (by kernel_rfl) (by kernel_rfl) (fun _ _ _ h => h) (Or.inl ⟨by kernel_rfl, fun w _ => by kernel_rfl⟩) hS ?_
                  refine wpAnyH_take (i := 26) (v := .pointer (some ⟨bb, 8 + i * 7, none⟩)) rfl (by kernel_rfl) (by kernel_rfl) (by kernel_rfl) (fun _ _ _ h => h) (y_index (by kernel_rfl) rfl bb i hi (by kernel_rfl) (by kernel_rfl)) hS ?_
                  refine wpAnyH_take (i := 27) (v := nodeV g A i) rfl (by kernel_rfl) (by kernel_rfl) (by kernel_rfl) (fun _ _ _ h => h) (y_load25 (by kernel_rfl) rfl bb i hi (8 + i * 7) rfl (by kernel_rfl) (fun W h => HB1.out.keep h (by rw [GL_len]; decide))) hS ?_
                  refine wpAnyH_take (i := 28) (v := .int .i64 j) rfl (by kernel_rfl) (by kernel_rfl) (by kernel_rfl) (fun _ _ _ h => h) (Or.inl ⟨by kernel_rfl, fun w _ => by kernel_rfl⟩) hS ?_
                  refine wpAnyH_take (i := 29) (v := .pointer (some ⟨bb, 8, none⟩)) rfl (by kernel_rfl) (by kernel_rfl) (by kernel_rfl) (fun _ _ _ h => h) (Or.inl ⟨by kernel_rfl, fun w _ => by kernel_rfl⟩) hS ?_
                  refine wpAnyH_take (i := 30) (v := .pointer (some ⟨bb, 8 + j * 7, none⟩)) rfl (by kernel_rfl) (by kernel_rfl) (by kernel_rfl) (fun _ _ _ h => h) (y_index (by kernel_rfl) rfl bb j hj (by kernel_rfl) (by kernel_rfl)) hS ?_
                  refine wpAnyH_take (i := 31) (v := nodeV g A j) rfl (by kernel_rfl) (by kernel_rfl) (by kernel_rfl) (fun _ _ _ h => h) (y_load25 (by kernel_rfl) rfl bb j hj (8 + j * 7) rfl (by kernel_rfl) (fun W h => HB1.out.keep h (by rw [GL_len]; decide))) hS ?_
                  refine wpAnyH_ready (rs := [32]) (by kernel_rfl) (by simp) ?_
                  refine AllReadyH.wrp rfl (by kernel_rfl) (fun K hK => ?_) (AllReadyH.nil)
                  refine h_call ?_
                  go_simp
                  refine (HSM.out _ hS).mono ?_
                  rintro y x1 ⟨rfl, hb⟩
                  go_simp
                  refine hK.out _ _ (hS.trans hb) (fun hS => ?_)
                  clear hK K
                  clear hb
                  refine wpAnyH_take (i := 33) (v := .bool false) rfl (by kernel_rfl) (by kernel_rfl) (by kernel_rfl) (fun _ _ _ h => h) (Or.inl ⟨by kernel_rfl, fun w _ => by kernel_rfl⟩) hS ?_
                  refine wpAnyH_ready (rs := [34]) (by kernel_rfl) (by simp) ?_
                  refine AllReadyH.wrp rfl (by kernel_rfl) (fun K hK => ?_) (AllReadyH.nil)
                  refine h_call ?_
                  go_simp
                  refine hK.out _ _ hS (fun hS => ?_)
                  clear hK K
                  refine wpAnyH_done (by kernel_rfl) ?_ _
                  go_wp2_with fail
                  go_meet
                  exact ⟨by first | rfl | kernel_rfl | simp, hS⟩
            case rest =>
              obtain ⟨rfl, hkc⟩ := hcut
              have HR3 : Hid (Keeps w3 wc) := HR2.out.trans hkc
              clear hkc HSM HB1 HR2
              go_wp2_with fail
              go_roundw
              case rel => exact ⟨j + 1, by omega, by go_num, HR3⟩
              case measure => simp [intOf]; omega
          · go_wp2_with fail
            go_roundw
            case rel => exact ⟨i + 1, by omega, by go_num, HR2⟩
            case measure => simp [intOf]; omega
      · have hKr : Keeps w wr := HK3.out.trans HR1.out
        have HBr : Hid (CBox bb (GL g A) wr) := HB3.out.keep HR1.out (by rw [GL_len]; decide)
        have HEr : Hid (CBox eb (EC e) wr) := HE3.out.keep HR1.out (Nat.le_of_ble_eq_true rfl)
        clear HR1 HB3 HE3 HK3 HSS
        go_wp2_with (first | (refine load31 rfl rfl bb rfl HBr.out ?_) | (refine load35 rfl rfl eb rfl (e := e) HEr.out ?_))
        refine (HCP.out wr hKr).mono ?_
        rintro y w4 ⟨B1, ho, rfl, hb⟩
        have HK4 : Hid (Keeps w w4) := hKr.trans hb
        have HB4 : Hid (CBox bb (GL g A) w4) := HBr.out.keep hb (by rw [GL_len]; decide)
        have HO4 : Hid (GrAt w4 GP B1) := ho.at
        clear ho hb HBr HEr HCP hKr
        go_wp2_with (first | (refine alloc31 rfl rfl ?_; intro w4x xb hBxb hkxb hlxb hgxb) | (refine store31 rfl rfl xb rfl rfl hBxb ?_; intro w5 hSw5 hTw5))
        have k45 : Keeps w4 w5 := But.to hkxb hgxb hTw5
        have HK5 : Hid (Keeps w w5) := HK4.out.trans k45
        have HB5 : Hid (CBox bb (GL g A) w5) := HB4.out.keep k45 (by rw [GL_len]; decide)
        have HX5 : Hid (CBox xb (GL GP B1) w5) := hSw5
        have HO5 : Hid (GrAt w5 GP B1) := HO4.out.keep k45
        clear k45 HK4 HB4 HO4 hBxb hkxb hlxb hgxb hSw5 hTw5
        go_cut [14, 15, 16] (fun p q r wc => ∃ yb B, p = .pointer (some ⟨yb, 0, none⟩) ∧ q = .int .i64 nu ∧ r = .int .i64 0 ∧ CBox yb (GL GR B) wc ∧ GrAt wc GR B ∧ Keeps w5 wc)
        case first =>
          refine wp_region_held_drew (S := fun W => Keeps w5 W) (by kernel_rfl) (Keeps.refl _).drew (fun hS => ?_)
          obtain ⟨V0, hV0⟩ : ∃ z, z = w5.drew := ⟨_, rfl⟩
          rw [← hV0] at hS ⊢
          clear hV0
          refine wpAnyH_take (i := 0) (v := .agg (GL g A).toArray) rfl (by kernel_rfl) (by kernel_rfl) (by kernel_rfl) (fun _ _ _ h => h) (y_load31 (by kernel_rfl) rfl bb (by kernel_rfl) (fun W h => HB5.out.keep h (by rw [GL_len]; decide))) hS ?_
          refine wpAnyH_take (i := 1) (v := .int .i64 k) rfl (by kernel_rfl) (by kernel_rfl) (by kernel_rfl) (fun _ _ _ h => h) (Or.inl ⟨by kernel_rfl, fun w _ => by kernel_rfl⟩) hS ?_
          refine wpAnyH_take (i := 3) (v := .int .i64 n) rfl (by kernel_rfl) (by kernel_rfl) (by kernel_rfl) (fun _ _ _ h => h) (Or.inl ⟨by kernel_rfl, fun w _ => by kernel_rfl⟩) hS ?_
          refine wpAnyH_ready (rs := [2, 10]) (by kernel_rfl) (by simp) ?_
          refine AllReadyH.wrp rfl (by kernel_rfl) (fun K hK => ?_) (AllReadyH.wrp rfl (by kernel_rfl) (fun K hK => ?_) (AllReadyH.nil))
          · refine h_call ?_
            go_simp
            refine (HCK.out _).mono ?_
            rintro y _ ⟨rfl, rfl⟩
            go_simp
            refine hK.out _ _ hS (fun hS => ?_)
            clear hK K
            refine wpAnyH_ready (rs := [4, 10]) (by kernel_rfl) (by simp) ?_
            refine AllReadyH.wrp rfl (by kernel_rfl) (fun K hK => ?_) (AllReadyH.wrp rfl (by kernel_rfl) (fun K hK => ?_) (AllReadyH.nil))
            · refine h_call ?_
              go_simp
              refine (HCN.out _).mono ?_
              rintro y _ ⟨rfl, rfl⟩
              go_simp
              refine hK.out _ _ hS (fun hS => ?_)
              clear hK K
              refine wpAnyH_ready (rs := [5, 10]) (by kernel_rfl) (by simp) ?_
              refine AllReadyH.wrp rfl (by kernel_rfl) (fun K hK => ?_) (AllReadyH.wrp rfl (by kernel_rfl) (fun K hK => ?_) (AllReadyH.nil))
              · have hS1 := hS
                refine h_call ?_
                go_simp
                refine (HCR.out _ (HK5.out.trans hS)).mono ?_
                rintro y w2 ⟨B, ho, rfl, hb⟩
                go_simp
                refine hK.out _ _ (hS.trans hb) (fun hS => ?_)
                clear hK K
                refine wpAnyH_take (i := 6) (v := (.tuple #[.agg (GL (GR) B).toArray, .int .i64 nu, .int .i64 0])) rfl (by kernel_rfl) (by kernel_rfl) (by kernel_rfl) (fun _ _ _ h => h) (Or.inl ⟨by kernel_rfl, fun w _ => by kernel_rfl⟩) hS ?_
                refine wpAnyH_take (i := 7) (v := .agg (GL (GR) B).toArray) rfl (by kernel_rfl) (by kernel_rfl) (by kernel_rfl) (fun _ _ _ h => h) (Or.inl ⟨by kernel_rfl, fun w _ => by kernel_rfl⟩) hS ?_
                refine wpAnyH_take (i := 8) (v := .int .i64 nu) rfl (by kernel_rfl) (by kernel_rfl) (by kernel_rfl) (fun _ _ _ h => h) (Or.inl ⟨by kernel_rfl, fun w _ => by kernel_rfl⟩) hS ?_
                refine wpAnyH_take (i := 9) (v := .int .i64 0) rfl (by kernel_rfl) (by kernel_rfl) (by kernel_rfl) (fun _ _ _ h => h) (Or.inl ⟨by kernel_rfl, fun w _ => by kernel_rfl⟩) hS ?_
                refine wpAnyH_ready (rs := [10]) (by kernel_rfl) (by simp) ?_
                refine AllReadyH.wrp rfl (by kernel_rfl) (fun K hK => ?_) (AllReadyH.nil)
                have hS0 := hS
                refine h_alloc31 rfl ?_
                intro w3 zb hBz hkz hlz hgz
                have hzg := Nat.le_trans hS.size hgz
                refine hK.out _ _ (hS.trans hkz) (fun hS => ?_)
                clear hK K
                refine wpAnyH_ready (rs := [11]) (by kernel_rfl) (by simp) ?_
                refine AllReadyH.wrp rfl (by kernel_rfl) (fun K hK => ?_) (AllReadyH.nil)
                refine h_store31 rfl zb (by kernel_rfl) (g' := GR) (A' := B) (by kernel_rfl) hBz ?_
                intro w4 hS4 hT4
                refine hK.out _ _ (But.to hS hzg hT4) (fun hS => ?_)
                clear hK K
                refine wpAnyH_take (i := 12) (v := .int .i64 nu) rfl (by kernel_rfl) (by kernel_rfl) (by kernel_rfl) (fun _ _ _ h => h) (Or.inl ⟨by kernel_rfl, fun w _ => by kernel_rfl⟩) hS ?_
                refine wpAnyH_take (i := 13) (v := .int .i64 0) rfl (by kernel_rfl) (by kernel_rfl) (by kernel_rfl) (fun _ _ _ h => h) (Or.inl ⟨by kernel_rfl, fun w _ => by kernel_rfl⟩) hS ?_
                refine wpAnyH_done (by kernel_rfl) ?_ _
                go_wp2_with fail
                go_meet
                exact ⟨zb, B, rfl, rfl, rfl, hS4, (ho.at.keep (But.to hkz hgz hT4)), hS⟩
              · have hS0 := hS
                refine h_alloc31 rfl ?_
                intro w3 zb hBz hkz hlz hgz
                have hzg := Nat.le_trans hS.size hgz
                refine hK.out _ _ (hS.trans hkz) (fun hS => ?_)
                clear hK K
                refine wpAnyH_ready (rs := [5]) (by kernel_rfl) (by simp) ?_
                refine AllReadyH.wrp rfl (by kernel_rfl) (fun K hK => ?_) (AllReadyH.nil)
                have hS1 := hS
                refine h_call ?_
                go_simp
                refine (HCR.out _ (HK5.out.trans hS)).mono ?_
                rintro y w2 ⟨B, ho, rfl, hb⟩
                go_simp
                refine hK.out _ _ (hS.trans hb) (fun hS => ?_)
                clear hK K
                refine wpAnyH_take (i := 6) (v := (.tuple #[.agg (GL (GR) B).toArray, .int .i64 nu, .int .i64 0])) rfl (by kernel_rfl) (by kernel_rfl) (by kernel_rfl) (fun _ _ _ h => h) (Or.inl ⟨by kernel_rfl, fun w _ => by kernel_rfl⟩) hS ?_
                refine wpAnyH_take (i := 7) (v := .agg (GL (GR) B).toArray) rfl (by kernel_rfl) (by kernel_rfl) (by kernel_rfl) (fun _ _ _ h => h) (Or.inl ⟨by kernel_rfl, fun w _ => by kernel_rfl⟩) hS ?_
                refine wpAnyH_take (i := 8) (v := .int .i64 nu) rfl (by kernel_rfl) (by kernel_rfl) (by kernel_rfl) (fun _ _ _ h => h) (Or.inl ⟨by kernel_rfl, fun w _ => by kernel_rfl⟩) hS ?_
                refine wpAnyH_take (i := 9) (v := .int .i64 0) rfl (by kernel_rfl) (by kernel_rfl) (by kernel_rfl) (fun _ _ _ h => h) (Or.inl ⟨by kernel_rfl, fun w _ => by kernel_rfl⟩) hS ?_
                refine wpAnyH_ready (rs := [11]) (by kernel_rfl) (by simp) ?_
                refine AllReadyH.wrp rfl (by kernel_rfl) (fun K hK => ?_) (AllReadyH.nil)
                refine h_store31 rfl zb (by kernel_rfl) (g' := GR) (A' := B) (by kernel_rfl) (hBz.keep hb (by rw [GL_len]; decide)) ?_
                intro w4 hS4 hT4
                refine hK.out _ _ (But.to hS hzg hT4) (fun hS => ?_)
                clear hK K
                refine wpAnyH_take (i := 12) (v := .int .i64 nu) rfl (by kernel_rfl) (by kernel_rfl) (by kernel_rfl) (fun _ _ _ h => h) (Or.inl ⟨by kernel_rfl, fun w _ => by kernel_rfl⟩) hS ?_
                refine wpAnyH_take (i := 13) (v := .int .i64 0) rfl (by kernel_rfl) (by kernel_rfl) (by kernel_rfl) (fun _ _ _ h => h) (Or.inl ⟨by kernel_rfl, fun w _ => by kernel_rfl⟩) hS ?_
                refine wpAnyH_done (by kernel_rfl) ?_ _
                go_wp2_with fail
                go_meet
                exact ⟨zb, B, rfl, rfl, rfl, hS4, (ho.but (Nat.lt_of_lt_of_le hlz (Nat.le_refl _)) hT4).at, hS⟩
            · have hS0 := hS
              refine h_alloc31 rfl ?_
              intro w3 zb hBz hkz hlz hgz
              have hzg := Nat.le_trans hS.size hgz
              refine hK.out _ _ (hS.trans hkz) (fun hS => ?_)
              clear hK K
              refine wpAnyH_ready (rs := [4]) (by kernel_rfl) (by simp) ?_
              refine AllReadyH.wrp rfl (by kernel_rfl) (fun K hK => ?_) (AllReadyH.nil)
              refine h_call ?_
              go_simp
              refine (HCN.out _).mono ?_
              rintro y _ ⟨rfl, rfl⟩
              go_simp
              refine hK.out _ _ hS (fun hS => ?_)
              clear hK K
              refine wpAnyH_ready (rs := [5]) (by kernel_rfl) (by simp) ?_
              refine AllReadyH.wrp rfl (by kernel_rfl) (fun K hK => ?_) (AllReadyH.nil)
              have hS1 := hS
              refine h_call ?_
              go_simp
              refine (HCR.out _ (HK5.out.trans hS)).mono ?_
              rintro y w2 ⟨B, ho, rfl, hb⟩
              go_simp
              refine hK.out _ _ (hS.trans hb) (fun hS => ?_)
              clear hK K
              refine wpAnyH_take (i := 6) (v := (.tuple #[.agg (GL (GR) B).toArray, .int .i64 nu, .int .i64 0])) rfl (by kernel_rfl) (by kernel_rfl) (by kernel_rfl) (fun _ _ _ h => h) (Or.inl ⟨by kernel_rfl, fun w _ => by kernel_rfl⟩) hS ?_
              refine wpAnyH_take (i := 7) (v := .agg (GL (GR) B).toArray) rfl (by kernel_rfl) (by kernel_rfl) (by kernel_rfl) (fun _ _ _ h => h) (Or.inl ⟨by kernel_rfl, fun w _ => by kernel_rfl⟩) hS ?_
              refine wpAnyH_take (i := 8) (v := .int .i64 nu) rfl (by kernel_rfl) (by kernel_rfl) (by kernel_rfl) (fun _ _ _ h => h) (Or.inl ⟨by kernel_rfl, fun w _ => by kernel_rfl⟩) hS ?_
              refine wpAnyH_take (i := 9) (v := .int .i64 0) rfl (by kernel_rfl) (by kernel_rfl) (by kernel_rfl) (fun _ _ _ h => h) (Or.inl ⟨by kernel_rfl, fun w _ => by kernel_rfl⟩) hS ?_
              refine wpAnyH_ready (rs := [11]) (by kernel_rfl) (by simp) ?_
              refine AllReadyH.wrp rfl (by kernel_rfl) (fun K hK => ?_) (AllReadyH.nil)
              refine h_store31 rfl zb (by kernel_rfl) (g' := GR) (A' := B) (by kernel_rfl) (hBz.keep hb (by rw [GL_len]; decide)) ?_
              intro w4 hS4 hT4
              refine hK.out _ _ (But.to hS hzg hT4) (fun hS => ?_)
              clear hK K
              refine wpAnyH_take (i := 12) (v := .int .i64 nu) rfl (by kernel_rfl) (by kernel_rfl) (by kernel_rfl) (fun _ _ _ h => h) (Or.inl ⟨by kernel_rfl, fun w _ => by kernel_rfl⟩) hS ?_
              refine wpAnyH_take (i := 13) (v := .int .i64 0) rfl (by kernel_rfl) (by kernel_rfl) (by kernel_rfl) (fun _ _ _ h => h) (Or.inl ⟨by kernel_rfl, fun w _ => by kernel_rfl⟩) hS ?_
              refine wpAnyH_done (by kernel_rfl) ?_ _
              go_wp2_with fail
              go_meet
              exact ⟨zb, B, rfl, rfl, rfl, hS4, (ho.but (Nat.lt_of_lt_of_le hlz (Nat.le_refl _)) hT4).at, hS⟩
          · have hS0 := hS
            refine h_alloc31 rfl ?_
            intro w3 zb hBz hkz hlz hgz
            have hzg := Nat.le_trans hS.size hgz
            refine hK.out _ _ (hS.trans hkz) (fun hS => ?_)
            clear hK K
            refine wpAnyH_ready (rs := [2]) (by kernel_rfl) (by simp) ?_
            refine AllReadyH.wrp rfl (by kernel_rfl) (fun K hK => ?_) (AllReadyH.nil)
            refine h_call ?_
            go_simp
            refine (HCK.out _).mono ?_
            rintro y _ ⟨rfl, rfl⟩
            go_simp
            refine hK.out _ _ hS (fun hS => ?_)
            clear hK K
            refine wpAnyH_ready (rs := [4]) (by kernel_rfl) (by simp) ?_
            refine AllReadyH.wrp rfl (by kernel_rfl) (fun K hK => ?_) (AllReadyH.nil)
            refine h_call ?_
            go_simp
            refine (HCN.out _).mono ?_
            rintro y _ ⟨rfl, rfl⟩
            go_simp
            refine hK.out _ _ hS (fun hS => ?_)
            clear hK K
            refine wpAnyH_ready (rs := [5]) (by kernel_rfl) (by simp) ?_
            refine AllReadyH.wrp rfl (by kernel_rfl) (fun K hK => ?_) (AllReadyH.nil)
            have hS1 := hS
            refine h_call ?_
            go_simp
            refine (HCR.out _ (HK5.out.trans hS)).mono ?_
            rintro y w2 ⟨B, ho, rfl, hb⟩
            go_simp
            refine hK.out _ _ (hS.trans hb) (fun hS => ?_)
            clear hK K
            refine wpAnyH_take (i := 6) (v := (.tuple #[.agg (GL (GR) B).toArray, .int .i64 nu, .int .i64 0])) rfl (by kernel_rfl) (by kernel_rfl) (by kernel_rfl) (fun _ _ _ h => h) (Or.inl ⟨by kernel_rfl, fun w _ => by kernel_rfl⟩) hS ?_
            refine wpAnyH_take (i := 7) (v := .agg (GL (GR) B).toArray) rfl (by kernel_rfl) (by kernel_rfl) (by kernel_rfl) (fun _ _ _ h => h) (Or.inl ⟨by kernel_rfl, fun w _ => by kernel_rfl⟩) hS ?_
            refine wpAnyH_take (i := 8) (v := .int .i64 nu) rfl (by kernel_rfl) (by kernel_rfl) (by kernel_rfl) (fun _ _ _ h => h) (Or.inl ⟨by kernel_rfl, fun w _ => by kernel_rfl⟩) hS ?_
            refine wpAnyH_take (i := 9) (v := .int .i64 0) rfl (by kernel_rfl) (by kernel_rfl) (by kernel_rfl) (fun _ _ _ h => h) (Or.inl ⟨by kernel_rfl, fun w _ => by kernel_rfl⟩) hS ?_
            refine wpAnyH_ready (rs := [11]) (by kernel_rfl) (by simp) ?_
            refine AllReadyH.wrp rfl (by kernel_rfl) (fun K hK => ?_) (AllReadyH.nil)
            refine h_store31 rfl zb (by kernel_rfl) (g' := GR) (A' := B) (by kernel_rfl) (hBz.keep hb (by rw [GL_len]; decide)) ?_
            intro w4 hS4 hT4
            refine hK.out _ _ (But.to hS hzg hT4) (fun hS => ?_)
            clear hK K
            refine wpAnyH_take (i := 12) (v := .int .i64 nu) rfl (by kernel_rfl) (by kernel_rfl) (by kernel_rfl) (fun _ _ _ h => h) (Or.inl ⟨by kernel_rfl, fun w _ => by kernel_rfl⟩) hS ?_
            refine wpAnyH_take (i := 13) (v := .int .i64 0) rfl (by kernel_rfl) (by kernel_rfl) (by kernel_rfl) (fun _ _ _ h => h) (Or.inl ⟨by kernel_rfl, fun w _ => by kernel_rfl⟩) hS ?_
            refine wpAnyH_done (by kernel_rfl) ?_ _
            go_wp2_with fail
            go_meet
            exact ⟨zb, B, rfl, rfl, rfl, hS4, (ho.but (Nat.lt_of_lt_of_le hlz (Nat.le_refl _)) hT4).at, hS⟩
        case rest =>
          obtain ⟨yb, B2, rfl, rfl, rfl, hY, hYG, hk⟩ := hcut
          generalize wc = w6 at *
          have HK6 : Hid (Keeps w w6) := HK5.out.trans hk
          have HB6 : Hid (CBox bb (GL g A) w6) := HB5.out.keep hk (by rw [GL_len]; decide)
          have HX6 : Hid (CBox xb (GL GP B1) w6) := HX5.out.keep hk (by rw [GL_len]; decide)
          have HO6 : Hid (GrAt w6 GP B1) := HO5.out.keep hk
          have HY6 : Hid (CBox yb (GL GR B2) w6) := hY
          have HQ6 : Hid (GrAt w6 GR B2) := hYG
          clear hk hY hYG HK5 HB5 HX5 HO5 HCK HCN HCR
          go_wp2_with fail
          go_cut [17, 18] (fun p q wc => ∃ zb B, p = .pointer (some ⟨zb, 0, none⟩) ∧ q = .int .i64 0 ∧ CBox zb (GL GC_ B) wc ∧ GrAt wc GC_ B ∧ Keeps w6 wc)
          case first =>
            refine wp_region_held_drew (S := fun W => Keeps w6 W) (by kernel_rfl) (Keeps.refl _).drew (fun hS => ?_)
            obtain ⟨V0, hV0⟩ : ∃ z, z = w6.drew := ⟨_, rfl⟩
            rw [← hV0] at hS ⊢
            clear hV0
            refine wpAnyH_take (i := 0) (v := .agg (GL g A).toArray) rfl (by kernel_rfl) (by kernel_rfl) (by kernel_rfl) (fun _ _ _ h => h) (y_load31 (by kernel_rfl) rfl bb (by kernel_rfl) (fun W h => HB6.out.keep h (by rw [GL_len]; decide))) hS ?_
            refine wpAnyH_take (i := 1) (v := .int .i64 n) rfl (by kernel_rfl) (by kernel_rfl) (by kernel_rfl) (fun _ _ _ h => h) (Or.inl ⟨by kernel_rfl, fun w _ => by kernel_rfl⟩) hS ?_
            refine wpAnyH_take (i := 2) (v := .pointer (some ⟨bb, 0, none⟩)) rfl (by kernel_rfl) (by kernel_rfl) (by kernel_rfl) (fun _ _ _ h => h) (Or.inl ⟨by kernel_rfl, fun w _ => by kernel_rfl⟩) hS ?_
            refine wpAnyH_take (i := 3) (v := .pointer (some ⟨bb, 7, none⟩)) rfl (by kernel_rfl) (by kernel_rfl) (by kernel_rfl) (fun _ _ _ h => h) (Or.inl ⟨by kernel_rfl, fun w _ => by kernel_rfl⟩) hS ?_
            refine wpAnyH_take (i := 4) (v := .slice A.ta g.log.tail.length A.tc) rfl (by kernel_rfl) (by kernel_rfl) (by kernel_rfl) (fun _ _ _ h => h) (y_tail (by kernel_rfl) rfl bb (by kernel_rfl) (fun W h => HB6.out.keep h (by rw [GL_len]; decide))) hS ?_
            refine wpAnyH_take (i := 5) (v := .int .i64 (g.log.tail.length : Int)) rfl (by kernel_rfl) (by kernel_rfl) (by kernel_rfl) (fun _ _ _ h => h) (Or.inl ⟨by kernel_rfl, ?_⟩) hS ?_
            · intro w hS; go_simp
            refine wpAnyH_take (i := 6) (v := .int .i64 ((g.log.tail.length : Int) + 1)) rfl (by kernel_rfl) (by kernel_rfl) (by kernel_rfl) (fun _ _ _ h => h) (Or.inl ⟨by kernel_rfl, fun w _ => Eq.trans (b := .ok (.value (.int .i64 (IntKind.i64.wrap ((g.log.tail.length : Int) + 1)))) w) (by kernel_rfl) (by rw [HWR.out])⟩) hS ?_
            refine wpAnyH_ready (rs := [7, 12]) (by kernel_rfl) (by simp) ?_
            refine AllReadyH.wrp rfl (by kernel_rfl) (fun K hK => ?_) (AllReadyH.wrp rfl (by kernel_rfl) (fun K hK => ?_) (AllReadyH.nil))
            · refine h_call ?_
              go_simp
              refine (HCT.out _).mono ?_
              rintro y _ ⟨rfl, rfl⟩
              go_simp
              refine hK.out _ _ hS (fun hS => ?_)
              clear hK K
              refine wpAnyH_ready (rs := [8, 12]) (by kernel_rfl) (by simp) ?_
              refine AllReadyH.wrp rfl (by kernel_rfl) (fun K hK => ?_) (AllReadyH.wrp rfl (by kernel_rfl) (fun K hK => ?_) (AllReadyH.nil))
              · have hS1 := hS
                refine h_call ?_
                go_simp
                refine (HCC.out _ (HK6.out.trans hS)).mono ?_
                rintro y w2 ⟨B, ho, rfl, hb⟩
                go_simp
                refine hK.out _ _ (hS.trans hb) (fun hS => ?_)
                clear hK K
                refine wpAnyH_take (i := 9) (v := (.tuple #[.agg (GL (GC_) B).toArray, .int .i64 0])) rfl (by kernel_rfl) (by kernel_rfl) (by kernel_rfl) (fun _ _ _ h => h) (Or.inl ⟨by kernel_rfl, fun w _ => by kernel_rfl⟩) hS ?_
                refine wpAnyH_take (i := 10) (v := .agg (GL (GC_) B).toArray) rfl (by kernel_rfl) (by kernel_rfl) (by kernel_rfl) (fun _ _ _ h => h) (Or.inl ⟨by kernel_rfl, fun w _ => by kernel_rfl⟩) hS ?_
                refine wpAnyH_take (i := 11) (v := .int .i64 0) rfl (by kernel_rfl) (by kernel_rfl) (by kernel_rfl) (fun _ _ _ h => h) (Or.inl ⟨by kernel_rfl, fun w _ => by kernel_rfl⟩) hS ?_
                refine wpAnyH_ready (rs := [12]) (by kernel_rfl) (by simp) ?_
                refine AllReadyH.wrp rfl (by kernel_rfl) (fun K hK => ?_) (AllReadyH.nil)
                have hS0 := hS
                refine h_alloc31 rfl ?_
                intro w3 zb hBz hkz hlz hgz
                have hzg := Nat.le_trans hS.size hgz
                refine hK.out _ _ (hS.trans hkz) (fun hS => ?_)
                clear hK K
                refine wpAnyH_ready (rs := [13]) (by kernel_rfl) (by simp) ?_
                refine AllReadyH.wrp rfl (by kernel_rfl) (fun K hK => ?_) (AllReadyH.nil)
                refine h_store31 rfl zb (by kernel_rfl) (g' := GC_) (A' := B) (by kernel_rfl) hBz ?_
                intro w4 hS4 hT4
                refine hK.out _ _ (But.to hS hzg hT4) (fun hS => ?_)
                clear hK K
                refine wpAnyH_take (i := 14) (v := .int .i64 0) rfl (by kernel_rfl) (by kernel_rfl) (by kernel_rfl) (fun _ _ _ h => h) (Or.inl ⟨by kernel_rfl, fun w _ => by kernel_rfl⟩) hS ?_
                refine wpAnyH_done (by kernel_rfl) ?_ _
                go_wp2_with fail
                go_meet
                exact ⟨zb, B, rfl, rfl, hS4, (ho.at.keep (But.to hkz hgz hT4)), hS⟩
              · have hS0 := hS
                refine h_alloc31 rfl ?_
                intro w3 zb hBz hkz hlz hgz
                have hzg := Nat.le_trans hS.size hgz
                refine hK.out _ _ (hS.trans hkz) (fun hS => ?_)
                clear hK K
                refine wpAnyH_ready (rs := [8]) (by kernel_rfl) (by simp) ?_
                refine AllReadyH.wrp rfl (by kernel_rfl) (fun K hK => ?_) (AllReadyH.nil)
                have hS1 := hS
                refine h_call ?_
                go_simp
                refine (HCC.out _ (HK6.out.trans hS)).mono ?_
                rintro y w2 ⟨B, ho, rfl, hb⟩
                go_simp
                refine hK.out _ _ (hS.trans hb) (fun hS => ?_)
                clear hK K
                refine wpAnyH_take (i := 9) (v := (.tuple #[.agg (GL (GC_) B).toArray, .int .i64 0])) rfl (by kernel_rfl) (by kernel_rfl) (by kernel_rfl) (fun _ _ _ h => h) (Or.inl ⟨by kernel_rfl, fun w _ => by kernel_rfl⟩) hS ?_
                refine wpAnyH_take (i := 10) (v := .agg (GL (GC_) B).toArray) rfl (by kernel_rfl) (by kernel_rfl) (by kernel_rfl) (fun _ _ _ h => h) (Or.inl ⟨by kernel_rfl, fun w _ => by kernel_rfl⟩) hS ?_
                refine wpAnyH_take (i := 11) (v := .int .i64 0) rfl (by kernel_rfl) (by kernel_rfl) (by kernel_rfl) (fun _ _ _ h => h) (Or.inl ⟨by kernel_rfl, fun w _ => by kernel_rfl⟩) hS ?_
                refine wpAnyH_ready (rs := [13]) (by kernel_rfl) (by simp) ?_
                refine AllReadyH.wrp rfl (by kernel_rfl) (fun K hK => ?_) (AllReadyH.nil)
                refine h_store31 rfl zb (by kernel_rfl) (g' := GC_) (A' := B) (by kernel_rfl) (hBz.keep hb (by rw [GL_len]; decide)) ?_
                intro w4 hS4 hT4
                refine hK.out _ _ (But.to hS hzg hT4) (fun hS => ?_)
                clear hK K
                refine wpAnyH_take (i := 14) (v := .int .i64 0) rfl (by kernel_rfl) (by kernel_rfl) (by kernel_rfl) (fun _ _ _ h => h) (Or.inl ⟨by kernel_rfl, fun w _ => by kernel_rfl⟩) hS ?_
                refine wpAnyH_done (by kernel_rfl) ?_ _
                go_wp2_with fail
                go_meet
                exact ⟨zb, B, rfl, rfl, hS4, (ho.but (Nat.lt_of_lt_of_le hlz (Nat.le_refl _)) hT4).at, hS⟩
            · have hS0 := hS
              refine h_alloc31 rfl ?_
              intro w3 zb hBz hkz hlz hgz
              have hzg := Nat.le_trans hS.size hgz
              refine hK.out _ _ (hS.trans hkz) (fun hS => ?_)
              clear hK K
              refine wpAnyH_ready (rs := [7]) (by kernel_rfl) (by simp) ?_
              refine AllReadyH.wrp rfl (by kernel_rfl) (fun K hK => ?_) (AllReadyH.nil)
              refine h_call ?_
              go_simp
              refine (HCT.out _).mono ?_
              rintro y _ ⟨rfl, rfl⟩
              go_simp
              refine hK.out _ _ hS (fun hS => ?_)
              clear hK K
              refine wpAnyH_ready (rs := [8]) (by kernel_rfl) (by simp) ?_
              refine AllReadyH.wrp rfl (by kernel_rfl) (fun K hK => ?_) (AllReadyH.nil)
              have hS1 := hS
              refine h_call ?_
              go_simp
              refine (HCC.out _ (HK6.out.trans hS)).mono ?_
              rintro y w2 ⟨B, ho, rfl, hb⟩
              go_simp
              refine hK.out _ _ (hS.trans hb) (fun hS => ?_)
              clear hK K
              refine wpAnyH_take (i := 9) (v := (.tuple #[.agg (GL (GC_) B).toArray, .int .i64 0])) rfl (by kernel_rfl) (by kernel_rfl) (by kernel_rfl) (fun _ _ _ h => h) (Or.inl ⟨by kernel_rfl, fun w _ => by kernel_rfl⟩) hS ?_
              refine wpAnyH_take (i := 10) (v := .agg (GL (GC_) B).toArray) rfl (by kernel_rfl) (by kernel_rfl) (by kernel_rfl) (fun _ _ _ h => h) (Or.inl ⟨by kernel_rfl, fun w _ => by kernel_rfl⟩) hS ?_
              refine wpAnyH_take (i := 11) (v := .int .i64 0) rfl (by kernel_rfl) (by kernel_rfl) (by kernel_rfl) (fun _ _ _ h => h) (Or.inl ⟨by kernel_rfl, fun w _ => by kernel_rfl⟩) hS ?_
              refine wpAnyH_ready (rs := [13]) (by kernel_rfl) (by simp) ?_
              refine AllReadyH.wrp rfl (by kernel_rfl) (fun K hK => ?_) (AllReadyH.nil)
              refine h_store31 rfl zb (by kernel_rfl) (g' := GC_) (A' := B) (by kernel_rfl) (hBz.keep hb (by rw [GL_len]; decide)) ?_
              intro w4 hS4 hT4
              refine hK.out _ _ (But.to hS hzg hT4) (fun hS => ?_)
              clear hK K
              refine wpAnyH_take (i := 14) (v := .int .i64 0) rfl (by kernel_rfl) (by kernel_rfl) (by kernel_rfl) (fun _ _ _ h => h) (Or.inl ⟨by kernel_rfl, fun w _ => by kernel_rfl⟩) hS ?_
              refine wpAnyH_done (by kernel_rfl) ?_ _
              go_wp2_with fail
              go_meet
              exact ⟨zb, B, rfl, rfl, hS4, (ho.but (Nat.lt_of_lt_of_le hlz (Nat.le_refl _)) hT4).at, hS⟩
          case rest =>
            obtain ⟨zb, B3, rfl, rfl, hZ, hZG, hk⟩ := hcut
            generalize wc = w7 at *
            have HK7 : Hid (Keeps w w7) := HK6.out.trans hk
            have HX7 : Hid (CBox xb (GL GP B1) w7) := HX6.out.keep hk (by rw [GL_len]; decide)
            have HO7 : Hid (GrAt w7 GP B1) := HO6.out.keep hk
            have HY7 : Hid (CBox yb (GL GR B2) w7) := HY6.out.keep hk (by rw [GL_len]; decide)
            have HQ7 : Hid (GrAt w7 GR B2) := HQ6.out.keep hk
            have HZ7 : Hid (CBox zb (GL GC_ B3) w7) := hZ
            have HP7 : Hid (GrAt w7 GC_ B3) := hZG
            have HCX : Hid (∀ W, GrAt W GP B1 → Calls Try.prog 7 #[.agg (GL (GP) B1).toArray] W fun y w' => y = .returned (.int .i64 (grErr GP)) ∧ Keeps W w') := fun W h => group_check GP B1 W h
            have HCY : Hid (∀ W, GrAt W GR B2 → Calls Try.prog 7 #[.agg (GL (GR) B2).toArray] W fun y w' => y = .returned (.int .i64 0) ∧ Keeps W w') := fun W h => by
              have := group_check GR B2 W h
              rw [HQR.out] at this
              exact this
            have HCZ : Hid (∀ W, GrAt W GC_ B3 → Calls Try.prog 7 #[.agg (GL (GC_) B3).toArray] W fun y w' => y = .returned (.int .i64 0) ∧ Keeps W w') := fun W h => by
              have := group_check GC_ B3 W h
              rw [HQC.out] at this
              exact this
            clear hk hZ hZG HK6 HB6 HX6 HO6 HY6 HQ6 HCT HCC HQR HQC
            cases qp : (pe == 0) with
            | false =>
              have HW8 : Hid (CBox yb (GL GR B2) w7 ∧ CBox zb (GL GC_ B3) w7 ∧ GrAt w7 GR B2 ∧ GrAt w7 GC_ B3 ∧ Keeps w w7) := ⟨HY7.out, HZ7.out, HQ7.out, HP7.out, HK7.out⟩
              clear HX7 HO7 HY7 HZ7 HQ7 HP7 HK7 HCX HQP
              generalize w7 = w8 at *
              go_wp2_with (first | (refine load31w (by kernel_rfl) rfl yb rfl HW8.out.1 ?_))
              refine (HCY.out w8 HW8.out.2.2.1).mono ?_
              rintro y w9 ⟨rfl, hb⟩
              have HW9 : Hid (CBox zb (GL GC_ B3) w9 ∧ GrAt w9 GC_ B3 ∧ Keeps w w9) := ⟨HW8.out.2.1.keep hb (by rw [GL_len]; decide), HW8.out.2.2.2.1.keep hb, HW8.out.2.2.2.2.trans hb⟩
              clear hb HW8 HCY
              go_wp2_with (first | (refine load31w (by kernel_rfl) rfl zb rfl HW9.out.1 ?_))
              refine (HCZ.out w9 HW9.out.2.1).mono ?_
              rintro y w10 ⟨rfl, hb⟩
              have HW10 : Hid (Keeps w w10) := HW9.out.2.2.trans hb
              clear hb HW9 HCZ
              go_wp2_with fail
              refine (group_begun w10).mono ?_
              rintro y w11 ⟨rfl, hb⟩
              go_wp2_with fail
              go_ret
              exact ⟨rfl, HW10.out.trans hb⟩
            | true =>
              have hp0 : pe = 0 := by simpa using qp
              have hgp := HQP.out hp0
              rw [hgp] at HCX
              clear HQP hgp
              go_wp2_with (first | (refine load31w (by kernel_rfl) rfl xb rfl HX7.out ?_))
              refine (HCX.out w7 HO7.out).mono ?_
              rintro y w8 ⟨rfl, hb⟩
              have HW8 : Hid (CBox yb (GL GR B2) w8 ∧ CBox zb (GL GC_ B3) w8 ∧ GrAt w8 GR B2 ∧ GrAt w8 GC_ B3 ∧ Keeps w w8) := ⟨HY7.out.keep hb (by rw [GL_len]; decide), HZ7.out.keep hb (by rw [GL_len]; decide), HQ7.out.keep hb, HP7.out.keep hb, HK7.out.trans hb⟩
              clear HX7 HO7 HY7 HZ7 HQ7 HP7 HK7 HCX hb
              go_wp2_with (first | (refine load31w (by kernel_rfl) rfl yb rfl HW8.out.1 ?_))
              refine (HCY.out w8 HW8.out.2.2.1).mono ?_
              rintro y w9 ⟨rfl, hb⟩
              have HW9 : Hid (CBox zb (GL GC_ B3) w9 ∧ GrAt w9 GC_ B3 ∧ Keeps w w9) := ⟨HW8.out.2.1.keep hb (by rw [GL_len]; decide), HW8.out.2.2.2.1.keep hb, HW8.out.2.2.2.2.trans hb⟩
              clear hb HW8 HCY
              go_wp2_with (first | (refine load31w (by kernel_rfl) rfl zb rfl HW9.out.1 ?_))
              refine (HCZ.out w9 HW9.out.2.1).mono ?_
              rintro y w10 ⟨rfl, hb⟩
              have HW10 : Hid (Keeps w w10) := HW9.out.2.2.trans hb
              clear hb HW9 HCZ
              go_wp2_with fail
              refine (group_begun w10).mono ?_
              rintro y w11 ⟨rfl, hb⟩
              go_wp2_with fail
              go_ret
              exact ⟨rfl, HW10.out.trans hb⟩
end Go.Proofs.Yteabfjpajgakiaf
