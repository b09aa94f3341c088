/- ReC. -/
import Derived.Test.YteabfjpajgakiagGreatJ15
import Derived.Test.YteabfjpajgakiagGreatJ20
import Derived.Test.YteabfjpajgakiagGreatJ21
import Derived.Test.YteabfjpajgakiagGreatJ23
import Derived.Test.YteabfjpajgakiagGreatJ24
import Derived.Test.YteabfjpajgakiagGreatJ26
/- RestGroups: the walk. -/
set_option linter.unusedSimpArgs false
set_option linter.unusedVariables false
set_option maxRecDepth 10000
namespace Go.Proofs.YteabfjpajgakiagGreat
open Go.RowKit

set_option maxHeartbeats 40000000 in
theorem rest_groups (g : Grp) (A : Ad) (e : Ent) (n : Int) (hn0 : -9223372036854775808 ≤ n) (hn1 : n ≤ 9223372036854775807) (w : World) (hG : GrAt w g A) : Calls Tryz.prog 3 #[.agg (GL g A).toArray, entV e, .int .i64 n] w fun y w' => y = .returned (.bool true) ∧ Keeps w w' := by
  have HG : Hid (GrAt w g A) := hG
  clear hG
  have HC0 : Hid (∀ W, Keeps w W → Calls Tryz.prog 4 #[.agg (GL g A).toArray] W fun y w' => y = .returned (.int .i64 (grErr g)) ∧ Keeps W w') := fun W hk => group_error g A W (HG.out.keep hk)
  cases q0 : (grErr g == 0) with
  | false =>
    have q0' : (grErr g != 0) = true := by simp [bne, q0]
    generalize grErr g = ge at *
    go_enter Tryz.func3, Tryz.ntmps3
    go_wp2_with (first | (refine box31 rfl rfl rfl ?_; intro w1 bb hBbb hkbb hlbb hgbb) | (refine box35 rfl rfl (e := e) rfl ?_; intro w2 eb hBeb hkeb hleb hgeb) | (refine load31 rfl rfl bb rfl (hBbb.keep hkeb (by rw [GL_len]; decide)) ?_))
    refine (HC0.out w2 (hkbb.trans hkeb)).mono ?_
    rintro y w3 ⟨rfl, hb⟩
    have hk3 : Keeps w w3 := (hkbb.trans hkeb).trans hb
    clear hBbb hkbb hlbb hgbb hBeb hkeb hleb hgeb hb
    go_wp2_with fail
    refine (group_begun w3).mono ?_
    rintro y w4 ⟨rfl, hb⟩
    go_wp2_with fail
    go_ret
    exact ⟨rfl, hk3.trans hb⟩
  | true =>
    have q0' : (grErr g != 0) = false := by simp [bne, q0]
    have hz : grErr g = 0 := by simpa using q0
    have hlen : g.log.tail.length ≤ 50 := (gr_right hz).2.2.1
    have hle : lgErr g.log = 0 := (gr_right hz).1
    have HWR : Hid (IntKind.i64.wrap ((g.log.tail.length : Int) + 1) = (g.log.tail.length : Int) + 1) := wrap_small (by omega) (by omega)
    have HOG : Hid (∀ W, Keeps w W → Calls Tryz.prog 6 #[.agg (GL g A).toArray] W fun y w' => ∃ B, GrOwn W.heap.size w' g B ∧ y = .returned (.agg (GL g B).toArray) ∧ Keeps W w') := fun W hk => own_group g A W (HG.out.keep hk) hz
    have HCP : Hid (∀ W, Keeps w W → Calls Tryz.prog 8 #[.agg (GL g A).toArray, entV e] W fun y w' => ∃ B, GrOwn W.heap.size w' (pgG g e) B ∧ y = .returned (.tuple #[.agg (GL (pgG g e) B).toArray, .int .i64 (pgAns g e), .int .i64 (pgErr g e)]) ∧ Keeps W w') := fun W hk => group_put g A e W (HG.out.keep hk)
    have HPO : Hid (∀ W, Keeps w W → Calls Tryz.prog 13 #[.agg (GL g A).toArray, entV e] W fun y w' => ∃ B, GrRd w' (pgG g e) B ∧ y = .returned (.tuple #[.agg (GL (pgG g e) B).toArray, .int .i64 (pgAns g e), .int .i64 (pgErr g e)]) ∧ Keeps W w') := fun W hk => group_put_of g A e W (HG.out.keep hk)
    have hct := chF_in (c := n) (n := (g.log.tail.length : Int) + 1) (by omega)
    have HCN : Hid (∀ W, Calls Tryz.prog 7 #[.int .i64 n, .int .i64 51] W fun e w' => e = .returned (.int .i64 (chF n 51)) ∧ W = w') := fun W => choose_f n 51 W hn0 hn1 (by decide) (by decide)
    have HCT : Hid (∀ W, Calls Tryz.prog 7 #[.int .i64 n, .int .i64 ((g.log.tail.length : Int) + 1)] W fun e w' => e = .returned (.int .i64 (chF n ((g.log.tail.length : Int) + 1))) ∧ W = w') := fun W => choose_f n _ W hn0 hn1 (by omega) (by omega)
    have hC := gr_cut hz (n := (chF n ((g.log.tail.length : Int) + 1)).toNat) (by omega)
    rw [Int.toNat_of_nonneg hct.1] at hC
    have hCE : cgErr g (chF n ((g.log.tail.length : Int) + 1)) = 0 := by
      unfold cgErr
      rw [if_pos q0]
      exact hC.1
    have HCR : Hid (∀ W, Keeps w W → Calls Tryz.prog 9 #[.agg (GL g A).toArray, .int .i64 1, .int .i64 (chF n 51)] W fun y w' => ∃ B, GrOwn W.heap.size w' (rgG g 1 (chF n 51)) B ∧ y = .returned (.tuple #[.agg (GL (rgG g 1 (chF n 51)) B).toArray, .int .i64 (rgNum g 1 (chF n 51)), .int .i64 (rgErr g 1 (chF n 51))]) ∧ Keeps W w') := fun W hk => group_run g A 1 (chF n 51) W (HG.out.keep hk)
    have HRO : Hid (∀ W, Keeps w W → Calls Tryz.prog 14 #[.agg (GL g A).toArray, .int .i64 1, .int .i64 (chF n 51)] W fun y w' => ∃ B, GrRd w' (rgG g 1 (chF n 51)) B ∧ y = .returned (.tuple #[.agg (GL (rgG g 1 (chF n 51)) B).toArray, .int .i64 (rgNum g 1 (chF n 51)), .int .i64 (rgErr g 1 (chF n 51))]) ∧ Keeps W w') := fun W hk => group_run_of g A 1 (chF n 51) W (HG.out.keep hk)
    have HCC : Hid (∀ W, Keeps w W → Calls Tryz.prog 10 #[.agg (GL g A).toArray, .int .i64 (chF n ((g.log.tail.length : Int) + 1))] W fun y w' => ∃ B, GrOwn W.heap.size w' (cgG g (chF n ((g.log.tail.length : Int) + 1))) B ∧ y = .returned (.tuple #[.agg (GL (cgG g (chF n ((g.log.tail.length : Int) + 1))) B).toArray, .int .i64 0]) ∧ Keeps W w') := fun W hk => by
      have := group_cut g A (chF n ((g.log.tail.length : Int) + 1)) W (HG.out.keep hk)
      rw [hCE] at this
      exact this
    have HCE : Hid (∀ W, Keeps w W → Calls Tryz.prog 11 #[logV g A] W fun y w' => ∃ qa qc, OwnTab W.heap.size w' (.slice qa (allSt g.log.base g.log.tail).tab.length qc) (allSt g.log.base g.log.tail).tab ∧ y = .returned (.tuple #[stV (allSt g.log.base g.log.tail) (.slice qa (allSt g.log.base g.log.tail).tab.length qc), .int .i64 0]) ∧ Keeps W w') := fun W hk => by
      have hg := HG.out.keep hk
      have := pack_end g.log _ A.ta A.tc W hg.base hg.tail hg.cap
      rw [hle] at this
      exact this
    have HSG : Hid (∀ W B, Keeps w W → GrRd W g B → Calls Tryz.prog 15 #[.agg (GL g A).toArray, .agg (GL g B).toArray] W fun e w' => e = .returned (.bool true) ∧ Keeps W w') := fun W B hk h => same_groups g A B W (HG.out.keep hk).rd h
    clear hct hC hCE hn0 hn1 hle
    generalize rgG g 1 (chF n 51) = GR at *
    generalize cgG g (chF n ((g.log.tail.length : Int) + 1)) = GC_ at *
    generalize rgNum g 1 (chF n 51) = nu at *
    generalize rgErr g 1 (chF n 51) = re at *
    generalize pgG g e = GP at *
    generalize pgAns g e = an at *
    generalize pgErr g e = pe at *
    generalize allSt g.log.base g.log.tail = ES at *
    generalize hcn : chF n 51 = cn at *
    generalize hct : chF n ((g.log.tail.length : Int) + 1) = ct at *
    clear hcn hct
    rw [hz] at HC0 q0'
    clear hz q0 q0'
    go_enter Tryz.func3, Tryz.ntmps3
    go_wp2_with (first | (refine box31 rfl rfl rfl ?_; intro w1 bb hBbb hkbb hlbb hgbb) | (refine box35 rfl rfl (e := e) rfl ?_; intro w2 eb hBeb hkeb hleb hgeb) | (refine load31 rfl rfl bb rfl (hBbb.keep hkeb (by rw [GL_len]; decide)) ?_))
    refine (HC0.out w2 (hkbb.trans hkeb)).mono ?_
    rintro y w3 ⟨rfl, hb⟩
    have HK3 : Hid (Keeps w w3) := (hkbb.trans hkeb).trans hb
    have HB3 : Hid (CBox bb (GL g A) w3) := (hBbb.keep hkeb (by rw [GL_len]; decide)).keep hb (by rw [GL_len]; decide)
    have HE3 : Hid (CBox eb (EC e) w3) := hBeb.keep hb (Nat.le_of_ble_eq_true rfl)
    clear hBbb hkbb hlbb hgbb hBeb hkeb hleb hgeb hb HC0
    go_wp2_with (first | (refine load31 rfl rfl bb rfl HB3.out ?_))
    refine (HOG.out w3 HK3.out).mono ?_
    rintro y w4 ⟨B0, ho, rfl, hb⟩
    have HO4 : Hid (GrRd w4 g B0) := ho.at.rd
    have HK34 : Hid (Keeps w3 w4) := hb
    clear ho hb HOG
    go_wp2_with (first | (refine alloc31 rfl rfl ?_; intro w5 wb hBwb hkwb hlwb hgwb) | (refine store31 rfl rfl wb rfl rfl hBwb ?_; intro w6 hSw6 hTw6))
    have k46 : Keeps w4 w6 := But.to hkwb hgwb hTw6
    have HK6 : Hid (Keeps w w6) := (HK3.out.trans HK34.out).trans k46
    have HB6 : Hid (CBox bb (GL g A) w6) := HB3.out.keep (HK34.out.trans k46) (by rw [GL_len]; decide)
    have HE6 : Hid (CBox eb (EC e) w6) := HE3.out.keep (HK34.out.trans k46) (Nat.le_of_ble_eq_true rfl)
    have HW6 : Hid (CBox wb (GL g B0) w6) := hSw6
    have HO6 : Hid (GrRd w6 g B0) := HO4.out.keep k46
    clear k46 hBwb hkwb hlwb hgwb hSw6 hTw6 HO4 HK34 HB3 HE3 HK3
    refine (HCN.out w6).mono ?_
    rintro y _ ⟨rfl, rfl⟩
    go_wp2_with (first | (refine load31 rfl rfl bb rfl HB6.out ?_) | (refine load35 rfl rfl eb rfl (e := e) HE6.out ?_))
    refine (HCP.out w6 HK6.out).mono ?_
    rintro y w7 ⟨B1, ho, rfl, hb⟩
    have HO7 : Hid (GrOwn w6.heap.size w7 GP B1) := ho
    have HK67 : Hid (Keeps w6 w7) := hb
    clear ho hb HCN
    go_wp2_with (first | (refine alloc31 rfl rfl ?_; intro w8 ab hBab hkab hlab hgab) | (refine store31 rfl rfl ab rfl rfl hBab ?_; intro w9 hSw9 hTw9) | (refine load31 rfl rfl bb rfl (HB6.out.keep (HK67.out.trans (But.to hkab hgab hTw9)) (by rw [GL_len]; decide)) ?_))
    have k79 : Keeps w7 w9 := But.to hkab hgab hTw9
    have HK69 : Hid (Keeps w6 w9) := HK67.out.trans k79
    have HO9 : Hid (GrOwn w6.heap.size w9 GP B1) := HO7.out.keep k79
    have HA9 : Hid (CBox ab (GL GP B1) w9) := hSw9
    clear k79 hBab hkab hlab hgab hSw9 hTw9 HO7 HK67
    refine (HCR.out w9 (HK6.out.trans HK69.out)).mono ?_
    rintro y w10 ⟨B2, ho, rfl, hb⟩
    have HK910 : Hid (Keeps w9 w10) := hb
    have HP10 : Hid (GrOwn w6.heap.size w10 GR B2) := ho.mono HK69.out.size
    clear ho hb
    go_wp2_with (first | (refine alloc31 rfl rfl ?_; intro w11 rb hBrb hkrb hlrb hgrb) | (refine store31 rfl rfl rb rfl rfl hBrb ?_; intro w12 hSw12 hTw12))
    have k912 : Keeps w9 w12 := HK910.out.trans (But.to hkrb hgrb hTw12)
    have k1012 : Keeps w10 w12 := But.to hkrb hgrb hTw12
    have HK612 : Hid (Keeps w6 w12) := HK69.out.trans k912
    have HK12 : Hid (Keeps w w12) := HK6.out.trans HK612.out
    have HB12 : Hid (CBox bb (GL g A) w12) := HB6.out.keep HK612.out (by rw [GL_len]; decide)
    have HO12 : Hid (GrOwn w6.heap.size w12 GP B1) := HO9.out.keep k912
    have HA12 : Hid (CBox ab (GL GP B1) w12) := HA9.out.keep k912 (by rw [GL_len]; decide)
    have HP12 : Hid (GrOwn w6.heap.size w12 GR B2) := HP10.out.keep k1012
    have HR12 : Hid (CBox rb (GL GR B2) w12) := hSw12
    clear k912 k1012 hBrb hkrb hlrb hgrb hSw12 hTw12 HO9 HA9 HP10 HK69 HK910
    go_cut [15, 16] (fun p q wc => ∃ zb B, p = .pointer (some ⟨zb, 0, none⟩) ∧ q = .int .i64 0 ∧ CBox zb (GL GC_ B) wc ∧ GrOwn w12.heap.size wc GC_ B ∧ Keeps w12 wc)
    case first =>
      refine wp_region_held_drew (S := fun W => Keeps w12 W) (by kernel_rfl) (Keeps.refl _).drew (fun hS => ?_)
      obtain ⟨V0, hV0⟩ : ∃ z, z = w12.drew := ⟨_, rfl⟩
      rw [← hV0] at hS ⊢
      clear hV0
      refine wpAnyH_take (i := 0) (v := .agg (GL g A).toArray) rfl (by kernel_rfl) (by kernel_rfl) (by kernel_rfl) (fun _ _ _ h => h) (y_load31 (by kernel_rfl) rfl bb (by kernel_rfl) (fun W h => HB12.out.keep h (by rw [GL_len]; decide))) hS ?_
      refine wpAnyH_take (i := 1) (v := .int .i64 n) rfl (by kernel_rfl) (by kernel_rfl) (by kernel_rfl) (fun _ _ _ h => h) (Or.inl ⟨by kernel_rfl, fun w _ => by kernel_rfl⟩) hS ?_
      refine wpAnyH_take (i := 2) (v := .pointer (some ⟨bb, 0, none⟩)) rfl (by kernel_rfl) (by kernel_rfl) (by kernel_rfl) (fun _ _ _ h => h) (Or.inl ⟨by kernel_rfl, fun w _ => by kernel_rfl⟩) hS ?_
      refine wpAnyH_take (i := 3) (v := .pointer (some ⟨bb, 7, none⟩)) rfl (by kernel_rfl) (by kernel_rfl) (by kernel_rfl) (fun _ _ _ h => h) (Or.inl ⟨by kernel_rfl, fun w _ => by kernel_rfl⟩) hS ?_
      refine wpAnyH_take (i := 4) (v := .slice A.ta g.log.tail.length A.tc) rfl (by kernel_rfl) (by kernel_rfl) (by kernel_rfl) (fun _ _ _ h => h) (y_tail (by kernel_rfl) rfl bb (by kernel_rfl) (fun W h => HB12.out.keep h (by rw [GL_len]; decide))) hS ?_
      refine wpAnyH_take (i := 5) (v := .int .i64 (g.log.tail.length : Int)) rfl (by kernel_rfl) (by kernel_rfl) (by kernel_rfl) (fun _ _ _ h => h) (Or.inl ⟨by kernel_rfl, ?_⟩) hS ?_
      · intro w hS; go_simp
      refine wpAnyH_take (i := 6) (v := .int .i64 ((g.log.tail.length : Int) + 1)) rfl (by kernel_rfl) (by kernel_rfl) (by kernel_rfl) (fun _ _ _ h => h) (Or.inl ⟨by kernel_rfl, fun w _ => Eq.trans (b := .ok (.value (.int .i64 (IntKind.i64.wrap ((g.log.tail.length : Int) + 1)))) w) (by kernel_rfl) (by rw [HWR.out])⟩) hS ?_
      refine wpAnyH_ready (rs := [7, 12]) (by kernel_rfl) (by simp) ?_
      refine AllReadyH.wrp rfl (by kernel_rfl) (fun K hK => ?_) (AllReadyH.wrp rfl (by kernel_rfl) (fun K hK => ?_) (AllReadyH.nil))
      · refine h_call ?_
        go_simp
        refine (HCT.out _).mono ?_
        rintro y _ ⟨rfl, rfl⟩
        go_simp
        refine hK.out _ _ hS (fun hS => ?_)
        clear hK K
        refine wpAnyH_ready (rs := [8, 12]) (by kernel_rfl) (by simp) ?_
        refine AllReadyH.wrp rfl (by kernel_rfl) (fun K hK => ?_) (AllReadyH.wrp rfl (by kernel_rfl) (fun K hK => ?_) (AllReadyH.nil))
        · have hS1 := hS
          refine h_call ?_
          go_simp
          refine (HCC.out _ (HK12.out.trans hS)).mono ?_
          rintro y V2 ⟨B, ho, rfl, hb⟩
          go_simp
          refine hK.out _ _ (hS.trans hb) (fun hS => ?_)
          clear hK K
          refine wpAnyH_take (i := 9) (v := (.tuple #[.agg (GL (GC_) B).toArray, .int .i64 0])) rfl (by kernel_rfl) (by kernel_rfl) (by kernel_rfl) (fun _ _ _ h => h) (Or.inl ⟨by kernel_rfl, fun w _ => by kernel_rfl⟩) hS ?_
          refine wpAnyH_take (i := 10) (v := .agg (GL (GC_) B).toArray) rfl (by kernel_rfl) (by kernel_rfl) (by kernel_rfl) (fun _ _ _ h => h) (Or.inl ⟨by kernel_rfl, fun w _ => by kernel_rfl⟩) hS ?_
          refine wpAnyH_take (i := 11) (v := .int .i64 0) rfl (by kernel_rfl) (by kernel_rfl) (by kernel_rfl) (fun _ _ _ h => h) (Or.inl ⟨by kernel_rfl, fun w _ => by kernel_rfl⟩) hS ?_
          refine wpAnyH_ready (rs := [12]) (by kernel_rfl) (by simp) ?_
          refine AllReadyH.wrp rfl (by kernel_rfl) (fun K hK => ?_) (AllReadyH.nil)
          have hS0 := hS
          refine h_alloc31 rfl ?_
          intro V3 zb hBz hkz hlz hgz
          have hzg := Nat.le_trans hS.size hgz
          refine hK.out _ _ (hS.trans hkz) (fun hS => ?_)
          clear hK K
          refine wpAnyH_ready (rs := [13]) (by kernel_rfl) (by simp) ?_
          refine AllReadyH.wrp rfl (by kernel_rfl) (fun K hK => ?_) (AllReadyH.nil)
          refine h_store31 rfl zb (by kernel_rfl) (g' := GC_) (A' := B) (by kernel_rfl) hBz ?_
          intro V4 hS4 hT4
          refine hK.out _ _ (But.to hS hzg hT4) (fun hS => ?_)
          clear hK K
          refine wpAnyH_take (i := 14) (v := .int .i64 0) rfl (by kernel_rfl) (by kernel_rfl) (by kernel_rfl) (fun _ _ _ h => h) (Or.inl ⟨by kernel_rfl, fun w _ => by kernel_rfl⟩) hS ?_
          refine wpAnyH_done (by kernel_rfl) ?_ _
          go_wp2_with fail
          go_meet
          exact ⟨zb, B, rfl, rfl, hS4, ((ho.keep (But.to hkz hgz hT4)).mono hS1.size), hS⟩
        · have hS0 := hS
          refine h_alloc31 rfl ?_
          intro V3 zb hBz hkz hlz hgz
          have hzg := Nat.le_trans hS.size hgz
          refine hK.out _ _ (hS.trans hkz) (fun hS => ?_)
          clear hK K
          refine wpAnyH_ready (rs := [8]) (by kernel_rfl) (by simp) ?_
          refine AllReadyH.wrp rfl (by kernel_rfl) (fun K hK => ?_) (AllReadyH.nil)
          have hS1 := hS
          refine h_call ?_
          go_simp
          refine (HCC.out _ (HK12.out.trans hS)).mono ?_
          rintro y V2 ⟨B, ho, rfl, hb⟩
          go_simp
          refine hK.out _ _ (hS.trans hb) (fun hS => ?_)
          clear hK K
          refine wpAnyH_take (i := 9) (v := (.tuple #[.agg (GL (GC_) B).toArray, .int .i64 0])) rfl (by kernel_rfl) (by kernel_rfl) (by kernel_rfl) (fun _ _ _ h => h) (Or.inl ⟨by kernel_rfl, fun w _ => by kernel_rfl⟩) hS ?_
          refine wpAnyH_take (i := 10) (v := .agg (GL (GC_) B).toArray) rfl (by kernel_rfl) (by kernel_rfl) (by kernel_rfl) (fun _ _ _ h => h) (Or.inl ⟨by kernel_rfl, fun w _ => by kernel_rfl⟩) hS ?_
          refine wpAnyH_take (i := 11) (v := .int .i64 0) rfl (by kernel_rfl) (by kernel_rfl) (by kernel_rfl) (fun _ _ _ h => h) (Or.inl ⟨by kernel_rfl, fun w _ => by kernel_rfl⟩) hS ?_
          refine wpAnyH_ready (rs := [13]) (by kernel_rfl) (by simp) ?_
          refine AllReadyH.wrp rfl (by kernel_rfl) (fun K hK => ?_) (AllReadyH.nil)
          refine h_store31 rfl zb (by kernel_rfl) (g' := GC_) (A' := B) (by kernel_rfl) (hBz.keep hb (by rw [GL_len]; decide)) ?_
          intro V4 hS4 hT4
          refine hK.out _ _ (But.to hS hzg hT4) (fun hS => ?_)
          clear hK K
          refine wpAnyH_take (i := 14) (v := .int .i64 0) rfl (by kernel_rfl) (by kernel_rfl) (by kernel_rfl) (fun _ _ _ h => h) (Or.inl ⟨by kernel_rfl, fun w _ => by kernel_rfl⟩) hS ?_
          refine wpAnyH_done (by kernel_rfl) ?_ _
          go_wp2_with fail
          go_meet
          exact ⟨zb, B, rfl, rfl, hS4, ((ho.but (Nat.lt_of_lt_of_le hlz (Nat.le_refl _)) hT4).mono hS1.size), hS⟩
      · have hS0 := hS
        refine h_alloc31 rfl ?_
        intro V3 zb hBz hkz hlz hgz
        have hzg := Nat.le_trans hS.size hgz
        refine hK.out _ _ (hS.trans hkz) (fun hS => ?_)
        clear hK K
        refine wpAnyH_ready (rs := [7]) (by kernel_rfl) (by simp) ?_
        refine AllReadyH.wrp rfl (by kernel_rfl) (fun K hK => ?_) (AllReadyH.nil)
        refine h_call ?_
        go_simp
        refine (HCT.out _).mono ?_
        rintro y _ ⟨rfl, rfl⟩
        go_simp
        refine hK.out _ _ hS (fun hS => ?_)
        clear hK K
        refine wpAnyH_ready (rs := [8]) (by kernel_rfl) (by simp) ?_
        refine AllReadyH.wrp rfl (by kernel_rfl) (fun K hK => ?_) (AllReadyH.nil)
        have hS1 := hS
        refine h_call ?_
        go_simp
        refine (HCC.out _ (HK12.out.trans hS)).mono ?_
        rintro y V2 ⟨B, ho, rfl, hb⟩
        go_simp
        refine hK.out _ _ (hS.trans hb) (fun hS => ?_)
        clear hK K
        refine wpAnyH_take (i := 9) (v := (.tuple #[.agg (GL (GC_) B).toArray, .int .i64 0])) rfl (by kernel_rfl) (by kernel_rfl) (by kernel_rfl) (fun _ _ _ h => h) (Or.inl ⟨by kernel_rfl, fun w _ => by kernel_rfl⟩) hS ?_
        refine wpAnyH_take (i := 10) (v := .agg (GL (GC_) B).toArray) rfl (by kernel_rfl) (by kernel_rfl) (by kernel_rfl) (fun _ _ _ h => h) (Or.inl ⟨by kernel_rfl, fun w _ => by kernel_rfl⟩) hS ?_
        refine wpAnyH_take (i := 11) (v := .int .i64 0) rfl (by kernel_rfl) (by kernel_rfl) (by kernel_rfl) (fun _ _ _ h => h) (Or.inl ⟨by kernel_rfl, fun w _ => by kernel_rfl⟩) hS ?_
        refine wpAnyH_ready (rs := [13]) (by kernel_rfl) (by simp) ?_
        refine AllReadyH.wrp rfl (by kernel_rfl) (fun K hK => ?_) (AllReadyH.nil)
        refine h_store31 rfl zb (by kernel_rfl) (g' := GC_) (A' := B) (by kernel_rfl) (hBz.keep hb (by rw [GL_len]; decide)) ?_
        intro V4 hS4 hT4
        refine hK.out _ _ (But.to hS hzg hT4) (fun hS => ?_)
        clear hK K
        refine wpAnyH_take (i := 14) (v := .int .i64 0) rfl (by kernel_rfl) (by kernel_rfl) (by kernel_rfl) (fun _ _ _ h => h) (Or.inl ⟨by kernel_rfl, fun w _ => by kernel_rfl⟩) hS ?_
        refine wpAnyH_done (by kernel_rfl) ?_ _
        go_wp2_with fail
        go_meet
        exact ⟨zb, B, rfl, rfl, hS4, ((ho.but (Nat.lt_of_lt_of_le hlz (Nat.le_refl _)) hT4).mono hS1.size), hS⟩
    case rest =>
      obtain ⟨zb, B3, rfl, rfl, hZ, hZG, hk⟩ := hcut
      generalize wc = w13 at *
      have HK613 : Hid (Keeps w6 w13) := HK612.out.trans hk
      have HB13 : Hid (CBox bb (GL g A) w13) := HB12.out.keep hk (by rw [GL_len]; decide)
      have HO13 : Hid (GrOwn w6.heap.size w13 GP B1 ∧ GrOwn w6.heap.size w13 GR B2 ∧ GrOwn w6.heap.size w13 GC_ B3) := ⟨HO12.out.keep hk, HP12.out.keep hk, hZG.mono HK612.out.size⟩
      have HA13 : Hid (CBox ab (GL GP B1) w13 ∧ CBox rb (GL GR B2) w13 ∧ CBox zb (GL GC_ B3) w13) := ⟨HA12.out.keep hk (by rw [GL_len]; decide), HR12.out.keep hk (by rw [GL_len]; decide), hZ⟩
      clear hk hZ hZG HK12 HK612 HB12 HO12 HA12 HP12 HR12 HCT HCC HWR
      go_wp2_with (first | (refine load28 rfl rfl bb rfl HB13.out ?_))
      refine (HCE.out w13 (HK6.out.trans HK613.out)).mono ?_
      rintro y w14 ⟨qa, qc, ho, rfl, hb⟩
      obtain ⟨base, hbase⟩ : ∃ z, z = w6.heap.size := ⟨_, rfl⟩
      obtain ⟨top, htop⟩ : ∃ z, z = w14.heap.size := ⟨_, rfl⟩
      have HK14 : Hid (Keeps w6 w14) := HK613.out.trans hb
      have HBS : Hid (base = w6.heap.size ∧ top = w14.heap.size) := ⟨hbase, htop⟩
      have HSP : Hid (SpGr base top w14 GP B1 ∧ SpGr base top w14 GR B2 ∧ SpGr base top w14 GC_ B3) := by
        show _ ∧ _ ∧ _
        rw [hbase, htop]
        exact ⟨SpGr.of (HO13.out.1.keep hb) (Nat.le_refl _), SpGr.of (HO13.out.2.1.keep hb) (Nat.le_refl _), SpGr.of (HO13.out.2.2.keep hb) (Nat.le_refl _)⟩
      have HSD : Hid (SpTab base top w14 qa ES.tab.length) := by
        show SpTab _ _ _ _ _
        rw [hbase, htop]
        exact SpTab.of (ho.base HK613.out.size) (Nat.le_refl _)
      have HA14 : Hid (CBox ab (GL GP B1) w14 ∧ CBox rb (GL GR B2) w14 ∧ CBox zb (GL GC_ B3) w14) := ⟨HA13.out.1.keep hb (by rw [GL_len]; decide), HA13.out.2.1.keep hb (by rw [GL_len]; decide), HA13.out.2.2.keep hb (by rw [GL_len]; decide)⟩
      clear ho hb hbase htop HK613 HB13 HO13 HA13 HCE
      go_wp2_with (first | (refine alloc25 rfl rfl ?_; intro w15 db hBdb hkdb hldb hgdb) | (refine store25b rfl rfl db rfl rfl hBdb ?_; intro w16 hSw16 hTw16; have k16 := But.to hkdb hgdb hTw16) | (refine load31 rfl rfl ab rfl (HA14.out.1.keep k16 (by rw [GL_len]; decide)) ?_) | (refine load31 rfl rfl rb rfl (HA14.out.2.1.keep k16 (by rw [GL_len]; decide)) ?_) | (refine load31 rfl rfl zb rfl (HA14.out.2.2.keep k16 (by rw [GL_len]; decide)) ?_) | (refine build3 rfl rfl rfl rfl rfl ?_; intro w17 lb hL3 hklb hglb))
      have k1417 : Keeps w14 w17 := k16.trans hklb
      have HK17 : Hid (Keeps w6 w17) := HK14.out.trans k1417
      have HD17 : Hid (CBox db (SC ES (.slice qa ES.tab.length qc)) w17) := hSw16.keep hklb (Nat.le_of_ble_eq_true rfl)
      have HLT : Hid (top ≤ db ∧ top ≤ lb ∧ top ≤ w17.heap.size) := by
        have h1 := HBS.out.2
        have h2 := k16.size
        have h3 := hklb.size
        exact ⟨by omega, by omega, by omega⟩
      obtain ⟨GG, AA, hLL, hSS⟩ : ∃ GG AA, L3 lb GG AA w17 ∧ ∀ x, x < 3 → SpGr base top w17 (GG x) (AA x) := by
        refine ⟨_, _, hL3, fun x hx => ?_⟩
        have h3 : x = 0 ∨ x = 1 ∨ x = 2 := by omega
        have k := Spoil.of (base := base) (top := top) k1417
        rcases h3 with rfl | rfl | rfl
        · exact HSP.out.1.go k
        · exact HSP.out.2.1.go k
        · exact HSP.out.2.2.go k
      have HLL : Hid (∀ W, Spoil base top w17 W → L3 lb GG AA W) := fun W k => hLL.go HLT.out.2.1 k
      have HSS : Hid (∀ x W, x < 3 → Spoil base top w17 W → SpGr base top W (GG x) (AA x)) := fun x W hx k => (hSS x hx).go k
      have HSD2 : Hid (∀ W, Spoil base top w17 W → SpTab base top W qa ES.tab.length) := fun W k => (HSD.out.go (Spoil.of k1417)).go k
      have HTS : Hid (∀ W, Spoil base top w17 W → top ≤ W.heap.size) := fun W k => Nat.le_trans HLT.out.2.2 k.size
      clear hLL hSS k1417 k16 hL3 hklb hglb hBdb hkdb hldb hgdb hSw16 hTw16 HSP HSD HA14 HK14
      go_loopw [20] (fun i wr => ∃ (x : Nat), x ≤ 3 ∧ i = .int .i64 x ∧ Hid (Spoil base top w17 wr)) (fun i _ => 3 - (intOf i).toNat)
      case atStart => exact ⟨0, by omega, rfl, Spoil.refl _ _ _⟩
      case round =>
        obtain ⟨x, hx3, rfl, HX⟩ := hrel
        by_cases hx : x < 3
        · go_wp2_with fail
          have e82 : decide ((x : Int) < 3) = true := decide_eq_true (by omega)
          try simp only [e82]
          clear e82
          have HC7 : Hid (∀ W, Spoil base top w17 W → W.cell? ⟨lb, x * 29 + 7, none⟩ = some (.slice (AA x).ta (GG x).log.tail.length (AA x).tc)) := fun W k => (HLL.out W k).cell hx
          have HTR : Hid (∀ W, Spoil base top w17 W → SpRow base top W 35 9 (AA x).ta (GG x).log.tail.length) := fun W k => (HSS.out x W hx k).tail
          have htn := (HSS.out x wr hx HX.out).len
          unfold maxLen at htn
          generalize (AA x).ta = ta at *
          generalize (GG x).log.tail.length = tn at *
          generalize (AA x).tc = tc at *
          obtain ⟨wx, rfl⟩ : ∃ z, z = wr := ⟨wr, rfl⟩
          go_loopw [21] (fun j wq => ∃ (y : Nat), y ≤ tn ∧ j = .int .i64 y ∧ Hid (Spoil base top w17 wq)) (fun j _ => tn - (intOf j).toNat)
          case atStart => exact ⟨0, Nat.zero_le _, rfl, HX⟩
          case round =>
            obtain ⟨y, hy, rfl, HY⟩ := hrel
            have c7 := HC7.out wr HY.out
            have cl := World.block_lt_of_cell? _ _ c7
            simp only [] at cl
            by_cases hyl : y < tn
            · obtain ⟨tg, cur, rfl, g1, g2, hg, hgs⟩ := (HTR.out wr HY.out).at hyl
              go_wp2_with (first | (refine spoil_ent rfl rfl base top tg (y * 9) rfl ⟨-1, 0, 0, 0, 0, 0, 0, 0, 0⟩ rfl hg g1 g2 hgs ?_; intro wz sz))
              have HZ : Hid (Spoil base top w17 wz) := HY.out.trans sz
              clear c7 cl g1 g2 hg hgs sz
              go_roundw
              case rel => exact ⟨y + 1, by omega, by go_num, HZ⟩
              case measure => simp [intOf]; omega
            · have HB1 := (show Hid _ from (HSS.out x wr hx HY.out).b)
              go_wp2_with (first | (refine load_base3 rfl rfl (HLL.out wr HY.out) x hx rfl ?_))
              refine (spoil_c base top (GG x).log.base (AA x).xa (GG x).log.base.tab.length (AA x).xc wr HB1.out (HTS.out wr HY.out)).mono ?_
              rintro z v1 ⟨rfl, s1⟩
              have HV1 : Hid (Spoil base top w17 v1) := HY.out.trans s1
              clear s1 HB1 c7 cl HY HX HC7 HTR
              go_wp2_with fail
              obtain ⟨wy, rfl⟩ : ∃ z, z = wr := ⟨wr, rfl⟩
              go_loopw [22] (fun j wq => ∃ (y : Nat), y ≤ 3 ∧ j = .int .i64 y ∧ Hid (Spoil base top w17 wq)) (fun j _ => 3 - (intOf j).toNat)
              case atStart => exact ⟨0, Nat.zero_le _, rfl, HV1⟩
              case round =>
                obtain ⟨u, hu3, rfl, HU⟩ := hrel
                by_cases hu : u < 3
                · obtain ⟨ad, an', ac, hta, hsp⟩ := (HSS.out x wr hx HU.out).node u
                  have HSC := (show Hid _ from spoil_c base top (nodeAt (GG x) u) ad an' ac wr hsp (HTS.out wr HU.out))
                  rw [← hta] at HSC
                  clear hta hsp
                  go_wp2_with (first | (refine index3 rfl rfl lb (x * 29) u hu rfl rfl ?_) | (refine load_node3 rfl rfl (HLL.out wr HU.out) x hx u hu rfl ?_))
                  refine Calls.mono HSC.out ?_
                  rintro z v2 ⟨rfl, s2⟩
                  have HV2 : Hid (Spoil base top w17 v2) := HU.out.trans s2
                  clear s2 HSC HU
                  go_wp2_with fail
                  go_roundw
                  case rel => exact ⟨u + 1, by omega, by go_num, HV2⟩
                  case measure => simp [intOf]; omega
                · go_wp2_with fail
                  go_roundw
                  case rel => exact ⟨x + 1, by omega, by go_num, HU⟩
                  case measure => simp [intOf]; omega
        · have HDX : Hid (CBox db (SC ES (.slice qa ES.tab.length qc)) wr) := Spoil.box HD17.out (Nat.le_of_ble_eq_true rfl) (.inr HLT.out.1) HX.out
          go_wp2_with (first | (refine load25b rfl rfl db rfl HDX.out ?_))
          refine (spoil_c base top ES qa ES.tab.length qc wr (HSD2.out wr HX.out) (HTS.out wr HX.out)).mono ?_
          rintro z x0 ⟨rfl, s1⟩
          have k60 : Keeps w6 x0 := Spoil.to HK17.out (by have := HBS.out.1; omega) (HX.out.trans s1)
          have HK0 : Hid (Keeps w x0) := HK6.out.trans k60
          have HB0 : Hid (CBox bb (GL g A) x0 ∧ CBox wb (GL g B0) x0) := ⟨HB6.out.keep k60 (by rw [GL_len]; decide), HW6.out.keep k60 (by rw [GL_len]; decide)⟩
          have HE0 : Hid (CBox eb (EC e) x0) := HE6.out.keep k60 (Nat.le_of_ble_eq_true rfl)
          have HO0 : Hid (GrRd x0 g B0) := HO6.out.keep k60
          clear k60 s1 HDX HX HD17 HLT HLL HSS HSD2 HTS HK17 HBS HB6 HW6 HE6 HO6 HK6
          go_wp2_with (first | (refine load31 rfl rfl bb rfl HB0.out.1 ?_) | (refine load35 rfl rfl eb rfl (e := e) HE0.out ?_))
          refine (HCP.out x0 HK0.out).mono ?_
          rintro y x1 ⟨Bu, ho, rfl, hb⟩
          have HU1 : Hid (GrRd x1 GP Bu) := ho.at.rd
          have HK1 : Hid (Keeps x0 x1) := hb
          clear ho hb HCP
          go_wp2_with (first | (refine alloc31 rfl rfl ?_; intro x2 ub hBub hkub hlub hgub) | (refine store31 rfl rfl ub rfl rfl hBub ?_; intro x3 hSx3 hTx3; have k13 := But.to hkub hgub hTx3) | (refine load31 rfl rfl bb rfl (HB0.out.1.keep (HK1.out.trans k13) (by rw [GL_len]; decide)) ?_))
          have HK3 : Hid (Keeps x0 x3) := HK1.out.trans k13
          have HU3 : Hid (CBox ub (GL GP Bu) x3 ∧ GrRd x3 GP Bu) := ⟨hSx3, HU1.out.keep k13⟩
          clear k13 hBub hkub hlub hgub hSx3 hTx3 HU1 HK1
          refine (HCR.out x3 (HK0.out.trans HK3.out)).mono ?_
          rintro y x4 ⟨Bv, ho, rfl, hb⟩
          have HV4 : Hid (GrRd x4 GR Bv) := ho.at.rd
          have HK34 : Hid (Keeps x3 x4) := hb
          clear ho hb HCR
          go_wp2_with (first | (refine alloc31 rfl rfl ?_; intro x5 vb hBvb hkvb hlvb hgvb) | (refine store31 rfl rfl vb rfl rfl hBvb ?_; intro x6 hSx6 hTx6; have k46 := But.to hkvb hgvb hTx6) | (refine load31 rfl rfl bb rfl (HB0.out.1.keep (HK3.out.trans (HK34.out.trans k46)) (by rw [GL_len]; decide)) ?_) | (refine load35 rfl rfl eb rfl (e := e) (HE0.out.keep (HK3.out.trans (HK34.out.trans k46)) (Nat.le_of_ble_eq_true rfl)) ?_))
          have k36 : Keeps x3 x6 := HK34.out.trans k46
          have HK6 : Hid (Keeps x0 x6) := HK3.out.trans k36
          have HU6 : Hid (CBox ub (GL GP Bu) x6 ∧ GrRd x6 GP Bu) := ⟨HU3.out.1.keep k36 (by rw [GL_len]; decide), HU3.out.2.keep k36⟩
          have HV6 : Hid (CBox vb (GL GR Bv) x6 ∧ GrRd x6 GR Bv) := ⟨hSx6, HV4.out.keep k46⟩
          clear k36 k46 hBvb hkvb hlvb hgvb hSx6 hTx6 HV4 HK34 HU3 HK3
          refine (HPO.out x6 (HK0.out.trans HK6.out)).mono ?_
          rintro y x7 ⟨Bw, hRw, rfl, hb⟩
          have HK67 : Hid (Keeps x6 x7) := hb
          have HW7 : Hid (GrRd x7 GP Bw) := hRw
          clear hRw hb HPO
          go_wp2_with (first | (refine alloc31 rfl rfl ?_; intro x8 tb hBtb hktb hltb hgtb) | (refine store31 rfl rfl tb rfl rfl hBtb ?_; intro x9 hSx9 hTx9; have k79 := But.to hktb hgtb hTx9) | (refine load31 rfl rfl bb rfl (HB0.out.1.keep (HK6.out.trans (HK67.out.trans k79)) (by rw [GL_len]; decide)) ?_))
          have k69 : Keeps x6 x9 := HK67.out.trans k79
          have HK9 : Hid (Keeps x0 x9) := HK6.out.trans k69
          have HU9 : Hid (CBox ub (GL GP Bu) x9 ∧ GrRd x9 GP Bu) := ⟨HU6.out.1.keep k69 (by rw [GL_len]; decide), HU6.out.2.keep k69⟩
          have HV9 : Hid (CBox vb (GL GR Bv) x9 ∧ GrRd x9 GR Bv) := ⟨HV6.out.1.keep k69 (by rw [GL_len]; decide), HV6.out.2.keep k69⟩
          have HW9 : Hid (CBox tb (GL GP Bw) x9 ∧ GrRd x9 GP Bw) := ⟨hSx9, HW7.out.keep k79⟩
          clear k69 k79 hBtb hktb hltb hgtb hSx9 hTx9 HW7 HK67 HU6 HV6 HK6
          refine (HRO.out x9 (HK0.out.trans HK9.out)).mono ?_
          rintro y x10 ⟨Bo, hRo, rfl, hb⟩
          have HK910 : Hid (Keeps x9 x10) := hb
          have HT10 : Hid (GrRd x10 GR Bo) := hRo
          clear hRo hb HRO
          go_wp2_with (first | (refine alloc31 rfl rfl ?_; intro x11 ob hBob hkob hlob hgob) | (refine store31 rfl rfl ob rfl rfl hBob ?_; intro x12 hSx12 hTx12; have k1012 := But.to hkob hgob hTx12))
          have k912 : Keeps x9 x12 := HK910.out.trans k1012
          have HK12 : Hid (Keeps x0 x12) := HK9.out.trans k912
          refine (group_begun x12).mono ?_
          rintro y x13 ⟨rfl, hb⟩
          have k913 : Keeps x9 x13 := k912.trans hb
          have HK13 : Hid (Keeps x0 x13) := HK12.out.trans hb
          have HU13 : Hid (CBox ub (GL GP Bu) x13 ∧ GrRd x13 GP Bu) := ⟨HU9.out.1.keep k913 (by rw [GL_len]; decide), HU9.out.2.keep k913⟩
          have HV13 : Hid (CBox vb (GL GR Bv) x13 ∧ GrRd x13 GR Bv) := ⟨HV9.out.1.keep k913 (by rw [GL_len]; decide), HV9.out.2.keep k913⟩
          have HW13 : Hid (CBox tb (GL GP Bw) x13 ∧ GrRd x13 GP Bw) := ⟨HW9.out.1.keep k913 (by rw [GL_len]; decide), HW9.out.2.keep k913⟩
          have HT13 : Hid (CBox ob (GL GR Bo) x13 ∧ GrRd x13 GR Bo) := ⟨hSx12.keep hb (by rw [GL_len]; decide), HT10.out.keep (k1012.trans hb)⟩
          have HB13 : Hid (CBox bb (GL g A) x13 ∧ CBox wb (GL g B0) x13 ∧ GrRd x13 g B0 ∧ Keeps w x13) := ⟨HB0.out.1.keep HK13.out (by rw [GL_len]; decide), HB0.out.2.keep HK13.out (by rw [GL_len]; decide), HO0.out.keep HK13.out, HK0.out.trans HK13.out⟩
          clear k912 k1012 k913 hb hBob hkob hlob hgob hSx12 hTx12 HU9 HV9 HW9 HT10 HK910 HK9 HB0 HO0 HE0 HK12 HK13
          go_wp2_with (first | (refine load31w (by kernel_rfl) rfl bb rfl HB13.out.1 ?_) | (refine load31w (by kernel_rfl) rfl wb rfl HB13.out.2.1 ?_))
          refine (HSG.out x13 B0 HB13.out.2.2.2 HB13.out.2.2.1).mono ?_
          rintro y x14 ⟨rfl, hb⟩
          have HQ14 : Hid (CBox ub (GL GP Bu) x14 ∧ CBox tb (GL GP Bw) x14 ∧ GrRd x14 GP Bu ∧ GrRd x14 GP Bw) := ⟨HU13.out.1.keep hb (by rw [GL_len]; decide), HW13.out.1.keep hb (by rw [GL_len]; decide), HU13.out.2.keep hb, HW13.out.2.keep hb⟩
          have HR14 : Hid (CBox vb (GL GR Bv) x14 ∧ CBox ob (GL GR Bo) x14 ∧ GrRd x14 GR Bv ∧ GrRd x14 GR Bo) := ⟨HV13.out.1.keep hb (by rw [GL_len]; decide), HT13.out.1.keep hb (by rw [GL_len]; decide), HV13.out.2.keep hb, HT13.out.2.keep hb⟩
          have HK14 : Hid (Keeps w x14) := HB13.out.2.2.2.trans hb
          clear hb HU13 HV13 HW13 HT13 HB13 HSG
          go_wp2_with (first | (refine load31w (by kernel_rfl) rfl ub rfl HQ14.out.1 ?_) | (refine load31w (by kernel_rfl) rfl tb rfl HQ14.out.2.1 ?_))
          refine (same_groups GP Bu Bw x14 HQ14.out.2.2.1 HQ14.out.2.2.2).mono ?_
          rintro y x15 ⟨rfl, hb⟩
          have HR15 : Hid (CBox vb (GL GR Bv) x15 ∧ CBox ob (GL GR Bo) x15 ∧ GrRd x15 GR Bv ∧ GrRd x15 GR Bo) := ⟨HR14.out.1.keep hb (by rw [GL_len]; decide), HR14.out.2.1.keep hb (by rw [GL_len]; decide), HR14.out.2.2.1.keep hb, HR14.out.2.2.2.keep hb⟩
          have HK15 : Hid (Keeps w x15) := HK14.out.trans hb
          clear hb HQ14 HR14 HK14
          go_wp2_with (first | (refine load31w (by kernel_rfl) rfl vb rfl HR15.out.1 ?_) | (refine load31w (by kernel_rfl) rfl ob rfl HR15.out.2.1 ?_))
          refine (same_groups GR Bv Bo x15 HR15.out.2.2.1 HR15.out.2.2.2).mono ?_
          rintro y x16 ⟨rfl, hb⟩
          have HK16 : Hid (Keeps w x16) := HK15.out.trans hb
          clear hb HR15 HK15
          go_wp2_with fail
          go_ret
          exact ⟨by first | rfl | simp, HK16.out⟩
end Go.Proofs.YteabfjpajgakiagGreat
