/- GrPr, GrQc. -/
import Derived.Deep.DeepCutAuto
import Derived.Test.YteabfjpajgakiafGreatJ17
import Derived.Test.YteabfjpajgakiafGreatJ20
import Derived.Test.YteabfjpajgakiafGreatJ22
import Derived.Test.YteabfjpajgakiafGreatJ24
/- The reference's GroupRun. -/
set_option linter.unusedSimpArgs false
set_option linter.unusedVariables false
set_option maxRecDepth 10000
namespace Go.Proofs.YteabfjpajgakiafGreat
open Go.RowKit

set_option maxHeartbeats 4000000 in
theorem group_run_of (g : Grp) (A : Ad) (i n : Int) (w : World) (hG : GrAt w g A) : Calls Tryz.prog 13 #[.agg (GL g A).toArray, .int .i64 i, .int .i64 n] w fun y w' => ∃ B, GrRd w' (rgG g i n) B ∧ y = .returned (.tuple #[.agg (GL (rgG g i n) B).toArray, .int .i64 (rgNum g i n), .int .i64 (rgErr g i n)]) ∧ Keeps w w' := by
  have HG : Hid (GrAt w g A) := hG
  clear hG
  have HGE : Hid (∀ W, Keeps w W → Calls Tryz.prog 9 #[.agg (GL g A).toArray] W fun e w' => e = .returned (.int .i64 (grErr g)) ∧ Keeps W w') := fun W hk => group_error g A W (HG.out.keep hk)
  cases q : (grErr g == 0) with
  | false =>
    have q' : (grErr g != 0) = true := by simp [bne, q]
    have e0 : rgErr g i n = grErr g := by unfold rgErr; rw [q]; rfl
    have hne : (rgErr g i n == 0) = false := by rw [e0]; exact q
    have e1 : rgG g i n = zeroGrp := by unfold rgG; rw [hne]; rfl
    have e2 : rgNum g i n = 0 := by unfold rgNum; rw [hne]; rfl
    rw [e0, e1, e2]
    clear HG hne e0 e1 e2
    generalize grErr g = er at *
    go_enter Tryz.func13, Tryz.ntmps13
    go_wp2_with (first | (refine box31 rfl rfl rfl ?_; intro w1 bb hBbb hkbb hlbb hgbb) | (refine alloc31 rfl rfl ?_; intro w3 r hBr hkr hlr hgr) | (refine load31 rfl rfl bb rfl (hBbb.keep hkr (by rw [GL_len]; decide)) ?_))
    have hk3 : Keeps w w3 := hkbb.trans hkr
    refine (HGE.out w3 hk3).mono ?_
    rintro y w4 ⟨rfl, hb⟩
    have HR4 : Hid (CBox r (GL zeroGrp zeroAd) w4) := hBr.keep hb (by rw [GL_len]; decide)
    have HRG : Hid (w.heap.size ≤ r) := Nat.le_trans hkbb.size hgr
    have HRL : Hid (r < w4.heap.size) := Nat.lt_of_lt_of_le hlr hb.size
    have HK4 : Hid (Keeps w w4) := hk3.trans hb
    have HBB : Hid (CBox bb (GL g A) w4) := (hBbb.keep hkr (by rw [GL_len]; decide)).keep hb (by rw [GL_len]; decide)
    clear hb hk3 hBbb hkbb hlbb hgbb hBr hkr hlr hgr HGE 
    go_wp2_with (first | (refine build31z rfl rfl ?_) | (refine store31 rfl rfl r rfl rfl HR4.out ?_; intro w5 hSw5 hTw5))
    refine bodyPost_ret (results3 Tryz.results13 rfl rfl rfl (read31 hSw5)) rfl ?_
    exact ⟨zeroAd, (GrOwn.zero 0 _).at.rd, rfl, But.to HK4.out HRG.out hTw5⟩
  | true =>
    have q' : (grErr g != 0) = false := by simp [bne, q]
    have q0 : grErr g = 0 := by simpa using q
    rw [q0] at HGE
    have HOG : Hid (∀ W, Keeps w W → Calls Tryz.prog 18 #[.agg (GL g A).toArray] W fun e w' => ∃ B, GrOwn W.heap.size w' g B ∧ e = .returned (.agg (GL g B).toArray) ∧ Keeps W w') := fun W hk => own_group g A W (HG.out.keep hk) q0
    cases hi : inB i 0 2 with
    | false =>
      have HIn : Hid (inB i 0 2 = false) := hi
      have e0 : rgErr g i n = 3 := by unfold rgErr rnErr; rw [q, hi]; rfl
      have hne : (rgErr g i n == 0) = false := by rw [e0]; rfl
      have e1 : rgG g i n = zeroGrp := by unfold rgG; rw [hne]; rfl
      have e2 : rgNum g i n = 0 := by unfold rgNum; rw [hne]; rfl
      rw [e0, e1, e2]
      clear hne e0 e1 e2 hi
      go_enter Tryz.func13, Tryz.ntmps13
      go_wp2_with (first | (refine box31 rfl rfl rfl ?_; intro w1 bb hBbb hkbb hlbb hgbb) | (refine alloc31 rfl rfl ?_; intro w3 r hBr hkr hlr hgr) | (refine load31 rfl rfl bb rfl (hBbb.keep hkr (by rw [GL_len]; decide)) ?_))
      have hk3 : Keeps w w3 := hkbb.trans hkr
      refine (HGE.out w3 hk3).mono ?_
      rintro y w4 ⟨rfl, hb⟩
      have HR4 : Hid (CBox r (GL zeroGrp zeroAd) w4) := hBr.keep hb (by rw [GL_len]; decide)
      have HRG : Hid (w.heap.size ≤ r) := Nat.le_trans hkbb.size hgr
      have HRL : Hid (r < w4.heap.size) := Nat.lt_of_lt_of_le hlr hb.size
      have HK4 : Hid (Keeps w w4) := hk3.trans hb
      have HBB : Hid (CBox bb (GL g A) w4) := (hBbb.keep hkr (by rw [GL_len]; decide)).keep hb (by rw [GL_len]; decide)
      clear hb hk3 hBbb hkbb hlbb hgbb hBr hkr hlr hgr HGE 
      go_wp2_with (first | (go_at_call 31; refine (within_c _ _ _ _).mono ?_; rw [HIn.out]; rintro y w' ⟨rfl, rfl⟩) | (refine build31z rfl rfl ?_) | (refine store31 rfl rfl r rfl rfl HR4.out ?_; intro w5 hSw5 hTw5))
      refine bodyPost_ret (results3 Tryz.results13 rfl rfl rfl (read31 hSw5)) rfl ?_
      exact ⟨zeroAd, (GrOwn.zero 0 _).at.rd, rfl, But.to HK4.out HRG.out hTw5⟩
    | true =>
      have h' := inB_iff.1 hi
      obtain ⟨k, rfl⟩ : ∃ k : Nat, i = k := ⟨i.toNat, by omega⟩
      have hk3 : k < 3 := by omega
      have HIn : Hid (inB (k : Int) 0 2 = true) := hi
      have HC : Hid (∀ W, Keeps w W → Calls Tryz.prog 32 #[logV g A, nodeV g A k, .int .i64 n] W fun y w' => ∃ qa qc, OwnTab W.heap.size w' (.slice qa (runOut g.log (nodeAt g k) n).tab.length qc) (runOut g.log (nodeAt g k) n).tab ∧ y = .returned (.tuple #[stV (runOut g.log (nodeAt g k) n) (.slice qa (runOut g.log (nodeAt g k) n).tab.length qc), .int .i64 (runNum g.log (nodeAt g k) n), .int .i64 (runErr g.log (nodeAt g k) n)]) ∧ Keeps W w') := fun W hk => by
        have hg := HG.out.keep hk
        exact run_own g.log (nodeAt g k) n _ _ A.ta A.tc W hg.base hg.tail (hg.tab k) hg.cap
      have a0 : rgErr g k n = runErr g.log (nodeAt g k) n := by unfold rgErr rnErr; rw [q, hi]; rfl
      have a1 : rgG g k n = if runErr g.log (nodeAt g k) n == 0 then setNode g k (runOut g.log (nodeAt g k) n) else zeroGrp := by unfold rgG rnOut; rw [a0]; rfl
      have a2 : rgNum g k n = if runErr g.log (nodeAt g k) n == 0 then runNum g.log (nodeAt g k) n else 0 := by unfold rgNum rnNum; rw [a0, hi]; rfl
      rw [a0, a1, a2]
      clear a0 a1 a2 hi h'
      generalize runErr g.log (nodeAt g k) n = er at *
      generalize runNum g.log (nodeAt g k) n = nu at *
      generalize runOut g.log (nodeAt g k) n = s' at *
      cases q1 : (er == 0) with
      | false =>
        have q1' : (er != 0) = true := by simp [bne, q1]
        simp only [Bool.false_eq_true, if_false]
        go_enter Tryz.func13, Tryz.ntmps13
        go_wp2_with (first | (refine box31 rfl rfl rfl ?_; intro w1 bb hBbb hkbb hlbb hgbb) | (refine alloc31 rfl rfl ?_; intro w3 r hBr hkr hlr hgr) | (refine load31 rfl rfl bb rfl (hBbb.keep hkr (by rw [GL_len]; decide)) ?_))
        have hk3 : Keeps w w3 := hkbb.trans hkr
        refine (HGE.out w3 hk3).mono ?_
        rintro y w4 ⟨rfl, hb⟩
        have HR4 : Hid (CBox r (GL zeroGrp zeroAd) w4) := hBr.keep hb (by rw [GL_len]; decide)
        have HRG : Hid (w.heap.size ≤ r) := Nat.le_trans hkbb.size hgr
        have HRL : Hid (r < w4.heap.size) := Nat.lt_of_lt_of_le hlr hb.size
        have HK4 : Hid (Keeps w w4) := hk3.trans hb
        have HBB : Hid (CBox bb (GL g A) w4) := (hBbb.keep hkr (by rw [GL_len]; decide)).keep hb (by rw [GL_len]; decide)
        clear hb hk3 hBbb hkbb hlbb hgbb hBr hkr hlr hgr HGE 
        go_wp2_with (first | (go_at_call 31; refine (within_c _ _ _ _).mono ?_; rw [HIn.out]; rintro y w' ⟨rfl, rfl⟩))
        go_cut [10, 11, 12] (fun p q r' wc => ∃ sb qa qc, p = .pointer (some ⟨sb, 0, none⟩) ∧ q = .int .i64 nu ∧ r' = .int .i64 er ∧ CBox sb (SC s' (.slice qa s'.tab.length qc)) wc ∧ Keeps w4 wc ∧ w4.heap.size ≤ sb ∧ OwnTab w4.heap.size wc (.slice qa s'.tab.length qc) s'.tab)
        case first =>
          refine wp_region_held_drew (S := fun W => Keeps w4 W) (by kernel_rfl) (Keeps.refl _).drew (fun hS => ?_)
          obtain ⟨V0, hV0⟩ : ∃ z, z = w4.drew := ⟨_, rfl⟩
          rw [← hV0] at hS ⊢
          clear hV0
          refine wpAnyH_take (i := 0) (v := .pointer (some ⟨bb, 0, none⟩)) rfl (by kernel_rfl) (by kernel_rfl) (by kernel_rfl) (fun _ _ _ h => h) (Or.inl ⟨by kernel_rfl, fun w _ => by kernel_rfl⟩) hS ?_
          refine wpAnyH_take (i := 1) (v := logV g A) rfl (by kernel_rfl) (by kernel_rfl) (by kernel_rfl) (fun _ _ _ h => h) (y_load28 (by kernel_rfl) rfl bb (by kernel_rfl) (fun W h => HBB.out.keep h (by rw [GL_len]; decide))) hS ?_
          refine wpAnyH_take (i := 2) (v := .int .i64 k) rfl (by kernel_rfl) (by kernel_rfl) (by kernel_rfl) (fun _ _ _ h => h) (Or.inl ⟨by kernel_rfl, fun w _ => by kernel_rfl⟩) hS ?_
          refine wpAnyH_take (i := 3) (v := .pointer (some ⟨bb, 8, none⟩)) rfl (by kernel_rfl) (by kernel_rfl) (by kernel_rfl) (fun _ _ _ h => h) (Or.inl ⟨by kernel_rfl, fun w _ => by kernel_rfl⟩) hS ?_
          refine wpAnyH_take (i := 4) (v := .pointer (some ⟨bb, 8 + k * 7, none⟩)) rfl (by kernel_rfl) (by kernel_rfl) (by kernel_rfl) (fun _ _ _ h => h) (y_index (by kernel_rfl) rfl bb k hk3 (by kernel_rfl) (by kernel_rfl)) hS ?_
          refine wpAnyH_take (i := 5) (v := nodeV g A k) rfl (by kernel_rfl) (by kernel_rfl) (by kernel_rfl) (fun _ _ _ h => h) (y_load25 (by kernel_rfl) rfl bb k hk3 (8 + k * 7) rfl (by kernel_rfl) (fun W h => HBB.out.keep h (by rw [GL_len]; decide))) hS ?_
          refine wpAnyH_take (i := 6) (v := .int .i64 n) rfl (by kernel_rfl) (by kernel_rfl) (by kernel_rfl) (fun _ _ _ h => h) (Or.inl ⟨by kernel_rfl, fun w _ => by kernel_rfl⟩) hS ?_
          refine wpAnyH_ready (rs := [7, 12]) (by kernel_rfl) (by simp) ?_
          refine AllReadyH.wrp rfl (by kernel_rfl) (fun K hK => ?_) (AllReadyH.wrp rfl (by kernel_rfl) (fun K hK => ?_) (AllReadyH.nil))
          · have hV := hS.size
            refine h_call ?_
            go_simp
            refine (HC.out _ (HK4.out.trans hS)).mono ?_
            rintro y w5 ⟨qa, qc, ho, rfl, hb⟩
            go_simp
            refine hK.out _ _ (hS.trans hb) (fun hS => ?_)
            clear hK K
            refine wpAnyH_take (i := 8) (v := .tuple #[stV s' (.slice qa s'.tab.length qc), .int .i64 nu, .int .i64 er]) rfl (by kernel_rfl) (by kernel_rfl) (by kernel_rfl) (fun _ _ _ h => h) (Or.inl ⟨by kernel_rfl, fun w _ => by kernel_rfl⟩) hS ?_
            refine wpAnyH_take (i := 9) (v := stV s' (.slice qa s'.tab.length qc)) rfl (by kernel_rfl) (by kernel_rfl) (by kernel_rfl) (fun _ _ _ h => h) (Or.inl ⟨by kernel_rfl, fun w _ => by kernel_rfl⟩) hS ?_
            refine wpAnyH_take (i := 10) (v := .int .i64 nu) rfl (by kernel_rfl) (by kernel_rfl) (by kernel_rfl) (fun _ _ _ h => h) (Or.inl ⟨by kernel_rfl, fun w _ => by kernel_rfl⟩) hS ?_
            refine wpAnyH_take (i := 11) (v := .int .i64 er) rfl (by kernel_rfl) (by kernel_rfl) (by kernel_rfl) (fun _ _ _ h => h) (Or.inl ⟨by kernel_rfl, fun w _ => by kernel_rfl⟩) hS ?_
            refine wpAnyH_ready (rs := [12]) (by kernel_rfl) (by simp) ?_
            refine AllReadyH.wrp rfl (by kernel_rfl) (fun K hK => ?_) (AllReadyH.nil)
            have hSS := hS
            refine h_alloc25 rfl ?_
            intro w6 sb hBsb hksb hlsb hgsb
            have hsg : w4.heap.size ≤ sb := Nat.le_trans hSS.size hgsb
            refine hK.out _ _ (hS.trans hksb) (fun hS => ?_)
            clear hK K
            refine wpAnyH_ready (rs := [13]) (by kernel_rfl) (by simp) ?_
            refine AllReadyH.wrp rfl (by kernel_rfl) (fun K hK => ?_) (AllReadyH.nil)
            refine h_store25b rfl sb (by kernel_rfl) (s := s') (xa := qa) (xn := s'.tab.length) (xc := qc) (by kernel_rfl) (hBsb) ?_
            intro w7 hSw7 hTw7
            have k57 : Keeps w5 w7 := But.to hksb hgsb hTw7
            refine hK.out _ _ (But.to hS hsg hTw7) (fun hS => ?_)
            clear hK K
            refine wpAnyH_take (i := 14) (v := .int .i64 nu) rfl (by kernel_rfl) (by kernel_rfl) (by kernel_rfl) (fun _ _ _ h => h) (Or.inl ⟨by kernel_rfl, fun w _ => by kernel_rfl⟩) hS ?_
            refine wpAnyH_take (i := 15) (v := .int .i64 er) rfl (by kernel_rfl) (by kernel_rfl) (by kernel_rfl) (fun _ _ _ h => h) (Or.inl ⟨by kernel_rfl, fun w _ => by kernel_rfl⟩) hS ?_
            refine wpAnyH_done (by kernel_rfl) ?_ _
            go_wp2_with fail
            go_meet
            exact ⟨sb, qa, qc, rfl, rfl, rfl, hSw7, hS, hsg, (ho.keep k57).base hV⟩
          · have hV := hS.size
            refine h_alloc25 rfl ?_
            intro w6 sb hBsb hksb hlsb hgsb
            have hV3 := Nat.le_trans hV hksb.size
            have hsg := Nat.le_trans hV hgsb
            refine hK.out _ _ (hS.trans hksb) (fun hS => ?_)
            clear hK K
            refine wpAnyH_ready (rs := [7]) (by kernel_rfl) (by simp) ?_
            refine AllReadyH.wrp rfl (by kernel_rfl) (fun K hK => ?_) (AllReadyH.nil)
            refine h_call ?_
            go_simp
            refine (HC.out _ (HK4.out.trans hS)).mono ?_
            rintro y w5 ⟨qa, qc, ho, rfl, hb⟩
            go_simp
            refine hK.out _ _ (hS.trans hb) (fun hS => ?_)
            clear hK K
            refine wpAnyH_take (i := 8) (v := .tuple #[stV s' (.slice qa s'.tab.length qc), .int .i64 nu, .int .i64 er]) rfl (by kernel_rfl) (by kernel_rfl) (by kernel_rfl) (fun _ _ _ h => h) (Or.inl ⟨by kernel_rfl, fun w _ => by kernel_rfl⟩) hS ?_
            refine wpAnyH_take (i := 9) (v := stV s' (.slice qa s'.tab.length qc)) rfl (by kernel_rfl) (by kernel_rfl) (by kernel_rfl) (fun _ _ _ h => h) (Or.inl ⟨by kernel_rfl, fun w _ => by kernel_rfl⟩) hS ?_
            refine wpAnyH_take (i := 10) (v := .int .i64 nu) rfl (by kernel_rfl) (by kernel_rfl) (by kernel_rfl) (fun _ _ _ h => h) (Or.inl ⟨by kernel_rfl, fun w _ => by kernel_rfl⟩) hS ?_
            refine wpAnyH_take (i := 11) (v := .int .i64 er) rfl (by kernel_rfl) (by kernel_rfl) (by kernel_rfl) (fun _ _ _ h => h) (Or.inl ⟨by kernel_rfl, fun w _ => by kernel_rfl⟩) hS ?_
            refine wpAnyH_ready (rs := [13]) (by kernel_rfl) (by simp) ?_
            refine AllReadyH.wrp rfl (by kernel_rfl) (fun K hK => ?_) (AllReadyH.nil)
            refine h_store25b rfl sb (by kernel_rfl) (s := s') (xa := qa) (xn := s'.tab.length) (xc := qc) (by kernel_rfl) (hBsb.keep hb (Nat.le_of_ble_eq_true rfl)) ?_
            intro w7 hSw7 hTw7
            refine hK.out _ _ (But.to hS hsg hTw7) (fun hS => ?_)
            clear hK K
            refine wpAnyH_take (i := 14) (v := .int .i64 nu) rfl (by kernel_rfl) (by kernel_rfl) (by kernel_rfl) (fun _ _ _ h => h) (Or.inl ⟨by kernel_rfl, fun w _ => by kernel_rfl⟩) hS ?_
            refine wpAnyH_take (i := 15) (v := .int .i64 er) rfl (by kernel_rfl) (by kernel_rfl) (by kernel_rfl) (fun _ _ _ h => h) (Or.inl ⟨by kernel_rfl, fun w _ => by kernel_rfl⟩) hS ?_
            refine wpAnyH_done (by kernel_rfl) ?_ _
            go_wp2_with fail
            go_meet
            exact ⟨sb, qa, qc, rfl, rfl, rfl, hSw7, hS, hsg, (ho.but hlsb hTw7).base hV3⟩
        case rest =>
          obtain ⟨sb, qa, qc, rfl, rfl, rfl, hL, hk, hsg, ho⟩ := hcut
          have HK7 : Hid (Keeps w wc) := HK4.out.trans hk
          have HR7 : Hid (CBox r (GL zeroGrp zeroAd) wc) := HR4.out.keep hk (by rw [GL_len]; decide)
          have HBB7 : Hid (CBox bb (GL g A) wc) := HBB.out.keep hk (by rw [GL_len]; decide)
          have HO7 : Hid (OwnTab w4.heap.size wc (.slice qa s'.tab.length qc) s'.tab) := ho
          have HL7 : Hid (CBox sb (SC s' (.slice qa s'.tab.length qc)) wc) := hL
          have HW47 : Hid (w4.heap.size ≤ wc.heap.size) := hk.size
          clear hL hk ho hsg HC
          go_wp2_with (first | (refine build31z rfl rfl ?_) | (refine store31 rfl rfl r rfl rfl HR7.out ?_; intro w8 hSw8 hTw8))
          refine bodyPost_ret (results3 Tryz.results13 rfl rfl rfl (read31 hSw8)) rfl ?_
          exact ⟨zeroAd, (GrOwn.zero 0 _).at.rd, rfl, But.to HK7.out HRG.out hTw8⟩
      | true =>
        obtain rfl : er = 0 := by simpa using q1
        have q1' : ((0 : Int) != 0) = false := rfl
        simp only [beq_self_eq_true, if_true]
        go_enter Tryz.func13, Tryz.ntmps13
        go_wp2_with (first | (refine box31 rfl rfl rfl ?_; intro w1 bb hBbb hkbb hlbb hgbb) | (refine alloc31 rfl rfl ?_; intro w3 r hBr hkr hlr hgr) | (refine load31 rfl rfl bb rfl (hBbb.keep hkr (by rw [GL_len]; decide)) ?_))
        have hk3 : Keeps w w3 := hkbb.trans hkr
        refine (HGE.out w3 hk3).mono ?_
        rintro y w4 ⟨rfl, hb⟩
        have HR4 : Hid (CBox r (GL zeroGrp zeroAd) w4) := hBr.keep hb (by rw [GL_len]; decide)
        have HRG : Hid (w.heap.size ≤ r) := Nat.le_trans hkbb.size hgr
        have HRL : Hid (r < w4.heap.size) := Nat.lt_of_lt_of_le hlr hb.size
        have HK4 : Hid (Keeps w w4) := hk3.trans hb
        have HBB : Hid (CBox bb (GL g A) w4) := (hBbb.keep hkr (by rw [GL_len]; decide)).keep hb (by rw [GL_len]; decide)
        clear hb hk3 hBbb hkbb hlbb hgbb hBr hkr hlr hgr HGE 
        go_wp2_with (first | (go_at_call 31; refine (within_c _ _ _ _).mono ?_; rw [HIn.out]; rintro y w' ⟨rfl, rfl⟩))
        go_cut [10, 11, 12] (fun p q r' wc => ∃ sb qa qc, p = .pointer (some ⟨sb, 0, none⟩) ∧ q = .int .i64 nu ∧ r' = .int .i64 0 ∧ CBox sb (SC s' (.slice qa s'.tab.length qc)) wc ∧ Keeps w4 wc ∧ w4.heap.size ≤ sb ∧ OwnTab w4.heap.size wc (.slice qa s'.tab.length qc) s'.tab)
        case first =>
          refine wp_region_held_drew (S := fun W => Keeps w4 W) (by kernel_rfl) (Keeps.refl _).drew (fun hS => ?_)
          obtain ⟨V0, hV0⟩ : ∃ z, z = w4.drew := ⟨_, rfl⟩
          rw [← hV0] at hS ⊢
          clear hV0
          refine wpAnyH_take (i := 0) (v := .pointer (some ⟨bb, 0, none⟩)) rfl (by kernel_rfl) (by kernel_rfl) (by kernel_rfl) (fun _ _ _ h => h) (Or.inl ⟨by kernel_rfl, fun w _ => by kernel_rfl⟩) hS ?_
          refine wpAnyH_take (i := 1) (v := logV g A) rfl (by kernel_rfl) (by kernel_rfl) (by kernel_rfl) (fun _ _ _ h => h) (y_load28 (by kernel_rfl) rfl bb (by kernel_rfl) (fun W h => HBB.out.keep h (by rw [GL_len]; decide))) hS ?_
          refine wpAnyH_take (i := 2) (v := .int .i64 k) rfl (by kernel_rfl) (by kernel_rfl) (by kernel_rfl) (fun _ _ _ h => h) (Or.inl ⟨by kernel_rfl, fun w _ => by kernel_rfl⟩) hS ?_
          refine wpAnyH_take (i := 3) (v := .pointer (some ⟨bb, 8, none⟩)) rfl (by kernel_rfl) (by kernel_rfl) (by kernel_rfl) (fun _ _ _ h => h) (Or.inl ⟨by kernel_rfl, fun w _ => by kernel_rfl⟩) hS ?_
          refine wpAnyH_take (i := 4) (v := .pointer (some ⟨bb, 8 + k * 7, none⟩)) rfl (by kernel_rfl) (by kernel_rfl) (by kernel_rfl) (fun _ _ _ h => h) (y_index (by kernel_rfl) rfl bb k hk3 (by kernel_rfl) (by kernel_rfl)) hS ?_
          refine wpAnyH_take (i := 5) (v := nodeV g A k) rfl (by kernel_rfl) (by kernel_rfl) (by kernel_rfl) (fun _ _ _ h => h) (y_load25 (by kernel_rfl) rfl bb k hk3 (8 + k * 7) rfl (by kernel_rfl) (fun W h => HBB.out.keep h (by rw [GL_len]; decide))) hS ?_
          refine wpAnyH_take (i := 6) (v := .int .i64 n) rfl (by kernel_rfl) (by kernel_rfl) (by kernel_rfl) (fun _ _ _ h => h) (Or.inl ⟨by kernel_rfl, fun w _ => by kernel_rfl⟩) hS ?_
          refine wpAnyH_ready (rs := [7, 12]) (by kernel_rfl) (by simp) ?_
          refine AllReadyH.wrp rfl (by kernel_rfl) (fun K hK => ?_) (AllReadyH.wrp rfl (by kernel_rfl) (fun K hK => ?_) (AllReadyH.nil))
          · have hV := hS.size
            refine h_call ?_
            go_simp
            refine (HC.out _ (HK4.out.trans hS)).mono ?_
            rintro y w5 ⟨qa, qc, ho, rfl, hb⟩
            go_simp
            refine hK.out _ _ (hS.trans hb) (fun hS => ?_)
            clear hK K
            refine wpAnyH_take (i := 8) (v := .tuple #[stV s' (.slice qa s'.tab.length qc), .int .i64 nu, .int .i64 0]) rfl (by kernel_rfl) (by kernel_rfl) (by kernel_rfl) (fun _ _ _ h => h) (Or.inl ⟨by kernel_rfl, fun w _ => by kernel_rfl⟩) hS ?_
            refine wpAnyH_take (i := 9) (v := stV s' (.slice qa s'.tab.length qc)) rfl (by kernel_rfl) (by kernel_rfl) (by kernel_rfl) (fun _ _ _ h => h) (Or.inl ⟨by kernel_rfl, fun w _ => by kernel_rfl⟩) hS ?_
            refine wpAnyH_take (i := 10) (v := .int .i64 nu) rfl (by kernel_rfl) (by kernel_rfl) (by kernel_rfl) (fun _ _ _ h => h) (Or.inl ⟨by kernel_rfl, fun w _ => by kernel_rfl⟩) hS ?_
            refine wpAnyH_take (i := 11) (v := .int .i64 0) rfl (by kernel_rfl) (by kernel_rfl) (by kernel_rfl) (fun _ _ _ h => h) (Or.inl ⟨by kernel_rfl, fun w _ => by kernel_rfl⟩) hS ?_
            refine wpAnyH_ready (rs := [12]) (by kernel_rfl) (by simp) ?_
            refine AllReadyH.wrp rfl (by kernel_rfl) (fun K hK => ?_) (AllReadyH.nil)
            have hSS := hS
            refine h_alloc25 rfl ?_
            intro w6 sb hBsb hksb hlsb hgsb
            have hsg : w4.heap.size ≤ sb := Nat.le_trans hSS.size hgsb
            refine hK.out _ _ (hS.trans hksb) (fun hS => ?_)
            clear hK K
            refine wpAnyH_ready (rs := [13]) (by kernel_rfl) (by simp) ?_
            refine AllReadyH.wrp rfl (by kernel_rfl) (fun K hK => ?_) (AllReadyH.nil)
            refine h_store25b rfl sb (by kernel_rfl) (s := s') (xa := qa) (xn := s'.tab.length) (xc := qc) (by kernel_rfl) (hBsb) ?_
            intro w7 hSw7 hTw7
            have k57 : Keeps w5 w7 := But.to hksb hgsb hTw7
            refine hK.out _ _ (But.to hS hsg hTw7) (fun hS => ?_)
            clear hK K
            refine wpAnyH_take (i := 14) (v := .int .i64 nu) rfl (by kernel_rfl) (by kernel_rfl) (by kernel_rfl) (fun _ _ _ h => h) (Or.inl ⟨by kernel_rfl, fun w _ => by kernel_rfl⟩) hS ?_
            refine wpAnyH_take (i := 15) (v := .int .i64 0) rfl (by kernel_rfl) (by kernel_rfl) (by kernel_rfl) (fun _ _ _ h => h) (Or.inl ⟨by kernel_rfl, fun w _ => by kernel_rfl⟩) hS ?_
            refine wpAnyH_done (by kernel_rfl) ?_ _
            go_wp2_with fail
            go_meet
            exact ⟨sb, qa, qc, rfl, rfl, rfl, hSw7, hS, hsg, (ho.keep k57).base hV⟩
          · have hV := hS.size
            refine h_alloc25 rfl ?_
            intro w6 sb hBsb hksb hlsb hgsb
            have hV3 := Nat.le_trans hV hksb.size
            have hsg := Nat.le_trans hV hgsb
            refine hK.out _ _ (hS.trans hksb) (fun hS => ?_)
            clear hK K
            refine wpAnyH_ready (rs := [7]) (by kernel_rfl) (by simp) ?_
            refine AllReadyH.wrp rfl (by kernel_rfl) (fun K hK => ?_) (AllReadyH.nil)
            refine h_call ?_
            go_simp
            refine (HC.out _ (HK4.out.trans hS)).mono ?_
            rintro y w5 ⟨qa, qc, ho, rfl, hb⟩
            go_simp
            refine hK.out _ _ (hS.trans hb) (fun hS => ?_)
            clear hK K
            refine wpAnyH_take (i := 8) (v := .tuple #[stV s' (.slice qa s'.tab.length qc), .int .i64 nu, .int .i64 0]) rfl (by kernel_rfl) (by kernel_rfl) (by kernel_rfl) (fun _ _ _ h => h) (Or.inl ⟨by kernel_rfl, fun w _ => by kernel_rfl⟩) hS ?_
            refine wpAnyH_take (i := 9) (v := stV s' (.slice qa s'.tab.length qc)) rfl (by kernel_rfl) (by kernel_rfl) (by kernel_rfl) (fun _ _ _ h => h) (Or.inl ⟨by kernel_rfl, fun w _ => by kernel_rfl⟩) hS ?_
            refine wpAnyH_take (i := 10) (v := .int .i64 nu) rfl (by kernel_rfl) (by kernel_rfl) (by kernel_rfl) (fun _ _ _ h => h) (Or.inl ⟨by kernel_rfl, fun w _ => by kernel_rfl⟩) hS ?_
            refine wpAnyH_take (i := 11) (v := .int .i64 0) rfl (by kernel_rfl) (by kernel_rfl) (by kernel_rfl) (fun _ _ _ h => h) (Or.inl ⟨by kernel_rfl, fun w _ => by kernel_rfl⟩) hS ?_
            refine wpAnyH_ready (rs := [13]) (by kernel_rfl) (by simp) ?_
            refine AllReadyH.wrp rfl (by kernel_rfl) (fun K hK => ?_) (AllReadyH.nil)
            refine h_store25b rfl sb (by kernel_rfl) (s := s') (xa := qa) (xn := s'.tab.length) (xc := qc) (by kernel_rfl) (hBsb.keep hb (Nat.le_of_ble_eq_true rfl)) ?_
            intro w7 hSw7 hTw7
            refine hK.out _ _ (But.to hS hsg hTw7) (fun hS => ?_)
            clear hK K
            refine wpAnyH_take (i := 14) (v := .int .i64 nu) rfl (by kernel_rfl) (by kernel_rfl) (by kernel_rfl) (fun _ _ _ h => h) (Or.inl ⟨by kernel_rfl, fun w _ => by kernel_rfl⟩) hS ?_
            refine wpAnyH_take (i := 15) (v := .int .i64 0) rfl (by kernel_rfl) (by kernel_rfl) (by kernel_rfl) (fun _ _ _ h => h) (Or.inl ⟨by kernel_rfl, fun w _ => by kernel_rfl⟩) hS ?_
            refine wpAnyH_done (by kernel_rfl) ?_ _
            go_wp2_with fail
            go_meet
            exact ⟨sb, qa, qc, rfl, rfl, rfl, hSw7, hS, hsg, (ho.but hlsb hTw7).base hV3⟩
        case rest =>
          obtain ⟨sb, qa, qc, rfl, rfl, rfl, hL, hk, hsg, ho⟩ := hcut
          have HK7 : Hid (Keeps w wc) := HK4.out.trans hk
          have HR7 : Hid (CBox r (GL zeroGrp zeroAd) wc) := HR4.out.keep hk (by rw [GL_len]; decide)
          have HBB7 : Hid (CBox bb (GL g A) wc) := HBB.out.keep hk (by rw [GL_len]; decide)
          have HO7 : Hid (OwnTab w4.heap.size wc (.slice qa s'.tab.length qc) s'.tab) := ho
          have HL7 : Hid (CBox sb (SC s' (.slice qa s'.tab.length qc)) wc) := hL
          have HW47 : Hid (w4.heap.size ≤ wc.heap.size) := hk.size
          clear hL hk ho hsg HC
          go_wp2_with (first | (refine load31 rfl rfl bb rfl HBB7.out ?_))
          refine (HOG.out wc HK7.out).mono ?_
          rintro y w8 ⟨B, ho, rfl, hb⟩
          have HG8 : Hid (GrOwn wc.heap.size w8 g B) := ho
          have HK78 : Hid (Keeps wc w8) := hb
          have HL8 : Hid (CBox sb (SC s' (.slice qa s'.tab.length qc)) w8) := HL7.out.keep hb (Nat.le_of_ble_eq_true rfl)
          clear ho hb HL7
          have hix := fun b W => idx_addr b k hk3 W
          go_wp2_with (first | (refine alloc31 rfl rfl ?_; intro w9 ob hBob hkob hlob hgob) | (refine store31 rfl rfl ob rfl rfl hBob ?_; intro w10 hSw10 hTw10) | (refine load25b rfl rfl sb rfl (HL8.out.keep (But.to hkob hgob hTw10) (Nat.le_of_ble_eq_true rfl)) ?_) | (refine store25 rfl rfl ob k hk3 (8 + k * 7) rfl rfl (s := s') (xa := qa) (xc := qc) rfl hSw10 ?_; intro w11 hSw11 hTw11) | (refine load31 rfl rfl ob rfl hSw11 ?_) | (refine store31 rfl rfl r rfl rfl ((HR7.out.keep HK78.out (by rw [GL_len]; decide)).keep (But.to (But.to hkob hgob hTw10) hgob hTw11) (by rw [GL_len]; decide)) ?_; intro w12 hSw12 hTw12))
          have HK811 : Hid (Keeps w8 w11) := But.to (But.to hkob hgob hTw10) hgob hTw11
          have hr7 : r < wc.heap.size := HR7.out.lt (by rw [GL_len]; decide)
          refine bodyPost_ret (results3 Tryz.results13 rfl rfl rfl (read31 hSw12)) rfl ?_
          have hgo := ((HG8.out.keep HK811.out).but hr7 hTw12).mono (Nat.zero_le _)
          have hso := (((HO7.out.keep HK78.out).keep HK811.out).but HRL.out hTw12).base (Nat.zero_le _)
          exact ⟨_, (hgo.setNode hso k).at.rd, rfl, But.to (HK7.out.trans (HK78.out.trans HK811.out)) HRG.out hTw12⟩
end Go.Proofs.YteabfjpajgakiafGreat

/- OWN: CutOf, with the room of its tail. -/
set_option linter.unusedSimpArgs false
set_option linter.unusedVariables false
set_option maxRecDepth 10000
namespace Go.Proofs.YteabfjpajgakiafGreat
open Go.RowKit

set_option maxHeartbeats 4000000 in
theorem cut_own (l : Lg) (m : Int) (x : Value) (ta : Option Addr) (tc : Nat) (w : World) (hT : TabAt w x l.base.tab) (hL : EntsAt w (.slice ta l.tail.length tc) l.tail) (hcap : l.tail.length ≤ tc) :
    Calls Tryz.prog 33 #[lgV l x (.slice ta l.tail.length tc), .int .i64 m] w fun y w' => ∃ qa qc ea ec, OwnTab w.heap.size w' (.slice qa (cutLg l m).base.tab.length qc) (cutLg l m).base.tab ∧ w'.ownsRow w.heap.size 35 9 (.slice ea (cutLg l m).tail.length ec) (cutLg l m).tail.length (entCells (cutLg l m).tail) ∧ (cutLg l m).tail.length ≤ ec ∧
      y = .returned (.tuple #[lgV (cutLg l m) (.slice qa (cutLg l m).base.tab.length qc) (.slice ea (cutLg l m).tail.length ec), .int .i64 (cutErr l m)]) ∧ Keeps w w' := by
  obtain ⟨xa, xc, rfl, _⟩ := hT.len
  have HT : Hid (TabAt w (.slice xa l.base.tab.length xc) l.base.tab) := hT
  have HL : Hid (EntsAt w (.slice ta l.tail.length tc) l.tail) := hL
  have hlen := hL.2.1
  unfold maxLen at hlen
  clear hT hL
  have HE : Hid (cutErr l m = if lgErr l == 0 then (if inB m 0 l.tail.length then 0 else 3) else lgErr l) := rfl
  have HCZ : Hid ((cutErr l m == 0) = false → cutLg l m = zeroLg) := fun h => by unfold cutLg; rw [h]; rfl
  have HCN : Hid (cutErr l m = 0 → cutLg l m = ⟨runSt l.base (l.tail.take m.toNat), l.tail.drop m.toNat⟩) := fun h => by unfold cutLg; rw [h]; rfl
  have hz9 : ∀ w, (Go.sizeOf 35).run Tryz.prog w = .ok 9 w := fun _ => by kernel_rfl
  have HEN : Hid (∀ W : World, W.ownsRow w.heap.size 35 9 (.slice none 0 0) 0 []) := fun W => World.ownsRow_nil _ _ _ _
  go_enter Tryz.func33, Tryz.ntmps33
  go_wp2_with fail
  obtain ⟨W1, hW1⟩ : ∃ W1, W1 = (w.alloc (.cells #[.int .i64 l.base.at_, .int .i64 l.base.clock, .int .i64 l.base.v0, .int .i64 l.base.v1, .int .i64 l.base.v2, .int .i64 l.base.v3, .slice xa l.base.tab.length xc, .slice ta l.tail.length tc] 28)).alloc (.cells #[.int .i64 0, .int .i64 0, .int .i64 0, .int .i64 0, .int .i64 0, .int .i64 0, .slice none 0 0, .slice none 0 0] 28) := ⟨_, rfl⟩
  have k1 : Keeps w W1 := by rw [hW1]; exact ((Keeps.refl _).alloc _).alloc _
  have B1 : LgBox w.heap.size l (.slice xa l.base.tab.length xc) (.slice ta l.tail.length tc) W1 := by rw [hW1]; exact (LgBox.new w l _ _ rfl rfl 28).keep ((Keeps.refl _).alloc _)
  have Z1 : LgBox (w.heap.size + 1) zeroLg (.slice none 0 0) (.slice none 0 0) W1 := by
    rw [hW1]
    have := LgBox.new (w.alloc (.cells #[.int .i64 l.base.at_, .int .i64 l.base.clock, .int .i64 l.base.v0, .int .i64 l.base.v1, .int .i64 l.base.v2, .int .i64 l.base.v3, .slice xa l.base.tab.length xc, .slice ta l.tail.length tc] 28)) zeroLg (.slice none 0 0) (.slice none 0 0) rfl rfl 28
    simp only [World.size_alloc] at this
    exact this
  rw [← hW1]
  clear hW1
  refine (log_error l _ _ W1 (HT.out.keep k1) (HL.out.keep k1)).mono ?_
  rintro y w1 ⟨rfl, hb⟩
  have HK1 : Hid (Keeps w w1) := k1.trans hb
  have HB1 : Hid (LgBox w.heap.size l (.slice xa l.base.tab.length xc) (.slice ta l.tail.length tc) w1) := B1.keep hb
  have HZ1 : Hid (LgBox (w.heap.size + 1) zeroLg (.slice none 0 0) (.slice none 0 0) w1) := Z1.keep hb
  have HZ5 : Hid (w.heap.size + 1 < w1.heap.size) := HZ1.out.lt
  clear k1 B1 Z1 hb
  clear W1
  cases q1 : (lgErr l == 0) with
  | false =>
    have q1' : (lgErr l != 0) = true := by simp [bne, q1]
    have HE2 : Hid (cutErr l m = lgErr l) := by show _ = _; rw [HE.out, q1]; rfl
    have H1 := (show Hid _ from HCZ.out (by rw [HE2.out]; exact q1))
    have z0 := HZ1.out.c0
    have z1 := HZ1.out.c1
    have z2 := HZ1.out.c2
    have z3 := HZ1.out.c3
    have z4 := HZ1.out.c4
    have z5 := HZ1.out.c5
    have z6 := HZ1.out.c6
    have z7 := HZ1.out.c7
    have zf := HZ1.out.fz
    have zl := HZ1.out.lt
    have hk := HK1.out
    go_wp2_with fail
    refine bodyPost_ret (v := .tuple #[lgV zeroLg (.slice none 0 0) (.slice none 0 0), .int .i64 (lgErr l)]) ?_ rfl ?_
    · simp [results, Tryz.results33, go_sem, zeroLg, zeroSt, z0, z1, z2, z3, z4, z5, z6, z7]
    · rw [HE2.out, H1.out]
      refine ⟨none, 0, none, 0, OwnTab.nil _ _, HEN.out _, Nat.le_refl _, rfl, ?_⟩
      repeat refine Keeps.set ?_ (by simp <;> omega) _
      exact hk
  | true =>
    have q1' : (lgErr l != 0) = false := by simp [bne, q1]
    have q0 : lgErr l = 0 := by simpa using q1
    have h50 : l.tail.length ≤ 50 := by have := fold_right q0; have := (stErr_bounds this.1).1; omega
    have b0 := HB1.out.c0
    have b1 := HB1.out.c1
    have b2 := HB1.out.c2
    have b3 := HB1.out.c3
    have b4 := HB1.out.c4
    have b5 := HB1.out.c5
    have b6 := HB1.out.c6
    have b7 := HB1.out.c7
    have bl := HB1.out.lt
    cases q2 : inB m 0 l.tail.length with
    | false =>
      have HE2 : Hid (cutErr l m = 3) := by show _ = _; rw [HE.out, q1, q2]; rfl
      have H1 := (show Hid _ from HCZ.out (by rw [HE2.out]; rfl))
      have z0 := HZ1.out.c0
      have z1 := HZ1.out.c1
      have z2 := HZ1.out.c2
      have z3 := HZ1.out.c3
      have z4 := HZ1.out.c4
      have z5 := HZ1.out.c5
      have z6 := HZ1.out.c6
      have z7 := HZ1.out.c7
      have zf := HZ1.out.fz
      have zl := HZ1.out.lt
      have hk := HK1.out
      go_wp2_with (first | (go_at_call 31; refine (within_c _ _ _ _).mono ?_; rintro x w' ⟨rfl, rfl⟩))
      refine bodyPost_ret (v := .tuple #[lgV zeroLg (.slice none 0 0) (.slice none 0 0), .int .i64 3]) ?_ rfl ?_
      · simp [results, Tryz.results33, go_sem, zeroLg, zeroSt, z0, z1, z2, z3, z4, z5, z6, z7]
      · rw [HE2.out, H1.out]
        refine ⟨none, 0, none, 0, OwnTab.nil _ _, HEN.out _, Nat.le_refl _, rfl, ?_⟩
        repeat refine Keeps.set ?_ (by simp <;> omega) _
        exact hk
    | true =>
      have hm := inB_iff.1 q2
      obtain ⟨n, rfl⟩ : ∃ n : Nat, m = n := ⟨m.toNat, by omega⟩
      have hn : n ≤ l.tail.length := by omega
      have hnl : (n : Int) ≤ (l.tail.length : Int) := by omega
      have hnc : (n : Int) ≤ (tc : Int) := by omega
      have HCE : Hid (cutErr l n = 0) := by show _ = _; rw [HE.out, q1, q2]; rfl
      obtain ⟨r, hr'⟩ : ∃ r, r = runSt l.base (l.tail.take n) := ⟨_, rfl⟩
      have HCL : Hid (cutLg l n = ⟨r, l.tail.drop n⟩) := by
        show _ = _
        rw [HCN.out HCE.out, hr']
        simp
      obtain ⟨sv, hsv⟩ : ∃ sv, sv = (if tc = n then ta else Option.map (fun x : Addr => x.add (n * 9)) ta) := ⟨_, rfl⟩
      have HSV : Hid (sv = (if tc = n then ta else Option.map (fun x : Addr => x.add (n * 9)) ta)) := hsv
      have hfr := fold_right (split_right q0 n).1
      have HC : Hid (∀ W, Keeps w1 W → Calls Tryz.prog 37 #[stV l.base (.slice xa l.base.tab.length xc), .slice ta n tc] W fun y w' => ∃ qa qc ra rc da dc, Hid (OwnTab W.heap.size w' (.slice qa r.tab.length qc) r.tab) ∧ y = .returned (.tuple #[stV r (.slice qa r.tab.length qc), .slice ra n rc, .slice da n dc]) ∧ Keeps W w') := by
        intro W hk
        rw [hr']
        refine (folded_c l.base (l.tail.take n) _ _ W (HT.out.keep (HK1.out.trans hk)) (ents_prefix (HL.out.keep (HK1.out.trans hk)) hn) hfr.1 hfr.2.1 hfr.2.2).mono ?_
        rintro y w' ⟨qa, qc, ra, rc, da, dc, h1, _, _, rfl, hb⟩
        have e1 : (l.tail.take n).length = n := by simp; omega
        rw [e1]
        exact ⟨qa, qc, ra, rc, da, dc, h1, rfl, hb⟩
      have HSX : Hid (∀ W, Keeps w1 W → RowAt W 9 (.slice sv (l.tail.length - n) (tc - n)) (l.tail.length - n) (entCells (l.tail.drop n))) := by
        intro W hk
        rw [hsv]
        have := ents_suffix (HL.out.keep (HK1.out.trans hk)) hn hcap
        unfold EntsAt at this
        simp only [List.length_drop] at this
        exact this
      have HSA : Hid (∀ W, Keeps w1 W → W.cell? ⟨w.heap.size, 0, none⟩ = some (.int .i64 l.base.at_) ∧ W.cell? ⟨w.heap.size, 1, none⟩ = some (.int .i64 l.base.clock) ∧ W.cell? ⟨w.heap.size, 2, none⟩ = some (.int .i64 l.base.v0) ∧ W.cell? ⟨w.heap.size, 3, none⟩ = some (.int .i64 l.base.v1) ∧ W.cell? ⟨w.heap.size, 4, none⟩ = some (.int .i64 l.base.v2) ∧ W.cell? ⟨w.heap.size, 5, none⟩ = some (.int .i64 l.base.v3) ∧ W.cell? ⟨w.heap.size, 6, none⟩ = some (.slice xa l.base.tab.length xc) ∧ W.cell? ⟨w.heap.size, 7, none⟩ = some (.slice ta l.tail.length tc)) := fun W hk => have B := HB1.out.keep hk; ⟨B.c0, B.c1, B.c2, B.c3, B.c4, B.c5, B.c6, B.c7⟩
      clear hr' hsv q0 HT HL hfr
      go_wp2_with (first | (go_at_call 31; refine (within_c _ _ _ _).mono ?_; rintro x w' ⟨rfl, rfl⟩))
      go_cut [7] (fun p wc => ∃ qb qa qc, p = .pointer (some ⟨qb, 0, none⟩) ∧ w1.heap.size ≤ qb ∧ StBox qb r (.slice qa r.tab.length qc) wc ∧ OwnTab w1.heap.size wc (.slice qa r.tab.length qc) r.tab ∧ Keeps w1 wc)
      case first =>
        obtain ⟨V0, hV0⟩ : ∃ z, z = w1.drew := ⟨_, rfl⟩
        have k0 : Keeps w1 V0 := by rw [hV0]; exact (Keeps.refl _).drew
        refine wp_region_held_drew (S := fun W => W.cell? ⟨w.heap.size, 0, none⟩ = some (.int .i64 l.base.at_) ∧ W.cell? ⟨w.heap.size, 1, none⟩ = some (.int .i64 l.base.clock) ∧ W.cell? ⟨w.heap.size, 2, none⟩ = some (.int .i64 l.base.v0) ∧ W.cell? ⟨w.heap.size, 3, none⟩ = some (.int .i64 l.base.v1) ∧ W.cell? ⟨w.heap.size, 4, none⟩ = some (.int .i64 l.base.v2) ∧ W.cell? ⟨w.heap.size, 5, none⟩ = some (.int .i64 l.base.v3) ∧ W.cell? ⟨w.heap.size, 6, none⟩ = some (.slice xa l.base.tab.length xc) ∧ W.cell? ⟨w.heap.size, 7, none⟩ = some (.slice ta l.tail.length tc)) (by kernel_rfl) (HSA.out _ (Keeps.refl _).drew) (fun hS => ?_)
        rw [← hV0] at hS ⊢
        clear hV0
        refine wpAnyH_take (i := 0) (v := .pointer (some ⟨w.heap.size, 0, none⟩)) rfl (by kernel_rfl) (by kernel_rfl) (by kernel_rfl) (fun _ _ _ h => h) (Or.inl ⟨by rfl, ?_⟩) hS ?_
        · intro w hS; go_simp
        refine wpAnyH_take (i := 1) (v := stV l.base (.slice xa l.base.tab.length xc)) rfl (by kernel_rfl) (by kernel_rfl) (by kernel_rfl) (fun _ _ _ h => h) (Or.inl ⟨by rfl, ?_⟩) hS ?_
        · intro w hS; go_simp
        refine wpAnyH_take (i := 2) (v := .pointer (some ⟨w.heap.size, 7, none⟩)) rfl (by kernel_rfl) (by kernel_rfl) (by kernel_rfl) (fun _ _ _ h => h) (Or.inl ⟨by rfl, ?_⟩) hS ?_
        · intro w hS; go_simp
        refine wpAnyH_take (i := 3) (v := .slice ta l.tail.length tc) rfl (by kernel_rfl) (by kernel_rfl) (by kernel_rfl) (fun _ _ _ h => h) (Or.inl ⟨by rfl, ?_⟩) hS ?_
        · intro w hS; go_simp
        refine wpAnyH_take (i := 4) (v := .int .i64 n) rfl (by kernel_rfl) (by kernel_rfl) (by kernel_rfl) (fun _ _ _ h => h) (Or.inl ⟨by rfl, ?_⟩) hS ?_
        · intro w hS; go_simp
        refine wpAnyH_take (i := 5) (v := .slice (if tc = 0 then ta else Option.map (fun x : Addr => x.add 0) ta) n tc) rfl (by kernel_rfl) (by kernel_rfl) (by kernel_rfl) (fun _ _ _ h => h) (Or.inl ⟨by rfl, ?_⟩) hS ?_
        · intro w hS; go_simp
        refine wpAnyH_ready (rs := [6, 11]) (by kernel_rfl) (by simp) ?_
        refine AllReadyH.cons rfl (fun K hK => ?_) (AllReadyH.cons rfl (fun K hK => ?_) (AllReadyH.nil))
        · go_simp
          refine (HC.out V0 k0).mono ?_
          rintro y V1 ⟨qa, qc, ra, rc, da, dc, HO1, rfl, hb⟩
          have k1 := k0.trans hb
          go_simp
          refine hK.out _ _ (HSA.out _ k1) (fun hS => ?_)
          clear hK K
          clear hb
          refine wpAnyH_take (i := 7) (v := .tuple #[stV r (.slice qa r.tab.length qc), .slice ra n rc, .slice da n dc]) rfl (by kernel_rfl) (by kernel_rfl) (by kernel_rfl) (fun _ _ _ h => h) (Or.inl ⟨by rfl, ?_⟩) hS ?_
          · intro w hS; go_simp
          refine wpAnyH_take (i := 8) (v := stV r (.slice qa r.tab.length qc)) rfl (by kernel_rfl) (by kernel_rfl) (by kernel_rfl) (fun _ _ _ h => h) (Or.inl ⟨by rfl, ?_⟩) hS ?_
          · intro w hS; go_simp
          refine wpAnyH_take (i := 9) (v := .slice ra n rc) rfl (by kernel_rfl) (by kernel_rfl) (by kernel_rfl) (fun _ _ _ h => h) (Or.inl ⟨by rfl, ?_⟩) hS ?_
          · intro w hS; go_simp
          refine wpAnyH_take (i := 10) (v := .slice da n dc) rfl (by kernel_rfl) (by kernel_rfl) (by kernel_rfl) (fun _ _ _ h => h) (Or.inl ⟨by rfl, ?_⟩) hS ?_
          · intro w hS; go_simp
          refine wpAnyH_ready (rs := [11]) (by kernel_rfl) (by simp) ?_
          refine AllReadyH.cons rfl (fun K hK => ?_) (AllReadyH.nil)
          go_simp
          have hb : Keeps V1 (V1.alloc (.cells #[.int .i64 0, .int .i64 0, .int .i64 0, .int .i64 0, .int .i64 0, .int .i64 0, .slice none 0 0] 25)) := (Keeps.refl _).alloc _
          have HQ2 : Hid (StBox V1.heap.size zeroSt (.slice none 0 0) (V1.alloc (.cells #[.int .i64 0, .int .i64 0, .int .i64 0, .int .i64 0, .int .i64 0, .int .i64 0, .slice none 0 0] 25))) := StBox.new V1 zeroSt (.slice none 0 0) 25
          generalize V1.alloc (.cells #[.int .i64 0, .int .i64 0, .int .i64 0, .int .i64 0, .int .i64 0, .int .i64 0, .slice none 0 0] 25) = V2 at *
          have k2 := k1.trans hb
          refine hK.out _ _ (HSA.out _ k2) (fun hS => ?_)
          clear hK K
          have HTF : Hid (∀ WF, But V1.heap.size V2 WF → OwnTab w1.heap.size WF (.slice qa r.tab.length qc) r.tab) := fun WF hF => (HO1.out.keep (But.to hb (Nat.le_refl _) hF)).base k0.size
          clear hb
          refine wpAnyH_ready (rs := [12]) (by kernel_rfl) (by simp) ?_
          refine AllReadyH.cons rfl (fun K hK => ?_) (AllReadyH.nil)
          have z0 := HQ2.out.c0
          have z1 := HQ2.out.c1
          have z2 := HQ2.out.c2
          have z3 := HQ2.out.c3
          have z4 := HQ2.out.c4
          have z5 := HQ2.out.c5
          have z6 := HQ2.out.c6
          have zf := HQ2.out.fz
          have zl := HQ2.out.lt
          go_simp
          have BP := HQ2.out.put r (.slice qa r.tab.length qc)
          have BT := But.puts (b := V1.heap.size) V2 r (.slice qa r.tab.length qc)
          have KF := But.to k2 k1.size BT
          have HTE := HTF.out _ BT
          obtain ⟨WF, hWF⟩ : ∃ z, z = (((((((V2.setCell ⟨V1.heap.size, 0, none⟩ (.int .i64 r.at_)).setCell ⟨V1.heap.size, 1, none⟩ (.int .i64 r.clock)).setCell ⟨V1.heap.size, 2, none⟩ (.int .i64 r.v0)).setCell ⟨V1.heap.size, 3, none⟩ (.int .i64 r.v1)).setCell ⟨V1.heap.size, 4, none⟩ (.int .i64 r.v2)).setCell ⟨V1.heap.size, 5, none⟩ (.int .i64 r.v3)).setCell ⟨V1.heap.size, 6, none⟩ (.slice qa r.tab.length qc)) := ⟨_, rfl⟩
          rw [← hWF] at BP BT KF HTE ⊢
          clear hWF z0 z1 z2 z3 z4 z5 z6 zf zl
          refine hK.out _ _ (HSA.out _ KF) (fun hS => ?_)
          clear hK K
          refine wpAnyH_take (i := 13) (v := .slice ra n rc) rfl (by kernel_rfl) (by kernel_rfl) (by kernel_rfl) (fun _ _ _ h => h) (Or.inl ⟨by rfl, ?_⟩) hS ?_
          · intro w hS; go_simp
          refine wpAnyH_take (i := 14) (v := .slice da n dc) rfl (by kernel_rfl) (by kernel_rfl) (by kernel_rfl) (fun _ _ _ h => h) (Or.inl ⟨by rfl, ?_⟩) hS ?_
          · intro w hS; go_simp
          refine wpAnyH_done (by kernel_rfl) ?_ _
          go_wp2_with fail
          go_meet
          exact ⟨_, _, _, rfl, k1.size, BP, HTE, KF⟩
        · go_simp
          have hb : Keeps V0 (V0.alloc (.cells #[.int .i64 0, .int .i64 0, .int .i64 0, .int .i64 0, .int .i64 0, .int .i64 0, .slice none 0 0] 25)) := (Keeps.refl _).alloc _
          have HQ1 : Hid (StBox V0.heap.size zeroSt (.slice none 0 0) (V0.alloc (.cells #[.int .i64 0, .int .i64 0, .int .i64 0, .int .i64 0, .int .i64 0, .int .i64 0, .slice none 0 0] 25))) := StBox.new V0 zeroSt (.slice none 0 0) 25
          generalize V0.alloc (.cells #[.int .i64 0, .int .i64 0, .int .i64 0, .int .i64 0, .int .i64 0, .int .i64 0, .slice none 0 0] 25) = V1 at *
          have k1 := k0.trans hb
          refine hK.out _ _ (HSA.out _ k1) (fun hS => ?_)
          clear hK K
          clear hb
          refine wpAnyH_ready (rs := [6]) (by kernel_rfl) (by simp) ?_
          refine AllReadyH.cons rfl (fun K hK => ?_) (AllReadyH.nil)
          go_simp
          refine (HC.out V1 k1).mono ?_
          rintro y V2 ⟨qa, qc, ra, rc, da, dc, HO2, rfl, hb⟩
          have k2 := k1.trans hb
          go_simp
          refine hK.out _ _ (HSA.out _ k2) (fun hS => ?_)
          clear hK K
          have HQ2 : Hid (StBox V0.heap.size zeroSt (.slice none 0 0) V2) := HQ1.out.keep hb
          have HTF : Hid (∀ WF, But V0.heap.size V2 WF → OwnTab w1.heap.size WF (.slice qa r.tab.length qc) r.tab) := fun WF hF => (HO2.out.but (by have := HQ1.out.lt; omega) hF).base (by have := k1.size; omega)
          clear hb
          refine wpAnyH_take (i := 7) (v := .tuple #[stV r (.slice qa r.tab.length qc), .slice ra n rc, .slice da n dc]) rfl (by kernel_rfl) (by kernel_rfl) (by kernel_rfl) (fun _ _ _ h => h) (Or.inl ⟨by rfl, ?_⟩) hS ?_
          · intro w hS; go_simp
          refine wpAnyH_take (i := 8) (v := stV r (.slice qa r.tab.length qc)) rfl (by kernel_rfl) (by kernel_rfl) (by kernel_rfl) (fun _ _ _ h => h) (Or.inl ⟨by rfl, ?_⟩) hS ?_
          · intro w hS; go_simp
          refine wpAnyH_take (i := 9) (v := .slice ra n rc) rfl (by kernel_rfl) (by kernel_rfl) (by kernel_rfl) (fun _ _ _ h => h) (Or.inl ⟨by rfl, ?_⟩) hS ?_
          · intro w hS; go_simp
          refine wpAnyH_take (i := 10) (v := .slice da n dc) rfl (by kernel_rfl) (by kernel_rfl) (by kernel_rfl) (fun _ _ _ h => h) (Or.inl ⟨by rfl, ?_⟩) hS ?_
          · intro w hS; go_simp
          refine wpAnyH_ready (rs := [12]) (by kernel_rfl) (by simp) ?_
          refine AllReadyH.cons rfl (fun K hK => ?_) (AllReadyH.nil)
          have z0 := HQ2.out.c0
          have z1 := HQ2.out.c1
          have z2 := HQ2.out.c2
          have z3 := HQ2.out.c3
          have z4 := HQ2.out.c4
          have z5 := HQ2.out.c5
          have z6 := HQ2.out.c6
          have zf := HQ2.out.fz
          have zl := HQ2.out.lt
          go_simp
          have BP := HQ2.out.put r (.slice qa r.tab.length qc)
          have BT := But.puts (b := V0.heap.size) V2 r (.slice qa r.tab.length qc)
          have KF := But.to k2 k0.size BT
          have HTE := HTF.out _ BT
          obtain ⟨WF, hWF⟩ : ∃ z, z = (((((((V2.setCell ⟨V0.heap.size, 0, none⟩ (.int .i64 r.at_)).setCell ⟨V0.heap.size, 1, none⟩ (.int .i64 r.clock)).setCell ⟨V0.heap.size, 2, none⟩ (.int .i64 r.v0)).setCell ⟨V0.heap.size, 3, none⟩ (.int .i64 r.v1)).setCell ⟨V0.heap.size, 4, none⟩ (.int .i64 r.v2)).setCell ⟨V0.heap.size, 5, none⟩ (.int .i64 r.v3)).setCell ⟨V0.heap.size, 6, none⟩ (.slice qa r.tab.length qc)) := ⟨_, rfl⟩
          rw [← hWF] at BP BT KF HTE ⊢
          clear hWF z0 z1 z2 z3 z4 z5 z6 zf zl
          refine hK.out _ _ (HSA.out _ KF) (fun hS => ?_)
          clear hK K
          refine wpAnyH_take (i := 13) (v := .slice ra n rc) rfl (by kernel_rfl) (by kernel_rfl) (by kernel_rfl) (fun _ _ _ h => h) (Or.inl ⟨by rfl, ?_⟩) hS ?_
          · intro w hS; go_simp
          refine wpAnyH_take (i := 14) (v := .slice da n dc) rfl (by kernel_rfl) (by kernel_rfl) (by kernel_rfl) (fun _ _ _ h => h) (Or.inl ⟨by rfl, ?_⟩) hS ?_
          · intro w hS; go_simp
          refine wpAnyH_done (by kernel_rfl) ?_ _
          go_wp2_with fail
          go_meet
          exact ⟨_, _, _, rfl, k0.size, BP, HTE, KF⟩
      case rest =>
        obtain ⟨qb, qa, qc, rfl, hqb, hQ, hO, hkc⟩ := hcut
        obtain ⟨w2, hw2⟩ : ∃ z, z = wc := ⟨_, rfl⟩
        rw [← hw2] at hQ hO hkc ⊢
        clear hw2
        have HK12 : Hid (Keeps w1 w2) := hkc
        have HK2 : Hid (Keeps w w2) := HK1.out.trans hkc
        have HO2 : Hid (OwnTab w1.heap.size w2 (.slice qa r.tab.length qc) r.tab) := hO
        have HZ2 : Hid (LgBox (w.heap.size + 1) zeroLg (.slice none 0 0) (.slice none 0 0) w2) := HZ1.out.keep hkc
        have HB2 : Hid (LgBox w.heap.size l (.slice xa l.base.tab.length xc) (.slice ta l.tail.length tc) w2) := HB1.out.keep hkc
        have HQ2 : Hid (StBox qb r (.slice qa r.tab.length qc) w2) := hQ
        have HSX2 : Hid (∀ W, Keeps w2 W → RowAt W 9 (.slice sv (l.tail.length - n) (tc - n)) (l.tail.length - n) (entCells (l.tail.drop n))) := fun W hk => HSX.out W (HK12.out.trans hk)
        have HSX := HSX2
        have HQB : Hid (w.heap.size + 1 ≠ qb) := by have := HZ5.out; show _ ≠ _; omega
        have HSC : Hid (∀ W, Keeps w2 W → W.cell? ⟨w.heap.size, 0, none⟩ = some (.int .i64 l.base.at_) ∧ W.cell? ⟨w.heap.size, 1, none⟩ = some (.int .i64 l.base.clock) ∧ W.cell? ⟨w.heap.size, 2, none⟩ = some (.int .i64 l.base.v0) ∧ W.cell? ⟨w.heap.size, 3, none⟩ = some (.int .i64 l.base.v1) ∧ W.cell? ⟨w.heap.size, 4, none⟩ = some (.int .i64 l.base.v2) ∧ W.cell? ⟨w.heap.size, 5, none⟩ = some (.int .i64 l.base.v3) ∧ W.cell? ⟨w.heap.size, 6, none⟩ = some (.slice xa l.base.tab.length xc) ∧ W.cell? ⟨w.heap.size, 7, none⟩ = some (.slice ta l.tail.length tc) ∧ W.cell? ⟨qb, 0, none⟩ = some (.int .i64 r.at_) ∧ W.cell? ⟨qb, 1, none⟩ = some (.int .i64 r.clock) ∧ W.cell? ⟨qb, 2, none⟩ = some (.int .i64 r.v0) ∧ W.cell? ⟨qb, 3, none⟩ = some (.int .i64 r.v1) ∧ W.cell? ⟨qb, 4, none⟩ = some (.int .i64 r.v2) ∧ W.cell? ⟨qb, 5, none⟩ = some (.int .i64 r.v3) ∧ W.cell? ⟨qb, 6, none⟩ = some (.slice qa r.tab.length qc)) := fun W hk => have B := HB2.out.keep hk; have Q := HQ2.out.keep hk; ⟨B.c0, B.c1, B.c2, B.c3, B.c4, B.c5, B.c6, B.c7, Q.c0, Q.c1, Q.c2, Q.c3, Q.c4, Q.c5, Q.c6⟩
        have HSD : Hid (∀ W, But (w.heap.size + 1) w2 W → W.cell? ⟨w.heap.size, 0, none⟩ = some (.int .i64 l.base.at_) ∧ W.cell? ⟨w.heap.size, 1, none⟩ = some (.int .i64 l.base.clock) ∧ W.cell? ⟨w.heap.size, 2, none⟩ = some (.int .i64 l.base.v0) ∧ W.cell? ⟨w.heap.size, 3, none⟩ = some (.int .i64 l.base.v1) ∧ W.cell? ⟨w.heap.size, 4, none⟩ = some (.int .i64 l.base.v2) ∧ W.cell? ⟨w.heap.size, 5, none⟩ = some (.int .i64 l.base.v3) ∧ W.cell? ⟨w.heap.size, 6, none⟩ = some (.slice xa l.base.tab.length xc) ∧ W.cell? ⟨w.heap.size, 7, none⟩ = some (.slice ta l.tail.length tc) ∧ W.cell? ⟨qb, 0, none⟩ = some (.int .i64 r.at_) ∧ W.cell? ⟨qb, 1, none⟩ = some (.int .i64 r.clock) ∧ W.cell? ⟨qb, 2, none⟩ = some (.int .i64 r.v0) ∧ W.cell? ⟨qb, 3, none⟩ = some (.int .i64 r.v1) ∧ W.cell? ⟨qb, 4, none⟩ = some (.int .i64 r.v2) ∧ W.cell? ⟨qb, 5, none⟩ = some (.int .i64 r.v3) ∧ W.cell? ⟨qb, 6, none⟩ = some (.slice qa r.tab.length qc)) := fun W hk => have B := HB2.out.other hk (by omega); have Q := HQ2.out.other hk (Ne.symm HQB.out); ⟨B.c0, B.c1, B.c2, B.c3, B.c4, B.c5, B.c6, B.c7, Q.c0, Q.c1, Q.c2, Q.c3, Q.c4, Q.c5, Q.c6⟩
        clear hQ hO hkc HSA HC
        go_wp2_with fail
        obtain ⟨V0, hV0⟩ : ∃ z, z = w2.drew := ⟨_, rfl⟩
        have k0 : Keeps w2 V0 := by rw [hV0]; exact (Keeps.refl _).drew
        refine wp_region_held_drew (S := fun W => W.cell? ⟨w.heap.size, 0, none⟩ = some (.int .i64 l.base.at_) ∧ W.cell? ⟨w.heap.size, 1, none⟩ = some (.int .i64 l.base.clock) ∧ W.cell? ⟨w.heap.size, 2, none⟩ = some (.int .i64 l.base.v0) ∧ W.cell? ⟨w.heap.size, 3, none⟩ = some (.int .i64 l.base.v1) ∧ W.cell? ⟨w.heap.size, 4, none⟩ = some (.int .i64 l.base.v2) ∧ W.cell? ⟨w.heap.size, 5, none⟩ = some (.int .i64 l.base.v3) ∧ W.cell? ⟨w.heap.size, 6, none⟩ = some (.slice xa l.base.tab.length xc) ∧ W.cell? ⟨w.heap.size, 7, none⟩ = some (.slice ta l.tail.length tc) ∧ W.cell? ⟨qb, 0, none⟩ = some (.int .i64 r.at_) ∧ W.cell? ⟨qb, 1, none⟩ = some (.int .i64 r.clock) ∧ W.cell? ⟨qb, 2, none⟩ = some (.int .i64 r.v0) ∧ W.cell? ⟨qb, 3, none⟩ = some (.int .i64 r.v1) ∧ W.cell? ⟨qb, 4, none⟩ = some (.int .i64 r.v2) ∧ W.cell? ⟨qb, 5, none⟩ = some (.int .i64 r.v3) ∧ W.cell? ⟨qb, 6, none⟩ = some (.slice qa r.tab.length qc)) (by kernel_rfl) (HSC.out _ (Keeps.refl _).drew) (fun hS => ?_)
        rw [← hV0] at hS ⊢
        clear hV0
        refine wpAnyH_take (i := 0) (v := stV r (.slice qa r.tab.length qc)) rfl (by kernel_rfl) (by kernel_rfl) (by kernel_rfl) (fun _ _ _ h => h) (Or.inl ⟨by rfl, ?_⟩) hS ?_
        · intro w hS; go_simp
        refine wpAnyH_take (i := 2) (v := .pointer (some ⟨w.heap.size, 7, none⟩)) rfl (by kernel_rfl) (by kernel_rfl) (by kernel_rfl) (fun _ _ _ h => h) (Or.inl ⟨by rfl, ?_⟩) hS ?_
        · intro w hS; go_simp
        refine wpAnyH_take (i := 3) (v := .slice ta l.tail.length tc) rfl (by kernel_rfl) (by kernel_rfl) (by kernel_rfl) (fun _ _ _ h => h) (Or.inl ⟨by rfl, ?_⟩) hS ?_
        · intro w hS; go_simp
        refine wpAnyH_take (i := 4) (v := .int .i64 n) rfl (by kernel_rfl) (by kernel_rfl) (by kernel_rfl) (fun _ _ _ h => h) (Or.inl ⟨by rfl, ?_⟩) hS ?_
        · intro w hS; go_simp
        refine wpAnyH_take (i := 5) (v := .slice sv (l.tail.length - n) (tc - n)) rfl (by kernel_rfl) (by kernel_rfl) (by kernel_rfl) (fun _ _ _ h => h) (Or.inl ⟨by rfl, ?_⟩) hS ?_
        · intro w hS
          go_simp
          exact HSV.out.symm
        refine wpAnyH_ready (rs := [1]) (by kernel_rfl) (by simp) ?_
        refine AllReadyH.cons rfl (fun K hK => ?_) (AllReadyH.nil)
        go_simp
        have hb : Keeps V0 (V0.alloc (.cells #[] 35)) := (Keeps.refl _).alloc _
        have hmade := World.ownsRow_made (base := V0.heap.size) (e := 35) (size := 9) V0 #[] 0 (Nat.le_refl _) (by unfold maxLen; omega) rfl
        obtain ⟨V1, hV1⟩ : ∃ z, z = V0.alloc (.cells #[] 35) := ⟨_, rfl⟩
        rw [← hV1] at hb hmade ⊢
        clear hV1
        have k1 := k0.trans hb
        refine hK.out _ _ (HSC.out _ k1) (fun hS => ?_)
        clear hK K
        obtain ⟨v1, V2, hr1, ho1, hg1⟩ := run_append_read V1 V0.heap.size 26 26 35 9 72 _ infoEnt Tryz.underlying26 rfl (by decide) _ 0 [] hmade (.slice sv (l.tail.length - n) (tc - n)) (l.tail.length - n) (entCells (l.tail.drop n)) (by have := HSX.out V1 k1; exact this) (entCells_one _) (by unfold maxLen; omega) (by omega) hb.size
        have hb2 : Keeps V0 V2 := keeps_grown hb hg1 (fun g h => by have := (hmade.lt g h).1; omega)
        rw [Nat.zero_add, List.nil_append] at ho1
        obtain ⟨ga, gc, rfl, _⟩ := (RowAt.of_owns ho1).len
        refine wpAnyH_ready (rs := [6]) (by kernel_rfl) (by simp) ?_
        refine AllReadyH.cons rfl (fun K hK => ?_) (AllReadyH.nil)
        refine step_append_run rfl _ _ 26 rfl (by simp [Act.eval, Act.put]) (by simp [Act.eval, Act.put]) hr1 ?_
        have k2 := k0.trans hb2
        refine hK.out _ _ (HSC.out _ k2) (fun hS => ?_)
        clear hK K
        refine wpAnyH_take (i := 7) (v := .agg #[.int .i64 r.at_, .int .i64 r.clock, .int .i64 r.v0, .int .i64 r.v1, .int .i64 r.v2, .int .i64 r.v3, .slice qa r.tab.length qc, .slice ga (l.tail.length - n) gc]) rfl (by kernel_rfl) (by kernel_rfl) (by kernel_rfl) (fun _ _ _ h => h) (Or.inl ⟨by rfl, ?_⟩) hS ?_
        · intro w hS; go_simp
        refine wpAnyH_ready (rs := [8]) (by kernel_rfl) (by simp) ?_
        refine AllReadyH.cons rfl (fun K hK => ?_) (AllReadyH.nil)
        have z0 := (HZ2.out.keep k2).c0
        have z1 := (HZ2.out.keep k2).c1
        have z2 := (HZ2.out.keep k2).c2
        have z3 := (HZ2.out.keep k2).c3
        have z4 := (HZ2.out.keep k2).c4
        have z5 := (HZ2.out.keep k2).c5
        have z6 := (HZ2.out.keep k2).c6
        have z7 := (HZ2.out.keep k2).c7
        have zf := (HZ2.out.keep k2).fz
        have zl := (HZ2.out.keep k2).lt
        go_simp
        have BP := (HZ2.out.keep k2).put ⟨r, l.tail.drop n⟩ (.slice qa r.tab.length qc) (.slice ga (l.tail.length - n) gc)
        have BT := But.lgputs (w.heap.size + 1) V2 ⟨r, l.tail.drop n⟩ (.slice qa r.tab.length qc) (.slice ga (l.tail.length - n) gc)
        obtain ⟨WF, hWF⟩ : ∃ z, z = ((((((((V2.setCell ⟨w.heap.size + 1, 0, none⟩ (.int .i64 r.at_)).setCell ⟨w.heap.size + 1, 1, none⟩ (.int .i64 r.clock)).setCell ⟨w.heap.size + 1, 2, none⟩ (.int .i64 r.v0)).setCell ⟨w.heap.size + 1, 3, none⟩ (.int .i64 r.v1)).setCell ⟨w.heap.size + 1, 4, none⟩ (.int .i64 r.v2)).setCell ⟨w.heap.size + 1, 5, none⟩ (.int .i64 r.v3)).setCell ⟨w.heap.size + 1, 6, none⟩ (.slice qa r.tab.length qc)).setCell ⟨w.heap.size + 1, 7, none⟩ (.slice ga (l.tail.length - n) gc)) := ⟨_, rfl⟩
        rw [← hWF] at BP BT ⊢
        clear hWF z0 z1 z2 z3 z4 z5 z6 z7 zf zl
        have hz1 := HZ5.out
        refine hK.out _ _ (HSD.out _ ((But.of k2).trans BT)) (fun hS => ?_)
        clear hK K
        refine wpAnyH_take (i := 9) (v := .int .i64 0) rfl (by kernel_rfl) (by kernel_rfl) (by kernel_rfl) (fun _ _ _ h => h) (Or.inl ⟨by rfl, ?_⟩) hS ?_
        · intro w hS; go_simp
        refine wpAnyH_done (by kernel_rfl) ?_ _
        go_wp2_with fail
        have c0 := BP.c0
        have c1 := BP.c1
        have c2 := BP.c2
        have c3 := BP.c3
        have c4 := BP.c4
        have c5 := BP.c5
        have c6 := BP.c6
        have c7 := BP.c7
        refine bodyPost_ret (v := .tuple #[lgV ⟨r, l.tail.drop n⟩ (.slice qa r.tab.length qc) (.slice ga (l.tail.length - n) gc), .int .i64 0]) ?_ rfl ?_
        · simp only [results, Tryz.results33, go_sem, c0, c1, c2, c3, c4, c5, c6, c7]
          simp [go_sem, c0, c1, c2, c3, c4, c5, c6, c7]
        · rw [HCE.out, HCL.out]
          have hzz := k0.size
          have hzk := HK12.out.size
          refine ⟨qa, qc, ga, gc, ((HO2.out.keep k2).but (by omega) BT).base (by omega), ?_, ?_, ?_, But.to (HK2.out.trans k2) (by omega) BT⟩
          · have := owns_base (owns_far ho1 (by omega) BT) (by omega : w.heap.size ≤ _)
            simpa using this
          · have hgc : l.tail.length - n ≤ gc := by
              rcases ho1.2 with ⟨h1, h2⟩ | ⟨g, cap, cur, h1, _, _, h2, _⟩
              · injection h1 with a1 a2 a3
                omega
              · injection h1 with a1 a2 a3
                omega
            simpa using hgc
          · simp
end Go.Proofs.YteabfjpajgakiafGreat
