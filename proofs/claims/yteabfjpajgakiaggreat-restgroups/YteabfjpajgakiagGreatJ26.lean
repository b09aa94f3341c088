/- GrPr. -/
import Derived.Deep.DeepCutAuto
import Derived.Test.YteabfjpajgakiagGreatJ20
import Derived.Test.YteabfjpajgakiagGreatJ23
import Derived.Test.YteabfjpajgakiagGreatJ25
/- The reference's GroupRun. -/
set_option linter.unusedSimpArgs false
set_option linter.unusedVariables false
set_option maxRecDepth 10000
namespace Go.Proofs.YteabfjpajgakiagGreat
open Go.RowKit

set_option maxHeartbeats 4000000 in
theorem group_run_of (g : Grp) (A : Ad) (i n : Int) (w : World) (hG : GrAt w g A) : Calls Tryz.prog 14 #[.agg (GL g A).toArray, .int .i64 i, .int .i64 n] w fun y w' => ∃ B, GrRd w' (rgG g i n) B ∧ y = .returned (.tuple #[.agg (GL (rgG g i n) B).toArray, .int .i64 (rgNum g i n), .int .i64 (rgErr g i n)]) ∧ Keeps w w' := by
  have HG : Hid (GrAt w g A) := hG
  clear hG
  have HGE : Hid (∀ W, Keeps w W → Calls Tryz.prog 4 #[.agg (GL g A).toArray] W fun e w' => e = .returned (.int .i64 (grErr g)) ∧ Keeps W w') := fun W hk => group_error g A W (HG.out.keep hk)
  cases q : (grErr g == 0) with
  | false =>
    have q' : (grErr g != 0) = true := by simp [bne, q]
    have e0 : rgErr g i n = grErr g := by unfold rgErr; rw [q]; rfl
    have hne : (rgErr g i n == 0) = false := by rw [e0]; exact q
    have e1 : rgG g i n = zeroGrp := by unfold rgG; rw [hne]; rfl
    have e2 : rgNum g i n = 0 := by unfold rgNum; rw [hne]; rfl
    rw [e0, e1, e2]
    clear HG hne e0 e1 e2
    generalize grErr g = er at *
    go_enter Tryz.func14, Tryz.ntmps14
    go_wp2_with (first | (refine box31 rfl rfl rfl ?_; intro w1 bb hBbb hkbb hlbb hgbb) | (refine alloc31 rfl rfl ?_; intro w3 r hBr hkr hlr hgr) | (refine load31 rfl rfl bb rfl (hBbb.keep hkr (by rw [GL_len]; decide)) ?_))
    have hk3 : Keeps w w3 := hkbb.trans hkr
    refine (HGE.out w3 hk3).mono ?_
    rintro y w4 ⟨rfl, hb⟩
    have HR4 : Hid (CBox r (GL zeroGrp zeroAd) w4) := hBr.keep hb (by rw [GL_len]; decide)
    have HRG : Hid (w.heap.size ≤ r) := Nat.le_trans hkbb.size hgr
    have HRL : Hid (r < w4.heap.size) := Nat.lt_of_lt_of_le hlr hb.size
    have HK4 : Hid (Keeps w w4) := hk3.trans hb
    have HBB : Hid (CBox bb (GL g A) w4) := (hBbb.keep hkr (by rw [GL_len]; decide)).keep hb (by rw [GL_len]; decide)
    clear hb hk3 hBbb hkbb hlbb hgbb hBr hkr hlr hgr HGE 
    go_wp2_with (first | (refine build31z rfl rfl ?_) | (refine store31 rfl rfl r rfl rfl HR4.out ?_; intro w5 hSw5 hTw5))
    refine bodyPost_ret (results3 Tryz.results14 rfl rfl rfl (read31 hSw5)) rfl ?_
    exact ⟨zeroAd, (GrOwn.zero 0 _).at.rd, rfl, But.to HK4.out HRG.out hTw5⟩
  | true =>
    have q' : (grErr g != 0) = false := by simp [bne, q]
    have q0 : grErr g = 0 := by simpa using q
    rw [q0] at HGE
    have HOG : Hid (∀ W, Keeps w W → Calls Tryz.prog 6 #[.agg (GL g A).toArray] W fun e w' => ∃ B, GrOwn W.heap.size w' g B ∧ e = .returned (.agg (GL g B).toArray) ∧ Keeps W w') := fun W hk => own_group g A W (HG.out.keep hk) q0
    cases hi : inB i 0 2 with
    | false =>
      have HIn : Hid (inB i 0 2 = false) := hi
      have e0 : rgErr g i n = 3 := by unfold rgErr rnErr; rw [q, hi]; rfl
      have hne : (rgErr g i n == 0) = false := by rw [e0]; rfl
      have e1 : rgG g i n = zeroGrp := by unfold rgG; rw [hne]; rfl
      have e2 : rgNum g i n = 0 := by unfold rgNum; rw [hne]; rfl
      rw [e0, e1, e2]
      clear hne e0 e1 e2 hi
      go_enter Tryz.func14, Tryz.ntmps14
      go_wp2_with (first | (refine box31 rfl rfl rfl ?_; intro w1 bb hBbb hkbb hlbb hgbb) | (refine alloc31 rfl rfl ?_; intro w3 r hBr hkr hlr hgr) | (refine load31 rfl rfl bb rfl (hBbb.keep hkr (by rw [GL_len]; decide)) ?_))
      have hk3 : Keeps w w3 := hkbb.trans hkr
      refine (HGE.out w3 hk3).mono ?_
      rintro y w4 ⟨rfl, hb⟩
      have HR4 : Hid (CBox r (GL zeroGrp zeroAd) w4) := hBr.keep hb (by rw [GL_len]; decide)
      have HRG : Hid (w.heap.size ≤ r) := Nat.le_trans hkbb.size hgr
      have HRL : Hid (r < w4.heap.size) := Nat.lt_of_lt_of_le hlr hb.size
      have HK4 : Hid (Keeps w w4) := hk3.trans hb
      have HBB : Hid (CBox bb (GL g A) w4) := (hBbb.keep hkr (by rw [GL_len]; decide)).keep hb (by rw [GL_len]; decide)
      clear hb hk3 hBbb hkbb hlbb hgbb hBr hkr hlr hgr HGE 
      go_wp2_with (first | (go_at_call 32; refine (within_c _ _ _ _).mono ?_; rw [HIn.out]; rintro y w' ⟨rfl, rfl⟩) | (refine build31z rfl rfl ?_) | (refine store31 rfl rfl r rfl rfl HR4.out ?_; intro w5 hSw5 hTw5))
      refine bodyPost_ret (results3 Tryz.results14 rfl rfl rfl (read31 hSw5)) rfl ?_
      exact ⟨zeroAd, (GrOwn.zero 0 _).at.rd, rfl, But.to HK4.out HRG.out hTw5⟩
    | true =>
      have h' := inB_iff.1 hi
      obtain ⟨k, rfl⟩ : ∃ k : Nat, i = k := ⟨i.toNat, by omega⟩
      have hk3 : k < 3 := by omega
      have HIn : Hid (inB (k : Int) 0 2 = true) := hi
      have HC : Hid (∀ W, Keeps w W → Calls Tryz.prog 33 #[logV g A, nodeV g A k, .int .i64 n] W fun y w' => ∃ qa qc, OwnTab W.heap.size w' (.slice qa (runOut g.log (nodeAt g k) n).tab.length qc) (runOut g.log (nodeAt g k) n).tab ∧ y = .returned (.tuple #[stV (runOut g.log (nodeAt g k) n) (.slice qa (runOut g.log (nodeAt g k) n).tab.length qc), .int .i64 (runNum g.log (nodeAt g k) n), .int .i64 (runErr g.log (nodeAt g k) n)]) ∧ Keeps W w') := fun W hk => by
        have hg := HG.out.keep hk
        exact run_own g.log (nodeAt g k) n _ _ A.ta A.tc W hg.base hg.tail (hg.tab k) hg.cap
      have a0 : rgErr g k n = runErr g.log (nodeAt g k) n := by unfold rgErr rnErr; rw [q, hi]; rfl
      have a1 : rgG g k n = if runErr g.log (nodeAt g k) n == 0 then setNode g k (runOut g.log (nodeAt g k) n) else zeroGrp := by unfold rgG rnOut; rw [a0]; rfl
      have a2 : rgNum g k n = if runErr g.log (nodeAt g k) n == 0 then runNum g.log (nodeAt g k) n else 0 := by unfold rgNum rnNum; rw [a0, hi]; rfl
      rw [a0, a1, a2]
      clear a0 a1 a2 hi h'
      generalize runErr g.log (nodeAt g k) n = er at *
      generalize runNum g.log (nodeAt g k) n = nu at *
      generalize runOut g.log (nodeAt g k) n = s' at *
      cases q1 : (er == 0) with
      | false =>
        have q1' : (er != 0) = true := by simp [bne, q1]
        simp only [Bool.false_eq_true, if_false]
        go_enter Tryz.func14, Tryz.ntmps14
        go_wp2_with (first | (refine box31 rfl rfl rfl ?_; intro w1 bb hBbb hkbb hlbb hgbb) | (refine alloc31 rfl rfl ?_; intro w3 r hBr hkr hlr hgr) | (refine load31 rfl rfl bb rfl (hBbb.keep hkr (by rw [GL_len]; decide)) ?_))
        have hk3 : Keeps w w3 := hkbb.trans hkr
        refine (HGE.out w3 hk3).mono ?_
        rintro y w4 ⟨rfl, hb⟩
        have HR4 : Hid (CBox r (GL zeroGrp zeroAd) w4) := hBr.keep hb (by rw [GL_len]; decide)
        have HRG : Hid (w.heap.size ≤ r) := Nat.le_trans hkbb.size hgr
        have HRL : Hid (r < w4.heap.size) := Nat.lt_of_lt_of_le hlr hb.size
        have HK4 : Hid (Keeps w w4) := hk3.trans hb
        have HBB : Hid (CBox bb (GL g A) w4) := (hBbb.keep hkr (by rw [GL_len]; decide)).keep hb (by rw [GL_len]; decide)
        clear hb hk3 hBbb hkbb hlbb hgbb hBr hkr hlr hgr HGE 
        go_wp2_with (first | (go_at_call 32; refine (within_c _ _ _ _).mono ?_; rw [HIn.out]; rintro y w' ⟨rfl, rfl⟩))
        go_cut [10, 11, 12] (fun p q r' wc => ∃ sb qa qc, p = .pointer (some ⟨sb, 0, none⟩) ∧ q = .int .i64 nu ∧ r' = .int .i64 er ∧ CBox sb (SC s' (.slice qa s'.tab.length qc)) wc ∧ Keeps w4 wc ∧ w4.heap.size ≤ sb ∧ OwnTab w4.heap.size wc (.slice qa s'.tab.length qc) s'.tab)
        case first =>
          refine wp_region_held_drew (S := fun W => Keeps w4 W) (by kernel_rfl) (Keeps.refl _).drew (fun hS => ?_)
          obtain ⟨V0, hV0⟩ : ∃ z, z = w4.drew := ⟨_, rfl⟩
          rw [← hV0] at hS ⊢
          clear hV0
          refine wpAnyH_take (i := 0) (v := .pointer (some ⟨bb, 0, none⟩)) rfl (by kernel_rfl) (by kernel_rfl) (by kernel_rfl) (fun _ _ _ h => h) (Or.inl ⟨by kernel_rfl, fun w _ => by kernel_rfl⟩) hS ?_
          refine wpAnyH_take (i := 1) (v := logV g A) rfl (by kernel_rfl) (by kernel_rfl) (by kernel_rfl) (fun _ _ _ h => h) (y_load28 (by kernel_rfl) rfl bb (by kernel_rfl) (fun W h => HBB.out.keep h (by rw [GL_len]; decide))) hS ?_
          refine wpAnyH_take (i := 2) (v := .int .i64 k) rfl (by kernel_rfl) (by kernel_rfl) (by kernel_rfl) (fun _ _ _ h => h) (Or.inl ⟨by kernel_rfl, fun w _ => by kernel_rfl⟩) hS ?_
          refine wpAnyH_take (i := 3) (v := .pointer (some ⟨bb, 8, none⟩)) rfl (by kernel_rfl) (by kernel_rfl) (by kernel_rfl) (fun _ _ _ h => h) (Or.inl ⟨by kernel_rfl, fun w _ => by kernel_rfl⟩) hS ?_
          refine wpAnyH_take (i := 4) (v := .pointer (some ⟨bb, 8 + k * 7, none⟩)) rfl (by kernel_rfl) (by kernel_rfl) (by kernel_rfl) (fun _ _ _ h => h) (y_index (by kernel_rfl) rfl bb k hk3 (by kernel_rfl) (by kernel_rfl)) hS ?_
          refine wpAnyH_take (i := 5) (v := nodeV g A k) rfl (by kernel_rfl) (by kernel_rfl) (by kernel_rfl) (fun _ _ _ h => h) (y_load25 (by kernel_rfl) rfl bb k hk3 (8 + k * 7) rfl (by kernel_rfl) (fun W h => HBB.out.keep h (by rw [GL_len]; decide))) hS ?_
          refine wpAnyH_take (i := 6) (v := .int .i64 n) rfl (by kernel_rfl) (by kernel_rfl) (by kernel_rfl) (fun _ _ _ h => h) (Or.inl ⟨by kernel_rfl, fun w _ => by kernel_rfl⟩) hS ?_
          refine wpAnyH_ready (rs := [7, 12]) (by kernel_rfl) (by simp) ?_
          refine AllReadyH.wrp rfl (by kernel_rfl) (fun K hK => ?_) (AllReadyH.wrp rfl (by kernel_rfl) (fun K hK => ?_) (AllReadyH.nil))
          · have hV := hS.size
            refine h_call ?_
            go_simp
            refine (HC.out _ (HK4.out.trans hS)).mono ?_
            rintro y w5 ⟨qa, qc, ho, rfl, hb⟩
            go_simp
            refine hK.out _ _ (hS.trans hb) (fun hS => ?_)
            clear hK K
            refine wpAnyH_take (i := 8) (v := .tuple #[stV s' (.slice qa s'.tab.length qc), .int .i64 nu, .int .i64 er]) rfl (by kernel_rfl) (by kernel_rfl) (by kernel_rfl) (fun _ _ _ h => h) (Or.inl ⟨by kernel_rfl, fun w _ => by kernel_rfl⟩) hS ?_
            refine wpAnyH_take (i := 9) (v := stV s' (.slice qa s'.tab.length qc)) rfl (by kernel_rfl) (by kernel_rfl) (by kernel_rfl) (fun _ _ _ h => h) (Or.inl ⟨by kernel_rfl, fun w _ => by kernel_rfl⟩) hS ?_
            refine wpAnyH_take (i := 10) (v := .int .i64 nu) rfl (by kernel_rfl) (by kernel_rfl) (by kernel_rfl) (fun _ _ _ h => h) (Or.inl ⟨by kernel_rfl, fun w _ => by kernel_rfl⟩) hS ?_
            refine wpAnyH_take (i := 11) (v := .int .i64 er) rfl (by kernel_rfl) (by kernel_rfl) (by kernel_rfl) (fun _ _ _ h => h) (Or.inl ⟨by kernel_rfl, fun w _ => by kernel_rfl⟩) hS ?_
            refine wpAnyH_ready (rs := [12]) (by kernel_rfl) (by simp) ?_
            refine AllReadyH.wrp rfl (by kernel_rfl) (fun K hK => ?_) (AllReadyH.nil)
            have hSS := hS
            refine h_alloc25 rfl ?_
            intro w6 sb hBsb hksb hlsb hgsb
            have hsg : w4.heap.size ≤ sb := Nat.le_trans hSS.size hgsb
            refine hK.out _ _ (hS.trans hksb) (fun hS => ?_)
            clear hK K
            refine wpAnyH_ready (rs := [13]) (by kernel_rfl) (by simp) ?_
            refine AllReadyH.wrp rfl (by kernel_rfl) (fun K hK => ?_) (AllReadyH.nil)
            refine h_store25b rfl sb (by kernel_rfl) (s := s') (xa := qa) (xn := s'.tab.length) (xc := qc) (by kernel_rfl) (hBsb) ?_
            intro w7 hSw7 hTw7
            have k57 : Keeps w5 w7 := But.to hksb hgsb hTw7
            refine hK.out _ _ (But.to hS hsg hTw7) (fun hS => ?_)
            clear hK K
            refine wpAnyH_take (i := 14) (v := .int .i64 nu) rfl (by kernel_rfl) (by kernel_rfl) (by kernel_rfl) (fun _ _ _ h => h) (Or.inl ⟨by kernel_rfl, fun w _ => by kernel_rfl⟩) hS ?_
            refine wpAnyH_take (i := 15) (v := .int .i64 er) rfl (by kernel_rfl) (by kernel_rfl) (by kernel_rfl) (fun _ _ _ h => h) (Or.inl ⟨by kernel_rfl, fun w _ => by kernel_rfl⟩) hS ?_
            refine wpAnyH_done (by kernel_rfl) ?_ _
            go_wp2_with fail
            go_meet
            exact ⟨sb, qa, qc, rfl, rfl, rfl, hSw7, hS, hsg, (ho.keep k57).base hV⟩
          · have hV := hS.size
            refine h_alloc25 rfl ?_
            intro w6 sb hBsb hksb hlsb hgsb
            have hV3 := Nat.le_trans hV hksb.size
            have hsg := Nat.le_trans hV hgsb
            refine hK.out _ _ (hS.trans hksb) (fun hS => ?_)
            clear hK K
            refine wpAnyH_ready (rs := [7]) (by kernel_rfl) (by simp) ?_
            refine AllReadyH.wrp rfl (by kernel_rfl) (fun K hK => ?_) (AllReadyH.nil)
            refine h_call ?_
            go_simp
            refine (HC.out _ (HK4.out.trans hS)).mono ?_
            rintro y w5 ⟨qa, qc, ho, rfl, hb⟩
            go_simp
            refine hK.out _ _ (hS.trans hb) (fun hS => ?_)
            clear hK K
            refine wpAnyH_take (i := 8) (v := .tuple #[stV s' (.slice qa s'.tab.length qc), .int .i64 nu, .int .i64 er]) rfl (by kernel_rfl) (by kernel_rfl) (by kernel_rfl) (fun _ _ _ h => h) (Or.inl ⟨by kernel_rfl, fun w _ => by kernel_rfl⟩) hS ?_
            refine wpAnyH_take (i := 9) (v := stV s' (.slice qa s'.tab.length qc)) rfl (by kernel_rfl) (by kernel_rfl) (by kernel_rfl) (fun _ _ _ h => h) (Or.inl ⟨by kernel_rfl, fun w _ => by kernel_rfl⟩) hS ?_
            refine wpAnyH_take (i := 10) (v := .int .i64 nu) rfl (by kernel_rfl) (by kernel_rfl) (by kernel_rfl) (fun _ _ _ h => h) (Or.inl ⟨by kernel_rfl, fun w _ => by kernel_rfl⟩) hS ?_
            refine wpAnyH_take (i := 11) (v := .int .i64 er) rfl (by kernel_rfl) (by kernel_rfl) (by kernel_rfl) (fun _ _ _ h => h) (Or.inl ⟨by kernel_rfl, fun w _ => by kernel_rfl⟩) hS ?_
            refine wpAnyH_ready (rs := [13]) (by kernel_rfl) (by simp) ?_
            refine AllReadyH.wrp rfl (by kernel_rfl) (fun K hK => ?_) (AllReadyH.nil)
            refine h_store25b rfl sb (by kernel_rfl) (s := s') (xa := qa) (xn := s'.tab.length) (xc := qc) (by kernel_rfl) (hBsb.keep hb (Nat.le_of_ble_eq_true rfl)) ?_
            intro w7 hSw7 hTw7
            refine hK.out _ _ (But.to hS hsg hTw7) (fun hS => ?_)
            clear hK K
            refine wpAnyH_take (i := 14) (v := .int .i64 nu) rfl (by kernel_rfl) (by kernel_rfl) (by kernel_rfl) (fun _ _ _ h => h) (Or.inl ⟨by kernel_rfl, fun w _ => by kernel_rfl⟩) hS ?_
            refine wpAnyH_take (i := 15) (v := .int .i64 er) rfl (by kernel_rfl) (by kernel_rfl) (by kernel_rfl) (fun _ _ _ h => h) (Or.inl ⟨by kernel_rfl, fun w _ => by kernel_rfl⟩) hS ?_
            refine wpAnyH_done (by kernel_rfl) ?_ _
            go_wp2_with fail
            go_meet
            exact ⟨sb, qa, qc, rfl, rfl, rfl, hSw7, hS, hsg, (ho.but hlsb hTw7).base hV3⟩
        case rest =>
          obtain ⟨sb, qa, qc, rfl, rfl, rfl, hL, hk, hsg, ho⟩ := hcut
          have HK7 : Hid (Keeps w wc) := HK4.out.trans hk
          have HR7 : Hid (CBox r (GL zeroGrp zeroAd) wc) := HR4.out.keep hk (by rw [GL_len]; decide)
          have HBB7 : Hid (CBox bb (GL g A) wc) := HBB.out.keep hk (by rw [GL_len]; decide)
          have HO7 : Hid (OwnTab w4.heap.size wc (.slice qa s'.tab.length qc) s'.tab) := ho
          have HL7 : Hid (CBox sb (SC s' (.slice qa s'.tab.length qc)) wc) := hL
          have HW47 : Hid (w4.heap.size ≤ wc.heap.size) := hk.size
          clear hL hk ho hsg HC
          go_wp2_with (first | (refine build31z rfl rfl ?_) | (refine store31 rfl rfl r rfl rfl HR7.out ?_; intro w8 hSw8 hTw8))
          refine bodyPost_ret (results3 Tryz.results14 rfl rfl rfl (read31 hSw8)) rfl ?_
          exact ⟨zeroAd, (GrOwn.zero 0 _).at.rd, rfl, But.to HK7.out HRG.out hTw8⟩
      | true =>
        obtain rfl : er = 0 := by simpa using q1
        have q1' : ((0 : Int) != 0) = false := rfl
        simp only [beq_self_eq_true, if_true]
        go_enter Tryz.func14, Tryz.ntmps14
        go_wp2_with (first | (refine box31 rfl rfl rfl ?_; intro w1 bb hBbb hkbb hlbb hgbb) | (refine alloc31 rfl rfl ?_; intro w3 r hBr hkr hlr hgr) | (refine load31 rfl rfl bb rfl (hBbb.keep hkr (by rw [GL_len]; decide)) ?_))
        have hk3 : Keeps w w3 := hkbb.trans hkr
        refine (HGE.out w3 hk3).mono ?_
        rintro y w4 ⟨rfl, hb⟩
        have HR4 : Hid (CBox r (GL zeroGrp zeroAd) w4) := hBr.keep hb (by rw [GL_len]; decide)
        have HRG : Hid (w.heap.size ≤ r) := Nat.le_trans hkbb.size hgr
        have HRL : Hid (r < w4.heap.size) := Nat.lt_of_lt_of_le hlr hb.size
        have HK4 : Hid (Keeps w w4) := hk3.trans hb
        have HBB : Hid (CBox bb (GL g A) w4) := (hBbb.keep hkr (by rw [GL_len]; decide)).keep hb (by rw [GL_len]; decide)
        clear hb hk3 hBbb hkbb hlbb hgbb hBr hkr hlr hgr HGE 
        go_wp2_with (first | (go_at_call 32; refine (within_c _ _ _ _).mono ?_; rw [HIn.out]; rintro y w' ⟨rfl, rfl⟩))
        go_cut [10, 11, 12] (fun p q r' wc => ∃ sb qa qc, p = .pointer (some ⟨sb, 0, none⟩) ∧ q = .int .i64 nu ∧ r' = .int .i64 0 ∧ CBox sb (SC s' (.slice qa s'.tab.length qc)) wc ∧ Keeps w4 wc ∧ w4.heap.size ≤ sb ∧ OwnTab w4.heap.size wc (.slice qa s'.tab.length qc) s'.tab)
        case first =>
          refine wp_region_held_drew (S := fun W => Keeps w4 W) (by kernel_rfl) (Keeps.refl _).drew (fun hS => ?_)
          obtain ⟨V0, hV0⟩ : ∃ z, z = w4.drew := ⟨_, rfl⟩
          rw [← hV0] at hS ⊢
          clear hV0
          refine wpAnyH_take (i := 0) (v := .pointer (some ⟨bb, 0, none⟩)) rfl (by kernel_rfl) (by kernel_rfl) (by kernel_rfl) (fun _ _ _ h => h) (Or.inl ⟨by kernel_rfl, fun w _ => by kernel_rfl⟩) hS ?_
          refine wpAnyH_take (i := 1) (v := logV g A) rfl (by kernel_rfl) (by kernel_rfl) (by kernel_rfl) (fun _ _ _ h => h) (y_load28 (by kernel_rfl) rfl bb (by kernel_rfl) (fun W h => HBB.out.keep h (by rw [GL_len]; decide))) hS ?_
          refine wpAnyH_take (i := 2) (v := .int .i64 k) rfl (by kernel_rfl) (by kernel_rfl) (by kernel_rfl) (fun _ _ _ h => h) (Or.inl ⟨by kernel_rfl, fun w _ => by kernel_rfl⟩) hS ?_
          refine wpAnyH_take (i := 3) (v := .pointer (some ⟨bb, 8, none⟩)) rfl (by kernel_rfl) (by kernel_rfl) (by kernel_rfl) (fun _ _ _ h => h) (Or.inl ⟨by kernel_rfl, fun w _ => by kernel_rfl⟩) hS ?_
          refine wpAnyH_take (i := 4) (v := .pointer (some ⟨bb, 8 + k * 7, none⟩)) rfl (by kernel_rfl) (by kernel_rfl) (by kernel_rfl) (fun _ _ _ h => h) (y_index (by kernel_rfl) rfl bb k hk3 (by kernel_rfl) (by kernel_rfl)) hS ?_
          refine wpAnyH_take (i := 5) (v := nodeV g A k) rfl (by kernel_rfl) (by kernel_rfl) (by kernel_rfl) (fun _ _ _ h => h) (y_load25 (by kernel_rfl) rfl bb k hk3 (8 + k * 7) rfl (by kernel_rfl) (fun W h => HBB.out.keep h (by rw [GL_len]; decide))) hS ?_
          refine wpAnyH_take (i := 6) (v := .int .i64 n) rfl (by kernel_rfl) (by kernel_rfl) (by kernel_rfl) (fun _ _ _ h => h) (Or.inl ⟨by kernel_rfl, fun w _ => by kernel_rfl⟩) hS ?_
          refine wpAnyH_ready (rs := [7, 12]) (by kernel_rfl) (by simp) ?_
          refine AllReadyH.wrp rfl (by kernel_rfl) (fun K hK => ?_) (AllReadyH.wrp rfl (by kernel_rfl) (fun K hK => ?_) (AllReadyH.nil))
          · have hV := hS.size
            refine h_call ?_
            go_simp
            refine (HC.out _ (HK4.out.trans hS)).mono ?_
            rintro y w5 ⟨qa, qc, ho, rfl, hb⟩
            go_simp
            refine hK.out _ _ (hS.trans hb) (fun hS => ?_)
            clear hK K
            refine wpAnyH_take (i := 8) (v := .tuple #[stV s' (.slice qa s'.tab.length qc), .int .i64 nu, .int .i64 0]) rfl (by kernel_rfl) (by kernel_rfl) (by kernel_rfl) (fun _ _ _ h => h) (Or.inl ⟨by kernel_rfl, fun w _ => by kernel_rfl⟩) hS ?_
            refine wpAnyH_take (i := 9) (v := stV s' (.slice qa s'.tab.length qc)) rfl (by kernel_rfl) (by kernel_rfl) (by kernel_rfl) (fun _ _ _ h => h) (Or.inl ⟨by kernel_rfl, fun w _ => by kernel_rfl⟩) hS ?_
            refine wpAnyH_take (i := 10) (v := .int .i64 nu) rfl (by kernel_rfl) (by kernel_rfl) (by kernel_rfl) (fun _ _ _ h => h) (Or.inl ⟨by kernel_rfl, fun w _ => by kernel_rfl⟩) hS ?_
            refine wpAnyH_take (i := 11) (v := .int .i64 0) rfl (by kernel_rfl) (by kernel_rfl) (by kernel_rfl) (fun _ _ _ h => h) (Or.inl ⟨by kernel_rfl, fun w _ => by kernel_rfl⟩) hS ?_
            refine wpAnyH_ready (rs := [12]) (by kernel_rfl) (by simp) ?_
            refine AllReadyH.wrp rfl (by kernel_rfl) (fun K hK => ?_) (AllReadyH.nil)
            have hSS := hS
            refine h_alloc25 rfl ?_
            intro w6 sb hBsb hksb hlsb hgsb
            have hsg : w4.heap.size ≤ sb := Nat.le_trans hSS.size hgsb
            refine hK.out _ _ (hS.trans hksb) (fun hS => ?_)
            clear hK K
            refine wpAnyH_ready (rs := [13]) (by kernel_rfl) (by simp) ?_
            refine AllReadyH.wrp rfl (by kernel_rfl) (fun K hK => ?_) (AllReadyH.nil)
            refine h_store25b rfl sb (by kernel_rfl) (s := s') (xa := qa) (xn := s'.tab.length) (xc := qc) (by kernel_rfl) (hBsb) ?_
            intro w7 hSw7 hTw7
            have k57 : Keeps w5 w7 := But.to hksb hgsb hTw7
            refine hK.out _ _ (But.to hS hsg hTw7) (fun hS => ?_)
            clear hK K
            refine wpAnyH_take (i := 14) (v := .int .i64 nu) rfl (by kernel_rfl) (by kernel_rfl) (by kernel_rfl) (fun _ _ _ h => h) (Or.inl ⟨by kernel_rfl, fun w _ => by kernel_rfl⟩) hS ?_
            refine wpAnyH_take (i := 15) (v := .int .i64 0) rfl (by kernel_rfl) (by kernel_rfl) (by kernel_rfl) (fun _ _ _ h => h) (Or.inl ⟨by kernel_rfl, fun w _ => by kernel_rfl⟩) hS ?_
            refine wpAnyH_done (by kernel_rfl) ?_ _
            go_wp2_with fail
            go_meet
            exact ⟨sb, qa, qc, rfl, rfl, rfl, hSw7, hS, hsg, (ho.keep k57).base hV⟩
          · have hV := hS.size
            refine h_alloc25 rfl ?_
            intro w6 sb hBsb hksb hlsb hgsb
            have hV3 := Nat.le_trans hV hksb.size
            have hsg := Nat.le_trans hV hgsb
            refine hK.out _ _ (hS.trans hksb) (fun hS => ?_)
            clear hK K
            refine wpAnyH_ready (rs := [7]) (by kernel_rfl) (by simp) ?_
            refine AllReadyH.wrp rfl (by kernel_rfl) (fun K hK => ?_) (AllReadyH.nil)
            refine h_call ?_
            go_simp
            refine (HC.out _ (HK4.out.trans hS)).mono ?_
            rintro y w5 ⟨qa, qc, ho, rfl, hb⟩
            go_simp
            refine hK.out _ _ (hS.trans hb) (fun hS => ?_)
            clear hK K
            refine wpAnyH_take (i := 8) (v := .tuple #[stV s' (.slice qa s'.tab.length qc), .int .i64 nu, .int .i64 0]) rfl (by kernel_rfl) (by kernel_rfl) (by kernel_rfl) (fun _ _ _ h => h) (Or.inl ⟨by kernel_rfl, fun w _ => by kernel_rfl⟩) hS ?_
            refine wpAnyH_take (i := 9) (v := stV s' (.slice qa s'.tab.length qc)) rfl (by kernel_rfl) (by kernel_rfl) (by kernel_rfl) (fun _ _ _ h => h) (Or.inl ⟨by kernel_rfl, fun w _ => by kernel_rfl⟩) hS ?_
            refine wpAnyH_take (i := 10) (v := .int .i64 nu) rfl (by kernel_rfl) (by kernel_rfl) (by kernel_rfl) (fun _ _ _ h => h) (Or.inl ⟨by kernel_rfl, fun w _ => by kernel_rfl⟩) hS ?_
            refine wpAnyH_take (i := 11) (v := .int .i64 0) rfl (by kernel_rfl) (by kernel_rfl) (by kernel_rfl) (fun _ _ _ h => h) (Or.inl ⟨by kernel_rfl, fun w _ => by kernel_rfl⟩) hS ?_
            refine wpAnyH_ready (rs := [13]) (by kernel_rfl) (by simp) ?_
            refine AllReadyH.wrp rfl (by kernel_rfl) (fun K hK => ?_) (AllReadyH.nil)
            refine h_store25b rfl sb (by kernel_rfl) (s := s') (xa := qa) (xn := s'.tab.length) (xc := qc) (by kernel_rfl) (hBsb.keep hb (Nat.le_of_ble_eq_true rfl)) ?_
            intro w7 hSw7 hTw7
            refine hK.out _ _ (But.to hS hsg hTw7) (fun hS => ?_)
            clear hK K
            refine wpAnyH_take (i := 14) (v := .int .i64 nu) rfl (by kernel_rfl) (by kernel_rfl) (by kernel_rfl) (fun _ _ _ h => h) (Or.inl ⟨by kernel_rfl, fun w _ => by kernel_rfl⟩) hS ?_
            refine wpAnyH_take (i := 15) (v := .int .i64 0) rfl (by kernel_rfl) (by kernel_rfl) (by kernel_rfl) (fun _ _ _ h => h) (Or.inl ⟨by kernel_rfl, fun w _ => by kernel_rfl⟩) hS ?_
            refine wpAnyH_done (by kernel_rfl) ?_ _
            go_wp2_with fail
            go_meet
            exact ⟨sb, qa, qc, rfl, rfl, rfl, hSw7, hS, hsg, (ho.but hlsb hTw7).base hV3⟩
        case rest =>
          obtain ⟨sb, qa, qc, rfl, rfl, rfl, hL, hk, hsg, ho⟩ := hcut
          have HK7 : Hid (Keeps w wc) := HK4.out.trans hk
          have HR7 : Hid (CBox r (GL zeroGrp zeroAd) wc) := HR4.out.keep hk (by rw [GL_len]; decide)
          have HBB7 : Hid (CBox bb (GL g A) wc) := HBB.out.keep hk (by rw [GL_len]; decide)
          have HO7 : Hid (OwnTab w4.heap.size wc (.slice qa s'.tab.length qc) s'.tab) := ho
          have HL7 : Hid (CBox sb (SC s' (.slice qa s'.tab.length qc)) wc) := hL
          have HW47 : Hid (w4.heap.size ≤ wc.heap.size) := hk.size
          clear hL hk ho hsg HC
          go_wp2_with (first | (refine load31 rfl rfl bb rfl HBB7.out ?_))
          refine (HOG.out wc HK7.out).mono ?_
          rintro y w8 ⟨B, ho, rfl, hb⟩
          have HG8 : Hid (GrOwn wc.heap.size w8 g B) := ho
          have HK78 : Hid (Keeps wc w8) := hb
          have HL8 : Hid (CBox sb (SC s' (.slice qa s'.tab.length qc)) w8) := HL7.out.keep hb (Nat.le_of_ble_eq_true rfl)
          clear ho hb HL7
          have hix := fun b W => idx_addr b k hk3 W
          go_wp2_with (first | (refine alloc31 rfl rfl ?_; intro w9 ob hBob hkob hlob hgob) | (refine store31 rfl rfl ob rfl rfl hBob ?_; intro w10 hSw10 hTw10) | (refine load25b rfl rfl sb rfl (HL8.out.keep (But.to hkob hgob hTw10) (Nat.le_of_ble_eq_true rfl)) ?_) | (refine store25 rfl rfl ob k hk3 (8 + k * 7) rfl rfl (s := s') (xa := qa) (xc := qc) rfl hSw10 ?_; intro w11 hSw11 hTw11) | (refine load31 rfl rfl ob rfl hSw11 ?_) | (refine store31 rfl rfl r rfl rfl ((HR7.out.keep HK78.out (by rw [GL_len]; decide)).keep (But.to (But.to hkob hgob hTw10) hgob hTw11) (by rw [GL_len]; decide)) ?_; intro w12 hSw12 hTw12))
          have HK811 : Hid (Keeps w8 w11) := But.to (But.to hkob hgob hTw10) hgob hTw11
          have hr7 : r < wc.heap.size := HR7.out.lt (by rw [GL_len]; decide)
          refine bodyPost_ret (results3 Tryz.results14 rfl rfl rfl (read31 hSw12)) rfl ?_
          have hgo := ((HG8.out.keep HK811.out).but hr7 hTw12).mono (Nat.zero_le _)
          have hso := (((HO7.out.keep HK78.out).keep HK811.out).but HRL.out hTw12).base (Nat.zero_le _)
          exact ⟨_, (hgo.setNode hso k).at.rd, rfl, But.to (HK7.out.trans (HK78.out.trans HK811.out)) HRG.out hTw12⟩
end Go.Proofs.YteabfjpajgakiagGreat
