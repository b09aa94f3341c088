/- PaH, GrV, GrW0, GrL, GrM, GrO. -/
import Derived.Test.YteabfjpajgakiagGreatJ15
import Derived.Test.YteabfjpajgakiagGreatJ17
import Derived.Test.YteabfjpajgakiagGreatJ18
import Derived.Test.YteabfjpajgakiagGreatJ20
import Derived.Test.YteabfjpajgakiagGreatJ22
/- PackPuts, PackTrue: the walks. -/
set_option linter.unusedSimpArgs false
set_option linter.unusedVariables false
set_option maxRecDepth 10000
namespace Go.Proofs.YteabfjpajgakiagGreat
open Go.RowKit

end Go.Proofs.YteabfjpajgakiagGreat

/- Groups: whatever is done, they are right (plain). -/
set_option linter.unusedSimpArgs false
set_option linter.unusedVariables false
namespace Go.Proofs.YteabfjpajgakiagGreat
open Go.RowKit

theorem one_of {l : Lg} {s : St} (h1 : nodeErr l s = 0) (h2 : fitsOk l s = true) : oneErr l s = 0 := oneErr_fit (by rw [h1]; rfl) h2
theorem gr_mk {g : Grp} (hl : lgErr g.log = 0) (h0 : oneErr g.log g.n0 = 0) (h1 : oneErr g.log g.n1 = 0) (h2 : oneErr g.log g.n2 = 0) : grErr g = 0 := by
  unfold grErr
  rw [hl, h0, h1, h2]
  rfl
theorem gr_node {g : Grp} (h : grErr g = 0) : ∀ k, stErr (nodeAt g k) = 0 ∧ fitsB g.log (nodeAt g k) = true := by
  obtain ⟨_, _, _, ⟨s0, s1, s2⟩, f0, f1, f2⟩ := gr_right h
  intro k
  match k with
  | 0 => exact ⟨s0, f0⟩
  | 1 => exact ⟨s1, f1⟩
  | _ + 2 => exact ⟨s2, f2⟩
theorem gr_cut {g : Grp} {n : Nat} (h : grErr g = 0) (hn' : n ≤ g.log.tail.length) : cutErr g.log n = 0 ∧ grErr (setLog g (cutLg g.log n)) = 0 := by
  have hn := gr_node h
  have hl := (gr_right h).1
  obtain ⟨c1, _, c3⟩ := cut_plain hl hn'
  have one : ∀ k, oneErr (cutLg g.log n) (nodeAt g k) = 0 := fun k => by
    obtain ⟨a, b⟩ := fits_cut hl (hn k).1 (hn k).2 hn'
    exact one_of a b
  exact ⟨c1, gr_mk c3 (one 0) (one 1) (one 2)⟩
end Go.Proofs.YteabfjpajgakiagGreat

/- GroupTrue, GroupEnd: laws. -/
set_option linter.unusedSimpArgs false
set_option linter.unusedVariables false
set_option maxRecDepth 10000
namespace Go.Proofs.YteabfjpajgakiagGreat
open Go.RowKit

def chF (c n : Int) : Int := if c < 0 then (-(c + 1)).tmod n else c.tmod n
theorem chF_in {c n : Int} (hn : 1 ≤ n) : 0 ≤ chF c n ∧ chF c n < n := by
  unfold chF
  split
  · exact ⟨Int.tmod_nonneg _ (by omega), Int.tmod_lt_of_pos _ (by omega)⟩
  · exact ⟨Int.tmod_nonneg _ (by omega), Int.tmod_lt_of_pos _ (by omega)⟩
theorem choose_f (c n : Int) (w : World) (hc0 : -9223372036854775808 ≤ c) (hc1 : c ≤ 9223372036854775807) (hn : 1 ≤ n) (hn1 : n ≤ 9223372036854775807) :
    Calls Tryz.prog 7 #[.int .i64 c, .int .i64 n] w fun e w' => e = .returned (.int .i64 (chF c n)) ∧ w = w' := by
  have hne : ¬ n = 0 := by omega
  by_cases h : c < 0
  · have e1 : Hid (chF c n = (-(c + 1)).tmod n) := if_pos h
    go_enter Tryz.func7, Tryz.ntmps7
    go_wp2
    go_ret
    rw [e1.out]
    first
      | exact ⟨rfl, rfl⟩
      | exact ⟨by rw [Int.neg_tmod]; rfl, rfl⟩
  · have e1 : Hid (chF c n = c.tmod n) := if_neg h
    have e2 : Hid (c.tmod n = c % n) := Int.tmod_eq_emod_of_nonneg (by omega)
    go_enter Tryz.func7, Tryz.ntmps7
    go_wp2
    go_ret
    rw [e1.out]
    first
      | exact ⟨rfl, rfl⟩
      | exact ⟨by rw [e2.out]; rfl, rfl⟩
theorem wrap_small {n : Int} (h0 : 0 ≤ n) (h1 : n ≤ 1000) : IntKind.i64.wrap n = n := by
  simp [IntKind.wrap, IntKind.bits, IntKind.signed]
  omega
theorem y_tail {ops : Array Oper} {S : World → Prop} {op : Oper} {a : Act} (hw : Region.wanted op (yielded ops a.tmps) = true) {x : Operand} (ho : op.op = .load 26 x) (b : Nat) (hx : a.eval x = .pointer (some ⟨b, 7, none⟩)) {g : Grp} {A : Ad} (hS : ∀ w, S w → CBox b (GL g A) w) : YieldsIf Tryz.prog ops S op (.slice A.ta g.log.tail.length A.tc) a :=
  .inl ⟨hw, fun w h => by
    have e := tail_run (hS w h)
    unfold execOp
    simp only [ho, hx, Sem.run_bind, e, Result.andThen_ok, Sem.run_pure]⟩
end Go.Proofs.YteabfjpajgakiagGreat

/- The reference's GroupError. -/
set_option linter.unusedSimpArgs false
set_option linter.unusedVariables false
set_option maxRecDepth 10000
namespace Go.Proofs.YteabfjpajgakiagGreat
open Go.RowKit

theorem gr_parts {g : Grp} (q0 : lgErr g.log = 0) : ((stErr (nodeAt g 0) == 0) = false → grErr g = stErr (nodeAt g 0)) ∧ ((stErr (nodeAt g 0) == 0) = true → fitsB g.log (nodeAt g 0) = false → grErr g = 1) ∧ ((stErr (nodeAt g 0) == 0) = true → fitsB g.log (nodeAt g 0) = true → (((stErr (nodeAt g 1) == 0) = false → grErr g = stErr (nodeAt g 1)) ∧ ((stErr (nodeAt g 1) == 0) = true → fitsB g.log (nodeAt g 1) = false → grErr g = 1) ∧ ((stErr (nodeAt g 1) == 0) = true → fitsB g.log (nodeAt g 1) = true → (((stErr (nodeAt g 2) == 0) = false → grErr g = stErr (nodeAt g 2)) ∧ ((stErr (nodeAt g 2) == 0) = true → fitsB g.log (nodeAt g 2) = false → grErr g = 1) ∧ ((stErr (nodeAt g 2) == 0) = true → fitsB g.log (nodeAt g 2) = true → grErr g = 0))))) := by
  have one : ∀ s : St, ((stErr s == 0) = false → oneErr g.log s = stErr s) ∧ ((stErr s == 0) = true → fitsB g.log s = false → oneErr g.log s = 1) ∧ ((stErr s == 0) = true → fitsB g.log s = true → oneErr g.log s = 0) := fun s => by
    have hn : nodeErr g.log s = stErr s := by unfold nodeErr; rw [q0]; rfl
    refine ⟨fun h => ?_, fun h hf => ?_, fun h hf => ?_⟩
    · rw [oneErr_bad (by rw [hn]; exact h), hn]
    · exact oneErr_misfit (by rw [hn]; exact h) (by unfold fitsOk; rw [hn, h, hf]; rfl)
    · exact oneErr_fit (by rw [hn]; exact h) (by unfold fitsOk; rw [hn, h, hf]; rfl)
  have e : grErr g = if oneErr g.log g.n0 == 0 then (if oneErr g.log g.n1 == 0 then oneErr g.log g.n2 else oneErr g.log g.n1) else oneErr g.log g.n0 := by unfold grErr; rw [q0]; rfl
  show ((stErr g.n0 == 0) = false → grErr g = stErr g.n0) ∧ _
  refine ⟨fun h => ?_, fun h hf => ?_, fun h hf => ⟨fun h1 => ?_, fun h1 hf1 => ?_, fun h1 hf1 => ⟨fun h2 => ?_, fun h2 hf2 => ?_, fun h2 hf2 => ?_⟩⟩⟩
  · rw [e, (one g.n0).1 h, h]; rfl
  · rw [e, (one g.n0).2.1 h hf]; rfl
  · rw [e, (one g.n0).2.2 h hf, (one g.n1).1 h1]; simp only [beq_self_eq_true, if_true]; rw [show (stErr g.n1 == 0) = false from h1]; rfl
  · rw [e, (one g.n0).2.2 h hf, (one g.n1).2.1 h1 hf1]; rfl
  · rw [e, (one g.n0).2.2 h hf, (one g.n1).2.2 h1 hf1, (one g.n2).1 h2]; rfl
  · rw [e, (one g.n0).2.2 h hf, (one g.n1).2.2 h1 hf1, (one g.n2).2.1 h2 hf2]; rfl
  · rw [e, (one g.n0).2.2 h hf, (one g.n1).2.2 h1 hf1, (one g.n2).2.2 h2 hf2]; rfl

set_option maxHeartbeats 8000000 in
theorem group_error (g : Grp) (A : Ad) (w : World) (hG : GrAt w g A) : Calls Tryz.prog 4 #[.agg (GL g A).toArray] w fun e w' => e = .returned (.int .i64 (grErr g)) ∧ Keeps w w' := by
  have HG : Hid (GrAt w g A) := hG
  clear hG
  go_enter Tryz.func4, Tryz.ntmps4
  go_wp2_with (first | (refine box31 rfl rfl rfl ?_; intro w1 bb hBbb hkbb hlbb hgbb) | (refine load28 rfl rfl bb rfl hBbb ?_))
  refine (log_error g.log _ _ w1 (HG.out.keep hkbb).base (HG.out.keep hkbb).tail).mono ?_
  rintro e W0 ⟨rfl, hb⟩
  have HK0 : Hid (Keeps w W0) := hkbb.trans hb
  have HB0 : Hid (CBox bb (GL g A) W0) := hBbb.keep hb (by rw [GL_len]; decide)
  clear hb hBbb hkbb hlbb hgbb
  cases q : (lgErr g.log == 0) with
  | false =>
    have q' : (lgErr g.log != 0) = true := by simp [bne, q]
    have HQ : Hid (grErr g = lgErr g.log) := by show _ = _; unfold grErr; rw [q]; rfl
    go_wp2_with fail
    go_ret
    rw [HQ.out]
    exact ⟨rfl, HK0.out⟩
  | true =>
    have q' : (lgErr g.log != 0) = false := by simp [bne, q]
    have q0 : lgErr g.log = 0 := by simpa using q
    have HE0 := (show Hid _ from gr_parts q0)
    go_wp2_with fail
    refine wp_loop_rounds 4 ?_
    rw [rounds_succ]
    go_wp2_with (first | (refine load25 rfl rfl bb 0 (by decide) 8 rfl rfl HB0.out ?_))
    refine (state_error (nodeAt g 0) (tabV g A 0) W0 ((HG.out.keep HK0.out).tab 0)).mono ?_
    rintro e X0 ⟨rfl, hb⟩
    have HKx : Hid (Keeps w X0) := HK0.out.trans hb
    have HBx : Hid (CBox bb (GL g A) X0) := HB0.out.keep hb (by rw [GL_len]; decide)
    clear hb HK0 HB0
    cases a0 : (stErr (nodeAt g 0) == 0) with
    | false =>
      have a' : (stErr (nodeAt g 0) != 0) = true := by simp [bne, a0]
      have HQ : Hid (grErr g = stErr (nodeAt g 0)) := HE0.out.1 a0
      go_wp2_with fail
      go_ret
      rw [HQ.out]
      exact ⟨rfl, HKx.out⟩
    | true =>
      have a' : (stErr (nodeAt g 0) != 0) = false := by simp [bne, a0]
      have az : stErr (nodeAt g 0) = 0 := by simpa using a0
      go_wp2_with fail
      have HC : Hid (∀ W, Keeps X0 W → Calls Tryz.prog 18 #[logV g A, nodeV g A 0] W fun e w' => e = .returned (.bool (fitsB g.log (nodeAt g 0))) ∧ Keeps W w') := fun W hk => fits_ref g.log (nodeAt g 0) _ _ A.ta A.tc W (HG.out.keep (HKx.out.trans hk)).base (HG.out.keep (HKx.out.trans hk)).tail ((HG.out.keep (HKx.out.trans hk)).tab 0) q0 az HG.out.cap
      refine wp_region_held_drew (S := fun W => Keeps X0 W) (by kernel_rfl) (Keeps.refl _).drew (fun hS => ?_)
      obtain ⟨V0, hV0⟩ : ∃ z, z = X0.drew := ⟨_, rfl⟩
      rw [← hV0] at hS ⊢
      clear hV0
      refine wpAnyH_take (i := 0) (v := .pointer (some ⟨bb, 0, none⟩)) rfl (by kernel_rfl) (by kernel_rfl) (by kernel_rfl) (fun _ _ _ h => h) (Or.inl ⟨by kernel_rfl, fun w _ => by kernel_rfl⟩) hS ?_
      refine wpAnyH_take (i := 1) (v := logV g A) rfl (by kernel_rfl) (by kernel_rfl) (by kernel_rfl) (fun _ _ _ h => h) (y_load28 (by kernel_rfl) rfl bb (by kernel_rfl) (fun W h => HBx.out.keep h (by rw [GL_len]; decide))) hS ?_
      refine wpAnyH_take (i := 2) (v := .int .i64 ((0 : Nat) : Int)) rfl (by kernel_rfl) (by kernel_rfl) (by kernel_rfl) (fun _ _ _ h => h) (Or.inl ⟨by kernel_rfl, fun w _ => by kernel_rfl⟩) hS ?_
      refine wpAnyH_take (i := 3) (v := .pointer (some ⟨bb, 8, none⟩)) rfl (by kernel_rfl) (by kernel_rfl) (by kernel_rfl) (fun _ _ _ h => h) (Or.inl ⟨by kernel_rfl, fun w _ => by kernel_rfl⟩) hS ?_
      refine wpAnyH_take (i := 4) (v := .pointer (some ⟨bb, 8 + 0 * 7, none⟩)) rfl (by kernel_rfl) (by kernel_rfl) (by kernel_rfl) (fun _ _ _ h => h) (y_index (by kernel_rfl) rfl bb 0 (by decide) (by kernel_rfl) (by kernel_rfl)) hS ?_
      refine wpAnyH_take (i := 5) (v := nodeV g A 0) rfl (by kernel_rfl) (by kernel_rfl) (by kernel_rfl) (fun _ _ _ h => h) (y_load25 (by kernel_rfl) rfl bb 0 (by decide) (8 + 0 * 7) rfl (by kernel_rfl) (fun W h => HBx.out.keep h (by rw [GL_len]; decide))) hS ?_
      refine wpAnyH_ready (rs := [6]) (by kernel_rfl) (by simp) ?_
      refine AllReadyH.wrp rfl (by kernel_rfl) (fun K hK => ?_) (AllReadyH.nil)
      refine h_call ?_
      go_simp
      refine (HC.out _ hS).mono ?_
      rintro e Y0 ⟨rfl, hb⟩
      go_simp
      refine hK.out _ _ (hS.trans hb) (fun hS => ?_)
      clear hK K
      refine wpAnyH_take (i := 7) (v := .bool (!fitsB g.log (nodeAt g 0))) rfl (by kernel_rfl) (by kernel_rfl) (by kernel_rfl) (fun _ _ _ h => h) (Or.inl ⟨by kernel_rfl, fun w _ => by kernel_rfl⟩) hS ?_
      refine wpAnyH_done (by kernel_rfl) ?_ _
      have HKy : Hid (Keeps w Y0) := HKx.out.trans hS
      have HB1 : Hid (CBox bb (GL g A) Y0) := HBx.out.keep hS (by rw [GL_len]; decide)
      clear hS HC HKx HBx hb
      cases b0 : fitsB g.log (nodeAt g 0) with
      | false =>
        have HQ : Hid (grErr g = 1) := HE0.out.2.1 a0 b0
        go_wp2_with fail
        go_ret
        rw [HQ.out]
        exact ⟨rfl, HKy.out⟩
      | true =>
        have HE1 := (show Hid _ from HE0.out.2.2 a0 b0)
        obtain ⟨W1, hW⟩ : ∃ z, z = Y0 := ⟨_, rfl⟩
        have HK1 : Hid (Keeps w W1) := by rw [hW]; exact HKy.out
        rw [← hW] at HB1 ⊢
        clear hW HKy
        go_wp2_with fail
        rw [rounds_succ]
        go_wp2_with (first | (refine load25 rfl rfl bb 1 (by decide) 15 rfl rfl HB1.out ?_))
        refine (state_error (nodeAt g 1) (tabV g A 1) W1 ((HG.out.keep HK1.out).tab 1)).mono ?_
        rintro e X1 ⟨rfl, hb⟩
        have HKx : Hid (Keeps w X1) := HK1.out.trans hb
        have HBx : Hid (CBox bb (GL g A) X1) := HB1.out.keep hb (by rw [GL_len]; decide)
        clear hb HK1 HB1
        cases a1 : (stErr (nodeAt g 1) == 0) with
        | false =>
          have a' : (stErr (nodeAt g 1) != 0) = true := by simp [bne, a1]
          have HQ : Hid (grErr g = stErr (nodeAt g 1)) := HE1.out.1 a1
          go_wp2_with fail
          go_ret
          rw [HQ.out]
          exact ⟨rfl, HKx.out⟩
        | true =>
          have a' : (stErr (nodeAt g 1) != 0) = false := by simp [bne, a1]
          have az : stErr (nodeAt g 1) = 0 := by simpa using a1
          go_wp2_with fail
          have HC : Hid (∀ W, Keeps X1 W → Calls Tryz.prog 18 #[logV g A, nodeV g A 1] W fun e w' => e = .returned (.bool (fitsB g.log (nodeAt g 1))) ∧ Keeps W w') := fun W hk => fits_ref g.log (nodeAt g 1) _ _ A.ta A.tc W (HG.out.keep (HKx.out.trans hk)).base (HG.out.keep (HKx.out.trans hk)).tail ((HG.out.keep (HKx.out.trans hk)).tab 1) q0 az HG.out.cap
          refine wp_region_held_drew (S := fun W => Keeps X1 W) (by kernel_rfl) (Keeps.refl _).drew (fun hS => ?_)
          obtain ⟨V0, hV0⟩ : ∃ z, z = X1.drew := ⟨_, rfl⟩
          rw [← hV0] at hS ⊢
          clear hV0
          refine wpAnyH_take (i := 0) (v := .pointer (some ⟨bb, 0, none⟩)) rfl (by kernel_rfl) (by kernel_rfl) (by kernel_rfl) (fun _ _ _ h => h) (Or.inl ⟨by kernel_rfl, fun w _ => by kernel_rfl⟩) hS ?_
          refine wpAnyH_take (i := 1) (v := logV g A) rfl (by kernel_rfl) (by kernel_rfl) (by kernel_rfl) (fun _ _ _ h => h) (y_load28 (by kernel_rfl) rfl bb (by kernel_rfl) (fun W h => HBx.out.keep h (by rw [GL_len]; decide))) hS ?_
          refine wpAnyH_take (i := 2) (v := .int .i64 ((1 : Nat) : Int)) rfl (by kernel_rfl) (by kernel_rfl) (by kernel_rfl) (fun _ _ _ h => h) (Or.inl ⟨by kernel_rfl, fun w _ => by kernel_rfl⟩) hS ?_
          refine wpAnyH_take (i := 3) (v := .pointer (some ⟨bb, 8, none⟩)) rfl (by kernel_rfl) (by kernel_rfl) (by kernel_rfl) (fun _ _ _ h => h) (Or.inl ⟨by kernel_rfl, fun w _ => by kernel_rfl⟩) hS ?_
          refine wpAnyH_take (i := 4) (v := .pointer (some ⟨bb, 8 + 1 * 7, none⟩)) rfl (by kernel_rfl) (by kernel_rfl) (by kernel_rfl) (fun _ _ _ h => h) (y_index (by kernel_rfl) rfl bb 1 (by decide) (by kernel_rfl) (by kernel_rfl)) hS ?_
          refine wpAnyH_take (i := 5) (v := nodeV g A 1) rfl (by kernel_rfl) (by kernel_rfl) (by kernel_rfl) (fun _ _ _ h => h) (y_load25 (by kernel_rfl) rfl bb 1 (by decide) (8 + 1 * 7) rfl (by kernel_rfl) (fun W h => HBx.out.keep h (by rw [GL_len]; decide))) hS ?_
          refine wpAnyH_ready (rs := [6]) (by kernel_rfl) (by simp) ?_
          refine AllReadyH.wrp rfl (by kernel_rfl) (fun K hK => ?_) (AllReadyH.nil)
          refine h_call ?_
          go_simp
          refine (HC.out _ hS).mono ?_
          rintro e Y1 ⟨rfl, hb⟩
          go_simp
          refine hK.out _ _ (hS.trans hb) (fun hS => ?_)
          clear hK K
          refine wpAnyH_take (i := 7) (v := .bool (!fitsB g.log (nodeAt g 1))) rfl (by kernel_rfl) (by kernel_rfl) (by kernel_rfl) (fun _ _ _ h => h) (Or.inl ⟨by kernel_rfl, fun w _ => by kernel_rfl⟩) hS ?_
          refine wpAnyH_done (by kernel_rfl) ?_ _
          have HKy : Hid (Keeps w Y1) := HKx.out.trans hS
          have HB2 : Hid (CBox bb (GL g A) Y1) := HBx.out.keep hS (by rw [GL_len]; decide)
          clear hS HC HKx HBx hb
          cases b1 : fitsB g.log (nodeAt g 1) with
          | false =>
            have HQ : Hid (grErr g = 1) := HE1.out.2.1 a1 b1
            go_wp2_with fail
            go_ret
            rw [HQ.out]
            exact ⟨rfl, HKy.out⟩
          | true =>
            have HE2 := (show Hid _ from HE1.out.2.2 a1 b1)
            obtain ⟨W2, hW⟩ : ∃ z, z = Y1 := ⟨_, rfl⟩
            have HK2 : Hid (Keeps w W2) := by rw [hW]; exact HKy.out
            rw [← hW] at HB2 ⊢
            clear hW HKy
            go_wp2_with fail
            rw [rounds_succ]
            go_wp2_with (first | (refine load25 rfl rfl bb 2 (by decide) 22 rfl rfl HB2.out ?_))
            refine (state_error (nodeAt g 2) (tabV g A 2) W2 ((HG.out.keep HK2.out).tab 2)).mono ?_
            rintro e X2 ⟨rfl, hb⟩
            have HKx : Hid (Keeps w X2) := HK2.out.trans hb
            have HBx : Hid (CBox bb (GL g A) X2) := HB2.out.keep hb (by rw [GL_len]; decide)
            clear hb HK2 HB2
            cases a2 : (stErr (nodeAt g 2) == 0) with
            | false =>
              have a' : (stErr (nodeAt g 2) != 0) = true := by simp [bne, a2]
              have HQ : Hid (grErr g = stErr (nodeAt g 2)) := HE2.out.1 a2
              go_wp2_with fail
              go_ret
              rw [HQ.out]
              exact ⟨rfl, HKx.out⟩
            | true =>
              have a' : (stErr (nodeAt g 2) != 0) = false := by simp [bne, a2]
              have az : stErr (nodeAt g 2) = 0 := by simpa using a2
              go_wp2_with fail
              have HC : Hid (∀ W, Keeps X2 W → Calls Tryz.prog 18 #[logV g A, nodeV g A 2] W fun e w' => e = .returned (.bool (fitsB g.log (nodeAt g 2))) ∧ Keeps W w') := fun W hk => fits_ref g.log (nodeAt g 2) _ _ A.ta A.tc W (HG.out.keep (HKx.out.trans hk)).base (HG.out.keep (HKx.out.trans hk)).tail ((HG.out.keep (HKx.out.trans hk)).tab 2) q0 az HG.out.cap
              refine wp_region_held_drew (S := fun W => Keeps X2 W) (by kernel_rfl) (Keeps.refl _).drew (fun hS => ?_)
              obtain ⟨V0, hV0⟩ : ∃ z, z = X2.drew := ⟨_, rfl⟩
              rw [← hV0] at hS ⊢
              clear hV0
              refine wpAnyH_take (i := 0) (v := .pointer (some ⟨bb, 0, none⟩)) rfl (by kernel_rfl) (by kernel_rfl) (by kernel_rfl) (fun _ _ _ h => h) (Or.inl ⟨by kernel_rfl, fun w _ => by kernel_rfl⟩) hS ?_
              refine wpAnyH_take (i := 1) (v := logV g A) rfl (by kernel_rfl) (by kernel_rfl) (by kernel_rfl) (fun _ _ _ h => h) (y_load28 (by kernel_rfl) rfl bb (by kernel_rfl) (fun W h => HBx.out.keep h (by rw [GL_len]; decide))) hS ?_
              refine wpAnyH_take (i := 2) (v := .int .i64 ((2 : Nat) : Int)) rfl (by kernel_rfl) (by kernel_rfl) (by kernel_rfl) (fun _ _ _ h => h) (Or.inl ⟨by kernel_rfl, fun w _ => by kernel_rfl⟩) hS ?_
              refine wpAnyH_take (i := 3) (v := .pointer (some ⟨bb, 8, none⟩)) rfl (by kernel_rfl) (by kernel_rfl) (by kernel_rfl) (fun _ _ _ h => h) (Or.inl ⟨by kernel_rfl, fun w _ => by kernel_rfl⟩) hS ?_
              refine wpAnyH_take (i := 4) (v := .pointer (some ⟨bb, 8 + 2 * 7, none⟩)) rfl (by kernel_rfl) (by kernel_rfl) (by kernel_rfl) (fun _ _ _ h => h) (y_index (by kernel_rfl) rfl bb 2 (by decide) (by kernel_rfl) (by kernel_rfl)) hS ?_
              refine wpAnyH_take (i := 5) (v := nodeV g A 2) rfl (by kernel_rfl) (by kernel_rfl) (by kernel_rfl) (fun _ _ _ h => h) (y_load25 (by kernel_rfl) rfl bb 2 (by decide) (8 + 2 * 7) rfl (by kernel_rfl) (fun W h => HBx.out.keep h (by rw [GL_len]; decide))) hS ?_
              refine wpAnyH_ready (rs := [6]) (by kernel_rfl) (by simp) ?_
              refine AllReadyH.wrp rfl (by kernel_rfl) (fun K hK => ?_) (AllReadyH.nil)
              refine h_call ?_
              go_simp
              refine (HC.out _ hS).mono ?_
              rintro e Y2 ⟨rfl, hb⟩
              go_simp
              refine hK.out _ _ (hS.trans hb) (fun hS => ?_)
              clear hK K
              refine wpAnyH_take (i := 7) (v := .bool (!fitsB g.log (nodeAt g 2))) rfl (by kernel_rfl) (by kernel_rfl) (by kernel_rfl) (fun _ _ _ h => h) (Or.inl ⟨by kernel_rfl, fun w _ => by kernel_rfl⟩) hS ?_
              refine wpAnyH_done (by kernel_rfl) ?_ _
              have HKy : Hid (Keeps w Y2) := HKx.out.trans hS
              have HB3 : Hid (CBox bb (GL g A) Y2) := HBx.out.keep hS (by rw [GL_len]; decide)
              clear hS HC HKx HBx hb
              cases b2 : fitsB g.log (nodeAt g 2) with
              | false =>
                have HQ : Hid (grErr g = 1) := HE2.out.2.1 a2 b2
                go_wp2_with fail
                go_ret
                rw [HQ.out]
                exact ⟨rfl, HKy.out⟩
              | true =>
                have HQ : Hid (grErr g = 0) := HE2.out.2.2 a2 b2
                go_wp2_with fail
                rw [rounds_succ]
                go_wp2_with fail
                go_ret
                rw [HQ.out]
                exact ⟨rfl, HKy.out⟩
end Go.Proofs.YteabfjpajgakiagGreat

/- The reference's SameGroups, of one and the same group. -/
set_option linter.unusedSimpArgs false
set_option linter.unusedVariables false
set_option maxRecDepth 10000
namespace Go.Proofs.YteabfjpajgakiagGreat
open Go.RowKit

/-- A group that can be read. -/
structure GrRd (w : World) (g : Grp) (A : Ad) : Prop where
  base : TabAt w (.slice A.xa g.log.base.tab.length A.xc) g.log.base.tab
  tail : EntsAt w (.slice A.ta g.log.tail.length A.tc) g.log.tail
  t0 : TabAt w (.slice A.a0 g.n0.tab.length A.c0) g.n0.tab
  t1 : TabAt w (.slice A.a1 g.n1.tab.length A.c1) g.n1.tab
  t2 : TabAt w (.slice A.a2 g.n2.tab.length A.c2) g.n2.tab
theorem GrRd.keep {w w' : World} {g : Grp} {A : Ad} (h : GrRd w g A) (hk : Keeps w w') : GrRd w' g A := ⟨h.base.keep hk, h.tail.keep hk, h.t0.keep hk, h.t1.keep hk, h.t2.keep hk⟩
theorem GrAt.rd {w : World} {g : Grp} {A : Ad} (h : GrAt w g A) : GrRd w g A := ⟨h.base, h.tail, h.t0, h.t1, h.t2⟩
theorem GrRd.tab {w : World} {g : Grp} {A : Ad} (h : GrRd w g A) : ∀ k, TabAt w (tabV g A k) (nodeAt g k).tab
  | 0 => h.t0
  | 1 => h.t1
  | _ + 2 => h.t2

set_option maxHeartbeats 8000000 in
theorem same_groups (g : Grp) (A B : Ad) (w : World) (hG : GrRd w g A) (hH : GrRd w g B) : Calls Tryz.prog 15 #[.agg (GL g A).toArray, .agg (GL g B).toArray] w fun e w' => e = .returned (.bool true) ∧ Keeps w w' := by
  have HG : Hid (GrRd w g A) := hG
  have HH : Hid (GrRd w g B) := hH
  clear hG hH
  go_enter Tryz.func15, Tryz.ntmps15
  go_wp2_with (first | (have _h := hBba; refine box31 rfl rfl (g := g) (A := B) rfl ?_; intro W0 bb hBbb hkbb hlbb hgbb) | (refine box31 rfl rfl (g := g) (A := A) rfl ?_; intro w1 ba hBba hkba hlba hgba))
  have HK0 : Hid (Keeps w W0) := hkba.trans hkbb
  have HA0 : Hid (CBox ba (GL g A) W0) := hBba.keep hkbb (by rw [GL_len]; decide)
  have HB0 : Hid (CBox bb (GL g B) W0) := hBbb
  clear hBba hkba hlba hgba hBbb hkbb hlbb hgbb
  refine wp_loop_rounds 4 ?_
  rw [rounds_succ]
  go_wp2_with fail
  have HC : Hid (∀ W, Keeps W0 W → Calls Tryz.prog 34 #[nodeV g A 0, nodeV g B 0] W fun e w' => e = .returned (.bool true) ∧ Keeps W w') := fun W hk => by
    have := same_of (nodeAt g 0) (nodeAt g 0) (tabV g A 0) (tabV g B 0) W ((HG.out.keep (HK0.out.trans hk)).tab 0) ((HH.out.keep (HK0.out.trans hk)).tab 0)
    rw [same_self] at this
    exact this
  refine wp_region_held_drew (S := fun W => Keeps W0 W) (by kernel_rfl) (Keeps.refl _).drew (fun hS => ?_)
  obtain ⟨V0, hV0⟩ : ∃ z, z = W0.drew := ⟨_, rfl⟩
  rw [← hV0] at hS ⊢
  clear hV0
  refine wpAnyH_take (i := 0) (v := .int .i64 ((0 : Nat) : Int)) rfl (by kernel_rfl) (by kernel_rfl) (by kernel_rfl) (fun _ _ _ h => h) (Or.inl ⟨by kernel_rfl, fun w _ => by kernel_rfl⟩) hS ?_
  refine wpAnyH_take (i := 1) (v := .pointer (some ⟨ba, 8, none⟩)) rfl (by kernel_rfl) (by kernel_rfl) (by kernel_rfl) (fun _ _ _ h => h) (Or.inl ⟨by kernel_rfl, fun w _ => by kernel_rfl⟩) hS ?_
  refine wpAnyH_take (i := 2) (v := .pointer (some ⟨ba, 8 + 0 * 7, none⟩)) rfl (by kernel_rfl) (by kernel_rfl) (by kernel_rfl) (fun _ _ _ h => h) (y_index (by kernel_rfl) rfl ba 0 (by decide) (by kernel_rfl) (by kernel_rfl)) hS ?_
  refine wpAnyH_take (i := 3) (v := nodeV g A 0) rfl (by kernel_rfl) (by kernel_rfl) (by kernel_rfl) (fun _ _ _ h => h) (y_load25 (by kernel_rfl) rfl ba 0 (by decide) (8 + 0 * 7) rfl (by kernel_rfl) (fun W h => HA0.out.keep h (by rw [GL_len]; decide))) hS ?_
  refine wpAnyH_take (i := 4) (v := .int .i64 ((0 : Nat) : Int)) rfl (by kernel_rfl) (by kernel_rfl) (by kernel_rfl) (fun _ _ _ h => h) (Or.inl ⟨by kernel_rfl, fun w _ => by kernel_rfl⟩) hS ?_
  refine wpAnyH_take (i := 5) (v := .pointer (some ⟨bb, 8, none⟩)) rfl (by kernel_rfl) (by kernel_rfl) (by kernel_rfl) (fun _ _ _ h => h) (Or.inl ⟨by kernel_rfl, fun w _ => by kernel_rfl⟩) hS ?_
  refine wpAnyH_take (i := 6) (v := .pointer (some ⟨bb, 8 + 0 * 7, none⟩)) rfl (by kernel_rfl) (by kernel_rfl) (by kernel_rfl) (fun _ _ _ h => h) (y_index (by kernel_rfl) rfl bb 0 (by decide) (by kernel_rfl) (by kernel_rfl)) hS ?_
  refine wpAnyH_take (i := 7) (v := nodeV g B 0) rfl (by kernel_rfl) (by kernel_rfl) (by kernel_rfl) (fun _ _ _ h => h) (y_load25 (by kernel_rfl) rfl bb 0 (by decide) (8 + 0 * 7) rfl (by kernel_rfl) (fun W h => HB0.out.keep h (by rw [GL_len]; decide))) hS ?_
  refine wpAnyH_ready (rs := [8]) (by kernel_rfl) (by simp) ?_
  refine AllReadyH.wrp rfl (by kernel_rfl) (fun K hK => ?_) (AllReadyH.nil)
  refine h_call ?_
  go_simp
  refine (HC.out _ hS).mono ?_
  rintro e W1 ⟨rfl, hb⟩
  go_simp
  refine hK.out _ _ (hS.trans hb) (fun hS => ?_)
  clear hK K
  refine wpAnyH_take (i := 9) (v := .bool false) rfl (by kernel_rfl) (by kernel_rfl) (by kernel_rfl) (fun _ _ _ h => h) (Or.inl ⟨by kernel_rfl, fun w _ => by kernel_rfl⟩) hS ?_
  refine wpAnyH_done (by kernel_rfl) ?_ _
  have HK1 : Hid (Keeps w W1) := HK0.out.trans hS
  have HA1 : Hid (CBox ba (GL g A) W1) := HA0.out.keep hS (by rw [GL_len]; decide)
  have HB1 : Hid (CBox bb (GL g B) W1) := HB0.out.keep hS (by rw [GL_len]; decide)
  clear hS HC hb HK0 HA0 HB0
  go_wp2_with fail
  rw [rounds_succ]
  go_wp2_with fail
  have HC : Hid (∀ W, Keeps W1 W → Calls Tryz.prog 34 #[nodeV g A 1, nodeV g B 1] W fun e w' => e = .returned (.bool true) ∧ Keeps W w') := fun W hk => by
    have := same_of (nodeAt g 1) (nodeAt g 1) (tabV g A 1) (tabV g B 1) W ((HG.out.keep (HK1.out.trans hk)).tab 1) ((HH.out.keep (HK1.out.trans hk)).tab 1)
    rw [same_self] at this
    exact this
  refine wp_region_held_drew (S := fun W => Keeps W1 W) (by kernel_rfl) (Keeps.refl _).drew (fun hS => ?_)
  obtain ⟨V0, hV0⟩ : ∃ z, z = W1.drew := ⟨_, rfl⟩
  rw [← hV0] at hS ⊢
  clear hV0
  refine wpAnyH_take (i := 0) (v := .int .i64 ((1 : Nat) : Int)) rfl (by kernel_rfl) (by kernel_rfl) (by kernel_rfl) (fun _ _ _ h => h) (Or.inl ⟨by kernel_rfl, fun w _ => by kernel_rfl⟩) hS ?_
  refine wpAnyH_take (i := 1) (v := .pointer (some ⟨ba, 8, none⟩)) rfl (by kernel_rfl) (by kernel_rfl) (by kernel_rfl) (fun _ _ _ h => h) (Or.inl ⟨by kernel_rfl, fun w _ => by kernel_rfl⟩) hS ?_
  refine wpAnyH_take (i := 2) (v := .pointer (some ⟨ba, 8 + 1 * 7, none⟩)) rfl (by kernel_rfl) (by kernel_rfl) (by kernel_rfl) (fun _ _ _ h => h) (y_index (by kernel_rfl) rfl ba 1 (by decide) (by kernel_rfl) (by kernel_rfl)) hS ?_
  refine wpAnyH_take (i := 3) (v := nodeV g A 1) rfl (by kernel_rfl) (by kernel_rfl) (by kernel_rfl) (fun _ _ _ h => h) (y_load25 (by kernel_rfl) rfl ba 1 (by decide) (8 + 1 * 7) rfl (by kernel_rfl) (fun W h => HA1.out.keep h (by rw [GL_len]; decide))) hS ?_
  refine wpAnyH_take (i := 4) (v := .int .i64 ((1 : Nat) : Int)) rfl (by kernel_rfl) (by kernel_rfl) (by kernel_rfl) (fun _ _ _ h => h) (Or.inl ⟨by kernel_rfl, fun w _ => by kernel_rfl⟩) hS ?_
  refine wpAnyH_take (i := 5) (v := .pointer (some ⟨bb, 8, none⟩)) rfl (by kernel_rfl) (by kernel_rfl) (by kernel_rfl) (fun _ _ _ h => h) (Or.inl ⟨by kernel_rfl, fun w _ => by kernel_rfl⟩) hS ?_
  refine wpAnyH_take (i := 6) (v := .pointer (some ⟨bb, 8 + 1 * 7, none⟩)) rfl (by kernel_rfl) (by kernel_rfl) (by kernel_rfl) (fun _ _ _ h => h) (y_index (by kernel_rfl) rfl bb 1 (by decide) (by kernel_rfl) (by kernel_rfl)) hS ?_
  refine wpAnyH_take (i := 7) (v := nodeV g B 1) rfl (by kernel_rfl) (by kernel_rfl) (by kernel_rfl) (fun _ _ _ h => h) (y_load25 (by kernel_rfl) rfl bb 1 (by decide) (8 + 1 * 7) rfl (by kernel_rfl) (fun W h => HB1.out.keep h (by rw [GL_len]; decide))) hS ?_
  refine wpAnyH_ready (rs := [8]) (by kernel_rfl) (by simp) ?_
  refine AllReadyH.wrp rfl (by kernel_rfl) (fun K hK => ?_) (AllReadyH.nil)
  refine h_call ?_
  go_simp
  refine (HC.out _ hS).mono ?_
  rintro e W2 ⟨rfl, hb⟩
  go_simp
  refine hK.out _ _ (hS.trans hb) (fun hS => ?_)
  clear hK K
  refine wpAnyH_take (i := 9) (v := .bool false) rfl (by kernel_rfl) (by kernel_rfl) (by kernel_rfl) (fun _ _ _ h => h) (Or.inl ⟨by kernel_rfl, fun w _ => by kernel_rfl⟩) hS ?_
  refine wpAnyH_done (by kernel_rfl) ?_ _
  have HK2 : Hid (Keeps w W2) := HK1.out.trans hS
  have HA2 : Hid (CBox ba (GL g A) W2) := HA1.out.keep hS (by rw [GL_len]; decide)
  have HB2 : Hid (CBox bb (GL g B) W2) := HB1.out.keep hS (by rw [GL_len]; decide)
  clear hS HC hb HK1 HA1 HB1
  go_wp2_with fail
  rw [rounds_succ]
  go_wp2_with fail
  have HC : Hid (∀ W, Keeps W2 W → Calls Tryz.prog 34 #[nodeV g A 2, nodeV g B 2] W fun e w' => e = .returned (.bool true) ∧ Keeps W w') := fun W hk => by
    have := same_of (nodeAt g 2) (nodeAt g 2) (tabV g A 2) (tabV g B 2) W ((HG.out.keep (HK2.out.trans hk)).tab 2) ((HH.out.keep (HK2.out.trans hk)).tab 2)
    rw [same_self] at this
    exact this
  refine wp_region_held_drew (S := fun W => Keeps W2 W) (by kernel_rfl) (Keeps.refl _).drew (fun hS => ?_)
  obtain ⟨V0, hV0⟩ : ∃ z, z = W2.drew := ⟨_, rfl⟩
  rw [← hV0] at hS ⊢
  clear hV0
  refine wpAnyH_take (i := 0) (v := .int .i64 ((2 : Nat) : Int)) rfl (by kernel_rfl) (by kernel_rfl) (by kernel_rfl) (fun _ _ _ h => h) (Or.inl ⟨by kernel_rfl, fun w _ => by kernel_rfl⟩) hS ?_
  refine wpAnyH_take (i := 1) (v := .pointer (some ⟨ba, 8, none⟩)) rfl (by kernel_rfl) (by kernel_rfl) (by kernel_rfl) (fun _ _ _ h => h) (Or.inl ⟨by kernel_rfl, fun w _ => by kernel_rfl⟩) hS ?_
  refine wpAnyH_take (i := 2) (v := .pointer (some ⟨ba, 8 + 2 * 7, none⟩)) rfl (by kernel_rfl) (by kernel_rfl) (by kernel_rfl) (fun _ _ _ h => h) (y_index (by kernel_rfl) rfl ba 2 (by decide) (by kernel_rfl) (by kernel_rfl)) hS ?_
  refine wpAnyH_take (i := 3) (v := nodeV g A 2) rfl (by kernel_rfl) (by kernel_rfl) (by kernel_rfl) (fun _ _ _ h => h) (y_load25 (by kernel_rfl) rfl ba 2 (by decide) (8 + 2 * 7) rfl (by kernel_rfl) (fun W h => HA2.out.keep h (by rw [GL_len]; decide))) hS ?_
  refine wpAnyH_take (i := 4) (v := .int .i64 ((2 : Nat) : Int)) rfl (by kernel_rfl) (by kernel_rfl) (by kernel_rfl) (fun _ _ _ h => h) (Or.inl ⟨by kernel_rfl, fun w _ => by kernel_rfl⟩) hS ?_
  refine wpAnyH_take (i := 5) (v := .pointer (some ⟨bb, 8, none⟩)) rfl (by kernel_rfl) (by kernel_rfl) (by kernel_rfl) (fun _ _ _ h => h) (Or.inl ⟨by kernel_rfl, fun w _ => by kernel_rfl⟩) hS ?_
  refine wpAnyH_take (i := 6) (v := .pointer (some ⟨bb, 8 + 2 * 7, none⟩)) rfl (by kernel_rfl) (by kernel_rfl) (by kernel_rfl) (fun _ _ _ h => h) (y_index (by kernel_rfl) rfl bb 2 (by decide) (by kernel_rfl) (by kernel_rfl)) hS ?_
  refine wpAnyH_take (i := 7) (v := nodeV g B 2) rfl (by kernel_rfl) (by kernel_rfl) (by kernel_rfl) (fun _ _ _ h => h) (y_load25 (by kernel_rfl) rfl bb 2 (by decide) (8 + 2 * 7) rfl (by kernel_rfl) (fun W h => HB2.out.keep h (by rw [GL_len]; decide))) hS ?_
  refine wpAnyH_ready (rs := [8]) (by kernel_rfl) (by simp) ?_
  refine AllReadyH.wrp rfl (by kernel_rfl) (fun K hK => ?_) (AllReadyH.nil)
  refine h_call ?_
  go_simp
  refine (HC.out _ hS).mono ?_
  rintro e W3 ⟨rfl, hb⟩
  go_simp
  refine hK.out _ _ (hS.trans hb) (fun hS => ?_)
  clear hK K
  refine wpAnyH_take (i := 9) (v := .bool false) rfl (by kernel_rfl) (by kernel_rfl) (by kernel_rfl) (fun _ _ _ h => h) (Or.inl ⟨by kernel_rfl, fun w _ => by kernel_rfl⟩) hS ?_
  refine wpAnyH_done (by kernel_rfl) ?_ _
  have HK3 : Hid (Keeps w W3) := HK2.out.trans hS
  have HA3 : Hid (CBox ba (GL g A) W3) := HA2.out.keep hS (by rw [GL_len]; decide)
  have HB3 : Hid (CBox bb (GL g B) W3) := HB2.out.keep hS (by rw [GL_len]; decide)
  clear hS HC hb HK2 HA2 HB2
  go_wp2_with fail
  rw [rounds_succ]
  go_wp2_with (first | (refine load28 rfl rfl ba rfl (g := g) (A := A) HA3.out ?_) | (refine load28 rfl rfl bb rfl (g := g) (A := B) HB3.out ?_))
  have HL := same_logs g.log g.log _ _ _ _ W3 (HG.out.keep HK3.out).base (HG.out.keep HK3.out).tail (HH.out.keep HK3.out).base (HH.out.keep HK3.out).tail
  rw [sameLg_self] at HL
  refine HL.mono ?_
  rintro e W4 ⟨rfl, hb⟩
  have HK4 : Hid (Keeps w W4) := HK3.out.trans hb
  clear HL hb
  go_wp2_with fail
  go_ret
  exact ⟨rfl, HK4.out⟩
end Go.Proofs.YteabfjpajgakiagGreat

/- OwnGroup. -/
set_option linter.unusedSimpArgs false
set_option linter.unusedVariables false
set_option maxRecDepth 10000
namespace Go.Proofs.YteabfjpajgakiagGreat
open Go.RowKit

set_option maxHeartbeats 8000000 in
theorem own_group (g : Grp) (A : Ad) (w : World) (hG : GrAt w g A) (hr : grErr g = 0) : Calls Tryz.prog 6 #[.agg (GL g A).toArray] w fun e w' => ∃ B, GrOwn w.heap.size w' g B ∧ e = .returned (.agg (GL g B).toArray) ∧ Keeps w w' := by
  have HG : Hid (GrAt w g A) := hG
  obtain ⟨_, r1, r2, ⟨s0, s1, s2⟩, _⟩ := gr_right hr
  clear hG hr
  have HOS : Hid (∀ W, Keeps w W → Calls Tryz.prog 24 #[stV g.log.base (.slice A.xa g.log.base.tab.length A.xc)] W fun y w' => ∃ va vc, OwnTab W.heap.size w' (.slice va g.log.base.tab.length vc) g.log.base.tab ∧ y = .returned (stV g.log.base (.slice va g.log.base.tab.length vc)) ∧ Keeps W w') := fun W hk => (own_right _ W (HG.out.keep hk).base r1).mono fun y w' ⟨x', ho, he, hb⟩ => by
    obtain ⟨va, vc, rfl, _⟩ := ho.tab.len
    exact ⟨va, vc, ho, he, hb⟩
  have HN0 : Hid (∀ W, Keeps w W → Calls Tryz.prog 24 #[stV g.n0 (.slice A.a0 g.n0.tab.length A.c0)] W fun y w' => ∃ va vc, OwnTab W.heap.size w' (.slice va g.n0.tab.length vc) g.n0.tab ∧ y = .returned (stV g.n0 (.slice va g.n0.tab.length vc)) ∧ Keeps W w') := fun W hk => (own_right _ W (HG.out.keep hk).t0 s0).mono fun y w' ⟨x', ho, he, hb⟩ => by
    obtain ⟨va, vc, rfl, _⟩ := ho.tab.len
    exact ⟨va, vc, ho, he, hb⟩
  have HN1 : Hid (∀ W, Keeps w W → Calls Tryz.prog 24 #[stV g.n1 (.slice A.a1 g.n1.tab.length A.c1)] W fun y w' => ∃ va vc, OwnTab W.heap.size w' (.slice va g.n1.tab.length vc) g.n1.tab ∧ y = .returned (stV g.n1 (.slice va g.n1.tab.length vc)) ∧ Keeps W w') := fun W hk => (own_right _ W (HG.out.keep hk).t1 s1).mono fun y w' ⟨x', ho, he, hb⟩ => by
    obtain ⟨va, vc, rfl, _⟩ := ho.tab.len
    exact ⟨va, vc, ho, he, hb⟩
  have HN2 : Hid (∀ W, Keeps w W → Calls Tryz.prog 24 #[stV g.n2 (.slice A.a2 g.n2.tab.length A.c2)] W fun y w' => ∃ va vc, OwnTab W.heap.size w' (.slice va g.n2.tab.length vc) g.n2.tab ∧ y = .returned (stV g.n2 (.slice va g.n2.tab.length vc)) ∧ Keeps W w') := fun W hk => (own_right _ W (HG.out.keep hk).t2 s2).mono fun y w' ⟨x', ho, he, hb⟩ => by
    obtain ⟨va, vc, rfl, _⟩ := ho.tab.len
    exact ⟨va, vc, ho, he, hb⟩
  clear r1 s0 s1 s2
  go_enter Tryz.func6, Tryz.ntmps6
  go_wp2_with (first | (refine box31 rfl rfl rfl ?_; intro w1 bb hBbb hkbb hlbb hgbb) | (refine alloc31 rfl rfl ?_; intro w2 r hBr hkr hlr hgr))
  obtain ⟨base, hbase⟩ : ∃ z, z = w2.heap.size := ⟨_, rfl⟩
  have HBL : Hid (bb < base) := by rw [hbase]; exact Nat.lt_of_lt_of_le hlbb hkr.size
  have HRL : Hid (r < base) := by rw [hbase]; exact hlr
  have HBG : Hid (w.heap.size ≤ bb) := hgbb
  have HRG : Hid (w.heap.size ≤ r) := Nat.le_trans hkbb.size hgr
  have HNE : Hid (r ≠ bb) := fun e => by omega
  have HWW : Hid (w.heap.size ≤ base) := by rw [hbase]; exact (hkbb.trans hkr).size
  have HI0 : Hid ((fun W => Keeps w W ∧ base ≤ W.heap.size ∧ CBox r (GL zeroGrp zeroAd) W) w2.drew) := ⟨(hkbb.trans hkr).drew, by rw [hbase]; exact Nat.le_refl _, hBr.keep (Keeps.refl _).drew (by rw [GL_len]; decide)⟩
  have HJ0 : Hid (CBox bb (GL g A) w2.drew) := (hBbb.keep hkr (by rw [GL_len]; decide)).keep (Keeps.refl _).drew (by rw [GL_len]; decide)
  clear hbase hBbb hkbb hlbb hgbb hBr hkr hlr hgr
  refine wp_region_growI (fun W => Keeps w W ∧ base ≤ W.heap.size ∧ CBox r (GL zeroGrp zeroAd) W) HI0.out ⟨fun _ W => CBox bb (GL g A) W, fun _ W W' h hk => h.keep hk (by rw [GL_len]; decide)⟩ HJ0.out [some 4, some 5, some 6, some 7, some 8, some 9, some 10, some 11, some 12, some 13, some 14, none] [
  Pr.is (.pointer (some ⟨bb, 0, none⟩)),
  Pr.is (.pointer (some ⟨bb, 0, none⟩)),
  Pr.is (stV g.log.base (.slice A.xa g.log.base.tab.length A.xc)),
  ⟨fun v W => ∃ qa qc, v = stV g.log.base (.slice qa g.log.base.tab.length qc) ∧ OwnTab base W (.slice qa g.log.base.tab.length qc) g.log.base.tab, fun v W W' ⟨qa, qc, h1, h2⟩ hk => ⟨qa, qc, h1, h2.keep hk⟩⟩,
  ⟨fun v W => ∃ b, v = .slice (some ⟨b, 0, none⟩) 0 0 ∧ W.ownsRow base 35 9 (.slice (some ⟨b, 0, none⟩) 0 0) 0 [], fun v W W' ⟨b, h1, h2⟩ hk => ⟨b, h1, owns_keep h2 hk⟩⟩,
  Pr.is (.pointer (some ⟨bb, 0, none⟩)),
  Pr.is (.pointer (some ⟨bb, 7, none⟩)),
  Pr.is (.slice A.ta g.log.tail.length A.tc),
  ⟨fun v W => ∃ ea ec, v = .slice ea g.log.tail.length ec ∧ W.ownsRow base 35 9 (.slice ea g.log.tail.length ec) g.log.tail.length (entCells g.log.tail) ∧ g.log.tail.length ≤ ec, fun v W W' ⟨ea, ec, h1, h2, h3⟩ hk => ⟨ea, ec, h1, owns_keep h2 hk, h3⟩⟩,
  ⟨fun v W => ∃ qa qc ea ec, v = lgV g.log (.slice qa g.log.base.tab.length qc) (.slice ea g.log.tail.length ec) ∧ OwnTab base W (.slice qa g.log.base.tab.length qc) g.log.base.tab ∧ W.ownsRow base 35 9 (.slice ea g.log.tail.length ec) g.log.tail.length (entCells g.log.tail) ∧ g.log.tail.length ≤ ec, fun v W W' ⟨qa, qc, ea, ec, h1, h2, h3, h4⟩ hk => ⟨qa, qc, ea, ec, h1, h2.keep hk, owns_keep h3 hk, h4⟩⟩,
  Pr.is (.pointer (some ⟨bb, 0, none⟩)),
  ⟨fun v W => ∃ B, CBox bb (GL g B) W ∧ LogOwn base W g B ∧ (B.a0 = A.a0 ∧ B.c0 = A.c0 ∧ B.a1 = A.a1 ∧ B.c1 = A.c1 ∧ B.a2 = A.a2 ∧ B.c2 = A.c2), fun v W W' ⟨B, h1, h2, h3⟩ hk => ⟨B, h1.keep hk (by rw [GL_len]; decide), h2.keep hk, h3⟩⟩] [⟨11, [], fun W W' => But bb W W'⟩] (by kernel_rfl) (by kernel_rfl) (by kernel_rfl) (by kernel_rfl) ?_ ?_ ?_
  · intro i hi
    match i, hi with
    | 0, _ =>
      refine GrowStepI.wrp rfl rfl ?_
      intro vs W hI hJ hR K hK
      refine h_field rfl (p := .pointer (some ⟨bb, 0, none⟩)) (q := .pointer (some ⟨bb, 0, none⟩)) (by kernel_rfl) (by kernel_rfl) ?_
      refine hK.out _ (.pointer (some ⟨bb, 0, none⟩)) _ (by kernel_rfl) (FrI.of (by simp) ⟨hI.1.trans (Keeps.refl W), Nat.le_trans hI.2.1 (Keeps.size (Keeps.refl W)), hI.2.2.keep (Keeps.refl W) (by rw [GL_len]; decide)⟩ (Keeps.refl W)) ?_
      exact rfl
    | 1, _ =>
      refine GrowStepI.wrp rfl rfl ?_
      intro vs W hI hJ hR K hK
      have h0 : vs 0 = .pointer (some ⟨bb, 0, none⟩) := hR 0 (by kernel_rfl)
      refine h_field rfl (p := .pointer (some ⟨bb, 0, none⟩)) (q := .pointer (some ⟨bb, 0, none⟩)) ((show _ = vs 0 from by kernel_rfl).trans h0) (by kernel_rfl) ?_
      refine hK.out _ (.pointer (some ⟨bb, 0, none⟩)) _ (by kernel_rfl) (FrI.of (by simp) ⟨hI.1.trans (Keeps.refl W), Nat.le_trans hI.2.1 (Keeps.size (Keeps.refl W)), hI.2.2.keep (Keeps.refl W) (by rw [GL_len]; decide)⟩ (Keeps.refl W)) ?_
      exact rfl
    | 2, _ =>
      refine GrowStepI.wrp rfl rfl ?_
      intro vs W hI hJ hR K hK
      have h1 : vs 1 = .pointer (some ⟨bb, 0, none⟩) := hR 1 (by kernel_rfl)
      have hb : CBox bb (GL g A) W := hJ (by kernel_rfl)
      refine h_load rfl ((show _ = vs 1 from by kernel_rfl).trans h1) (base_run hb) ?_
      refine hK.out _ (stV g.log.base (.slice A.xa g.log.base.tab.length A.xc)) _ (by kernel_rfl) (FrI.of (by simp) ⟨hI.1.trans (Keeps.refl W), Nat.le_trans hI.2.1 (Keeps.size (Keeps.refl W)), hI.2.2.keep (Keeps.refl W) (by rw [GL_len]; decide)⟩ (Keeps.refl W)) ?_
      exact rfl
    | 3, _ =>
      refine GrowStepI.wrp rfl rfl ?_
      intro vs W hI hJ hR K hK
      have h2 : vs 2 = stV g.log.base (.slice A.xa g.log.base.tab.length A.xc) := hR 2 (by kernel_rfl)
      refine h_call ?_
      simp only [fillL, Nat.zero_add, Nat.reduceAdd, h2] at hK ⊢
      go_simp
      refine (HOS.out W hI.1).mono ?_
      rintro y W' ⟨qa, qc, ho, rfl, hb⟩
      go_simp
      refine hK.out _ (stV g.log.base (.slice qa g.log.base.tab.length qc)) _ (by kernel_rfl) (FrI.of (by simp) ⟨hI.1.trans (hb), Nat.le_trans hI.2.1 (Keeps.size (hb)), hI.2.2.keep (hb) (by rw [GL_len]; decide)⟩ (hb)) ?_
      exact ⟨qa, qc, rfl, ho.base hI.2.1⟩
    | 4, _ =>
      refine GrowStepI.wrp rfl rfl ?_
      intro vs W hI hJ hR K hK
      refine h_empty base hI.2.1 rfl ?_
      intro W' b ho hb
      refine hK.out _ (.slice (some ⟨b, 0, none⟩) 0 0) _ (by kernel_rfl) (FrI.of (by simp) ⟨hI.1.trans (hb), Nat.le_trans hI.2.1 (Keeps.size (hb)), hI.2.2.keep (hb) (by rw [GL_len]; decide)⟩ (hb)) ?_
      exact ⟨b, rfl, ho⟩
    | 5, _ =>
      refine GrowStepI.wrp rfl rfl ?_
      intro vs W hI hJ hR K hK
      refine h_field rfl (p := .pointer (some ⟨bb, 0, none⟩)) (q := .pointer (some ⟨bb, 0, none⟩)) (by kernel_rfl) (by kernel_rfl) ?_
      refine hK.out _ (.pointer (some ⟨bb, 0, none⟩)) _ (by kernel_rfl) (FrI.of (by simp) ⟨hI.1.trans (Keeps.refl W), Nat.le_trans hI.2.1 (Keeps.size (Keeps.refl W)), hI.2.2.keep (Keeps.refl W) (by rw [GL_len]; decide)⟩ (Keeps.refl W)) ?_
      exact rfl
    | 6, _ =>
      refine GrowStepI.wrp rfl rfl ?_
      intro vs W hI hJ hR K hK
      have h5 : vs 5 = .pointer (some ⟨bb, 0, none⟩) := hR 5 (by kernel_rfl)
      refine h_field rfl (p := .pointer (some ⟨bb, 0, none⟩)) (q := .pointer (some ⟨bb, 7, none⟩)) ((show _ = vs 5 from by kernel_rfl).trans h5) (by kernel_rfl) ?_
      refine hK.out _ (.pointer (some ⟨bb, 7, none⟩)) _ (by kernel_rfl) (FrI.of (by simp) ⟨hI.1.trans (Keeps.refl W), Nat.le_trans hI.2.1 (Keeps.size (Keeps.refl W)), hI.2.2.keep (Keeps.refl W) (by rw [GL_len]; decide)⟩ (Keeps.refl W)) ?_
      exact rfl
    | 7, _ =>
      refine GrowStepI.wrp rfl rfl ?_
      intro vs W hI hJ hR K hK
      have h6 : vs 6 = .pointer (some ⟨bb, 7, none⟩) := hR 6 (by kernel_rfl)
      have hb : CBox bb (GL g A) W := hJ (by kernel_rfl)
      refine h_load rfl ((show _ = vs 6 from by kernel_rfl).trans h6) (tail_run hb) ?_
      refine hK.out _ (.slice A.ta g.log.tail.length A.tc) _ (by kernel_rfl) (FrI.of (by simp) ⟨hI.1.trans (Keeps.refl W), Nat.le_trans hI.2.1 (Keeps.size (Keeps.refl W)), hI.2.2.keep (Keeps.refl W) (by rw [GL_len]; decide)⟩ (Keeps.refl W)) ?_
      exact rfl
    | 8, _ =>
      refine GrowStepI.wrp rfl rfl ?_
      intro vs W hI hJ hR K hK
      obtain ⟨b, h4, ho⟩ : ∃ b, vs 4 = .slice (some ⟨b, 0, none⟩) 0 0 ∧ W.ownsRow base 35 9 (.slice (some ⟨b, 0, none⟩) 0 0) 0 [] := hR 4 (by kernel_rfl)
      have h7 : vs 7 = .slice A.ta g.log.tail.length A.tc := hR 7 (by kernel_rfl)
      obtain ⟨v', W', hr, ho', hb⟩ := run_append_bare W base b ho (.slice A.ta g.log.tail.length A.tc) g.log.tail.length (entCells g.log.tail) (HG.out.keep hI.1).tail (entCells_one _) (by unfold maxLen; omega) (by omega) hI.2.1 26
      obtain ⟨ea, ec, rfl, _⟩ := (RowAt.of_owns ho').len
      have hcap := owns_cap ho'
      refine h_append _ _ 26 rfl ((show _ = vs 4 from by kernel_rfl).trans h4) ((show _ = vs 7 from by kernel_rfl).trans h7) hr ?_
      refine hK.out _ (.slice ea g.log.tail.length ec) _ (by kernel_rfl) (FrI.of (by simp) ⟨hI.1.trans (hb), Nat.le_trans hI.2.1 (Keeps.size (hb)), hI.2.2.keep (hb) (by rw [GL_len]; decide)⟩ (hb)) ?_
      exact ⟨ea, ec, rfl, ho', hcap⟩
    | 9, _ =>
      refine GrowStepI.wrp rfl rfl ?_
      intro vs W hI hJ hR K hK
      obtain ⟨qa, qc, h3, o1⟩ : ∃ qa qc, vs 3 = stV g.log.base (.slice qa g.log.base.tab.length qc) ∧ OwnTab base W (.slice qa g.log.base.tab.length qc) g.log.base.tab := hR 3 (by kernel_rfl)
      obtain ⟨ea, ec, h8, o2, o3⟩ : ∃ ea ec, vs 8 = .slice ea g.log.tail.length ec ∧ W.ownsRow base 35 9 (.slice ea g.log.tail.length ec) g.log.tail.length (entCells g.log.tail) ∧ g.log.tail.length ≤ ec := hR 8 (by kernel_rfl)
      refine h_build28 rfl g.log qa ea g.log.base.tab.length qc g.log.tail.length ec ((show _ = vs 3 from by kernel_rfl).trans h3) ((show _ = vs 8 from by kernel_rfl).trans h8) ?_
      refine hK.out _ (lgV g.log (.slice qa g.log.base.tab.length qc) (.slice ea g.log.tail.length ec)) _ (by kernel_rfl) (FrI.of (by simp) ⟨hI.1.trans (Keeps.refl W), Nat.le_trans hI.2.1 (Keeps.size (Keeps.refl W)), hI.2.2.keep (Keeps.refl W) (by rw [GL_len]; decide)⟩ (Keeps.refl W)) ?_
      exact ⟨qa, qc, ea, ec, rfl, o1, o2, o3⟩
    | 10, _ =>
      refine GrowStepI.wrp rfl rfl ?_
      intro vs W hI hJ hR K hK
      refine h_field rfl (p := .pointer (some ⟨bb, 0, none⟩)) (q := .pointer (some ⟨bb, 0, none⟩)) (by kernel_rfl) (by kernel_rfl) ?_
      refine hK.out _ (.pointer (some ⟨bb, 0, none⟩)) _ (by kernel_rfl) (FrI.of (by simp) ⟨hI.1.trans (Keeps.refl W), Nat.le_trans hI.2.1 (Keeps.size (Keeps.refl W)), hI.2.2.keep (Keeps.refl W) (by rw [GL_len]; decide)⟩ (Keeps.refl W)) ?_
      exact rfl
    | 11, _ =>
      refine GrowStepI.wrp rfl rfl ?_
      intro vs W hI hJ hR K hK
      obtain ⟨qa, qc, ea, ec, h9, o1, o2, o3⟩ : ∃ qa qc ea ec, vs 9 = lgV g.log (.slice qa g.log.base.tab.length qc) (.slice ea g.log.tail.length ec) ∧ OwnTab base W (.slice qa g.log.base.tab.length qc) g.log.base.tab ∧ W.ownsRow base 35 9 (.slice ea g.log.tail.length ec) g.log.tail.length (entCells g.log.tail) ∧ g.log.tail.length ≤ ec := hR 9 (by kernel_rfl)
      have h10 : vs 10 = .pointer (some ⟨bb, 0, none⟩) := hR 10 (by kernel_rfl)
      have hb : CBox bb (GL g A) W := hJ (by kernel_rfl)
      refine h_store28 rfl bb ((show _ = vs 10 from by kernel_rfl).trans h10) (l := g.log) (xa := qa) (xc := qc) (ta := ea) (tc := ec) ((show _ = vs 9 from by kernel_rfl).trans h9) hb ?_
      intro W' hS hT
      refine hK.out _ undef _ (by kernel_rfl) ⟨fun h => absurd rfl (h _ (List.mem_cons_self ..)), ⟨But.to hI.1 HBG.out hT, Nat.le_trans hI.2.1 hT.size, hI.2.2.other hT HNE.out (by rw [GL_len]; decide)⟩, fun x hx e => ?_⟩ ?_
      · rcases List.mem_cons.1 hx with rfl | hx
        · exact hT
        · cases hx
      · exact ⟨setLogA A qa qc ea ec, hS, ⟨o1.but HBL.out hT, owns_far o2 HBL.out hT, o3⟩, rfl, rfl, rfl, rfl, rfl, rfl⟩
    | k + 12, h => exact absurd h (by simp)
  · intro x hx j hj hd hn hr v W W' hp hf
    rcases List.mem_cons.1 hx with rfl | hx
    · match j, hj with
      | 0, _ => exact hp
      | 1, _ => exact hp
      | 2, _ => exact hp
      | 3, _ =>
        obtain ⟨qa, qc, h1, h2⟩ := hp
        exact ⟨qa, qc, h1, h2.but HBL.out hf⟩
      | 4, _ =>
        obtain ⟨b, h1, h2⟩ := hp
        exact ⟨b, h1, owns_far h2 HBL.out hf⟩
      | 5, _ => exact hp
      | 6, _ => exact hp
      | 7, _ => exact hp
      | 8, _ =>
        obtain ⟨ea, ec, h1, h2, h3⟩ := hp
        exact ⟨ea, ec, h1, owns_far h2 HBL.out hf, h3⟩
      | 9, _ =>
        obtain ⟨qa, qc, ea, ec, h1, h2, h3, h4⟩ := hp
        exact ⟨qa, qc, ea, ec, h1, h2.but HBL.out hf, owns_far h3 HBL.out hf, h4⟩
      | 10, _ => exact hp
      | 11, _ => exact absurd rfl hn
      | k + 12, h => exact absurd h (by simp)
    · cases hx
  · intro vs W0 hI hR
    obtain ⟨A0, hB, hO, hAA⟩ : ∃ B, CBox bb (GL g B) W0 ∧ LogOwn base W0 g B ∧ (B.a0 = A.a0 ∧ B.c0 = A.c0 ∧ B.a1 = A.a1 ∧ B.c1 = A.c1 ∧ B.a2 = A.a2 ∧ B.c2 = A.c2) := hR 11 (by decide) (by simp)
    have HB0 : Hid (CBox bb (GL g A0) W0) := hB
    have HO0 : Hid (LogOwn base W0 g A0) := hO
    have HK0 : Hid (Keeps w W0) := hI.1
    have HW0 : Hid (base ≤ W0.heap.size) := hI.2.1
    have HR0 : Hid (CBox r (GL zeroGrp zeroAd) W0) := hI.2.2
    clear hI hR hB hO HI0 HJ0 HOS
    have HON0 : Hid (∀ W, Keeps w W → Calls Tryz.prog 24 #[nodeV g A0 0] W fun y w' => ∃ va vc, OwnTab W.heap.size w' (.slice va g.n0.tab.length vc) g.n0.tab ∧ y = .returned (stV g.n0 (.slice va g.n0.tab.length vc)) ∧ Keeps W w') := by
      intro W hk
      have := HN0.out W hk
      rw [← hAA.1, ← hAA.2.1] at this
      exact this
    simp only [fillL, Nat.zero_add, Nat.reduceAdd]
    go_wp2_with fail
    refine wp_loop_rounds 4 ?_
    rw [rounds_succ]
    go_wp2_with (first | (refine load25 rfl rfl bb 0 (by decide) 8 rfl rfl (g := g) (A := A0) HB0.out ?_))
    refine (HON0.out W0 HK0.out).mono ?_
    rintro y y0 ⟨va, vc, ho, rfl, hb⟩
    have hBy := HB0.out.keep hb (by rw [GL_len]; decide)
    have hRy : Hid (CBox r (GL zeroGrp zeroAd) y0) := HR0.out.keep hb (by rw [GL_len]; decide)
    have HOy : Hid (LogOwn base y0 g A0) := HO0.out.keep hb
    have HTy0 : Hid (OwnTab base y0 (.slice va g.n0.tab.length vc) g.n0.tab) := ho.base HW0.out
    have HKy : Hid (Keeps w y0) := HK0.out.trans hb
    have HWy : Hid (base ≤ y0.heap.size) := Nat.le_trans HW0.out hb.size
    clear ho hb HB0 HR0 HO0 HK0 HW0
    go_wp2_with (first | (refine store25 rfl rfl bb 0 (by decide) 8 rfl rfl (s := g.n0) (xa := va) (xc := vc) rfl hBy ?_; intro W1 hS hT))
    obtain ⟨A1, hA1⟩ : ∃ z, z = setNodeA A0 0 va vc := ⟨_, rfl⟩
    have HB1 : Hid (CBox bb (GL g A1) W1) := by rw [hA1]; exact hS
    have HR1 : Hid (CBox r (GL zeroGrp zeroAd) W1) := hRy.out.other hT HNE.out (by rw [GL_len]; decide)
    have HO1 : Hid (LogOwn base W1 g A1) := by rw [hA1]; exact (HOy.out.but hT HBL.out).node _ _ 0
    have HT0 : Hid (OwnTab base W1 (.slice A1.a0 g.n0.tab.length A1.c0) g.n0.tab) := by rw [hA1]; exact HTy0.out.but HBL.out hT
    have HK1 : Hid (Keeps w W1) := But.to HKy.out HBG.out hT
    have HW1 : Hid (base ≤ W1.heap.size) := Nat.le_trans HWy.out hT.size
    have hAA : A1.a1 = A.a1 ∧ A1.c1 = A.c1 ∧ A1.a2 = A.a2 ∧ A1.c2 = A.c2 := by rw [hA1]; exact hAA.2.2
    clear hS hT hBy hRy HOy HKy HWy hA1 HTy0
    have HON1 : Hid (∀ W, Keeps w W → Calls Tryz.prog 24 #[nodeV g A1 1] W fun y w' => ∃ va vc, OwnTab W.heap.size w' (.slice va g.n1.tab.length vc) g.n1.tab ∧ y = .returned (stV g.n1 (.slice va g.n1.tab.length vc)) ∧ Keeps W w') := by
      intro W hk
      have := HN1.out W hk
      rw [← hAA.1, ← hAA.2.1] at this
      exact this
    rw [rounds_succ]
    go_wp2_with (first | (refine load25 rfl rfl bb 1 (by decide) 15 rfl rfl (g := g) (A := A1) HB1.out ?_))
    refine (HON1.out W1 HK1.out).mono ?_
    rintro y y1 ⟨va, vc, ho, rfl, hb⟩
    have hBy := HB1.out.keep hb (by rw [GL_len]; decide)
    have hRy : Hid (CBox r (GL zeroGrp zeroAd) y1) := HR1.out.keep hb (by rw [GL_len]; decide)
    have HOy : Hid (LogOwn base y1 g A1) := HO1.out.keep hb
    have HTy0 : Hid (OwnTab base y1 (.slice A1.a0 g.n0.tab.length A1.c0) g.n0.tab) := HT0.out.keep hb
    have HTy1 : Hid (OwnTab base y1 (.slice va g.n1.tab.length vc) g.n1.tab) := ho.base HW1.out
    have HKy : Hid (Keeps w y1) := HK1.out.trans hb
    have HWy : Hid (base ≤ y1.heap.size) := Nat.le_trans HW1.out hb.size
    clear ho hb HB1 HR1 HO1 HK1 HW1 HT0
    go_wp2_with (first | (refine store25 rfl rfl bb 1 (by decide) 15 rfl rfl (s := g.n1) (xa := va) (xc := vc) rfl hBy ?_; intro W2 hS hT))
    obtain ⟨A2, hA2⟩ : ∃ z, z = setNodeA A1 1 va vc := ⟨_, rfl⟩
    have HB2 : Hid (CBox bb (GL g A2) W2) := by rw [hA2]; exact hS
    have HR2 : Hid (CBox r (GL zeroGrp zeroAd) W2) := hRy.out.other hT HNE.out (by rw [GL_len]; decide)
    have HO2 : Hid (LogOwn base W2 g A2) := by rw [hA2]; exact (HOy.out.but hT HBL.out).node _ _ 1
    have HT0 : Hid (OwnTab base W2 (.slice A2.a0 g.n0.tab.length A2.c0) g.n0.tab) := by rw [hA2]; exact HTy0.out.but HBL.out hT
    have HT1 : Hid (OwnTab base W2 (.slice A2.a1 g.n1.tab.length A2.c1) g.n1.tab) := by rw [hA2]; exact HTy1.out.but HBL.out hT
    have HK2 : Hid (Keeps w W2) := But.to HKy.out HBG.out hT
    have HW2 : Hid (base ≤ W2.heap.size) := Nat.le_trans HWy.out hT.size
    have hAA : A2.a2 = A.a2 ∧ A2.c2 = A.c2 := by rw [hA2]; exact hAA.2.2
    clear hS hT hBy hRy HOy HKy HWy hA2 HTy0 HTy1
    have HON2 : Hid (∀ W, Keeps w W → Calls Tryz.prog 24 #[nodeV g A2 2] W fun y w' => ∃ va vc, OwnTab W.heap.size w' (.slice va g.n2.tab.length vc) g.n2.tab ∧ y = .returned (stV g.n2 (.slice va g.n2.tab.length vc)) ∧ Keeps W w') := by
      intro W hk
      have := HN2.out W hk
      rw [← hAA.1, ← hAA.2] at this
      exact this
    rw [rounds_succ]
    go_wp2_with (first | (refine load25 rfl rfl bb 2 (by decide) 22 rfl rfl (g := g) (A := A2) HB2.out ?_))
    refine (HON2.out W2 HK2.out).mono ?_
    rintro y y2 ⟨va, vc, ho, rfl, hb⟩
    have hBy := HB2.out.keep hb (by rw [GL_len]; decide)
    have hRy : Hid (CBox r (GL zeroGrp zeroAd) y2) := HR2.out.keep hb (by rw [GL_len]; decide)
    have HOy : Hid (LogOwn base y2 g A2) := HO2.out.keep hb
    have HTy0 : Hid (OwnTab base y2 (.slice A2.a0 g.n0.tab.length A2.c0) g.n0.tab) := HT0.out.keep hb
    have HTy1 : Hid (OwnTab base y2 (.slice A2.a1 g.n1.tab.length A2.c1) g.n1.tab) := HT1.out.keep hb
    have HTy2 : Hid (OwnTab base y2 (.slice va g.n2.tab.length vc) g.n2.tab) := ho.base HW2.out
    have HKy : Hid (Keeps w y2) := HK2.out.trans hb
    have HWy : Hid (base ≤ y2.heap.size) := Nat.le_trans HW2.out hb.size
    clear ho hb HB2 HR2 HO2 HK2 HW2 HT0 HT1
    go_wp2_with (first | (refine store25 rfl rfl bb 2 (by decide) 22 rfl rfl (s := g.n2) (xa := va) (xc := vc) rfl hBy ?_; intro W3 hS hT))
    obtain ⟨A3, hA3⟩ : ∃ z, z = setNodeA A2 2 va vc := ⟨_, rfl⟩
    have HB3 : Hid (CBox bb (GL g A3) W3) := by rw [hA3]; exact hS
    have HR3 : Hid (CBox r (GL zeroGrp zeroAd) W3) := hRy.out.other hT HNE.out (by rw [GL_len]; decide)
    have HO3 : Hid (LogOwn base W3 g A3) := by rw [hA3]; exact (HOy.out.but hT HBL.out).node _ _ 2
    have HT0 : Hid (OwnTab base W3 (.slice A3.a0 g.n0.tab.length A3.c0) g.n0.tab) := by rw [hA3]; exact HTy0.out.but HBL.out hT
    have HT1 : Hid (OwnTab base W3 (.slice A3.a1 g.n1.tab.length A3.c1) g.n1.tab) := by rw [hA3]; exact HTy1.out.but HBL.out hT
    have HT2 : Hid (OwnTab base W3 (.slice A3.a2 g.n2.tab.length A3.c2) g.n2.tab) := by rw [hA3]; exact HTy2.out.but HBL.out hT
    have HK3 : Hid (Keeps w W3) := But.to HKy.out HBG.out hT
    have HW3 : Hid (base ≤ W3.heap.size) := Nat.le_trans HWy.out hT.size
    clear hS hT hBy hRy HOy HKy HWy hA3 HTy0 HTy1 HTy2
    rw [rounds_succ]
    go_wp2_with (first | (refine load31 rfl rfl bb rfl HB3.out ?_) | (refine store31 rfl rfl r rfl rfl HR3.out ?_; intro W4 hSW4 hTW4))
    refine bodyPost_ret (results1 Tryz.results6 rfl (read31 hSW4)) rfl ?_
    exact ⟨A3, GrOwn.of (HO3.out.but hTW4 HRL.out) (HT0.out.but HRL.out hTW4) (HT1.out.but HRL.out hTW4) (HT2.out.but HRL.out hTW4) HWW.out, rfl, But.to HK3.out HRG.out hTW4⟩
end Go.Proofs.YteabfjpajgakiagGreat
