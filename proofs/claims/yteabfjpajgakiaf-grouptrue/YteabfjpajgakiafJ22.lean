/- PaE, PaG, PaH, GrV, GrW0. -/
import Derived.Test.YteabfjpajgakiafJ15
import Derived.Test.YteabfjpajgakiafJ17
import Derived.Test.YteabfjpajgakiafJ18
import Derived.Test.YteabfjpajgakiafJ19
import Derived.Test.YteabfjpajgakiafJ21
/- packBegun. -/
set_option linter.unusedSimpArgs false
set_option linter.unusedVariables false
set_option maxRecDepth 10000
namespace Go.Proofs.Yteabfjpajgakiaf
open Go.RowKit

end Go.Proofs.Yteabfjpajgakiaf

/- The reference's PackPut; PackPuts: the walk. -/
set_option linter.unusedSimpArgs false
set_option linter.unusedVariables false
set_option maxRecDepth 10000
namespace Go.Proofs.Yteabfjpajgakiaf
open Go.RowKit

end Go.Proofs.Yteabfjpajgakiaf

/- PackPuts, PackTrue: the walks. -/
set_option linter.unusedSimpArgs false
set_option linter.unusedVariables false
set_option maxRecDepth 10000
namespace Go.Proofs.Yteabfjpajgakiaf
open Go.RowKit

end Go.Proofs.Yteabfjpajgakiaf

/- Groups: whatever is done, they are right (plain). -/
set_option linter.unusedSimpArgs false
set_option linter.unusedVariables false
namespace Go.Proofs.Yteabfjpajgakiaf
open Go.RowKit

theorem one_mk {l : Lg} {s : St} (hl : lgErr l = 0) (hs : stErr s = 0) (hf : fitsB l s = true) : oneErr l s = 0 := by
  have hn : nodeErr l s = 0 := by unfold nodeErr; rw [hl, hs]; rfl
  exact oneErr_fit (by rw [hn]; rfl) (by unfold fitsOk; rw [hn, hf]; rfl)
theorem one_of {l : Lg} {s : St} (h1 : nodeErr l s = 0) (h2 : fitsOk l s = true) : oneErr l s = 0 := oneErr_fit (by rw [h1]; rfl) h2
theorem gr_mk {g : Grp} (hl : lgErr g.log = 0) (h0 : oneErr g.log g.n0 = 0) (h1 : oneErr g.log g.n1 = 0) (h2 : oneErr g.log g.n2 = 0) : grErr g = 0 := by
  unfold grErr
  rw [hl, h0, h1, h2]
  rfl
theorem gr_node {g : Grp} (h : grErr g = 0) : ∀ k, stErr (nodeAt g k) = 0 ∧ fitsB g.log (nodeAt g k) = true := by
  obtain ⟨_, _, _, ⟨s0, s1, s2⟩, f0, f1, f2⟩ := gr_right h
  intro k
  match k with
  | 0 => exact ⟨s0, f0⟩
  | 1 => exact ⟨s1, f1⟩
  | _ + 2 => exact ⟨s2, f2⟩
theorem gr_put {g : Grp} {e : Ent} (h : grErr g = 0) (he : putLgErr g.log e = 0) : grErr (setLog g (putLg g.log e)) = 0 := by
  have hn := gr_node h
  have one : ∀ k, oneErr (putLg g.log e) (nodeAt g k) = 0 := fun k => by
    obtain ⟨a, b⟩ := fits_put (hn k).1 (hn k).2 he
    exact one_of a b
  have hl : lgErr (putLg g.log e) = 0 := by
    obtain ⟨a, _⟩ := fits_put (hn 0).1 (hn 0).2 he
    exact (node_right a).1
  exact gr_mk hl (one 0) (one 1) (one 2)
theorem gr_cut {g : Grp} {n : Nat} (h : grErr g = 0) (hn' : n ≤ g.log.tail.length) : cutErr g.log n = 0 ∧ grErr (setLog g (cutLg g.log n)) = 0 := by
  have hn := gr_node h
  have hl := (gr_right h).1
  obtain ⟨c1, _, c3⟩ := cut_plain hl hn'
  have one : ∀ k, oneErr (cutLg g.log n) (nodeAt g k) = 0 := fun k => by
    obtain ⟨a, b⟩ := fits_cut hl (hn k).1 (hn k).2 hn'
    exact one_of a b
  exact ⟨c1, gr_mk c3 (one 0) (one 1) (one 2)⟩
theorem gr_set {g : Grp} {s : St} (h : grErr g = 0) (hs : oneErr g.log s = 0) : ∀ k, grErr (setNode g k s) = 0 := by
  have hn := gr_node h
  have hl := (gr_right h).1
  have one : ∀ k, oneErr g.log (nodeAt g k) = 0 := fun k => one_mk hl (hn k).1 (hn k).2
  intro k
  match k with
  | 0 => exact gr_mk hl hs (one 1) (one 2)
  | 1 => exact gr_mk hl (one 0) hs (one 2)
  | _ + 2 => exact gr_mk hl (one 0) (one 1) hs
theorem gr_run {g : Grp} (h : grErr g = 0) (k : Nat) {m : Nat} (hm : m ≤ 50) : runErr g.log (nodeAt g k) m = 0 ∧ grErr (setNode g k (runOut g.log (nodeAt g k) m)) = 0 := by
  obtain ⟨hs, hf⟩ := gr_node h k
  have hl := (gr_right h).1
  have hne : nodeErr g.log (nodeAt g k) = 0 := by unfold nodeErr; rw [hl, hs]; rfl
  obtain ⟨r1, _, r3, r4⟩ := run_ok hne hf hm
  refine ⟨r1, gr_set h ?_ k⟩
  rw [r4]
  obtain ⟨t1, _, t3, _⟩ := runTo_fits hl r3
  exact one_of t1 t3
theorem gr_same {g : Grp} (h : grErr g = 0) (a b : Nat) (he : (nodeAt g a).at_ = (nodeAt g b).at_) (hb : g.log.base.at_ ≤ (nodeAt g a).at_) : nodeAt g a = nodeAt g b := by
  obtain ⟨_, fa⟩ := gr_node h a
  obtain ⟨_, fb⟩ := gr_node h b
  rcases fits_to fa with ha | ⟨i, _, i2, i3⟩
  · omega
  · rcases fits_to fb with hb' | ⟨j, _, j2, j3⟩
    · omega
    · have : i = j := by omega
      rw [i3, j3, this]
/-- Who runs to the end has the end. -/
theorem gr_end {g : Grp} (h : grErr g = 0) (k : Nat) : runErr g.log (nodeAt g k) 50 = 0 ∧ runOut g.log (nodeAt g k) 50 = runSt g.log.base g.log.tail ∧ grErr (setNode g k (runSt g.log.base g.log.tail)) = 0 := by
  obtain ⟨hs, hf⟩ := gr_node h k
  have hl := (gr_right h).1
  have hne : nodeErr g.log (nodeAt g k) = 0 := by unfold nodeErr; rw [hl, hs]; rfl
  obtain ⟨r1, _, r3⟩ := run_end hne hf
  have := (gr_run h k (m := 50) (Nat.le_refl _)).2
  refine ⟨r1, r3, ?_⟩
  have e : ((50 : Nat) : Int) = 50 := rfl
  rw [e, r3] at this
  exact this
theorem cut_end {l : Lg} (h : lgErr l = 0) {n : Nat} (hn : n ≤ l.tail.length) : runSt (cutLg l n).base (cutLg l n).tail = runSt l.base l.tail := by
  obtain ⟨_, c2, _⟩ := cut_plain h hn
  rw [c2, ← runSt_append, List.take_append_drop]
end Go.Proofs.Yteabfjpajgakiaf

/- GroupTrue, GroupEnd: laws. -/
set_option linter.unusedSimpArgs false
set_option linter.unusedVariables false
set_option maxRecDepth 10000
namespace Go.Proofs.Yteabfjpajgakiaf
open Go.RowKit

def chF (c n : Int) : Int := if c < 0 then (-(c + 1)).tmod n else c.tmod n
theorem chF_in {c n : Int} (hn : 1 ≤ n) : 0 ≤ chF c n ∧ chF c n < n := by
  unfold chF
  split
  · exact ⟨Int.tmod_nonneg _ (by omega), Int.tmod_lt_of_pos _ (by omega)⟩
  · exact ⟨Int.tmod_nonneg _ (by omega), Int.tmod_lt_of_pos _ (by omega)⟩
theorem choose_f (c n : Int) (w : World) (hc0 : -9223372036854775808 ≤ c) (hc1 : c ≤ 9223372036854775807) (hn : 1 ≤ n) (hn1 : n ≤ 9223372036854775807) :
    Calls Try.prog 12 #[.int .i64 c, .int .i64 n] w fun e w' => e = .returned (.int .i64 (chF c n)) ∧ w = w' := by
  have hne : ¬ n = 0 := by omega
  by_cases h : c < 0
  · have e1 : Hid (chF c n = (-(c + 1)).tmod n) := if_pos h
    go_enter Try.func12, Try.ntmps12
    go_wp2
    go_ret
    rw [e1.out]
    first
      | exact ⟨rfl, rfl⟩
      | exact ⟨by rw [Int.neg_tmod]; rfl, rfl⟩
  · have e1 : Hid (chF c n = c.tmod n) := if_neg h
    have e2 : Hid (c.tmod n = c % n) := Int.tmod_eq_emod_of_nonneg (by omega)
    go_enter Try.func12, Try.ntmps12
    go_wp2
    go_ret
    rw [e1.out]
    first
      | exact ⟨rfl, rfl⟩
      | exact ⟨by rw [e2.out]; rfl, rfl⟩
theorem wrap_small {n : Int} (h0 : 0 ≤ n) (h1 : n ≤ 1000) : IntKind.i64.wrap n = n := by
  simp [IntKind.wrap, IntKind.bits, IntKind.signed]
  omega
theorem GL_at (g : Grp) (A : Ad) : ∀ k, k < 3 → (GL g A)[8 + k * 7]? = some (.int .i64 (nodeAt g k).at_)
  | 0, _ => rfl
  | 1, _ => rfl
  | 2, _ => rfl
  | _ + 3, h => absurd h (by omega)
theorem y_int {ops : Array Oper} {S : World → Prop} {op : Oper} {a : Act} (hw : Region.wanted op (yielded ops a.tmps) = true) {x : Operand} (ho : op.op = .load 3 x) (b o : Nat) (hx : a.eval x = .pointer (some ⟨b, o, none⟩)) {v : Value} {cs : List Value} (hv : cs[o]? = some v) (hS : ∀ w, S w → CBox b cs w) : YieldsIf Try.prog ops S op v a :=
  .inl ⟨hw, fun w h => by
    have e := loadAt_cell (P := Try.prog) (t := 3) ((hS w h).1 o v hv) (by kernel_rfl)
    unfold execOp
    simp only [ho, hx, Sem.run_bind, e, Result.andThen_ok, Sem.run_pure]⟩
theorem y_tail {ops : Array Oper} {S : World → Prop} {op : Oper} {a : Act} (hw : Region.wanted op (yielded ops a.tmps) = true) {x : Operand} (ho : op.op = .load 26 x) (b : Nat) (hx : a.eval x = .pointer (some ⟨b, 7, none⟩)) {g : Grp} {A : Ad} (hS : ∀ w, S w → CBox b (GL g A) w) : YieldsIf Try.prog ops S op (.slice A.ta g.log.tail.length A.tc) a :=
  .inl ⟨hw, fun w h => by
    have e := tail_run (hS w h)
    unfold execOp
    simp only [ho, hx, Sem.run_bind, e, Result.andThen_ok, Sem.run_pure]⟩
end Go.Proofs.Yteabfjpajgakiaf
