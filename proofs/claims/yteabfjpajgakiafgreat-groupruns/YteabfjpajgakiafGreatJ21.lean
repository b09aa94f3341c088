/- PkB, GrO0, GrS0, GrS, GrL. -/
import Derived.ArgAppend
import Derived.Great.BuildSlice
import Derived.Test.YteabfjpajgakiafGreatJ02
import Derived.Test.YteabfjpajgakiafGreatJ13
import Derived.Test.YteabfjpajgakiafGreatJ14
import Derived.Test.YteabfjpajgakiafGreatJ17
import Derived.Test.YteabfjpajgakiafGreatJ18
import Derived.Test.YteabfjpajgakiafGreatJ20
/- Behind an empty slice that was built: an append only adds memory. -/
set_option linter.unusedSimpArgs false
set_option linter.unusedVariables false
namespace Go.Proofs.YteabfjpajgakiafGreat
open Go.RowKit

theorem run_append_bare (w : World) (base b : Nat) (hown : w.ownsRow base 35 9 (.slice (some ⟨b, 0, none⟩) 0 0) 0 []) (x : Value) (n : Nat) (xs : List Value) (hx : RowAt w 9 x n xs) (h1 : ∀ u ∈ xs, u.oneCell' = true) (h63 : n ≤ maxLen) (hbytes : n * 72 ≤ 140737488355328) (hbase : base ≤ w.heap.size) (ty : TypeId) :
    ∃ v' w', (Builtin.append_ #[26, 26] ty #[.slice (some ⟨b, 0, none⟩) 0 0, x]).run Tryz.prog w = .ok v' w' ∧ w'.ownsRow base 35 9 v' n xs ∧ Keeps w w' := by
  obtain ⟨i, hi, hz, hs, hb⟩ := info_parts infoEnt
  rcases hx.2.2 with ⟨rfl, rfl⟩ | ⟨a, cap, rfl, hc⟩
  · have hx0 : xs = [] := List.eq_nil_of_length_eq_zero (by simpa using hx.1)
    subst hx0
    exact ⟨_, w, run_append_owned_none (P := Tryz.prog) w base 26 ty 35 i 9 Tryz.underlying26 hi _ 0 [] hown, hown, Keeps.refl _⟩
  · by_cases hn : n = 0
    · subst hn
      have hx0 : xs = [] := List.eq_nil_of_length_eq_zero (by simpa using hx.1)
      subst hx0
      have hr := run_append_room_cells (P := Tryz.prog) w 26 ty 35 i Tryz.underlying26 hi b 0 0 0 a 0 cap [] (by simp) (by simp) (by simp) (by simp) (by simp) (by simp)
      refine ⟨_, _, hr, ?_, ?_⟩
      · simpa [World.setCells] using hown
      · simpa [World.setCells] using Keeps.refl w
    · obtain ⟨v', w', hr, ho, hg⟩ := run_append_arg_grows (P := Tryz.prog) w 26 ty 35 i _ 9 72 Tryz.underlying26 hi hz hs hb rfl (by decide) ⟨b, 0, none⟩ 0 0 [] (by simp) (by simp) a n cap xs hx.1 hc (by omega) (by omega) (by omega)
      rw [Nat.zero_add, List.nil_append] at ho
      exact ⟨v', w', hr, owns_base ho hbase, keeps_grown (v := .slice none 0 0) (Keeps.refl _) hg (fun k h => by cases h)⟩
end Go.Proofs.YteabfjpajgakiafGreat

/- Steps of a drawn region, one law an operation. -/
set_option linter.unusedSimpArgs false
set_option linter.unusedVariables false
set_option maxRecDepth 10000
namespace Go.Proofs.YteabfjpajgakiafGreat
open Go.RowKit

theorem GrowStepI.wrp {P : Program} {l : List Oper} {Q : Exit → Act → World → Prop} {a0 : Act} {I : World → Prop} {J : Pr} {ds : List (Option Tmp)} {R : List Pr} {xs : List Wr} {i : Nat} {o : Oper} (ho : l[i]? = some o) (hg : o.guard = none)
    (h : ∀ (vs : Nat → Value) (W : World), I W → ((xs.all fun x => x.num == i || reachB l.toArray l.toArray.size x.num i) = true → J.p undef W) → (∀ j, mayB l.toArray xs i j = true → (prAt R j).p (vs j) W) → ∀ K : Act → World → Prop, Shut (∀ a' v W', a' = (fillL ds vs 0 a0).put (ds.getD i none) v → FrI xs I i W W' → (prAt R i).p v W' → K a' W') → Wrp (o.wp P (fillL ds vs 0 a0) W K Q)) : GrowStepI P l Q a0 I J ds R xs i := ⟨by
  intro vs W hI hJ hR K hK
  rw [ho]
  have hw : Region.wanted o (yielded l.toArray (fillL ds vs 0 a0).tmps) = true := by simp [Region.wanted, hg]
  simp only [hw, if_true]
  exact (h vs W hI hJ hR K hK).out⟩
theorem h_run {P : Program} {o : Oper} {a : Act} {w w' : World} {K : Act → World → Prop} {Q : Exit → Act → World → Prop} {v : Value} (hr : (execOp a.eval o).run P w = .ok (.value v) w') (hK : K (a.put o.dst v) w') : Wrp (o.wp P a w K Q) := ⟨by
  unfold Oper.wp
  rw [hr]
  exact hK⟩
theorem h_field {P : Program} {o : Oper} {a : Act} {w : World} {K : Act → World → Prop} {Q : Exit → Act → World → Prop} {t : TypeId} {x : Operand} {f : Nat} (ho : o.op = .fieldAddr t x f) {p q : Value} (hx : a.eval x = p) (hr : (Instr.fieldAt t p f).run P w = .ok q w) (hK : K (a.put o.dst q) w) : Wrp (o.wp P a w K Q) :=
  h_run (by simp only [execOp, ho, hx, Sem.run_bind, hr, Result.andThen_ok, Sem.run_pure]) hK
theorem h_load {P : Program} {o : Oper} {a : Act} {w : World} {K : Act → World → Prop} {Q : Exit → Act → World → Prop} {t : TypeId} {x : Operand} (ho : o.op = .load t x) {p q : Value} (hx : a.eval x = p) (hr : (Instr.loadAt t p).run P w = .ok q w) (hK : K (a.put o.dst q) w) : Wrp (o.wp P a w K Q) :=
  h_run (by simp only [execOp, ho, hx, Sem.run_bind, hr, Result.andThen_ok, Sem.run_pure]) hK
theorem h_append {P : Program} {o : Oper} {a : Act} {w w' : World} {K : Act → World → Prop} {Q : Exit → Act → World → Prop} {v x v' : Value} (s y : Operand) (t : TypeId) (ho : o.op = .call { callee := .builtin .append, args := #[s, y], argTypes := #[t, t] }) (hs : a.eval s = v) (hx : a.eval y = x)
    (hr : (Builtin.append_ #[t, t] o.type #[v, x]).run P w = .ok v' w') (hK : K (a.put o.dst v') w') : Wrp (o.wp P a w K Q) := ⟨by
  unfold Oper.wp
  simp [execOp, ho, resolve, invoke, builtin, hs, hx, hr, Result.andThen]
  exact hK⟩
theorem empty_ents (w : World) : (Instr.buildSlice 26 0 #[]).run Tryz.prog w = .ok (.slice (some ⟨w.heap.size, 0, none⟩) 0 0) (w.alloc (.cells #[] 35)) := by kernel_rfl
theorem h_empty {o : Oper} {a : Act} {w : World} {K : Act → World → Prop} {Q : Exit → Act → World → Prop} (base : Nat) (hb : base ≤ w.heap.size) (ho : o.op = .buildSlice 26 0 #[])
    (h : ∀ w' b, w'.ownsRow base 35 9 (.slice (some ⟨b, 0, none⟩) 0 0) 0 [] → Keeps w w' → K (a.put o.dst (.slice (some ⟨b, 0, none⟩) 0 0)) w') : Wrp (o.wp Tryz.prog a w K Q) :=
  h_run (w' := w.alloc (.cells #[] 35)) (v := .slice (some ⟨w.heap.size, 0, none⟩) 0 0) (by
    have e := empty_ents w
    simp only [execOp, ho, Sem.run_bind, Array.map_empty, e, Result.andThen_ok, Sem.run_pure])
    (h _ w.heap.size (World.ownsRow_made (base := base) (e := 35) (size := 9) w #[] 0 hb (by unfold maxLen; omega) rfl) ((Keeps.refl _).alloc _))
theorem log_built (l : Lg) (xa ta : Option Addr) (xn xc tn tc : Nat) (w : World) : (Instr.build 28 #[(0, stV l.base (.slice xa xn xc)), (1, .slice ta tn tc)]).run Tryz.prog w = .ok (lgV l (.slice xa xn xc) (.slice ta tn tc)) w := by kernel_rfl
theorem h_build28 {o : Oper} {a : Act} {w : World} {K : Act → World → Prop} {Q : Exit → Act → World → Prop} {x y : Operand} (ho : o.op = .build 28 #[(0, x), (1, y)]) (l : Lg) (xa ta : Option Addr) (xn xc tn tc : Nat) (hx : a.eval x = stV l.base (.slice xa xn xc)) (hy : a.eval y = .slice ta tn tc) (hK : K (a.put o.dst (lgV l (.slice xa xn xc) (.slice ta tn tc))) w) : Wrp (o.wp Tryz.prog a w K Q) :=
  h_run (by
    have e := log_built l xa ta xn xc tn tc w
    simp only [execOp, ho]
    rw [show (#[(0, x), (1, y)].map fun (i, x) => (i, a.eval x)) = #[(0, stV l.base (.slice xa xn xc)), (1, .slice ta tn tc)] by simp [hx, hy]]
    simp only [Sem.run_bind, e, Result.andThen_ok, Sem.run_pure]) hK
theorem loadAt_cell {P : Program} {w : World} {b i : Nat} {t : TypeId} {v : Value} (hc : w.cell? ⟨b, i, none⟩ = some v) (ha : (isAgg t).run P w = .ok false w) : (Instr.loadAt t (.pointer (some ⟨b, i, none⟩))).run P w = .ok v w := by
  simp [Instr.loadAt, Instr.sureAddr, loadVar, ha, go_sem, hc]
theorem base_run {w : World} {b : Nat} {g : Grp} {A : Ad} (hB : CBox b (GL g A) w) : (Instr.loadAt 25 (.pointer (some ⟨b, 0, none⟩))).run Tryz.prog w = .ok (stV g.log.base (.slice A.xa g.log.base.tab.length A.xc)) w := by
  obtain ⟨d, h1, h2⟩ := row25
  exact run_loadAt_mid w b 0 _ (SC g.log.base (.slice A.xa g.log.base.tab.length A.xc)) d (range_of hB 0 7 rfl) h1 h2 (info_size size25 rfl)
theorem tail_run {w : World} {b : Nat} {g : Grp} {A : Ad} (hB : CBox b (GL g A) w) : (Instr.loadAt 26 (.pointer (some ⟨b, 7, none⟩))).run Tryz.prog w = .ok (.slice A.ta g.log.tail.length A.tc) w :=
  loadAt_cell (hB.1 7 _ rfl) (by kernel_rfl)
end Go.Proofs.YteabfjpajgakiafGreat

/- groupBegun: what its calls make (plain), and laws. -/
set_option linter.unusedSimpArgs false
set_option linter.unusedVariables false
set_option maxRecDepth 10000
namespace Go.Proofs.YteabfjpajgakiafGreat
open Go.RowKit

def bE1 : Ent := ⟨1, 1, 1, 0, 0, 0, 0, 0, 0⟩
def bE2 : Ent := ⟨2, 2, 1, 1, 0, 2, 0, 0, 5⟩
def bG1 : Grp := pgG zeroGrp bE1
def bG2 : Grp := pgG bG1 bE2
def bH : Grp := rgG bG2 1 9
def bJ : Grp := cgG bH 2
def bP : Grp := rgG bJ 0 0
def setV (g : Grp) : Grp := ⟨g.log, g.n0, ⟨g.n1.at_, g.n1.clock, 4, g.n1.v1, g.n1.v2, g.n1.v3, g.n1.tab⟩, g.n2⟩
theorem gr_runs : (pgErr zeroGrp bE1 = 0 ∧ pgAns zeroGrp bE1 = 0) ∧ (pgErr bG1 bE2 = 0 ∧ pgAns bG1 bE2 = 5) ∧ (rgErr bG2 1 9 = 0 ∧ rgNum bG2 1 9 = 2) ∧ cgErr bH 2 = 0 ∧ (rgErr bJ 0 0 = 0 ∧ rgNum bJ 0 0 = 0) ∧ rgErr bJ 3 0 = 3 ∧ (bH.n1.v0 = 5 ∧ bJ.log.tail.length = 0 ∧ bP.n0.v0 = 5) ∧ grErr zeroGrp = 0 ∧ grErr (setV bH) = 1 := by decide +kernel
/-- One cell of a variable is written. -/
theorem CBox.set {b : Nat} {cs : List Value} {w : World} (h : CBox b cs w) (i : Nat) (v : Value) : CBox b (cs.set i v) (w.setCell ⟨b, i, none⟩ v) := by
  refine ⟨fun j u hu => ?_, fun j => (World.frozen?_setCell _ _ _ _).trans (h.2 j)⟩
  by_cases hij : i = j
  · subst hij
    rw [List.getElem?_set] at hu
    simp only [if_true] at hu
    split at hu
    · rename_i hl
      have hc := h.1 i _ (List.getElem?_eq_getElem hl)
      rw [World.cell?_setCell_same _ _ _ hc]
      exact hu
    · cases hu
  · rw [List.getElem?_set_ne hij] at hu
    rw [World.cell?_setCell_other _ _ _ _ (by intro e; injection e with _ e _; exact hij e)]
    exact h.1 j u hu
theorem GL_setV (g : Grp) (A : Ad) : (GL g A).set 17 (.int .i64 4) = GL (setV g) A := rfl
theorem GrAt.setV {w : World} {g : Grp} {A : Ad} (h : GrAt w g A) : GrAt w (Go.Proofs.YteabfjpajgakiafGreat.setV g) A := ⟨h.base, h.tail, h.cap, h.t0, h.t1, h.t2⟩
theorem load31w {ops : Array Oper} {rest : List Oper} {op : Oper} {a : Act} {w : World} {Q : Exit → Act → World → Prop} (hw : Region.wanted op (yielded ops a.tmps) = true) {x : Operand} (ho : op.op = .load 31 x) (b : Nat) (hx : a.eval x = .pointer (some ⟨b, 0, none⟩)) {g : Grp} {A : Ad} (hB : CBox b (GL g A) w)
    (h : wpList Tryz.prog ops Q rest (a.put op.dst (.agg (GL g A).toArray)) w) : wpList Tryz.prog ops Q (op :: rest) a w := by
  obtain ⟨d, h1, h2⟩ := row31
  refine wpList_step fun K hK => ?_
  rw [if_pos hw]
  exact wp_load_mid _ x ho b 0 hx _ d (range_of hB 0 29 (GL_all g A)) h1 h2 (info_size size31 (GL_len g A)) (hK _ _ h)
theorem store_cell {ops : Array Oper} {rest : List Oper} {op : Oper} {a : Act} {w : World} {Q : Exit → Act → World → Prop} (hgd : op.guard = none) {x y : Operand} (ho : op.op = .store 3 x y) (b i : Nat) (hx : a.eval x = .pointer (some ⟨b, i, none⟩)) {n : Int} (hy : a.eval y = .int .i64 n) {cs es : List Value} (hB : CBox b cs w) (hi : i < cs.length) (hes : cs.set i (.int .i64 n) = es)
    (h : ∀ w', CBox b es w' → But b w w' → wpList Tryz.prog ops Q rest (a.put op.dst undef) w') : wpList Tryz.prog ops Q (op :: rest) a w := by
  subst hes
  refine wpList_plain hgd fun K hK => ?_
  have hc := hB.1 i _ (List.getElem?_eq_getElem hi)
  have hz := hB.2 i
  have hn := h _ (hB.set i (.int .i64 n)) ((But.refl _ _).set i _)
  have e0 : (Instr.storeAt 3 (.pointer (some ⟨b, i, none⟩)) (.int .i64 n)).run Tryz.prog w = .ok () (w.setCell ⟨b, i, none⟩ (.int .i64 n)) := by simp [go_sem, hc, hz]
  have e1 : (execOp a.eval op).run Tryz.prog w = .ok .skip (w.setCell ⟨b, i, none⟩ (.int .i64 n)) := by
    simp only [execOp, ho, hx, hy, Sem.run_bind, e0, Result.andThen_ok, Sem.run_pure]
  unfold Oper.wp
  rw [e1]
  exact hK _ _ hn
theorem load31_run {w : World} {b : Nat} {g : Grp} {A : Ad} (hB : CBox b (GL g A) w) : (Instr.loadAt 31 (.pointer (some ⟨b, 0, none⟩))).run Tryz.prog w = .ok (.agg (GL g A).toArray) w := by
  obtain ⟨d, h1, h2⟩ := row31
  exact run_loadAt_mid w b 0 _ (GL g A) d (range_of hB 0 29 (GL_all g A)) h1 h2 (info_size size31 (GL_len g A))
theorem h_move {P : Program} {o : Oper} {a : Act} {w : World} {K : Act → World → Prop} {Q : Exit → Act → World → Prop} {x : Operand} (ho : o.op = .move x) {v : Value} (hx : a.eval x = v) (hK : K (a.put o.dst v) w) : Wrp (o.wp P a w K Q) := h_run (by simp [execOp, ho, hx]) hK
theorem h_assign {P : Program} {o : Oper} {a : Act} {w : World} {K : Act → World → Prop} {Q : Exit → Act → World → Prop} {x : Operand} (ho : o.op = .assign x) {v : Value} (hx : a.eval x = v) (hK : K (a.put o.dst v) w) : Wrp (o.wp P a w K Q) := h_run (by simp [execOp, ho, hx]) hK
theorem h_extract {P : Program} {o : Oper} {a : Act} {w : World} {K : Act → World → Prop} {Q : Exit → Act → World → Prop} {x : Operand} {i : Nat} (ho : o.op = .extract x i) {vs : Array Value} {v : Value} (hx : a.eval x = .tuple vs) (hv : vs[i]? = some v) (hK : K (a.put o.dst v) w) : Wrp (o.wp P a w K Q) := h_run (by generalize a.eval = f at hx; simp [execOp, ho, hx, hv, go_sem]) hK
end Go.Proofs.YteabfjpajgakiafGreat

/- groupBegun. -/
set_option linter.unusedSimpArgs false
set_option linter.unusedVariables false
set_option maxRecDepth 10000
namespace Go.Proofs.YteabfjpajgakiafGreat
open Go.RowKit

set_option maxHeartbeats 8000000 in
theorem group_begun (w : World) : Calls Tryz.prog 7 #[] w fun y w' => y = .returned (.bool true) ∧ Keeps w w' := by
  obtain ⟨p1, p2, p3, p4, p5, p6, p7, p8, p9⟩ := gr_runs
  have HP1 : Hid (∀ W, Calls Tryz.prog 5 #[.agg (GL zeroGrp zeroAd).toArray, entV bE1] W fun y w' => ∃ B, GrOwn W.heap.size w' bG1 B ∧ y = .returned (.tuple #[.agg (GL bG1 B).toArray, .int .i64 0, .int .i64 0]) ∧ Keeps W w') := fun W => by
    have := group_put zeroGrp zeroAd bE1 W (GrOwn.zero 0 _).at
    rw [p1.1, p1.2] at this
    exact this
  have HP2 : Hid (∀ A W, GrAt W bG1 A → Calls Tryz.prog 5 #[.agg (GL bG1 A).toArray, entV bE2] W fun y w' => ∃ B, GrOwn W.heap.size w' bG2 B ∧ y = .returned (.tuple #[.agg (GL bG2 B).toArray, .int .i64 5, .int .i64 0]) ∧ Keeps W w') := fun A W h => by
    have := group_put bG1 A bE2 W h
    rw [p2.1, p2.2] at this
    exact this
  have HP3 : Hid (∀ A W, GrAt W bG2 A → Calls Tryz.prog 11 #[.agg (GL bG2 A).toArray, .int .i64 1, .int .i64 9] W fun y w' => ∃ B, GrOwn W.heap.size w' bH B ∧ y = .returned (.tuple #[.agg (GL bH B).toArray, .int .i64 2, .int .i64 0]) ∧ Keeps W w') := fun A W h => by
    have := group_run bG2 A 1 9 W h
    rw [p3.1, p3.2] at this
    exact this
  have HP4 : Hid (∀ A W, GrAt W bH A → Calls Tryz.prog 12 #[.agg (GL bH A).toArray, .int .i64 2] W fun y w' => ∃ B, GrOwn W.heap.size w' bJ B ∧ y = .returned (.tuple #[.agg (GL bJ B).toArray, .int .i64 0]) ∧ Keeps W w') := fun A W h => by
    have := group_cut bH A 2 W h
    rw [p4] at this
    exact this
  have HP5 : Hid (∀ A W, GrAt W bJ A → Calls Tryz.prog 11 #[.agg (GL bJ A).toArray, .int .i64 0, .int .i64 0] W fun y w' => ∃ B, GrOwn W.heap.size w' bP B ∧ y = .returned (.tuple #[.agg (GL bP B).toArray, .int .i64 0, .int .i64 0]) ∧ Keeps W w') := fun A W h => by
    have := group_run bJ A 0 0 W h
    rw [p5.1, p5.2] at this
    exact this
  have HP6 : Hid (∀ A W, GrAt W bJ A → Calls Tryz.prog 11 #[.agg (GL bJ A).toArray, .int .i64 3, .int .i64 0] W fun y w' => ∃ Z B nu, GrOwn W.heap.size w' Z B ∧ y = .returned (.tuple #[.agg (GL Z B).toArray, .int .i64 nu, .int .i64 3]) ∧ Keeps W w') := fun A W h => by
    have := group_run bJ A 3 0 W h
    rw [p6] at this
    exact this.mono fun y w' ⟨B, h1, h2, h3⟩ => ⟨_, B, _, h1, h2, h3⟩
  have HP8 : Hid (∀ W, Calls Tryz.prog 8 #[.agg (GL zeroGrp zeroAd).toArray] W fun e w' => e = .returned (.int .i64 0) ∧ Keeps W w') := fun W => by
    have := group_check zeroGrp zeroAd W (GrOwn.zero 0 _).at
    rw [p8] at this
    exact this
  have HP9 : Hid (∀ A W, GrAt W bH A → Calls Tryz.prog 8 #[.agg (GL (setV bH) A).toArray] W fun e w' => e = .returned (.int .i64 1) ∧ Keeps W w') := fun A W h => by
    have := group_check (setV bH) A W h.setV
    rw [p9] at this
    exact this
  obtain ⟨v1, v2, v3⟩ := p7
  clear p1 p2 p3 p4 p5 p6 p8 p9
  generalize bG1 = G1 at *
  generalize bG2 = G2 at *
  generalize bH = H at *
  generalize bJ = J at *
  generalize bP = PP at *
  go_enter Tryz.func7, Tryz.ntmps7
  go_wp2_with fail
  refine (group_begin w).mono ?_
  rintro y w1 ⟨rfl, hb1⟩
  go_wp2_with fail
  refine (mk_open 1 1 w1).mono ?_
  rintro y w2 ⟨rfl, hb2⟩
  go_wp2_with fail
  refine (HP1.out w2).mono ?_
  rintro y w3 ⟨B1, ho, rfl, hb3⟩
  have hk3 : Keeps w w3 := (hb1.trans hb2).trans hb3
  have HO3 : Hid (GrOwn w2.heap.size w3 G1 B1) := ho
  clear ho hb1 hb2 hb3 HP1
  go_wp2_with (first | (refine alloc31 rfl rfl ?_; intro w4 gb hBgb hkgb hlgb hggb) | (refine store31 rfl rfl gb rfl rfl hBgb ?_; intro w5 hSw5 hTw5))
  have hk35 : Keeps w3 w5 := But.to hkgb hggb hTw5
  obtain ⟨base, hbase⟩ : ∃ z, z = w5.heap.size := ⟨_, rfl⟩
  have HGL : Hid (gb < base) := by rw [hbase]; exact hSw5.lt (by rw [GL_len]; decide)
  have HGG : Hid (w.heap.size ≤ gb) := Nat.le_trans hk3.size hggb
  have HI0 : Hid ((fun W => Keeps w W ∧ base ≤ W.heap.size) w5.drew) := ⟨(hk3.trans hk35).drew, by rw [hbase]; exact Nat.le_refl _⟩
  have HJ0 : Hid (CBox gb (GL G1 B1) w5.drew ∧ GrAt w5.drew G1 B1) := ⟨hSw5.keep (Keeps.refl _).drew (by rw [GL_len]; decide), (HO3.out.at.keep hk35).keep (Keeps.refl _).drew⟩
  clear hbase hBgb hkgb hlgb hggb hSw5 hTw5 hk3 hk35 HO3
  refine wp_region_growI (fun W => Keeps w W ∧ base ≤ W.heap.size) HI0.out ⟨fun _ W => CBox gb (GL G1 B1) W ∧ GrAt W G1 B1, fun _ W W' h hk => ⟨h.1.keep hk (by rw [GL_len]; decide), h.2.keep hk⟩⟩ HJ0.out [some 26, some 27, some 28, some 29, some 25, some 30, some 31, some 32, none, some 4, some 5] [
  Pr.is (.agg (GL G1 B1).toArray),
  Pr.is (.agg #[.int .i64 2, .int .i64 0, .int .i64 0, .int .i64 5]),
  Pr.is (entV bE2),
  ⟨fun v W => ∃ B, v = .tuple #[.agg (GL G2 B).toArray, .int .i64 5, .int .i64 0] ∧ GrOwn base W G2 B, fun v W W' ⟨B, h1, h2⟩ hk => ⟨B, h1, h2.keep hk⟩⟩,
  ⟨fun v W => ∃ B, v = .tuple #[.agg (GL G2 B).toArray, .int .i64 5, .int .i64 0] ∧ GrOwn base W G2 B, fun v W W' ⟨B, h1, h2⟩ hk => ⟨B, h1, h2.keep hk⟩⟩,
  ⟨fun v W => ∃ B, v = .agg (GL G2 B).toArray ∧ GrOwn base W G2 B, fun v W W' ⟨B, h1, h2⟩ hk => ⟨B, h1, h2.keep hk⟩⟩,
  Pr.is (.int .i64 5),
  Pr.is (.int .i64 0),
  ⟨fun v W => ∃ B, CBox gb (GL G2 B) W ∧ GrOwn base W G2 B, fun v W W' ⟨B, h1, h2⟩ hk => ⟨B, h1.keep hk (by rw [GL_len]; decide), h2.keep hk⟩⟩,
  Pr.is (.int .i64 5),
  Pr.is (.int .i64 0)] [⟨8, [], fun W W' => But gb W W'⟩] (by kernel_rfl) (by kernel_rfl) (by kernel_rfl) (by kernel_rfl) ?_ ?_ ?_
  · intro i hi
    match i, hi with
    | 0, _ =>
      refine GrowStepI.wrp rfl rfl ?_
      intro vs W hI hJ hR K hK
      have hb : CBox gb (GL G1 B1) W ∧ GrAt W G1 B1 := hJ (by kernel_rfl)
      refine h_load rfl (p := .pointer (some ⟨gb, 0, none⟩)) (by kernel_rfl) (load31_run hb.1) ?_
      refine hK.out _ (.agg (GL G1 B1).toArray) _ (by kernel_rfl) (FrI.of (by simp) ⟨hI.1.trans (Keeps.refl W), Nat.le_trans hI.2 (Keeps.size (Keeps.refl W))⟩ (Keeps.refl W)) ?_
      exact rfl
    | 1, _ =>
      refine GrowStepI.wrp rfl rfl ?_
      intro vs W hI hJ hR K hK
      refine h_call ?_
      go_simp
      refine (mk_add 5 W).mono ?_
      rintro y W' ⟨rfl, hb⟩
      go_simp
      refine hK.out _ (.agg #[.int .i64 2, .int .i64 0, .int .i64 0, .int .i64 5]) _ (by kernel_rfl) (FrI.of (by simp) ⟨hI.1.trans (hb), Nat.le_trans hI.2 (Keeps.size (hb))⟩ (hb)) ?_
      exact rfl
    | 2, _ =>
      refine GrowStepI.wrp rfl rfl ?_
      intro vs W hI hJ hR K hK
      have h1 : vs 1 = .agg #[.int .i64 2, .int .i64 0, .int .i64 0, .int .i64 5] := hR 1 (by kernel_rfl)
      refine h_call ?_
      simp only [fillL, Nat.zero_add, Nat.reduceAdd, h1] at hK ⊢
      go_simp
      refine (mk_call 2 1 1 0 2 0 0 5 W).mono ?_
      rintro y W' ⟨rfl, hb⟩
      go_simp
      refine hK.out _ (entV bE2) _ (by kernel_rfl) (FrI.of (by simp) ⟨hI.1.trans (hb), Nat.le_trans hI.2 (Keeps.size (hb))⟩ (hb)) ?_
      exact rfl
    | 3, _ =>
      refine GrowStepI.wrp rfl rfl ?_
      intro vs W hI hJ hR K hK
      have h0 : vs 0 = .agg (GL G1 B1).toArray := hR 0 (by kernel_rfl)
      have h2 : vs 2 = entV bE2 := hR 2 (by kernel_rfl)
      have hj : CBox gb (GL G1 B1) W ∧ GrAt W G1 B1 := hJ (by kernel_rfl)
      refine h_call ?_
      simp only [fillL, Nat.zero_add, Nat.reduceAdd, h0, h2] at hK ⊢
      go_simp
      refine (HP2.out B1 W hj.2).mono ?_
      rintro y W' ⟨B, ho, rfl, hb⟩
      go_simp
      refine hK.out _ (.tuple #[.agg (GL G2 B).toArray, .int .i64 5, .int .i64 0]) _ (by kernel_rfl) (FrI.of (by simp) ⟨hI.1.trans (hb), Nat.le_trans hI.2 (Keeps.size (hb))⟩ (hb)) ?_
      exact ⟨B, rfl, ho.mono hI.2⟩
    | 4, _ =>
      refine GrowStepI.wrp rfl rfl ?_
      intro vs W hI hJ hR K hK
      obtain ⟨B, h3, ho⟩ : ∃ B, vs 3 = .tuple #[.agg (GL G2 B).toArray, .int .i64 5, .int .i64 0] ∧ GrOwn base W G2 B := hR 3 (by kernel_rfl)
      refine h_move rfl ((show _ = vs 3 from by kernel_rfl).trans h3) ?_
      refine hK.out _ (.tuple #[.agg (GL G2 B).toArray, .int .i64 5, .int .i64 0]) _ (by kernel_rfl) (FrI.of (by simp) ⟨hI.1.trans (Keeps.refl W), Nat.le_trans hI.2 (Keeps.size (Keeps.refl W))⟩ (Keeps.refl W)) ?_
      exact ⟨B, rfl, ho⟩
    | 5, _ =>
      refine GrowStepI.wrp rfl rfl ?_
      intro vs W hI hJ hR K hK
      obtain ⟨B, h4, ho⟩ : ∃ B, vs 4 = .tuple #[.agg (GL G2 B).toArray, .int .i64 5, .int .i64 0] ∧ GrOwn base W G2 B := hR 4 (by kernel_rfl)
      refine h_extract rfl ((show _ = vs 4 from by kernel_rfl).trans h4) rfl ?_
      refine hK.out _ (.agg (GL G2 B).toArray) _ (by kernel_rfl) (FrI.of (by simp) ⟨hI.1.trans (Keeps.refl W), Nat.le_trans hI.2 (Keeps.size (Keeps.refl W))⟩ (Keeps.refl W)) ?_
      exact ⟨B, rfl, ho⟩
    | 6, _ =>
      refine GrowStepI.wrp rfl rfl ?_
      intro vs W hI hJ hR K hK
      obtain ⟨B, h4, ho⟩ : ∃ B, vs 4 = .tuple #[.agg (GL G2 B).toArray, .int .i64 5, .int .i64 0] ∧ GrOwn base W G2 B := hR 4 (by kernel_rfl)
      refine h_extract rfl ((show _ = vs 4 from by kernel_rfl).trans h4) rfl ?_
      refine hK.out _ (.int .i64 5) _ (by kernel_rfl) (FrI.of (by simp) ⟨hI.1.trans (Keeps.refl W), Nat.le_trans hI.2 (Keeps.size (Keeps.refl W))⟩ (Keeps.refl W)) ?_
      exact rfl
    | 7, _ =>
      refine GrowStepI.wrp rfl rfl ?_
      intro vs W hI hJ hR K hK
      obtain ⟨B, h4, ho⟩ : ∃ B, vs 4 = .tuple #[.agg (GL G2 B).toArray, .int .i64 5, .int .i64 0] ∧ GrOwn base W G2 B := hR 4 (by kernel_rfl)
      refine h_extract rfl ((show _ = vs 4 from by kernel_rfl).trans h4) rfl ?_
      refine hK.out _ (.int .i64 0) _ (by kernel_rfl) (FrI.of (by simp) ⟨hI.1.trans (Keeps.refl W), Nat.le_trans hI.2 (Keeps.size (Keeps.refl W))⟩ (Keeps.refl W)) ?_
      exact rfl
    | 8, _ =>
      refine GrowStepI.wrp rfl rfl ?_
      intro vs W hI hJ hR K hK
      obtain ⟨B, h5, ho⟩ : ∃ B, vs 5 = .agg (GL G2 B).toArray ∧ GrOwn base W G2 B := hR 5 (by kernel_rfl)
      have hj : CBox gb (GL G1 B1) W ∧ GrAt W G1 B1 := hJ (by kernel_rfl)
      refine h_store31 rfl gb (by kernel_rfl) (g' := G2) (A' := B) ((show _ = vs 5 from by kernel_rfl).trans h5) hj.1 ?_
      intro W' hS hT
      refine hK.out _ undef _ (by kernel_rfl) ⟨fun h => absurd rfl (h _ (List.mem_cons_self ..)), ⟨But.to hI.1 HGG.out hT, Nat.le_trans hI.2 hT.size⟩, fun x hx e => ?_⟩ ?_
      · rcases List.mem_cons.1 hx with rfl | hx
        · exact hT
        · cases hx
      · exact ⟨B, hS, ho.but HGL.out hT⟩
    | 9, _ =>
      refine GrowStepI.wrp rfl rfl ?_
      intro vs W hI hJ hR K hK
      have h6 : vs 6 = .int .i64 5 := hR 6 (by kernel_rfl)
      refine h_assign rfl ((show _ = vs 6 from by kernel_rfl).trans h6) ?_
      refine hK.out _ (.int .i64 5) _ (by kernel_rfl) (FrI.of (by simp) ⟨hI.1.trans (Keeps.refl W), Nat.le_trans hI.2 (Keeps.size (Keeps.refl W))⟩ (Keeps.refl W)) ?_
      exact rfl
    | 10, _ =>
      refine GrowStepI.wrp rfl rfl ?_
      intro vs W hI hJ hR K hK
      have h7 : vs 7 = .int .i64 0 := hR 7 (by kernel_rfl)
      refine h_assign rfl ((show _ = vs 7 from by kernel_rfl).trans h7) ?_
      refine hK.out _ (.int .i64 0) _ (by kernel_rfl) (FrI.of (by simp) ⟨hI.1.trans (Keeps.refl W), Nat.le_trans hI.2 (Keeps.size (Keeps.refl W))⟩ (Keeps.refl W)) ?_
      exact rfl
    | k + 11, h => exact absurd h (by simp)
  · intro x hx j hj hd hn hr v W W' hp hf
    rcases List.mem_cons.1 hx with rfl | hx
    · match j, hj with
      | 0, _ => exact hp
      | 1, _ => exact hp
      | 2, _ => exact hp
      | 3, _ =>
        obtain ⟨B, h1, h2⟩ := hp
        exact ⟨B, h1, h2.but HGL.out hf⟩
      | 4, _ =>
        obtain ⟨B, h1, h2⟩ := hp
        exact ⟨B, h1, h2.but HGL.out hf⟩
      | 5, _ =>
        obtain ⟨B, h1, h2⟩ := hp
        exact ⟨B, h1, h2.but HGL.out hf⟩
      | 6, _ => exact hp
      | 7, _ => exact hp
      | 8, _ => exact absurd rfl hn
      | 9, _ => exact hp
      | 10, _ => exact hp
      | k + 11, h => exact absurd h (by simp)
    · cases hx
  · intro vs W0 hI hR
    obtain ⟨B2, hB, hO⟩ : ∃ B, CBox gb (GL G2 B) W0 ∧ GrOwn base W0 G2 B := hR 8 (by decide) (by simp)
    have h9 : vs 9 = .int .i64 5 := hR 9 (by decide) (by simp)
    have h10 : vs 10 = .int .i64 0 := hR 10 (by decide) (by simp)
    have HK0 : Hid (Keeps w W0) := hI.1
    have HO0 : Hid (GrAt W0 G2 B2) := hO.at
    clear hI hR hO HI0 HJ0 HP2
    simp only [fillL, Nat.zero_add, Nat.reduceAdd, h9, h10]
    go_wp2_with (first | (refine load31 rfl rfl gb (by kernel_rfl) hB ?_))
    refine (HP3.out B2 W0 HO0.out).mono ?_
    rintro y W1 ⟨B3, ho, rfl, hb⟩
    have HK1 : Hid (Keeps w W1) := HK0.out.trans hb
    have HO1 : Hid (GrAt W1 H B3) := ho.at
    clear ho hb HP3 hB h9 h10 HK0 HO0
    go_wp2_with (first | (refine alloc31 rfl rfl ?_; intro V1 qh hBqh hkqh hlqh hgqh) | (refine store31 rfl rfl qh rfl rfl hBqh ?_; intro U1 hSU1 hTU1) | (refine load31 rfl rfl qh rfl hSU1 ?_))
    have hk1 : Keeps W1 U1 := But.to hkqh hgqh hTU1
    refine (HP4.out B3 U1 (HO1.out.keep hk1)).mono ?_
    rintro y W2 ⟨B4, ho, rfl, hb⟩
    have HK2 : Hid (Keeps w W2) := (HK1.out.trans hk1).trans hb
    have HH2 : Hid (CBox qh (GL H B3) W2) := hSU1.keep hb (by rw [GL_len]; decide)
    have HOH2 : Hid (GrAt W2 H B3) := (HO1.out.keep hk1).keep hb
    have HO2 : Hid (GrAt W2 J B4) := ho.at
    clear ho hb HP4 hBqh hkqh hlqh hgqh hSU1 hTU1 hk1 HK1 HO1
    go_wp2_with (first | (refine alloc31 rfl rfl ?_; intro V2 jb hBjb hkjb hljb hgjb) | (refine store31 rfl rfl jb rfl rfl hBjb ?_; intro U2 hSU2 hTU2) | (refine load31 rfl rfl jb rfl hSU2 ?_))
    have hk2 : Keeps W2 U2 := But.to hkjb hgjb hTU2
    refine (HP5.out B4 U2 (HO2.out.keep hk2)).mono ?_
    rintro y W3 ⟨B5, ho, rfl, hb⟩
    have hk23 : Keeps W2 W3 := hk2.trans hb
    have HK3 : Hid (Keeps w W3) := HK2.out.trans hk23
    have HH3 : Hid (CBox qh (GL H B3) W3) := HH2.out.keep hk23 (by rw [GL_len]; decide)
    have HOH3 : Hid (GrAt W3 H B3) := HOH2.out.keep hk23
    have HJ3 : Hid (CBox jb (GL J B4) W3) := hSU2.keep hb (by rw [GL_len]; decide)
    have HOJ3 : Hid (GrAt W3 J B4) := HO2.out.keep hk23
    clear ho hb HP5 hBjb hkjb hljb hgjb hSU2 hTU2 hk2 hk23 HK2 HO2 HH2 HOH2
    go_wp2_with (first | (refine alloc31 rfl rfl ?_; intro V3 pb hBpb hkpb hlpb hgpb) | (refine store31 rfl rfl pb rfl rfl hBpb ?_; intro U3 hSU3 hTU3) | (refine load31 rfl rfl jb rfl (HJ3.out.keep (But.to hkpb hgpb hTU3) (by rw [GL_len]; decide)) ?_))
    have hk3 : Keeps W3 U3 := But.to hkpb hgpb hTU3
    refine (HP6.out B4 U3 (HOJ3.out.keep hk3)).mono ?_
    rintro y W4 ⟨Z, BZ, nu, ho, rfl, hb⟩
    have hk34 : Keeps W3 W4 := hk3.trans hb
    have HK4 : Hid (Keeps w W4) := HK3.out.trans hk34
    have HH4 : Hid (CBox qh (GL H B3) W4) := HH3.out.keep hk34 (by rw [GL_len]; decide)
    have HOH4 : Hid (GrAt W4 H B3) := HOH3.out.keep hk34
    have HJ4 : Hid (CBox jb (GL J B4) W4) := HJ3.out.keep hk34 (by rw [GL_len]; decide)
    have HPB4 : Hid (CBox pb (GL PP B5) W4) := hSU3.keep hb (by rw [GL_len]; decide)
    clear ho hb HP6 hBpb hkpb hlpb hgpb hSU3 hTU3 hk3 hk34 HK3 HJ3 HOJ3 HH3 HOH3
    go_wp2_with (first | (have _h := hBzb; refine alloc31 rfl rfl ?_; intro V5 xb hBxb hkxb hlxb hgxb) | (refine alloc31 rfl rfl ?_; intro V4 zb hBzb hkzb hlzb hgzb) | (refine store31 rfl rfl zb rfl rfl hBzb ?_; intro U4 hSU4 hTU4) | (refine store31 rfl rfl xb rfl rfl hBxb ?_; intro U5 hSU5 hTU5) | (refine load31 rfl rfl qh rfl (HH4.out.keep (But.to hkzb hgzb hTU4) (by rw [GL_len]; decide)) ?_) | (refine store_cell rfl rfl xb 17 rfl rfl hSU5 (by rw [GL_len]; decide) (GL_setV H B3) ?_; intro U6 hSU6 hTU6))
    have k4 : Keeps W4 U4 := But.to hkzb hgzb hTU4
    have k5 : Keeps U4 U6 := But.to (But.to hkxb hgxb hTU5) hgxb hTU6
    have HK6 : Hid (Keeps w U6) := HK4.out.trans (k4.trans k5)
    have HH6 : Hid (CBox qh (GL H B3) U6) := HH4.out.keep (k4.trans k5) (by rw [GL_len]; decide)
    have HOH6 : Hid (GrAt U6 H B3) := HOH4.out.keep (k4.trans k5)
    have HJ6 : Hid (CBox jb (GL J B4) U6) := HJ4.out.keep (k4.trans k5) (by rw [GL_len]; decide)
    have HPB6 : Hid (CBox pb (GL PP B5) U6) := HPB4.out.keep (k4.trans k5) (by rw [GL_len]; decide)
    have HX6 : Hid (CBox xb (GL (setV H) B3) U6) := hSU6
    clear k4 k5 HK4 HH4 HOH4 HJ4 HPB4 hSU6 hTU6 hSU5 hTU5 hSU4 hTU4 hBzb hkzb hlzb hgzb hBxb hkxb hlxb hgxb
    refine (group_begin U6).mono ?_
    rintro y X1 ⟨rfl, hb1⟩
    go_wp2_with fail
    refine (HP8.out X1).mono ?_
    rintro y X2 ⟨rfl, hb2⟩
    have hX2 := (HX6.out.keep hb1 (by rw [GL_len]; decide)).keep hb2 (by rw [GL_len]; decide)
    simp only [List.append_eq, List.cons_append, List.nil_append] at *
    go_wp2_with (first | (refine load31w (by kernel_rfl) rfl xb (by kernel_rfl) hX2 ?_))
    clear hX2
    refine (HP9.out B3 X2 ((HOH6.out.keep hb1).keep hb2)).mono ?_
    rintro y X3 ⟨rfl, hb3⟩
    have hk63 : Keeps U6 X3 := (hb1.trans hb2).trans hb3
    have HK3 : Hid (Keeps w X3) := HK6.out.trans hk63
    have bH := HH6.out.keep hk63 (by rw [GL_len]; decide)
    have bJ := HJ6.out.keep hk63 (by rw [GL_len]; decide)
    have bP := HPB6.out.keep hk63 (by rw [GL_len]; decide)
    have cH : X3.cell? ⟨qh, 17, none⟩ = some (.int .i64 5) := by rw [← v1]; exact bH.1 17 _ rfl
    have cJ : X3.cell? ⟨jb, 7, none⟩ = some (.slice B4.ta 0 B4.tc) := by rw [← v2]; exact bJ.1 7 _ rfl
    have cP : X3.cell? ⟨pb, 10, none⟩ = some (.int .i64 5) := by rw [← v3]; exact bP.1 10 _ rfl
    have lH := bH.lt (by rw [GL_len]; decide)
    have lJ := bJ.lt (by rw [GL_len]; decide)
    have lP := bP.lt (by rw [GL_len]; decide)
    clear bH bJ bP hb1 hb2 hb3 hk63 HK6 HH6 HOH6 HJ6 HPB6 HX6 v1 v2 v3 HP8 HP9
    go_wp2_with fail
    go_ret
    exact ⟨rfl, HK3.out⟩
end Go.Proofs.YteabfjpajgakiafGreat

/- The reference's GroupError. -/
set_option linter.unusedSimpArgs false
set_option linter.unusedVariables false
set_option maxRecDepth 10000
namespace Go.Proofs.YteabfjpajgakiafGreat
open Go.RowKit

theorem gr_parts {g : Grp} (q0 : lgErr g.log = 0) : ((stErr (nodeAt g 0) == 0) = false → grErr g = stErr (nodeAt g 0)) ∧ ((stErr (nodeAt g 0) == 0) = true → fitsB g.log (nodeAt g 0) = false → grErr g = 1) ∧ ((stErr (nodeAt g 0) == 0) = true → fitsB g.log (nodeAt g 0) = true → (((stErr (nodeAt g 1) == 0) = false → grErr g = stErr (nodeAt g 1)) ∧ ((stErr (nodeAt g 1) == 0) = true → fitsB g.log (nodeAt g 1) = false → grErr g = 1) ∧ ((stErr (nodeAt g 1) == 0) = true → fitsB g.log (nodeAt g 1) = true → (((stErr (nodeAt g 2) == 0) = false → grErr g = stErr (nodeAt g 2)) ∧ ((stErr (nodeAt g 2) == 0) = true → fitsB g.log (nodeAt g 2) = false → grErr g = 1) ∧ ((stErr (nodeAt g 2) == 0) = true → fitsB g.log (nodeAt g 2) = true → grErr g = 0))))) := by
  have one : ∀ s : St, ((stErr s == 0) = false → oneErr g.log s = stErr s) ∧ ((stErr s == 0) = true → fitsB g.log s = false → oneErr g.log s = 1) ∧ ((stErr s == 0) = true → fitsB g.log s = true → oneErr g.log s = 0) := fun s => by
    have hn : nodeErr g.log s = stErr s := by unfold nodeErr; rw [q0]; rfl
    refine ⟨fun h => ?_, fun h hf => ?_, fun h hf => ?_⟩
    · rw [oneErr_bad (by rw [hn]; exact h), hn]
    · exact oneErr_misfit (by rw [hn]; exact h) (by unfold fitsOk; rw [hn, h, hf]; rfl)
    · exact oneErr_fit (by rw [hn]; exact h) (by unfold fitsOk; rw [hn, h, hf]; rfl)
  have e : grErr g = if oneErr g.log g.n0 == 0 then (if oneErr g.log g.n1 == 0 then oneErr g.log g.n2 else oneErr g.log g.n1) else oneErr g.log g.n0 := by unfold grErr; rw [q0]; rfl
  show ((stErr g.n0 == 0) = false → grErr g = stErr g.n0) ∧ _
  refine ⟨fun h => ?_, fun h hf => ?_, fun h hf => ⟨fun h1 => ?_, fun h1 hf1 => ?_, fun h1 hf1 => ⟨fun h2 => ?_, fun h2 hf2 => ?_, fun h2 hf2 => ?_⟩⟩⟩
  · rw [e, (one g.n0).1 h, h]; rfl
  · rw [e, (one g.n0).2.1 h hf]; rfl
  · rw [e, (one g.n0).2.2 h hf, (one g.n1).1 h1]; simp only [beq_self_eq_true, if_true]; rw [show (stErr g.n1 == 0) = false from h1]; rfl
  · rw [e, (one g.n0).2.2 h hf, (one g.n1).2.1 h1 hf1]; rfl
  · rw [e, (one g.n0).2.2 h hf, (one g.n1).2.2 h1 hf1, (one g.n2).1 h2]; rfl
  · rw [e, (one g.n0).2.2 h hf, (one g.n1).2.2 h1 hf1, (one g.n2).2.1 h2 hf2]; rfl
  · rw [e, (one g.n0).2.2 h hf, (one g.n1).2.2 h1 hf1, (one g.n2).2.2 h2 hf2]; rfl

set_option maxHeartbeats 8000000 in
theorem group_error (g : Grp) (A : Ad) (w : World) (hG : GrAt w g A) : Calls Tryz.prog 9 #[.agg (GL g A).toArray] w fun e w' => e = .returned (.int .i64 (grErr g)) ∧ Keeps w w' := by
  have HG : Hid (GrAt w g A) := hG
  clear hG
  go_enter Tryz.func9, Tryz.ntmps9
  go_wp2_with (first | (refine box31 rfl rfl rfl ?_; intro w1 bb hBbb hkbb hlbb hgbb) | (refine load28 rfl rfl bb rfl hBbb ?_))
  refine (log_error g.log _ _ w1 (HG.out.keep hkbb).base (HG.out.keep hkbb).tail).mono ?_
  rintro e W0 ⟨rfl, hb⟩
  have HK0 : Hid (Keeps w W0) := hkbb.trans hb
  have HB0 : Hid (CBox bb (GL g A) W0) := hBbb.keep hb (by rw [GL_len]; decide)
  clear hb hBbb hkbb hlbb hgbb
  cases q : (lgErr g.log == 0) with
  | false =>
    have q' : (lgErr g.log != 0) = true := by simp [bne, q]
    have HQ : Hid (grErr g = lgErr g.log) := by show _ = _; unfold grErr; rw [q]; rfl
    go_wp2_with fail
    go_ret
    rw [HQ.out]
    exact ⟨rfl, HK0.out⟩
  | true =>
    have q' : (lgErr g.log != 0) = false := by simp [bne, q]
    have q0 : lgErr g.log = 0 := by simpa using q
    have HE0 := (show Hid _ from gr_parts q0)
    go_wp2_with fail
    refine wp_loop_rounds 4 ?_
    rw [rounds_succ]
    go_wp2_with (first | (refine load25 rfl rfl bb 0 (by decide) 8 rfl rfl HB0.out ?_))
    refine (state_error (nodeAt g 0) (tabV g A 0) W0 ((HG.out.keep HK0.out).tab 0)).mono ?_
    rintro e X0 ⟨rfl, hb⟩
    have HKx : Hid (Keeps w X0) := HK0.out.trans hb
    have HBx : Hid (CBox bb (GL g A) X0) := HB0.out.keep hb (by rw [GL_len]; decide)
    clear hb HK0 HB0
    cases a0 : (stErr (nodeAt g 0) == 0) with
    | false =>
      have a' : (stErr (nodeAt g 0) != 0) = true := by simp [bne, a0]
      have HQ : Hid (grErr g = stErr (nodeAt g 0)) := HE0.out.1 a0
      go_wp2_with fail
      go_ret
      rw [HQ.out]
      exact ⟨rfl, HKx.out⟩
    | true =>
      have a' : (stErr (nodeAt g 0) != 0) = false := by simp [bne, a0]
      have az : stErr (nodeAt g 0) = 0 := by simpa using a0
      go_wp2_with fail
      have HC : Hid (∀ W, Keeps X0 W → Calls Tryz.prog 26 #[logV g A, nodeV g A 0] W fun e w' => e = .returned (.bool (fitsB g.log (nodeAt g 0))) ∧ Keeps W w') := fun W hk => fits_ref g.log (nodeAt g 0) _ _ A.ta A.tc W (HG.out.keep (HKx.out.trans hk)).base (HG.out.keep (HKx.out.trans hk)).tail ((HG.out.keep (HKx.out.trans hk)).tab 0) q0 az HG.out.cap
      refine wp_region_held_drew (S := fun W => Keeps X0 W) (by kernel_rfl) (Keeps.refl _).drew (fun hS => ?_)
      obtain ⟨V0, hV0⟩ : ∃ z, z = X0.drew := ⟨_, rfl⟩
      rw [← hV0] at hS ⊢
      clear hV0
      refine wpAnyH_take (i := 0) (v := .pointer (some ⟨bb, 0, none⟩)) rfl (by kernel_rfl) (by kernel_rfl) (by kernel_rfl) (fun _ _ _ h => h) (Or.inl ⟨by kernel_rfl, fun w _ => by kernel_rfl⟩) hS ?_
      refine wpAnyH_take (i := 1) (v := logV g A) rfl (by kernel_rfl) (by kernel_rfl) (by kernel_rfl) (fun _ _ _ h => h) (y_load28 (by kernel_rfl) rfl bb (by kernel_rfl) (fun W h => HBx.out.keep h (by rw [GL_len]; decide))) hS ?_
      refine wpAnyH_take (i := 2) (v := .int .i64 ((0 : Nat) : Int)) rfl (by kernel_rfl) (by kernel_rfl) (by kernel_rfl) (fun _ _ _ h => h) (Or.inl ⟨by kernel_rfl, fun w _ => by kernel_rfl⟩) hS ?_
      refine wpAnyH_take (i := 3) (v := .pointer (some ⟨bb, 8, none⟩)) rfl (by kernel_rfl) (by kernel_rfl) (by kernel_rfl) (fun _ _ _ h => h) (Or.inl ⟨by kernel_rfl, fun w _ => by kernel_rfl⟩) hS ?_
      refine wpAnyH_take (i := 4) (v := .pointer (some ⟨bb, 8 + 0 * 7, none⟩)) rfl (by kernel_rfl) (by kernel_rfl) (by kernel_rfl) (fun _ _ _ h => h) (y_index (by kernel_rfl) rfl bb 0 (by decide) (by kernel_rfl) (by kernel_rfl)) hS ?_
      refine wpAnyH_take (i := 5) (v := nodeV g A 0) rfl (by kernel_rfl) (by kernel_rfl) (by kernel_rfl) (fun _ _ _ h => h) (y_load25 (by kernel_rfl) rfl bb 0 (by decide) (8 + 0 * 7) rfl (by kernel_rfl) (fun W h => HBx.out.keep h (by rw [GL_len]; decide))) hS ?_
      refine wpAnyH_ready (rs := [6]) (by kernel_rfl) (by simp) ?_
      refine AllReadyH.wrp rfl (by kernel_rfl) (fun K hK => ?_) (AllReadyH.nil)
      refine h_call ?_
      go_simp
      refine (HC.out _ hS).mono ?_
      rintro e Y0 ⟨rfl, hb⟩
      go_simp
      refine hK.out _ _ (hS.trans hb) (fun hS => ?_)
      clear hK K
      refine wpAnyH_take (i := 7) (v := .bool (!fitsB g.log (nodeAt g 0))) rfl (by kernel_rfl) (by kernel_rfl) (by kernel_rfl) (fun _ _ _ h => h) (Or.inl ⟨by kernel_rfl, fun w _ => by kernel_rfl⟩) hS ?_
      refine wpAnyH_done (by kernel_rfl) ?_ _
      have HKy : Hid (Keeps w Y0) := HKx.out.trans hS
      have HB1 : Hid (CBox bb (GL g A) Y0) := HBx.out.keep hS (by rw [GL_len]; decide)
      clear hS HC HKx HBx hb
      cases b0 : fitsB g.log (nodeAt g 0) with
      | false =>
        have HQ : Hid (grErr g = 1) := HE0.out.2.1 a0 b0
        go_wp2_with fail
        go_ret
        rw [HQ.out]
        exact ⟨rfl, HKy.out⟩
      | true =>
        have HE1 := (show Hid _ from HE0.out.2.2 a0 b0)
        obtain ⟨W1, hW⟩ : ∃ z, z = Y0 := ⟨_, rfl⟩
        have HK1 : Hid (Keeps w W1) := by rw [hW]; exact HKy.out
        rw [← hW] at HB1 ⊢
        clear hW HKy
        go_wp2_with fail
        rw [rounds_succ]
        go_wp2_with (first | (refine load25 rfl rfl bb 1 (by decide) 15 rfl rfl HB1.out ?_))
        refine (state_error (nodeAt g 1) (tabV g A 1) W1 ((HG.out.keep HK1.out).tab 1)).mono ?_
        rintro e X1 ⟨rfl, hb⟩
        have HKx : Hid (Keeps w X1) := HK1.out.trans hb
        have HBx : Hid (CBox bb (GL g A) X1) := HB1.out.keep hb (by rw [GL_len]; decide)
        clear hb HK1 HB1
        cases a1 : (stErr (nodeAt g 1) == 0) with
        | false =>
          have a' : (stErr (nodeAt g 1) != 0) = true := by simp [bne, a1]
          have HQ : Hid (grErr g = stErr (nodeAt g 1)) := HE1.out.1 a1
          go_wp2_with fail
          go_ret
          rw [HQ.out]
          exact ⟨rfl, HKx.out⟩
        | true =>
          have a' : (stErr (nodeAt g 1) != 0) = false := by simp [bne, a1]
          have az : stErr (nodeAt g 1) = 0 := by simpa using a1
          go_wp2_with fail
          have HC : Hid (∀ W, Keeps X1 W → Calls Tryz.prog 26 #[logV g A, nodeV g A 1] W fun e w' => e = .returned (.bool (fitsB g.log (nodeAt g 1))) ∧ Keeps W w') := fun W hk => fits_ref g.log (nodeAt g 1) _ _ A.ta A.tc W (HG.out.keep (HKx.out.trans hk)).base (HG.out.keep (HKx.out.trans hk)).tail ((HG.out.keep (HKx.out.trans hk)).tab 1) q0 az HG.out.cap
          refine wp_region_held_drew (S := fun W => Keeps X1 W) (by kernel_rfl) (Keeps.refl _).drew (fun hS => ?_)
          obtain ⟨V0, hV0⟩ : ∃ z, z = X1.drew := ⟨_, rfl⟩
          rw [← hV0] at hS ⊢
          clear hV0
          refine wpAnyH_take (i := 0) (v := .pointer (some ⟨bb, 0, none⟩)) rfl (by kernel_rfl) (by kernel_rfl) (by kernel_rfl) (fun _ _ _ h => h) (Or.inl ⟨by kernel_rfl, fun w _ => by kernel_rfl⟩) hS ?_
          refine wpAnyH_take (i := 1) (v := logV g A) rfl (by kernel_rfl) (by kernel_rfl) (by kernel_rfl) (fun _ _ _ h => h) (y_load28 (by kernel_rfl) rfl bb (by kernel_rfl) (fun W h => HBx.out.keep h (by rw [GL_len]; decide))) hS ?_
          refine wpAnyH_take (i := 2) (v := .int .i64 ((1 : Nat) : Int)) rfl (by kernel_rfl) (by kernel_rfl) (by kernel_rfl) (fun _ _ _ h => h) (Or.inl ⟨by kernel_rfl, fun w _ => by kernel_rfl⟩) hS ?_
          refine wpAnyH_take (i := 3) (v := .pointer (some ⟨bb, 8, none⟩)) rfl (by kernel_rfl) (by kernel_rfl) (by kernel_rfl) (fun _ _ _ h => h) (Or.inl ⟨by kernel_rfl, fun w _ => by kernel_rfl⟩) hS ?_
          refine wpAnyH_take (i := 4) (v := .pointer (some ⟨bb, 8 + 1 * 7, none⟩)) rfl (by kernel_rfl) (by kernel_rfl) (by kernel_rfl) (fun _ _ _ h => h) (y_index (by kernel_rfl) rfl bb 1 (by decide) (by kernel_rfl) (by kernel_rfl)) hS ?_
          refine wpAnyH_take (i := 5) (v := nodeV g A 1) rfl (by kernel_rfl) (by kernel_rfl) (by kernel_rfl) (fun _ _ _ h => h) (y_load25 (by kernel_rfl) rfl bb 1 (by decide) (8 + 1 * 7) rfl (by kernel_rfl) (fun W h => HBx.out.keep h (by rw [GL_len]; decide))) hS ?_
          refine wpAnyH_ready (rs := [6]) (by kernel_rfl) (by simp) ?_
          refine AllReadyH.wrp rfl (by kernel_rfl) (fun K hK => ?_) (AllReadyH.nil)
          refine h_call ?_
          go_simp
          refine (HC.out _ hS).mono ?_
          rintro e Y1 ⟨rfl, hb⟩
          go_simp
          refine hK.out _ _ (hS.trans hb) (fun hS => ?_)
          clear hK K
          refine wpAnyH_take (i := 7) (v := .bool (!fitsB g.log (nodeAt g 1))) rfl (by kernel_rfl) (by kernel_rfl) (by kernel_rfl) (fun _ _ _ h => h) (Or.inl ⟨by kernel_rfl, fun w _ => by kernel_rfl⟩) hS ?_
          refine wpAnyH_done (by kernel_rfl) ?_ _
          have HKy : Hid (Keeps w Y1) := HKx.out.trans hS
          have HB2 : Hid (CBox bb (GL g A) Y1) := HBx.out.keep hS (by rw [GL_len]; decide)
          clear hS HC HKx HBx hb
          cases b1 : fitsB g.log (nodeAt g 1) with
          | false =>
            have HQ : Hid (grErr g = 1) := HE1.out.2.1 a1 b1
            go_wp2_with fail
            go_ret
            rw [HQ.out]
            exact ⟨rfl, HKy.out⟩
          | true =>
            have HE2 := (show Hid _ from HE1.out.2.2 a1 b1)
            obtain ⟨W2, hW⟩ : ∃ z, z = Y1 := ⟨_, rfl⟩
            have HK2 : Hid (Keeps w W2) := by rw [hW]; exact HKy.out
            rw [← hW] at HB2 ⊢
            clear hW HKy
            go_wp2_with fail
            rw [rounds_succ]
            go_wp2_with (first | (refine load25 rfl rfl bb 2 (by decide) 22 rfl rfl HB2.out ?_))
            refine (state_error (nodeAt g 2) (tabV g A 2) W2 ((HG.out.keep HK2.out).tab 2)).mono ?_
            rintro e X2 ⟨rfl, hb⟩
            have HKx : Hid (Keeps w X2) := HK2.out.trans hb
            have HBx : Hid (CBox bb (GL g A) X2) := HB2.out.keep hb (by rw [GL_len]; decide)
            clear hb HK2 HB2
            cases a2 : (stErr (nodeAt g 2) == 0) with
            | false =>
              have a' : (stErr (nodeAt g 2) != 0) = true := by simp [bne, a2]
              have HQ : Hid (grErr g = stErr (nodeAt g 2)) := HE2.out.1 a2
              go_wp2_with fail
              go_ret
              rw [HQ.out]
              exact ⟨rfl, HKx.out⟩
            | true =>
              have a' : (stErr (nodeAt g 2) != 0) = false := by simp [bne, a2]
              have az : stErr (nodeAt g 2) = 0 := by simpa using a2
              go_wp2_with fail
              have HC : Hid (∀ W, Keeps X2 W → Calls Tryz.prog 26 #[logV g A, nodeV g A 2] W fun e w' => e = .returned (.bool (fitsB g.log (nodeAt g 2))) ∧ Keeps W w') := fun W hk => fits_ref g.log (nodeAt g 2) _ _ A.ta A.tc W (HG.out.keep (HKx.out.trans hk)).base (HG.out.keep (HKx.out.trans hk)).tail ((HG.out.keep (HKx.out.trans hk)).tab 2) q0 az HG.out.cap
              refine wp_region_held_drew (S := fun W => Keeps X2 W) (by kernel_rfl) (Keeps.refl _).drew (fun hS => ?_)
              obtain ⟨V0, hV0⟩ : ∃ z, z = X2.drew := ⟨_, rfl⟩
              rw [← hV0] at hS ⊢
              clear hV0
              refine wpAnyH_take (i := 0) (v := .pointer (some ⟨bb, 0, none⟩)) rfl (by kernel_rfl) (by kernel_rfl) (by kernel_rfl) (fun _ _ _ h => h) (Or.inl ⟨by kernel_rfl, fun w _ => by kernel_rfl⟩) hS ?_
              refine wpAnyH_take (i := 1) (v := logV g A) rfl (by kernel_rfl) (by kernel_rfl) (by kernel_rfl) (fun _ _ _ h => h) (y_load28 (by kernel_rfl) rfl bb (by kernel_rfl) (fun W h => HBx.out.keep h (by rw [GL_len]; decide))) hS ?_
              refine wpAnyH_take (i := 2) (v := .int .i64 ((2 : Nat) : Int)) rfl (by kernel_rfl) (by kernel_rfl) (by kernel_rfl) (fun _ _ _ h => h) (Or.inl ⟨by kernel_rfl, fun w _ => by kernel_rfl⟩) hS ?_
              refine wpAnyH_take (i := 3) (v := .pointer (some ⟨bb, 8, none⟩)) rfl (by kernel_rfl) (by kernel_rfl) (by kernel_rfl) (fun _ _ _ h => h) (Or.inl ⟨by kernel_rfl, fun w _ => by kernel_rfl⟩) hS ?_
              refine wpAnyH_take (i := 4) (v := .pointer (some ⟨bb, 8 + 2 * 7, none⟩)) rfl (by kernel_rfl) (by kernel_rfl) (by kernel_rfl) (fun _ _ _ h => h) (y_index (by kernel_rfl) rfl bb 2 (by decide) (by kernel_rfl) (by kernel_rfl)) hS ?_
              refine wpAnyH_take (i := 5) (v := nodeV g A 2) rfl (by kernel_rfl) (by kernel_rfl) (by kernel_rfl) (fun _ _ _ h => h) (y_load25 (by kernel_rfl) rfl bb 2 (by decide) (8 + 2 * 7) rfl (by kernel_rfl) (fun W h => HBx.out.keep h (by rw [GL_len]; decide))) hS ?_
              refine wpAnyH_ready (rs := [6]) (by kernel_rfl) (by simp) ?_
              refine AllReadyH.wrp rfl (by kernel_rfl) (fun K hK => ?_) (AllReadyH.nil)
              refine h_call ?_
              go_simp
              refine (HC.out _ hS).mono ?_
              rintro e Y2 ⟨rfl, hb⟩
              go_simp
              refine hK.out _ _ (hS.trans hb) (fun hS => ?_)
              clear hK K
              refine wpAnyH_take (i := 7) (v := .bool (!fitsB g.log (nodeAt g 2))) rfl (by kernel_rfl) (by kernel_rfl) (by kernel_rfl) (fun _ _ _ h => h) (Or.inl ⟨by kernel_rfl, fun w _ => by kernel_rfl⟩) hS ?_
              refine wpAnyH_done (by kernel_rfl) ?_ _
              have HKy : Hid (Keeps w Y2) := HKx.out.trans hS
              have HB3 : Hid (CBox bb (GL g A) Y2) := HBx.out.keep hS (by rw [GL_len]; decide)
              clear hS HC HKx HBx hb
              cases b2 : fitsB g.log (nodeAt g 2) with
              | false =>
                have HQ : Hid (grErr g = 1) := HE2.out.2.1 a2 b2
                go_wp2_with fail
                go_ret
                rw [HQ.out]
                exact ⟨rfl, HKy.out⟩
              | true =>
                have HQ : Hid (grErr g = 0) := HE2.out.2.2 a2 b2
                go_wp2_with fail
                rw [rounds_succ]
                go_wp2_with fail
                go_ret
                rw [HQ.out]
                exact ⟨rfl, HKy.out⟩
end Go.Proofs.YteabfjpajgakiafGreat
