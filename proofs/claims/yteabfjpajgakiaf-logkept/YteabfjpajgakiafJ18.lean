/- NoA, NoB, GrA0, GrA, GrB, GrC, GrC2, GrF, LoD. -/
import Derived.Deep.MidRow
import Derived.Deep.DeepCutAuto
import Derived.Deep.RegionHeld3
import Derived.Test.YteabfjpajgakiafJ00
import Derived.Test.YteabfjpajgakiafJ03
import Derived.Test.YteabfjpajgakiafJ11
import Derived.Test.YteabfjpajgakiafJ12
import Derived.Test.YteabfjpajgakiafJ17
/- node.isBehind, checkBoth, fits, Fits; the reference's NodeError, fits, FitsOf. -/
set_option linter.unusedSimpArgs false
set_option linter.unusedVariables false
set_option maxRecDepth 10000
namespace Go.Proofs.Yteabfjpajgakiaf
open Go.RowKit

end Go.Proofs.Yteabfjpajgakiaf

/- The reference's fits, FitsOf; node.Fits, checkRun. -/
set_option linter.unusedSimpArgs false
set_option linter.unusedVariables false
set_option maxRecDepth 10000
namespace Go.Proofs.Yteabfjpajgakiaf
open Go.RowKit

end Go.Proofs.Yteabfjpajgakiaf

/- Groups: what they are in memory; group.Check. -/
set_option linter.unusedSimpArgs false
set_option linter.unusedVariables false
set_option maxRecDepth 10000
namespace Go.Proofs.Yteabfjpajgakiaf
open Go.RowKit

structure Grp where
  log : Lg
  n0 : St
  n1 : St
  n2 : St
def zeroGrp : Grp := ⟨⟨zeroSt, []⟩, zeroSt, zeroSt, zeroSt⟩
/-- A variable of cells. -/
def CBox (b : Nat) (cs : List Value) (w : World) : Prop := (∀ i u, cs[i]? = some u → w.cell? ⟨b, i, none⟩ = some u) ∧ ∀ i, w.frozen? ⟨b, i, none⟩ = false
theorem CBox.lt {b : Nat} {cs : List Value} {w : World} (h : CBox b cs w) (hc : 0 < cs.length) : b < w.heap.size := World.block_lt_of_cell? _ _ (h.1 0 _ (List.getElem?_eq_getElem hc))
theorem CBox.same {b : Nat} {cs : List Value} {w w' : World} (h : CBox b cs w) (he : w'.heap[b]? = w.heap[b]?) : CBox b cs w' := ⟨fun i u hu => (World.cell?_of_block he).trans (h.1 i u hu), fun i => (World.frozen?_of_block he).trans (h.2 i)⟩
theorem CBox.keep {b : Nat} {cs : List Value} {w w' : World} (h : CBox b cs w) (hk : Keeps w w') (hc : 0 < cs.length := by simp) : CBox b cs w' := h.same (hk.block b (h.lt hc))
theorem CBox.other {b c : Nat} {cs : List Value} {w w' : World} (h : CBox b cs w) (hk : But c w w') (hb : b ≠ c) (hc : 0 < cs.length := by simp) : CBox b cs w' := h.same (hk.block b (h.lt hc) hb)
theorem CBox.new (w : World) (cs : List Value) (ty : TypeId) : CBox w.heap.size cs (w.alloc (.cells cs.toArray ty)) := by
  refine ⟨fun i u hu => ?_, fun i => ?_⟩
  · unfold World.cell?
    rw [World.alloc_heap_new]
    simpa using hu
  · simp [go_sem]

theorem range_of {b : Nat} {cs : List Value} {w : World} (h : CBox b cs w) (o n : Nat) {ds : List Value} (hd : (cs.drop o).take n = ds) : w.rangeAt b o ds := by
  intro j v hv
  refine h.1 (o + j) v ?_
  rw [← hd] at hv
  rw [List.getElem?_take] at hv
  split at hv
  · rw [List.getElem?_drop] at hv
    exact hv
  · cases hv

end Go.Proofs.Yteabfjpajgakiaf

/- group.Check: of a hall. -/
set_option linter.unusedSimpArgs false
set_option linter.unusedVariables false
set_option maxRecDepth 10000
namespace Go.Proofs.Yteabfjpajgakiaf
open Go.RowKit

end Go.Proofs.Yteabfjpajgakiaf

/- Variables of many cells, written whole; group.Check. -/
set_option linter.unusedSimpArgs false
set_option linter.unusedVariables false
set_option maxRecDepth 10000
namespace Go.Proofs.Yteabfjpajgakiaf
open Go.RowKit

theorem CBox.there {b : Nat} {cs : List Value} {w : World} (h : CBox b cs w) (o n : Nat) (hn : o + n ≤ cs.length) : w.there b o n := fun j hj => ⟨by rw [h.1 (o + j) _ (List.getElem?_eq_getElem (by omega))]; rfl, h.2 _⟩
theorem frozen_setCells {b : Nat} : ∀ (vs : List Value) (o : Nat) (w : World) (a : Addr), (w.setCells b o vs).frozen? a = w.frozen? a
  | [], _, _, _ => rfl
  | v :: r, o, w, a => (frozen_setCells r (o + 1) _ a).trans (World.frozen?_setCell _ _ _ _)
/-- A part of it. -/
theorem CBox.putAt {b o : Nat} {cs : List Value} {w : World} (h : CBox b cs w) (ds : List Value) (hl : o + ds.length ≤ cs.length) : CBox b (cs.take o ++ ds ++ cs.drop (o + ds.length)) (w.setCells b o ds) := by
  refine ⟨fun i u hu => ?_, fun i => (frozen_setCells ds o w _).trans (h.2 i)⟩
  by_cases h1 : i < o
  · rw [World.cell?_setCells_out b ds o w ⟨b, i, none⟩ (fun _ _ => .inl h1)]
    refine h.1 i u ?_
    rw [List.append_assoc, List.getElem?_append_left (by simp; omega), List.getElem?_take, if_pos h1] at hu
    exact hu
  · by_cases h2 : i < o + ds.length
    · have := World.rangeAt_setCells_same w b o ds (h.there o ds.length hl) (i - o) u (by
        rw [List.append_assoc, List.getElem?_append_right (by simp; omega), List.getElem?_append_left (by simp; omega)] at hu
        rw [List.length_take, Nat.min_eq_left (by omega)] at hu
        exact hu)
      rwa [show o + (i - o) = i by omega] at this
    · rw [World.cell?_setCells_out b ds o w ⟨b, i, none⟩ (fun _ _ => .inr (by simp; omega))]
      refine h.1 i u ?_
      rw [List.getElem?_append_right (by simp; omega), List.getElem?_drop] at hu
      rw [← hu]
      congr 1
      simp
      omega

/-- A parameter laid in memory: what its variable holds, and no more, is handed on. -/
theorem wpList_box_new {P : Program} {ops : Array Oper} {rest : List Oper} {op : Oper} {a : Act} {w : World} {Q : Exit → Act → World → Prop} (hgd : op.guard = none) (ty : TypeId) (x : Operand) (ho : op.op = .box ty x) (cs : List Value) (hx : a.eval x = .agg cs.toArray)
    (h : ∀ (w' : World) (b : Nat), CBox b cs w' → Keeps w w' → b < w'.heap.size → w.heap.size ≤ b → wpList P ops Q rest (a.put op.dst (.pointer (some ⟨b, 0, none⟩))) w') : wpList P ops Q (op :: rest) a w := by
  refine wpList_plain hgd fun K hK => ?_
  have hn := h (w.alloc (.cells cs.toArray ty)) w.heap.size (CBox.new w cs ty) ((Keeps.refl _).alloc _) (by simp) (Nat.le_refl _)
  have e1 : (execOp a.eval op).run P w = .ok (.value (.pointer (some ⟨w.heap.size, 0, none⟩))) (w.alloc (.cells cs.toArray ty)) := by
    generalize a.eval = f at hx
    simp [execOp, ho, hx, go_sem]
  unfold Oper.wp
  rw [e1]
  exact hK _ _ hn

/-- A variable that is made: the same. -/
theorem wpList_alloc_new {P : Program} {ops : Array Oper} {rest : List Oper} {op : Oper} {a : Act} {w : World} {Q : Exit → Act → World → Prop} (hgd : op.guard = none) (ty : TypeId) (ho : op.op = .alloc ty) (z : Value) (cs : List Value) (hz : (P.info? ty).map (·.zero) = some (some z)) (hc : z.cells = cs.toArray)
    (h : ∀ (w' : World) (b : Nat), CBox b cs w' → Keeps w w' → b < w'.heap.size → w.heap.size ≤ b → wpList P ops Q rest (a.put op.dst (.pointer (some ⟨b, 0, none⟩))) w') : wpList P ops Q (op :: rest) a w := by
  refine wpList_plain hgd fun K hK => ?_
  have hn := h (w.alloc (.cells cs.toArray ty)) w.heap.size (CBox.new w cs ty) ((Keeps.refl _).alloc _) (by simp) (Nat.le_refl _)
  obtain ⟨i, hi, hzi⟩ : ∃ i, P.info? ty = some i ∧ i.zero = some z := by
    cases q : P.info? ty with
    | none => rw [q] at hz; cases hz
    | some i => rw [q] at hz; exact ⟨i, rfl, by simpa using hz⟩
  have e1 : (execOp a.eval op).run P w = .ok (.value (.pointer (some ⟨w.heap.size, 0, none⟩))) (w.alloc (.cells cs.toArray ty)) := by
    generalize a.eval = f
    rw [← hc]
    simp [execOp, ho, hi, hzi, go_sem, typeInfo, zeroValue]
  unfold Oper.wp
  rw [e1]
  exact hK _ _ hn

end Go.Proofs.Yteabfjpajgakiaf

/- Groups as lists of cells that are not looked into: laws for the walk; groups in memory. -/
set_option linter.unusedSimpArgs false
set_option linter.unusedVariables false
set_option maxRecDepth 10000
namespace Go.Proofs.Yteabfjpajgakiaf
open Go.RowKit

/-- A part of a variable is read. -/
theorem wpList_load_box {P : Program} {ops : Array Oper} {rest : List Oper} {op : Oper} {a : Act} {w : World} {Q : Exit → Act → World → Prop} (hgd : op.guard = none) (ty : TypeId) (x : Operand) (ho : op.op = .load ty x) (b o : Nat) (hx : a.eval x = .pointer (some ⟨b, o, none⟩)) {cs : List Value} (hB : CBox b cs w) (n : Nat) (ds : List Value) (hds : (cs.drop o).take n = ds) (d : TypeDesc)
    (hu : P.underlying ty = some d) (hd : d.isRow = true) (hi : (P.info? ty).map (·.size) = some ds.length) (h : wpList P ops Q rest (a.put op.dst (.agg ds.toArray)) w) : wpList P ops Q (op :: rest) a w :=
  wpList_load_mid hgd ty x ho b o hx ds d (range_of hB o n hds) hu hd hi h
/-- A part of a variable is written. -/
theorem wpList_store_box {P : Program} {ops : Array Oper} {rest : List Oper} {op : Oper} {a : Act} {w : World} {Q : Exit → Act → World → Prop} (hgd : op.guard = none) (ty : TypeId) (x y : Operand) (ho : op.op = .store ty x y) (b o : Nat) (ds : List Value) (hx : a.eval x = .pointer (some ⟨b, o, none⟩)) (hy : a.eval y = .agg ds.toArray) {cs : List Value} (hB : CBox b cs w) (es : List Value) (hes : cs.take o ++ ds ++ cs.drop (o + ds.length) = es)
    (hl : o + ds.length ≤ cs.length) (hi : (P.info? ty).map (·.size) = some ds.length) (h1 : ds.toArray.all (·.oneCell') = true) (h : ∀ w', CBox b es w' → But b w w' → wpList P ops Q rest (a.put op.dst undef) w') : wpList P ops Q (op :: rest) a w := by
  subst hes
  refine wpList_store_mid hgd ty x y ho b o ds.toArray hx hy (by simpa using hB.there o ds.length hl) (by simpa using hi) h1 ?_
  exact h _ (hB.putAt ds hl) (But.setCells _ _ (But.refl _ _))
/-- A result that lies in memory. -/
theorem read_box {P : Program} {w : World} {b : Nat} {cs : List Value} (hB : CBox b cs w) (ty : TypeId) (d : TypeDesc) (hu : P.underlying ty = some d) (hd : d.isRow = true) (hi : (P.info? ty).map (·.size) = some cs.length) : (loadVar ty ⟨b, 0, none⟩).run P w = .ok (.agg cs.toArray) w :=
  run_loadVar_mid w b 0 ty cs d (range_of hB 0 cs.length (by simp)) hu hd hi

/-- Where its lists lie. -/
structure Ad where
  xa : Option Addr
  ta : Option Addr
  a0 : Option Addr
  a1 : Option Addr
  a2 : Option Addr
  xc : Nat
  tc : Nat
  c0 : Nat
  c1 : Nat
  c2 : Nat
def zeroAd : Ad := ⟨none, none, none, none, none, 0, 0, 0, 0, 0⟩
/-- A group in memory. -/
structure GrAt (w : World) (g : Grp) (A : Ad) : Prop where
  base : TabAt w (.slice A.xa g.log.base.tab.length A.xc) g.log.base.tab
  tail : EntsAt w (.slice A.ta g.log.tail.length A.tc) g.log.tail
  cap : g.log.tail.length ≤ A.tc
  t0 : TabAt w (.slice A.a0 g.n0.tab.length A.c0) g.n0.tab
  t1 : TabAt w (.slice A.a1 g.n1.tab.length A.c1) g.n1.tab
  t2 : TabAt w (.slice A.a2 g.n2.tab.length A.c2) g.n2.tab
theorem GrAt.keep {w w' : World} {g : Grp} {A : Ad} (h : GrAt w g A) (hk : Keeps w w') : GrAt w' g A :=
  ⟨h.base.keep hk, h.tail.keep hk, h.cap, h.t0.keep hk, h.t1.keep hk, h.t2.keep hk⟩
/-- .. in memory that is not older than base. -/
structure GrOwn (base : Nat) (w : World) (g : Grp) (A : Ad) : Prop where
  b : OwnTab base w (.slice A.xa g.log.base.tab.length A.xc) g.log.base.tab
  tail : w.ownsRow base 35 9 (.slice A.ta g.log.tail.length A.tc) g.log.tail.length (entCells g.log.tail)
  cap : g.log.tail.length ≤ A.tc
  t0 : OwnTab base w (.slice A.a0 g.n0.tab.length A.c0) g.n0.tab
  t1 : OwnTab base w (.slice A.a1 g.n1.tab.length A.c1) g.n1.tab
  t2 : OwnTab base w (.slice A.a2 g.n2.tab.length A.c2) g.n2.tab
theorem GrOwn.at {base : Nat} {w : World} {g : Grp} {A : Ad} (h : GrOwn base w g A) : GrAt w g A :=
  ⟨h.b.tab, RowAt.of_owns h.tail, h.cap, h.t0.tab, h.t1.tab, h.t2.tab⟩
theorem GrOwn.keep {base : Nat} {w w' : World} {g : Grp} {A : Ad} (h : GrOwn base w g A) (hk : Keeps w w') : GrOwn base w' g A :=
  ⟨h.b.keep hk, owns_keep h.tail hk, h.cap, h.t0.keep hk, h.t1.keep hk, h.t2.keep hk⟩
theorem GrOwn.but {b base : Nat} {w w' : World} {g : Grp} {A : Ad} (h : GrOwn base w g A) (hb : b < base) (hk : But b w w') : GrOwn base w' g A :=
  ⟨h.b.but hb hk, owns_far h.tail hb hk, h.cap, h.t0.but hb hk, h.t1.but hb hk, h.t2.but hb hk⟩
theorem GrOwn.mono {base base' : Nat} {w : World} {g : Grp} {A : Ad} (h : GrOwn base w g A) (hb : base' ≤ base) : GrOwn base' w g A :=
  ⟨h.b.base hb, owns_base h.tail hb, h.cap, h.t0.base hb, h.t1.base hb, h.t2.base hb⟩
theorem GrOwn.zero (base : Nat) (w : World) : GrOwn base w zeroGrp zeroAd :=
  ⟨OwnTab.nil _ _, World.ownsRow_nil _ _ _ _, Nat.le_refl _, OwnTab.nil _ _, OwnTab.nil _ _, OwnTab.nil _ _⟩

end Go.Proofs.Yteabfjpajgakiaf

/- The walk's laws at groups' variables. -/
set_option linter.unusedSimpArgs false
set_option linter.unusedVariables false
set_option maxRecDepth 10000
namespace Go.Proofs.Yteabfjpajgakiaf
open Go.RowKit

/-- Node k of a group. -/
def nodeAt (g : Grp) : Nat → St
  | 0 => g.n0
  | 1 => g.n1
  | _ => g.n2
def tabV (g : Grp) (A : Ad) : Nat → Value
  | 0 => .slice A.a0 g.n0.tab.length A.c0
  | 1 => .slice A.a1 g.n1.tab.length A.c1
  | _ => .slice A.a2 g.n2.tab.length A.c2
theorem info_size {P : Program} {t : TypeId} {n : Nat} (h : (P.info? t).map (·.size) = some n) {l : List Value} (hl : l.length = n) : (P.info? t).map (·.size) = some l.length := by rw [hl]; exact h
section
variable {ops : Array Oper} {rest : List Oper} {op : Oper} {a : Act} {w : World} {Q : Exit → Act → World → Prop}
end
/-- Results of which the first lies in memory. -/
theorem results1 {P : Program} {fn : Func} {tmps : Array Value} {w : World} {i : Nat} {t : TypeId} (hf : fn.results = #[.cell i t]) {p : Addr} (h0 : tmps.getD i undef = .pointer (some p)) {v : Value} (hl : (loadVar t p).run P w = .ok v w) : (results fn tmps).run P w = .ok v w := by
  simp only [results, hf]
  simp [asAddr, ← Array.getD_eq_getD_getElem?, h0, hl]
/-- The log of a group, a node of it, in memory that is not older than base. -/
structure LogOwn (base : Nat) (w : World) (g : Grp) (A : Ad) : Prop where
  b : OwnTab base w (.slice A.xa g.log.base.tab.length A.xc) g.log.base.tab
  tail : w.ownsRow base 35 9 (.slice A.ta g.log.tail.length A.tc) g.log.tail.length (entCells g.log.tail)
  cap : g.log.tail.length ≤ A.tc
theorem LogOwn.keep {base : Nat} {w w' : World} {g : Grp} {A : Ad} (h : LogOwn base w g A) (hk : Keeps w w') : LogOwn base w' g A := ⟨h.b.keep hk, owns_keep h.tail hk, h.cap⟩
theorem LogOwn.but {b base : Nat} {w w' : World} {g : Grp} {A : Ad} (h : LogOwn base w g A) (hk : But b w w') (hb : b < base) : LogOwn base w' g A := ⟨h.b.but hb hk, owns_far h.tail hb hk, h.cap⟩
theorem GrOwn.of {base base' : Nat} {w : World} {g : Grp} {A : Ad} (h : LogOwn base w g A) (h0 : OwnTab base w (.slice A.a0 g.n0.tab.length A.c0) g.n0.tab) (h1 : OwnTab base w (.slice A.a1 g.n1.tab.length A.c1) g.n1.tab) (h2 : OwnTab base w (.slice A.a2 g.n2.tab.length A.c2) g.n2.tab) (hb : base' ≤ base) : GrOwn base' w g A :=
  ⟨h.b.base hb, owns_base h.tail hb, h.cap, h0.base hb, h1.base hb, h2.base hb⟩
theorem GrAt.tab {w : World} {g : Grp} {A : Ad} (h : GrAt w g A) : ∀ k, TabAt w (tabV g A k) (nodeAt g k).tab
  | 0 => h.t0
  | 1 => h.t1
  | _ + 2 => h.t2
end Go.Proofs.Yteabfjpajgakiaf

/- Laws for drawn regions at variables of many cells. -/
set_option linter.unusedSimpArgs false
set_option linter.unusedVariables false
set_option maxRecDepth 10000
namespace Go.Proofs.Yteabfjpajgakiaf
open Go.RowKit

/-- A goal that is not looked into. -/
structure Wrp (p : Prop) : Prop where
  out : p
/-- An operation that is wanted comes up next. -/
theorem AllReadyH.wrp {P : Program} {ops : Array Oper} {Q : Exit → Act → World → Prop} {md : Region.Mode} {S : World → Prop} {fuel : Nat} {listed : Array Bool} {a : Act} {w : World} {i : Nat} {o : Oper} {rs : List Nat} (ho : ops[i]? = some o) (hw : Region.wanted o (yielded ops a.tmps) = true)
    (h : ∀ K' : Act → World → Prop, Shut (∀ a w, S w → (S w → wpAnyH P md ops Q S fuel (listed.setIfInBounds i true) a w) → K' a w) → Wrp (Oper.wp P o a w K' Q)) (hs : AllReadyH P md ops Q S fuel listed a w rs) : AllReadyH P md ops Q S fuel listed a w (i :: rs) :=
  AllReadyH.cons ho (fun K' hK => by rw [if_pos hw]; exact (h K' hK).out) hs
/-- A call. -/
theorem h_call {P : Program} {o : Oper} {a : Act} {w : World} {K : Act → World → Prop} {Q : Exit → Act → World → Prop} (h : o.wp P a w K Q) : Wrp (Oper.wp P o a w K Q) := ⟨h⟩
def EC (e : Ent) : List Value := [.int .i64 e.kind, .int .i64 e.time, .int .i64 e.client, .int .i64 e.seq, .int .i64 e.ack, .int .i64 e.ok, .int .i64 e.okey, .int .i64 e.oto, .int .i64 e.on]
theorem EC_one (e : Ent) : (EC e).toArray.all (·.oneCell') = true := by kernel_rfl
theorem size35 : (Try.prog.info? 35).map (·.size) = some 9 := by kernel_rfl
theorem row35 : ∃ d, Try.prog.underlying 35 = some d ∧ d.isRow = true := ⟨_, Try.underlying35, rfl⟩
theorem wp_store_box {P : Program} {op : Oper} {a : Act} {w : World} {K : Act → World → Prop} {Q : Exit → Act → World → Prop} (ty : TypeId) (x y : Operand) (ho : op.op = .store ty x y) (b o : Nat) (ds : List Value) (hx : a.eval x = .pointer (some ⟨b, o, none⟩)) (hy : a.eval y = .agg ds.toArray) {cs : List Value} (hB : CBox b cs w) (es : List Value) (hes : cs.take o ++ ds ++ cs.drop (o + ds.length) = es)
    (hl : o + ds.length ≤ cs.length) (hi : (P.info? ty).map (·.size) = some ds.length) (h1 : ds.toArray.all (·.oneCell') = true) (h : ∀ w', CBox b es w' → But b w w' → K (a.put op.dst undef) w') : op.wp P a w K Q := by
  subst hes
  refine wp_store_mid ty x y ho b o ds.toArray hx hy (by simpa using hB.there o ds.length hl) (by simpa using hi) h1 ?_
  exact h _ (hB.putAt ds hl) (But.setCells _ _ (But.refl _ _))
section
variable {ops : Array Oper} {rest : List Oper} {op : Oper} {a : Act} {w : World} {Q : Exit → Act → World → Prop}
theorem box35 (hgd : op.guard = none) {x : Operand} (ho : op.op = .box 35 x) {e : Ent} (hx : a.eval x = entV e)
    (h : ∀ (w' : World) (b : Nat), CBox b (EC e) w' → Keeps w w' → b < w'.heap.size → w.heap.size ≤ b → wpList Try.prog ops Q rest (a.put op.dst (.pointer (some ⟨b, 0, none⟩))) w') : wpList Try.prog ops Q (op :: rest) a w := wpList_box_new hgd _ x ho (EC e) hx h
theorem load35 (hgd : op.guard = none) {x : Operand} (ho : op.op = .load 35 x) (b : Nat) (hx : a.eval x = .pointer (some ⟨b, 0, none⟩)) {e : Ent} (hB : CBox b (EC e) w)
    (h : wpList Try.prog ops Q rest (a.put op.dst (entV e)) w) : wpList Try.prog ops Q (op :: rest) a w := by
  obtain ⟨d, h1, h2⟩ := row35
  exact wpList_load_box hgd _ x ho b 0 hx hB 9 (EC e) rfl d h1 h2 (info_size size35 rfl) h
end
end Go.Proofs.Yteabfjpajgakiaf

/- octet's reader. -/
set_option linter.unusedSimpArgs false
set_option linter.unusedVariables false
set_option maxRecDepth 10000
namespace Go.Proofs.Yteabfjpajgakiaf
open Go.RowKit

def RBox (b : Nat) (l : List UInt8) (w : World) : Prop := w.cell? ⟨b, 0, none⟩ = some (.string (bt l)) ∧ w.frozen? ⟨b, 0, none⟩ = false
theorem RBox.lt {b : Nat} {l : List UInt8} {w : World} (h : RBox b l w) : b < w.heap.size := World.block_lt_of_cell? _ _ h.1
theorem RBox.same {b : Nat} {l : List UInt8} {w w' : World} (h : RBox b l w) (he : w'.heap[b]? = w.heap[b]?) : RBox b l w' := ⟨(World.cell?_of_block he).trans h.1, (World.frozen?_of_block he).trans h.2⟩
theorem RBox.keep {b : Nat} {l : List UInt8} {w w' : World} (h : RBox b l w) (hk : Keeps w w') : RBox b l w' := h.same (hk.block b h.lt)
theorem RBox.other {b c : Nat} {l : List UInt8} {w w' : World} (h : RBox b l w) (hk : But c w w') (hb : b ≠ c) : RBox b l w' := h.same (hk.block b h.lt hb)
theorem RBox.set {b : Nat} {l r : List UInt8} {w : World} (h : RBox b l w) : RBox b r (w.setCell ⟨b, 0, none⟩ (.string (bt r))) := ⟨World.cell?_setCell_same _ _ _ h.1, (World.frozen?_setCell _ _ _ _).trans h.2⟩
theorem bt_size (l : List UInt8) : (bt l).size = l.length := by simp [bt, ByteArray.size]
theorem bt_list (l : List UInt8) : (bt l).toList = l := by rw [ByteArray.toList_eq]; simp [bt]
theorem bt_drop (l : List UInt8) (n : Nat) : (bt l).extract n l.length = bt (l.drop n) := by
  unfold bt
  rw [ByteArray.extract_mk]
  congr 1
  apply Array.ext'
  simp
  rw [List.take_of_length_le (by simp)]
theorem bt_head (x : UInt8) (r : List UInt8) (h : 0 < (bt (x :: r)).size) : (bt (x :: r))[0].toNat = x.toNat := rfl

set_option maxHeartbeats 1000000 in
theorem reader_some (b : Nat) (x : UInt8) (r : List UInt8) (w : World) (hB : RBox b (x :: r) w) : Calls Try.prog 59 #[.pointer (some ⟨b, 0, none⟩)] w fun y w' => y = .returned (.int .i64 (i8 x)) ∧ RBox b r w' ∧ But b w w' := by
  have HB : Hid (RBox b (x :: r) w) := hB
  obtain ⟨hc, hf⟩ := hB
  have hs := bt_size (x :: r)
  have hie : (bt (x :: r)).toList.isEmpty = false := by rw [bt_list]; rfl
  have HX : Hid ((bt (x :: r)).extract 1 (r.length + 1) = bt r) := bt_drop (x :: r) 1
  have h0 := i8_lo x
  have h1 := i8_hi x
  go_enter Try.func59, Try.ntmps59
  go_wp2_with fail
  go_ret
  rw [HX.out]
  refine ⟨?_, HB.out.set, (But.refl _ _).set _ _⟩
  rw [bt_head]
  have : wrap64 (x.toNat : Int) = i8 x := by unfold i8 at *; unfold wrap64; omega
  rw [this]
  rfl
set_option maxHeartbeats 1000000 in
theorem reader_none (b : Nat) (w : World) (hB : RBox b [] w) : Calls Try.prog 59 #[.pointer (some ⟨b, 0, none⟩)] w fun y w' => (∃ u pv, y = .panicked [{ v := .iface u pv, recovered := false }]) ∧ RBox b [] w' ∧ But b w w' := by
  have HB : Hid (RBox b [] w) := hB
  obtain ⟨hc, hf⟩ := hB
  have hie : (bt []).toList.isEmpty = true := by rw [bt_list]; rfl
  go_enter Try.func59, Try.ntmps59
  go_wp2_with fail
  exact ⟨rfl, ⟨_, _, rfl⟩, HB.out, But.refl _ _⟩
set_option maxHeartbeats 1000000 in
theorem readerW_some (b : Nat) (x z : UInt8) (r : List UInt8) (w : World) (hB : RBox b (x :: z :: r) w) : Calls Try.prog 60 #[.pointer (some ⟨b, 0, none⟩)] w fun y w' => y = .returned (.int .i64 (i8 x * 256 + i8 z)) ∧ RBox b r w' ∧ But b w w' := by
  have HB : Hid (RBox b (x :: z :: r) w) := hB
  clear hB
  have h0 := i8_lo x
  have h1 := i8_hi x
  have h2 := i8_lo z
  have h3 := i8_hi z
  go_enter Try.func60, Try.ntmps60
  go_wp2_with fail
  refine (reader_some b x (z :: r) w HB.out).mono ?_
  rintro y w1 ⟨rfl, hB1, hb1⟩
  have HB1 : Hid (RBox b (z :: r) w1) := hB1
  have HK1 : Hid (But b w w1) := hb1
  clear hB1 hb1 HB
  go_wp2_with fail
  refine (reader_some b z r w1 HB1.out).mono ?_
  rintro y w2 ⟨rfl, hB2, hb2⟩
  have HB2 : Hid (RBox b r w2) := hB2
  have HK2 : Hid (But b w w2) := HK1.out.trans hb2
  clear hB2 hb2 HB1
  go_wp2_with fail
  go_ret
  first
    | exact ⟨rfl, HB2.out, HK2.out⟩
    | exact ⟨by simp, HB2.out, HK2.out⟩
set_option maxHeartbeats 1000000 in
theorem readerW_none (b : Nat) (w : World) : ∀ (l : List UInt8), l.length < 2 → RBox b l w → Calls Try.prog 60 #[.pointer (some ⟨b, 0, none⟩)] w fun y w' => (∃ u pv, y = .panicked [{ v := .iface u pv, recovered := false }]) ∧ But b w w'
  | [], _, hB => by
    have HB : Hid (RBox b [] w) := hB
    clear hB
    go_enter Try.func60, Try.ntmps60
    go_wp2_with fail
    refine (reader_none b w HB.out).mono ?_
    rintro y w1 ⟨⟨u, pv, rfl⟩, hB1, hb1⟩
    exact ⟨rfl, ⟨_, _, rfl⟩, hb1⟩
  | [x], _, hB => by
    have HB : Hid (RBox b [x] w) := hB
    clear hB
    have h0 := i8_lo x
    have h1 := i8_hi x
    go_enter Try.func60, Try.ntmps60
    go_wp2_with fail
    refine (reader_some b x [] w HB.out).mono ?_
    rintro y w1 ⟨rfl, hB1, hb1⟩
    have HB1 : Hid (RBox b [] w1) := hB1
    have HK1 : Hid (But b w w1) := hb1
    clear hB1 hb1 HB
    go_wp2_with fail
    refine (reader_none b w1 HB1.out).mono ?_
    rintro y w2 ⟨⟨u, pv, rfl⟩, hB2, hb2⟩
    exact ⟨rfl, ⟨_, _, rfl⟩, HK1.out.trans hb2⟩
  | _ :: _ :: _, h, _ => absurd h (by simp)
end Go.Proofs.Yteabfjpajgakiaf
