/- ApC, ApD, ApD2, Cel, SnA, SnB, SnC, SnD, SnE, SnF, SnG, SnI, SnM0, SnM. -/
import Derived.Laws.IdiomCopy
import Derived.RangeFuncRecord
import Derived.Deep.MidRow
import Derived.Deep.RegionHeld3
import Derived.Deep.DeepCutAuto
import Derived.Test.YteabfjpajgakiadJ01
import Derived.Test.YteabfjpajgakiadJ02
import Derived.Test.YteabfjpajgakiadJ03
/- Applying: the machine's close and open. -/
set_option linter.unusedSimpArgs false
set_option linter.unusedVariables false
set_option maxRecDepth 10000
namespace Go.Proofs.Yteabfjpajgakiad
open Go.RowKit

/-- A session in its box. -/
structure SesBox (b : Nat) (s : Ses) (k : Value) (w : World) : Prop where
  c0 : w.cell? ⟨b, 0, none⟩ = some (.int .i64 s.client)
  c1 : w.cell? ⟨b, 1, none⟩ = some (.int .i64 s.acked)
  c2 : w.cell? ⟨b, 2, none⟩ = some (.int .i64 s.seen)
  c3 : w.cell? ⟨b, 3, none⟩ = some k
  fz : ∀ i, w.frozen? ⟨b, i, none⟩ = false

theorem SesBox.lt {b : Nat} {s : Ses} {k : Value} {w : World} (h : SesBox b s k w) : b < w.heap.size := World.block_lt_of_cell? _ _ h.c0
theorem SesBox.keep {b : Nat} {s : Ses} {k : Value} {w w' : World} (h : SesBox b s k w) (hk : Keeps w w') : SesBox b s k w' :=
  ⟨cell_kept h.c0 hk, cell_kept h.c1 hk, cell_kept h.c2 hk, cell_kept h.c3 hk, fun i => (Below.frozen hk (p := ⟨b, i, none⟩) h.lt).trans (h.fz i)⟩
theorem SesBox.other {b b' : Nat} {s : Ses} {k : Value} {w w' : World} (h : SesBox b s k w) (hk : But b' w w') (hb : b ≠ b') : SesBox b s k w' :=
  ⟨hk.at h.c0 hb, hk.at h.c1 hb, hk.at h.c2 hb, hk.at h.c3 hb, fun i => (hk.frozen (p := ⟨b, i, none⟩) h.lt hb).trans (h.fz i)⟩
theorem SesBox.new (w : World) (s : Ses) (k : Value) (t : TypeId) : SesBox w.heap.size s k (w.alloc (.cells #[.int .i64 s.client, .int .i64 s.acked, .int .i64 s.seen, k] t)) :=
  ⟨by simp [go_sem], by simp [go_sem], by simp [go_sem], by simp [go_sem], fun i => by simp [go_sem]⟩
theorem SesBox.set {b : Nat} {s s' : Ses} {t t' : Value} {w : World} (h : SesBox b s t w) (i : Nat) (u : Value)
    (h0 : .int .i64 s'.client = if i = 0 then u else .int .i64 s.client) (h1 : .int .i64 s'.acked = if i = 1 then u else .int .i64 s.acked) (h2 : .int .i64 s'.seen = if i = 2 then u else .int .i64 s.seen) (h3 : t' = if i = 3 then u else t) : SesBox b s' t' (w.setCell ⟨b, i, none⟩ u) := by
  have go : ∀ j x y, w.cell? ⟨b, j, none⟩ = some x → y = (if i = j then u else x) → (w.setCell ⟨b, i, none⟩ u).cell? ⟨b, j, none⟩ = some y := fun j x y hx hy => by
    by_cases hij : i = j
    · subst hij
      rw [if_pos rfl] at hy
      subst hy
      exact World.cell?_setCell_same _ _ _ hx
    · rw [if_neg hij] at hy
      subst hy
      rw [World.cell?_setCell_other _ _ _ _ (by intro e; injection e with _ e _; exact hij e)]
      exact hx
  exact ⟨go _ _ _ h.c0 h0, go _ _ _ h.c1 h1, go _ _ _ h.c2 h2, go _ _ _ h.c3 h3, fun j => (World.frozen?_setCell _ _ _ _).trans (h.fz j)⟩
end Go.Proofs.Yteabfjpajgakiad

/- Applying: the answers that a session keeps, in a row of its own: slices.DeleteFunc. -/
set_option linter.unusedSimpArgs false
set_option linter.unusedVariables false
set_option maxRecDepth 10000
namespace Go.Proofs.Yteabfjpajgakiad
open Go.RowKit

/-- A row of answers in block g. -/
def RepRow (w : World) (g cap : Nat) (xs : List Value) : Prop := ∃ cur : Array Value, w.heap[g]? = some (.cells cur 66 (0, 0)) ∧ cur.size = cap * 2 ∧ cap ≤ maxLen ∧ xs.length ≤ cap * 2 ∧ cur.toList.take xs.length = xs

theorem RepRow.lt {w : World} {g cap : Nat} {xs : List Value} (h : RepRow w g cap xs) : g < w.heap.size := by
  obtain ⟨cur, h1, _⟩ := h
  exact (Array.getElem?_eq_some_iff.1 h1).1
theorem RepRow.cell {w : World} {g cap : Nat} {xs : List Value} (h : RepRow w g cap xs) (i : Nat) (u : Value) (hu : xs[i]? = some u) : w.cell? ⟨g, i, none⟩ = some u := by
  obtain ⟨cur, h1, h2, h3, h4, h5⟩ := h
  have hi := (List.getElem?_eq_some_iff.1 hu).1
  rw [← h5, List.getElem?_take, if_pos hi] at hu
  simp [World.cell?, h1]
  simpa using hu
theorem RepRow.some {w : World} {g cap : Nat} {xs : List Value} (h : RepRow w g cap xs) (i : Nat) (hi : i < cap * 2) : ∃ u, w.cell? ⟨g, i, none⟩ = some u := by
  obtain ⟨cur, h1, h2, _⟩ := h
  refine ⟨cur[i]'(by omega), ?_⟩
  simp [World.cell?, h1, h2, hi]
theorem RepRow.frozen {w : World} {g cap : Nat} {xs : List Value} (h : RepRow w g cap xs) (i : Nat) : w.frozen? ⟨g, i, none⟩ = false := by
  obtain ⟨cur, h1, _⟩ := h
  simp [World.frozen?, h1]
theorem RepRow.set {w : World} {g cap : Nat} {xs : List Value} (h : RepRow w g cap xs) (i : Nat) (u : Value) : RepRow (w.setCell ⟨g, i, none⟩ u) g cap (xs.set i u) := by
  obtain ⟨cur, h1, h2, h3, h4, h5⟩ := h
  refine ⟨cur.setIfInBounds i u, ?_, by simpa using h2, h3, by simpa using h4, ?_⟩
  · simp [World.setCell, Array.getElem?_modify, h1]
  · simp only [List.length_set, Array.toList_setIfInBounds]
    rw [List.take_set, h5]
theorem RepRow.but {w w' : World} {g b cap : Nat} {xs : List Value} (h : RepRow w g cap xs) (hk : But b w w') (hb : g ≠ b) : RepRow w' g cap xs := by
  have hl := h.lt
  obtain ⟨cur, h1, r⟩ := h
  exact ⟨cur, (hk.block g hl hb).trans h1, r⟩
theorem RepRow.keep {w w' : World} {g cap : Nat} {xs : List Value} (h : RepRow w g cap xs) (hk : Keeps w w') : RepRow w' g cap xs := by
  have hl := h.lt
  obtain ⟨cur, h1, r⟩ := h
  exact ⟨cur, (hk.block g hl).trans h1, r⟩
theorem RepRow.take {w : World} {g cap : Nat} {xs : List Value} (h : RepRow w g cap xs) (n : Nat) : RepRow w g cap (xs.take n) := by
  obtain ⟨cur, h1, h2, h3, h4, h5⟩ := h
  refine ⟨cur, h1, h2, h3, by simp; omega, ?_⟩
  have e : List.take n xs = List.take n (List.take xs.length cur.toList) := by rw [h5]
  rw [List.length_take, e, List.take_take]

/-- The answers lie in block g (or there are none, and no row). -/
def KeptOn (g : Nat) (w : World) (kv : Value) (l : List (Int × Int)) : Prop := (kv = .slice none 0 0 ∧ l = []) ∨ ∃ cap, kv = .slice (some ⟨g, 0, none⟩) l.length cap ∧ RepRow w g cap (repCells l)

theorem KeptOn.kept {g : Nat} {w : World} {kv : Value} {l : List (Int × Int)} (h : KeptOn g w kv l) : KeptAt w kv l := by
  rcases h with ⟨rfl, rfl⟩ | ⟨cap, rfl, hr⟩
  · exact kept_nil w
  · have hc := fun i u hu => hr.cell i u hu
    obtain ⟨cur, h1, h2, h3, h4, h5⟩ := hr
    rw [repCells_len] at h4
    exact ⟨repCells_len _, by omega, .inr ⟨_, cap, rfl, fun j u hu => by rw [Addr.add_lit, Nat.zero_add]; exact hc j u hu⟩⟩
theorem KeptOn.but {g b : Nat} {w w' : World} {kv : Value} {l : List (Int × Int)} (h : KeptOn g w kv l) (hk : But b w w') (hb : g ≠ b) : KeptOn g w' kv l :=
  h.imp id fun ⟨cap, e, hr⟩ => ⟨cap, e, hr.but hk hb⟩
theorem KeptOn.keep {g : Nat} {w w' : World} {kv : Value} {l : List (Int × Int)} (h : KeptOn g w kv l) (hk : Keeps w w') : KeptOn g w' kv l :=
  h.imp id fun ⟨cap, e, hr⟩ => ⟨cap, e, hr.keep hk⟩
theorem KeptOn.of_owns {base : Nat} {w : World} {kv : Value} {l : List (Int × Int)} (h : w.ownsRow base 66 2 kv l.length (repCells l)) : ∃ g, KeptOn g w kv l ∧ base ≤ g ∧ (g < w.heap.size ∨ g = base) := by
  obtain ⟨h1, h2⟩ := h
  rcases h2 with ⟨rfl, h0⟩ | ⟨g, cap, cur, rfl, hg, hh, hn, hm, hs, ht⟩
  · exact ⟨base, .inl ⟨rfl, List.length_eq_zero_iff.1 h0⟩, Nat.le_refl _, .inr rfl⟩
  · have hr : RepRow w g cap (repCells l) := ⟨cur, hh, hs, hm, by rw [h1]; omega, by rw [h1]; exact ht⟩
    exact ⟨g, .inr ⟨cap, rfl, hr⟩, hg, .inl hr.lt⟩
end Go.Proofs.Yteabfjpajgakiad

/- Applying: slices.DeleteFunc, where some answers are gone. -/
set_option linter.unusedSimpArgs false
set_option linter.unusedVariables false
set_option maxRecDepth 10000
namespace Go.Proofs.Yteabfjpajgakiad
open Go.RowKit

theorem repCells_set : ∀ (A : List (Int × Int)) (i : Nat) (q v : Int), repCells (A.set i (q, v)) = ((repCells A).set (i * 2) (.int .i64 q)).set (i * 2 + 1) (.int .i64 v)
  | [], i, q, v => by simp [repCells]
  | (a, b) :: r, 0, q, v => by simp [repCells]
  | (a, b) :: r, i + 1, q, v => by
    rw [List.set_cons_succ, show (i + 1) * 2 = i * 2 + 1 + 1 from by omega, show i * 2 + 1 + 1 + 1 = (i * 2 + 1) + 1 + 1 from rfl]
    simp only [repCells, List.set_cons_succ, repCells_set r i q v]
/-- Values laid one behind the other. -/
def setL : List Value → Nat → List Value → List Value
  | xs, _, [] => xs
  | xs, o, v :: r => setL (xs.set o v) (o + 1) r
theorem RepRow.setCells {g cap : Nat} : ∀ (cs : List Value) (o : Nat) {w : World} {xs : List Value}, RepRow w g cap xs → RepRow (w.setCells g o cs) g cap (setL xs o cs)
  | [], _, _, _, h => h
  | v :: r, o, _, _, h => RepRow.setCells r (o + 1) (h.set o v)
theorem But.setCells {g : Nat} {x : World} : ∀ (cs : List Value) (o : Nat) {y : World}, But g x y → But g x (y.setCells g o cs)
  | [], _, _, h => h
  | v :: r, o, _, h => But.setCells r (o + 1) (h.set o v)

theorem RepRow.at {w : World} {g cap : Nat} {A : List (Int × Int)} (h : RepRow w g cap (repCells A)) {k : Nat} (hk : k < A.length) :
    w.cell? ⟨g, k * 2, none⟩ = Option.some (.int .i64 (A[k]).1) ∧ w.cell? ⟨g, k * 2 + 1, none⟩ = Option.some (.int .i64 (A[k]).2) := by
  have e := repCells_at A k (A[k]).1 (A[k]).2 (by rw [List.getElem?_eq_getElem hk])
  rw [Nat.mul_comm k 2]
  exact ⟨h.cell _ _ e.1, h.cell _ _ e.2⟩
theorem RepRow.store {w : World} {g cap : Nat} {A : List (Int × Int)} (h : RepRow w g cap (repCells A)) (k : Nat) (q v : Int) :
    RepRow ((w.setCell ⟨g, k * 2, none⟩ (.int .i64 q)).setCell ⟨g, k * 2 + 1, none⟩ (.int .i64 v)) g cap (repCells (A.set k (q, v))) := by
  rw [repCells_set]
  exact (h.set _ _).set _ _

end Go.Proofs.Yteabfjpajgakiad

/- Laws for variables of many cells, readers, drawn regions. -/
set_option linter.unusedSimpArgs false
set_option linter.unusedVariables false
set_option maxRecDepth 10000
namespace Go.Proofs.Yteabfjpajgakiad
open Go.RowKit

/-- A variable of cells. -/
def CBox (b : Nat) (cs : List Value) (w : World) : Prop := (∀ i u, cs[i]? = some u → w.cell? ⟨b, i, none⟩ = some u) ∧ ∀ i, w.frozen? ⟨b, i, none⟩ = false
theorem CBox.lt {b : Nat} {cs : List Value} {w : World} (h : CBox b cs w) (hc : 0 < cs.length) : b < w.heap.size := World.block_lt_of_cell? _ _ (h.1 0 _ (List.getElem?_eq_getElem hc))
theorem CBox.same {b : Nat} {cs : List Value} {w w' : World} (h : CBox b cs w) (he : w'.heap[b]? = w.heap[b]?) : CBox b cs w' := ⟨fun i u hu => (World.cell?_of_block he).trans (h.1 i u hu), fun i => (World.frozen?_of_block he).trans (h.2 i)⟩
theorem CBox.keep {b : Nat} {cs : List Value} {w w' : World} (h : CBox b cs w) (hk : Keeps w w') (hc : 0 < cs.length := by simp) : CBox b cs w' := h.same (hk.block b (h.lt hc))
theorem CBox.other {b c : Nat} {cs : List Value} {w w' : World} (h : CBox b cs w) (hk : But c w w') (hb : b ≠ c) (hc : 0 < cs.length := by simp) : CBox b cs w' := h.same (hk.block b (h.lt hc) hb)
theorem CBox.new (w : World) (cs : List Value) (ty : TypeId) : CBox w.heap.size cs (w.alloc (.cells cs.toArray ty)) := by
  refine ⟨fun i u hu => ?_, fun i => ?_⟩
  · unfold World.cell?
    rw [World.alloc_heap_new]
    simpa using hu
  · simp [go_sem]

theorem range_of {b : Nat} {cs : List Value} {w : World} (h : CBox b cs w) (o n : Nat) {ds : List Value} (hd : (cs.drop o).take n = ds) : w.rangeAt b o ds := by
  intro j v hv
  refine h.1 (o + j) v ?_
  rw [← hd] at hv
  rw [List.getElem?_take] at hv
  split at hv
  · rw [List.getElem?_drop] at hv
    exact hv
  · cases hv

theorem CBox.there {b : Nat} {cs : List Value} {w : World} (h : CBox b cs w) (o n : Nat) (hn : o + n ≤ cs.length) : w.there b o n := fun j hj => ⟨by rw [h.1 (o + j) _ (List.getElem?_eq_getElem (by omega))]; rfl, h.2 _⟩
theorem frozen_setCells {b : Nat} : ∀ (vs : List Value) (o : Nat) (w : World) (a : Addr), (w.setCells b o vs).frozen? a = w.frozen? a
  | [], _, _, _ => rfl
  | v :: r, o, w, a => (frozen_setCells r (o + 1) _ a).trans (World.frozen?_setCell _ _ _ _)
/-- A part of it. -/
theorem CBox.putAt {b o : Nat} {cs : List Value} {w : World} (h : CBox b cs w) (ds : List Value) (hl : o + ds.length ≤ cs.length) : CBox b (cs.take o ++ ds ++ cs.drop (o + ds.length)) (w.setCells b o ds) := by
  refine ⟨fun i u hu => ?_, fun i => (frozen_setCells ds o w _).trans (h.2 i)⟩
  by_cases h1 : i < o
  · rw [World.cell?_setCells_out b ds o w ⟨b, i, none⟩ (fun _ _ => .inl h1)]
    refine h.1 i u ?_
    rw [List.append_assoc, List.getElem?_append_left (by simp; omega), List.getElem?_take, if_pos h1] at hu
    exact hu
  · by_cases h2 : i < o + ds.length
    · have := World.rangeAt_setCells_same w b o ds (h.there o ds.length hl) (i - o) u (by
        rw [List.append_assoc, List.getElem?_append_right (by simp; omega), List.getElem?_append_left (by simp; omega)] at hu
        rw [List.length_take, Nat.min_eq_left (by omega)] at hu
        exact hu)
      rwa [show o + (i - o) = i by omega] at this
    · rw [World.cell?_setCells_out b ds o w ⟨b, i, none⟩ (fun _ _ => .inr (by simp; omega))]
      refine h.1 i u ?_
      rw [List.getElem?_append_right (by simp; omega), List.getElem?_drop] at hu
      rw [← hu]
      congr 1
      simp
      omega

/-- A parameter laid in memory: what its variable holds, and no more, is handed on. -/
theorem wpList_box_new {P : Program} {ops : Array Oper} {rest : List Oper} {op : Oper} {a : Act} {w : World} {Q : Exit → Act → World → Prop} (hgd : op.guard = none) (ty : TypeId) (x : Operand) (ho : op.op = .box ty x) (cs : List Value) (hx : a.eval x = .agg cs.toArray)
    (h : ∀ (w' : World) (b : Nat), CBox b cs w' → Keeps w w' → b < w'.heap.size → w.heap.size ≤ b → wpList P ops Q rest (a.put op.dst (.pointer (some ⟨b, 0, none⟩))) w') : wpList P ops Q (op :: rest) a w := by
  refine wpList_plain hgd fun K hK => ?_
  have hn := h (w.alloc (.cells cs.toArray ty)) w.heap.size (CBox.new w cs ty) ((Keeps.refl _).alloc _) (by simp) (Nat.le_refl _)
  have e1 : (execOp a.eval op).run P w = .ok (.value (.pointer (some ⟨w.heap.size, 0, none⟩))) (w.alloc (.cells cs.toArray ty)) := by
    generalize a.eval = f at hx
    simp [execOp, ho, hx, go_sem]
  unfold Oper.wp
  rw [e1]
  exact hK _ _ hn

/-- A variable that is made: the same. -/
theorem wpList_alloc_new {P : Program} {ops : Array Oper} {rest : List Oper} {op : Oper} {a : Act} {w : World} {Q : Exit → Act → World → Prop} (hgd : op.guard = none) (ty : TypeId) (ho : op.op = .alloc ty) (z : Value) (cs : List Value) (hz : (P.info? ty).map (·.zero) = some (some z)) (hc : z.cells = cs.toArray)
    (h : ∀ (w' : World) (b : Nat), CBox b cs w' → Keeps w w' → b < w'.heap.size → w.heap.size ≤ b → wpList P ops Q rest (a.put op.dst (.pointer (some ⟨b, 0, none⟩))) w') : wpList P ops Q (op :: rest) a w := by
  refine wpList_plain hgd fun K hK => ?_
  have hn := h (w.alloc (.cells cs.toArray ty)) w.heap.size (CBox.new w cs ty) ((Keeps.refl _).alloc _) (by simp) (Nat.le_refl _)
  obtain ⟨i, hi, hzi⟩ : ∃ i, P.info? ty = some i ∧ i.zero = some z := by
    cases q : P.info? ty with
    | none => rw [q] at hz; cases hz
    | some i => rw [q] at hz; exact ⟨i, rfl, by simpa using hz⟩
  have e1 : (execOp a.eval op).run P w = .ok (.value (.pointer (some ⟨w.heap.size, 0, none⟩))) (w.alloc (.cells cs.toArray ty)) := by
    generalize a.eval = f
    rw [← hc]
    simp [execOp, ho, hi, hzi, go_sem, typeInfo, zeroValue]
  unfold Oper.wp
  rw [e1]
  exact hK _ _ hn

/-- A part of a variable is read. -/
theorem wpList_load_box {P : Program} {ops : Array Oper} {rest : List Oper} {op : Oper} {a : Act} {w : World} {Q : Exit → Act → World → Prop} (hgd : op.guard = none) (ty : TypeId) (x : Operand) (ho : op.op = .load ty x) (b o : Nat) (hx : a.eval x = .pointer (some ⟨b, o, none⟩)) {cs : List Value} (hB : CBox b cs w) (n : Nat) (ds : List Value) (hds : (cs.drop o).take n = ds) (d : TypeDesc)
    (hu : P.underlying ty = some d) (hd : d.isRow = true) (hi : (P.info? ty).map (·.size) = some ds.length) (h : wpList P ops Q rest (a.put op.dst (.agg ds.toArray)) w) : wpList P ops Q (op :: rest) a w :=
  wpList_load_mid hgd ty x ho b o hx ds d (range_of hB o n hds) hu hd hi h
/-- A part of a variable is written. -/
theorem wpList_store_box {P : Program} {ops : Array Oper} {rest : List Oper} {op : Oper} {a : Act} {w : World} {Q : Exit → Act → World → Prop} (hgd : op.guard = none) (ty : TypeId) (x y : Operand) (ho : op.op = .store ty x y) (b o : Nat) (ds : List Value) (hx : a.eval x = .pointer (some ⟨b, o, none⟩)) (hy : a.eval y = .agg ds.toArray) {cs : List Value} (hB : CBox b cs w) (es : List Value) (hes : cs.take o ++ ds ++ cs.drop (o + ds.length) = es)
    (hl : o + ds.length ≤ cs.length) (hi : (P.info? ty).map (·.size) = some ds.length) (h1 : ds.toArray.all (·.oneCell') = true) (h : ∀ w', CBox b es w' → But b w w' → wpList P ops Q rest (a.put op.dst undef) w') : wpList P ops Q (op :: rest) a w := by
  subst hes
  refine wpList_store_mid hgd ty x y ho b o ds.toArray hx hy (by simpa using hB.there o ds.length hl) (by simpa using hi) h1 ?_
  exact h _ (hB.putAt ds hl) (But.setCells _ _ (But.refl _ _))
/-- A result that lies in memory. -/
theorem read_box {P : Program} {w : World} {b : Nat} {cs : List Value} (hB : CBox b cs w) (ty : TypeId) (d : TypeDesc) (hu : P.underlying ty = some d) (hd : d.isRow = true) (hi : (P.info? ty).map (·.size) = some cs.length) : (loadVar ty ⟨b, 0, none⟩).run P w = .ok (.agg cs.toArray) w :=
  run_loadVar_mid w b 0 ty cs d (range_of hB 0 cs.length (by simp)) hu hd hi

theorem info_size {P : Program} {t : TypeId} {n : Nat} (h : (P.info? t).map (·.size) = some n) {l : List Value} (hl : l.length = n) : (P.info? t).map (·.size) = some l.length := by rw [hl]; exact h
/-- Results of which the first lies in memory. -/
theorem results1 {P : Program} {fn : Func} {tmps : Array Value} {w : World} {i : Nat} {t : TypeId} (hf : fn.results = #[.cell i t]) {p : Addr} (h0 : tmps.getD i undef = .pointer (some p)) {v : Value} (hl : (loadVar t p).run P w = .ok v w) : (results fn tmps).run P w = .ok v w := by
  simp only [results, hf]
  simp [asAddr, ← Array.getD_eq_getD_getElem?, h0, hl]
theorem results2 {P : Program} {fn : Func} {tmps : Array Value} {w : World} {i j : Nat} {t : TypeId} (hf : fn.results = #[.cell i t, .tmp j]) {p : Addr} (h0 : tmps.getD i undef = .pointer (some p)) {u : Value} (h1 : tmps.getD j undef = u) {v : Value} (hl : (loadVar t p).run P w = .ok v w) : (results fn tmps).run P w = .ok (.tuple #[v, u]) w := by
  simp only [results, hf]
  simp [asAddr, ← Array.getD_eq_getD_getElem?, h0, h1, hl]
/-- A goal that is not looked into. -/
structure Wrp (p : Prop) : Prop where
  out : p
/-- An operation that is wanted comes up next. -/
theorem AllReadyH.wrp {P : Program} {ops : Array Oper} {Q : Exit → Act → World → Prop} {md : Region.Mode} {S : World → Prop} {fuel : Nat} {listed : Array Bool} {a : Act} {w : World} {i : Nat} {o : Oper} {rs : List Nat} (ho : ops[i]? = some o) (hw : Region.wanted o (yielded ops a.tmps) = true)
    (h : ∀ K' : Act → World → Prop, Shut (∀ a w, S w → (S w → wpAnyH P md ops Q S fuel (listed.setIfInBounds i true) a w) → K' a w) → Wrp (Oper.wp P o a w K' Q)) (hs : AllReadyH P md ops Q S fuel listed a w rs) : AllReadyH P md ops Q S fuel listed a w (i :: rs) :=
  AllReadyH.cons ho (fun K' hK => by rw [if_pos hw]; exact (h K' hK).out) hs
/-- A call. -/
theorem h_call {P : Program} {o : Oper} {a : Act} {w : World} {K : Act → World → Prop} {Q : Exit → Act → World → Prop} (h : o.wp P a w K Q) : Wrp (Oper.wp P o a w K Q) := ⟨h⟩
theorem wp_store_box {P : Program} {op : Oper} {a : Act} {w : World} {K : Act → World → Prop} {Q : Exit → Act → World → Prop} (ty : TypeId) (x y : Operand) (ho : op.op = .store ty x y) (b o : Nat) (ds : List Value) (hx : a.eval x = .pointer (some ⟨b, o, none⟩)) (hy : a.eval y = .agg ds.toArray) {cs : List Value} (hB : CBox b cs w) (es : List Value) (hes : cs.take o ++ ds ++ cs.drop (o + ds.length) = es)
    (hl : o + ds.length ≤ cs.length) (hi : (P.info? ty).map (·.size) = some ds.length) (h1 : ds.toArray.all (·.oneCell') = true) (h : ∀ w', CBox b es w' → But b w w' → K (a.put op.dst undef) w') : op.wp P a w K Q := by
  subst hes
  refine wp_store_mid ty x y ho b o ds.toArray hx hy (by simpa using hB.there o ds.length hl) (by simpa using hi) h1 ?_
  exact h _ (hB.putAt ds hl) (But.setCells _ _ (But.refl _ _))
theorem GrowStepI.wrp {P : Program} {l : List Oper} {Q : Exit → Act → World → Prop} {a0 : Act} {I : World → Prop} {J : Pr} {ds : List (Option Tmp)} {R : List Pr} {xs : List Wr} {i : Nat} {o : Oper} (ho : l[i]? = some o) (hg : o.guard = none)
    (h : ∀ (vs : Nat → Value) (W : World), I W → ((xs.all fun x => x.num == i || reachB l.toArray l.toArray.size x.num i) = true → J.p undef W) → (∀ j, mayB l.toArray xs i j = true → (prAt R j).p (vs j) W) → ∀ K : Act → World → Prop, Shut (∀ a' v W', a' = (fillL ds vs 0 a0).put (ds.getD i none) v → FrI xs I i W W' → (prAt R i).p v W' → K a' W') → Wrp (o.wp P (fillL ds vs 0 a0) W K Q)) : GrowStepI P l Q a0 I J ds R xs i := ⟨by
  intro vs W hI hJ hR K hK
  rw [ho]
  have hw : Region.wanted o (yielded l.toArray (fillL ds vs 0 a0).tmps) = true := by simp [Region.wanted, hg]
  simp only [hw, if_true]
  exact (h vs W hI hJ hR K hK).out⟩
theorem h_run {P : Program} {o : Oper} {a : Act} {w w' : World} {K : Act → World → Prop} {Q : Exit → Act → World → Prop} {v : Value} (hr : (execOp a.eval o).run P w = .ok (.value v) w') (hK : K (a.put o.dst v) w') : Wrp (o.wp P a w K Q) := ⟨by
  unfold Oper.wp
  rw [hr]
  exact hK⟩
theorem h_field {P : Program} {o : Oper} {a : Act} {w : World} {K : Act → World → Prop} {Q : Exit → Act → World → Prop} {t : TypeId} {x : Operand} {f : Nat} (ho : o.op = .fieldAddr t x f) {p q : Value} (hx : a.eval x = p) (hr : (Instr.fieldAt t p f).run P w = .ok q w) (hK : K (a.put o.dst q) w) : Wrp (o.wp P a w K Q) :=
  h_run (by simp only [execOp, ho, hx, Sem.run_bind, hr, Result.andThen_ok, Sem.run_pure]) hK
theorem h_load {P : Program} {o : Oper} {a : Act} {w : World} {K : Act → World → Prop} {Q : Exit → Act → World → Prop} {t : TypeId} {x : Operand} (ho : o.op = .load t x) {p q : Value} (hx : a.eval x = p) (hr : (Instr.loadAt t p).run P w = .ok q w) (hK : K (a.put o.dst q) w) : Wrp (o.wp P a w K Q) :=
  h_run (by simp only [execOp, ho, hx, Sem.run_bind, hr, Result.andThen_ok, Sem.run_pure]) hK
theorem h_move {P : Program} {o : Oper} {a : Act} {w : World} {K : Act → World → Prop} {Q : Exit → Act → World → Prop} {x : Operand} (ho : o.op = .move x) {v : Value} (hx : a.eval x = v) (hK : K (a.put o.dst v) w) : Wrp (o.wp P a w K Q) := h_run (by simp [execOp, ho, hx]) hK
theorem h_assign {P : Program} {o : Oper} {a : Act} {w : World} {K : Act → World → Prop} {Q : Exit → Act → World → Prop} {x : Operand} (ho : o.op = .assign x) {v : Value} (hx : a.eval x = v) (hK : K (a.put o.dst v) w) : Wrp (o.wp P a w K Q) := h_run (by simp [execOp, ho, hx]) hK
theorem But.far {b c : Nat} {x y z : World} (h : But b x y) (hc : x.heap.size ≤ c) (k : But c y z) : But b x z :=
  ⟨k.os.trans h.os, k.tape.trans h.tape, k.output.trans h.output, Nat.le_trans h.size k.size, fun i hi hb => (k.block i (Nat.lt_of_lt_of_le hi h.size) (by omega)).trans (h.block i hi hb)⟩
theorem CBox.one {b : Nat} {cs : List Value} {w : World} (h : CBox b cs w) (i : Nat) (v : Value) : CBox b (cs.set i v) (w.setCell ⟨b, i, none⟩ v) := by
  refine ⟨fun j u hu => ?_, fun j => (World.frozen?_setCell _ _ _ _).trans (h.2 j)⟩
  by_cases hij : i = j
  · subst hij
    rw [List.getElem?_set] at hu
    simp only [if_true] at hu
    split at hu
    · rename_i hl
      have hc := h.1 i _ (List.getElem?_eq_getElem hl)
      rw [World.cell?_setCell_same _ _ _ hc]
      exact hu
    · cases hu
  · rw [List.getElem?_set_ne hij] at hu
    rw [World.cell?_setCell_other _ _ _ _ (by intro e; injection e with _ e _; exact hij e)]
    exact h.1 j u hu
section
variable {ops : Array Oper} {rest : List Oper} {op : Oper} {a : Act} {w : World} {Q : Exit → Act → World → Prop}
theorem store_one (hgd : op.guard = none) {x y : Operand} (ho : op.op = .store 3 x y) (b i : Nat) (hx : a.eval x = .pointer (some ⟨b, i, none⟩)) {n : Int} (hy : a.eval y = .int .i64 n) {cs : List Value} (es : List Value) (hB : CBox b cs w) (hi : i < cs.length) (hes : cs.set i (.int .i64 n) = es)
    (h : ∀ w', CBox b es w' → But b w w' → wpList Try.prog ops Q rest (a.put op.dst undef) w') : wpList Try.prog ops Q (op :: rest) a w := by
  subst hes
  refine wpList_plain hgd fun K hK => ?_
  have hc := hB.1 i _ (List.getElem?_eq_getElem hi)
  have hz := hB.2 i
  have hn := h _ (hB.one i (.int .i64 n)) ((But.refl _ _).set i _)
  have e0 : (Instr.storeAt 3 (.pointer (some ⟨b, i, none⟩)) (.int .i64 n)).run Try.prog w = .ok () (w.setCell ⟨b, i, none⟩ (.int .i64 n)) := by simp [go_sem, hc, hz]
  have e1 : (execOp a.eval op).run Try.prog w = .ok .skip (w.setCell ⟨b, i, none⟩ (.int .i64 n)) := by
    simp only [execOp, ho, hx, hy, Sem.run_bind, e0, Result.andThen_ok, Sem.run_pure]
  unfold Oper.wp
  rw [e1]
  exact hK _ _ hn
end
theorem grow_keep {w1 w2 w3 : World} {o : Obj} {v v' : Value} {B : List UInt8} (hk : Keeps w1 w2) (hv : BOwn w1.heap.size w2 v B) (hg : GrowsTo (w2.alloc o) w3 v v') : Keeps w1 w3 := by
  have h1 : Keeps w1 (w2.alloc o) := hk.alloc o
  have h2 : Below w1.heap.size (w2.alloc o) w3 := hg.below (hv.keep ((Keeps.refl _).alloc _)) h1.size
  exact Below.trans h1 h2
theorem BOwn.cells {base : Nat} {w : World} {v : Value} {B : List UInt8} (h : BOwn base w v B) (h0 : 0 < B.length) : ∃ g c, v = .slice (some ⟨g, 0, none⟩) B.length c ∧ ∀ j (hj : j < B.length), w.cell? ((⟨g, 0, none⟩ : Addr).add j) = some (.int .u8 (B[j].toNat : Int)) := by
  rcases h.2 with ⟨_, h1⟩ | ⟨g, cap, cur, rfl, hb, hg, hn, hc, hs, ht⟩
  · omega
  · refine ⟨g, cap, rfl, fun j hj => ?_⟩
    refine World.news_of_block hg j _ ?_
    have h2 : (cur.toList.take (B.length * 1))[j]? = some (.int .u8 (i8 B[j])) := by rw [ht]; exact byCells_at hj
    rw [List.getElem?_take_of_lt (by omega)] at h2
    exact h2
theorem BOwn.conv {base : Nat} {w : World} {v : Value} {B : List UInt8} (h : BOwn base w v B) (h0 : 0 < B.length) : ∃ g c, v = .slice (some ⟨g, 0, none⟩) B.length c ∧ (convert 55 9 (.slice (some ⟨g, 0, none⟩) B.length c)).run Try.prog w = .ok (.string (bt B)) w := by
  obtain ⟨g, c, h1, h2⟩ := h.cells h0
  exact ⟨g, c, h1, run_convert_bytes_back w 55 9 5 ⟨g, 0, none⟩ c B Try.underlying55 Try.underlying5 Try.underlying9 h2⟩
def RBox (b : Nat) (l : List UInt8) (w : World) : Prop := w.cell? ⟨b, 0, none⟩ = some (.string (bt l)) ∧ w.frozen? ⟨b, 0, none⟩ = false
theorem RBox.lt {b : Nat} {l : List UInt8} {w : World} (h : RBox b l w) : b < w.heap.size := World.block_lt_of_cell? _ _ h.1
theorem RBox.same {b : Nat} {l : List UInt8} {w w' : World} (h : RBox b l w) (he : w'.heap[b]? = w.heap[b]?) : RBox b l w' := ⟨(World.cell?_of_block he).trans h.1, (World.frozen?_of_block he).trans h.2⟩
theorem RBox.keep {b : Nat} {l : List UInt8} {w w' : World} (h : RBox b l w) (hk : Keeps w w') : RBox b l w' := h.same (hk.block b h.lt)
theorem RBox.other {b c : Nat} {l : List UInt8} {w w' : World} (h : RBox b l w) (hk : But c w w') (hb : b ≠ c) : RBox b l w' := h.same (hk.block b h.lt hb)
theorem RBox.set {b : Nat} {l r : List UInt8} {w : World} (h : RBox b l w) : RBox b r (w.setCell ⟨b, 0, none⟩ (.string (bt r))) := ⟨World.cell?_setCell_same _ _ _ h.1, (World.frozen?_setCell _ _ _ _).trans h.2⟩
theorem bt_size (l : List UInt8) : (bt l).size = l.length := by simp [bt, ByteArray.size]
theorem bt_list (l : List UInt8) : (bt l).toList = l := by rw [ByteArray.toList_eq]; simp [bt]
theorem bt_drop (l : List UInt8) (n : Nat) : (bt l).extract n l.length = bt (l.drop n) := by
  unfold bt
  rw [ByteArray.extract_mk]
  congr 1
  apply Array.ext'
  simp
  rw [List.take_of_length_le (by simp)]
theorem bt_head (x : UInt8) (r : List UInt8) (h : 0 < (bt (x :: r)).size) : (bt (x :: r))[0].toNat = x.toNat := rfl

set_option maxHeartbeats 1000000 in
theorem reader_some (b : Nat) (x : UInt8) (r : List UInt8) (w : World) (hB : RBox b (x :: r) w) : Calls Try.prog 79 #[.pointer (some ⟨b, 0, none⟩)] w fun y w' => y = .returned (.int .i64 (i8 x)) ∧ RBox b r w' ∧ But b w w' := by
  have HB : Hid (RBox b (x :: r) w) := hB
  obtain ⟨hc, hf⟩ := hB
  have hs := bt_size (x :: r)
  have hie : (bt (x :: r)).toList.isEmpty = false := by rw [bt_list]; rfl
  have HX : Hid ((bt (x :: r)).extract 1 (r.length + 1) = bt r) := bt_drop (x :: r) 1
  have h0 := i8_lo x
  have h1 := i8_hi x
  go_enter Try.func79, Try.ntmps79
  go_wp2_with fail
  go_ret
  rw [HX.out]
  refine ⟨?_, HB.out.set, (But.refl _ _).set _ _⟩
  rw [bt_head]
  have : wrap64 (x.toNat : Int) = i8 x := by unfold i8 at *; unfold wrap64; omega
  rw [this]
  rfl
set_option maxHeartbeats 1000000 in
theorem reader_none (b : Nat) (w : World) (hB : RBox b [] w) : Calls Try.prog 79 #[.pointer (some ⟨b, 0, none⟩)] w fun y w' => (∃ u pv, y = .panicked [{ v := .iface u pv, recovered := false }]) ∧ RBox b [] w' ∧ But b w w' := by
  have HB : Hid (RBox b [] w) := hB
  obtain ⟨hc, hf⟩ := hB
  have hie : (bt []).toList.isEmpty = true := by rw [bt_list]; rfl
  go_enter Try.func79, Try.ntmps79
  go_wp2_with fail
  exact ⟨rfl, ⟨_, _, rfl⟩, HB.out, But.refl _ _⟩
set_option maxHeartbeats 1000000 in
theorem readerW_some (b : Nat) (x z : UInt8) (r : List UInt8) (w : World) (hB : RBox b (x :: z :: r) w) : Calls Try.prog 80 #[.pointer (some ⟨b, 0, none⟩)] w fun y w' => y = .returned (.int .i64 (i8 x * 256 + i8 z)) ∧ RBox b r w' ∧ But b w w' := by
  have HB : Hid (RBox b (x :: z :: r) w) := hB
  clear hB
  have h0 := i8_lo x
  have h1 := i8_hi x
  have h2 := i8_lo z
  have h3 := i8_hi z
  go_enter Try.func80, Try.ntmps80
  go_wp2_with fail
  refine (reader_some b x (z :: r) w HB.out).mono ?_
  rintro y w1 ⟨rfl, hB1, hb1⟩
  have HB1 : Hid (RBox b (z :: r) w1) := hB1
  have HK1 : Hid (But b w w1) := hb1
  clear hB1 hb1 HB
  go_wp2_with fail
  refine (reader_some b z r w1 HB1.out).mono ?_
  rintro y w2 ⟨rfl, hB2, hb2⟩
  have HB2 : Hid (RBox b r w2) := hB2
  have HK2 : Hid (But b w w2) := HK1.out.trans hb2
  clear hB2 hb2 HB1
  go_wp2_with fail
  go_ret
  first
    | exact ⟨rfl, HB2.out, HK2.out⟩
    | exact ⟨by simp, HB2.out, HK2.out⟩
set_option maxHeartbeats 1000000 in
theorem readerW_none (b : Nat) (w : World) : ∀ (l : List UInt8), l.length < 2 → RBox b l w → Calls Try.prog 80 #[.pointer (some ⟨b, 0, none⟩)] w fun y w' => (∃ u pv, y = .panicked [{ v := .iface u pv, recovered := false }]) ∧ But b w w'
  | [], _, hB => by
    have HB : Hid (RBox b [] w) := hB
    clear hB
    go_enter Try.func80, Try.ntmps80
    go_wp2_with fail
    refine (reader_none b w HB.out).mono ?_
    rintro y w1 ⟨⟨u, pv, rfl⟩, hB1, hb1⟩
    exact ⟨rfl, ⟨_, _, rfl⟩, hb1⟩
  | [x], _, hB => by
    have HB : Hid (RBox b [x] w) := hB
    clear hB
    have h0 := i8_lo x
    have h1 := i8_hi x
    go_enter Try.func80, Try.ntmps80
    go_wp2_with fail
    refine (reader_some b x [] w HB.out).mono ?_
    rintro y w1 ⟨rfl, hB1, hb1⟩
    have HB1 : Hid (RBox b [] w1) := hB1
    have HK1 : Hid (But b w w1) := hb1
    clear hB1 hb1 HB
    go_wp2_with fail
    refine (reader_none b w1 HB1.out).mono ?_
    rintro y w2 ⟨⟨u, pv, rfl⟩, hB2, hb2⟩
    exact ⟨rfl, ⟨_, _, rfl⟩, HK1.out.trans hb2⟩
  | _ :: _ :: _, h, _ => absurd h (by simp)
theorem resultsC {P : Program} {fn : Func} {tmps : Array Value} {w : World} {i j k : Nat} {t t' : TypeId} (hf : fn.results = #[.cell i t, .tmp j, .cell k t']) {p q : Addr} (h0 : tmps.getD i undef = .pointer (some p)) {u : Value} (h1 : tmps.getD j undef = u) (h2 : tmps.getD k undef = .pointer (some q)) {v v' : Value} (hl : (loadVar t p).run P w = .ok v w) (hl' : (loadVar t' q).run P w = .ok v' w) : (results fn tmps).run P w = .ok (.tuple #[v, u, v']) w := by
  simp only [results, hf]
  simp [asAddr, ← Array.getD_eq_getD_getElem?, h0, h1, h2, hl, hl']
theorem read4 {w : World} {b : Nat} {v : Value} (hB : CBox b [v] w) : (loadVar 4 ⟨b, 0, none⟩).run Try.prog w = .ok v w := by
  have ha : (isAgg 4).run Try.prog w = .ok false w := by kernel_rfl
  have hc := hB.1 0 v rfl
  simp [loadVar, ha, go_sem, hc]

theorem load_cell {P : Program} {w : World} {b i : Nat} {t : TypeId} {v : Value} (hc : w.cell? ⟨b, i, none⟩ = some v) (ha : (isAgg t).run P w = .ok false w) : (Instr.loadAt t (.pointer (some ⟨b, i, none⟩))).run P w = .ok v w := by
  simp [Instr.loadAt, Instr.sureAddr, loadVar, ha, go_sem, hc]
theorem h_store4 {o : Oper} {a : Act} {w : World} {K : Act → World → Prop} {Q : Exit → Act → World → Prop} {x y : Operand} (ho : o.op = .store 4 x y) (b : Nat) (hx : a.eval x = .pointer (some ⟨b, 0, none⟩)) {v : Value} (u : Bool) (hy : a.eval y = .bool u) (hB : CBox b [v] w)
    (h : ∀ w', CBox b [.bool u] w' → But b w w' → K (a.put o.dst undef) w') : Wrp (Oper.wp Try.prog o a w K Q) := ⟨by
  have hc := hB.1 0 v rfl
  have hz := hB.2 0
  have e0 : (Instr.storeAt 4 (.pointer (some ⟨b, 0, none⟩)) (.bool u)).run Try.prog w = .ok () (w.setCell ⟨b, 0, none⟩ (.bool u)) := by simp [go_sem, hc, hz]
  have e1 : (execOp a.eval o).run Try.prog w = .ok .skip (w.setCell ⟨b, 0, none⟩ (.bool u)) := by
    simp only [execOp, ho, hx, hy, Sem.run_bind, e0, Result.andThen_ok, Sem.run_pure]
  unfold Oper.wp
  rw [e1]
  exact h _ (hB.one 0 (.bool u)) ((But.refl _ _).set 0 _)⟩

theorem h_lenS {o : Oper} {a : Act} {w : World} {K : Act → World → Prop} {Q : Exit → Act → World → Prop} {x : Operand} (ho : o.op = .call { callee := .builtin .len, args := #[x], argTypes := #[9] }) {s : ByteArray} (hx : a.eval x = .string s) (hK : K (a.put o.dst (.int .i64 (s.size : Int))) w) : Wrp (o.wp Try.prog a w K Q) :=
  h_run (w' := w) (v := .int .i64 (s.size : Int)) (by generalize a.eval = f at hx; simp [execOp, ho, hx, go_sem, resolve, invoke, builtin]) hK
theorem h_sub {o : Oper} {a : Act} {w : World} {K : Act → World → Prop} {Q : Exit → Act → World → Prop} {x y : Operand} (ho : o.op = .binOp .sub 3 x y 3) {p q n : Int} (hx : a.eval x = .int .i64 p) (hy : a.eval y = .int .i64 q) (hn : IntKind.i64.wrap (p - q) = n) (hK : K (a.put o.dst (.int .i64 n)) w) : Wrp (o.wp Try.prog a w K Q) :=
  h_run (w' := w) (v := .int .i64 n) (by generalize a.eval = f at hx hy; subst hn; simp [execOp, ho, hx, hy, go_sem]) hK

theorem nth_drop (l : List UInt8) (i j : Nat) : nth (l.drop i) j = nth l (i + j) := by
  unfold nth
  simp only [List.getD_eq_getElem?_getD, List.getElem?_drop]

set_option maxHeartbeats 1000000 in
theorem ear_byte (b : Nat) (w : World) : ∀ (l : List UInt8), RBox b l w → Calls Try.prog 40 #[.pointer (some ⟨b, 0, none⟩)] w fun y w' => y = .returned (.int .i64 (i8 (nth l 0))) ∧ RBox b (l.drop 1) w' ∧ But b w w'
  | [], hB => by
    have HB : Hid (RBox b [] w) := hB
    obtain ⟨hc, hf⟩ := hB
    have hie : (bt []).toList.isEmpty = true := by rw [bt_list]; rfl
    go_enter Try.func40, Try.ntmps40
    go_wp2_with fail
    go_ret
    exact ⟨rfl, HB.out, But.refl _ _⟩
  | x :: r, hB => by
    have HB : Hid (RBox b (x :: r) w) := hB
    obtain ⟨hc, hf⟩ := hB
    have hs := bt_size (x :: r)
    have hie : (bt (x :: r)).toList.isEmpty = false := by rw [bt_list]; rfl
    have HX : Hid ((bt (x :: r)).extract 1 (r.length + 1) = bt r) := bt_drop (x :: r) 1
    have h0 := i8_lo x
    have h1 := i8_hi x
    go_enter Try.func40, Try.ntmps40
    go_wp2_with fail
    go_ret
    rw [HX.out]
    refine ⟨?_, HB.out.set, (But.refl _ _).set _ _⟩
    rw [bt_head]
    have : wrap64 (x.toNat : Int) = i8 x := by unfold i8 at *; unfold wrap64; omega
    rw [this]
    rfl
set_option maxHeartbeats 1000000 in
theorem ear_two (b : Nat) (l : List UInt8) (w : World) (hB : RBox b l w) : Calls Try.prog 41 #[.pointer (some ⟨b, 0, none⟩)] w fun y w' => y = .returned (.int .i64 (i8 (nth l 0) * 256 + i8 (nth l 1))) ∧ RBox b (l.drop 2) w' ∧ But b w w' := by
  have HB : Hid (RBox b l w) := hB
  clear hB
  have h0 := i8_lo (nth l 0)
  have h1 := i8_hi (nth l 0)
  have h2 := i8_lo (nth l 1)
  have h3 := i8_hi (nth l 1)
  have HC : Hid (∀ W, RBox b l W → Calls Try.prog 40 #[.pointer (some ⟨b, 0, none⟩)] W fun y w' => y = .returned (.int .i64 (i8 (nth l 0))) ∧ RBox b (l.drop 1) w' ∧ But b W w') := fun W h => ear_byte b W l h
  have HD : Hid (∀ W, RBox b (l.drop 1) W → Calls Try.prog 40 #[.pointer (some ⟨b, 0, none⟩)] W fun y w' => y = .returned (.int .i64 (i8 (nth l 1))) ∧ RBox b (l.drop 2) w' ∧ But b W w') := fun W h => by
    have := ear_byte b W (l.drop 1) h
    rw [nth_drop, List.drop_drop] at this
    exact this
  generalize i8 (nth l 0) = x at *
  generalize i8 (nth l 1) = z at *
  go_enter Try.func41, Try.ntmps41
  go_wp2_with fail
  refine (HC.out w HB.out).mono ?_
  rintro y w1 ⟨rfl, hB1, hb1⟩
  have HB1 : Hid (RBox b (l.drop 1) w1) := hB1
  have HK1 : Hid (But b w w1) := hb1
  clear hB1 hb1 HB HC
  go_wp2_with fail
  refine (HD.out w1 HB1.out).mono ?_
  rintro y w2 ⟨rfl, hB2, hb2⟩
  have HB2 : Hid (RBox b (l.drop 2) w2) := hB2
  have HK2 : Hid (But b w w2) := HK1.out.trans hb2
  have HM : Hid (256 * x + z = x * 256 + z) := by show _ = _; omega
  clear hB2 hb2 HB1 HD
  go_wp2_with fail
  go_ret
  first
    | exact ⟨rfl, HB2.out, HK2.out⟩
    | (rw [← HM.out]; exact ⟨rfl, HB2.out, HK2.out⟩)
theorem two_div {n : Int} (h0 : 0 ≤ n) : n.tdiv 256 = n / 256 ∧ n.tmod 256 = n % 256 := ⟨Int.tdiv_eq_ediv_of_nonneg h0, Int.tmod_eq_emod_of_nonneg h0⟩
set_option maxHeartbeats 1000000 in
theorem two_bytes (n : Int) (h0 : 0 ≤ n) (h1 : n ≤ 65535) (w : World) : Calls Try.prog 36 #[.int .i64 n] w fun y w' => ∃ b, y = .returned (.slice (some ⟨b, 0, none⟩) 2 2) ∧ (b < w'.heap.size ∧ ∀ j u, (byCells (wide n))[j]? = some u → w'.cell? ((⟨b, 0, none⟩ : Addr).add j) = some u) ∧ Keeps w w' ∧ w.heap.size ≤ b := by
  have e1 := wrap_b8 (n / 256)
  have e2 : IntKind.u8.wrap (n % 256) = i8 (b8 n) := by rw [wrap_b8, b8_mod]
  obtain ⟨d1, d2⟩ := two_div h0
  have HB : Hid (∀ w : World, ∀ t, ∀ j u, (byCells (wide n))[j]? = some u → (w.alloc (.cells #[.int .u8 (i8 (b8 (n / 256))), .int .u8 (i8 (b8 n))] t)).cell? ((⟨w.heap.size, 0, none⟩ : Addr).add j) = some u) := fun w t => new_bytes w (wide n) t
  go_enter Try.func36, Try.ntmps36
  go_wp2_with fail
  go_ret
  exact ⟨_, rfl, ⟨by simp, HB.out _ _⟩, (Keeps.refl _).alloc _, Nat.le_refl _⟩
theorem y_cell {ops : Array Oper} {S : World → Prop} {op : Oper} {a : Act} (hw : Region.wanted op (yielded ops a.tmps) = true) {x : Operand} (ho : op.op = .load 3 x) (b o : Nat) (hx : a.eval x = .pointer (some ⟨b, o, none⟩)) {v : Value} {cs : List Value} (hv : cs[o]? = some v) (hS : ∀ w, S w → CBox b cs w) : YieldsIf Try.prog ops S op v a :=
  .inl ⟨hw, fun w h => by
    have e := load_cell (P := Try.prog) (t := 3) ((hS w h).1 o v hv) (by kernel_rfl)
    unfold execOp
    simp only [ho, hx, Sem.run_bind, e, Result.andThen_ok, Sem.run_pure]⟩
theorem byte_built (n : Int) (w : World) : (Instr.buildSlice 55 1 #[(0, .int .u8 n)]).run Try.prog w = .ok (.slice (some ⟨w.heap.size, 0, none⟩) 1 1) (w.alloc (.cells #[.int .u8 n] 5)) := by kernel_rfl
theorem h_byte {o : Oper} {a : Act} {w : World} {K : Act → World → Prop} {Q : Exit → Act → World → Prop} {x : Operand} (base : Nat) (hb : base ≤ w.heap.size) (ho : o.op = .buildSlice 55 1 #[(0, x)]) {c : UInt8} (hx : a.eval x = .int .u8 (i8 c))
    (h : ∀ w' b, BOwn base w' (.slice (some ⟨b, 0, none⟩) 1 1) [c] → Keeps w w' → b < w'.heap.size → w.heap.size ≤ b → K (a.put o.dst (.slice (some ⟨b, 0, none⟩) 1 1)) w') : Wrp (o.wp Try.prog a w K Q) :=
  h_run (w' := w.alloc (.cells #[.int .u8 (i8 c)] 5)) (v := .slice (some ⟨w.heap.size, 0, none⟩) 1 1) (by
    have e := byte_built (i8 c) w
    simp only [execOp, ho]
    rw [show (#[(0, x)].map fun (i, x) => (i, a.eval x)) = #[(0, .int .u8 (i8 c))] by simp [hx]]
    simp only [Sem.run_bind, e, Result.andThen_ok, Sem.run_pure])
    (h _ w.heap.size ⟨rfl, .inr ⟨w.heap.size, 1, #[.int .u8 (i8 c)], rfl, hb, by simp only [World.alloc, Array.getElem?_push_size], Nat.le_refl _, by unfold maxLen; omega, rfl, rfl⟩⟩ ((Keeps.refl _).alloc _) (by simp) (Nat.le_refl _))
theorem BOwn.src {base : Nat} {w : World} {b n c : Nat} {N : List UInt8} (h : BOwn base w (.slice (some ⟨b, 0, none⟩) n c) N) : ∀ j u, (byCells N)[j]? = some u → w.cell? ((⟨b, 0, none⟩ : Addr).add j) = some u := by
  intro j u hu
  have hj : j < N.length := by
    have := (List.getElem?_eq_some_iff.1 hu).1
    rwa [byCells_len] at this
  obtain ⟨g, c', h1, h2⟩ := h.cells (by omega)
  injection h1 with h1 _ _
  injection h1 with h1
  injection h1 with h1 _ _
  subst h1
  rw [h2 j hj]
  rw [byCells_at hj] at hu
  exact hu
theorem BOwn.far {base : Nat} {w w' : World} {g n c : Nat} {N : List UInt8} (h : BOwn base w (.slice (some ⟨g, 0, none⟩) n c) N) (he : w'.heap[g]? = w.heap[g]?) : BOwn base w' (.slice (some ⟨g, 0, none⟩) n c) N := by
  rcases h.2 with ⟨h0, _⟩ | ⟨g', cap, cur, hv, hb, hg, h1⟩
  · cases h0
  · cases hv
    exact ⟨h.1, .inr ⟨g, _, cur, rfl, hb, by rw [he]; exact hg, h1⟩⟩
theorem grow_keep2 {w1 w2 w3 : World} {v v' : Value} {B : List UInt8} (hk : Keeps w1 w2) (hv : BOwn w1.heap.size w2 v B) (hg : GrowsTo w2 w3 v v') : Keeps w1 w3 := Below.trans hk (hg.below hv hk.size)
theorem src_keep {w w' : World} {b : Nat} {N : List UInt8} (h : ∀ j u, (byCells N)[j]? = some u → w.cell? ((⟨b, 0, none⟩ : Addr).add j) = some u) (hb : b < w.heap.size) (hk : Keeps w w') : ∀ j u, (byCells N)[j]? = some u → w'.cell? ((⟨b, 0, none⟩ : Addr).add j) = some u := fun j u hu => by
  rw [← h j u hu]
  have e : (⟨b, 0, none⟩ : Addr).add j = ⟨b, j, none⟩ := by unfold Addr.add; split <;> simp_all
  rw [e]
  exact World.cell?_of_block (hk.block b hb)

theorem bt_append (a b : List UInt8) : bt a ++ bt b = bt (a ++ b) := by
  unfold bt
  rw [ByteArray.mk_append_mk]
end Go.Proofs.Yteabfjpajgakiad

/- States as bytes (plain). -/
set_option linter.unusedSimpArgs false
set_option linter.unusedVariables false
set_option maxRecDepth 10000
namespace Go.Proofs.Yteabfjpajgakiad
open Go.RowKit

def repBs : List (Int × Int) → List UInt8
  | [] => []
  | (q, v) :: r => [b8 q] ++ wide (v + 1) ++ repBs r
def sesBs (s : Ses) : List UInt8 := [b8 s.client, b8 s.acked] ++ wide s.seen ++ [b8 (s.kept.length : Int)] ++ repBs s.kept
def tabBs : List Ses → List UInt8
  | [] => []
  | s :: r => sesBs s ++ tabBs r
def headBs (s : St) : List UInt8 := [b8 s.at_] ++ wide s.clock ++ wide s.v0 ++ wide s.v1 ++ wide s.v2 ++ wide s.v3 ++ [b8 (s.tab.length : Int)]
def stBs (s : St) : List UInt8 := headBs s ++ tabBs s.tab
def rdReps : Nat → List UInt8 → Option (List (Int × Int) × List UInt8)
  | 0, l => some ([], l)
  | n + 1, q :: h :: o :: r => (rdReps n r).map fun p => ((i8 q, i8 h * 256 + i8 o - 1) :: p.1, p.2)
  | _ + 1, _ => none
def rdSes : List UInt8 → Option (Ses × List UInt8)
  | c :: a :: h :: o :: n :: r => (rdReps n.toNat r).map fun p => (⟨i8 c, i8 a, i8 h * 256 + i8 o, p.1⟩, p.2)
  | _ => none
def rdTab : Nat → List UInt8 → Option (List Ses × List UInt8)
  | 0, l => some ([], l)
  | n + 1, l => match rdSes l with
    | some (s, r) => (rdTab n r).map fun p => (s :: p.1, p.2)
    | none => none
def rdSt : List UInt8 → Option (St × List UInt8)
  | a :: c1 :: c0 :: p1 :: p0 :: q1 :: q0 :: r1 :: r0 :: s1 :: s0 :: n :: r => (rdTab n.toNat r).map fun p => (⟨i8 a, i8 c1 * 256 + i8 c0, i8 p1 * 256 + i8 p0, i8 q1 * 256 + i8 q0, i8 r1 * 256 + i8 r0, i8 s1 * 256 + i8 s0, p.1⟩, p.2)
  | _ => none
theorem b8_nat (n : UInt8) : b8 (n.toNat : Int) = n := b8_i8 n
theorem rdReps_bytes : ∀ (n : Nat) (l : List UInt8) (x : List (Int × Int)) (r : List UInt8), rdReps n l = some (x, r) → x.length = n ∧ l = repBs x ++ r
  | 0, l, x, r, h => by
    simp only [rdReps, Option.some.injEq, Prod.mk.injEq] at h
    obtain ⟨rfl, rfl⟩ := h
    exact ⟨rfl, rfl⟩
  | n + 1, q :: h' :: o :: t, x, r, h => by
    simp only [rdReps, Option.map_eq_some_iff] at h
    obtain ⟨⟨x', r'⟩, h1, h2⟩ := h
    simp only [Prod.mk.injEq] at h2
    obtain ⟨rfl, rfl⟩ := h2
    obtain ⟨h3, h4⟩ := rdReps_bytes n t x' r' h1
    refine ⟨by rw [List.length_cons, h3], ?_⟩
    show q :: h' :: o :: t = ([b8 (i8 q)] ++ wide (i8 h' * 256 + i8 o - 1 + 1) ++ repBs x') ++ r'
    have e : i8 h' * 256 + i8 o - 1 + 1 = i8 h' * 256 + i8 o := by omega
    rw [e, wide_two, b8_i8, h4]
    rfl
  | n + 1, [], _, _, h => by cases h
  | n + 1, [_], _, _, h => by cases h
  | n + 1, [_, _], _, _, h => by cases h
theorem rdSes_bytes {l : List UInt8} {s : Ses} {r : List UInt8} (h : rdSes l = some (s, r)) : l = sesBs s ++ r := by
  match l, h with
  | c :: a :: h' :: o :: n :: t, h =>
    simp only [rdSes, Option.map_eq_some_iff] at h
    obtain ⟨⟨x', r'⟩, h1, h2⟩ := h
    simp only [Prod.mk.injEq] at h2
    obtain ⟨rfl, rfl⟩ := h2
    obtain ⟨h3, h4⟩ := rdReps_bytes _ _ _ _ h1
    show c :: a :: h' :: o :: n :: t = ([b8 (i8 c), b8 (i8 a)] ++ wide (i8 h' * 256 + i8 o) ++ [b8 (x'.length : Int)] ++ repBs x') ++ r'
    rw [wide_two, b8_i8, b8_i8, h3, b8_nat, h4]
    rfl
theorem rdTab_bytes : ∀ (n : Nat) (l : List UInt8) (x : List Ses) (r : List UInt8), rdTab n l = some (x, r) → x.length = n ∧ l = tabBs x ++ r
  | 0, l, x, r, h => by
    simp only [rdTab, Option.some.injEq, Prod.mk.injEq] at h
    obtain ⟨rfl, rfl⟩ := h
    exact ⟨rfl, rfl⟩
  | n + 1, l, x, r, h => by
    simp only [rdTab] at h
    split at h
    · rename_i s t hs
      simp only [Option.map_eq_some_iff] at h
      obtain ⟨⟨x', r'⟩, h1, h2⟩ := h
      simp only [Prod.mk.injEq] at h2
      obtain ⟨rfl, rfl⟩ := h2
      obtain ⟨h3, h4⟩ := rdTab_bytes n _ _ _ h1
      refine ⟨by rw [List.length_cons, h3], ?_⟩
      rw [rdSes_bytes hs, h4]
      show sesBs s ++ (tabBs x' ++ r') = (sesBs s ++ tabBs x') ++ r'
      rw [List.append_assoc]
    · cases h
theorem rdSt_bytes {l : List UInt8} {s : St} {r : List UInt8} (h : rdSt l = some (s, r)) : l = stBs s ++ r := by
  match l, h with
  | a :: c1 :: c0 :: p1 :: p0 :: q1 :: q0 :: r1 :: r0 :: s1 :: s0 :: n :: t, h =>
    simp only [rdSt, Option.map_eq_some_iff] at h
    obtain ⟨⟨x', r'⟩, h1, h2⟩ := h
    simp only [Prod.mk.injEq] at h2
    obtain ⟨rfl, rfl⟩ := h2
    obtain ⟨h3, h4⟩ := rdTab_bytes _ _ _ _ h1
    show _ = (([b8 (i8 a)] ++ wide (i8 c1 * 256 + i8 c0) ++ wide (i8 p1 * 256 + i8 p0) ++ wide (i8 q1 * 256 + i8 q0) ++ wide (i8 r1 * 256 + i8 r0) ++ wide (i8 s1 * 256 + i8 s0) ++ [b8 (x'.length : Int)]) ++ tabBs x') ++ r'
    simp only [wide_two, b8_i8, h3, b8_nat]
    rw [List.append_assoc, ← h4]
    rfl
/-- What there is to be read of it. -/
def repFit (k : List (Int × Int)) : Prop := ∀ p ∈ k, (0 ≤ p.1 ∧ p.1 < 256) ∧ 0 ≤ p.2 + 1 ∧ p.2 + 1 < 65536
def sesFit (s : Ses) : Prop := (0 ≤ s.client ∧ s.client < 256) ∧ (0 ≤ s.acked ∧ s.acked < 256) ∧ (0 ≤ s.seen ∧ s.seen < 65536) ∧ s.kept.length < 256 ∧ repFit s.kept
def stFit (s : St) : Prop := (0 ≤ s.at_ ∧ s.at_ < 256) ∧ (0 ≤ s.clock ∧ s.clock < 65536) ∧ (0 ≤ s.v0 ∧ s.v0 < 65536) ∧ (0 ≤ s.v1 ∧ s.v1 < 65536) ∧ (0 ≤ s.v2 ∧ s.v2 < 65536) ∧ (0 ≤ s.v3 ∧ s.v3 < 65536) ∧ s.tab.length < 256 ∧ ∀ o ∈ s.tab, sesFit o
theorem nat_b8 {n : Nat} (h : n < 256) : (b8 (n : Int)).toNat = n := by
  have := i8_b8 (n := (n : Int)) (by omega) (by omega)
  unfold i8 at this
  omega
theorem rdReps_of : ∀ (k : List (Int × Int)) (r : List UInt8), repFit k → rdReps k.length (repBs k ++ r) = some (k, r)
  | [], r, _ => rfl
  | (q, v) :: k, r, h => by
    obtain ⟨h1, h2, h3⟩ := h (q, v) (by simp)
    have ih := rdReps_of k r (fun p hp => h p (by simp [hp]))
    show (rdReps k.length (repBs k ++ r)).map (fun p => ((i8 (b8 q), i8 (b8 ((v + 1) / 256)) * 256 + i8 (b8 (v + 1)) - 1) :: p.1, p.2)) = _
    rw [ih, i8_b8 h1.1 h1.2, two_wide h2 h3]
    have e : v + 1 - 1 = v := by omega
    show some ((q, v + 1 - 1) :: k, r) = _
    rw [e]
theorem rdSes_of (s : Ses) (r : List UInt8) (h : sesFit s) : rdSes (sesBs s ++ r) = some (s, r) := by
  obtain ⟨h1, h2, h3, h4, h5⟩ := h
  show (rdReps (b8 (s.kept.length : Int)).toNat (repBs s.kept ++ r)).map (fun p => ((⟨i8 (b8 s.client), i8 (b8 s.acked), i8 (b8 (s.seen / 256)) * 256 + i8 (b8 s.seen), p.1⟩ : Ses), p.2)) = _
  rw [nat_b8 h4, rdReps_of _ _ h5, i8_b8 h1.1 h1.2, i8_b8 h2.1 h2.2, two_wide h3.1 h3.2]
  rfl
theorem rdTab_of : ∀ (L : List Ses) (r : List UInt8), (∀ o ∈ L, sesFit o) → rdTab L.length (tabBs L ++ r) = some (L, r)
  | [], r, _ => rfl
  | s :: L, r, h => by
    have ih := rdTab_of L r (fun o ho => h o (by simp [ho]))
    have e : tabBs (s :: L) ++ r = sesBs s ++ (tabBs L ++ r) := by show (sesBs s ++ tabBs L) ++ r = _; rw [List.append_assoc]
    rw [e]
    simp only [List.length_cons, rdTab, rdSes_of s _ (h s (by simp)), ih]
    rfl
theorem rdSt_of (s : St) (r : List UInt8) (h : stFit s) : rdSt (stBs s ++ r) = some (s, r) := by
  obtain ⟨h1, h2, h3, h4, h5, h6, h7, h8⟩ := h
  have e : stBs s ++ r = headBs s ++ (tabBs s.tab ++ r) := by unfold stBs; rw [List.append_assoc]
  rw [e]
  show (rdTab (b8 (s.tab.length : Int)).toNat (tabBs s.tab ++ r)).map (fun p => ((⟨i8 (b8 s.at_), i8 (b8 (s.clock / 256)) * 256 + i8 (b8 s.clock), i8 (b8 (s.v0 / 256)) * 256 + i8 (b8 s.v0), i8 (b8 (s.v1 / 256)) * 256 + i8 (b8 s.v1), i8 (b8 (s.v2 / 256)) * 256 + i8 (b8 s.v2), i8 (b8 (s.v3 / 256)) * 256 + i8 (b8 s.v3), p.1⟩ : St), p.2)) = _
  rw [nat_b8 h7, rdTab_of _ _ h8, i8_b8 h1.1 h1.2, two_wide h2.1 h2.2, two_wide h3.1 h3.2, two_wide h4.1 h4.2, two_wide h5.1 h5.2, two_wide h6.1 h6.2]
  rfl
theorem kept_fit : ∀ (k : List (Int × Int)) (hi lo : Int), 0 ≤ lo → hi ≤ 60 → keptOk hi lo k = true → repFit k ∧ (k.length : Int) ≤ hi - lo + 1 ∨ k = []
  | [], _, _, _, _, _ => .inr rfl
  | (q, v) :: r, hi, lo, h0, h1, h => by
    left
    simp only [keptOk, Bool.and_eq_true] at h
    obtain ⟨⟨a, b⟩, c⟩ := h
    have a := inB_iff.1 a
    have b := inB_iff.1 b
    have ih := kept_fit r hi (q + 1) (by omega) h1 c
    have hr : repFit r := by
      rcases ih with ih | ih
      · exact ih.1
      · rw [ih]; intro p hp; cases hp
    have hl : (r.length : Int) ≤ hi - q := by
      rcases ih with ih | ih
      · have := ih.2; omega
      · rw [ih]; simp; omega
    refine ⟨fun p hp => ?_, by rw [List.length_cons]; push_cast; omega⟩
    rcases List.mem_cons.1 hp with rfl | hp
    · exact ⟨⟨by omega, by omega⟩, by omega, by omega⟩
    · exact hr p hp
theorem ses_fit {s : Ses} (h : sesErr s = 0) : sesFit s ∧ s.kept.length ≤ 3 := by
  unfold sesErr at h
  split at h
  · cases h
  · rename_i h1
    split at h
    · cases h
    · rename_i h2
      simp only [Bool.not_eq_true', Bool.not_eq_false', Bool.not_eq_true, Bool.not_eq_false, Bool.and_eq_true] at h1 h2
      obtain ⟨⟨a, b⟩, c⟩ := h1
      have a := inB_iff.1 a
      have b := inB_iff.1 b
      have c := inB_iff.1 c
      rcases kept_fit s.kept _ _ (by omega) (by omega) h2 with ⟨k1, k2⟩ | k
      · have : s.kept.length ≤ 3 := by omega
        exact ⟨⟨⟨by omega, by omega⟩, ⟨by omega, by omega⟩, ⟨by omega, by omega⟩, by omega, k1⟩, this⟩
      · rw [k]
        exact ⟨⟨⟨by omega, by omega⟩, ⟨by omega, by omega⟩, ⟨by omega, by omega⟩, by rw [k]; decide, by rw [k]; intro p hp; cases hp⟩, by decide⟩
theorem first_fit : ∀ (L : List Ses), firstErr L = 0 → ∀ o ∈ L, sesFit o ∧ o.kept.length ≤ 3
  | [], _, _, ho => by cases ho
  | s :: r, h, o, ho => by
    simp only [firstErr] at h
    split at h
    · rename_i h1
      rcases List.mem_cons.1 ho with rfl | ho
      · exact ses_fit (by simpa using h1)
      · exact first_fit r h o ho
    · rename_i h1
      simp [h] at h1
theorem st_fit {s : St} (h : stErr s = 0) : stFit s ∧ s.tab.length ≤ 3 ∧ ∀ o ∈ s.tab, o.kept.length ≤ 3 := by
  unfold stErr at h
  split at h
  · rename_i hi
    split at h
    · rename_i ht
      have ht : tabErr s.tab = 0 := by simpa using ht
      unfold tabErr at ht
      split at ht
      · cases ht
      · rename_i h3
        have hf : firstErr s.tab = 0 := by
          split at ht
          · rename_i hq; simpa using hq
          · exact ht
        have hfit := first_fit s.tab hf
        simp only [stIn, valsIn, Bool.and_eq_true] at hi
        obtain ⟨⟨a, b, c, d⟩, e, f⟩ := hi
        have a := inB_iff.1 a
        have b := inB_iff.1 b
        have c := inB_iff.1 c
        have d := inB_iff.1 d
        have e := inB_iff.1 e
        have f := inB_iff.1 f
        refine ⟨⟨⟨by omega, by omega⟩, ⟨by omega, by omega⟩, ⟨by omega, by omega⟩, ⟨by omega, by omega⟩, ⟨by omega, by omega⟩, ⟨by omega, by omega⟩, by omega, fun o ho => (hfit o ho).1⟩, by omega, fun o ho => (hfit o ho).2⟩
    · rename_i ht
      rw [h] at ht
      simp at ht
  · cases h
theorem repBs_len : ∀ (k : List (Int × Int)), (repBs k).length = 3 * k.length
  | [] => rfl
  | (q, v) :: r => by
    show ([b8 q] ++ wide (v + 1) ++ repBs r).length = 3 * (r.length + 1)
    rw [List.length_append, repBs_len r]
    simp [wide]
    omega
theorem sesBs_len (s : Ses) : (sesBs s).length = 5 + 3 * s.kept.length := by
  unfold sesBs
  rw [List.length_append, repBs_len]
  simp [wide]
theorem tabBs_len : ∀ (L : List Ses), (∀ o ∈ L, o.kept.length ≤ 3) → (tabBs L).length ≤ 14 * L.length
  | [], _ => Nat.le_refl _
  | s :: r, h => by
    show (sesBs s ++ tabBs r).length ≤ 14 * (r.length + 1)
    rw [List.length_append, sesBs_len]
    have := h s (by simp)
    have := tabBs_len r (fun o ho => h o (by simp [ho]))
    omega
theorem stBs_len {s : St} (h : stErr s = 0) : (stBs s).length ≤ 54 := by
  obtain ⟨_, h1, h2⟩ := st_fit h
  have := tabBs_len s.tab h2
  unfold stBs
  rw [List.length_append]
  have : (headBs s).length = 12 := by simp [headBs, wide]
  omega
/-- The right state of which these are the bytes. -/
def snOf (l : List UInt8) : Option St :=
  match rdSt l with
  | some (s, []) => if stErr s == 0 then some s else none
  | _ => none
theorem snOf_some {l : List UInt8} {s : St} (h : snOf l = some s) : stErr s = 0 ∧ l = stBs s := by
  unfold snOf at h
  split at h
  · rename_i t hr
    split at h
    · rename_i h0
      injection h with h
      subst h
      have := rdSt_bytes hr
      rw [List.append_nil] at this
      exact ⟨by simpa using h0, this⟩
    · cases h
  · cases h
theorem snOf_of {s : St} (h : stErr s = 0) : snOf (stBs s) = some s := by
  unfold snOf
  have := rdSt_of s [] (st_fit h).1
  rw [List.append_nil] at this
  rw [this]
  simp [h]
end Go.Proofs.Yteabfjpajgakiad

/- snap.putSession. -/
set_option linter.unusedSimpArgs false
set_option linter.unusedVariables false
set_option maxRecDepth 10000
namespace Go.Proofs.Yteabfjpajgakiad
open Go.RowKit

theorem SesBox.same {b : Nat} {s : Ses} {k : Value} {w w' : World} (h : SesBox b s k w) (he : w'.heap[b]? = w.heap[b]?) : SesBox b s k w' :=
  ⟨(World.cell?_of_block he).trans h.c0, (World.cell?_of_block he).trans h.c1, (World.cell?_of_block he).trans h.c2, (World.cell?_of_block he).trans h.c3, fun i => (World.frozen?_of_block he).trans (h.fz i)⟩
theorem repBs_succ : ∀ (k : List (Int × Int)) (i : Nat) (h : i < k.length), repBs (k.take (i + 1)) = repBs (k.take i) ++ ([b8 k[i].1] ++ wide (k[i].2 + 1))
  | (q, v) :: r, 0, _ => by
    show [b8 q] ++ wide (v + 1) ++ repBs [] = [] ++ ([b8 q] ++ wide (v + 1))
    rw [List.nil_append]
    exact List.append_nil _
  | (q, v) :: r, i + 1, h => by
    have ih := repBs_succ r i (by simpa using h)
    show [b8 q] ++ wide (v + 1) ++ repBs (r.take (i + 1)) = ([b8 q] ++ wide (v + 1) ++ repBs (r.take i)) ++ _
    rw [ih, List.append_assoc]
    rfl

set_option maxHeartbeats 4000000 in
theorem put_session {w0 : World} (B : List UInt8) (v : Value) (o : Ses) (ka : Option Addr) (kc : Nat) (w : World) (hk : Keeps w0 w) (hv : BOwn w0.heap.size w v B) (hK : KeptAt w0 (.slice ka o.kept.length kc) o.kept) (hfit : sesFit o) (hlen : B.length ≤ 50000) :
    Calls Try.prog 32 #[v, sesV o (.slice ka o.kept.length kc)] w fun y w' => ∃ v', y = .returned v' ∧ BOwn w0.heap.size w' v' (B ++ sesBs o) ∧ Keeps w0 w' := by
  have HKP : Hid (KeptAt w0 (.slice ka o.kept.length kc) o.kept) := hK
  have HK : Hid (Keeps w0 w) := hk
  have HV : Hid (BOwn w0.heap.size w v B) := hv
  have HF : Hid (repFit o.kept) := hfit.2.2.2.2
  have hkl := hfit.2.2.2.1
  clear hK hk hv hfit
  obtain ⟨w1, hw1⟩ : ∃ z, z = w.alloc (.cells #[.int .i64 o.client, .int .i64 o.acked, .int .i64 o.seen, .slice ka o.kept.length kc] 59) := ⟨_, rfl⟩
  have HB1 : Hid (SesBox w.heap.size o (.slice ka o.kept.length kc) w1) := by rw [hw1]; exact SesBox.new w o _ _
  have k1 : Keeps w w1 := by rw [hw1]; exact (Keeps.refl _).alloc _
  have HO1 : Hid (BOwn w0.heap.size w1 v B) := HV.out.keep k1
  have HG1 : Hid (GrowsTo w1 w1 v v) := GrowsTo.refl _ _
  have HZ1 : Hid (w0.heap.size ≤ w1.heap.size) := (HK.out.trans k1).size
  have HKK : Hid (Keeps w0 w1) := HK.out.trans k1
  have HSB : Hid (w.heap.size < w1.heap.size ∧ v.ownBlock ≠ some w.heap.size) := ⟨HB1.out.lt, fun h => by have := (HV.out.own h).2; omega⟩
  have HOV : Hid (BOwn w0.heap.size w1 v B) := HO1.out
  have HKW : Hid (∀ W v', GrowsTo w1 W v v' → Keeps w0 W) := fun W v' hg => Below.trans HKK.out (hg.below HOV.out HKK.out.size)
  have HSW : Hid (∀ W v', GrowsTo w1 W v v' → SesBox w.heap.size o (.slice ka o.kept.length kc) W) := fun W v' hg => HB1.out.same (hg.grown.block _ HSB.out.1 (fun e => HSB.out.2 e.symm))
  go_enter Try.func32, Try.ntmps32
  have hsz1 : w1.heap.size = w.heap.size + 1 := by rw [hw1]; simp
  go_wp2_with fail
  rw [← hw1, ← hsz1]
  clear hw1 hsz1 k1
  refine (small_c w0.heap.size (B) v [o.client, o.acked] w1.heap.size _ (Nat.le_trans HZ1.out (by simp)) (HO1.out.keep ((Keeps.refl _).alloc _)) (new_nums w1 [o.client, o.acked] _) (by simp) (fun h => by have := (HO1.out.own h).2; omega) (by simp [wide]; omega)).mono ?_
  rintro y w2 ⟨v2, rfl, hO, hG⟩
  have HO2 : Hid (BOwn w0.heap.size w2 v2 (B ++ [b8 o.client, b8 o.acked])) := by
    have hO := hO
    simp only [List.map_cons, List.map_nil, wides, List.append_nil] at hO
    exact hO
  have HG2 : Hid (GrowsTo w1 w2 v v2) := (HG1.out.trans (GrowsTo.of _ ((Keeps.refl _).alloc _))).trans hG
  have HZ2 : Hid (w0.heap.size ≤ w2.heap.size) := Nat.le_trans HZ1.out (Nat.le_trans (by simp) hG.grown.size)
  clear hO hG HO1 HG1 HZ1
  have c0 := (HSW.out w2 _ HG2.out).c0
  have c1 := (HSW.out w2 _ HG2.out).c1
  have c2 := (HSW.out w2 _ HG2.out).c2
  have c3 := (HSW.out w2 _ HG2.out).c3
  go_wp2_with fail
  refine (wide_c w0.heap.size (B ++ [b8 o.client, b8 o.acked]) v2 [o.seen] w2.heap.size _ (Nat.le_trans HZ2.out (by simp)) (HO2.out.keep ((Keeps.refl _).alloc _)) (new_nums w2 [o.seen] _) (by simp) (fun h => by have := (HO2.out.own h).2; omega) (by simp [wide]; omega)).mono ?_
  rintro y w3 ⟨v3, rfl, hO, hG⟩
  have HO3 : Hid (BOwn w0.heap.size w3 v3 (B ++ [b8 o.client, b8 o.acked] ++ wide o.seen)) := by
    have hO := hO
    simp only [List.map_cons, List.map_nil, wides, List.append_nil] at hO
    exact hO
  have HG3 : Hid (GrowsTo w1 w3 v v3) := (HG2.out.trans (GrowsTo.of _ ((Keeps.refl _).alloc _))).trans hG
  have HZ3 : Hid (w0.heap.size ≤ w3.heap.size) := Nat.le_trans HZ2.out (Nat.le_trans (by simp) hG.grown.size)
  clear hO hG HO2 HG2 HZ2
  clear c0 c1 c2 c3
  have c0 := (HSW.out w3 _ HG3.out).c0
  have c1 := (HSW.out w3 _ HG3.out).c1
  have c2 := (HSW.out w3 _ HG3.out).c2
  have c3 := (HSW.out w3 _ HG3.out).c3
  go_wp2_with fail
  refine (small_c w0.heap.size (B ++ [b8 o.client, b8 o.acked] ++ wide o.seen) v3 [(o.kept.length : Int)] w3.heap.size _ (Nat.le_trans HZ3.out (by simp)) (HO3.out.keep ((Keeps.refl _).alloc _)) (new_nums w3 [(o.kept.length : Int)] _) (by simp) (fun h => by have := (HO3.out.own h).2; omega) (by simp [wide]; omega)).mono ?_
  rintro y w4 ⟨v4, rfl, hO, hG⟩
  have HO4 : Hid (BOwn w0.heap.size w4 v4 (B ++ [b8 o.client, b8 o.acked] ++ wide o.seen ++ [b8 (o.kept.length : Int)])) := by
    have hO := hO
    simp only [List.map_cons, List.map_nil, wides, List.append_nil] at hO
    exact hO
  have HG4 : Hid (GrowsTo w1 w4 v v4) := (HG3.out.trans (GrowsTo.of _ ((Keeps.refl _).alloc _))).trans hG
  have HZ4 : Hid (w0.heap.size ≤ w4.heap.size) := Nat.le_trans HZ3.out (Nat.le_trans (by simp) hG.grown.size)
  clear hO hG HO3 HG3 HZ3
  clear c0 c1 c2 c3
  have c0 := (HSW.out w4 _ HG4.out).c0
  have c1 := (HSW.out w4 _ HG4.out).c1
  have c2 := (HSW.out w4 _ HG4.out).c2
  have c3 := (HSW.out w4 _ HG4.out).c3
  have HB0 : Hid (repBs (o.kept.take 0) = []) := by show _ = _; rw [List.take_zero]; rfl
  go_wp2_with fail
  go_loopw [0, 28] (fun b i wr => ∃ (k : Nat), k ≤ o.kept.length ∧ i = .int .i64 k ∧ Hid (BOwn w0.heap.size wr b (B ++ [b8 o.client, b8 o.acked] ++ wide o.seen ++ [b8 (o.kept.length : Int)] ++ repBs (o.kept.take k))) ∧ Hid (GrowsTo w1 wr v b)) (fun _ i _ => o.kept.length - (intOf i).toNat)
  case atStart => exact ⟨0, Nat.zero_le _, rfl, by rw [HB0.out, List.append_nil]; exact HO4.out, HG4⟩
  case round =>
    obtain ⟨k, hk, rfl, HO, HG⟩ := hrel
    by_cases hlt : k < o.kept.length
    · obtain ⟨b1, o1, p1, hv1, _, hcs⟩ := (HKP.out.keep (HKW.out wr _ HG.out)).at hlt
      obtain ⟨d0, d1⟩ := hcs k hlt
      injection hv1 with hv1 ea eb
      subst hv1
      clear ea eb hcs
      have HS : Hid (repBs (o.kept.take (k + 1)) = repBs (o.kept.take k) ++ ([b8 o.kept[k].1] ++ wide (o.kept[k].2 + 1))) := repBs_succ o.kept k hlt
      obtain ⟨_, f1, f2⟩ := HF.out o.kept[k] (List.getElem_mem hlt)
      obtain ⟨BX, hBX⟩ : ∃ z, z = B ++ [b8 o.client, b8 o.acked] ++ wide o.seen ++ [b8 (o.kept.length : Int)] ++ repBs (o.kept.take k) := ⟨_, rfl⟩
      have hBL : BX.length ≤ 51000 := by
        rw [hBX]
        simp only [List.length_append, repBs_len, List.length_take, List.length_cons, List.length_nil, wide]
        omega
      have HS2 : Hid (BX ++ [b8 o.kept[k].1] ++ wide (o.kept[k].2 + 1) = B ++ [b8 o.client, b8 o.acked] ++ wide o.seen ++ [b8 (o.kept.length : Int)] ++ repBs (o.kept.take (k + 1))) := by
        show _ = _
        rw [HS.out, hBX]
        simp only [List.append_assoc]
      have HO5 : Hid (BOwn w0.heap.size (wr.alloc (.cells #[.int .i64 o.kept[k].1, .int .i64 o.kept[k].2] 66)) u0 BX) := by
        show BOwn _ _ _ _
        rw [hBX]
        exact HO.out.keep ((Keeps.refl _).alloc _)
      have HOW : Hid (∀ j, u0.ownBlock = some j → j < wr.heap.size) := fun j h => (HO.out.own h).2
      clear hBX HO HS
      generalize o.kept[k] = p at *
      obtain ⟨q, x⟩ := p
      obtain ⟨w5, hw5⟩ : ∃ z, z = wr.alloc (.cells #[.int .i64 q, .int .i64 x] 66) := ⟨_, rfl⟩
      have hsz5 : w5.heap.size = wr.heap.size + 1 := by rw [hw5]; simp
      have HQ5 : Hid (CBox wr.heap.size [.int .i64 q, .int .i64 x] w5) := by rw [hw5]; exact CBox.new wr [.int .i64 q, .int .i64 x] 66
      have k5 : Keeps wr w5 := by rw [hw5]; exact (Keeps.refl _).alloc _
      have HG5 : Hid (GrowsTo w1 w5 v u0) := HG.out.trans (GrowsTo.of _ k5)
      have HZ5 : Hid (w0.heap.size ≤ w5.heap.size) := Nat.le_trans (HKW.out wr _ HG.out).size k5.size
      rw [← hw5] at HO5
      go_wp2_with fail
      rw [← hw5, ← hsz5]
      clear hw5 k5 HG
      refine (small_c w0.heap.size BX u0 [q] w5.heap.size _ (Nat.le_trans HZ5.out (by simp)) (HO5.out.keep ((Keeps.refl _).alloc _)) (new_nums w5 [q] _) (by simp) (fun h => by have := (HO5.out.own h).2; omega) (by simp [wide]; omega)).mono ?_
      rintro y w6 ⟨v6, rfl, hO, hG⟩
      have HO6 : Hid (BOwn w0.heap.size w6 v6 (BX ++ [b8 q])) := by
        have hO := hO
        simp only [List.map_cons, List.map_nil, wides, List.append_nil] at hO
        exact hO
      have HG6 : Hid (GrowsTo w1 w6 v v6) := (HG5.out.trans (GrowsTo.of _ ((Keeps.refl _).alloc _))).trans hG
      have HZ6 : Hid (w0.heap.size ≤ w6.heap.size) := Nat.le_trans HZ5.out (Nat.le_trans (by simp) hG.grown.size)
      have x1 : w6.cell? ⟨wr.heap.size, 1, none⟩ = some (.int .i64 x) := (World.cell?_of_block (hG.grown.block wr.heap.size (by simp; omega) (fun e => by have := HOW.out _ e.symm; omega))).trans ((HQ5.out.keep ((Keeps.refl _).alloc _)).1 1 _ rfl)
      clear hO hG HO5 HG5 HZ5
      have hx1 : (BX ++ [b8 q]).length ≤ 51001 := by simp; omega
      go_wp2_with fail
      refine (wide_c w0.heap.size (BX ++ [b8 q]) v6 [x + 1] w6.heap.size _ (Nat.le_trans HZ6.out (by simp)) (HO6.out.keep ((Keeps.refl _).alloc _)) (new_nums w6 [x + 1] _) (by simp) (fun h => by have := (HO6.out.own h).2; omega) (by rw [List.length_cons, List.length_nil]; omega)).mono ?_
      rintro y w7 ⟨v7, rfl, hO, hG⟩
      have HO7 : Hid (BOwn w0.heap.size w7 v7 (BX ++ [b8 q] ++ wide (x + 1))) := by
        have hO := hO
        simp only [List.map_cons, List.map_nil, wides, List.append_nil] at hO
        exact hO
      have HG7 : Hid (GrowsTo w1 w7 v v7) := (HG6.out.trans (GrowsTo.of _ ((Keeps.refl _).alloc _))).trans hG
      have HZ7 : Hid (w0.heap.size ≤ w7.heap.size) := Nat.le_trans HZ6.out (Nat.le_trans (by simp) hG.grown.size)
      clear hO hG HO6 HG6 HZ6
      go_wp2_with fail
      go_roundw
      case rel => exact ⟨k + 1, by omega, by go_num, by rw [← HS2.out]; exact HO7.out, HG7⟩
      case measure => simp [intOf]; omega
    · have e : k = o.kept.length := by omega
      subst e
      have hO := HO.out
      rw [List.take_length] at hO
      have hO2 : BOwn w0.heap.size wr u0 (B ++ sesBs o) := by
        unfold sesBs
        rw [← List.append_assoc, ← List.append_assoc, ← List.append_assoc]
        exact hO
      go_wp2_with fail
      go_ret
      exact ⟨_, rfl, hO2, HKW.out wr _ HG.out⟩
end Go.Proofs.Yteabfjpajgakiad

/- snap.readReply, list of replies. -/
set_option linter.unusedSimpArgs false
set_option linter.unusedVariables false
set_option maxRecDepth 10000
namespace Go.Proofs.Yteabfjpajgakiad
open Go.RowKit

def PanE (y : Ending) : Prop := ∃ u pv, y = .panicked [{ v := .iface u pv, recovered := false }]
theorem zero61 : (Try.prog.info? 66).map (·.zero) = some (some (.agg [Value.int .i64 0, .int .i64 0].toArray)) := by kernel_rfl
theorem size61 : (Try.prog.info? 66).map (·.size) = some 2 := by kernel_rfl
theorem row61 : ∃ d, Try.prog.underlying 66 = some d ∧ d.isRow = true := ⟨_, Try.underlying66, rfl⟩
theorem infoRp : (Try.prog.info? 66).map (fun i => (i.zero, i.size, i.bytes)) = some (some (.agg #[.int .i64 0, .int .i64 0]), 2, 16) := by kernel_rfl
section
variable {ops : Array Oper} {rest : List Oper} {op : Oper} {a : Act} {w : World} {Q : Exit → Act → World → Prop}
theorem alloc61 (hgd : op.guard = none) (ho : op.op = .alloc 66)
    (h : ∀ (w' : World) (b : Nat), CBox b [.int .i64 0, .int .i64 0] w' → Keeps w w' → b < w'.heap.size → w.heap.size ≤ b → wpList Try.prog ops Q rest (a.put op.dst (.pointer (some ⟨b, 0, none⟩))) w') : wpList Try.prog ops Q (op :: rest) a w := wpList_alloc_new hgd _ ho _ _ zero61 rfl h
theorem store61 (hgd : op.guard = none) {x y : Operand} (ho : op.op = .store 66 x y) (b : Nat) (hx : a.eval x = .pointer (some ⟨b, 0, none⟩)) {u v : Value} (p q : Int) (hy : a.eval y = .agg #[.int .i64 p, .int .i64 q]) (hB : CBox b [u, v] w)
    (h : ∀ w', CBox b [.int .i64 p, .int .i64 q] w' → But b w w' → wpList Try.prog ops Q rest (a.put op.dst undef) w') : wpList Try.prog ops Q (op :: rest) a w :=
  wpList_store_box hgd _ x y ho b 0 [.int .i64 p, .int .i64 q] hx hy hB _ rfl (Nat.le_of_ble_eq_true rfl) (info_size size61 rfl) (by kernel_rfl) h
end
theorem read61 {w : World} {b : Nat} {p q : Int} (hB : CBox b [.int .i64 p, .int .i64 q] w) : (loadVar 66 ⟨b, 0, none⟩).run Try.prog w = .ok (.agg #[.int .i64 p, .int .i64 q]) w := by
  obtain ⟨d, h1, h2⟩ := row61
  exact read_box hB _ d h1 h2 (info_size size61 rfl)

set_option maxHeartbeats 2000000 in
theorem rep_some (b : Nat) (q h o : UInt8) (r : List UInt8) (w : World) (hB : RBox b (q :: h :: o :: r) w) : Calls Try.prog 95 #[.pointer (some ⟨b, 0, none⟩)] w fun y w' => y = .returned (.agg #[.int .i64 (i8 q), .int .i64 (i8 h * 256 + i8 o - 1)]) ∧ RBox b r w' ∧ But b w w' := by
  have HB : Hid (RBox b (q :: h :: o :: r) w) := hB
  clear hB
  have h0 := i8_lo h
  have h1 := i8_hi h
  have o0 := i8_lo o
  have o1 := i8_hi o
  go_enter Try.func95, Try.ntmps95
  go_wp2_with (first | (refine alloc61 rfl rfl ?_; intro w0 ob hBo hko hlo hgo))
  have HR0 : Hid (RBox b (q :: h :: o :: r) w0) := HB.out.keep hko
  have HO0 : Hid (CBox ob [.int .i64 0, .int .i64 0] w0) := hBo
  have HT0 : Hid (But b w w0) := But.of hko
  have HOG : Hid (w.heap.size ≤ ob) := hgo
  have HOB : Hid (ob ≠ b) := fun e => by have := HB.out.lt; omega
  clear hBo hko hlo hgo HB
  refine (reader_some b q (h :: o :: r) w0 HR0.out).mono ?_
  rintro y w1 ⟨rfl, hR, hb⟩
  have HR1 : Hid (RBox b (h :: o :: r) w1) := hR
  have HO1 : Hid (CBox ob [.int .i64 0, .int .i64 0] w1) := HO0.out.other hb HOB.out
  have HT1 : Hid (But b w w1) := HT0.out.trans hb
  clear hR hb HR0 HO0 HT0
  go_wp2_with fail
  refine (readerW_some b h o r w1 HR1.out).mono ?_
  rintro y w2 ⟨rfl, hR, hb⟩
  have HR2 : Hid (RBox b r w2) := hR
  have HO2 : Hid (CBox ob [.int .i64 0, .int .i64 0] w2) := HO1.out.other hb HOB.out
  have HT2 : Hid (But b w w2) := HT1.out.trans hb
  clear hR hb HR1 HO1 HT1
  go_wp2_with (first | (refine store61 rfl rfl ob rfl (i8 q) (i8 h * 256 + i8 o - 1) rfl HO2.out ?_; intro w3 hS hT))
  refine bodyPost_ret (results1 Try.results95 rfl (read61 hS)) rfl ?_
  exact ⟨rfl, HR2.out.other hT (fun e => HOB.out e.symm), But.far HT2.out HOG.out hT⟩
set_option maxHeartbeats 2000000 in
theorem rep_none (b : Nat) (w : World) : ∀ (l : List UInt8), l.length < 3 → RBox b l w → Calls Try.prog 95 #[.pointer (some ⟨b, 0, none⟩)] w fun y w' => PanE y ∧ But b w w'
  | [], _, hB => by
    have HB : Hid (RBox b [] w) := hB
    clear hB
    go_enter Try.func95, Try.ntmps95
    go_wp2_with (first | (refine alloc61 rfl rfl ?_; intro w0 ob hBo hko hlo hgo))
    refine (reader_none b w0 (HB.out.keep hko)).mono ?_
    rintro y w1 ⟨⟨u, pv, rfl⟩, _, hb⟩
    exact ⟨rfl, ⟨_, _, rfl⟩, (But.of hko).trans hb⟩
  | q :: t, hl, hB => by
    have HB : Hid (RBox b (q :: t) w) := hB
    have hl2 : t.length < 2 := by rw [List.length_cons] at hl; omega
    clear hB hl
    go_enter Try.func95, Try.ntmps95
    go_wp2_with (first | (refine alloc61 rfl rfl ?_; intro w0 ob hBo hko hlo hgo))
    have HT0 : Hid (But b w w0) := But.of hko
    refine (reader_some b q t w0 (HB.out.keep hko)).mono ?_
    rintro y w1 ⟨rfl, hR, hb⟩
    have HR1 : Hid (RBox b t w1) := hR
    have HT1 : Hid (But b w w1) := HT0.out.trans hb
    clear hR hb HT0 hBo hko hlo hgo HB
    go_wp2_with fail
    refine (readerW_none b w1 t hl2 HR1.out).mono ?_
    rintro y w2 ⟨⟨u, pv, rfl⟩, hb⟩
    exact ⟨rfl, ⟨_, _, rfl⟩, HT1.out.trans hb⟩
def ROwn (base : Nat) (w : World) (v : Value) (x : List (Int × Int)) : Prop := w.ownsRow base 66 2 v x.length (repCells x)
theorem ROwn.nil {base : Nat} {w : World} : ROwn base w (.slice none 0 0) [] := ⟨rfl, .inl ⟨rfl, rfl⟩⟩
theorem ROwn.own {base : Nat} {w : World} {v : Value} {x : List (Int × Int)} (h : ROwn base w v x) {k : Nat} (hk : v.ownBlock = some k) : base ≤ k := by
  rcases h.2 with ⟨rfl, _⟩ | ⟨g, cap, cur, rfl, hb, hg, _⟩
  · cases hk
  · have e : g = k := by simpa [Value.ownBlock] using hk
    subst e
    exact hb
theorem repCells_app : ∀ (a b : List (Int × Int)), repCells (a ++ b) = repCells a ++ repCells b
  | [], _ => rfl
  | (q, v) :: r, b => by
    show _ :: _ :: repCells (r ++ b) = _ :: _ :: (repCells r ++ repCells b)
    rw [repCells_app r b]
theorem app_rep {ops : Array Oper} {rest : List Oper} {o : Oper} {a : Act} {Q : Exit → Act → World → Prop} {base : Nat} {w : World} (hk : base ≤ w.heap.size) (hg : o.guard = none) (s x : Operand) (hop : o.op = .call { callee := .builtin .append, args := #[s, x], argTypes := #[57, 57] })
    (v : Value) (N : List (Int × Int)) (hs : a.eval s = v) (hown : ROwn base w v N) (p q : Int) (b : Nat) (hx : a.eval x = .slice (some ⟨b, 0, none⟩) 1 1) (h0 : w.cell? ⟨b, 0, none⟩ = some (.int .i64 p)) (h1 : w.cell? ⟨b, 1, none⟩ = some (.int .i64 q)) (hlen : N.length ≤ 1000)
    (h : ∀ v' w', ROwn base w' v' (N ++ [(p, q)]) → w.grownBy w' v.ownBlock → wpList Try.prog ops Q rest (a.put o.dst v') w') : wpList Try.prog ops Q (o :: rest) a w := by
  have hX : RowAt w 2 (.slice (some ⟨b, 0, none⟩) 1 1) 1 (repCells [(p, q)]) := by
    refine ⟨rfl, by unfold maxLen; simp, .inr ⟨_, _, rfl, fun j u hu => ?_⟩⟩
    match j, hu with
    | 0, hu => cases hu; exact h0
    | 1, hu => cases hu; exact h1
  obtain ⟨v', w', hr, h2, h3⟩ := run_append_read w base 57 o.type 66 2 16 _ infoRp Try.underlying57 rfl (by decide) v N.length (repCells N) hown _ 1 (repCells [(p, q)]) hX (by simp [repCells, Value.oneCell']) (by unfold maxLen; omega) (by omega) hk
  refine wpList_append_run hg s x 57 hop hs hx hr (h v' w' ?_ h3)
  unfold ROwn
  rw [List.length_append, repCells_app]
  exact h2
end Go.Proofs.Yteabfjpajgakiad

/- snap's list of replies, readSession. -/
set_option linter.unusedSimpArgs false
set_option linter.unusedVariables false
set_option maxRecDepth 10000
namespace Go.Proofs.Yteabfjpajgakiad
open Go.RowKit

def rdList (l : List UInt8) : Option (List (Int × Int) × List UInt8) :=
  match l with
  | [] => none
  | n :: t => rdReps n.toNat t
def RepsOut (base b : Nat) (R : Option (List (Int × Int) × List UInt8)) (y : Ending) (w' : World) : Prop :=
  match R with
  | some (x, r) => ∃ a c, ROwn base w' (.slice a x.length c) x ∧ y = .returned (.slice a x.length c) ∧ RBox b r w'
  | none => PanE y
theorem rdReps_zero (l : List UInt8) : rdReps 0 l = some ([], l) := by cases l <;> rfl
theorem rdReps_short {n : Nat} : ∀ {l : List UInt8}, l.length < 3 → rdReps (n + 1) l = none
  | [], _ => rfl
  | [_], _ => rfl
  | [_, _], _ => rfl
  | _ :: _ :: _ :: _, h => absurd h (by simp)
/-- A block and what is new. -/
structure Writes (b base : Nat) (w w' : World) : Prop where
  os : w'.os = w.os
  tape : w'.tape = w.tape
  output : w'.output = w.output
  size : w.heap.size ≤ w'.heap.size
  block : ∀ k, k < base → k ≠ b → w'.heap[k]? = w.heap[k]?
theorem Writes.refl (b base : Nat) (w : World) : Writes b base w w := ⟨rfl, rfl, rfl, Nat.le_refl _, fun _ _ _ => rfl⟩
theorem Writes.trans {b base : Nat} {x y z : World} (h : Writes b base x y) (k : Writes b base y z) : Writes b base x z :=
  ⟨k.os.trans h.os, k.tape.trans h.tape, k.output.trans h.output, Nat.le_trans h.size k.size, fun i hi hb => (k.block i hi hb).trans (h.block i hi hb)⟩
theorem Writes.of {b base : Nat} {x y : World} (h : But b x y) (hb : base ≤ x.heap.size) : Writes b base x y := ⟨h.os, h.tape, h.output, h.size, fun k hk hne => h.block k (Nat.lt_of_lt_of_le hk hb) hne⟩
theorem Writes.grown {b base : Nat} {x y : World} {v : Value} (h : x.grownBy y v.ownBlock) (hb : base ≤ x.heap.size) (hv : ∀ k, v.ownBlock = some k → base ≤ k) : Writes b base x y :=
  ⟨h.os, h.tape, h.output, h.size, fun k hk _ => h.block k (Nat.lt_of_lt_of_le hk hb) (fun e => by have := hv k e.symm; omega)⟩
theorem Writes.but {b : Nat} {x y : World} (h : Writes b x.heap.size x y) : But b x y := ⟨h.os, h.tape, h.output, h.size, h.block⟩
theorem RBox.grown {b base : Nat} {l : List UInt8} {w w' : World} {v : Value} (h : RBox b l w) (hg : w.grownBy w' v.ownBlock) (hb : b < base) (hv : ∀ k, v.ownBlock = some k → base ≤ k) : RBox b l w' := h.same (hg.block b h.lt (fun e => by have := hv b e.symm; omega))
theorem ROwn.but {b base : Nat} {w w' : World} {v : Value} {x : List (Int × Int)} (h : ROwn base w v x) (hb : b < base) (hk : But b w w') : ROwn base w' v x := owns_far h hb hk

set_option maxHeartbeats 4000000 in
theorem list_reps (b : Nat) (l : List UInt8) (w : World) (hB : RBox b l w) : Calls Try.prog 94 #[.pointer (some ⟨b, 0, none⟩), .func (.func 95) #[] #[]] w fun y w' => RepsOut w.heap.size b (rdList l) y w' ∧ But b w w' := by
  have HB : Hid (RBox b l w) := hB
  have hbl := hB.lt
  clear hB
  match l, HB with
  | [], HB =>
    go_enter Try.func94, Try.ntmps94
    go_wp2_with fail
    refine (reader_none b w HB.out).mono ?_
    rintro y w1 ⟨⟨u, pv, rfl⟩, _, hb⟩
    exact ⟨rfl, ⟨_, _, rfl⟩, hb⟩
  | c :: t, HB =>
    have HR : Hid (rdList (c :: t) = rdReps c.toNat t) := rfl
    have c0 := i8_lo c
    have c1 := i8_hi c
    have HC : Hid (i8 c = (c.toNat : Int)) := rfl
    generalize rdList (c :: t) = R at *
    go_enter Try.func94, Try.ntmps94
    go_wp2_with fail
    refine (reader_some b c t w HB.out).mono ?_
    rintro y w1 ⟨rfl, hR1, hb⟩
    rw [HC.out]
    have hn256 : c.toNat < 256 := UInt8.toNat_lt c
    clear c0 c1 HC
    generalize c.toNat = n at *
    have HR1 : Hid (RBox b t w1) := hR1
    have HT1 : Hid (Writes b w.heap.size w w1) := Writes.of hb (Nat.le_refl _)
    clear hR1 hb HB
    go_wp2_with fail
    go_loopw [5, 8] (fun o i wr => ∃ (k : Nat) (xs : List (Int × Int)) (t' : List UInt8) (oa : Option Addr) (oc : Nat), k ≤ n ∧ o = .slice oa xs.length oc ∧ Hid (xs.length = k) ∧ i = .int .i64 k ∧ Hid (ROwn w.heap.size wr o xs) ∧ Hid (RBox b t' wr) ∧ Hid (R = (rdReps (n - k) t').map fun p => (xs ++ p.1, p.2)) ∧ Hid (Writes b w.heap.size w wr)) (fun _ i _ => n - (intOf i).toNat)
    case atStart => exact ⟨0, [], t, none, 0, Nat.zero_le _, rfl, rfl, rfl, ROwn.nil, HR1, by show _ = _; rw [HR.out]; simp, HT1⟩
    case round =>
      obtain ⟨k, xs, t', oa, oc, hk, rfl, HXL, rfl, HO, HRB, HEQ, HT⟩ := hrel
      by_cases hlt : k < n
      · have HN : Hid (n - k = (n - (k + 1)) + 1) := by show _ = _; omega
        by_cases h3 : t'.length < 3
        · have hnone : R = none := by rw [HEQ.out, HN.out, rdReps_short h3]; rfl
          go_wp2_with fail
          refine (rep_none b wr t' h3 HRB.out).mono ?_
          rintro y w2 ⟨⟨u, pv, rfl⟩, hb⟩
          subst hnone
          exact ⟨rfl, ⟨_, _, rfl⟩, (HT.out.trans (Writes.of hb HT.out.size)).but⟩
        · match t', h3, HRB, HEQ with
          | [], h3, _, _ => exact absurd (by simp) h3
          | [_], h3, _, _ => exact absurd (by simp) h3
          | [_, _], h3, _, _ => exact absurd (by simp) h3
          | q :: h :: o :: r, _, HRB, HEQ =>
            have HEQ2 : Hid (R = (rdReps (n - (k + 1)) r).map fun p => ((xs ++ [(i8 q, i8 h * 256 + i8 o - 1)]) ++ p.1, p.2)) := by
              show _ = _
              rw [HEQ.out, HN.out]
              simp only [rdReps, Option.map_map]
              congr 1
              funext p
              simp
            go_wp2_with fail
            refine (rep_some b q h o r wr HRB.out).mono ?_
            rintro y w2 ⟨rfl, hR2, hb⟩
            have HR2 : Hid (RBox b r w2) := hR2
            have HT2 : Hid (Writes b w.heap.size w w2) := HT.out.trans (Writes.of hb HT.out.size)
            have HO2 : Hid (ROwn w.heap.size w2 (.slice oa xs.length oc) xs) := HO.out.but hbl hb
            clear hR2 hb HT HO HRB HEQ
            generalize i8 q = q' at *
            generalize i8 h * 256 + i8 o - 1 = z' at *
            go_wp2_with (first | (refine app_rep (base := w.heap.size) (Nat.le_trans HT2.out.size (by simp)) rfl _ _ rfl (.slice oa xs.length oc) xs rfl (owns_keep HO2.out ((Keeps.refl _).alloc _)) q' z' w2.heap.size rfl (by simp) (by simp) (by have := HXL.out; omega) ?_; intro v3 w3 hO3 hg3))
            obtain ⟨oa3, oc3, hv3, _⟩ := RowAt.len (RowAt.of_owns hO3)
            have HR3 : Hid (RBox b r w3) := (HR2.out.keep ((Keeps.refl _).alloc _)).grown hg3 hbl (fun k e => HO2.out.own e)
            have HT3 : Hid (Writes b w.heap.size w w3) := (HT2.out.trans (Writes.of (But.of ((Keeps.refl _).alloc _)) HT2.out.size)).trans (Writes.grown hg3 (Nat.le_trans HT2.out.size (by simp)) (fun k e => HO2.out.own e))
            go_roundw
            case rel => exact ⟨k + 1, xs ++ [(q', z')], r, oa3, oc3, by omega, hv3, by show _ = _; rw [List.length_append, HXL.out]; rfl, by go_num, hO3, HR3, HEQ2, HT3⟩
            case measure => simp [intOf]; omega
      · have hsome : R = some (xs, t') := by
          have : n - k = 0 := by omega
          rw [HEQ.out, this, rdReps_zero]
          simp
        subst hsome
        go_wp2_with fail
        go_ret
        exact ⟨⟨oa, oc, HO.out, rfl, HRB.out⟩, HT.out.but⟩
end Go.Proofs.Yteabfjpajgakiad

/- snap.readSession. -/
set_option linter.unusedSimpArgs false
set_option linter.unusedVariables false
set_option maxRecDepth 10000
namespace Go.Proofs.Yteabfjpajgakiad
open Go.RowKit

def SesOut (base b : Nat) (R : Option (Ses × List UInt8)) (y : Ending) (w' : World) : Prop :=
  match R with
  | some (s, r) => ∃ a c, ROwn base w' (.slice a s.kept.length c) s.kept ∧ y = .returned (sesV s (.slice a s.kept.length c)) ∧ RBox b r w'
  | none => PanE y
theorem rdSes_four (c a h o : UInt8) (t : List UInt8) : rdSes (c :: a :: h :: o :: t) = (rdList t).map fun p => (⟨i8 c, i8 a, i8 h * 256 + i8 o, p.1⟩, p.2) := by cases t <;> rfl
def S4 (s : Ses) (k : Value) : List Value := [.int .i64 s.client, .int .i64 s.acked, .int .i64 s.seen, k]
def zSes : Ses := ⟨0, 0, 0, []⟩
theorem zero59 : (Try.prog.info? 59).map (·.zero) = some (some (.agg (S4 zSes (.slice none 0 0)).toArray)) := by kernel_rfl
theorem size59 : (Try.prog.info? 59).map (·.size) = some 4 := by kernel_rfl
theorem row59 : ∃ d, Try.prog.underlying 59 = some d ∧ d.isRow = true := ⟨_, Try.underlying59, rfl⟩
section
variable {ops : Array Oper} {rest : List Oper} {op : Oper} {a : Act} {w : World} {Q : Exit → Act → World → Prop}
theorem alloc59 (hgd : op.guard = none) (ho : op.op = .alloc 59)
    (h : ∀ (w' : World) (b : Nat), CBox b (S4 zSes (.slice none 0 0)) w' → Keeps w w' → b < w'.heap.size → w.heap.size ≤ b → wpList Try.prog ops Q rest (a.put op.dst (.pointer (some ⟨b, 0, none⟩))) w') : wpList Try.prog ops Q (op :: rest) a w := wpList_alloc_new hgd _ ho _ _ zero59 rfl h
theorem store59 (hgd : op.guard = none) {x y : Operand} (ho : op.op = .store 59 x y) (b : Nat) (hx : a.eval x = .pointer (some ⟨b, 0, none⟩)) {t : Ses} {k : Value} (s : Ses) (ka : Option Addr) (kn kc : Nat) (hy : a.eval y = sesV s (.slice ka kn kc)) (hB : CBox b (S4 t k) w)
    (h : ∀ w', CBox b (S4 s (.slice ka kn kc)) w' → But b w w' → wpList Try.prog ops Q rest (a.put op.dst undef) w') : wpList Try.prog ops Q (op :: rest) a w :=
  wpList_store_box hgd _ x y ho b 0 (S4 s (.slice ka kn kc)) hx hy hB _ rfl (Nat.le_of_ble_eq_true rfl) (info_size size59 rfl) (by kernel_rfl) h
end
theorem read59 {w : World} {b : Nat} {s : Ses} {k : Value} (hB : CBox b (S4 s k) w) : (loadVar 59 ⟨b, 0, none⟩).run Try.prog w = .ok (sesV s k) w := by
  obtain ⟨d, h1, h2⟩ := row59
  exact read_box hB _ d h1 h2 (info_size size59 rfl)
theorem ROwn.base {base base' : Nat} {w : World} {v : Value} {x : List (Int × Int)} (h : ROwn base w v x) (hb : base' ≤ base) : ROwn base' w v x := owns_base h hb

set_option maxHeartbeats 4000000 in
theorem read_session (b : Nat) (w : World) : ∀ (l : List UInt8), RBox b l w → Calls Try.prog 82 #[.pointer (some ⟨b, 0, none⟩)] w fun y w' => SesOut w.heap.size b (rdSes l) y w' ∧ But b w w'
  | [], hB => by
    have HB : Hid (RBox b [] w) := hB
    clear hB
    have HR : Hid (rdSes [] = none) := rfl
    go_enter Try.func82, Try.ntmps82
    go_wp2_with (first | (refine alloc59 rfl rfl ?_; intro w0 ob hBo hko hlo hgo))
    refine (reader_none b w0 (HB.out.keep hko)).mono ?_
    rintro y w1 ⟨⟨u, pv, rfl⟩, _, hb⟩
    exact ⟨rfl, ⟨_, _, rfl⟩, (But.of hko).trans hb⟩
  | [c], hB => by
    have HB : Hid (RBox b [c] w) := hB
    clear hB
    go_enter Try.func82, Try.ntmps82
    go_wp2_with (first | (refine alloc59 rfl rfl ?_; intro w0 ob hBo hko hlo hgo))
    refine (reader_some b c [] w0 (HB.out.keep hko)).mono ?_
    rintro y w1 ⟨rfl, hR, hb⟩
    have HR1 : Hid (RBox b [] w1) := hR
    have HT1 : Hid (But b w w1) := (But.of hko).trans hb
    clear hR hb hBo hko hlo hgo HB
    go_wp2_with fail
    refine (reader_none b w1 HR1.out).mono ?_
    rintro y w2 ⟨⟨u, pv, rfl⟩, _, hb⟩
    exact ⟨rfl, ⟨_, _, rfl⟩, HT1.out.trans hb⟩
  | c :: a :: t, hB => by
    have HB : Hid (RBox b (c :: a :: t) w) := hB
    clear hB
    obtain ⟨R, HR⟩ : ∃ R, Hid (R = rdSes (c :: a :: t)) := ⟨_, rfl⟩
    rw [← HR.out]
    go_enter Try.func82, Try.ntmps82
    go_wp2_with (first | (refine alloc59 rfl rfl ?_; intro w0 ob hBo hko hlo hgo))
    have HO0 : Hid (CBox ob (S4 zSes (.slice none 0 0)) w0) := hBo
    have HOG : Hid (w.heap.size ≤ ob) := hgo
    have HOB : Hid (ob ≠ b) := fun e => by have := HB.out.lt; omega
    refine (reader_some b c (a :: t) w0 (HB.out.keep hko)).mono ?_
    rintro y w1 ⟨rfl, hR, hb⟩
    have HR1 : Hid (RBox b (a :: t) w1) := hR
    have HT1 : Hid (But b w w1) := (But.of hko).trans hb
    have HO1 : Hid (CBox ob (S4 zSes (.slice none 0 0)) w1) := HO0.out.other hb HOB.out (Nat.le_of_ble_eq_true rfl)
    clear hR hb hBo hko hlo hgo HB HO0
    go_wp2_with fail
    refine (reader_some b a t w1 HR1.out).mono ?_
    rintro y w2 ⟨rfl, hR, hb⟩
    have HR2 : Hid (RBox b t w2) := hR
    have HT2 : Hid (But b w w2) := HT1.out.trans hb
    have HO2 : Hid (CBox ob (S4 zSes (.slice none 0 0)) w2) := HO1.out.other hb HOB.out (Nat.le_of_ble_eq_true rfl)
    clear hR hb HR1 HT1 HO1
    go_wp2_with fail
    by_cases h2 : t.length < 2
    · have hn : R = none := by
        rw [HR.out]
        match t, h2 with
        | [], _ => rfl
        | [_], _ => rfl
      subst hn
      refine (readerW_none b w2 t h2 HR2.out).mono ?_
      rintro y w3 ⟨⟨u, pv, rfl⟩, hb⟩
      exact ⟨rfl, ⟨_, _, rfl⟩, HT2.out.trans hb⟩
    · obtain ⟨h, o, t', rfl⟩ : ∃ h o t', t = h :: o :: t' := by
        match t, h2 with
        | [], h2 => exact absurd (by simp) h2
        | [_], h2 => exact absurd (by simp) h2
        | h :: o :: t', _ => exact ⟨h, o, t', rfl⟩
      have HR0 : Hid (R = (rdList t').map fun p => ((⟨i8 c, i8 a, i8 h * 256 + i8 o, p.1⟩ : Ses), p.2)) := HR.out.trans (rdSes_four c a h o t')
      clear HR
      refine (readerW_some b h o t' w2 HR2.out).mono ?_
      rintro y w3 ⟨rfl, hR, hb⟩
      have HR3 : Hid (RBox b t' w3) := hR
      have HT3 : Hid (But b w w3) := HT2.out.trans hb
      have HO3 : Hid (CBox ob (S4 zSes (.slice none 0 0)) w3) := HO2.out.other hb HOB.out (Nat.le_of_ble_eq_true rfl)
      clear hR hb HR2 HT2 HO2
      go_wp2_with fail
      refine (list_reps b t' w3 HR3.out).mono ?_
      rintro y w4 ⟨hout, hb⟩
      cases hL : rdList t' with
      | none =>
        rw [hL] at hout HR0
        obtain ⟨u, pv, rfl⟩ := hout
        have hn : R = none := HR0.out
        subst hn
        exact ⟨rfl, ⟨_, _, rfl⟩, HT3.out.trans hb⟩
      | some p =>
        obtain ⟨x, r⟩ := p
        rw [hL] at hout HR0
        obtain ⟨ka, kc, hK, rfl, hR4⟩ := hout
        have HR4 : Hid (RBox b r w4) := hR4
        have HT4 : Hid (But b w w4) := HT3.out.trans hb
        have HO4 : Hid (CBox ob (S4 zSes (.slice none 0 0)) w4) := HO3.out.other hb HOB.out (Nat.le_of_ble_eq_true rfl)
        have HK4 : Hid (ROwn w3.heap.size w4 (.slice ka x.length kc) x) := hK
        have HOL : Hid (ob < w3.heap.size) := HO3.out.lt (Nat.le_of_ble_eq_true rfl)
        have hn : R = some (⟨i8 c, i8 a, i8 h * 256 + i8 o, x⟩, r) := HR0.out
        have HZ : Hid (w.heap.size ≤ w3.heap.size) := HT3.out.size
        subst hn
        clear hK hb hR4 HR3 HT3 HO3 HR0 hL
        go_wp2_with (first | (refine store59 rfl rfl ob rfl ⟨i8 c, i8 a, i8 h * 256 + i8 o, x⟩ ka x.length kc rfl HO4.out ?_; intro w5 hS hT))
        refine bodyPost_ret (results1 Try.results82 rfl (read59 hS)) rfl ?_
        exact ⟨⟨ka, kc, (HK4.out.but HOL.out hT).base HZ.out, rfl, HR4.out.other hT (fun e => HOB.out e.symm)⟩, But.far HT4.out HOG.out hT⟩
end Go.Proofs.Yteabfjpajgakiad

/- snap's list of sessions. -/
set_option linter.unusedSimpArgs false
set_option linter.unusedVariables false
set_option maxRecDepth 10000
namespace Go.Proofs.Yteabfjpajgakiad
open Go.RowKit

def rdTabL (l : List UInt8) : Option (List Ses × List UInt8) :=
  match l with
  | [] => none
  | n :: t => rdTab n.toNat t
def TabOut (base b : Nat) (R : Option (List Ses × List UInt8)) (y : Ending) (w' : World) : Prop :=
  match R with
  | some (x, r) => ∃ a c, OwnTab base w' (.slice a x.length c) x ∧ y = .returned (.slice a x.length c) ∧ RBox b r w'
  | none => PanE y
theorem rdTab_zero (l : List UInt8) : rdTab 0 l = some ([], l) := by cases l <;> rfl
theorem rdTab_none {n : Nat} {l : List UInt8} (h : rdSes l = none) : rdTab (n + 1) l = none := by simp only [rdTab, h]
theorem rdTab_some {n : Nat} {l r : List UInt8} {s : Ses} (h : rdSes l = some (s, r)) : rdTab (n + 1) l = (rdTab n r).map fun p => (s :: p.1, p.2) := by simp only [rdTab, h]
theorem OwnTab.len {base : Nat} {w : World} {v : Value} {L : List Ses} (h : OwnTab base w v L) : ∃ a c, v = .slice a L.length c := by
  obtain ⟨ks, _, h2⟩ := h
  obtain ⟨a, c, h, _⟩ := RowAt.len (RowAt.of_owns h2)
  exact ⟨a, c, h⟩
theorem OwnTab.own {base : Nat} {w : World} {v : Value} {L : List Ses} (h : OwnTab base w v L) {k : Nat} (hk : v.ownBlock = some k) : base ≤ k := by
  obtain ⟨ks, _, h2⟩ := h
  exact (h2.lt k hk).1
theorem app_ses {ops : Array Oper} {rest : List Oper} {o : Oper} {a : Act} {Q : Exit → Act → World → Prop} {base : Nat} {w : World} (hb : base ≤ w.heap.size) (hg : o.guard = none) (s x : Operand) (hop : o.op = .call { callee := .builtin .append, args := #[s, x], argTypes := #[23, 23] })
    (v : Value) (L : List Ses) (hs : a.eval s = v) (hown : OwnTab base w v L) (t : Ses) (kv xv : Value) (hx : a.eval x = xv) (hK : ROwn base w kv t.kept) (hX : RowAt w 4 xv [t].length (sesCells [t] [kv])) (hlen : L.length ≤ 1000)
    (h : ∀ v' w', OwnTab base w' v' (L ++ [t]) → w.grownBy w' v.ownBlock → wpList Try.prog ops Q rest (a.put o.dst v') w') : wpList Try.prog ops Q (o :: rest) a w := by
  obtain ⟨ks, h1, h2⟩ := hown
  have hM : KeptsOwn base w [t] [kv] := ⟨hK, trivial⟩
  obtain ⟨v', w', hr, ho, hgr⟩ := run_append_read w base 23 o.type 59 4 48 _ infoSes Try.underlying23 rfl (by decide) v L.length _ h2 xv [t].length _ hX (sesCells_one [t] [kv] hM.at.one) (by unfold maxLen; simp; omega) (by simp; omega) hb
  refine wpList_append_run hg s x 23 hop hs hx hr (h v' w' ⟨ks ++ [kv], (h1.kept h2 hgr).append (hM.kept h2 hgr), ?_⟩ hgr)
  rw [sesCells_append _ _ _ _ h1.len, List.length_append]
  exact ho

set_option maxHeartbeats 4000000 in
theorem list_tab (b : Nat) (l : List UInt8) (w : World) (hB : RBox b l w) : Calls Try.prog 81 #[.pointer (some ⟨b, 0, none⟩), .func (.func 82) #[] #[]] w fun y w' => TabOut w.heap.size b (rdTabL l) y w' ∧ But b w w' := by
  have HB : Hid (RBox b l w) := hB
  have hbl := hB.lt
  clear hB
  match l, HB with
  | [], HB =>
    go_enter Try.func81, Try.ntmps81
    go_wp2_with fail
    refine (reader_none b w HB.out).mono ?_
    rintro y w1 ⟨⟨u, pv, rfl⟩, _, hb⟩
    exact ⟨rfl, ⟨_, _, rfl⟩, hb⟩
  | c :: t, HB =>
    have HR : Hid (rdTabL (c :: t) = rdTab c.toNat t) := rfl
    have HC : Hid (i8 c = (c.toNat : Int)) := rfl
    generalize rdTabL (c :: t) = R at *
    go_enter Try.func81, Try.ntmps81
    go_wp2_with fail
    refine (reader_some b c t w HB.out).mono ?_
    rintro y w1 ⟨rfl, hR1, hb⟩
    rw [HC.out]
    have hn256 : c.toNat < 256 := UInt8.toNat_lt c
    clear HC
    generalize c.toNat = n at *
    have HR1 : Hid (RBox b t w1) := hR1
    have HT1 : Hid (Writes b w.heap.size w w1) := Writes.of hb (Nat.le_refl _)
    clear hR1 hb HB
    go_wp2_with fail
    go_loopw [5, 8] (fun o i wr => ∃ (k : Nat) (xs : List Ses) (t' : List UInt8) (oa : Option Addr) (oc : Nat), k ≤ n ∧ o = .slice oa xs.length oc ∧ Hid (xs.length = k) ∧ i = .int .i64 k ∧ Hid (OwnTab w.heap.size wr o xs) ∧ Hid (RBox b t' wr) ∧ Hid (R = (rdTab (n - k) t').map fun p => (xs ++ p.1, p.2)) ∧ Hid (Writes b w.heap.size w wr)) (fun _ i _ => n - (intOf i).toNat)
    case atStart => exact ⟨0, [], t, none, 0, Nat.zero_le _, rfl, rfl, rfl, OwnTab.nil _ _, HR1, by show _ = _; rw [HR.out]; simp, HT1⟩
    case round =>
      obtain ⟨k, xs, t', oa, oc, hk, rfl, HXL, rfl, HO, HRB, HEQ, HT⟩ := hrel
      by_cases hlt : k < n
      · have HN : Hid (n - k = (n - (k + 1)) + 1) := by show _ = _; omega
        go_wp2_with fail
        refine (read_session b wr t' HRB.out).mono ?_
        rintro y w2 ⟨hout, hb⟩
        cases hS : rdSes t' with
        | none =>
          rw [hS] at hout
          obtain ⟨u, pv, rfl⟩ := hout
          have hnone : R = none := by rw [HEQ.out, HN.out, rdTab_none hS]; rfl
          subst hnone
          exact ⟨rfl, ⟨_, _, rfl⟩, (HT.out.trans (Writes.of hb HT.out.size)).but⟩
        | some p =>
          obtain ⟨s, r⟩ := p
          rw [hS] at hout
          obtain ⟨ka, kc, hK, rfl, hR2⟩ := hout
          have HEQ2 : Hid (R = (rdTab (n - (k + 1)) r).map fun p => ((xs ++ [s]) ++ p.1, p.2)) := by
            show _ = _
            rw [HEQ.out, HN.out, rdTab_some hS, Option.map_map]
            congr 1
            funext p
            simp
          have HR2 : Hid (RBox b r w2) := hR2
          have HT2 : Hid (Writes b w.heap.size w w2) := HT.out.trans (Writes.of hb HT.out.size)
          have HO2 : Hid (OwnTab w.heap.size w2 (.slice oa xs.length oc) xs) := HO.out.but hbl hb
          have HK2 : Hid (ROwn w.heap.size w2 (.slice ka s.kept.length kc) s.kept) := hK.base HT.out.size
          clear hR2 hb hK HT HO HRB HEQ hS
          go_wp2_with (first | (refine app_ses (base := w.heap.size) (Nat.le_trans HT2.out.size (by simp)) rfl _ _ rfl (.slice oa xs.length oc) xs rfl (HO2.out.keep ((Keeps.refl _).alloc _)) s (.slice ka s.kept.length kc) _ rfl (owns_keep HK2.out ((Keeps.refl _).alloc _)) (row_one w2 s (.slice ka s.kept.length kc)) (by have := HXL.out; omega) ?_; intro v3 w3 hO3 hg3))
          obtain ⟨oa3, oc3, hv3⟩ := hO3.len
          have HR3 : Hid (RBox b r w3) := (HR2.out.keep ((Keeps.refl _).alloc _)).grown hg3 hbl (fun k e => HO2.out.own e)
          have HT3 : Hid (Writes b w.heap.size w w3) := (HT2.out.trans (Writes.of (But.of ((Keeps.refl _).alloc _)) HT2.out.size)).trans (Writes.grown hg3 (Nat.le_trans HT2.out.size (by simp)) (fun k e => HO2.out.own e))
          go_roundw
          case rel => exact ⟨k + 1, xs ++ [s], r, oa3, oc3, by omega, hv3, by show _ = _; rw [List.length_append, HXL.out]; rfl, by go_num, hO3, HR3, HEQ2, HT3⟩
          case measure => simp [intOf]; omega
      · have hsome : R = some (xs, t') := by
          have : n - k = 0 := by omega
          rw [HEQ.out, this, rdTab_zero]
          simp
        subst hsome
        go_wp2_with fail
        go_ret
        exact ⟨⟨oa, oc, HO.out, rfl, HRB.out⟩, HT.out.but⟩
end Go.Proofs.Yteabfjpajgakiad

/- snap.readState. -/
set_option linter.unusedSimpArgs false
set_option linter.unusedVariables false
set_option maxRecDepth 10000
namespace Go.Proofs.Yteabfjpajgakiad
open Go.RowKit

def C7 (s : St) (p : Value) : List Value := [.int .i64 s.at_, .int .i64 s.clock, .int .i64 s.v0, .int .i64 s.v1, .int .i64 s.v2, .int .i64 s.v3, p]
def z7 : St := ⟨0, 0, 0, 0, 0, 0, []⟩
theorem zero25 : (Try.prog.info? 25).map (·.zero) = some (some (.agg (C7 z7 (.slice none 0 0)).toArray)) := by kernel_rfl
theorem size25 : (Try.prog.info? 25).map (·.size) = some 7 := by kernel_rfl
theorem row25 : ∃ d, Try.prog.underlying 25 = some d ∧ d.isRow = true := ⟨_, Try.underlying25, rfl⟩
section
variable {ops : Array Oper} {rest : List Oper} {op : Oper} {a : Act} {w : World} {Q : Exit → Act → World → Prop}
theorem alloc25 (hgd : op.guard = none) (ho : op.op = .alloc 25)
    (h : ∀ (w' : World) (b : Nat), CBox b (C7 z7 (.slice none 0 0)) w' → Keeps w w' → b < w'.heap.size → w.heap.size ≤ b → wpList Try.prog ops Q rest (a.put op.dst (.pointer (some ⟨b, 0, none⟩))) w') : wpList Try.prog ops Q (op :: rest) a w := wpList_alloc_new hgd _ ho _ _ zero25 rfl h
theorem store25 (hgd : op.guard = none) {x y : Operand} (ho : op.op = .store 25 x y) (b : Nat) (hx : a.eval x = .pointer (some ⟨b, 0, none⟩)) {t : St} {k : Value} (s : St) (ka : Option Addr) (kn kc : Nat) (hy : a.eval y = stV s (.slice ka kn kc)) (hB : CBox b (C7 t k) w)
    (h : ∀ w', CBox b (C7 s (.slice ka kn kc)) w' → But b w w' → wpList Try.prog ops Q rest (a.put op.dst undef) w') : wpList Try.prog ops Q (op :: rest) a w :=
  wpList_store_box hgd _ x y ho b 0 (C7 s (.slice ka kn kc)) hx hy hB _ rfl (Nat.le_of_ble_eq_true rfl) (info_size size25 rfl) (by kernel_rfl) h
theorem load25 (hgd : op.guard = none) {x : Operand} (ho : op.op = .load 25 x) (b : Nat) (hx : a.eval x = .pointer (some ⟨b, 0, none⟩)) {s : St} {p : Value} (hB : CBox b (C7 s p) w)
    (h : wpList Try.prog ops Q rest (a.put op.dst (stV s p)) w) : wpList Try.prog ops Q (op :: rest) a w := by
  obtain ⟨d, h1, h2⟩ := row25
  exact wpList_load_box hgd _ x ho b 0 hx hB 7 (C7 s p) rfl d h1 h2 (info_size size25 rfl) h
theorem load25w (hw : Region.wanted op (yielded ops a.tmps) = true) {x : Operand} (ho : op.op = .load 25 x) (b : Nat) (hx : a.eval x = .pointer (some ⟨b, 0, none⟩)) {s : St} {p : Value} (hB : CBox b (C7 s p) w)
    (h : wpList Try.prog ops Q rest (a.put op.dst (stV s p)) w) : wpList Try.prog ops Q (op :: rest) a w := by
  obtain ⟨d, h1, h2⟩ := row25
  refine wpList_step fun K hK => ?_
  rw [if_pos hw]
  exact wp_load_mid _ x ho b 0 hx _ d (range_of hB 0 7 (ds := C7 s p) rfl) h1 h2 (info_size size25 rfl) (hK _ _ h)
theorem store_sl (hgd : op.guard = none) {x y : Operand} (ho : op.op = .store 23 x y) (b i : Nat) (hx : a.eval x = .pointer (some ⟨b, i, none⟩)) {ka : Option Addr} {kn kc : Nat} (hy : a.eval y = .slice ka kn kc) {cs : List Value} (es : List Value) (hB : CBox b cs w) (hi : i < cs.length) (hes : cs.set i (.slice ka kn kc) = es)
    (h : ∀ w', CBox b es w' → But b w w' → wpList Try.prog ops Q rest (a.put op.dst undef) w') : wpList Try.prog ops Q (op :: rest) a w := by
  subst hes
  refine wpList_plain hgd fun K hK => ?_
  have hc := hB.1 i _ (List.getElem?_eq_getElem hi)
  have hz := hB.2 i
  have hn := h _ (hB.one i (.slice ka kn kc)) ((But.refl _ _).set i _)
  have e0 : (Instr.storeAt 23 (.pointer (some ⟨b, i, none⟩)) (.slice ka kn kc)).run Try.prog w = .ok () (w.setCell ⟨b, i, none⟩ (.slice ka kn kc)) := by simp [go_sem, hc, hz]
  have e1 : (execOp a.eval op).run Try.prog w = .ok .skip (w.setCell ⟨b, i, none⟩ (.slice ka kn kc)) := by
    simp only [execOp, ho, hx, hy, Sem.run_bind, e0, Result.andThen_ok, Sem.run_pure]
  unfold Oper.wp
  rw [e1]
  exact hK _ _ hn
end
theorem read25 {w : World} {b : Nat} {s : St} {k : Value} (hB : CBox b (C7 s k) w) : (loadVar 25 ⟨b, 0, none⟩).run Try.prog w = .ok (stV s k) w := by
  obtain ⟨d, h1, h2⟩ := row25
  exact read_box hB _ d h1 h2 (info_size size25 rfl)
def StOut (base b : Nat) (R : Option (St × List UInt8)) (y : Ending) (w' : World) : Prop :=
  match R with
  | some (s, r) => ∃ a c, OwnTab base w' (.slice a s.tab.length c) s.tab ∧ y = .returned (stV s (.slice a s.tab.length c)) ∧ RBox b r w'
  | none => PanE y
theorem rdSt_eleven (a c1 c0 h0 o0 h1 o1 h2 o2 h3 o3 : UInt8) (t : List UInt8) : rdSt (a :: c1 :: c0 :: h0 :: o0 :: h1 :: o1 :: h2 :: o2 :: h3 :: o3 :: t) = (rdTabL t).map fun p => (⟨i8 a, i8 c1 * 256 + i8 c0, i8 h0 * 256 + i8 o0, i8 h1 * 256 + i8 o1, i8 h2 * 256 + i8 o2, i8 h3 * 256 + i8 o3, p.1⟩, p.2) := by cases t <;> rfl
theorem rdSt_short : ∀ {l : List UInt8}, l.length < 11 → rdSt l = none
  | [], _ => rfl
  | [_], _ => rfl
  | [_, _], _ => rfl
  | [_, _, _], _ => rfl
  | [_, _, _, _], _ => rfl
  | [_, _, _, _, _], _ => rfl
  | [_, _, _, _, _, _], _ => rfl
  | [_, _, _, _, _, _, _], _ => rfl
  | [_, _, _, _, _, _, _, _], _ => rfl
  | [_, _, _, _, _, _, _, _, _], _ => rfl
  | [_, _, _, _, _, _, _, _, _, _], _ => rfl
  | _ :: _ :: _ :: _ :: _ :: _ :: _ :: _ :: _ :: _ :: _ :: _, h => absurd h (by simp)

set_option maxHeartbeats 8000000 in
theorem read_state (b : Nat) (l : List UInt8) (w : World) (hB : RBox b l w) : Calls Try.prog 63 #[.pointer (some ⟨b, 0, none⟩)] w fun y w' => StOut w.heap.size b (rdSt l) y w' ∧ But b w w' := by
  obtain ⟨R, HR⟩ : ∃ R, Hid (R = rdSt l) := ⟨_, rfl⟩
  rw [← HR.out]
  have HSH : Hid (l.length < 11 → R = none) := fun h => HR.out.trans (rdSt_short h)
  have HB : Hid (RBox b l w) := hB
  clear hB
  go_enter Try.func63, Try.ntmps63
  go_wp2_with (first | (refine alloc25 rfl rfl ?_; intro w0 ob hBo hko hlo hgo))
  have HR0 : Hid (RBox b l w0) := HB.out.keep hko
  have HO0 : Hid (CBox ob (C7 z7 (.slice none 0 0)) w0) := hBo
  have HT0 : Hid (But b w w0) := But.of hko
  have HOG : Hid (w.heap.size ≤ ob) := hgo
  have HOB : Hid (ob ≠ b) := fun e => by have := HB.out.lt; omega
  clear hBo hko hlo hgo HB
  match l, HR0, HR, HSH with
  | [], HR0, HR, HSH =>
    have hn := HSH.out (by simp)
    subst hn
    refine (reader_none b w0 HR0.out).mono ?_
    rintro y v ⟨⟨u, pv, rfl⟩, _, hb⟩
    exact ⟨rfl, ⟨_, _, rfl⟩, HT0.out.trans hb⟩
  | a :: t0, HR0, HR, HSH =>
    have a0 := i8_lo a
    have a1 := i8_hi a
    refine (reader_some b a t0 w0 HR0.out).mono ?_
    rintro y w1 ⟨rfl, hR, hb⟩
    have HR1 : Hid (RBox b t0 w1) := hR
    have HO1 : Hid (CBox ob (C7 z7 (.slice none 0 0)) w1) := HO0.out.other hb HOB.out (Nat.le_of_ble_eq_true rfl)
    have HT1 : Hid (But b w w1) := HT0.out.trans hb
    clear hR hb HR0 HO0 HT0
    go_wp2_with fail
    by_cases h2 : t0.length < 2
    · have hn := HSH.out (by simp; omega)
      subst hn
      refine (readerW_none b w1 t0 h2 HR1.out).mono ?_
      rintro y v ⟨⟨u, pv, rfl⟩, hb⟩
      exact ⟨rfl, ⟨_, _, rfl⟩, HT1.out.trans hb⟩
    · obtain ⟨c1, c0, t, rfl⟩ : ∃ c1 c0 t, t0 = c1 :: c0 :: t := by
        match t0, h2 with
        | [], h2 => exact absurd (by simp) h2
        | [_], h2 => exact absurd (by simp) h2
        | h :: o :: t', _ => exact ⟨h, o, t', rfl⟩
      clear h2
      refine (readerW_some b c1 c0 t w1 HR1.out).mono ?_
      rintro y w2 ⟨rfl, hR, hb⟩
      have HR2 : Hid (RBox b t w2) := hR
      have HO2 : Hid (CBox ob (C7 z7 (.slice none 0 0)) w2) := HO1.out.other hb HOB.out (Nat.le_of_ble_eq_true rfl)
      have HT2 : Hid (But b w w2) := HT1.out.trans hb
      clear hR hb HR1 HO1 HT1
      go_wp2_with (first | (refine alloc25 rfl rfl ?_; intro va sb hBs hks hls hgs) | (refine store25 rfl rfl sb rfl ⟨i8 a, i8 c1 * 256 + i8 c0, 0, 0, 0, 0, []⟩ none 0 0 rfl hBs ?_; intro w3 hSs hTs))
      have k23 : Keeps w2 w3 := But.to hks hgs hTs
      have HR3 : Hid (RBox b t w3) := HR2.out.keep k23
      have HO3 : Hid (CBox ob (C7 z7 (.slice none 0 0)) w3) := HO2.out.keep k23 (Nat.le_of_ble_eq_true rfl)
      have HT3 : Hid (But b w w3) := HT2.out.trans (But.of k23)
      have HS3 : Hid (CBox sb (C7 ⟨i8 a, i8 c1 * 256 + i8 c0, 0, 0, 0, 0, []⟩ (.slice none 0 0)) w3) := hSs
      have HSG : Hid (w.heap.size ≤ sb) := Nat.le_trans HT2.out.size hgs
      have HSB : Hid (sb ≠ b) := fun e => by have := HR2.out.lt; omega
      have HSO : Hid (ob ≠ sb) := fun e => by have := HO2.out.lt (Nat.le_of_ble_eq_true rfl); omega
      clear k23 hBs hks hls hgs hSs hTs HR2 HO2 HT2
      go_loopw [10] (fun i wr => Hid (CBox ob (C7 z7 (.slice none 0 0)) wr ∧ But b w wr) ∧ ((∃ u, i = .int .i64 0 ∧ Hid (t = u) ∧ Hid (RBox b u wr) ∧ Hid (CBox sb (C7 ⟨i8 a, i8 c1 * 256 + i8 c0, 0, 0, 0, 0, []⟩ (.slice none 0 0)) wr)) ∨ (∃ (h0 o0 : UInt8), ∃ u, i = .int .i64 1 ∧ Hid (t = h0 :: o0 :: u) ∧ Hid (RBox b u wr) ∧ Hid (CBox sb (C7 ⟨i8 a, i8 c1 * 256 + i8 c0, i8 h0 * 256 + i8 o0, 0, 0, 0, []⟩ (.slice none 0 0)) wr)) ∨ (∃ (h0 o0 : UInt8), ∃ (h1 o1 : UInt8), ∃ u, i = .int .i64 2 ∧ Hid (t = h0 :: o0 :: h1 :: o1 :: u) ∧ Hid (RBox b u wr) ∧ Hid (CBox sb (C7 ⟨i8 a, i8 c1 * 256 + i8 c0, i8 h0 * 256 + i8 o0, i8 h1 * 256 + i8 o1, 0, 0, []⟩ (.slice none 0 0)) wr)) ∨ (∃ (h0 o0 : UInt8), ∃ (h1 o1 : UInt8), ∃ (h2 o2 : UInt8), ∃ u, i = .int .i64 3 ∧ Hid (t = h0 :: o0 :: h1 :: o1 :: h2 :: o2 :: u) ∧ Hid (RBox b u wr) ∧ Hid (CBox sb (C7 ⟨i8 a, i8 c1 * 256 + i8 c0, i8 h0 * 256 + i8 o0, i8 h1 * 256 + i8 o1, i8 h2 * 256 + i8 o2, 0, []⟩ (.slice none 0 0)) wr)) ∨ (∃ (h0 o0 : UInt8), ∃ (h1 o1 : UInt8), ∃ (h2 o2 : UInt8), ∃ (h3 o3 : UInt8), ∃ u, i = .int .i64 4 ∧ Hid (t = h0 :: o0 :: h1 :: o1 :: h2 :: o2 :: h3 :: o3 :: u) ∧ Hid (RBox b u wr) ∧ Hid (CBox sb (C7 ⟨i8 a, i8 c1 * 256 + i8 c0, i8 h0 * 256 + i8 o0, i8 h1 * 256 + i8 o1, i8 h2 * 256 + i8 o2, i8 h3 * 256 + i8 o3, []⟩ (.slice none 0 0)) wr)))) (fun i _ => 4 - (intOf i).toNat)
      case atStart => exact ⟨⟨HO3.out, HT3.out⟩, Or.inl ⟨t, rfl, rfl, HR3, HS3⟩⟩
      case round =>
        obtain ⟨HW, hrel⟩ := hrel
        rcases hrel with ⟨u, rfl, HTE, HRB, HS⟩ | ⟨h0, o0, u, rfl, HTE, HRB, HS⟩ | ⟨h0, o0, h1, o1, u, rfl, HTE, HRB, HS⟩ | ⟨h0, o0, h1, o1, h2, o2, u, rfl, HTE, HRB, HS⟩ | ⟨h0, o0, h1, o1, h2, o2, h3, o3, u, rfl, HTE, HRB, HS⟩
        · go_wp2_with fail
          by_cases h2 : u.length < 2
          · have hn := HSH.out (by rw [HTE.out]; simp; omega)
            subst hn
            refine (readerW_none b wr u h2 HRB.out).mono ?_
            rintro y v ⟨⟨uu, pv, rfl⟩, hb⟩
            exact ⟨rfl, ⟨_, _, rfl⟩, HW.out.2.trans hb⟩
          · obtain ⟨h0, o0, u2, rfl⟩ : ∃ h o t, u = h :: o :: t := by
              match u, h2 with
              | [], h2 => exact absurd (by simp) h2
              | [_], h2 => exact absurd (by simp) h2
              | h :: o :: t', _ => exact ⟨h, o, t', rfl⟩
            clear h2
            refine (readerW_some b h0 o0 u2 wr HRB.out).mono ?_
            rintro y v ⟨rfl, hR, hb⟩
            have HR4 : Hid (RBox b u2 v) := hR
            have HO4 : Hid (CBox ob (C7 z7 (.slice none 0 0)) v) := HW.out.1.other hb HOB.out (Nat.le_of_ble_eq_true rfl)
            have HT4 : Hid (But b w v) := HW.out.2.trans hb
            have HS4 : Hid (CBox sb (C7 ⟨i8 a, i8 c1 * 256 + i8 c0, 0, 0, 0, 0, []⟩ (.slice none 0 0)) v) := HS.out.other hb HSB.out (Nat.le_of_ble_eq_true rfl)
            clear hR hb HRB HS HW
            go_wp2_with (first | (refine store_one rfl rfl sb 2 rfl rfl (C7 ⟨i8 a, i8 c1 * 256 + i8 c0, i8 h0 * 256 + i8 o0, 0, 0, 0, []⟩ (.slice none 0 0)) HS4.out (Nat.le_of_ble_eq_true rfl) rfl ?_; intro v5 hS5 hT5))
            go_roundw
            case rel => exact ⟨⟨HO4.out.other hT5 HSO.out (Nat.le_of_ble_eq_true rfl), But.far HT4.out HSG.out hT5⟩, Or.inr (Or.inl ⟨h0, o0, u2, by go_num, HTE, HR4.out.other hT5 (fun e => HSB.out e.symm), hS5⟩)⟩
            case measure => simp [intOf]
        · go_wp2_with fail
          by_cases h2 : u.length < 2
          · have hn := HSH.out (by rw [HTE.out]; simp; omega)
            subst hn
            refine (readerW_none b wr u h2 HRB.out).mono ?_
            rintro y v ⟨⟨uu, pv, rfl⟩, hb⟩
            exact ⟨rfl, ⟨_, _, rfl⟩, HW.out.2.trans hb⟩
          · obtain ⟨h1, o1, u2, rfl⟩ : ∃ h o t, u = h :: o :: t := by
              match u, h2 with
              | [], h2 => exact absurd (by simp) h2
              | [_], h2 => exact absurd (by simp) h2
              | h :: o :: t', _ => exact ⟨h, o, t', rfl⟩
            clear h2
            refine (readerW_some b h1 o1 u2 wr HRB.out).mono ?_
            rintro y v ⟨rfl, hR, hb⟩
            have HR4 : Hid (RBox b u2 v) := hR
            have HO4 : Hid (CBox ob (C7 z7 (.slice none 0 0)) v) := HW.out.1.other hb HOB.out (Nat.le_of_ble_eq_true rfl)
            have HT4 : Hid (But b w v) := HW.out.2.trans hb
            have HS4 : Hid (CBox sb (C7 ⟨i8 a, i8 c1 * 256 + i8 c0, i8 h0 * 256 + i8 o0, 0, 0, 0, []⟩ (.slice none 0 0)) v) := HS.out.other hb HSB.out (Nat.le_of_ble_eq_true rfl)
            clear hR hb HRB HS HW
            go_wp2_with (first | (refine store_one rfl rfl sb 3 rfl rfl (C7 ⟨i8 a, i8 c1 * 256 + i8 c0, i8 h0 * 256 + i8 o0, i8 h1 * 256 + i8 o1, 0, 0, []⟩ (.slice none 0 0)) HS4.out (Nat.le_of_ble_eq_true rfl) rfl ?_; intro v5 hS5 hT5))
            go_roundw
            case rel => exact ⟨⟨HO4.out.other hT5 HSO.out (Nat.le_of_ble_eq_true rfl), But.far HT4.out HSG.out hT5⟩, Or.inr (Or.inr (Or.inl ⟨h0, o0, h1, o1, u2, by go_num, HTE, HR4.out.other hT5 (fun e => HSB.out e.symm), hS5⟩))⟩
            case measure => simp [intOf]
        · go_wp2_with fail
          by_cases h2 : u.length < 2
          · have hn := HSH.out (by rw [HTE.out]; simp; omega)
            subst hn
            refine (readerW_none b wr u h2 HRB.out).mono ?_
            rintro y v ⟨⟨uu, pv, rfl⟩, hb⟩
            exact ⟨rfl, ⟨_, _, rfl⟩, HW.out.2.trans hb⟩
          · obtain ⟨h2, o2, u2, rfl⟩ : ∃ h o t, u = h :: o :: t := by
              match u, h2 with
              | [], h2 => exact absurd (by simp) h2
              | [_], h2 => exact absurd (by simp) h2
              | h :: o :: t', _ => exact ⟨h, o, t', rfl⟩
            clear h2
            refine (readerW_some b h2 o2 u2 wr HRB.out).mono ?_
            rintro y v ⟨rfl, hR, hb⟩
            have HR4 : Hid (RBox b u2 v) := hR
            have HO4 : Hid (CBox ob (C7 z7 (.slice none 0 0)) v) := HW.out.1.other hb HOB.out (Nat.le_of_ble_eq_true rfl)
            have HT4 : Hid (But b w v) := HW.out.2.trans hb
            have HS4 : Hid (CBox sb (C7 ⟨i8 a, i8 c1 * 256 + i8 c0, i8 h0 * 256 + i8 o0, i8 h1 * 256 + i8 o1, 0, 0, []⟩ (.slice none 0 0)) v) := HS.out.other hb HSB.out (Nat.le_of_ble_eq_true rfl)
            clear hR hb HRB HS HW
            go_wp2_with (first | (refine store_one rfl rfl sb 4 rfl rfl (C7 ⟨i8 a, i8 c1 * 256 + i8 c0, i8 h0 * 256 + i8 o0, i8 h1 * 256 + i8 o1, i8 h2 * 256 + i8 o2, 0, []⟩ (.slice none 0 0)) HS4.out (Nat.le_of_ble_eq_true rfl) rfl ?_; intro v5 hS5 hT5))
            go_roundw
            case rel => exact ⟨⟨HO4.out.other hT5 HSO.out (Nat.le_of_ble_eq_true rfl), But.far HT4.out HSG.out hT5⟩, Or.inr (Or.inr (Or.inr (Or.inl ⟨h0, o0, h1, o1, h2, o2, u2, by go_num, HTE, HR4.out.other hT5 (fun e => HSB.out e.symm), hS5⟩)))⟩
            case measure => simp [intOf]
        · go_wp2_with fail
          by_cases h2 : u.length < 2
          · have hn := HSH.out (by rw [HTE.out]; simp; omega)
            subst hn
            refine (readerW_none b wr u h2 HRB.out).mono ?_
            rintro y v ⟨⟨uu, pv, rfl⟩, hb⟩
            exact ⟨rfl, ⟨_, _, rfl⟩, HW.out.2.trans hb⟩
          · obtain ⟨h3, o3, u2, rfl⟩ : ∃ h o t, u = h :: o :: t := by
              match u, h2 with
              | [], h2 => exact absurd (by simp) h2
              | [_], h2 => exact absurd (by simp) h2
              | h :: o :: t', _ => exact ⟨h, o, t', rfl⟩
            clear h2
            refine (readerW_some b h3 o3 u2 wr HRB.out).mono ?_
            rintro y v ⟨rfl, hR, hb⟩
            have HR4 : Hid (RBox b u2 v) := hR
            have HO4 : Hid (CBox ob (C7 z7 (.slice none 0 0)) v) := HW.out.1.other hb HOB.out (Nat.le_of_ble_eq_true rfl)
            have HT4 : Hid (But b w v) := HW.out.2.trans hb
            have HS4 : Hid (CBox sb (C7 ⟨i8 a, i8 c1 * 256 + i8 c0, i8 h0 * 256 + i8 o0, i8 h1 * 256 + i8 o1, i8 h2 * 256 + i8 o2, 0, []⟩ (.slice none 0 0)) v) := HS.out.other hb HSB.out (Nat.le_of_ble_eq_true rfl)
            clear hR hb HRB HS HW
            go_wp2_with (first | (refine store_one rfl rfl sb 5 rfl rfl (C7 ⟨i8 a, i8 c1 * 256 + i8 c0, i8 h0 * 256 + i8 o0, i8 h1 * 256 + i8 o1, i8 h2 * 256 + i8 o2, i8 h3 * 256 + i8 o3, []⟩ (.slice none 0 0)) HS4.out (Nat.le_of_ble_eq_true rfl) rfl ?_; intro v5 hS5 hT5))
            go_roundw
            case rel => exact ⟨⟨HO4.out.other hT5 HSO.out (Nat.le_of_ble_eq_true rfl), But.far HT4.out HSG.out hT5⟩, Or.inr (Or.inr (Or.inr (Or.inr (⟨h0, o0, h1, o1, h2, o2, h3, o3, u2, by go_num, HTE, HR4.out.other hT5 (fun e => HSB.out e.symm), hS5⟩))))⟩
            case measure => simp [intOf]
        · have HR5 : Hid (R = (rdTabL u).map fun p => ((⟨i8 a, i8 c1 * 256 + i8 c0, i8 h0 * 256 + i8 o0, i8 h1 * 256 + i8 o1, i8 h2 * 256 + i8 o2, i8 h3 * 256 + i8 o3, p.1⟩ : St), p.2)) := by
            show _ = _
            rw [HR.out, HTE.out]
            exact rdSt_eleven a c1 c0 h0 o0 h1 o1 h2 o2 h3 o3 u
          clear HR HTE HSH
          go_wp2_with fail
          refine (list_tab b u wr HRB.out).mono ?_
          rintro y v ⟨hout, hb⟩
          have HT6 : Hid (But b w v) := HW.out.2.trans hb
          have HO6 : Hid (CBox ob (C7 z7 (.slice none 0 0)) v) := HW.out.1.other hb HOB.out (Nat.le_of_ble_eq_true rfl)
          have HS6 : Hid (CBox sb (C7 ⟨i8 a, i8 c1 * 256 + i8 c0, i8 h0 * 256 + i8 o0, i8 h1 * 256 + i8 o1, i8 h2 * 256 + i8 o2, i8 h3 * 256 + i8 o3, []⟩ (.slice none 0 0)) v) := HS.out.other hb HSB.out (Nat.le_of_ble_eq_true rfl)
          have HSL : Hid (sb < wr.heap.size ∧ ob < wr.heap.size ∧ w.heap.size ≤ wr.heap.size) := ⟨HS.out.lt (Nat.le_of_ble_eq_true rfl), HW.out.1.lt (Nat.le_of_ble_eq_true rfl), HW.out.2.size⟩
          cases hL : rdTabL u with
          | none =>
            rw [hL] at hout HR5
            obtain ⟨uu, pv, rfl⟩ := hout
            have hn : R = none := HR5.out
            subst hn
            exact ⟨rfl, ⟨_, _, rfl⟩, HT6.out⟩
          | some p =>
            obtain ⟨x, r⟩ := p
            rw [hL] at hout HR5
            obtain ⟨ka, kc, hK, rfl, hR6⟩ := hout
            have hn : R = some (⟨i8 a, i8 c1 * 256 + i8 c0, i8 h0 * 256 + i8 o0, i8 h1 * 256 + i8 o1, i8 h2 * 256 + i8 o2, i8 h3 * 256 + i8 o3, x⟩, r) := HR5.out
            subst hn
            have HK6 : Hid (OwnTab wr.heap.size v (.slice ka x.length kc) x) := hK
            have HR6 : Hid (RBox b r v) := hR6
            clear hK hR6 hb HW HS HRB hL HR5
            go_wp2_with (first | (refine store_sl rfl rfl sb 6 rfl rfl (C7 ⟨i8 a, i8 c1 * 256 + i8 c0, i8 h0 * 256 + i8 o0, i8 h1 * 256 + i8 o1, i8 h2 * 256 + i8 o2, i8 h3 * 256 + i8 o3, x⟩ (.slice ka x.length kc)) HS6.out (Nat.le_of_ble_eq_true rfl) rfl ?_; intro v7 hS7 hT7) | (refine load25 rfl rfl sb rfl hS7 ?_) | (refine store25 rfl rfl ob rfl ⟨i8 a, i8 c1 * 256 + i8 c0, i8 h0 * 256 + i8 o0, i8 h1 * 256 + i8 o1, i8 h2 * 256 + i8 o2, i8 h3 * 256 + i8 o3, x⟩ ka x.length kc rfl (HO6.out.other hT7 HSO.out (Nat.le_of_ble_eq_true rfl)) ?_; intro v8 hS8 hT8))
            refine bodyPost_ret (results1 Try.results63 rfl (read25 hS8)) rfl ?_
            exact ⟨⟨ka, kc, ((HK6.out.but HSL.out.1 hT7).but HSL.out.2.1 hT8).base HSL.out.2.2, rfl, (HR6.out.other hT7 (fun e => HSB.out e.symm)).other hT8 (fun e => HOB.out e.symm)⟩, But.far (But.far HT6.out HSG.out hT7) HOG.out hT8⟩
end Go.Proofs.Yteabfjpajgakiad

/- snap.Write. -/
set_option linter.unusedSimpArgs false
set_option linter.unusedVariables false
set_option maxRecDepth 10000
namespace Go.Proofs.Yteabfjpajgakiad
open Go.RowKit

set_option maxHeartbeats 1000000 in
theorem wide_o (off : Nat) (base : Nat) (B : List UInt8) (v : Value) (N : List Int) (nb : Nat) (w : World) (hb : base ≤ w.heap.size) (hv : BOwn base w v B) (hN : ∀ i n, N[i]? = some n → w.cell? ⟨nb, off + i, none⟩ = some (.int .i64 n)) (hnb : nb < w.heap.size) (hne : v.ownBlock ≠ some nb) (hlen : B.length + 2 * N.length ≤ 100000) :
    Calls Try.prog 31 #[v, .slice (some ⟨nb, off, none⟩) N.length N.length] w fun e w' => ∃ v', e = .returned v' ∧ BOwn base w' v' (B ++ wides N) ∧ GrowsTo w w' v v' := by
  have HV : Hid (BOwn base w v B) := hv
  have HN : Hid (∀ i n, N[i]? = some n → w.cell? ⟨nb, off + i, none⟩ = some (.int .i64 n)) := hN
  have HL : Hid (v.ownBlock ≠ some nb) := hne
  have HB : Hid (base ≤ w.heap.size) := hb
  have HNB : Hid (nb < w.heap.size) := hnb
  have hnl : N.length ≤ 100000 := by omega
  clear hv hN hne hb hnb
  go_enter Try.func31, Try.ntmps31
  go_wp2_with fail
  go_loopw [0, 9] (fun b i wr => ∃ (k : Nat), k ≤ N.length ∧ i = .int .i64 k ∧ Hid (BOwn base wr b (B ++ wides (N.take k))) ∧ Hid (GrowsTo w wr v b)) (fun _ i _ => N.length - (intOf i).toNat)
  case atStart =>
    refine ⟨0, Nat.zero_le _, rfl, ?_, GrowsTo.refl _ _⟩
    show BOwn base w v (B ++ [])
    rw [List.append_nil]
    exact HV.out
  case round =>
    obtain ⟨k, hk, rfl, HO, HG⟩ := hrel
    by_cases hlt : k < N.length
    · have hc : wr.cell? ⟨nb, off + k, none⟩ = some (.int .i64 N[k]) := by
        exact (World.cell?_of_block (HG.out.grown.block nb HNB.out (fun e => HL.out e.symm))).trans (HN.out k _ (List.getElem?_eq_getElem hlt))
      have HR : Hid (B ++ wides (N.take k) ++ wide N[k] = B ++ wides (N.take (k + 1))) := by
        show _ = _
        rw [List.append_assoc, List.take_succ_eq_append_getElem hlt, wides_append]
        simp [wides]
      generalize N[k] = n at *
      have hb2 : base ≤ wr.heap.size := Nat.le_trans HB.out HG.out.grown.size
      have hl2 : (B ++ wides (N.take k)).length + 2 ≤ 100000 := by rw [List.length_append, wides_len, List.length_take]; omega
      have HW : Hid ([n / 256, n].map b8 = wide n) := rfl
      go_wp2_with fail
      refine (small_c base _ u0 [n / 256, n] wr.heap.size _ (Nat.le_trans hb2 (by simp)) (HO.out.keep ((Keeps.refl _).alloc _)) (new_nums wr [n / 256, n] _) (by simp) (fun e => by have := (HO.out.own e).2; omega) hl2).mono ?_
      rintro e w2 ⟨v2, rfl, hO2, hG2⟩
      rw [HW.out, HR.out] at hO2
      have HO2 : Hid (BOwn base w2 v2 (B ++ wides (N.take (k + 1)))) := hO2
      have HG2 : Hid (GrowsTo w w2 v v2) := (HG.out.trans (GrowsTo.of _ ((Keeps.refl _).alloc _))).trans hG2
      clear hO2 hG2 HO HG HR HW
      go_wp2_with fail
      go_roundw
      case rel => exact ⟨k + 1, by omega, by go_num, HO2, HG2⟩
      case measure => simp [intOf]; omega
    · have e : k = N.length := by omega
      subst e
      have hO := HO.out
      rw [List.take_length] at hO
      go_wp2_with fail
      go_ret
      exact ⟨_, rfl, hO, HG.out⟩
theorem box25 {ops : Array Oper} {rest : List Oper} {op : Oper} {a : Act} {w : World} {Q : Exit → Act → World → Prop} (hgd : op.guard = none) {x : Operand} (ho : op.op = .box 25 x) {s : St} {p : Value} (hx : a.eval x = stV s p)
    (h : ∀ (w' : World) (b : Nat), CBox b (C7 s p) w' → Keeps w w' → b < w'.heap.size → w.heap.size ≤ b → wpList Try.prog ops Q rest (a.put op.dst (.pointer (some ⟨b, 0, none⟩))) w') : wpList Try.prog ops Q (op :: rest) a w := wpList_box_new hgd _ x ho (C7 s p) hx h
theorem load59 {ops : Array Oper} {rest : List Oper} {op : Oper} {a : Act} {w : World} {Q : Exit → Act → World → Prop} (hgd : op.guard = none) {x : Operand} (ho : op.op = .load 59 x) (b : Nat) (hx : a.eval x = .pointer (some ⟨b, 0, none⟩)) {s : Ses} {p : Value} (hB : CBox b (S4 s p) w)
    (h : wpList Try.prog ops Q rest (a.put op.dst (sesV s p)) w) : wpList Try.prog ops Q (op :: rest) a w := by
  obtain ⟨d, h1, h2⟩ := row59
  exact wpList_load_box hgd _ x ho b 0 hx hB 4 (S4 s p) rfl d h1 h2 (info_size size59 rfl) h
def snBs (s : St) : List UInt8 := if stErr s == 0 then stBs s else []
theorem tabBs_succ : ∀ (L : List Ses) (k : Nat) (h : k < L.length), tabBs (L.take (k + 1)) = tabBs (L.take k) ++ sesBs L[k]
  | s :: r, 0, _ => by
    show sesBs s ++ tabBs [] = [] ++ sesBs s
    rw [List.nil_append]
    exact List.append_nil _
  | s :: r, k + 1, h => by
    have ih := tabBs_succ r k (by simpa using h)
    show sesBs s ++ tabBs (r.take (k + 1)) = (sesBs s ++ tabBs (r.take k)) ++ _
    rw [ih, List.append_assoc]
    rfl

set_option maxHeartbeats 4000000 in
theorem snap_write (s : St) (x : Value) (w : World) (hT : TabAt w x s.tab) : Calls Try.prog 9 #[stV s x] w fun y w' => y = .returned (.tuple #[.string (bt (snBs s)), .int .i64 (stErr s)]) ∧ Keeps w w' := by
  obtain ⟨xa, xc, rfl, _⟩ := hT.len
  have HT : Hid (TabAt w (.slice xa s.tab.length xc) s.tab) := hT
  clear hT
  have HW0 : Hid (snBs s = if stErr s == 0 then stBs s else []) := rfl
  have HFT : Hid (stErr s = 0 → stFit s ∧ s.tab.length ≤ 3 ∧ ∀ o ∈ s.tab, o.kept.length ≤ 3) := st_fit
  have HCH : Hid (∀ W, Keeps w W → Calls Try.prog 29 #[stV s (.slice xa s.tab.length xc)] W fun y w' => y = .returned (.int .i64 (stErr s)) ∧ Keeps W w') := fun W hk => state_check s _ W (HT.out.keep hk)
  generalize hwr : snBs s = wb at *
  generalize stErr s = er at *
  clear hwr
  go_enter Try.func9, Try.ntmps9
  go_wp2_with (first | (refine box25 rfl rfl (s := s) (p := .slice xa s.tab.length xc) rfl ?_; intro w0 sb hBs hks hls hgs) | (refine load25 rfl rfl sb rfl hBs ?_))
  refine (HCH.out w0 hks).mono ?_
  rintro y w1 ⟨rfl, hb⟩
  have HS1 : Hid (CBox sb (C7 s (.slice xa s.tab.length xc)) w1) := hBs.keep hb (Nat.le_of_ble_eq_true rfl)
  have HK : Hid (Keeps w w1) := hks.trans hb
  have HT1 : Hid (TabAt w1 (.slice xa s.tab.length xc) s.tab) := HT.out.keep (hks.trans hb)
  have HSL : Hid (sb < w1.heap.size) := HS1.out.lt (Nat.le_of_ble_eq_true rfl)
  clear hBs hks hls hgs hb HCH HT
  cases q : (er == 0) with
  | false =>
    have q' : (er != 0) = true := by simp [bne, q]
    have HW : Hid (wb = []) := by show _ = _; rw [HW0.out, q]; rfl
    go_wp2_with fail
    go_ret2
    rw [HW.out]
    exact ⟨rfl, HK.out⟩
  | true =>
    have q' : (er != 0) = false := by simp [bne, q]
    have q0 : er = 0 := by simpa using q
    have HW1 : Hid (wb = stBs s) := by show _ = _; rw [HW0.out, q]; rfl
    obtain ⟨hfit, htl, hkl⟩ := HFT.out q0
    have HFI : Hid (∀ o ∈ s.tab, sesFit o ∧ o.kept.length ≤ 3) := fun o ho => ⟨hfit.2.2.2.2.2.2.2 o ho, hkl o ho⟩
    subst q0
    clear HW0 HFT q q' hfit hkl
    have c0 := HS1.out.1 0 _ rfl
    have c1 := HS1.out.1 1 _ rfl
    have c2 := HS1.out.1 2 _ rfl
    have c3 := HS1.out.1 3 _ rfl
    have c4 := HS1.out.1 4 _ rfl
    have c5 := HS1.out.1 5 _ rfl
    have c6 := HS1.out.1 6 _ rfl
    go_wp2_with fail
    refine (small_c w1.heap.size [] (.slice none 0 0) [s.at_] w1.heap.size _ (by simp) BOwn.nil (new_nums w1 [s.at_] _) (by simp) (fun h => by cases h) (by simp)).mono ?_
    rintro y w2 ⟨v2, rfl, hO, hG⟩
    have HO2 : Hid (BOwn w1.heap.size w2 v2 ([b8 s.at_])) := hO
    have HK2 : Hid (Keeps w1 w2) := grow_keep (Keeps.refl _) BOwn.nil hG
    clear hO hG
    clear c0 c1 c2 c3 c4 c5 c6
    have c0 := (HS1.out.keep HK2.out (Nat.le_of_ble_eq_true rfl)).1 0 _ rfl
    have c1 := (HS1.out.keep HK2.out (Nat.le_of_ble_eq_true rfl)).1 1 _ rfl
    have c2 := (HS1.out.keep HK2.out (Nat.le_of_ble_eq_true rfl)).1 2 _ rfl
    have c3 := (HS1.out.keep HK2.out (Nat.le_of_ble_eq_true rfl)).1 3 _ rfl
    have c4 := (HS1.out.keep HK2.out (Nat.le_of_ble_eq_true rfl)).1 4 _ rfl
    have c5 := (HS1.out.keep HK2.out (Nat.le_of_ble_eq_true rfl)).1 5 _ rfl
    have c6 := (HS1.out.keep HK2.out (Nat.le_of_ble_eq_true rfl)).1 6 _ rfl
    go_wp2_with fail
    refine (wide_c w1.heap.size ([b8 s.at_]) v2 [s.clock] w2.heap.size _ (Nat.le_trans HK2.out.size (by simp)) (HO2.out.keep ((Keeps.refl _).alloc _)) (new_nums w2 [s.clock] _) (by simp) (fun h => by have := (HO2.out.own h).2; omega) (by simp [wide])).mono ?_
    rintro y w3 ⟨v3, rfl, hO, hG⟩
    have HO3 : Hid (BOwn w1.heap.size w3 v3 ([b8 s.at_] ++ wide s.clock)) := by
      have hO := hO
      simp only [wides, List.append_nil] at hO
      exact hO
    have HK3 : Hid (Keeps w1 w3) := grow_keep HK2.out HO2.out hG
    clear hO hG HO2 HK2
    clear c0 c1 c2 c3 c4 c5 c6
    have c0 := (HS1.out.keep HK3.out (Nat.le_of_ble_eq_true rfl)).1 0 _ rfl
    have c1 := (HS1.out.keep HK3.out (Nat.le_of_ble_eq_true rfl)).1 1 _ rfl
    have c2 := (HS1.out.keep HK3.out (Nat.le_of_ble_eq_true rfl)).1 2 _ rfl
    have c3 := (HS1.out.keep HK3.out (Nat.le_of_ble_eq_true rfl)).1 3 _ rfl
    have c4 := (HS1.out.keep HK3.out (Nat.le_of_ble_eq_true rfl)).1 4 _ rfl
    have c5 := (HS1.out.keep HK3.out (Nat.le_of_ble_eq_true rfl)).1 5 _ rfl
    have c6 := (HS1.out.keep HK3.out (Nat.le_of_ble_eq_true rfl)).1 6 _ rfl
    go_wp2_with fail
    refine (wide_o 2 w1.heap.size ([b8 s.at_] ++ wide s.clock) v3 [s.v0, s.v1, s.v2, s.v3] sb w3 HK3.out.size HO3.out (fun i n hn => ?_) (Nat.lt_of_lt_of_le HSL.out HK3.out.size) (fun h => by have := (HO3.out.own h).1; have := HSL.out; omega) (by simp [wide])).mono ?_
    · match i, hn with
      | 0, hn => cases hn; exact c2
      | 1, hn => cases hn; exact c3
      | 2, hn => cases hn; exact c4
      | 3, hn => cases hn; exact c5
    rintro y w4 ⟨v4, rfl, hO, hG⟩
    have HO4 : Hid (BOwn w1.heap.size w4 v4 ([b8 s.at_] ++ wide s.clock ++ (wide s.v0 ++ wide s.v1 ++ wide s.v2 ++ wide s.v3))) := by
      have hO := hO
      simp only [wides, List.append_nil, List.append_assoc] at hO ⊢
      exact hO
    have HK4 : Hid (Keeps w1 w4) := Below.trans HK3.out (hG.below HO3.out HK3.out.size)
    clear hO hG HO3 HK3
    clear c0 c1 c2 c3 c4 c5 c6
    have c0 := (HS1.out.keep HK4.out (Nat.le_of_ble_eq_true rfl)).1 0 _ rfl
    have c1 := (HS1.out.keep HK4.out (Nat.le_of_ble_eq_true rfl)).1 1 _ rfl
    have c2 := (HS1.out.keep HK4.out (Nat.le_of_ble_eq_true rfl)).1 2 _ rfl
    have c3 := (HS1.out.keep HK4.out (Nat.le_of_ble_eq_true rfl)).1 3 _ rfl
    have c4 := (HS1.out.keep HK4.out (Nat.le_of_ble_eq_true rfl)).1 4 _ rfl
    have c5 := (HS1.out.keep HK4.out (Nat.le_of_ble_eq_true rfl)).1 5 _ rfl
    have c6 := (HS1.out.keep HK4.out (Nat.le_of_ble_eq_true rfl)).1 6 _ rfl
    go_wp2_with fail
    refine (small_c w1.heap.size ([b8 s.at_] ++ wide s.clock ++ (wide s.v0 ++ wide s.v1 ++ wide s.v2 ++ wide s.v3)) v4 [(s.tab.length : Int)] w4.heap.size _ (Nat.le_trans HK4.out.size (by simp)) (HO4.out.keep ((Keeps.refl _).alloc _)) (new_nums w4 [(s.tab.length : Int)] _) (by simp) (fun h => by have := (HO4.out.own h).2; omega) (by simp [wide])).mono ?_
    rintro y w5 ⟨v5, rfl, hO, hG⟩
    have HO5 : Hid (BOwn w1.heap.size w5 v5 (headBs s)) := by
      have hO := hO
      unfold headBs
      simp only [List.map_cons, List.map_nil, List.append_assoc] at hO ⊢
      exact hO
    have HK5 : Hid (Keeps w1 w5) := grow_keep HK4.out HO4.out hG
    clear hO hG HO4 HK4
    clear c0 c1 c2 c3 c4 c5 c6
    have c0 := (HS1.out.keep HK5.out (Nat.le_of_ble_eq_true rfl)).1 0 _ rfl
    have c1 := (HS1.out.keep HK5.out (Nat.le_of_ble_eq_true rfl)).1 1 _ rfl
    have c2 := (HS1.out.keep HK5.out (Nat.le_of_ble_eq_true rfl)).1 2 _ rfl
    have c3 := (HS1.out.keep HK5.out (Nat.le_of_ble_eq_true rfl)).1 3 _ rfl
    have c4 := (HS1.out.keep HK5.out (Nat.le_of_ble_eq_true rfl)).1 4 _ rfl
    have c5 := (HS1.out.keep HK5.out (Nat.le_of_ble_eq_true rfl)).1 5 _ rfl
    have c6 := (HS1.out.keep HK5.out (Nat.le_of_ble_eq_true rfl)).1 6 _ rfl
    have HB0 : Hid (tabBs (s.tab.take 0) = []) := by show _ = _; rw [List.take_zero]; rfl
    have hhl : (headBs s).length = 12 := by simp [headBs, wide]
    go_wp2_with fail
    clear c0 c1 c2 c3 c4 c5 c6
    go_loopw [5, 35] (fun b i wr => ∃ (k : Nat), k ≤ s.tab.length ∧ i = .int .i64 k ∧ Hid (BOwn w1.heap.size wr b (headBs s ++ tabBs (s.tab.take k))) ∧ Hid (Keeps w1 wr)) (fun _ i _ => s.tab.length - (intOf i).toNat)
    case atStart => exact ⟨0, Nat.zero_le _, rfl, by rw [HB0.out, List.append_nil]; exact HO5.out, HK5⟩
    case round =>
      obtain ⟨k, hk, rfl, HO, HKr⟩ := hrel
      by_cases hlt : k < s.tab.length
      · obtain ⟨b1, o1, p1, hv1, hcs⟩ := (HT1.out.keep HKr.out).at hlt
        obtain ⟨d0, d1, d2, ka, kc, d3, _⟩ := hcs k hlt
        obtain ⟨b0, o0, p0, hv0, hcs0⟩ := HT1.out.at hlt
        obtain ⟨_, _, _, ka0, kc0, e3, hK0⟩ := hcs0 k hlt
        have he : (.slice ka s.tab[k].kept.length kc : Value) = .slice ka0 s.tab[k].kept.length kc0 := by
          have h1 : (.slice (some ⟨b1, o1, none⟩) s.tab.length p1 : Value) = .slice (some ⟨b0, o0, none⟩) s.tab.length p0 := hv1.symm.trans hv0
          injection h1 with h1 _ _
          injection h1 with h1
          injection h1 with h1 h2 _
          subst h1 h2
          have := (HKr.out.cells).1 b1 (o1 + k * 4 + 3) (World.block_lt_of_cell? _ _ e3)
          rw [d3, e3] at this
          injection this
        rw [← he] at hK0
        injection hv1 with hv1 ea eb
        subst hv1
        clear ea eb hcs hcs0 hv0 e3 he
        have HKP : Hid (KeptAt w1 (.slice ka s.tab[k].kept.length kc) s.tab[k].kept) := hK0
        obtain ⟨hsf, hs3⟩ := HFI.out s.tab[k] (List.getElem_mem hlt)
        have HSF : Hid (sesFit s.tab[k]) := hsf
        have HS : Hid (headBs s ++ tabBs (s.tab.take k) ++ sesBs s.tab[k] = headBs s ++ tabBs (s.tab.take (k + 1))) := by
          show _ = _
          rw [tabBs_succ s.tab k hlt, List.append_assoc]
        have hBL : (headBs s ++ tabBs (s.tab.take k)).length ≤ 1000 := by
          have := tabBs_len (s.tab.take k) (fun o ho => (HFI.out o (List.mem_of_mem_take ho)).2)
          rw [List.length_append, hhl]
          have h3 : (s.tab.take k).length ≤ k := List.length_take_le ..
          omega
        clear hK0 hsf hs3
        generalize s.tab[k] = o at *
        go_wp2_with (first | (refine alloc59 rfl rfl ?_; intro w6 ob hBo hko hlo hgo) | (refine store59 rfl rfl ob rfl o ka o.kept.length kc rfl hBo ?_; intro w7 hS7 hT7) | (refine load59 rfl rfl ob rfl hS7 ?_))
        have k7 : Keeps wr w7 := But.to hko hgo hT7
        refine (put_session (w0 := w1) (headBs s ++ tabBs (s.tab.take k)) u5 o ka kc w7 (HKr.out.trans k7) (HO.out.keep k7) HKP.out HSF.out (by omega)).mono ?_
        rintro y w8 ⟨v8, rfl, hO8, hK8⟩
        rw [HS.out] at hO8
        have HO8 : Hid (BOwn w1.heap.size w8 v8 (headBs s ++ tabBs (s.tab.take (k + 1)))) := hO8
        have HK8 : Hid (Keeps w1 w8) := hK8
        clear hO8 hK8 k7 hBo hko hlo hgo hS7 hT7 HO HKr HKP HSF HS
        go_wp2_with fail
        go_roundw
        case rel => exact ⟨k + 1, by omega, by go_num, HO8, HK8⟩
        case measure => simp [intOf]; omega
      · have e : k = s.tab.length := by omega
        subst e
        have hO := HO.out
        rw [List.take_length] at hO
        have hO2 : BOwn w1.heap.size wr u5 (stBs s) := hO
        have hp : 0 < (stBs s).length := by unfold stBs; rw [List.length_append, hhl]; omega
        obtain ⟨g, cp, hv, hcv⟩ := hO2.conv hp
        subst hv
        generalize hn : (stBs s).length = n at *
        go_wp2_with fail
        go_ret2
        rw [HW1.out]
        exact ⟨rfl, HK.out.trans HKr.out⟩
end Go.Proofs.Yteabfjpajgakiad

/- The reference's StateBytes: laws. -/
set_option linter.unusedSimpArgs false
set_option linter.unusedVariables false
set_option maxRecDepth 10000
namespace Go.Proofs.Yteabfjpajgakiad
open Go.RowKit

/-- Bytes that are to be appended to v: they lie elsewhere. -/
structure Src (W : World) (v : Value) (g : Nat) (N : List UInt8) : Prop where
  cells : ∀ j u, (byCells N)[j]? = some u → W.cell? ((⟨g, 0, none⟩ : Addr).add j) = some u
  lt : g < W.heap.size
  ne : v.ownBlock ≠ some g
theorem add_zero (g j : Nat) : (⟨g, 0, none⟩ : Addr).add j = ⟨g, j, none⟩ := by unfold Addr.add; split <;> simp_all
theorem Src.same {W W' : World} {v v' : Value} {g : Nat} {N : List UInt8} (h : Src W v g N) (he : W'.heap[g]? = W.heap[g]?) (hs : W.heap.size ≤ W'.heap.size) (hn : v'.ownBlock ≠ some g) : Src W' v' g N :=
  ⟨fun j u hu => by
    rw [← h.cells j u hu, add_zero]
    exact World.cell?_of_block he, Nat.lt_of_lt_of_le h.lt hs, hn⟩
theorem Src.keep {W W' : World} {v : Value} {g : Nat} {N : List UInt8} (h : Src W v g N) (hk : Keeps W W') : Src W' v g N := h.same (hk.block g h.lt) hk.size h.ne
theorem Src.grow {W W' : World} {v v' : Value} {g : Nat} {N : List UInt8} (h : Src W v g N) (hg : GrowsTo W W' v v') : Src W' v' g N :=
  h.same (hg.grown.block g h.lt (fun e => h.ne e.symm)) hg.grown.size (fun e => by
    rcases hg.lies g e with h1 | h1
    · exact h.ne h1
    · have := h.lt; omega)
theorem Src.new {base : Nat} {W W' : World} {v : Value} {B : List UInt8} {g : Nat} {N : List UInt8} (hv : BOwn base W v B) (hc : ∀ j u, (byCells N)[j]? = some u → W'.cell? ((⟨g, 0, none⟩ : Addr).add j) = some u) (hl : g < W'.heap.size) (hg : W.heap.size ≤ g) : Src W' v g N :=
  ⟨hc, hl, fun e => by have := (hv.own e).2; omega⟩
theorem byte_two (n m : Int) (w : World) : (Instr.buildSlice 55 2 #[(0, .int .u8 n), (1, .int .u8 m)]).run Try.prog w = .ok (.slice (some ⟨w.heap.size, 0, none⟩) 2 2) (w.alloc (.cells #[.int .u8 n, .int .u8 m] 5)) := by kernel_rfl
theorem h_one {o : Oper} {a : Act} {w : World} {K : Act → World → Prop} {Q : Exit → Act → World → Prop} {x : Operand} (ho : o.op = .buildSlice 55 1 #[(0, x)]) {c : UInt8} (hx : a.eval x = .int .u8 (i8 c))
    (h : ∀ w' b, (∀ j u, (byCells [c])[j]? = some u → w'.cell? ((⟨b, 0, none⟩ : Addr).add j) = some u) → Keeps w w' → b < w'.heap.size → w.heap.size ≤ b → K (a.put o.dst (.slice (some ⟨b, 0, none⟩) 1 1)) w') : Wrp (o.wp Try.prog a w K Q) :=
  h_byte 0 (Nat.zero_le _) ho hx (fun w' b h1 h2 h3 h4 => h w' b h1.src h2 h3 h4)
theorem h_two {o : Oper} {a : Act} {w : World} {K : Act → World → Prop} {Q : Exit → Act → World → Prop} {x y : Operand} (ho : o.op = .buildSlice 55 2 #[(0, x), (1, y)]) {c d : UInt8} (hx : a.eval x = .int .u8 (i8 c)) (hy : a.eval y = .int .u8 (i8 d))
    (h : ∀ w' b, (∀ j u, (byCells [c, d])[j]? = some u → w'.cell? ((⟨b, 0, none⟩ : Addr).add j) = some u) → Keeps w w' → b < w'.heap.size → w.heap.size ≤ b → K (a.put o.dst (.slice (some ⟨b, 0, none⟩) 2 2)) w') : Wrp (o.wp Try.prog a w K Q) :=
  h_run (w' := w.alloc (.cells #[.int .u8 (i8 c), .int .u8 (i8 d)] 5)) (v := .slice (some ⟨w.heap.size, 0, none⟩) 2 2) (by
    have e := byte_two (i8 c) (i8 d) w
    simp only [execOp, ho]
    rw [show (#[(0, x), (1, y)].map fun (i, x) => (i, a.eval x)) = #[(0, .int .u8 (i8 c)), (1, .int .u8 (i8 d))] by simp [hx, hy]]
    simp only [Sem.run_bind, e, Result.andThen_ok, Sem.run_pure])
    (h _ w.heap.size (new_bytes w [c, d] 5) ((Keeps.refl _).alloc _) (by simp) (Nat.le_refl _))
theorem h_appb {o : Oper} {a : Act} {w : World} {K : Act → World → Prop} {Q : Exit → Act → World → Prop} (s x : Operand) (ho : o.op = .call { callee := .builtin .append, args := #[s, x], argTypes := #[55, 55] }) (base : Nat) (hb : base ≤ w.heap.size) (v : Value) (B : List UInt8) (hs : a.eval s = v) (hown : BOwn base w v B) (b c n : Nat) (N : List UInt8) (hn : n = N.length) (hx : a.eval x = .slice (some ⟨b, 0, none⟩) n c) (hN : ∀ j u, (byCells N)[j]? = some u → w.cell? ((⟨b, 0, none⟩ : Addr).add j) = some u) (hm : 0 < N.length) (hlen : B.length + N.length ≤ 100000)
    (h : ∀ v' w', BOwn base w' v' (B ++ N) → GrowsTo w w' v v' → K (a.put o.dst v') w') : Wrp (o.wp Try.prog a w K Q) := by
  subst hn
  obtain ⟨g, cap, w', hr, h2, h3⟩ := run_append_bytes w base hb o.type v B hown ⟨b, 0, none⟩ c N hN hm hlen
  generalize (Value.slice (some ⟨g, 0, none⟩) (B ++ N).length cap) = v' at hr h2 h3
  refine ⟨?_⟩
  unfold Oper.wp
  simp [execOp, ho, resolve, invoke, builtin, hs, hx, hr, Result.andThen]
  exact h _ w' h2 h3
theorem y_slice {ops : Array Oper} {S : World → Prop} {op : Oper} {a : Act} (hw : Region.wanted op (yielded ops a.tmps) = true) {x : Operand} (ho : op.op = .load 57 x) (b o : Nat) (hx : a.eval x = .pointer (some ⟨b, o, none⟩)) {v : Value} {cs : List Value} (hv : cs[o]? = some v) (hS : ∀ w, S w → CBox b cs w) : YieldsIf Try.prog ops S op v a :=
  .inl ⟨hw, fun w h => by
    have e := load_cell (P := Try.prog) (t := 57) ((hS w h).1 o v hv) (by kernel_rfl)
    unfold execOp
    simp only [ho, hx, Sem.run_bind, e, Result.andThen_ok, Sem.run_pure]⟩
theorem y_old {ops : Array Oper} {S : World → Prop} {op : Oper} {a : Act} (hw : Region.wanted op (yielded ops a.tmps) = true) {x : Operand} (ho : op.op = .load 3 x) (b o : Nat) (hx : a.eval x = .pointer (some ⟨b, o, none⟩)) {v : Value} (hS : ∀ w, S w → w.cell? ⟨b, o, none⟩ = some v) : YieldsIf Try.prog ops S op v a :=
  .inl ⟨hw, fun w h => by
    have e := load_cell (P := Try.prog) (t := 3) (hS w h) (by kernel_rfl)
    unfold execOp
    simp only [ho, hx, Sem.run_bind, e, Result.andThen_ok, Sem.run_pure]⟩
theorem ses_grow {w1 W W' : World} {v v' : Value} {B : List UInt8} {ob : Nat} {cs : List Value} (hS : Keeps w1 W ∧ CBox ob cs W) (hc : 0 < cs.length) (hv : BOwn w1.heap.size W v B) (hg : GrowsTo W W' v v') (hob : v.ownBlock ≠ some ob) : (Keeps w1 W' ∧ CBox ob cs W') ∧ v'.ownBlock ≠ some ob := by
  have hl := hS.2.lt hc
  refine ⟨⟨grow_keep2 hS.1 hv hg, hS.2.same (hg.grown.block ob hl (fun e => hob e.symm))⟩, fun e => ?_⟩
  rcases hg.lies ob e with h1 | h1
  · exact hob h1
  · omega
end Go.Proofs.Yteabfjpajgakiad

/- The reference's StateBytes. -/
set_option linter.unusedSimpArgs false
set_option linter.unusedVariables false
set_option maxRecDepth 10000
namespace Go.Proofs.Yteabfjpajgakiad
open Go.RowKit

set_option maxHeartbeats 8000000 in
theorem state_bytes (s : St) (x : Value) (w : World) (hT : TabAt w x s.tab) (he : stErr s = 0) : Calls Try.prog 11 #[stV s x] w fun y w' => y = .returned (.string (bt (stBs s))) ∧ Keeps w w' := by
  obtain ⟨xa, xc, rfl, _⟩ := hT.len
  have HT : Hid (TabAt w (.slice xa s.tab.length xc) s.tab) := hT
  clear hT
  obtain ⟨hfit, htl, hkl⟩ := st_fit he
  have HFI : Hid (∀ o ∈ s.tab, sesFit o ∧ o.kept.length ≤ 3) := fun o ho => ⟨hfit.2.2.2.2.2.2.2 o ho, hkl o ho⟩
  have HTC : Hid (∀ W, Calls Try.prog 36 #[.int .i64 s.clock] W fun y w' => ∃ b, y = .returned (.slice (some ⟨b, 0, none⟩) 2 2) ∧ (b < w'.heap.size ∧ ∀ j u, (byCells (wide s.clock))[j]? = some u → w'.cell? ((⟨b, 0, none⟩ : Addr).add j) = some u) ∧ Keeps W w' ∧ W.heap.size ≤ b) := fun W => two_bytes s.clock hfit.2.1.1 (by have := hfit.2.1.2; omega) W
  have HTV : Hid (∀ v ∈ ([s.v0, s.v1, s.v2, s.v3] : List Int), ∀ W, Calls Try.prog 36 #[.int .i64 v] W fun y w' => ∃ b, y = .returned (.slice (some ⟨b, 0, none⟩) 2 2) ∧ (b < w'.heap.size ∧ ∀ j u, (byCells (wide v))[j]? = some u → w'.cell? ((⟨b, 0, none⟩ : Addr).add j) = some u) ∧ Keeps W w' ∧ W.heap.size ≤ b) := fun v hv W => by
    obtain ⟨_, _, a, b, c, d, _⟩ := hfit
    have : 0 ≤ v ∧ v < 65536 := by
      simp only [List.mem_cons, List.not_mem_nil, or_false] at hv
      rcases hv with rfl | rfl | rfl | rfl
      · exact a
      · exact b
      · exact c
      · exact d
    exact two_bytes v this.1 (by omega) W
  clear hfit hkl he
  go_enter Try.func11, Try.ntmps11
  go_wp2_with (first | (refine box25 rfl rfl (s := s) (p := .slice xa s.tab.length xc) rfl ?_; intro w1 sb hBs hks hls hgs))
  have HS1 : Hid (CBox sb (C7 s (.slice xa s.tab.length xc)) w1) := hBs
  have HK1 : Hid (Keeps w w1) := hks
  have HT1 : Hid (TabAt w1 (.slice xa s.tab.length xc) s.tab) := HT.out.keep hks
  clear hBs hks hls hgs HT
  go_cut [3] (fun p wc => BOwn w1.heap.size wc p ([b8 s.at_] ++ wide s.clock) ∧ Keeps w1 wc)
  case first =>
    refine wp_region_held_drew (S := fun W => Keeps w1 W) (by kernel_rfl) (Keeps.refl _).drew (fun hS => ?_)
    obtain ⟨W0, hV0⟩ : ∃ z, z = w1.drew := ⟨_, rfl⟩
    rw [← hV0] at hS ⊢
    clear hV0
    refine wpAnyH_take (i := 0) (v := .pointer (some ⟨sb, 0, none⟩)) rfl (by kernel_rfl) (by kernel_rfl) (by kernel_rfl) (fun _ _ _ h => h) (Or.inl ⟨by kernel_rfl, fun w _ => by kernel_rfl⟩) hS ?_
    refine wpAnyH_take (i := 1) (v := .int .i64 s.at_) rfl (by kernel_rfl) (by kernel_rfl) (by kernel_rfl) (fun _ _ _ h => h) (y_cell (by kernel_rfl) rfl sb 0 (by kernel_rfl) (cs := C7 s (.slice xa s.tab.length xc)) rfl (fun W h => HS1.out.keep h (Nat.le_of_ble_eq_true rfl))) hS ?_
    refine wpAnyH_take (i := 2) (v := .int .u8 (i8 (b8 s.at_))) rfl (by kernel_rfl) (by kernel_rfl) (by kernel_rfl) (fun _ _ _ h => h) (Or.inl ⟨by kernel_rfl, fun w _ => Eq.trans (b := .ok (.value (.int .u8 (IntKind.u8.wrap s.at_))) w) (by kernel_rfl) (by rw [wrap_b8])⟩) hS ?_
    refine wpAnyH_take (i := 4) (v := .pointer (some ⟨sb, 1, none⟩)) rfl (by kernel_rfl) (by kernel_rfl) (by kernel_rfl) (fun _ _ _ h => h) (Or.inl ⟨by kernel_rfl, fun w _ => by kernel_rfl⟩) hS ?_
    refine wpAnyH_take (i := 5) (v := .int .i64 s.clock) rfl (by kernel_rfl) (by kernel_rfl) (by kernel_rfl) (fun _ _ _ h => h) (y_cell (by kernel_rfl) rfl sb 1 (by kernel_rfl) (cs := C7 s (.slice xa s.tab.length xc)) rfl (fun W h => HS1.out.keep h (Nat.le_of_ble_eq_true rfl))) hS ?_
    refine wpAnyH_ready (rs := [3, 6]) (by kernel_rfl) (by simp) ?_
    refine AllReadyH.wrp rfl (by kernel_rfl) (fun K hK => ?_) (AllReadyH.wrp rfl (by kernel_rfl) (fun K hK => ?_) (AllReadyH.nil))
    · refine h_byte w1.heap.size hS.size rfl (c := b8 s.at_) (by kernel_rfl) ?_
      intro W1 ga HA hk hAl hAg
      refine hK.out _ _ (hS.trans hk) (fun hS => ?_)
      clear hK K
      refine wpAnyH_ready (rs := [6]) (by kernel_rfl) (by simp) ?_
      refine AllReadyH.wrp rfl (by kernel_rfl) (fun K hK => ?_) (AllReadyH.nil)
      refine h_call ?_
      go_simp
      refine (HTC.out _).mono ?_
      rintro y W2 ⟨gt, rfl, ⟨hTl, HT⟩, hk, hTg⟩
      have HA2 := HA.keep hk
      go_simp
      refine hK.out _ _ (hS.trans hk) (fun hS => ?_)
      clear hK K
      refine wpAnyH_ready (rs := [7]) (by kernel_rfl) (by simp) ?_
      refine AllReadyH.wrp rfl (by kernel_rfl) (fun K hK => ?_) (AllReadyH.nil)
      refine h_appb _ _ rfl w1.heap.size hS.size (.slice (some ⟨ga, 0, none⟩) 1 1) [b8 s.at_] (by kernel_rfl) HA2 gt 2 2 (wide s.clock) rfl (by kernel_rfl) (HT) (Nat.le_of_ble_eq_true rfl) (Nat.le_of_ble_eq_true rfl) ?_
      intro v7 W3 HV hG
      have hSn := grow_keep2 hS HA2 hG
      refine hK.out _ _ hSn (fun hS => ?_)
      clear hK K
      refine wpAnyH_take (i := 8) (v := v7) rfl (by kernel_rfl) (by kernel_rfl) (by kernel_rfl) (fun _ _ _ h => h) (Or.inl ⟨by kernel_rfl, fun w _ => by kernel_rfl⟩) hS ?_
      refine wpAnyH_done (by kernel_rfl) ?_ _
      go_wp2_with fail
      go_meet
      exact ⟨HV, hS⟩
    · refine h_call ?_
      go_simp
      refine (HTC.out _).mono ?_
      rintro y W1 ⟨gt, rfl, ⟨hTl, HT⟩, hk, hTg⟩
      go_simp
      refine hK.out _ _ (hS.trans hk) (fun hS => ?_)
      clear hK K
      refine wpAnyH_ready (rs := [3]) (by kernel_rfl) (by simp) ?_
      refine AllReadyH.wrp rfl (by kernel_rfl) (fun K hK => ?_) (AllReadyH.nil)
      refine h_byte w1.heap.size hS.size rfl (c := b8 s.at_) (by kernel_rfl) ?_
      intro W2 ga HA hk hAl hAg
      have HT2 := src_keep HT hTl hk
      refine hK.out _ _ (hS.trans hk) (fun hS => ?_)
      clear hK K
      refine wpAnyH_ready (rs := [7]) (by kernel_rfl) (by simp) ?_
      refine AllReadyH.wrp rfl (by kernel_rfl) (fun K hK => ?_) (AllReadyH.nil)
      refine h_appb _ _ rfl w1.heap.size hS.size (.slice (some ⟨ga, 0, none⟩) 1 1) [b8 s.at_] (by kernel_rfl) HA gt 2 2 (wide s.clock) rfl (by kernel_rfl) (HT2) (Nat.le_of_ble_eq_true rfl) (Nat.le_of_ble_eq_true rfl) ?_
      intro v7 W3 HV hG
      have hSn := grow_keep2 hS HA hG
      refine hK.out _ _ hSn (fun hS => ?_)
      clear hK K
      refine wpAnyH_take (i := 8) (v := v7) rfl (by kernel_rfl) (by kernel_rfl) (by kernel_rfl) (fun _ _ _ h => h) (Or.inl ⟨by kernel_rfl, fun w _ => by kernel_rfl⟩) hS ?_
      refine wpAnyH_done (by kernel_rfl) ?_ _
      go_wp2_with fail
      go_meet
      exact ⟨HV, hS⟩
  case rest =>
    obtain ⟨hO, hk⟩ := hcut
    generalize wc = w2 at *
    have HO2 : Hid (BOwn w1.heap.size w2 u3 ([b8 s.at_] ++ wide s.clock)) := hO
    have HK2 : Hid (Keeps w1 w2) := hk
    clear hO hk HTC
    go_wp2_with fail
    go_loopw [3, 4] (fun b i wr => ∃ (k : Nat), k ≤ 4 ∧ i = .int .i64 k ∧ Hid (BOwn w1.heap.size wr b ([b8 s.at_] ++ wide s.clock ++ wides ([s.v0, s.v1, s.v2, s.v3].take k))) ∧ Hid (Keeps w1 wr)) (fun _ i _ => 4 - (intOf i).toNat)
    case atStart => exact ⟨0, by omega, rfl, by show BOwn _ _ _ (_ ++ []); rw [List.append_nil]; exact HO2.out, HK2⟩
    case round =>
      obtain ⟨k, hk, rfl, HO, HKr⟩ := hrel
      have hk5 : k = 0 ∨ k = 1 ∨ k = 2 ∨ k = 3 ∨ k = 4 := by omega
      rcases hk5 with rfl | rfl | rfl | rfl | rfl
      · have c2 := (HS1.out.keep HKr.out (Nat.le_of_ble_eq_true rfl)).1 2 _ rfl
        go_wp2_with fail
        refine (HTV.out s.v0 (by simp) wr).mono ?_
        rintro y v1 ⟨gt, rfl, ⟨hTl, hTc⟩, hb, hTg⟩
        have HO3 : Hid (BOwn w1.heap.size v1 u3 ([b8 s.at_] ++ wide s.clock ++ wides ([s.v0, s.v1, s.v2, s.v3].take 0))) := HO.out.keep hb
        have HK3 : Hid (Keeps w1 v1) := HKr.out.trans hb
        have HC3 : Hid (∀ j u, (byCells (wide s.v0))[j]? = some u → v1.cell? ((⟨gt, 0, none⟩ : Addr).add j) = some u) := hTc
        clear hb hTl hTc hTg HO HKr c2
        go_wp2_with (first | (refine app_bytes _ rfl _ _ rfl w1.heap.size HK3.out.size u3 ([b8 s.at_] ++ wide s.clock ++ wides ([s.v0, s.v1, s.v2, s.v3].take 0)) rfl HO3.out ⟨gt, 0, none⟩ 2 (wide s.v0) rfl HC3.out (Nat.le_of_ble_eq_true rfl) (Nat.le_of_ble_eq_true rfl) ?_; intro v4 w4 hO4 hG4))
        have HK4 : Hid (Keeps w1 w4) := grow_keep2 HK3.out HO3.out hG4
        go_roundw
        case rel => exact ⟨1, by omega, by go_num, (by have h := hO4; simp only [wides, List.take_succ_cons, List.take_zero, List.append_nil, List.append_assoc] at h ⊢; exact h), HK4⟩
        case measure => simp [intOf]
      · have c3 := (HS1.out.keep HKr.out (Nat.le_of_ble_eq_true rfl)).1 3 _ rfl
        go_wp2_with fail
        refine (HTV.out s.v1 (by simp) wr).mono ?_
        rintro y v1 ⟨gt, rfl, ⟨hTl, hTc⟩, hb, hTg⟩
        have HO3 : Hid (BOwn w1.heap.size v1 u3 ([b8 s.at_] ++ wide s.clock ++ wides ([s.v0, s.v1, s.v2, s.v3].take 1))) := HO.out.keep hb
        have HK3 : Hid (Keeps w1 v1) := HKr.out.trans hb
        have HC3 : Hid (∀ j u, (byCells (wide s.v1))[j]? = some u → v1.cell? ((⟨gt, 0, none⟩ : Addr).add j) = some u) := hTc
        clear hb hTl hTc hTg HO HKr c3
        go_wp2_with (first | (refine app_bytes _ rfl _ _ rfl w1.heap.size HK3.out.size u3 ([b8 s.at_] ++ wide s.clock ++ wides ([s.v0, s.v1, s.v2, s.v3].take 1)) rfl HO3.out ⟨gt, 0, none⟩ 2 (wide s.v1) rfl HC3.out (Nat.le_of_ble_eq_true rfl) (Nat.le_of_ble_eq_true rfl) ?_; intro v4 w4 hO4 hG4))
        have HK4 : Hid (Keeps w1 w4) := grow_keep2 HK3.out HO3.out hG4
        go_roundw
        case rel => exact ⟨2, by omega, by go_num, (by have h := hO4; simp only [wides, List.take_succ_cons, List.take_zero, List.append_nil, List.append_assoc] at h ⊢; exact h), HK4⟩
        case measure => simp [intOf]
      · have c4 := (HS1.out.keep HKr.out (Nat.le_of_ble_eq_true rfl)).1 4 _ rfl
        go_wp2_with fail
        refine (HTV.out s.v2 (by simp) wr).mono ?_
        rintro y v1 ⟨gt, rfl, ⟨hTl, hTc⟩, hb, hTg⟩
        have HO3 : Hid (BOwn w1.heap.size v1 u3 ([b8 s.at_] ++ wide s.clock ++ wides ([s.v0, s.v1, s.v2, s.v3].take 2))) := HO.out.keep hb
        have HK3 : Hid (Keeps w1 v1) := HKr.out.trans hb
        have HC3 : Hid (∀ j u, (byCells (wide s.v2))[j]? = some u → v1.cell? ((⟨gt, 0, none⟩ : Addr).add j) = some u) := hTc
        clear hb hTl hTc hTg HO HKr c4
        go_wp2_with (first | (refine app_bytes _ rfl _ _ rfl w1.heap.size HK3.out.size u3 ([b8 s.at_] ++ wide s.clock ++ wides ([s.v0, s.v1, s.v2, s.v3].take 2)) rfl HO3.out ⟨gt, 0, none⟩ 2 (wide s.v2) rfl HC3.out (Nat.le_of_ble_eq_true rfl) (Nat.le_of_ble_eq_true rfl) ?_; intro v4 w4 hO4 hG4))
        have HK4 : Hid (Keeps w1 w4) := grow_keep2 HK3.out HO3.out hG4
        go_roundw
        case rel => exact ⟨3, by omega, by go_num, (by have h := hO4; simp only [wides, List.take_succ_cons, List.take_zero, List.append_nil, List.append_assoc] at h ⊢; exact h), HK4⟩
        case measure => simp [intOf]
      · have c5 := (HS1.out.keep HKr.out (Nat.le_of_ble_eq_true rfl)).1 5 _ rfl
        go_wp2_with fail
        refine (HTV.out s.v3 (by simp) wr).mono ?_
        rintro y v1 ⟨gt, rfl, ⟨hTl, hTc⟩, hb, hTg⟩
        have HO3 : Hid (BOwn w1.heap.size v1 u3 ([b8 s.at_] ++ wide s.clock ++ wides ([s.v0, s.v1, s.v2, s.v3].take 3))) := HO.out.keep hb
        have HK3 : Hid (Keeps w1 v1) := HKr.out.trans hb
        have HC3 : Hid (∀ j u, (byCells (wide s.v3))[j]? = some u → v1.cell? ((⟨gt, 0, none⟩ : Addr).add j) = some u) := hTc
        clear hb hTl hTc hTg HO HKr c5
        go_wp2_with (first | (refine app_bytes _ rfl _ _ rfl w1.heap.size HK3.out.size u3 ([b8 s.at_] ++ wide s.clock ++ wides ([s.v0, s.v1, s.v2, s.v3].take 3)) rfl HO3.out ⟨gt, 0, none⟩ 2 (wide s.v3) rfl HC3.out (Nat.le_of_ble_eq_true rfl) (Nat.le_of_ble_eq_true rfl) ?_; intro v4 w4 hO4 hG4))
        have HK4 : Hid (Keeps w1 w4) := grow_keep2 HK3.out HO3.out hG4
        go_roundw
        case rel => exact ⟨4, by omega, by go_num, (by have h := hO4; simp only [wides, List.take_succ_cons, List.take_zero, List.append_nil, List.append_assoc] at h ⊢; exact h), HK4⟩
        case measure => simp [intOf]
      · have HO4 : Hid (BOwn w1.heap.size wr u3 ([b8 s.at_] ++ wide s.clock ++ (wide s.v0 ++ wide s.v1 ++ wide s.v2 ++ wide s.v3))) := by
          have h := HO.out
          simp only [wides, List.take_succ_cons, List.take_zero, List.append_nil, List.append_assoc] at h ⊢
          exact h
        have c6 := (HS1.out.keep HKr.out (Nat.le_of_ble_eq_true rfl)).1 6 _ rfl
        have hwl : IntKind.u8.wrap (s.tab.length : Int) = i8 (b8 (s.tab.length : Int)) := wrap_b8 _
        clear HO
        go_wp2_with (first | (refine app_bytes _ rfl _ _ rfl w1.heap.size (Nat.le_trans HKr.out.size (by simp)) u3 ([b8 s.at_] ++ wide s.clock ++ (wide s.v0 ++ wide s.v1 ++ wide s.v2 ++ wide s.v3)) rfl (HO4.out.keep ((Keeps.refl _).alloc _)) ⟨wr.heap.size, 0, none⟩ 1 [b8 (s.tab.length : Int)] rfl (new_byte rfl) (Nat.le_of_ble_eq_true rfl) (Nat.le_of_ble_eq_true rfl) ?_; intro v5 w5 hO5 hG5))
        have HO5 : Hid (BOwn w1.heap.size w5 v5 (headBs s)) := by
          have h := hO5
          unfold headBs
          simp only [List.append_assoc] at h ⊢
          exact h
        have HK5 : Hid (Keeps w1 w5) := grow_keep HKr.out HO4.out hG5
        clear hO5 hG5 HO4 HKr c6 hwl HTV
        have HB0 : Hid (tabBs (s.tab.take 0) = []) := by show _ = _; rw [List.take_zero]; rfl
        have hhl : (headBs s).length = 12 := by simp [headBs, wide]
        go_loopw [3, 5] (fun b i wr => ∃ (k : Nat), k ≤ s.tab.length ∧ i = .int .i64 k ∧ Hid (BOwn w1.heap.size wr b (headBs s ++ tabBs (s.tab.take k))) ∧ Hid (Keeps w1 wr)) (fun _ i _ => s.tab.length - (intOf i).toNat)
        case atStart => exact ⟨0, Nat.zero_le _, rfl, by rw [HB0.out, List.append_nil]; exact HO5.out, HK5⟩
        case round =>
          obtain ⟨k, hk, rfl, HO, HKr⟩ := hrel
          have c6 := (HS1.out.keep HKr.out (Nat.le_of_ble_eq_true rfl)).1 6 _ rfl
          by_cases hlt : k < s.tab.length
          · obtain ⟨b1, o1, p1, hv1, hcs⟩ := (HT1.out.keep HKr.out).at hlt
            obtain ⟨d0, d1, d2, ka, kc, d3, _⟩ := hcs k hlt
            obtain ⟨b0, o0, p0, hv0, hcs0⟩ := HT1.out.at hlt
            obtain ⟨_, _, _, ka0, kc0, e3, hK0⟩ := hcs0 k hlt
            have he : (.slice ka s.tab[k].kept.length kc : Value) = .slice ka0 s.tab[k].kept.length kc0 := by
              have h1 : (.slice (some ⟨b1, o1, none⟩) s.tab.length p1 : Value) = .slice (some ⟨b0, o0, none⟩) s.tab.length p0 := hv1.symm.trans hv0
              injection h1 with h1 _ _
              injection h1 with h1
              injection h1 with h1 h2 _
              subst h1 h2
              have := (HKr.out.cells).1 b1 (o1 + k * 4 + 3) (World.block_lt_of_cell? _ _ e3)
              rw [d3, e3] at this
              injection this
            rw [← he] at hK0
            injection hv1 with hv1 ea eb
            subst hv1
            clear ea eb hcs hcs0 hv0 e3 he
            have HKP : Hid (KeptAt w1 (.slice ka s.tab[k].kept.length kc) s.tab[k].kept) := hK0
            obtain ⟨hsf, hs3⟩ := HFI.out s.tab[k] (List.getElem_mem hlt)
            have HTS : Hid (∀ W, Calls Try.prog 36 #[.int .i64 s.tab[k].seen] W fun y w' => ∃ b, y = .returned (.slice (some ⟨b, 0, none⟩) 2 2) ∧ (b < w'.heap.size ∧ ∀ j u, (byCells (wide s.tab[k].seen))[j]? = some u → w'.cell? ((⟨b, 0, none⟩ : Addr).add j) = some u) ∧ Keeps W w' ∧ W.heap.size ≤ b) := fun W => two_bytes _ hsf.2.2.1.1 (by have := hsf.2.2.1.2; omega) W
            have HSF : Hid (repFit s.tab[k].kept) := hsf.2.2.2.2
            have HSX : Hid (headBs s ++ tabBs (s.tab.take k) ++ sesBs s.tab[k] = headBs s ++ tabBs (s.tab.take (k + 1))) := by
              show _ = _
              rw [tabBs_succ s.tab k hlt, List.append_assoc]
            obtain ⟨BX, hBX⟩ : ∃ z, z = headBs s ++ tabBs (s.tab.take k) := ⟨_, rfl⟩
            have hBL : BX.length ≤ 1000 := by
              have := tabBs_len (s.tab.take k) (fun o ho => (HFI.out o (List.mem_of_mem_take ho)).2)
              rw [hBX, List.length_append, hhl]
              have h3 : (s.tab.take k).length ≤ k := List.length_take_le ..
              omega
            rw [← hBX] at HO HSX
            clear hK0 hsf hBX
            generalize s.tab[k] = o at *
            go_wp2_with (first | (refine alloc59 rfl rfl ?_; intro w3 ob hBo hko hlo hgo) | (refine store59 rfl rfl ob rfl o ka o.kept.length kc rfl hBo ?_; intro w4 hS4 hT4))
            have k4 : Keeps wr w4 := But.to hko hgo hT4
            have HVX : Hid (BOwn w1.heap.size w4 u3 BX) := HO.out.keep k4
            have HS4 : Hid (Keeps w1 w4.drew ∧ CBox ob (S4 o (.slice ka o.kept.length kc)) w4.drew) := ⟨(HKr.out.trans k4).drew, hS4.keep (Keeps.refl _).drew (Nat.le_of_ble_eq_true rfl)⟩
            have hob : u3.ownBlock ≠ some ob := fun e => by have := (HO.out.own e).2; omega
            clear k4 hBo hko hlo hgo hS4 hT4 HO HKr d0 d1 d2 d3 c6
            go_simp
            go_cut [3] (fun p wc => BOwn w1.heap.size wc p (BX ++ [b8 o.client, b8 o.acked] ++ wide o.seen ++ [b8 (o.kept.length : Int)]) ∧ (Keeps w1 wc ∧ CBox ob (S4 o (.slice ka o.kept.length kc)) wc) ∧ p.ownBlock ≠ some ob)
            case first =>
              refine wp_region_held_drew (S := fun W => Keeps w1 W ∧ CBox ob (S4 o (.slice ka o.kept.length kc)) W) (by kernel_rfl) HS4.out (fun hS => ?_)
              have HV0 := HVX.out.keep ((Keeps.refl w4).drew)
              obtain ⟨W0, hV0⟩ : ∃ z, z = w4.drew := ⟨_, rfl⟩
              rw [← hV0] at hS HV0 ⊢
              clear hV0
              refine wpAnyH_take (i := 0) (v := u3) rfl (by kernel_rfl) (by kernel_rfl) (by kernel_rfl) (fun _ _ _ h => h) (Or.inl ⟨by kernel_rfl, fun w _ => by kernel_rfl⟩) hS ?_
              refine wpAnyH_take (i := 1) (v := .pointer (some ⟨ob, 0, none⟩)) rfl (by kernel_rfl) (by kernel_rfl) (by kernel_rfl) (fun _ _ _ h => h) (Or.inl ⟨by kernel_rfl, fun w _ => by kernel_rfl⟩) hS ?_
              refine wpAnyH_take (i := 2) (v := .int .i64 o.client) rfl (by kernel_rfl) (by kernel_rfl) (by kernel_rfl) (fun _ _ _ h => h) (y_cell (by kernel_rfl) rfl ob 0 (by kernel_rfl) (cs := S4 o (.slice ka o.kept.length kc)) rfl (fun W h => h.2)) hS ?_
              refine wpAnyH_take (i := 3) (v := .int .u8 (i8 (b8 o.client))) rfl (by kernel_rfl) (by kernel_rfl) (by kernel_rfl) (fun _ _ _ h => h) (Or.inl ⟨by kernel_rfl, fun w _ => Eq.trans (b := .ok (.value (.int .u8 (IntKind.u8.wrap o.client))) w) (by kernel_rfl) (by rw [wrap_b8])⟩) hS ?_
              refine wpAnyH_take (i := 4) (v := .pointer (some ⟨ob, 1, none⟩)) rfl (by kernel_rfl) (by kernel_rfl) (by kernel_rfl) (fun _ _ _ h => h) (Or.inl ⟨by kernel_rfl, fun w _ => by kernel_rfl⟩) hS ?_
              refine wpAnyH_take (i := 5) (v := .int .i64 o.acked) rfl (by kernel_rfl) (by kernel_rfl) (by kernel_rfl) (fun _ _ _ h => h) (y_cell (by kernel_rfl) rfl ob 1 (by kernel_rfl) (cs := S4 o (.slice ka o.kept.length kc)) rfl (fun W h => h.2)) hS ?_
              refine wpAnyH_take (i := 6) (v := .int .u8 (i8 (b8 o.acked))) rfl (by kernel_rfl) (by kernel_rfl) (by kernel_rfl) (fun _ _ _ h => h) (Or.inl ⟨by kernel_rfl, fun w _ => Eq.trans (b := .ok (.value (.int .u8 (IntKind.u8.wrap o.acked))) w) (by kernel_rfl) (by rw [wrap_b8])⟩) hS ?_
              refine wpAnyH_take (i := 9) (v := .pointer (some ⟨ob, 2, none⟩)) rfl (by kernel_rfl) (by kernel_rfl) (by kernel_rfl) (fun _ _ _ h => h) (Or.inl ⟨by kernel_rfl, fun w _ => by kernel_rfl⟩) hS ?_
              refine wpAnyH_take (i := 10) (v := .int .i64 o.seen) rfl (by kernel_rfl) (by kernel_rfl) (by kernel_rfl) (fun _ _ _ h => h) (y_cell (by kernel_rfl) rfl ob 2 (by kernel_rfl) (cs := S4 o (.slice ka o.kept.length kc)) rfl (fun W h => h.2)) hS ?_
              refine wpAnyH_take (i := 13) (v := .pointer (some ⟨ob, 3, none⟩)) rfl (by kernel_rfl) (by kernel_rfl) (by kernel_rfl) (fun _ _ _ h => h) (Or.inl ⟨by kernel_rfl, fun w _ => by kernel_rfl⟩) hS ?_
              refine wpAnyH_take (i := 14) (v := .slice ka o.kept.length kc) rfl (by kernel_rfl) (by kernel_rfl) (by kernel_rfl) (fun _ _ _ h => h) (y_slice (by kernel_rfl) rfl ob 3 (by kernel_rfl) (cs := S4 o (.slice ka o.kept.length kc)) rfl (fun W h => h.2)) hS ?_
              refine wpAnyH_take (i := 15) (v := .int .i64 (o.kept.length : Int)) rfl (by kernel_rfl) (by kernel_rfl) (by kernel_rfl) (fun _ _ _ h => h) (Or.inl ⟨by kernel_rfl, ?_⟩) hS ?_
              · intro w hS; go_simp
              refine wpAnyH_take (i := 16) (v := .int .u8 (i8 (b8 (o.kept.length : Int)))) rfl (by kernel_rfl) (by kernel_rfl) (by kernel_rfl) (fun _ _ _ h => h) (Or.inl ⟨by kernel_rfl, fun w _ => Eq.trans (b := .ok (.value (.int .u8 (IntKind.u8.wrap (o.kept.length : Int)))) w) (by kernel_rfl) (by rw [wrap_b8])⟩) hS ?_
              refine wpAnyH_ready (rs := [7, 17]) (by kernel_rfl) (by simp) ?_
              refine AllReadyH.wrp rfl (by kernel_rfl) (fun K hK => ?_) (AllReadyH.wrp rfl (by kernel_rfl) (fun K hK => ?_) (AllReadyH.nil))
              · refine h_two rfl (c := b8 o.client) (d := b8 o.acked) (by kernel_rfl) (by kernel_rfl) ?_
                intro W1 g7 hc hk hl hg
                have HV1 := HV0.keep hk
                have H7_1 : Src W1 u3 g7 [b8 o.client, b8 o.acked] := Src.new HV0 hc hl hg
                refine hK.out _ _ (⟨hS.1.trans hk, hS.2.keep hk (Nat.le_of_ble_eq_true rfl)⟩) (fun hS => ?_)
                clear hK K
                clear hc hk hl hg
                refine wpAnyH_ready (rs := [8, 17]) (by kernel_rfl) (by simp) ?_
                refine AllReadyH.wrp rfl (by kernel_rfl) (fun K hK => ?_) (AllReadyH.wrp rfl (by kernel_rfl) (fun K hK => ?_) (AllReadyH.nil))
                · refine h_appb _ _ rfl w1.heap.size (hS.1.size) u3 (BX) (by kernel_rfl) HV1 g7 2 2 ([b8 o.client, b8 o.acked]) rfl (by kernel_rfl) H7_1.cells (Nat.le_of_ble_eq_true rfl) (by simp [wide]; omega) ?_
                  intro v8 W2 HV2 hG
                  have hSn := ses_grow hS (Nat.le_of_ble_eq_true rfl) HV1 hG hob
                  have hob := hSn.2
                  refine hK.out _ _ hSn.1 (fun hS => ?_)
                  clear hK K
                  clear hG hSn
                  refine wpAnyH_ready (rs := [11, 17]) (by kernel_rfl) (by simp) ?_
                  refine AllReadyH.wrp rfl (by kernel_rfl) (fun K hK => ?_) (AllReadyH.wrp rfl (by kernel_rfl) (fun K hK => ?_) (AllReadyH.nil))
                  · refine h_call ?_
                    go_simp
                    refine (HTS.out _).mono ?_
                    rintro y W3 ⟨g11, rfl, ⟨hl, hc⟩, hk, hg⟩
                    have HV3 := HV2.keep hk
                    have H11_3 : Src W3 v8 g11 (wide o.seen) := Src.new HV2 hc hl hg
                    go_simp
                    refine hK.out _ _ (⟨hS.1.trans hk, hS.2.keep hk (Nat.le_of_ble_eq_true rfl)⟩) (fun hS => ?_)
                    clear hK K
                    clear hc hk hl hg
                    refine wpAnyH_ready (rs := [12, 17]) (by kernel_rfl) (by simp) ?_
                    refine AllReadyH.wrp rfl (by kernel_rfl) (fun K hK => ?_) (AllReadyH.wrp rfl (by kernel_rfl) (fun K hK => ?_) (AllReadyH.nil))
                    · refine h_appb _ _ rfl w1.heap.size (hS.1.size) v8 (BX ++ [b8 o.client, b8 o.acked]) (by kernel_rfl) HV3 g11 2 2 (wide o.seen) rfl (by kernel_rfl) H11_3.cells (Nat.le_of_ble_eq_true rfl) (by simp [wide]; omega) ?_
                      intro v12 W4 HV4 hG
                      have hSn := ses_grow hS (Nat.le_of_ble_eq_true rfl) HV3 hG hob
                      have hob := hSn.2
                      refine hK.out _ _ hSn.1 (fun hS => ?_)
                      clear hK K
                      clear hG hSn
                      refine wpAnyH_ready (rs := [17]) (by kernel_rfl) (by simp) ?_
                      refine AllReadyH.wrp rfl (by kernel_rfl) (fun K hK => ?_) (AllReadyH.nil)
                      refine h_one rfl (c := b8 (o.kept.length : Int)) (by kernel_rfl) ?_
                      intro W5 g17 hc hk hl hg
                      have HV5 := HV4.keep hk
                      have H17_5 : Src W5 v12 g17 [b8 (o.kept.length : Int)] := Src.new HV4 hc hl hg
                      refine hK.out _ _ (⟨hS.1.trans hk, hS.2.keep hk (Nat.le_of_ble_eq_true rfl)⟩) (fun hS => ?_)
                      clear hK K
                      clear hc hk hl hg
                      refine wpAnyH_ready (rs := [18]) (by kernel_rfl) (by simp) ?_
                      refine AllReadyH.wrp rfl (by kernel_rfl) (fun K hK => ?_) (AllReadyH.nil)
                      refine h_appb _ _ rfl w1.heap.size (hS.1.size) v12 (BX ++ [b8 o.client, b8 o.acked] ++ wide o.seen) (by kernel_rfl) HV5 g17 1 1 ([b8 (o.kept.length : Int)]) rfl (by kernel_rfl) H17_5.cells (Nat.le_of_ble_eq_true rfl) (by simp [wide]; omega) ?_
                      intro v18 W6 HV6 hG
                      have hSn := ses_grow hS (Nat.le_of_ble_eq_true rfl) HV5 hG hob
                      have hob := hSn.2
                      refine hK.out _ _ hSn.1 (fun hS => ?_)
                      clear hK K
                      clear hG hSn
                      refine wpAnyH_take (i := 19) (v := v18) rfl (by kernel_rfl) (by kernel_rfl) (by kernel_rfl) (fun _ _ _ h => h) (Or.inl ⟨by kernel_rfl, fun w _ => by kernel_rfl⟩) hS ?_
                      refine wpAnyH_done (by kernel_rfl) ?_ _
                      go_wp2_with fail
                      go_meet
                      exact ⟨HV6, hS, hob⟩
                    · refine h_one rfl (c := b8 (o.kept.length : Int)) (by kernel_rfl) ?_
                      intro W4 g17 hc hk hl hg
                      have HV4 := HV3.keep hk
                      have H11_4 := H11_3.keep hk
                      have H17_4 : Src W4 v8 g17 [b8 (o.kept.length : Int)] := Src.new HV3 hc hl hg
                      refine hK.out _ _ (⟨hS.1.trans hk, hS.2.keep hk (Nat.le_of_ble_eq_true rfl)⟩) (fun hS => ?_)
                      clear hK K
                      clear hc hk hl hg
                      refine wpAnyH_ready (rs := [12]) (by kernel_rfl) (by simp) ?_
                      refine AllReadyH.wrp rfl (by kernel_rfl) (fun K hK => ?_) (AllReadyH.nil)
                      refine h_appb _ _ rfl w1.heap.size (hS.1.size) v8 (BX ++ [b8 o.client, b8 o.acked]) (by kernel_rfl) HV4 g11 2 2 (wide o.seen) rfl (by kernel_rfl) H11_4.cells (Nat.le_of_ble_eq_true rfl) (by simp [wide]; omega) ?_
                      intro v12 W5 HV5 hG
                      have H17_5 := H17_4.grow hG
                      have hSn := ses_grow hS (Nat.le_of_ble_eq_true rfl) HV4 hG hob
                      have hob := hSn.2
                      refine hK.out _ _ hSn.1 (fun hS => ?_)
                      clear hK K
                      clear hG hSn
                      refine wpAnyH_ready (rs := [18]) (by kernel_rfl) (by simp) ?_
                      refine AllReadyH.wrp rfl (by kernel_rfl) (fun K hK => ?_) (AllReadyH.nil)
                      refine h_appb _ _ rfl w1.heap.size (hS.1.size) v12 (BX ++ [b8 o.client, b8 o.acked] ++ wide o.seen) (by kernel_rfl) HV5 g17 1 1 ([b8 (o.kept.length : Int)]) rfl (by kernel_rfl) H17_5.cells (Nat.le_of_ble_eq_true rfl) (by simp [wide]; omega) ?_
                      intro v18 W6 HV6 hG
                      have hSn := ses_grow hS (Nat.le_of_ble_eq_true rfl) HV5 hG hob
                      have hob := hSn.2
                      refine hK.out _ _ hSn.1 (fun hS => ?_)
                      clear hK K
                      clear hG hSn
                      refine wpAnyH_take (i := 19) (v := v18) rfl (by kernel_rfl) (by kernel_rfl) (by kernel_rfl) (fun _ _ _ h => h) (Or.inl ⟨by kernel_rfl, fun w _ => by kernel_rfl⟩) hS ?_
                      refine wpAnyH_done (by kernel_rfl) ?_ _
                      go_wp2_with fail
                      go_meet
                      exact ⟨HV6, hS, hob⟩
                  · refine h_one rfl (c := b8 (o.kept.length : Int)) (by kernel_rfl) ?_
                    intro W3 g17 hc hk hl hg
                    have HV3 := HV2.keep hk
                    have H17_3 : Src W3 v8 g17 [b8 (o.kept.length : Int)] := Src.new HV2 hc hl hg
                    refine hK.out _ _ (⟨hS.1.trans hk, hS.2.keep hk (Nat.le_of_ble_eq_true rfl)⟩) (fun hS => ?_)
                    clear hK K
                    clear hc hk hl hg
                    refine wpAnyH_ready (rs := [11]) (by kernel_rfl) (by simp) ?_
                    refine AllReadyH.wrp rfl (by kernel_rfl) (fun K hK => ?_) (AllReadyH.nil)
                    refine h_call ?_
                    go_simp
                    refine (HTS.out _).mono ?_
                    rintro y W4 ⟨g11, rfl, ⟨hl, hc⟩, hk, hg⟩
                    have HV4 := HV3.keep hk
                    have H17_4 := H17_3.keep hk
                    have H11_4 : Src W4 v8 g11 (wide o.seen) := Src.new HV3 hc hl hg
                    go_simp
                    refine hK.out _ _ (⟨hS.1.trans hk, hS.2.keep hk (Nat.le_of_ble_eq_true rfl)⟩) (fun hS => ?_)
                    clear hK K
                    clear hc hk hl hg
                    refine wpAnyH_ready (rs := [12]) (by kernel_rfl) (by simp) ?_
                    refine AllReadyH.wrp rfl (by kernel_rfl) (fun K hK => ?_) (AllReadyH.nil)
                    refine h_appb _ _ rfl w1.heap.size (hS.1.size) v8 (BX ++ [b8 o.client, b8 o.acked]) (by kernel_rfl) HV4 g11 2 2 (wide o.seen) rfl (by kernel_rfl) H11_4.cells (Nat.le_of_ble_eq_true rfl) (by simp [wide]; omega) ?_
                    intro v12 W5 HV5 hG
                    have H17_5 := H17_4.grow hG
                    have hSn := ses_grow hS (Nat.le_of_ble_eq_true rfl) HV4 hG hob
                    have hob := hSn.2
                    refine hK.out _ _ hSn.1 (fun hS => ?_)
                    clear hK K
                    clear hG hSn
                    refine wpAnyH_ready (rs := [18]) (by kernel_rfl) (by simp) ?_
                    refine AllReadyH.wrp rfl (by kernel_rfl) (fun K hK => ?_) (AllReadyH.nil)
                    refine h_appb _ _ rfl w1.heap.size (hS.1.size) v12 (BX ++ [b8 o.client, b8 o.acked] ++ wide o.seen) (by kernel_rfl) HV5 g17 1 1 ([b8 (o.kept.length : Int)]) rfl (by kernel_rfl) H17_5.cells (Nat.le_of_ble_eq_true rfl) (by simp [wide]; omega) ?_
                    intro v18 W6 HV6 hG
                    have hSn := ses_grow hS (Nat.le_of_ble_eq_true rfl) HV5 hG hob
                    have hob := hSn.2
                    refine hK.out _ _ hSn.1 (fun hS => ?_)
                    clear hK K
                    clear hG hSn
                    refine wpAnyH_take (i := 19) (v := v18) rfl (by kernel_rfl) (by kernel_rfl) (by kernel_rfl) (fun _ _ _ h => h) (Or.inl ⟨by kernel_rfl, fun w _ => by kernel_rfl⟩) hS ?_
                    refine wpAnyH_done (by kernel_rfl) ?_ _
                    go_wp2_with fail
                    go_meet
                    exact ⟨HV6, hS, hob⟩
                · refine h_one rfl (c := b8 (o.kept.length : Int)) (by kernel_rfl) ?_
                  intro W2 g17 hc hk hl hg
                  have HV2 := HV1.keep hk
                  have H7_2 := H7_1.keep hk
                  have H17_2 : Src W2 u3 g17 [b8 (o.kept.length : Int)] := Src.new HV1 hc hl hg
                  refine hK.out _ _ (⟨hS.1.trans hk, hS.2.keep hk (Nat.le_of_ble_eq_true rfl)⟩) (fun hS => ?_)
                  clear hK K
                  clear hc hk hl hg
                  refine wpAnyH_ready (rs := [8]) (by kernel_rfl) (by simp) ?_
                  refine AllReadyH.wrp rfl (by kernel_rfl) (fun K hK => ?_) (AllReadyH.nil)
                  refine h_appb _ _ rfl w1.heap.size (hS.1.size) u3 (BX) (by kernel_rfl) HV2 g7 2 2 ([b8 o.client, b8 o.acked]) rfl (by kernel_rfl) H7_2.cells (Nat.le_of_ble_eq_true rfl) (by simp [wide]; omega) ?_
                  intro v8 W3 HV3 hG
                  have H17_3 := H17_2.grow hG
                  have hSn := ses_grow hS (Nat.le_of_ble_eq_true rfl) HV2 hG hob
                  have hob := hSn.2
                  refine hK.out _ _ hSn.1 (fun hS => ?_)
                  clear hK K
                  clear hG hSn
                  refine wpAnyH_ready (rs := [11]) (by kernel_rfl) (by simp) ?_
                  refine AllReadyH.wrp rfl (by kernel_rfl) (fun K hK => ?_) (AllReadyH.nil)
                  refine h_call ?_
                  go_simp
                  refine (HTS.out _).mono ?_
                  rintro y W4 ⟨g11, rfl, ⟨hl, hc⟩, hk, hg⟩
                  have HV4 := HV3.keep hk
                  have H17_4 := H17_3.keep hk
                  have H11_4 : Src W4 v8 g11 (wide o.seen) := Src.new HV3 hc hl hg
                  go_simp
                  refine hK.out _ _ (⟨hS.1.trans hk, hS.2.keep hk (Nat.le_of_ble_eq_true rfl)⟩) (fun hS => ?_)
                  clear hK K
                  clear hc hk hl hg
                  refine wpAnyH_ready (rs := [12]) (by kernel_rfl) (by simp) ?_
                  refine AllReadyH.wrp rfl (by kernel_rfl) (fun K hK => ?_) (AllReadyH.nil)
                  refine h_appb _ _ rfl w1.heap.size (hS.1.size) v8 (BX ++ [b8 o.client, b8 o.acked]) (by kernel_rfl) HV4 g11 2 2 (wide o.seen) rfl (by kernel_rfl) H11_4.cells (Nat.le_of_ble_eq_true rfl) (by simp [wide]; omega) ?_
                  intro v12 W5 HV5 hG
                  have H17_5 := H17_4.grow hG
                  have hSn := ses_grow hS (Nat.le_of_ble_eq_true rfl) HV4 hG hob
                  have hob := hSn.2
                  refine hK.out _ _ hSn.1 (fun hS => ?_)
                  clear hK K
                  clear hG hSn
                  refine wpAnyH_ready (rs := [18]) (by kernel_rfl) (by simp) ?_
                  refine AllReadyH.wrp rfl (by kernel_rfl) (fun K hK => ?_) (AllReadyH.nil)
                  refine h_appb _ _ rfl w1.heap.size (hS.1.size) v12 (BX ++ [b8 o.client, b8 o.acked] ++ wide o.seen) (by kernel_rfl) HV5 g17 1 1 ([b8 (o.kept.length : Int)]) rfl (by kernel_rfl) H17_5.cells (Nat.le_of_ble_eq_true rfl) (by simp [wide]; omega) ?_
                  intro v18 W6 HV6 hG
                  have hSn := ses_grow hS (Nat.le_of_ble_eq_true rfl) HV5 hG hob
                  have hob := hSn.2
                  refine hK.out _ _ hSn.1 (fun hS => ?_)
                  clear hK K
                  clear hG hSn
                  refine wpAnyH_take (i := 19) (v := v18) rfl (by kernel_rfl) (by kernel_rfl) (by kernel_rfl) (fun _ _ _ h => h) (Or.inl ⟨by kernel_rfl, fun w _ => by kernel_rfl⟩) hS ?_
                  refine wpAnyH_done (by kernel_rfl) ?_ _
                  go_wp2_with fail
                  go_meet
                  exact ⟨HV6, hS, hob⟩
              · refine h_one rfl (c := b8 (o.kept.length : Int)) (by kernel_rfl) ?_
                intro W1 g17 hc hk hl hg
                have HV1 := HV0.keep hk
                have H17_1 : Src W1 u3 g17 [b8 (o.kept.length : Int)] := Src.new HV0 hc hl hg
                refine hK.out _ _ (⟨hS.1.trans hk, hS.2.keep hk (Nat.le_of_ble_eq_true rfl)⟩) (fun hS => ?_)
                clear hK K
                clear hc hk hl hg
                refine wpAnyH_ready (rs := [7]) (by kernel_rfl) (by simp) ?_
                refine AllReadyH.wrp rfl (by kernel_rfl) (fun K hK => ?_) (AllReadyH.nil)
                refine h_two rfl (c := b8 o.client) (d := b8 o.acked) (by kernel_rfl) (by kernel_rfl) ?_
                intro W2 g7 hc hk hl hg
                have HV2 := HV1.keep hk
                have H17_2 := H17_1.keep hk
                have H7_2 : Src W2 u3 g7 [b8 o.client, b8 o.acked] := Src.new HV1 hc hl hg
                refine hK.out _ _ (⟨hS.1.trans hk, hS.2.keep hk (Nat.le_of_ble_eq_true rfl)⟩) (fun hS => ?_)
                clear hK K
                clear hc hk hl hg
                refine wpAnyH_ready (rs := [8]) (by kernel_rfl) (by simp) ?_
                refine AllReadyH.wrp rfl (by kernel_rfl) (fun K hK => ?_) (AllReadyH.nil)
                refine h_appb _ _ rfl w1.heap.size (hS.1.size) u3 (BX) (by kernel_rfl) HV2 g7 2 2 ([b8 o.client, b8 o.acked]) rfl (by kernel_rfl) H7_2.cells (Nat.le_of_ble_eq_true rfl) (by simp [wide]; omega) ?_
                intro v8 W3 HV3 hG
                have H17_3 := H17_2.grow hG
                have hSn := ses_grow hS (Nat.le_of_ble_eq_true rfl) HV2 hG hob
                have hob := hSn.2
                refine hK.out _ _ hSn.1 (fun hS => ?_)
                clear hK K
                clear hG hSn
                refine wpAnyH_ready (rs := [11]) (by kernel_rfl) (by simp) ?_
                refine AllReadyH.wrp rfl (by kernel_rfl) (fun K hK => ?_) (AllReadyH.nil)
                refine h_call ?_
                go_simp
                refine (HTS.out _).mono ?_
                rintro y W4 ⟨g11, rfl, ⟨hl, hc⟩, hk, hg⟩
                have HV4 := HV3.keep hk
                have H17_4 := H17_3.keep hk
                have H11_4 : Src W4 v8 g11 (wide o.seen) := Src.new HV3 hc hl hg
                go_simp
                refine hK.out _ _ (⟨hS.1.trans hk, hS.2.keep hk (Nat.le_of_ble_eq_true rfl)⟩) (fun hS => ?_)
                clear hK K
                clear hc hk hl hg
                refine wpAnyH_ready (rs := [12]) (by kernel_rfl) (by simp) ?_
                refine AllReadyH.wrp rfl (by kernel_rfl) (fun K hK => ?_) (AllReadyH.nil)
                refine h_appb _ _ rfl w1.heap.size (hS.1.size) v8 (BX ++ [b8 o.client, b8 o.acked]) (by kernel_rfl) HV4 g11 2 2 (wide o.seen) rfl (by kernel_rfl) H11_4.cells (Nat.le_of_ble_eq_true rfl) (by simp [wide]; omega) ?_
                intro v12 W5 HV5 hG
                have H17_5 := H17_4.grow hG
                have hSn := ses_grow hS (Nat.le_of_ble_eq_true rfl) HV4 hG hob
                have hob := hSn.2
                refine hK.out _ _ hSn.1 (fun hS => ?_)
                clear hK K
                clear hG hSn
                refine wpAnyH_ready (rs := [18]) (by kernel_rfl) (by simp) ?_
                refine AllReadyH.wrp rfl (by kernel_rfl) (fun K hK => ?_) (AllReadyH.nil)
                refine h_appb _ _ rfl w1.heap.size (hS.1.size) v12 (BX ++ [b8 o.client, b8 o.acked] ++ wide o.seen) (by kernel_rfl) HV5 g17 1 1 ([b8 (o.kept.length : Int)]) rfl (by kernel_rfl) H17_5.cells (Nat.le_of_ble_eq_true rfl) (by simp [wide]; omega) ?_
                intro v18 W6 HV6 hG
                have hSn := ses_grow hS (Nat.le_of_ble_eq_true rfl) HV5 hG hob
                have hob := hSn.2
                refine hK.out _ _ hSn.1 (fun hS => ?_)
                clear hK K
                clear hG hSn
                refine wpAnyH_take (i := 19) (v := v18) rfl (by kernel_rfl) (by kernel_rfl) (by kernel_rfl) (fun _ _ _ h => h) (Or.inl ⟨by kernel_rfl, fun w _ => by kernel_rfl⟩) hS ?_
                refine wpAnyH_done (by kernel_rfl) ?_ _
                go_wp2_with fail
                go_meet
                exact ⟨HV6, hS, hob⟩
            case rest =>
              obtain ⟨hO, hSS, hne⟩ := hcut
              generalize wc = w6 at *
              have HO6 : Hid (BOwn w1.heap.size w6 u3 (BX ++ [b8 o.client, b8 o.acked] ++ wide o.seen ++ [b8 (o.kept.length : Int)])) := hO
              have HS6 : Hid ((Keeps w1 w6 ∧ CBox ob (S4 o (.slice ka o.kept.length kc)) w6) ∧ u3.ownBlock ≠ some ob) := ⟨hSS, hne⟩
              clear hO hSS hne HVX HS4 hob HTS
              have HSB : Hid (BX ++ sesBs o = BX ++ [b8 o.client, b8 o.acked] ++ wide o.seen ++ [b8 (o.kept.length : Int)] ++ repBs o.kept) := by
                show _ = _
                unfold sesBs
                simp only [List.append_assoc]
              obtain ⟨BY, hBY⟩ : ∃ z, z = BX ++ [b8 o.client, b8 o.acked] ++ wide o.seen ++ [b8 (o.kept.length : Int)] := ⟨_, rfl⟩
              have hYL : BY.length ≤ 1010 := by rw [hBY]; simp [wide]; omega
              rw [← hBY] at HO6 HSB
              clear hBY
              have HR0 : Hid (repBs (o.kept.take 0) = []) := by show _ = _; rw [List.take_zero]; rfl
              go_wp2_with fail
              go_loopw [3, 7] (fun b i wr => ∃ (j : Nat), j ≤ o.kept.length ∧ i = .int .i64 j ∧ Hid (BOwn w1.heap.size wr b (BY ++ repBs (o.kept.take j))) ∧ Hid ((Keeps w1 wr ∧ CBox ob (S4 o (.slice ka o.kept.length kc)) wr) ∧ b.ownBlock ≠ some ob)) (fun _ i _ => o.kept.length - (intOf i).toNat)
              case atStart => exact ⟨0, Nat.zero_le _, rfl, by rw [HR0.out, List.append_nil]; exact HO6.out, HS6⟩
              case round =>
                obtain ⟨j, hj, rfl, HOJ, HSJ⟩ := hrel
                have c3 := HSJ.out.1.2.1 3 _ rfl
                by_cases hjl : j < o.kept.length
                · obtain ⟨b1, o1, p1, hv1, _, hcs⟩ := HKP.out.at hjl
                  obtain ⟨e0, e1⟩ := hcs j hjl
                  injection hv1 with hv1 ea eb
                  subst hv1
                  clear ea eb hcs
                  have HKC : Hid (∀ W, Keeps w1 W → W.cell? ⟨b1, o1 + j * 2, none⟩ = some (.int .i64 o.kept[j].1) ∧ W.cell? ⟨b1, o1 + j * 2 + 1, none⟩ = some (.int .i64 o.kept[j].2)) := fun W hk => ⟨(hk.cells.1 b1 _ (World.block_lt_of_cell? _ _ e0)).trans e0, (hk.cells.1 b1 _ (World.block_lt_of_cell? _ _ e0)).trans e1⟩
                  obtain ⟨_, f1, f2⟩ := HSF.out o.kept[j] (List.getElem_mem hjl)
                  have HS2 : Hid (BY ++ repBs (o.kept.take j) ++ [b8 o.kept[j].1] ++ wide (o.kept[j].2 + 1) = BY ++ repBs (o.kept.take (j + 1))) := by
                    show _ = _
                    rw [repBs_succ o.kept j hjl]
                    simp only [List.append_assoc]
                  have HTX : Hid (∀ W, Calls Try.prog 36 #[.int .i64 (o.kept[j].2 + 1)] W fun y w' => ∃ b, y = .returned (.slice (some ⟨b, 0, none⟩) 2 2) ∧ (b < w'.heap.size ∧ ∀ i u, (byCells (wide (o.kept[j].2 + 1)))[i]? = some u → w'.cell? ((⟨b, 0, none⟩ : Addr).add i) = some u) ∧ Keeps W w' ∧ W.heap.size ≤ b) := fun W => two_bytes _ f1 (by omega) W
                  have HWX : Hid (IntKind.i64.wrap (o.kept[j].2 + 1) = o.kept[j].2 + 1) := by
                    show _ = _
                    simp [IntKind.wrap, IntKind.bits, IntKind.signed]
                    omega
                  clear e0 e1 f1 f2
                  obtain ⟨BX2, hBX2⟩ : ∃ z, z = BY ++ repBs (o.kept.take j) := ⟨_, rfl⟩
                  have hBL2 : BX2.length ≤ 1100 := by
                    rw [hBX2, List.length_append, repBs_len]
                    have h3 : (o.kept.take j).length ≤ j := List.length_take_le ..
                    omega
                  rw [← hBX2] at HOJ HS2
                  clear hBX2 hBL
                  generalize o.kept[j] = p at *
                  obtain ⟨q, x⟩ := p
                  have HVX : Hid (BOwn w1.heap.size wr u3 BX2) := HOJ.out
                  have HSR : Hid (Keeps w1 wr.drew ∧ CBox ob (S4 o (.slice (some ⟨b1, o1, none⟩) o.kept.length kc)) wr.drew) := ⟨HSJ.out.1.1.drew, HSJ.out.1.2.keep (Keeps.refl _).drew (Nat.le_of_ble_eq_true rfl)⟩
                  have hob := HSJ.out.2
                  clear HOJ HSJ
                  go_wp2_with fail
                  skip
                  refine wp_region_held_drew (S := fun W => Keeps w1 W ∧ CBox ob (S4 o (.slice (some ⟨b1, o1, none⟩) o.kept.length kc)) W) (by kernel_rfl) HSR.out (fun hS => ?_)
                  have HV0 := HVX.out.keep ((Keeps.refl wr).drew)
                  obtain ⟨W0, hV0⟩ : ∃ z, z = wr.drew := ⟨_, rfl⟩
                  rw [← hV0] at hS HV0 ⊢
                  clear hV0
                  refine wpAnyH_take (i := 0) (v := u3) rfl (by kernel_rfl) (by kernel_rfl) (by kernel_rfl) (fun _ _ _ h => h) (Or.inl ⟨by kernel_rfl, fun w _ => by kernel_rfl⟩) hS ?_
                  refine wpAnyH_take (i := 1) (v := .pointer (some ⟨ob, 3, none⟩)) rfl (by kernel_rfl) (by kernel_rfl) (by kernel_rfl) (fun _ _ _ h => h) (Or.inl ⟨by kernel_rfl, fun w _ => by kernel_rfl⟩) hS ?_
                  refine wpAnyH_take (i := 2) (v := .slice (some ⟨b1, o1, none⟩) o.kept.length kc) rfl (by kernel_rfl) (by kernel_rfl) (by kernel_rfl) (fun _ _ _ h => h) (y_slice (by kernel_rfl) rfl ob 3 (by kernel_rfl) (cs := S4 o (.slice (some ⟨b1, o1, none⟩) o.kept.length kc)) rfl (fun W h => h.2)) hS ?_
                  refine wpAnyH_take (i := 3) (v := .int .i64 j) rfl (by kernel_rfl) (by kernel_rfl) (by kernel_rfl) (fun _ _ _ h => h) (Or.inl ⟨by kernel_rfl, fun w _ => by kernel_rfl⟩) hS ?_
                  refine wpAnyH_take (i := 4) (v := .pointer (some ⟨b1, o1 + j * 2, none⟩)) rfl (by kernel_rfl) (by kernel_rfl) (by kernel_rfl) (fun _ _ _ h => h) (Or.inl ⟨by kernel_rfl, ?_⟩) hS ?_
                  · intro w hS; go_simp
                  refine wpAnyH_take (i := 5) (v := .pointer (some ⟨b1, o1 + j * 2, none⟩)) rfl (by kernel_rfl) (by kernel_rfl) (by kernel_rfl) (fun _ _ _ h => h) (Or.inl ⟨by kernel_rfl, fun w _ => by kernel_rfl⟩) hS ?_
                  refine wpAnyH_take (i := 6) (v := .int .i64 q) rfl (by kernel_rfl) (by kernel_rfl) (by kernel_rfl) (fun _ _ _ h => h) (y_old (by kernel_rfl) rfl b1 (o1 + j * 2) (by kernel_rfl) (fun W h => (HKC.out W h.1).1)) hS ?_
                  refine wpAnyH_take (i := 7) (v := .int .u8 (i8 (b8 q))) rfl (by kernel_rfl) (by kernel_rfl) (by kernel_rfl) (fun _ _ _ h => h) (Or.inl ⟨by kernel_rfl, fun w _ => Eq.trans (b := .ok (.value (.int .u8 (IntKind.u8.wrap q))) w) (by kernel_rfl) (by rw [wrap_b8])⟩) hS ?_
                  refine wpAnyH_take (i := 10) (v := .pointer (some ⟨ob, 3, none⟩)) rfl (by kernel_rfl) (by kernel_rfl) (by kernel_rfl) (fun _ _ _ h => h) (Or.inl ⟨by kernel_rfl, fun w _ => by kernel_rfl⟩) hS ?_
                  refine wpAnyH_take (i := 11) (v := .slice (some ⟨b1, o1, none⟩) o.kept.length kc) rfl (by kernel_rfl) (by kernel_rfl) (by kernel_rfl) (fun _ _ _ h => h) (y_slice (by kernel_rfl) rfl ob 3 (by kernel_rfl) (cs := S4 o (.slice (some ⟨b1, o1, none⟩) o.kept.length kc)) rfl (fun W h => h.2)) hS ?_
                  refine wpAnyH_take (i := 12) (v := .int .i64 j) rfl (by kernel_rfl) (by kernel_rfl) (by kernel_rfl) (fun _ _ _ h => h) (Or.inl ⟨by kernel_rfl, fun w _ => by kernel_rfl⟩) hS ?_
                  refine wpAnyH_take (i := 13) (v := .pointer (some ⟨b1, o1 + j * 2, none⟩)) rfl (by kernel_rfl) (by kernel_rfl) (by kernel_rfl) (fun _ _ _ h => h) (Or.inl ⟨by kernel_rfl, ?_⟩) hS ?_
                  · intro w hS; go_simp
                  refine wpAnyH_take (i := 14) (v := .pointer (some ⟨b1, o1 + j * 2 + 1, none⟩)) rfl (by kernel_rfl) (by kernel_rfl) (by kernel_rfl) (fun _ _ _ h => h) (Or.inl ⟨by kernel_rfl, fun w _ => by kernel_rfl⟩) hS ?_
                  refine wpAnyH_take (i := 15) (v := .int .i64 x) rfl (by kernel_rfl) (by kernel_rfl) (by kernel_rfl) (fun _ _ _ h => h) (y_old (by kernel_rfl) rfl b1 (o1 + j * 2 + 1) (by kernel_rfl) (fun W h => (HKC.out W h.1).2)) hS ?_
                  refine wpAnyH_take (i := 16) (v := .int .i64 (x + 1)) rfl (by kernel_rfl) (by kernel_rfl) (by kernel_rfl) (fun _ _ _ h => h) (Or.inl ⟨by kernel_rfl, fun w _ => Eq.trans (b := .ok (.value (.int .i64 (IntKind.i64.wrap (x + 1)))) w) (by kernel_rfl) (by rw [HWX.out])⟩) hS ?_
                  refine wpAnyH_ready (rs := [8]) (by kernel_rfl) (by simp) ?_
                  refine AllReadyH.wrp rfl (by kernel_rfl) (fun K hK => ?_) (AllReadyH.nil)
                  refine h_one rfl (c := b8 q) (by kernel_rfl) ?_
                  intro W1 g8 hc hk hl hg
                  have HV1 := HV0.keep hk
                  have H8_1 : Src W1 u3 g8 [b8 q] := Src.new HV0 hc hl hg
                  refine hK.out _ _ (⟨hS.1.trans hk, hS.2.keep hk (Nat.le_of_ble_eq_true rfl)⟩) (fun hS => ?_)
                  clear hK K
                  clear hc hk hl hg
                  refine wpAnyH_ready (rs := [9]) (by kernel_rfl) (by simp) ?_
                  refine AllReadyH.wrp rfl (by kernel_rfl) (fun K hK => ?_) (AllReadyH.nil)
                  refine h_appb _ _ rfl w1.heap.size (hS.1.size) u3 (BX2) (by kernel_rfl) HV1 g8 1 1 ([b8 q]) rfl (by kernel_rfl) H8_1.cells (Nat.le_of_ble_eq_true rfl) (by simp [wide]; omega) ?_
                  intro v9 W2 HV2 hG
                  have hSn := ses_grow hS (Nat.le_of_ble_eq_true rfl) HV1 hG hob
                  have hob := hSn.2
                  refine hK.out _ _ hSn.1 (fun hS => ?_)
                  clear hK K
                  clear hG hSn
                  refine wpAnyH_ready (rs := [17]) (by kernel_rfl) (by simp) ?_
                  refine AllReadyH.wrp rfl (by kernel_rfl) (fun K hK => ?_) (AllReadyH.nil)
                  refine h_call ?_
                  go_simp
                  refine (HTX.out _).mono ?_
                  rintro y W3 ⟨g17, rfl, ⟨hl, hc⟩, hk, hg⟩
                  have HV3 := HV2.keep hk
                  have H17_3 : Src W3 v9 g17 (wide (x + 1)) := Src.new HV2 hc hl hg
                  go_simp
                  refine hK.out _ _ (⟨hS.1.trans hk, hS.2.keep hk (Nat.le_of_ble_eq_true rfl)⟩) (fun hS => ?_)
                  clear hK K
                  clear hc hk hl hg
                  refine wpAnyH_ready (rs := [18]) (by kernel_rfl) (by simp) ?_
                  refine AllReadyH.wrp rfl (by kernel_rfl) (fun K hK => ?_) (AllReadyH.nil)
                  refine h_appb _ _ rfl w1.heap.size (hS.1.size) v9 (BX2 ++ [b8 q]) (by kernel_rfl) HV3 g17 2 2 (wide (x + 1)) rfl (by kernel_rfl) H17_3.cells (Nat.le_of_ble_eq_true rfl) (by simp [wide]; omega) ?_
                  intro v18 W4 HV4 hG
                  have hSn := ses_grow hS (Nat.le_of_ble_eq_true rfl) HV3 hG hob
                  have hob := hSn.2
                  refine hK.out _ _ hSn.1 (fun hS => ?_)
                  clear hK K
                  clear hG hSn
                  refine wpAnyH_ready (rs := [19]) (by kernel_rfl) (by simp) ?_
                  refine AllReadyH.wrp rfl (by kernel_rfl) (fun K hK => ?_) (AllReadyH.nil)
                  refine h_call ?_
                  go_simp
                  refine hK.out _ _ hS (fun hS => ?_)
                  clear hK K
                  refine wpAnyH_done (by kernel_rfl) ?_ _
                  rw [HS2.out] at HV4
                  go_wp2_with fail
                  go_roundw
                  case rel => exact ⟨j + 1, by omega, by go_num, HV4, hS, hob⟩
                  case measure => simp [intOf]; omega
                · have e : j = o.kept.length := by omega
                  subst e
                  have HO8 : Hid (BOwn w1.heap.size wr u3 (headBs s ++ tabBs (s.tab.take (k + 1)))) := by
                    show BOwn _ _ _ _
                    rw [← HSX.out, HSB.out]
                    have h := HOJ.out
                    rw [List.take_length] at h
                    exact h
                  have HK8 : Hid (Keeps w1 wr) := HSJ.out.1.1
                  clear HOJ HSJ
                  go_wp2_with fail
                  go_roundw
                  case rel => exact ⟨k + 1, by omega, by go_num, HO8, HK8⟩
                  case measure => simp [intOf]; omega
          · have e : k = s.tab.length := by omega
            subst e
            have hO := HO.out
            rw [List.take_length] at hO
            have hO2 : BOwn w1.heap.size wr u3 (stBs s) := hO
            have hp : 0 < (stBs s).length := by unfold stBs; rw [List.length_append, hhl]; omega
            obtain ⟨g, cp, hv, hcv⟩ := hO2.conv hp
            subst hv
            generalize hn : (stBs s).length = n at *
            go_wp2_with fail
            go_ret
            exact ⟨rfl, HK1.out.trans HKr.out⟩
end Go.Proofs.Yteabfjpajgakiad
