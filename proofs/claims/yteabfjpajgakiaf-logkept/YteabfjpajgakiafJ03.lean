/- SesI, SesJ, SesK, SesL, ApB, ApC, ApD, ApD2. -/
import Derived.Deep.RegionHeld3
import Derived.Deep.DeepCutAuto
import Derived.Laws.IdiomCopy
import Derived.Test.YteabfjpajgakiafJ00
import Derived.Test.YteabfjpajgakiafJ02
/- sess.Drop, sess.Fresh, sess.Put. -/
set_option linter.unusedSimpArgs false
set_option linter.unusedVariables false
namespace Go.Proofs.Yteabfjpajgakiaf
open Go.RowKit

/-- Drop's answer. -/
def dropErr (L : List Ses) (c : Int) : Int := if tabErr L == 0 then (if (L.filter (fun s => s.client != c)).length == L.length then 5 else 0) else tabErr L
def dropTab (L : List Ses) (c : Int) : List Ses := if dropErr L c == 0 then L.filter (fun s => s.client != c) else []
/-- Fresh's answer. -/
def freshTab (L : List Ses) (c : Int) : List Ses := L.filter (fun s => decide (c - 20 ≤ s.seen))
end Go.Proofs.Yteabfjpajgakiaf

/- sess.Put. -/
set_option linter.unusedSimpArgs false
set_option linter.unusedVariables false
set_option maxRecDepth 10000
namespace Go.Proofs.Yteabfjpajgakiaf
open Go.RowKit

def putList (L : List Ses) (s : Ses) : List Ses := L.filter (fun o => decide (o.client < s.client)) ++ [s] ++ L.filter (fun o => decide (s.client < o.client))
/-- Put's answer. -/
def putErr (L : List Ses) (s : Ses) : Int :=
  if tabErr L == 0 then (if sesErr s == 0 then (if 3 < (putList L s).length then 2 else 0) else sesErr s) else tabErr L
def putTab (L : List Ses) (s : Ses) : List Ses := if putErr L s == 0 then putList L s else []

end Go.Proofs.Yteabfjpajgakiaf

/- The reference's without, fresh, DropOf, FreshOf. -/
set_option linter.unusedSimpArgs false
set_option linter.unusedVariables false
set_option maxRecDepth 10000
namespace Go.Proofs.Yteabfjpajgakiaf
open Go.RowKit

end Go.Proofs.Yteabfjpajgakiaf

/- The reference's PutOf. -/
set_option linter.unusedSimpArgs false
set_option linter.unusedVariables false
set_option maxRecDepth 10000
namespace Go.Proofs.Yteabfjpajgakiaf
open Go.RowKit

/-- The cells of a table at a known address. -/
theorem TabAt.cells {w : World} {b off cap : Nat} {L : List Ses} (h : TabAt w (.slice (some ⟨b, off, none⟩) L.length cap) L) (i : Nat) (hi : i < L.length) (o : Ses) (ho : L[i] = o) :
    w.cell? ⟨b, off + i * 4, none⟩ = some (.int .i64 o.client) ∧ w.cell? ⟨b, off + i * 4 + 1, none⟩ = some (.int .i64 o.acked) ∧
        w.cell? ⟨b, off + i * 4 + 2, none⟩ = some (.int .i64 o.seen) ∧ ∃ ka kc, w.cell? ⟨b, off + i * 4 + 3, none⟩ = some (.slice ka o.kept.length kc) ∧ KeptAt w (.slice ka o.kept.length kc) o.kept := by
  obtain ⟨b', off', cap', hv, hcell⟩ := h.at hi
  injection hv with h1 _ _
  injection h1 with h1
  injection h1 with h1 h2 _
  subst h1 h2 ho
  exact hcell i hi

end Go.Proofs.Yteabfjpajgakiaf

/- Applying: checkBoth, the machine's tick. -/
set_option linter.unusedSimpArgs false
set_option linter.unusedVariables false
set_option maxRecDepth 10000
namespace Go.Proofs.Yteabfjpajgakiaf
open Go.RowKit

def bothErr (s : St) (e : Ent) : Int := if stErr s == 0 then (if entErr e == 0 then (if s.at_ == 50 then 2 else 0) else entErr e) else stErr s

/-- The state that the machine has, in its box. -/
structure StBox (b : Nat) (s : St) (t : Value) (w : World) : Prop where
  c0 : w.cell? ⟨b, 0, none⟩ = some (.int .i64 s.at_)
  c1 : w.cell? ⟨b, 1, none⟩ = some (.int .i64 s.clock)
  c2 : w.cell? ⟨b, 2, none⟩ = some (.int .i64 s.v0)
  c3 : w.cell? ⟨b, 3, none⟩ = some (.int .i64 s.v1)
  c4 : w.cell? ⟨b, 4, none⟩ = some (.int .i64 s.v2)
  c5 : w.cell? ⟨b, 5, none⟩ = some (.int .i64 s.v3)
  c6 : w.cell? ⟨b, 6, none⟩ = some t
  fz : ∀ i, w.frozen? ⟨b, i, none⟩ = false

theorem StBox.lt {b : Nat} {s : St} {t : Value} {w : World} (h : StBox b s t w) : b < w.heap.size := World.block_lt_of_cell? _ _ h.c0
theorem StBox.keep {b : Nat} {s : St} {t : Value} {w w' : World} (h : StBox b s t w) (hk : Keeps w w') : StBox b s t w' :=
  ⟨cell_kept h.c0 hk, cell_kept h.c1 hk, cell_kept h.c2 hk, cell_kept h.c3 hk, cell_kept h.c4 hk, cell_kept h.c5 hk, cell_kept h.c6 hk, fun i => (Below.frozen hk (p := ⟨b, i, none⟩) h.lt).trans (h.fz i)⟩
theorem StBox.other {b b' : Nat} {s : St} {t : Value} {w w' : World} (h : StBox b s t w) (hk : But b' w w') (hb : b ≠ b') : StBox b s t w' :=
  ⟨hk.at h.c0 hb, hk.at h.c1 hb, hk.at h.c2 hb, hk.at h.c3 hb, hk.at h.c4 hb, hk.at h.c5 hb, hk.at h.c6 hb, fun i => (hk.frozen (p := ⟨b, i, none⟩) h.lt hb).trans (h.fz i)⟩
theorem StBox.set {b : Nat} {s s' : St} {t t' : Value} {w : World} (h : StBox b s t w) (i : Nat) (u : Value)
    (h0 : .int .i64 s'.at_ = if i = 0 then u else .int .i64 s.at_) (h1 : .int .i64 s'.clock = if i = 1 then u else .int .i64 s.clock) (h2 : .int .i64 s'.v0 = if i = 2 then u else .int .i64 s.v0) (h3 : .int .i64 s'.v1 = if i = 3 then u else .int .i64 s.v1)
    (h4 : .int .i64 s'.v2 = if i = 4 then u else .int .i64 s.v2) (h5 : .int .i64 s'.v3 = if i = 5 then u else .int .i64 s.v3) (h6 : t' = if i = 6 then u else t) : StBox b s' t' (w.setCell ⟨b, i, none⟩ u) := by
  have go : ∀ j x y, w.cell? ⟨b, j, none⟩ = some x → y = (if i = j then u else x) → (w.setCell ⟨b, i, none⟩ u).cell? ⟨b, j, none⟩ = some y := fun j x y hx hy => by
    by_cases hij : i = j
    · subst hij
      rw [if_pos rfl] at hy
      subst hy
      exact World.cell?_setCell_same _ _ _ hx
    · rw [if_neg hij] at hy
      subst hy
      rw [World.cell?_setCell_other _ _ _ _ (by intro e; injection e with _ e _; exact hij e)]
      exact hx
  exact ⟨go _ _ _ h.c0 h0, go _ _ _ h.c1 h1, go _ _ _ h.c2 h2, go _ _ _ h.c3 h3, go _ _ _ h.c4 h4, go _ _ _ h.c5 h5, go _ _ _ h.c6 h6, fun j => (World.frozen?_setCell _ _ _ _).trans (h.fz j)⟩

def ticked (s : St) (time : Int) : St := ⟨s.at_ + 1, max s.clock time, s.v0, s.v1, s.v2, s.v3, freshTab s.tab (max s.clock time)⟩

end Go.Proofs.Yteabfjpajgakiaf

/- Applying: the machine's close and open. -/
set_option linter.unusedSimpArgs false
set_option linter.unusedVariables false
set_option maxRecDepth 10000
namespace Go.Proofs.Yteabfjpajgakiaf
open Go.RowKit

def closedSt (s : St) (c : Int) : St := if dropErr s.tab c == 0 then { s with tab := dropTab s.tab c } else s
def closedAns (s : St) (c : Int) : Int := if dropErr s.tab c == 0 then 0 else -3

/-- The session that an Open asks for. -/
def openSes (s : St) (c : Int) : Ses := ⟨c, ((findSes s.tab c).getD zeroSes).acked, s.clock, ((findSes s.tab c).getD zeroSes).kept⟩
def openedSt (s : St) (c : Int) : St := if putErr s.tab (openSes s c) == 0 then { s with tab := putTab s.tab (openSes s c) } else s
def openedAns (s : St) (c : Int) : Int := if putErr s.tab (openSes s c) == 0 then 0 else -2

/-- A session in its box. -/
structure SesBox (b : Nat) (s : Ses) (k : Value) (w : World) : Prop where
  c0 : w.cell? ⟨b, 0, none⟩ = some (.int .i64 s.client)
  c1 : w.cell? ⟨b, 1, none⟩ = some (.int .i64 s.acked)
  c2 : w.cell? ⟨b, 2, none⟩ = some (.int .i64 s.seen)
  c3 : w.cell? ⟨b, 3, none⟩ = some k
  fz : ∀ i, w.frozen? ⟨b, i, none⟩ = false

theorem SesBox.lt {b : Nat} {s : Ses} {k : Value} {w : World} (h : SesBox b s k w) : b < w.heap.size := World.block_lt_of_cell? _ _ h.c0
theorem SesBox.keep {b : Nat} {s : Ses} {k : Value} {w w' : World} (h : SesBox b s k w) (hk : Keeps w w') : SesBox b s k w' :=
  ⟨cell_kept h.c0 hk, cell_kept h.c1 hk, cell_kept h.c2 hk, cell_kept h.c3 hk, fun i => (Below.frozen hk (p := ⟨b, i, none⟩) h.lt).trans (h.fz i)⟩
theorem SesBox.other {b b' : Nat} {s : Ses} {k : Value} {w w' : World} (h : SesBox b s k w) (hk : But b' w w') (hb : b ≠ b') : SesBox b s k w' :=
  ⟨hk.at h.c0 hb, hk.at h.c1 hb, hk.at h.c2 hb, hk.at h.c3 hb, fun i => (hk.frozen (p := ⟨b, i, none⟩) h.lt hb).trans (h.fz i)⟩
theorem SesBox.new (w : World) (s : Ses) (k : Value) (t : TypeId) : SesBox w.heap.size s k (w.alloc (.cells #[.int .i64 s.client, .int .i64 s.acked, .int .i64 s.seen, k] t)) :=
  ⟨by simp [go_sem], by simp [go_sem], by simp [go_sem], by simp [go_sem], fun i => by simp [go_sem]⟩
theorem SesBox.set {b : Nat} {s s' : Ses} {t t' : Value} {w : World} (h : SesBox b s t w) (i : Nat) (u : Value)
    (h0 : .int .i64 s'.client = if i = 0 then u else .int .i64 s.client) (h1 : .int .i64 s'.acked = if i = 1 then u else .int .i64 s.acked) (h2 : .int .i64 s'.seen = if i = 2 then u else .int .i64 s.seen) (h3 : t' = if i = 3 then u else t) : SesBox b s' t' (w.setCell ⟨b, i, none⟩ u) := by
  have go : ∀ j x y, w.cell? ⟨b, j, none⟩ = some x → y = (if i = j then u else x) → (w.setCell ⟨b, i, none⟩ u).cell? ⟨b, j, none⟩ = some y := fun j x y hx hy => by
    by_cases hij : i = j
    · subst hij
      rw [if_pos rfl] at hy
      subst hy
      exact World.cell?_setCell_same _ _ _ hx
    · rw [if_neg hij] at hy
      subst hy
      rw [World.cell?_setCell_other _ _ _ _ (by intro e; injection e with _ e _; exact hij e)]
      exact hx
  exact ⟨go _ _ _ h.c0 h0, go _ _ _ h.c1 h1, go _ _ _ h.c2 h2, go _ _ _ h.c3 h3, fun j => (World.frozen?_setCell _ _ _ _).trans (h.fz j)⟩
end Go.Proofs.Yteabfjpajgakiaf

/- Applying: the answers that a session keeps, in a row of its own: slices.DeleteFunc. -/
set_option linter.unusedSimpArgs false
set_option linter.unusedVariables false
set_option maxRecDepth 10000
namespace Go.Proofs.Yteabfjpajgakiaf
open Go.RowKit

/-- A row of answers in block g. -/
def RepRow (w : World) (g cap : Nat) (xs : List Value) : Prop := ∃ cur : Array Value, w.heap[g]? = some (.cells cur 116 (0, 0)) ∧ cur.size = cap * 2 ∧ cap ≤ maxLen ∧ xs.length ≤ cap * 2 ∧ cur.toList.take xs.length = xs

theorem RepRow.lt {w : World} {g cap : Nat} {xs : List Value} (h : RepRow w g cap xs) : g < w.heap.size := by
  obtain ⟨cur, h1, _⟩ := h
  exact (Array.getElem?_eq_some_iff.1 h1).1
theorem RepRow.cell {w : World} {g cap : Nat} {xs : List Value} (h : RepRow w g cap xs) (i : Nat) (u : Value) (hu : xs[i]? = some u) : w.cell? ⟨g, i, none⟩ = some u := by
  obtain ⟨cur, h1, h2, h3, h4, h5⟩ := h
  have hi := (List.getElem?_eq_some_iff.1 hu).1
  rw [← h5, List.getElem?_take, if_pos hi] at hu
  simp [World.cell?, h1]
  simpa using hu
theorem RepRow.some {w : World} {g cap : Nat} {xs : List Value} (h : RepRow w g cap xs) (i : Nat) (hi : i < cap * 2) : ∃ u, w.cell? ⟨g, i, none⟩ = some u := by
  obtain ⟨cur, h1, h2, _⟩ := h
  refine ⟨cur[i]'(by omega), ?_⟩
  simp [World.cell?, h1, h2, hi]
theorem RepRow.frozen {w : World} {g cap : Nat} {xs : List Value} (h : RepRow w g cap xs) (i : Nat) : w.frozen? ⟨g, i, none⟩ = false := by
  obtain ⟨cur, h1, _⟩ := h
  simp [World.frozen?, h1]
theorem RepRow.set {w : World} {g cap : Nat} {xs : List Value} (h : RepRow w g cap xs) (i : Nat) (u : Value) : RepRow (w.setCell ⟨g, i, none⟩ u) g cap (xs.set i u) := by
  obtain ⟨cur, h1, h2, h3, h4, h5⟩ := h
  refine ⟨cur.setIfInBounds i u, ?_, by simpa using h2, h3, by simpa using h4, ?_⟩
  · simp [World.setCell, Array.getElem?_modify, h1]
  · simp only [List.length_set, Array.toList_setIfInBounds]
    rw [List.take_set, h5]
theorem RepRow.but {w w' : World} {g b cap : Nat} {xs : List Value} (h : RepRow w g cap xs) (hk : But b w w') (hb : g ≠ b) : RepRow w' g cap xs := by
  have hl := h.lt
  obtain ⟨cur, h1, r⟩ := h
  exact ⟨cur, (hk.block g hl hb).trans h1, r⟩
theorem RepRow.keep {w w' : World} {g cap : Nat} {xs : List Value} (h : RepRow w g cap xs) (hk : Keeps w w') : RepRow w' g cap xs := by
  have hl := h.lt
  obtain ⟨cur, h1, r⟩ := h
  exact ⟨cur, (hk.block g hl).trans h1, r⟩
theorem RepRow.take {w : World} {g cap : Nat} {xs : List Value} (h : RepRow w g cap xs) (n : Nat) : RepRow w g cap (xs.take n) := by
  obtain ⟨cur, h1, h2, h3, h4, h5⟩ := h
  refine ⟨cur, h1, h2, h3, by simp; omega, ?_⟩
  have e : List.take n xs = List.take n (List.take xs.length cur.toList) := by rw [h5]
  rw [List.length_take, e, List.take_take]

/-- The answers lie in block g (or there are none, and no row). -/
def KeptOn (g : Nat) (w : World) (kv : Value) (l : List (Int × Int)) : Prop := (kv = .slice none 0 0 ∧ l = []) ∨ ∃ cap, kv = .slice (some ⟨g, 0, none⟩) l.length cap ∧ RepRow w g cap (repCells l)

theorem KeptOn.kept {g : Nat} {w : World} {kv : Value} {l : List (Int × Int)} (h : KeptOn g w kv l) : KeptAt w kv l := by
  rcases h with ⟨rfl, rfl⟩ | ⟨cap, rfl, hr⟩
  · exact kept_nil w
  · have hc := fun i u hu => hr.cell i u hu
    obtain ⟨cur, h1, h2, h3, h4, h5⟩ := hr
    rw [repCells_len] at h4
    exact ⟨repCells_len _, by omega, .inr ⟨_, cap, rfl, fun j u hu => by rw [Addr.add_lit, Nat.zero_add]; exact hc j u hu⟩⟩
theorem KeptOn.but {g b : Nat} {w w' : World} {kv : Value} {l : List (Int × Int)} (h : KeptOn g w kv l) (hk : But b w w') (hb : g ≠ b) : KeptOn g w' kv l :=
  h.imp id fun ⟨cap, e, hr⟩ => ⟨cap, e, hr.but hk hb⟩
theorem KeptOn.keep {g : Nat} {w w' : World} {kv : Value} {l : List (Int × Int)} (h : KeptOn g w kv l) (hk : Keeps w w') : KeptOn g w' kv l :=
  h.imp id fun ⟨cap, e, hr⟩ => ⟨cap, e, hr.keep hk⟩
theorem KeptOn.of_owns {base : Nat} {w : World} {kv : Value} {l : List (Int × Int)} (h : w.ownsRow base 116 2 kv l.length (repCells l)) : ∃ g, KeptOn g w kv l ∧ base ≤ g ∧ (g < w.heap.size ∨ g = base) := by
  obtain ⟨h1, h2⟩ := h
  rcases h2 with ⟨rfl, h0⟩ | ⟨g, cap, cur, rfl, hg, hh, hn, hm, hs, ht⟩
  · exact ⟨base, .inl ⟨rfl, List.length_eq_zero_iff.1 h0⟩, Nat.le_refl _, .inr rfl⟩
  · have hr : RepRow w g cap (repCells l) := ⟨cur, hh, hs, hm, by rw [h1]; omega, by rw [h1]; exact ht⟩
    exact ⟨g, .inr ⟨cap, rfl, hr⟩, hg, .inl hr.lt⟩
def keptAfter (ack : Int) (l : List (Int × Int)) : List (Int × Int) := l.filter fun r => decide (ack < r.1)
end Go.Proofs.Yteabfjpajgakiaf

/- Applying: slices.DeleteFunc, where some answers are gone. -/
set_option linter.unusedSimpArgs false
set_option linter.unusedVariables false
set_option maxRecDepth 10000
namespace Go.Proofs.Yteabfjpajgakiaf
open Go.RowKit

theorem repCells_set : ∀ (A : List (Int × Int)) (i : Nat) (q v : Int), repCells (A.set i (q, v)) = ((repCells A).set (i * 2) (.int .i64 q)).set (i * 2 + 1) (.int .i64 v)
  | [], i, q, v => by simp [repCells]
  | (a, b) :: r, 0, q, v => by simp [repCells]
  | (a, b) :: r, i + 1, q, v => by
    rw [List.set_cons_succ, show (i + 1) * 2 = i * 2 + 1 + 1 from by omega, show i * 2 + 1 + 1 + 1 = (i * 2 + 1) + 1 + 1 from rfl]
    simp only [repCells, List.set_cons_succ, repCells_set r i q v]
/-- Values laid one behind the other. -/
def setL : List Value → Nat → List Value → List Value
  | xs, _, [] => xs
  | xs, o, v :: r => setL (xs.set o v) (o + 1) r
theorem RepRow.setCells {g cap : Nat} : ∀ (cs : List Value) (o : Nat) {w : World} {xs : List Value}, RepRow w g cap xs → RepRow (w.setCells g o cs) g cap (setL xs o cs)
  | [], _, _, _, h => h
  | v :: r, o, _, _, h => RepRow.setCells r (o + 1) (h.set o v)
theorem But.setCells {g : Nat} {x : World} : ∀ (cs : List Value) (o : Nat) {y : World}, But g x y → But g x (y.setCells g o cs)
  | [], _, _, h => h
  | v :: r, o, _, h => But.setCells r (o + 1) (h.set o v)

theorem RepRow.at {w : World} {g cap : Nat} {A : List (Int × Int)} (h : RepRow w g cap (repCells A)) {k : Nat} (hk : k < A.length) :
    w.cell? ⟨g, k * 2, none⟩ = Option.some (.int .i64 (A[k]).1) ∧ w.cell? ⟨g, k * 2 + 1, none⟩ = Option.some (.int .i64 (A[k]).2) := by
  have e := repCells_at A k (A[k]).1 (A[k]).2 (by rw [List.getElem?_eq_getElem hk])
  rw [Nat.mul_comm k 2]
  exact ⟨h.cell _ _ e.1, h.cell _ _ e.2⟩
theorem RepRow.store {w : World} {g cap : Nat} {A : List (Int × Int)} (h : RepRow w g cap (repCells A)) (k : Nat) (q v : Int) :
    RepRow ((w.setCell ⟨g, k * 2, none⟩ (.int .i64 q)).setCell ⟨g, k * 2 + 1, none⟩ (.int .i64 v)) g cap (repCells (A.set k (q, v))) := by
  rw [repCells_set]
  exact (h.set _ _).set _ _

end Go.Proofs.Yteabfjpajgakiaf
