/- ApJ, FoA, OpI, ApM0, ApP, ApN0, ApQ0, FoB, StP, FoC, FoD, Ints. -/
import Derived.RangeFuncNested
import Derived.RangeFuncBound
import Derived.RangeFuncCalls
import Derived.RangeFuncLeaves
import Derived.Shelf.Abstract
import Derived.Shelf.RegionOpen
import Derived.OwnWalkIn
import Derived.TacticsInMore
import Derived.LoopNIn
import Derived.LoopIn
import Derived.Test.YteabfjpajgakiafJ01
import Derived.Test.YteabfjpajgakiafJ03
import Derived.Test.YteabfjpajgakiafJ10
import Derived.Test.YteabfjpajgakiafJ11
/- Applying: the machine's take, and One. -/
set_option linter.unusedSimpArgs false
set_option linter.unusedVariables false
set_option maxRecDepth 10000
namespace Go.Proofs.Yteabfjpajgakiaf
open Go.RowKit

def takenSt (s : St) (e : Ent) : St := if e.kind == 1 then openedSt s e.client else if e.kind == 3 then closedSt s e.client else callSt s e
def takenAns (s : St) (e : Ent) : Int := if e.kind == 1 then openedAns s e.client else if e.kind == 3 then closedAns s e.client else callAns s e
def zeroSt : St := ⟨0, 0, 0, 0, 0, 0, []⟩
/-- One's answers. -/
def oneSt (s : St) (e : Ent) : St := if bothErr s e == 0 then takenSt (ticked s e.time) e else zeroSt
def oneAns (s : St) (e : Ent) : Int := if bothErr s e == 0 then takenAns (ticked s e.time) e else 0
/-- The box of a state that has just been laid. -/
theorem StBox.new (w : World) (s : St) (x : Value) (t : TypeId) : StBox w.heap.size s x (w.alloc (.cells #[.int .i64 s.at_, .int .i64 s.clock, .int .i64 s.v0, .int .i64 s.v1, .int .i64 s.v2, .int .i64 s.v3, x] t)) :=
  ⟨by simp [go_sem], by simp [go_sem], by simp [go_sem], by simp [go_sem], by simp [go_sem], by simp [go_sem], by simp [go_sem], fun i => by simp [go_sem]⟩

end Go.Proofs.Yteabfjpajgakiaf

/- Entries in memory; fold.Check, fold.checkBoth. -/
set_option linter.unusedSimpArgs false
set_option linter.unusedVariables false
set_option maxRecDepth 10000
namespace Go.Proofs.Yteabfjpajgakiaf
open Go.RowKit

/-- The cells of entries. -/
def entCells : List Ent → List Value
  | [] => []
  | e :: r => .int .i64 e.kind :: .int .i64 e.time :: .int .i64 e.client :: .int .i64 e.seq :: .int .i64 e.ack :: .int .i64 e.ok :: .int .i64 e.okey :: .int .i64 e.oto :: .int .i64 e.on :: entCells r

def EntsAt (w : World) (v : Value) (L : List Ent) : Prop := RowAt w 9 v L.length (entCells L)

theorem EntsAt.keep {w w' : World} {v : Value} {L : List Ent} (h : EntsAt w v L) (hk : Keeps w w') : EntsAt w' v L := RowAt.keep h hk
theorem EntsAt.len {w : World} {v : Value} {L : List Ent} (h : EntsAt w v L) : ∃ a cap, v = .slice a L.length cap ∧ L.length ≤ maxLen := RowAt.len h

theorem entCells_len : ∀ l : List Ent, (entCells l).length = l.length * 9
  | [] => rfl
  | _ :: r => by simp only [entCells, List.length_cons, entCells_len r]; omega

theorem entCells_drop : ∀ (l : List Ent) (k : Nat), (entCells l).drop (k * 9) = entCells (l.drop k)
  | l, 0 => by simp
  | [], k + 1 => by simp [entCells]
  | e :: r, k + 1 => by
    rw [show (k + 1) * 9 = k * 9 + 1 + 1 + 1 + 1 + 1 + 1 + 1 + 1 + 1 from by omega]
    simp only [entCells, List.drop_succ_cons]
    exact entCells_drop r k
theorem entCells_take : ∀ (l : List Ent) (k : Nat), (entCells l).take (k * 9) = entCells (l.take k)
  | l, 0 => by simp [entCells]
  | [], k + 1 => by simp [entCells]
  | e :: r, k + 1 => by
    rw [show (k + 1) * 9 = k * 9 + 1 + 1 + 1 + 1 + 1 + 1 + 1 + 1 + 1 from by omega]
    simp only [entCells, List.take_succ_cons, entCells_take r k]
theorem entCells_append : ∀ (l m : List Ent), entCells (l ++ m) = entCells l ++ entCells m
  | [], m => rfl
  | _ :: r, m => by simp only [entCells, List.cons_append, entCells_append r m]
theorem entCells_one : ∀ (l : List Ent), ∀ u ∈ entCells l, u.oneCell' = true
  | [], u, h => by simp [entCells] at h
  | e :: r, u, h => by
    simp only [entCells, List.mem_cons] at h
    rcases h with rfl | rfl | rfl | rfl | rfl | rfl | rfl | rfl | rfl | h
    all_goals first | rfl | exact entCells_one r u h

/-- Entry number k, in memory. -/
theorem EntsAt.at {w : World} {v : Value} {L : List Ent} (h : EntsAt w v L) {k : Nat} (hk : k < L.length) :
    ∃ b off cap, v = .slice (some ⟨b, off, none⟩) L.length cap ∧
      w.cell? ⟨b, off + k * 9, none⟩ = some (.int .i64 (L[k]).kind) ∧ w.cell? ⟨b, off + k * 9 + 1, none⟩ = some (.int .i64 (L[k]).time) ∧ w.cell? ⟨b, off + k * 9 + 2, none⟩ = some (.int .i64 (L[k]).client) ∧
      w.cell? ⟨b, off + k * 9 + 3, none⟩ = some (.int .i64 (L[k]).seq) ∧ w.cell? ⟨b, off + k * 9 + 4, none⟩ = some (.int .i64 (L[k]).ack) ∧ w.cell? ⟨b, off + k * 9 + 5, none⟩ = some (.int .i64 (L[k]).ok) ∧
      w.cell? ⟨b, off + k * 9 + 6, none⟩ = some (.int .i64 (L[k]).okey) ∧ w.cell? ⟨b, off + k * 9 + 7, none⟩ = some (.int .i64 (L[k]).oto) ∧ w.cell? ⟨b, off + k * 9 + 8, none⟩ = some (.int .i64 (L[k]).on) := by
  obtain ⟨b, off, cap, rfl, h3⟩ := RowAt.plain h (by rw [entCells_len]; omega)
  refine ⟨b, off, cap, rfl, ?_⟩
  have hd : (entCells L).drop (k * 9) = entCells (L[k] :: L.drop (k + 1)) := by rw [entCells_drop, List.drop_eq_getElem_cons hk]
  have go : ∀ i u, (entCells (L[k] :: L.drop (k + 1)))[i]? = some u → w.cell? ⟨b, off + k * 9 + i, none⟩ = some u := by
    intro i u hu
    rw [← hd, List.getElem?_drop] at hu
    rw [Nat.add_assoc]
    exact h3 _ _ hu
  exact ⟨go 0 _ rfl, go 1 _ rfl, go 2 _ rfl, go 3 _ rfl, go 4 _ rfl, go 5 _ rfl, go 6 _ rfl, go 7 _ rfl, go 8 _ rfl⟩

end Go.Proofs.Yteabfjpajgakiaf

/- What op.Do's answer is good for: plain mathematics. -/
set_option linter.unusedSimpArgs false
set_option linter.unusedVariables false
namespace Go.Proofs.Yteabfjpajgakiaf

end Go.Proofs.Yteabfjpajgakiaf

/- What One makes of a right state is right: plain mathematics. -/
set_option linter.unusedSimpArgs false
set_option linter.unusedVariables false
namespace Go.Proofs.Yteabfjpajgakiaf
open Go.RowKit

end Go.Proofs.Yteabfjpajgakiaf

/- A table of its own, one of whose sessions is turned in its place. -/
set_option linter.unusedSimpArgs false
set_option linter.unusedVariables false
set_option maxRecDepth 10000
namespace Go.Proofs.Yteabfjpajgakiaf
open Go.RowKit

/-- A row of sessions in block g. -/
def SesRow (w : World) (g cap : Nat) (xs : List Value) : Prop := ∃ cur : Array Value, w.heap[g]? = some (.cells cur 95 (0, 0)) ∧ cur.size = cap * 4 ∧ cap ≤ maxLen ∧ xs.length ≤ cap * 4 ∧ cur.toList.take xs.length = xs
theorem SesRow.lt {w : World} {g cap : Nat} {xs : List Value} (h : SesRow w g cap xs) : g < w.heap.size := by
  obtain ⟨cur, h1, _⟩ := h
  exact (Array.getElem?_eq_some_iff.1 h1).1
theorem SesRow.set {w : World} {g cap : Nat} {xs : List Value} (h : SesRow w g cap xs) (i : Nat) (u : Value) : SesRow (w.setCell ⟨g, i, none⟩ u) g cap (xs.set i u) := by
  obtain ⟨cur, h1, h2, h3, h4, h5⟩ := h
  refine ⟨cur.setIfInBounds i u, ?_, by simpa using h2, h3, by simpa using h4, ?_⟩
  · simp [World.setCell, Array.getElem?_modify, h1]
  · simp only [List.length_set, Array.toList_setIfInBounds]
    rw [List.take_set, h5]
theorem SesRow.frozen {w : World} {g cap : Nat} {xs : List Value} (h : SesRow w g cap xs) (i : Nat) : w.frozen? ⟨g, i, none⟩ = false := by
  obtain ⟨cur, h1, _⟩ := h
  simp [World.frozen?, h1]

theorem sesCells_set : ∀ (L : List Ses) (ks : List Value) (k : Nat) (s : Ses) (kv : Value), ks.length = L.length → k < L.length →
    sesCells (L.set k s) (ks.set k kv) = ((((sesCells L ks).set (k * 4) (.int .i64 s.client)).set (k * 4 + 1) (.int .i64 s.acked)).set (k * 4 + 2) (.int .i64 s.seen)).set (k * 4 + 3) kv
  | [], ks, k, s, kv, _, h => by simp at h
  | a :: L, [], k, s, kv, h, _ => by simp at h
  | a :: L, b :: ks, 0, s, kv, _, _ => by simp [sesCells]
  | a :: L, b :: ks, k + 1, s, kv, h, hk => by
    have ih := sesCells_set L ks k s kv (by simpa using h) (by simpa using hk)
    rw [List.set_cons_succ, List.set_cons_succ, show (k + 1) * 4 = k * 4 + 1 + 1 + 1 + 1 from by omega]
    simp only [sesCells, List.set_cons_succ, ih]
theorem sesCells_seen : ∀ (L : List Ses) (ks : List Value) (k : Nat) (c : Int), ks.length = L.length → (hk : k < L.length) →
    sesCells (L.set k { L[k] with seen := c }) ks = (sesCells L ks).set (k * 4 + 2) (.int .i64 c)
  | [], ks, k, c, _, h => by simp at h
  | a :: L, [], k, c, h, _ => by simp at h
  | a :: L, b :: ks, 0, c, _, _ => by simp [sesCells]
  | a :: L, b :: ks, k + 1, c, h, hk => by
    have ih := sesCells_seen L ks k c (by simpa using h) (by simpa using hk)
    rw [show (k + 1) * 4 + 2 = k * 4 + 2 + 1 + 1 + 1 + 1 from by omega]
    simp only [List.set_cons_succ, List.getElem_cons_succ, sesCells, ih]
theorem KeptsOwn.set {base : Nat} {w : World} : ∀ {L : List Ses} {ks : List Value} (k : Nat) (s : Ses) (kv : Value), KeptsOwn base w L ks → w.ownsRow base 116 2 kv s.kept.length (repCells s.kept) → KeptsOwn base w (L.set k s) (ks.set k kv)
  | [], [], _, _, _, _, _ => trivial
  | _ :: _, _ :: _, 0, _, _, h, h' => ⟨h', h.2⟩
  | _ :: _, _ :: _, k + 1, s, kv, h, h' => ⟨h.1, KeptsOwn.set k s kv h.2 h'⟩
theorem KeptsOwn.seen {base : Nat} {w : World} : ∀ {L : List Ses} {ks : List Value} (k : Nat) (c : Int) (hk : k < L.length), KeptsOwn base w L ks → KeptsOwn base w (L.set k { L[k] with seen := c }) ks
  | [], [], _, _, hk, _ => by simp at hk
  | _ :: _, _ :: _, 0, _, _, h => ⟨h.1, h.2⟩
  | _ :: L, _ :: _, k + 1, c, hk, h => ⟨h.1, by have := KeptsOwn.seen k c (by simpa using hk) h.2; simpa using this⟩

/-- A table of its own whose row lies in block g. -/
structure TabOn (g base : Nat) (w : World) (v : Value) (L : List Ses) (ks : List Value) (cap : Nat) : Prop where
  le : base ≤ g
  val : v = .slice (some ⟨g, 0, none⟩) L.length cap
  row : SesRow w g cap (sesCells L ks)
  kept : KeptsOwn base w L ks
  fit : L.length ≤ cap

theorem TabOn.own {g base cap : Nat} {w : World} {v : Value} {L : List Ses} {ks : List Value} (h : TabOn g base w v L ks cap) : OwnTab base w v L := by
  obtain ⟨cur, h1, h2, h3, h4, h5⟩ := h.row
  have hl : (sesCells L ks).length = L.length * 4 := by
    have hk := h.kept.len
    clear h h1 h2 h3 h4 h5
    induction L generalizing ks with
    | nil => simp [sesCells]
    | cons a L ih =>
      cases ks with
      | nil => simp at hk
      | cons b ks => simp only [sesCells, List.length_cons, ih (by simpa using hk)]; omega
  rw [hl] at h5
  exact ⟨ks, h.kept, hl, .inr ⟨g, cap, cur, h.val, h.le, h1, h.fit, h3, h2, h5⟩⟩
theorem OwnTab.on {base : Nat} {w : World} {v : Value} {L : List Ses} (h : OwnTab base w v L) (h0 : 0 < L.length) : ∃ g ks cap, TabOn g base w v L ks cap := by
  obtain ⟨ks, h1, h2, h3⟩ := h
  rcases h3 with ⟨_, h3⟩ | ⟨g, cap, cur, hv, hg, hh, hn, hm, hs, ht⟩
  · omega
  · exact ⟨g, ks, cap, hg, hv, ⟨cur, hh, hs, hm, by rw [h2]; omega, by rw [h2]; exact ht⟩, h1, hn⟩
theorem TabOn.grown {g base cap : Nat} {w w' : World} {v : Value} {L : List Ses} {ks : List Value} (h : TabOn g base w v L ks cap) (hb : But g w w') : KeptsOwn base w' L ks := by
  have ho := h.own
  have hrow : ∃ row m ys, w.ownsRow base 95 4 row m ys ∧ row.ownBlock = some g := by
    obtain ⟨cur, h1, h2, h3, h4, h5⟩ := h.row
    have ⟨ks', hk', hr'⟩ := ho
    refine ⟨v, _, _, hr', ?_⟩
    rw [h.val]
    rfl
  obtain ⟨row, m, ys, hr, hg⟩ := hrow
  exact KeptsOwn.kept hr (by rw [hg]; exact ⟨hb.os, hb.tape, hb.output, hb.size, fun k hk hne => hb.block k hk (fun e => hne (by rw [e]))⟩) h.kept

/-- Its session number k is turned whole. -/
theorem TabOn.put {g base cap : Nat} {w : World} {v : Value} {L : List Ses} {ks : List Value} (h : TabOn g base w v L ks cap) {k : Nat} (hk : k < L.length) (s : Ses) (kv : Value) (hs : w.ownsRow base 116 2 kv s.kept.length (repCells s.kept)) :
    TabOn g base ((((w.setCell ⟨g, k * 4, none⟩ (.int .i64 s.client)).setCell ⟨g, k * 4 + 1, none⟩ (.int .i64 s.acked)).setCell ⟨g, k * 4 + 2, none⟩ (.int .i64 s.seen)).setCell ⟨g, k * 4 + 3, none⟩ kv) v (L.set k s) (ks.set k kv) cap := by
  have hb : But g w ((((w.setCell ⟨g, k * 4, none⟩ (.int .i64 s.client)).setCell ⟨g, k * 4 + 1, none⟩ (.int .i64 s.acked)).setCell ⟨g, k * 4 + 2, none⟩ (.int .i64 s.seen)).setCell ⟨g, k * 4 + 3, none⟩ kv) := ((((But.refl _ _).set _ _).set _ _).set _ _).set _ _
  have hl := h.kept.len
  have h2 : TabOn g base w v (L.set k s) (ks.set k kv) cap → True := fun _ => trivial
  refine ⟨h.le, by rw [h.val]; simp, ?_, ?_, by simpa using h.fit⟩
  · rw [sesCells_set L ks k s kv hl hk]
    exact (((h.row.set _ _).set _ _).set _ _).set _ _
  · have ho := h.own
    obtain ⟨ks', hk', hr'⟩ := ho
    have hgb : v.ownBlock = some g := by rw [h.val]; rfl
    exact KeptsOwn.kept hr' (by rw [hgb]; exact ⟨hb.os, hb.tape, hb.output, hb.size, fun k hk hne => hb.block k hk (fun e => hne (by rw [e]))⟩) (h.kept.set k s kv hs)
/-- .. when it was seen. -/
theorem TabOn.seen {g base cap : Nat} {w : World} {v : Value} {L : List Ses} {ks : List Value} (h : TabOn g base w v L ks cap) {k : Nat} (hk : k < L.length) (c : Int) :
    TabOn g base (w.setCell ⟨g, k * 4 + 2, none⟩ (.int .i64 c)) v (L.set k { L[k] with seen := c }) ks cap := by
  refine ⟨h.le, by rw [h.val]; simp, ?_, ?_, by simpa using h.fit⟩
  · rw [sesCells_seen L ks k c h.kept.len hk]
    exact h.row.set _ _
  · exact (h.grown ((But.refl _ _).set _ _)).seen k c hk
theorem TabOn.keep {g base cap : Nat} {w w' : World} {v : Value} {L : List Ses} {ks : List Value} (h : TabOn g base w v L ks cap) (hk : Keeps w w') : TabOn g base w' v L ks cap := by
  refine ⟨h.le, h.val, ?_, h.kept.keep hk, h.fit⟩
  have hl := h.row.lt
  obtain ⟨cur, h1, r⟩ := h.row
  exact ⟨cur, (hk.block g hl).trans h1, r⟩
theorem TabOn.but {g b base cap : Nat} {w w' : World} {v : Value} {L : List Ses} {ks : List Value} (h : TabOn g base w v L ks cap) (hb : b < base) (hk : But b w w') : TabOn g base w' v L ks cap := by
  refine ⟨h.le, h.val, ?_, h.kept.far hb hk, h.fit⟩
  have hl := h.row.lt
  have hle := h.le
  obtain ⟨cur, h1, r⟩ := h.row
  exact ⟨cur, (hk.block g hl (by omega)).trans h1, r⟩

end Go.Proofs.Yteabfjpajgakiaf

/- What comes again is answered as it was: plain mathematics. -/
set_option linter.unusedSimpArgs false
set_option linter.unusedVariables false
namespace Go.Proofs.Yteabfjpajgakiaf
open Go.RowKit

end Go.Proofs.Yteabfjpajgakiaf

/- What the reference's applied makes, said by places: plain mathematics. -/
set_option linter.unusedSimpArgs false
set_option linter.unusedVariables false
namespace Go.Proofs.Yteabfjpajgakiaf
open Go.RowKit

end Go.Proofs.Yteabfjpajgakiaf

/- twin.State. -/
set_option linter.unusedSimpArgs false
set_option linter.unusedVariables false
set_option maxRecDepth 10000
namespace Go.Proofs.Yteabfjpajgakiaf
open Go.RowKit

end Go.Proofs.Yteabfjpajgakiaf

/- A state laid into its box. -/
namespace Go.Proofs.Yteabfjpajgakiaf
open Go.RowKit

/-- A state laid into its box. -/
theorem StBox.put {b : Nat} {s : St} {t : Value} {w : World} (h : StBox b s t w) (s' : St) (t' : Value) : StBox b s' t' (((((((w.setCell ⟨b, 0, none⟩ (.int .i64 s'.at_)).setCell ⟨b, 1, none⟩ (.int .i64 s'.clock)).setCell ⟨b, 2, none⟩ (.int .i64 s'.v0)).setCell ⟨b, 3, none⟩ (.int .i64 s'.v1)).setCell ⟨b, 4, none⟩ (.int .i64 s'.v2)).setCell ⟨b, 5, none⟩ (.int .i64 s'.v3)).setCell ⟨b, 6, none⟩ t') :=
  ((((((h.set (s' := { s with at_ := s'.at_ }) (t' := t) 0 (.int .i64 s'.at_) rfl rfl rfl rfl rfl rfl rfl).set (s' := { s with at_ := s'.at_, clock := s'.clock }) (t' := t) 1 (.int .i64 s'.clock) rfl rfl rfl rfl rfl rfl rfl).set (s' := { s with at_ := s'.at_, clock := s'.clock, v0 := s'.v0 }) (t' := t) 2 (.int .i64 s'.v0) rfl rfl rfl rfl rfl rfl rfl).set (s' := { s with at_ := s'.at_, clock := s'.clock, v0 := s'.v0, v1 := s'.v1 }) (t' := t) 3 (.int .i64 s'.v1) rfl rfl rfl rfl rfl rfl rfl).set (s' := { s with at_ := s'.at_, clock := s'.clock, v0 := s'.v0, v1 := s'.v1, v2 := s'.v2 }) (t' := t) 4 (.int .i64 s'.v2) rfl rfl rfl rfl rfl rfl rfl).set (s' := { s with at_ := s'.at_, clock := s'.clock, v0 := s'.v0, v1 := s'.v1, v2 := s'.v2, v3 := s'.v3 }) (t' := t) 5 (.int .i64 s'.v3) rfl rfl rfl rfl rfl rfl rfl).set (s' := s') (t' := t') 6 t' rfl rfl rfl rfl rfl rfl rfl
end Go.Proofs.Yteabfjpajgakiaf

/- All of it, plain; what a round of a loop over a function spares; a round out of its body's walk. -/
set_option linter.unusedSimpArgs false
set_option linter.unusedVariables false
namespace Go.Proofs.Yteabfjpajgakiaf
open Go.RowKit

/-- The state behind entries, and their answers. -/
def runSt (s : St) (L : List Ent) : St := L.foldl oneSt s
def runAns : St → List Ent → List Int
  | _, [] => []
  | s, e :: r => oneAns s e :: runAns (oneSt s e) r
/-- What is spared is as it was. -/
structure Spares (p : Nat → Prop) (x y : World) : Prop where
  os : y.os = x.os
  tape : y.tape = x.tape
  output : y.output = x.output
  size : x.heap.size ≤ y.heap.size
  block : ∀ k, k < x.heap.size → p k → y.heap[k]? = x.heap[k]?
theorem Spares.refl (p : Nat → Prop) (x : World) : Spares p x x := ⟨rfl, rfl, rfl, Nat.le_refl _, fun _ _ _ => rfl⟩
theorem Spares.trans {p : Nat → Prop} {x y z : World} (h : Spares p x y) (k : Spares p y z) : Spares p x z :=
  ⟨k.os.trans h.os, k.tape.trans h.tape, k.output.trans h.output, Nat.le_trans h.size k.size, fun i hi hp => (k.block i (Nat.lt_of_lt_of_le hi h.size) hp).trans (h.block i hi hp)⟩
theorem Spares.mono {p q : Nat → Prop} {x y : World} (h : Spares p x y) (hq : ∀ k, k < x.heap.size → q k → p k) : Spares q x y := ⟨h.os, h.tape, h.output, h.size, fun k hk hp => h.block k hk (hq k hk hp)⟩
theorem Spares.of {p : Nat → Prop} {x y : World} (h : Keeps x y) : Spares p x y := ⟨h.os, h.tape, h.output, h.size, fun k hk _ => h.block k hk⟩
theorem Spares.but {p : Nat → Prop} {b : Nat} {x y : World} (h : But b x y) (hb : ¬ p b) : Spares p x y := ⟨h.os, h.tape, h.output, h.size, fun k hk hp => h.block k hk (fun e => hb (by rw [← e]; exact hp))⟩
theorem Spares.grown {p : Nat → Prop} {r : Option Nat} {x y : World} (h : x.grownBy y r) (hb : ∀ b, r = some b → ¬ p b) : Spares p x y := ⟨h.os, h.tape, h.output, h.size, fun k hk hp => h.block k hk (fun e => hb k e.symm hp)⟩
theorem Spares.put {p : Nat → Prop} {x : World} {l : Nat} (o : Obj) (hb : ¬ p l) : Spares p x (x.putObj l o) := Spares.grown (grownBy_putObj' x l o) (fun b e => by cases e; exact hb)
theorem Spares.keeps {p : Nat → Prop} {a x y : World} (h : Spares p x y) (ha : Keeps a x) (hp : ∀ k, k < a.heap.size → p k) : Keeps a y :=
  Below.trans ha (⟨h.os, h.tape, h.output, h.size, fun k hk => h.block k (Nat.lt_of_lt_of_le hk ha.size) (hp k hk)⟩ : Below a.heap.size x y)
end Go.Proofs.Yteabfjpajgakiaf

/- The iterator of fold.All. -/
set_option linter.unusedSimpArgs false
set_option linter.unusedVariables false
set_option maxRecDepth 10000
namespace Go.Proofs.Yteabfjpajgakiaf
open Go.RowKit Go.Shelf
attribute [local go_sem] Oper.semAt_some

end Go.Proofs.Yteabfjpajgakiaf

/- Rows of numbers; SameInts. -/
set_option linter.unusedSimpArgs false
set_option linter.unusedVariables false
set_option maxRecDepth 10000
namespace Go.Proofs.Yteabfjpajgakiaf
open Go.RowKit

def intCells (l : List Int) : List Value := l.map (fun n => .int .i64 n)

def IntsAt (w : World) (v : Value) (l : List Int) : Prop := RowAt w 1 v l.length (intCells l)
theorem IntsAt.keep {w w' : World} {v : Value} {l : List Int} (h : IntsAt w v l) (hk : Keeps w w') : IntsAt w' v l := RowAt.keep h hk
theorem IntsAt.of {w : World} {base : Nat} {v : Value} {l : List Int} (h : w.ownsRow base 3 1 v l.length (intCells l)) : IntsAt w v l := RowAt.of_owns h
theorem IntsAt.at {w : World} {v : Value} {l : List Int} (h : IntsAt w v l) {k : Nat} (hk : k < l.length) : ∃ b off cap, v = .slice (some ⟨b, off, none⟩) l.length cap ∧ w.cell? ⟨b, off + k, none⟩ = some (.int .i64 (l[k])) := by
  obtain ⟨b, off, cap, rfl, h3⟩ := RowAt.plain h (by simp [intCells]; omega)
  exact ⟨b, off, cap, rfl, h3 k _ (by simp [intCells, List.getElem?_eq_getElem hk])⟩

end Go.Proofs.Yteabfjpajgakiaf
