/- ChN, StS, FoI, PaA, Apart, PaB, Bools, ApQ1, OpF. -/
import Derived.Test.YteabfjpajgakiafJ00
import Derived.Test.YteabfjpajgakiafJ02
import Derived.Test.YteabfjpajgakiafJ04
import Derived.Test.YteabfjpajgakiafJ10
import Derived.Test.YteabfjpajgakiafJ12
import Derived.Test.YteabfjpajgakiafJ14
/- choose: which of n things a raw number speaks of. -/
set_option linter.unusedSimpArgs false
set_option linter.unusedVariables false
set_option maxRecDepth 10000
namespace Go.Proofs.Yteabfjpajgakiaf
open Go.RowKit

theorem choose_n (c n : Int) (w : World) (hc0 : -9223372036854775808 ≤ c) (hc1 : c ≤ 9223372036854775807) (hn : 1 ≤ n) (hn1 : n ≤ 9223372036854775807) :
    Calls Try.prog 12 #[.int .i64 c, .int .i64 n] w fun e w' => ∃ r : Int, 0 ≤ r ∧ r < n ∧ e = .returned (.int .i64 r) ∧ w = w' := by
  have hne : ¬ n = 0 := by omega
  by_cases h : c < 0
  · have e1 : Hid (0 ≤ (-(c + 1)).tmod n ∧ (-(c + 1)).tmod n < n) := ⟨Int.tmod_nonneg _ (by omega), Int.tmod_lt_of_pos _ (by omega)⟩
    go_enter Try.func12, Try.ntmps12
    go_wp2
    go_ret
    exact ⟨_, by have := e1.out.1; rwa [Int.neg_tmod] at this, by have := e1.out.2; rwa [Int.neg_tmod] at this, rfl, rfl⟩
  · have e1 : Hid (0 ≤ c.tmod n ∧ c.tmod n < n) := ⟨Int.tmod_nonneg _ (by omega), Int.tmod_lt_of_pos _ (by omega)⟩
    have e2 : Hid (c.tmod n = c % n) := Int.tmod_eq_emod_of_nonneg (by omega)
    go_enter Try.func12, Try.ntmps12
    go_wp2
    go_ret
    first
      | exact ⟨_, e1.out.1, e1.out.2, rfl, rfl⟩
      | exact ⟨_, by have := e1.out.1; rwa [e2.out] at this, by have := e1.out.2; rwa [e2.out] at this, rfl, rfl⟩
end Go.Proofs.Yteabfjpajgakiaf

/- Two states are the same just if they are one. -/
namespace Go.Proofs.Yteabfjpajgakiaf
open Go.RowKit

end Go.Proofs.Yteabfjpajgakiaf

/- FoldSplit: the walk. -/
set_option linter.unusedSimpArgs false
set_option linter.unusedVariables false
set_option maxRecDepth 10000
namespace Go.Proofs.Yteabfjpajgakiaf
open Go.RowKit

theorem ents_prefix {w : World} {oa : Option Addr} {oc j : Nat} {l : List Ent} (h : EntsAt w (.slice oa l.length oc) l) (hj : j ≤ l.length) : EntsAt w (.slice oa j oc) (l.take j) := by
  obtain ⟨h1, h2, h3⟩ := h
  have hl : (l.take j).length = j := by simp; omega
  refine ⟨by rw [entCells_len], by rw [hl]; omega, ?_⟩
  rcases h3 with ⟨e, hn⟩ | ⟨a, cap, e, h3⟩
  · injection e with e1 e2 e3
    subst e1 e3
    left
    have : j = 0 := by omega
    subst this
    exact ⟨rfl, by simp⟩
  · injection e with e1 e2 e3
    subst e1
    right
    refine ⟨a, oc, by rw [hl], fun i u hu => ?_⟩
    rw [← entCells_take, List.getElem?_take] at hu
    split at hu
    · exact h3 i u hu
    · cases hu
end Go.Proofs.Yteabfjpajgakiaf

/- Logs in memory; pack.all, Check, behind, End. -/
set_option linter.unusedSimpArgs false
set_option linter.unusedVariables false
set_option maxRecDepth 10000
namespace Go.Proofs.Yteabfjpajgakiaf
open Go.RowKit

structure Lg where
  base : St
  tail : List Ent

/-- A log's variable. -/
structure LgBox (b : Nat) (l : Lg) (x t : Value) (w : World) : Prop where
  c0 : w.cell? ⟨b, 0, none⟩ = some (.int .i64 l.base.at_)
  c1 : w.cell? ⟨b, 1, none⟩ = some (.int .i64 l.base.clock)
  c2 : w.cell? ⟨b, 2, none⟩ = some (.int .i64 l.base.v0)
  c3 : w.cell? ⟨b, 3, none⟩ = some (.int .i64 l.base.v1)
  c4 : w.cell? ⟨b, 4, none⟩ = some (.int .i64 l.base.v2)
  c5 : w.cell? ⟨b, 5, none⟩ = some (.int .i64 l.base.v3)
  c6 : w.cell? ⟨b, 6, none⟩ = some x
  c7 : w.cell? ⟨b, 7, none⟩ = some t
  fz : ∀ i, w.frozen? ⟨b, i, none⟩ = false
theorem LgBox.lt {b : Nat} {l : Lg} {x t : Value} {w : World} (h : LgBox b l x t w) : b < w.heap.size := World.block_lt_of_cell? _ _ h.c0
theorem LgBox.same {b : Nat} {l : Lg} {x t : Value} {w w' : World} (h : LgBox b l x t w) (hb : w'.heap[b]? = w.heap[b]?) : LgBox b l x t w' := by
  have hc : ∀ i, w'.cell? ⟨b, i, none⟩ = w.cell? ⟨b, i, none⟩ := fun i => World.cell?_of_block hb
  exact ⟨(hc _).trans h.c0, (hc _).trans h.c1, (hc _).trans h.c2, (hc _).trans h.c3, (hc _).trans h.c4, (hc _).trans h.c5, (hc _).trans h.c6, (hc _).trans h.c7, fun i => (World.frozen?_of_block hb).trans (h.fz i)⟩
theorem LgBox.keep {b : Nat} {l : Lg} {x t : Value} {w w' : World} (h : LgBox b l x t w) (hk : Keeps w w') : LgBox b l x t w' := h.same (hk.block b h.lt)
theorem LgBox.other {b b' : Nat} {l : Lg} {x t : Value} {w w' : World} (h : LgBox b l x t w) (hk : But b' w w') (hb : b ≠ b') : LgBox b l x t w' := h.same (hk.block b h.lt hb)
theorem LgBox.new (w : World) (l : Lg) (x t : Value) (hx : x.cells = #[x]) (ht : t.cells = #[t]) (ty : TypeId) : LgBox w.heap.size l x t (w.alloc (.cells #[.int .i64 l.base.at_, .int .i64 l.base.clock, .int .i64 l.base.v0, .int .i64 l.base.v1, .int .i64 l.base.v2, .int .i64 l.base.v3, x, t] ty)) :=
  ⟨by simp [go_sem], by simp [go_sem], by simp [go_sem], by simp [go_sem], by simp [go_sem], by simp [go_sem], by simp [go_sem], by simp [go_sem], fun i => by simp [go_sem]⟩
theorem LgBox.put {b : Nat} {k : Lg} {y u : Value} {w : World} (h : LgBox b k y u w) (l : Lg) (x t : Value) : LgBox b l x t ((((((((w.setCell ⟨b, 0, none⟩ (.int .i64 l.base.at_)).setCell ⟨b, 1, none⟩ (.int .i64 l.base.clock)).setCell ⟨b, 2, none⟩ (.int .i64 l.base.v0)).setCell ⟨b, 3, none⟩ (.int .i64 l.base.v1)).setCell ⟨b, 4, none⟩ (.int .i64 l.base.v2)).setCell ⟨b, 5, none⟩ (.int .i64 l.base.v3)).setCell ⟨b, 6, none⟩ (x)).setCell ⟨b, 7, none⟩ (t)) := by
  have c0 := h.c0
  have c1 := h.c1
  have c2 := h.c2
  have c3 := h.c3
  have c4 := h.c4
  have c5 := h.c5
  have c6 := h.c6
  have c7 := h.c7
  have fz := h.fz
  refine ⟨?_, ?_, ?_, ?_, ?_, ?_, ?_, ?_, fun i => by simp [go_sem, fz]⟩ <;> simp [go_sem, c0, c1, c2, c3, c4, c5, c6, c7]

end Go.Proofs.Yteabfjpajgakiaf

/- Rows of two types lie in two blocks. -/
set_option linter.unusedSimpArgs false
set_option linter.unusedVariables false
set_option maxRecDepth 10000
namespace Go.Proofs.Yteabfjpajgakiaf
open Go.RowKit

end Go.Proofs.Yteabfjpajgakiaf

/- twin.Entries, twin.Log; pack.End, Cut, checkBoth, Put. -/
set_option linter.unusedSimpArgs false
set_option linter.unusedVariables false
set_option maxRecDepth 10000
namespace Go.Proofs.Yteabfjpajgakiaf
open Go.RowKit

end Go.Proofs.Yteabfjpajgakiaf

/- Rows of truths. -/
set_option linter.unusedSimpArgs false
set_option linter.unusedVariables false
set_option maxRecDepth 10000
namespace Go.Proofs.Yteabfjpajgakiaf
open Go.RowKit

def boolCells (l : List Bool) : List Value := l.map (fun n => .bool n)
def BoolsAt (w : World) (v : Value) (l : List Bool) : Prop := RowAt w 1 v l.length (boolCells l)
theorem BoolsAt.keep {w w' : World} {v : Value} {l : List Bool} (h : BoolsAt w v l) (hk : Keeps w w') : BoolsAt w' v l := RowAt.keep h hk
theorem BoolsAt.of {w : World} {base : Nat} {v : Value} {l : List Bool} (h : w.ownsRow base 4 1 v l.length (boolCells l)) : BoolsAt w v l := RowAt.of_owns h
theorem BoolsAt.at {w : World} {v : Value} {l : List Bool} (h : BoolsAt w v l) {k : Nat} (hk : k < l.length) : ∃ b off cap, v = .slice (some ⟨b, off, none⟩) l.length cap ∧ w.cell? ⟨b, off + k, none⟩ = some (.bool (l[k])) := by
  obtain ⟨b, off, cap, rfl, h3⟩ := RowAt.plain h (by simp [boolCells]; omega)
  exact ⟨b, off, cap, rfl, h3 k _ (by simp [boolCells, List.getElem?_eq_getElem hk])⟩
end Go.Proofs.Yteabfjpajgakiaf

/- Three appends in one statement, and parts of a row of answers. -/
set_option linter.unusedSimpArgs false
set_option linter.unusedVariables false
namespace Go.Proofs.Yteabfjpajgakiaf
open Go.RowKit

end Go.Proofs.Yteabfjpajgakiaf

/- What the reference's DoOf answers. -/
set_option linter.unusedSimpArgs false
set_option linter.unusedVariables false
set_option maxRecDepth 10000
namespace Go.Proofs.Yteabfjpajgakiaf
open Go.RowKit

end Go.Proofs.Yteabfjpajgakiaf
