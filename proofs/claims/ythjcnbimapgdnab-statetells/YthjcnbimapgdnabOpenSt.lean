/- The arguments of a law: a state. -/
import Derived.Test.YthjcnbimapgdnabOpenSes
import Derived.Test.YthjcnbimapgdnabStA
set_option linter.unusedSimpArgs false
set_option linter.unusedVariables false
set_option maxRecDepth 100000
namespace Go.Proofs.Ythjcnbimapgdnab
open Go.ChangeShapes Go.WideShapes Go.ChangeAt Go.RowKit Go.Joins Go.Deep

section
variable {H : Type} {enc : TypeId × Value → H} {w : World} {base : Nat} {spare : Nat → Bool} {held : Bool}

theorem cellsArr : Try.prog.cellsOf 22 = 4 := by kernel_rfl
theorem cellsTab : Try.prog.cellsOf 23 = 1 := by kernel_rfl
theorem cellsSt : Try.prog.cellsOf 25 = 7 := by kernel_rfl

/-- A table in a cell. -/
theorem open_tabc {n : Nat} {v : Value} {y : DataW H × List MemPlace} (h : DataW.trod enc Try.prog w base spare held n 23 [v] = some y) : ∃ L, TabAt w v L := by
  rcases open_slice Try.underlying23 h with ⟨h0, _⟩ | ⟨a, vl, vc, m, k, D, Pl, hv', _, hl, hm, hmm, _, hx⟩
  · obtain rfl : v = .slice none 0 0 := by simpa using h0
    exact ⟨[], [], trivial, rfl, by unfold maxLen; simp, .inl ⟨rfl, rfl⟩⟩
  · obtain rfl : v = .slice (some a) vl vc := by simpa using hv'
    have hlm : vl ≤ m := by rw [hmm]; split <;> omega
    have each : ∀ i, i < vl → ∃ q : Ses × Value, KeptAt w q.2 q.1.kept ∧ w.cell? (a.add (i * 4)) = some (.int .i64 q.1.client) ∧ w.cell? (a.add (i * 4 + 1)) = some (.int .i64 q.1.acked) ∧ w.cell? (a.add (i * 4 + 2)) = some (.int .i64 q.1.seen) ∧ w.cell? (a.add (i * 4 + 3)) = some q.2 := by
      intro i hi
      obtain ⟨cs', h1, h2⟩ := hx i (by omega)
      rw [cells34] at h1
      obtain ⟨_, hlen, hcell⟩ := World.cells?_some h1
      obtain ⟨y0, y1, y2, y3, n', _, _, g0, g1, g2, g3⟩ := trod_struct4 Try.underlying48 h2
      match cs', hlen with
      | [v0, v1, v2, v3], _ =>
        simp only [cells3, cells32, List.drop_zero, List.drop_succ_cons, List.take_succ_cons, List.take_zero] at g0 g1 g2 g3
        have e0 := hcell 0 (by omega)
        have e1 := hcell 1 (by omega)
        have e2 := hcell 2 (by omega)
        have e3 := hcell 3 (by omega)
        rw [add_add] at e0 e1 e2 e3
        obtain ⟨a0, rfl⟩ := one_int g0
        obtain ⟨a1, rfl⟩ := one_int g1
        obtain ⟨a2, rfl⟩ := one_int g2
        obtain ⟨l, hl⟩ := open_kept g3
        exact ⟨(⟨a0, a1, a2, l⟩, v3), hl, by simpa using e0, by simpa using e1, by simpa using e2, by simpa using e3⟩
    obtain ⟨q, hq⟩ := choose_lt each
    refine ⟨(List.range vl).map fun i => (q i).1, (List.range vl).map fun i => (q i).2, keptsAt_map _ _ _ fun i hi => (hq i (by simpa using hi)).1, ?_⟩
    have hLen : (sesCells ((List.range vl).map fun i => (q i).1) ((List.range vl).map fun i => (q i).2)).length = ((List.range vl).map fun i => (q i).1).length * 4 := sesCells_len _ _ (by simp)
    refine ⟨hLen, by simp; omega, .inr ⟨a, vc, by simp, fun j u hu => ?_⟩⟩
    have hj : j < vl * 4 := by
      have := (List.getElem?_eq_some_iff.1 hu).1
      rw [hLen] at this
      simpa using this
    have hi : j / 4 < vl := by omega
    obtain ⟨_, c0, c1, c2, c3⟩ := hq (j / 4) hi
    obtain ⟨e0, e1, e2, e3⟩ := sesCells_at ((List.range vl).map fun i => (q i).1) ((List.range vl).map fun i => (q i).2) (j / 4) (by simpa using hi) (by simpa using hi)
    simp only [List.getElem_map, List.getElem_range] at e0 e1 e2 e3
    rcases (show j % 4 = 0 ∨ j % 4 = 1 ∨ j % 4 = 2 ∨ j % 4 = 3 by omega) with h2 | h2 | h2 | h2
    · rw [show 4 * (j / 4) = j by omega, hu] at e0
      rw [show j / 4 * 4 = j by omega] at c0
      rw [c0]; exact e0.symm
    · rw [show 4 * (j / 4) + 1 = j by omega, hu] at e1
      rw [show j / 4 * 4 + 1 = j by omega] at c1
      rw [c1]; exact e1.symm
    · rw [show 4 * (j / 4) + 2 = j by omega, hu] at e2
      rw [show j / 4 * 4 + 2 = j by omega] at c2
      rw [c2]; exact e2.symm
    · rw [show 4 * (j / 4) + 3 = j by omega, hu] at e3
      rw [show j / 4 * 4 + 3 = j by omega] at c3
      rw [c3]; exact e3.symm

/-- A state. -/
theorem open_state {r : Reach} {b0 : Nat} {v : Value} {d : DataW H} {p : List MemPlace} (hv : Value.okWide Try.prog w r b0 25 v) (h : DataW.Trod enc Try.prog w base spare held 25 v d p) :
    ∃ (s : St) (t : Value), v = stV s t ∧ TabAt w t s.tab := by
  obtain ⟨cs, rfl, hsz⟩ := okWide_struct Try.underlying25 hv
  rw [cellsSt] at hsz
  obtain ⟨fuel, hf⟩ := h
  obtain ⟨y0, y1, y2, y3, n', _, _, g0, g1, g2, g3⟩ := trod_struct4 Try.underlying25 hf
  obtain ⟨cl⟩ := cs
  match cl, hsz with
  | [c0, c1, c2, c3, c4, c5, c6], _ =>
    simp only [cells3, cellsArr, cellsTab, Value.cells, List.drop_zero, List.drop_succ_cons, List.take_succ_cons, List.take_zero] at g0 g1 g2 g3
    obtain ⟨a0, rfl⟩ := one_int g0
    obtain ⟨a1, rfl⟩ := one_int g1
    obtain ⟨xs, m, _, _, _, hlen, hi⟩ := DataW.trod_array Try.underlying22 g2
    simp only [cells3] at hi
    have e : ∀ i (hi' : i < 4), ∃ y, xs[i]? = some y := fun i h' => ⟨xs[i]'(by omega), by rw [List.getElem?_eq_getElem]⟩
    obtain ⟨z0, e0⟩ := e 0 (by decide)
    obtain ⟨z1, e1⟩ := e 1 (by decide)
    obtain ⟨z2, e2⟩ := e 2 (by decide)
    obtain ⟨z3, e3⟩ := e 3 (by decide)
    obtain ⟨b0, rfl⟩ := one_int ((hi 0 (by decide)).trans e0)
    obtain ⟨b1, rfl⟩ := one_int ((hi 1 (by decide)).trans e1)
    obtain ⟨b2, rfl⟩ := one_int ((hi 2 (by decide)).trans e2)
    obtain ⟨b3, rfl⟩ := one_int ((hi 3 (by decide)).trans e3)
    obtain ⟨L, hL⟩ := open_tabc g3
    exact ⟨⟨a0, a1, b0, b1, b2, b3, L⟩, c6, rfl, hL⟩
end
end Go.Proofs.Ythjcnbimapgdnab
