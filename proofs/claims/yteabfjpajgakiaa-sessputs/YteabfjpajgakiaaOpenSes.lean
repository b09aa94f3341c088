/- The arguments of a law: a table of sessions, a session. -/
import Derived.Test.YteabfjpajgakiaaOpenInt
import Derived.Test.YteabfjpajgakiaaSesC
import Derived.Deep.SlicePairs
set_option linter.unusedSimpArgs false
set_option linter.unusedVariables false
set_option maxRecDepth 100000
namespace Go.Proofs.Yteabfjpajgakiaa
open Go.ChangeShapes Go.WideShapes Go.ChangeAt Go.RowKit Go.Joins Go.Deep

section
variable {H : Type} {enc : TypeId × Value → H} {w : World} {base : Nat} {spare : Nat → Bool} {held : Bool}

theorem cells34 : Try.prog.cellsOf 34 = 4 := by kernel_rfl
theorem cells61 : Try.prog.cellsOf 61 = 2 := by kernel_rfl
theorem cells32 : Try.prog.cellsOf 32 = 1 := by kernel_rfl

instance : Inhabited Ses := ⟨⟨0, 0, 0, []⟩⟩

/-- The answers kept. -/
theorem open_kept {n : Nat} {v : Value} {y : DataW H × List MemPlace} (h : DataW.trod enc Try.prog w base spare held n 32 [v] = some y) : ∃ l, KeptAt w v l := by
  rcases open_slice_pairs Try.underlying32 Try.underlying61 cells61 rfl rfl cells3 cells3 h with ⟨h0, _⟩ | ⟨a, len, cap, m, k, V0, V1, D0, D1, P0, P1, hv, _, hl, hm, hmm, _, hx⟩
  · obtain rfl : v = .slice none 0 0 := by simpa using h0
    exact ⟨[], kept_nil w⟩
  · obtain rfl : v = .slice (some a) len cap := by simpa using hv
    have hlm : len ≤ m := by rw [hmm]; split <;> omega
    refine ⟨(List.range len).map fun i => (intOf (V0 i), intOf (V1 i)), repCells_len _, by simp; omega, .inr ⟨a, cap, by simp, fun j u hu => ?_⟩⟩
    have hj : j < len * 2 := by
      have := (List.getElem?_eq_some_iff.1 hu).1
      rw [repCells_len] at this
      simpa using this
    have hi : j / 2 < len := by omega
    obtain ⟨c0, c1, t0, t1⟩ := hx (j / 2) (by omega)
    obtain ⟨q, hq⟩ := one_int t0
    obtain ⟨q', hq'⟩ := one_int t1
    have e := repCells_at ((List.range len).map fun i => (intOf (V0 i), intOf (V1 i))) (j / 2) q q' (by simp [hi, hq, hq', intOf])
    rcases Nat.mod_two_eq_zero_or_one j with h2 | h2
    · have hj2 : 2 * (j / 2) = j := by omega
      rw [hj2, hu] at e
      rw [show j / 2 * 2 = j by omega, hq] at c0
      rw [c0]
      exact e.1.symm
    · have hj2 : 2 * (j / 2) + 1 = j := by omega
      rw [hj2, hu] at e
      rw [show j / 2 * 2 + 1 = j by omega, hq'] at c1
      rw [c1]
      exact e.2.symm

/-- A session, by value. -/
theorem open_ses {r : Reach} {b0 : Nat} {v : Value} {d : DataW H} {p : List MemPlace} (hv : Value.okWide Try.prog w r b0 34 v) (h : DataW.Trod enc Try.prog w base spare held 34 v d p) :
    ∃ (s : Ses) (kv : Value), v = sesV s kv ∧ KeptAt w kv s.kept := by
  obtain ⟨v0, v1, v2, v3, y0, y1, y2, y3, m, rfl, _, _, h0, h1, h2, h3⟩ := open_agg4 Try.underlying34 (by kernel_rfl) cells34 hv h
  obtain ⟨a0, rfl⟩ := one_int h0
  obtain ⟨a1, rfl⟩ := one_int h1
  obtain ⟨a2, rfl⟩ := one_int h2
  obtain ⟨l, hl⟩ := open_kept h3
  exact ⟨⟨a0, a1, a2, l⟩, v3, rfl, hl⟩

theorem keptsAt_map (S : Nat → Ses) (K : Nat → Value) : ∀ r : List Nat, (∀ i ∈ r, KeptAt w (K i) (S i).kept) → KeptsAt w (r.map S) (r.map K)
  | [], _ => trivial
  | i :: r, h => ⟨h i (by simp), keptsAt_map S K r fun j hj => h j (by simp [hj])⟩

theorem sesCells_len : ∀ (L : List Ses) (ks : List Value), ks.length = L.length → (sesCells L ks).length = L.length * 4
  | [], [], _ => rfl
  | s :: L, k :: ks, h => by simp [sesCells, sesCells_len L ks (by simpa using h)]; omega

/-- A table of sessions. -/
theorem open_tab {r : Reach} {b0 : Nat} {v : Value} {d : DataW H} {p : List MemPlace} (hv : Value.okWide Try.prog w r b0 31 v) (h : DataW.Trod enc Try.prog w base spare held 31 v d p) :
    ∃ L, TabAt w v L := by
  obtain ⟨va, vl, vc, rfl⟩ := okWide_slice Try.underlying31 hv
  obtain ⟨n, hn⟩ := field_of_Trod h (by simp [Value.cells])
  rcases open_slice Try.underlying31 hn with ⟨h0, _⟩ | ⟨a, len, cap, m, k, D, Pl, hv', _, hl, hm, hmm, _, hx⟩
  · obtain ⟨rfl, rfl, rfl⟩ : va = none ∧ vl = 0 ∧ vc = 0 := by simpa using h0
    exact ⟨[], [], trivial, rfl, by unfold maxLen; simp, .inl ⟨rfl, rfl⟩⟩
  · obtain ⟨rfl, rfl, rfl⟩ : va = some a ∧ vl = len ∧ vc = cap := by simpa using hv'
    have hlm : vl ≤ m := by rw [hmm]; split <;> omega
    have each : ∀ i, i < vl → ∃ q : Ses × Value, KeptAt w q.2 q.1.kept ∧ w.cell? (a.add (i * 4)) = some (.int .i64 q.1.client) ∧ w.cell? (a.add (i * 4 + 1)) = some (.int .i64 q.1.acked) ∧ w.cell? (a.add (i * 4 + 2)) = some (.int .i64 q.1.seen) ∧ w.cell? (a.add (i * 4 + 3)) = some q.2 := by
      intro i hi
      obtain ⟨cs', h1, h2⟩ := hx i (by omega)
      rw [cells34] at h1
      obtain ⟨_, hlen, hcell⟩ := World.cells?_some h1
      obtain ⟨y0, y1, y2, y3, n', _, _, g0, g1, g2, g3⟩ := trod_struct4 Try.underlying34 h2
      match cs', hlen with
      | [v0, v1, v2, v3], _ =>
        simp only [cells3, cells32, List.drop_zero, List.drop_succ_cons, List.take_succ_cons, List.take_zero] at g0 g1 g2 g3
        have e0 := hcell 0 (by omega)
        have e1 := hcell 1 (by omega)
        have e2 := hcell 2 (by omega)
        have e3 := hcell 3 (by omega)
        rw [add_add] at e0 e1 e2 e3
        obtain ⟨a0, rfl⟩ := one_int g0
        obtain ⟨a1, rfl⟩ := one_int g1
        obtain ⟨a2, rfl⟩ := one_int g2
        obtain ⟨l, hl⟩ := open_kept g3
        exact ⟨(⟨a0, a1, a2, l⟩, v3), hl, by simpa using e0, by simpa using e1, by simpa using e2, by simpa using e3⟩
    obtain ⟨q, hq⟩ := choose_lt each
    refine ⟨(List.range vl).map fun i => (q i).1, (List.range vl).map fun i => (q i).2, keptsAt_map _ _ _ fun i hi => (hq i (by simpa using hi)).1, ?_⟩
    have hLen : (sesCells ((List.range vl).map fun i => (q i).1) ((List.range vl).map fun i => (q i).2)).length = ((List.range vl).map fun i => (q i).1).length * 4 := sesCells_len _ _ (by simp)
    refine ⟨hLen, by simp; omega, .inr ⟨a, vc, by simp, fun j u hu => ?_⟩⟩
    have hj : j < vl * 4 := by
      have := (List.getElem?_eq_some_iff.1 hu).1
      rw [hLen] at this
      simpa using this
    have hi : j / 4 < vl := by omega
    obtain ⟨_, c0, c1, c2, c3⟩ := hq (j / 4) hi
    obtain ⟨e0, e1, e2, e3⟩ := sesCells_at ((List.range vl).map fun i => (q i).1) ((List.range vl).map fun i => (q i).2) (j / 4) (by simpa using hi) (by simpa using hi)
    simp only [List.getElem_map, List.getElem_range] at e0 e1 e2 e3
    rcases (show j % 4 = 0 ∨ j % 4 = 1 ∨ j % 4 = 2 ∨ j % 4 = 3 by omega) with h2 | h2 | h2 | h2
    · rw [show 4 * (j / 4) = j by omega, hu] at e0
      rw [show j / 4 * 4 = j by omega] at c0
      rw [c0]; exact e0.symm
    · rw [show 4 * (j / 4) + 1 = j by omega, hu] at e1
      rw [show j / 4 * 4 + 1 = j by omega] at c1
      rw [c1]; exact e1.symm
    · rw [show 4 * (j / 4) + 2 = j by omega, hu] at e2
      rw [show j / 4 * 4 + 2 = j by omega] at c2
      rw [c2]; exact e2.symm
    · rw [show 4 * (j / 4) + 3 = j by omega, hu] at e3
      rw [show j / 4 * 4 + 3 = j by omega] at c3
      rw [c3]; exact e3.symm
end

end Go.Proofs.Yteabfjpajgakiaa
