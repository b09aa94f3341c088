/- ChN, FoI. -/
import Derived.Test.YteabfjpajgakiadJ00
import Derived.Test.YteabfjpajgakiadJ13
import Derived.Test.YteabfjpajgakiadJ15
/- choose: which of n things a raw number speaks of. -/
set_option linter.unusedSimpArgs false
set_option linter.unusedVariables false
set_option maxRecDepth 10000
namespace Go.Proofs.Yteabfjpajgakiad
open Go.RowKit

theorem choose_n (c n : Int) (w : World) (hc0 : -9223372036854775808 ≤ c) (hc1 : c ≤ 9223372036854775807) (hn : 1 ≤ n) (hn1 : n ≤ 9223372036854775807) :
    Calls Try.prog 19 #[.int .i64 c, .int .i64 n] w fun e w' => ∃ r : Int, 0 ≤ r ∧ r < n ∧ e = .returned (.int .i64 r) ∧ w = w' := by
  have hne : ¬ n = 0 := by omega
  by_cases h : c < 0
  · have e1 : Hid (0 ≤ (-(c + 1)).tmod n ∧ (-(c + 1)).tmod n < n) := ⟨Int.tmod_nonneg _ (by omega), Int.tmod_lt_of_pos _ (by omega)⟩
    go_enter Try.func19, Try.ntmps19
    go_wp2
    go_ret
    exact ⟨_, by have := e1.out.1; rwa [Int.neg_tmod] at this, by have := e1.out.2; rwa [Int.neg_tmod] at this, rfl, rfl⟩
  · have e1 : Hid (0 ≤ c.tmod n ∧ c.tmod n < n) := ⟨Int.tmod_nonneg _ (by omega), Int.tmod_lt_of_pos _ (by omega)⟩
    have e2 : Hid (c.tmod n = c % n) := Int.tmod_eq_emod_of_nonneg (by omega)
    go_enter Try.func19, Try.ntmps19
    go_wp2
    go_ret
    first
      | exact ⟨_, e1.out.1, e1.out.2, rfl, rfl⟩
      | exact ⟨_, by have := e1.out.1; rwa [e2.out] at this, by have := e1.out.2; rwa [e2.out] at this, rfl, rfl⟩
end Go.Proofs.Yteabfjpajgakiad

/- FoldSplit: the walk. -/
set_option linter.unusedSimpArgs false
set_option linter.unusedVariables false
set_option maxRecDepth 10000
namespace Go.Proofs.Yteabfjpajgakiad
open Go.RowKit

theorem addr_add (a : Addr) (n i : Nat) : (a.add n).add i = a.add (n + i) := by
  obtain ⟨b, o, sp⟩ := a
  rcases Nat.eq_zero_or_pos n with h0 | h0
  · subst h0
    rw [Nat.zero_add]
    rfl
  · have h2 : n ≠ 0 := by omega
    have h3 : n + i ≠ 0 := by omega
    rcases Nat.eq_zero_or_pos i with h4 | h4
    · subst h4
      rfl
    · have h5 : i ≠ 0 := by omega
      simp only [Addr.add, h2, h3, h5, if_false, Nat.add_assoc]

theorem ents_prefix {w : World} {oa : Option Addr} {oc j : Nat} {l : List Ent} (h : EntsAt w (.slice oa l.length oc) l) (hj : j ≤ l.length) : EntsAt w (.slice oa j oc) (l.take j) := by
  obtain ⟨h1, h2, h3⟩ := h
  have hl : (l.take j).length = j := by simp; omega
  refine ⟨by rw [entCells_len], by rw [hl]; omega, ?_⟩
  rcases h3 with ⟨e, hn⟩ | ⟨a, cap, e, h3⟩
  · injection e with e1 e2 e3
    subst e1 e3
    left
    have : j = 0 := by omega
    subst this
    exact ⟨rfl, by simp⟩
  · injection e with e1 e2 e3
    subst e1
    right
    refine ⟨a, oc, by rw [hl], fun i u hu => ?_⟩
    rw [← entCells_take, List.getElem?_take] at hu
    split at hu
    · exact h3 i u hu
    · cases hu
theorem ents_suffix {w : World} {oa : Option Addr} {oc j : Nat} {l : List Ent} (h : EntsAt w (.slice oa l.length oc) l) (hj : j ≤ l.length) (hc : l.length ≤ oc) : EntsAt w (.slice (if oc = j then oa else oa.map (·.add (j * 9))) (l.length - j) (oc - j)) (l.drop j) := by
  obtain ⟨h1, h2, h3⟩ := h
  have hl : (l.drop j).length = l.length - j := by simp
  refine ⟨by rw [entCells_len], by rw [hl]; omega, ?_⟩
  rcases h3 with ⟨e, hn⟩ | ⟨a, cap, e, h3⟩
  · injection e with e1 e2 e3
    subst e1 e3
    left
    have : j = 0 := by omega
    subst this
    rw [hl, hn]
    exact ⟨rfl, rfl⟩
  · injection e with e1 e2 e3
    subst e1
    right
    by_cases hcj : oc = j
    · refine ⟨a, oc - j, by rw [if_pos hcj, hl], fun i u hu => ?_⟩
      rw [List.drop_of_length_le (by omega)] at hu
      simp [entCells] at hu
    · refine ⟨a.add (j * 9), oc - j, by rw [if_neg hcj, hl]; rfl, fun i u hu => ?_⟩
      rw [← entCells_drop, List.getElem?_drop] at hu
      rw [addr_add]
      exact h3 _ u hu

/-- In how many goes entries are applied. -/
theorem split_right {s : St} {L : List Ent} (h : foldErr s L = 0) (k : Nat) : foldErr s (L.take k) = 0 ∧ foldErr (runSt s (L.take k)) (L.drop k) = 0 ∧ stErr (runSt s L) = 0 := by
  obtain ⟨h1, h2, h3⟩ := fold_right h
  have hb := (stErr_bounds h1).1
  have ht : ∀ e ∈ L.take k, entErr e = 0 := fun e he => h2 e (List.mem_of_mem_take he)
  have hd : ∀ e ∈ L.drop k, entErr e = 0 := fun e he => h2 e (List.mem_of_mem_drop he)
  have lt : (L.take k).length ≤ L.length := by simp; omega
  have ld : (L.take k).length + (L.drop k).length = L.length := by simp; omega
  have r1 := run_right h1 ht (by omega)
  have mk : ∀ {t : St} {M : List Ent}, stErr t = 0 → (∀ e ∈ M, entErr e = 0) → t.at_ + M.length ≤ 50 → foldErr t M = 0 := by
    intro t M a b c
    have hb := (stErr_bounds a).1
    have hl : listErr M = 0 := by unfold listErr; rw [if_neg (by omega)]; exact fent_zero.2 b
    simp only [foldErr, a, hl, beq_self_eq_true, if_true]
    rw [if_neg (by omega)]
  exact ⟨mk h1 ht (by omega), mk r1.1 hd (by rw [r1.2]; omega), (run_right h1 h2 h3).1⟩
end Go.Proofs.Yteabfjpajgakiad
