/- What SessTrue asks of tables, without memory. -/
import Derived.Test.YteabfjpajgakiaaSesL
set_option linter.unusedSimpArgs false
set_option linter.unusedVariables false
namespace Go.Proofs.Yteabfjpajgakiaa
open Go.RowKit

theorem rising_iff : ∀ {L : List Ses}, rising L = true ↔ L.Pairwise (fun a b => a.client < b.client)
  | [] => by simp [rising]
  | [a] => by simp [rising]
  | a :: b :: r => by
    constructor
    · intro h
      exact List.pairwise_cons.2 ⟨rising_lt h, rising_iff.1 (rising_tail h)⟩
    · intro h
      obtain ⟨h1, h2⟩ := List.pairwise_cons.1 h
      simp only [rising, Bool.and_eq_true, decide_eq_true_eq]
      exact ⟨h1 b (by simp), rising_iff.2 h2⟩

theorem firstErr_of : ∀ {L : List Ses}, (∀ s ∈ L, sesErr s = 0) → firstErr L = 0
  | [], _ => rfl
  | s :: r, h => by
    unfold firstErr
    rw [h s (by simp)]
    simpa using firstErr_of fun x hx => h x (by simp [hx])

theorem tab_right_of {L : List Ses} (h3 : L.length ≤ 3) (hs : ∀ s ∈ L, sesErr s = 0) (hr : L.Pairwise (fun a b => a.client < b.client)) : tabErr L = 0 := by
  unfold tabErr
  rw [if_neg (by omega), firstErr_of hs, rising_iff.2 hr]
  rfl

/-- Some of a right table are a right table. -/
theorem tab_sub {L M : List Ses} (h : tabErr L = 0) (hM : M.Sublist L) : tabErr M = 0 := by
  obtain ⟨h3, hs, hr⟩ := tab_right h
  exact tab_right_of (by have := hM.length_le; omega) (fun s hm => hs s (hM.subset hm)) ((rising_iff.1 hr).sublist hM)

theorem put_ok {L : List Ses} {s : Ses} (h : putErr L s = 0) : tabErr L = 0 ∧ sesErr s = 0 ∧ (putList L s).length ≤ 3 := by
  unfold putErr at h
  split at h
  · rename_i h1
    split at h
    · rename_i h2
      split at h
      · cases h
      · rename_i h3
        exact ⟨by simpa using h1, by simpa using h2, by omega⟩
    · rename_i h2
      simp only [beq_iff_eq] at h2
      exact absurd h h2
  · rename_i h1
    simp only [beq_iff_eq] at h1
    exact absurd h h1

theorem putTab_ok {L : List Ses} {s : Ses} (h : putErr L s = 0) : putTab L s = putList L s := by simp [putTab, h]

theorem put_right {L : List Ses} {s : Ses} (h : putErr L s = 0) : tabErr (putList L s) = 0 := by
  obtain ⟨h1, h2, h3⟩ := put_ok h
  obtain ⟨_, hs, hr⟩ := tab_right h1
  refine tab_right_of h3 (fun x hx => ?_) ?_
  · simp only [putList, List.append_assoc, List.mem_append, List.mem_filter, List.mem_singleton] at hx
    rcases hx with ⟨hx, _⟩ | rfl | ⟨hx, _⟩
    · exact hs x hx
    · exact h2
    · exact hs x hx
  · have hr' := rising_iff.1 hr
    unfold putList
    rw [List.append_assoc, List.pairwise_append]
    refine ⟨hr'.sublist List.filter_sublist, List.pairwise_cons.2 ⟨fun b hb => ?_, hr'.sublist List.filter_sublist⟩, fun a ha b hb => ?_⟩
    · have := (List.mem_filter.1 hb).2
      simpa using this
    · have ha' := (List.mem_filter.1 ha).2
      simp only [decide_eq_true_eq] at ha'
      simp only [List.singleton_append, List.mem_cons] at hb
      rcases hb with rfl | hb
      · exact ha'
      · have hb' := (List.mem_filter.1 hb).2
        simp only [decide_eq_true_eq] at hb'
        omega

theorem find_put (L : List Ses) (s : Ses) : findSes (putList L s) s.client = some s := by
  unfold findSes putList
  have h0 : (L.filter (fun o => decide (o.client < s.client))).find? (fun o => o.client == s.client) = none := by
    rw [List.find?_eq_none]
    intro x hx
    have := (List.mem_filter.1 hx).2
    simp only [decide_eq_true_eq] at this
    simp; omega
  rw [List.append_assoc, List.find?_append, h0]
  simp

theorem find_filter {p : Ses → Bool} {c : Int} (hp : ∀ x : Ses, x.client = c → p x = true) : ∀ L : List Ses, findSes (L.filter p) c = findSes L c
  | [] => rfl
  | x :: L => by
    have ih := find_filter hp L
    unfold findSes at ih ⊢
    rw [List.filter_cons, List.find?_cons]
    cases hx : (x.client == c) with
    | true =>
      rw [if_pos (hp x (by simpa using hx)), List.find?_cons, hx]
    | false =>
      split
      · rw [List.find?_cons, hx]; exact ih
      · exact ih

theorem find_none {p : Ses → Bool} {c : Int} (hp : ∀ x : Ses, x.client = c → p x = false) (L : List Ses) : findSes (L.filter p) c = none := by
  unfold findSes
  rw [List.find?_eq_none]
  intro x hx
  have := (List.mem_filter.1 hx).2
  intro hc
  rw [hp x (by simpa using hc)] at this
  cases this

/-- Another is found as it was. -/
theorem find_other (L : List Ses) (s : Ses) {o : Int} (ho : o ≠ s.client) : findSes (putList L s) o = findSes L o := by
  have hs : (s.client == o) = false := by simp; omega
  unfold putList
  have e : ∀ A B : List Ses, findSes (A ++ [s] ++ B) o = (findSes A o).or (findSes B o) := by
    intro A B
    unfold findSes
    rw [List.append_assoc, List.find?_append]
    simp [List.find?_cons, hs]
  rw [e]
  by_cases h : o < s.client
  · rw [find_filter (fun x hx => by simp; omega), find_none (fun x hx => by simp; omega)]
    simp
  · rw [find_none (fun x hx => by simp; omega), find_filter (fun x hx => by simp; omega)]
    simp

theorem drop_put {L : List Ses} {s : Ses} (h : putErr L s = 0) : dropErr (putList L s) s.client = 0 := by
  unfold dropErr
  rw [put_right h]
  have : ((putList L s).filter (fun o => o.client != s.client)).length ≠ (putList L s).length := by
    intro hl
    have := List.length_filter_eq_length_iff.1 hl s (by simp [putList])
    simp at this
  simp [this]

theorem drop_tab {L : List Ses} {c : Int} (h : dropErr L c = 0) : dropTab L c = L.filter (fun s => s.client != c) := by simp [dropTab, h]

theorem fresh_ok {L : List Ses} {c : Int} (h : tabErr L = 0) (h0 : 0 ≤ c) (h1 : c ≤ 999) : freshErr L c = 0 := by simp [freshErr, h, inB, h0, h1]
theorem fresh_tab {L : List Ses} {c : Int} (h : tabErr L = 0) (h0 : 0 ≤ c) (h1 : c ≤ 999) : frTab L c = freshTab L c := by simp [frTab, fresh_ok h h0 h1]
theorem fresh_right {L : List Ses} {c : Int} (h : tabErr L = 0) : tabErr (freshTab L c) = 0 := tab_sub h List.filter_sublist
theorem fresh_twice {L : List Ses} {c d : Int} (h : c ≤ d) : freshTab (freshTab L c) d = freshTab L d := by
  unfold freshTab
  rw [List.filter_filter]
  congr 1
  funext s
  rw [Bool.eq_iff_iff]
  simp only [Bool.and_eq_true, decide_eq_true_eq]
  omega

end Go.Proofs.Yteabfjpajgakiaa
