/- What op.Do's answer is good for: plain mathematics. -/
import Derived.Test.YteabfjpajgakiaaOpE
set_option linter.unusedSimpArgs false
set_option linter.unusedVariables false
namespace Go.Proofs.Yteabfjpajgakiaa

structure DoGood (g r : Nat → Int) (k key tk m : Int) : Prop where
  k0 : 0 ≤ key
  k3 : key ≤ 3
  kind : (k = 1 ∧ tk = 0) ∨ (k = 2 ∧ tk = 0) ∨ (k = 3 ∧ 0 ≤ tk ∧ tk ≤ 3) ∨ (k = 4 ∧ tk = 0)
  vals : ∀ i, i < 4 → 0 ≤ g i ∧ g i ≤ 999
  outs : ∀ i, i < 4 → 0 ≤ r i ∧ r i ≤ 999
  diff : ∀ i, i < 4 → r i = g i ∨ (i : Int) = key ∨ (k = 3 ∧ (i : Int) = tk)
  fail : m = -1 → ∀ i, i < 4 → r i = g i
  ans : m ≠ -1 → m = r key.toNat
  sum : k = 3 ∨ k = 4 → r 0 + r 1 + r 2 + r 3 = g 0 + g 1 + g 2 + g 3
  get : k = 4 → ∀ i, i < 4 → r i = g i

theorem upd_in {g : Nat → Int} {j : Nat} {x : Int} (hg : ∀ i, i < 4 → 0 ≤ g i ∧ g i ≤ 999) (hx : 0 ≤ x ∧ x ≤ 999) : ∀ i, i < 4 → 0 ≤ upd g j x i ∧ upd g j x i ≤ 999 := by
  intro i hi; unfold upd; split
  · exact hx
  · exact hg i hi

theorem do_good (g : Nat → Int) (k key tk n : Int) (h : doErr g k key tk n = 0) : DoGood g (doVals g k key tk n) k key tk (doAns g k key tk n) := by
  have he : (opErr k key tk n == 0) = true := by
    cases e : (opErr k key tk n == 0) with
    | true => rfl
    | false => simp [doErr, e] at h; simp [h] at e
  have hv : valsOk g = true := by
    cases e : valsOk g with
    | true => rfl
    | false => simp [doErr, he, e] at h
  have h0 : opErr k key tk n = 0 := by simpa using he
  have hg := vals_at hv
  obtain ⟨⟨hk0, hk3⟩, hk⟩ := op_right h0
  have hkey : (key.toNat : Int) = key := by omega
  have hgk := hg key.toNat (by omega)
  have e1 : doVals g k key tk n = if stepOk k g key tk n then stepTo k g key tk n else g := by simp [doVals, he, hv]
  have e2 : doAns g k key tk n = if stepOk k g key tk n then stepTo k g key tk n key.toNat else -1 := by simp [doAns, he, hv]
  rw [e1, e2]
  have same : DoGood g g k key tk (-1) := by
    refine ⟨hk0, hk3, by omega, hg, hg, fun i _ => .inl rfl, fun _ i _ => rfl, fun h => absurd rfl h, fun _ => rfl, fun _ i _ => rfl⟩
  cases hs : stepOk k g key tk n with
  | false => simpa using same
  | true =>
    simp only [if_true]
    rcases hk with ⟨rfl, ht, hn0, hn1⟩ | ⟨rfl, ht, hn0, hn1⟩ | ⟨rfl, ⟨ht0, ht3⟩, hn0, hn1⟩ | ⟨rfl, ht, hn⟩
    · have e : stepTo 1 g key tk n = upd g key.toNat n := rfl
      rw [e]
      refine ⟨hk0, hk3, by omega, hg, upd_in hg ⟨hn0, hn1⟩, fun i _ => ?_, fun h => ?_, fun _ => rfl, fun h => by omega, fun h => by omega⟩
      · unfold upd; split
        · right; left; omega
        · left; rfl
      · exfalso; simp [upd] at h; omega
    · have e : stepTo 2 g key tk n = upd g key.toNat (g key.toNat + n) := rfl
      have hb : 0 ≤ g key.toNat + n ∧ g key.toNat + n ≤ 999 := by simpa [stepOk, inB] using hs
      rw [e]
      refine ⟨hk0, hk3, by omega, hg, upd_in hg hb, fun i _ => ?_, fun h => ?_, fun _ => rfl, fun h => by omega, fun h => by omega⟩
      · unfold upd; split
        · right; left; omega
        · left; rfl
      · exfalso; simp [upd] at h; omega
    · have e : stepTo 3 g key tk n = upd (upd g key.toNat (g key.toNat + -n)) tk.toNat (upd g key.toNat (g key.toNat + -n) tk.toNat + n) := rfl
      have hb : (0 ≤ g key.toNat + -n ∧ g key.toNat + -n ≤ 999) ∧ 0 ≤ upd g key.toNat (g key.toNat + -n) tk.toNat + n ∧ upd g key.toNat (g key.toNat + -n) tk.toNat + n ≤ 999 := by
        simpa [stepOk, inB] using hs
      rw [e]
      have hin := upd_in (upd_in hg hb.1 (j := key.toNat)) hb.2 (j := tk.toNat)
      refine ⟨hk0, hk3, by omega, hg, hin, fun i _ => ?_, fun h => ?_, fun _ => rfl, fun _ => ?_, fun h => by omega⟩
      · by_cases h1 : i = tk.toNat
        · right; right; exact ⟨rfl, by omega⟩
        · by_cases h2 : i = key.toNat
          · right; left; omega
          · left; simp [upd, h1, h2]
      · exfalso; have := hin key.toNat (by omega); omega
      · rcases four hk0 hk3 with rfl | rfl | rfl | rfl <;> rcases four ht0 ht3 with rfl | rfl | rfl | rfl <;> simp [upd] <;> omega
    · have e : stepTo 4 g key tk n = g := rfl
      rw [e]
      exact ⟨hk0, hk3, by omega, hg, hg, fun i _ => .inl rfl, fun _ i _ => rfl, fun _ => rfl, fun _ => rfl, fun _ i _ => rfl⟩
end Go.Proofs.Yteabfjpajgakiaa
