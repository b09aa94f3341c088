/- A region that draws its order: stretches of it whose order is forced are walked as the text has them. -/
import Derived.Test.YthjcnbimapgdnabSwap
set_option linter.unusedSimpArgs false
set_option linter.unusedVariables false
namespace Go.Proofs.Ythjcnbimapgdnab
open Go.RowKit

/-- Where the first k are done, k alone may come up. -/
def soleB (ops : Array Oper) (k : Nat) : Bool :=
  ((List.range ops.size).all fun t => decide (t ≤ k) || ((ops[t]?).map fun o => o.after.any fun e => Region.binds .any e && decide (k ≤ e.on ∧ e.on < ops.size)).getD false) &&
    ((ops[k]?).map fun o => o.after.all fun e => !Region.binds .any e || decide (e.on < k)).getD false

theorem sole_only {ops : Array Oper} {k : Nat} (h : soleB ops k = true) {i : Nat} (hi : i ∈ Region.ready .any ops (upTo ops.size k)) : i = k := by
  simp only [soleB, Bool.and_eq_true, List.all_eq_true, List.mem_range, Bool.or_eq_true, decide_eq_true_eq] at h
  obtain ⟨h1, o, ho, ha⟩ := mem_ready.1 hi
  obtain ⟨hN, hki⟩ := upTo_true.1 h1
  rcases h.1 i hN with h' | h'
  · omega
  · rw [ho] at h'
    simp only [Option.map_some, Option.getD_some, Array.any_eq_true', Bool.and_eq_true, decide_eq_true_eq] at h'
    obtain ⟨e, he, hb, hk, _⟩ := h'
    have := (upTo_false.1 (ha e he hb)).2
    omega

theorem sole_first {ops : Array Oper} {k : Nat} (h : soleB ops k = true) : k ∈ Region.ready .any ops (upTo ops.size k) := by
  simp only [soleB, Bool.and_eq_true] at h
  have h2 := h.2
  cases ho : ops[k]? with
  | none => rw [ho] at h2; cases h2
  | some o =>
    rw [ho] at h2
    simp only [Option.map_some, Option.getD_some, Array.all_eq_true', Bool.or_eq_true, Bool.not_eq_true', decide_eq_true_eq] at h2
    have hk := size_of ho
    refine mem_ready.2 ⟨upTo_true.2 ⟨hk, Nat.le_refl _⟩, o, ho, fun e he hb => upTo_false.2 ?_⟩
    rcases h2 e he with h' | h'
    · rw [hb] at h'; cases h'
    · omega

theorem wpAny_seg {P : Program} {ops : Array Oper} {Q : Exit → Act → World → Prop} {m : Nat} : ∀ (l : List Oper) (k : Nat) (a : Act) (w : World), (∀ j, j < l.length → l[j]? = ops[k + j]?) →
    (∀ j, j < l.length → soleB ops (k + j) = true) → wpList P ops (Exit.then (wpAny P .any ops Q m (upTo ops.size (k + l.length))) Q) l a w → wpAny P .any ops Q (m + l.length) (upTo ops.size k) a w
  | [], k, a, w, _, _, h => h
  | o :: l, k, a, w, hl, hB, h => by
    have h0 : ops[k]? = some o := by simpa using (hl 0 (by simp)).symm
    have hk : soleB ops k = true := by simpa using hB 0 (by simp)
    refine ⟨fun h1 => ?_, fun i hi => ?_⟩
    · have := sole_first hk
      rw [h1] at this
      cases this
    · obtain rfl := sole_only hk hi
      rw [upTo_set]
      have hw := wpOp_thenQ h0 h
      refine wpOp_mono (fun a' w' h' => wpAny_seg l (i + 1) a' w' (fun j hj => by have := hl (j + 1) (by simp; omega); simpa [Nat.add_assoc, Nat.add_comm 1 j] using this)
        (fun j hj => by have := hB (j + 1) (by simp; omega); simpa [Nat.add_assoc, Nat.add_comm 1 j] using this) ?_) hw
      rw [show i + 1 + l.length = i + (o :: l).length by simp; omega]
      exact h'

def segB (ops : Array Oper) (k n : Nat) : Bool := (List.range n).all fun j => soleB ops (k + j)

/-- From k on, n of them as the text has them. -/
theorem wpAny_on {P : Program} {l : List Oper} {Q : Exit → Act → World → Prop} {a : Act} {w : World} (k n m : Nat) (hn : k + n + m = l.length) (hB : segB l.toArray k n = true)
    (h : wpList P l.toArray (Exit.then (wpAny P .any l.toArray Q m (upTo l.toArray.size (k + n))) Q) ((l.drop k).take n) a w) : wpAny P .any l.toArray Q (m + n) (upTo l.toArray.size k) a w := by
  have hl : ((l.drop k).take n).length = n := by simp; omega
  simp only [segB, List.all_eq_true, List.mem_range] at hB
  have := wpAny_seg (P := P) (Q := Q) (ops := l.toArray) (m := m) ((l.drop k).take n) k a w (fun j hj => by rw [hl] at hj; simp [List.getElem?_take, hj]) (fun j hj => hB j (by rw [hl] at hj; exact hj)) (by rw [hl]; exact h)
  rwa [hl] at this

/-- A region: its first n as the text has them. -/
theorem wp_region_pre {P : Program} {id : Nat} {Q : Exit → Act → World → Prop} {a : Act} {w : World} {l : List Oper} (n m : Nat) (hm : P.follows .mixedOrders = true) (hn : n + m = l.length) (hB : segB l.toArray 0 n = true)
    (h : wpList P l.toArray (Exit.then (wpAny P .any l.toArray Q m (upTo l.toArray.size n)) Q) (l.take n) a w.drew) : (Code.region id l.toArray true).wp P Q a w := by
  refine wp_region_any hm ?_
  have := wpAny_on (P := P) (Q := Q) (l := l) (a := a) (w := w.drew) 0 n m (by omega) hB (by simpa using h)
  rw [← upTo_zero] at this
  have e : m + n = l.toArray.size := by simp; omega
  rw [e] at this
  exact this

/-- Where the first k are done, k and k + 1 alone may come up, in either order. -/
def pairB (ops : Array Oper) (k : Nat) : Bool :=
  ((List.range ops.size).all fun t => decide (t ≤ k + 1) || ((ops[t]?).map fun o => (o.after.any fun e => Region.binds .any e && decide (k ≤ e.on ∧ e.on ≠ k + 1 ∧ e.on < ops.size)) && (o.after.any fun e => Region.binds .any e && decide (k + 1 ≤ e.on ∧ e.on < ops.size))).getD false) &&
    (((ops[k]?).map fun o => o.after.all fun e => !Region.binds .any e || decide (e.on < k)).getD false && ((ops[k + 1]?).map fun o => o.after.all fun e => !Region.binds .any e || decide (e.on < k)).getD false)

theorem pair_edges {ops : Array Oper} {k j : Nat} (h : ((ops[j]?).map fun o => o.after.all fun e => !Region.binds .any e || decide (e.on < k)).getD false = true) : ∃ o, ops[j]? = some o ∧ ∀ e ∈ o.after, Region.binds .any e = true → e.on < k := by
  cases ho : ops[j]? with
  | none => rw [ho] at h; cases h
  | some o =>
    rw [ho] at h
    simp only [Option.map_some, Option.getD_some, Array.all_eq_true', Bool.or_eq_true, Bool.not_eq_true', decide_eq_true_eq] at h
    refine ⟨o, rfl, fun e he hb => ?_⟩
    rcases h e he with h' | h'
    · rw [hb] at h'; cases h'
    · exact h'

theorem pair_far {ops : Array Oper} {k : Nat} (h : pairB ops k = true) {t : Nat} {o : Oper} (ho : ops[t]? = some o) (ht : k + 1 < t) :
    (∃ e ∈ o.after, Region.binds .any e = true ∧ k ≤ e.on ∧ e.on ≠ k + 1) ∧ ∃ e ∈ o.after, Region.binds .any e = true ∧ k + 1 ≤ e.on := by
  simp only [pairB, Bool.and_eq_true, List.all_eq_true, List.mem_range, Bool.or_eq_true, decide_eq_true_eq] at h
  rcases h.1 t (size_of ho) with h' | h'
  · omega
  · rw [ho] at h'
    simp only [Option.map_some, Option.getD_some, Array.any_eq_true', Bool.and_eq_true, decide_eq_true_eq] at h'
    obtain ⟨⟨e, he, hb, h1, h2, _⟩, e', he', hb', h1', _⟩ := h'
    exact ⟨⟨e, he, hb, h1, h2⟩, e', he', hb', h1'⟩

theorem wpAny_pair {P : Program} {l : List Oper} {Q : Exit → Act → World → Prop} {a : Act} {w : World} (k m : Nat) (x y : Oper) (hx : l[k]? = some x) (hy : l[k + 1]? = some y) (hp : pairB l.toArray k = true)
    (h1 : wpList P l.toArray (Exit.then (wpAny P .any l.toArray Q m (upTo l.toArray.size (k + 2))) Q) [x, y] a w)
    (h2 : wpList P l.toArray (Exit.then (wpAny P .any l.toArray Q m (upTo l.toArray.size (k + 2))) Q) [y, x] a w) : wpAny P .any l.toArray Q (m + 1 + 1) (upTo l.toArray.size k) a w := by
  have hx' : l.toArray[k]? = some x := by simpa using hx
  have hy' : l.toArray[k + 1]? = some y := by simpa using hy
  have hp2 := hp
  simp only [pairB, Bool.and_eq_true] at hp2
  obtain ⟨ox, hox, ex⟩ := pair_edges hp2.2.1
  obtain ⟨oy, hoy, ey⟩ := pair_edges hp2.2.2
  rw [hx'] at hox
  rw [hy'] at hoy
  cases hox
  cases hoy
  have hN := size_of hy'
  have rx : k ∈ Region.ready .any l.toArray (upTo l.toArray.size k) := mem_ready.2 ⟨upTo_true.2 ⟨by omega, Nat.le_refl _⟩, x, hx', fun e he hb => upTo_false.2 (by have := ex e he hb; omega)⟩
  have ry : k + 1 ∈ Region.ready .any l.toArray (upTo l.toArray.size (k + 1)) := mem_ready.2 ⟨upTo_true.2 ⟨by omega, Nat.le_refl _⟩, y, hy', fun e he hb => upTo_false.2 (by have := ey e he hb; omega)⟩
  have rx' : k ∈ Region.ready .any l.toArray ((upTo l.toArray.size k).setIfInBounds (k + 1) true) := mem_ready.2 ⟨upTo_true'.2 ⟨by omega, Nat.le_refl _, by omega⟩, x, hx', fun e he hb => upTo_false'.2 (by have := ex e he hb; omega)⟩
  refine ⟨fun h => absurd rx (by rw [h]; simp), fun i hi => ?_⟩
  have hi2 : i = k ∨ i = k + 1 := by
    obtain ⟨h1, o, ho, ha⟩ := mem_ready.1 hi
    obtain ⟨hN', hki⟩ := upTo_true.1 h1
    by_cases hlt : k + 1 < i
    · obtain ⟨⟨e, he, hb, h1, h2⟩, _⟩ := pair_far hp ho hlt
      have := (upTo_false.1 (ha e he hb)).2
      omega
    · omega
  rcases hi2 with rfl | rfl
  · refine wpOp_mono (fun a' w' h' => ?_) (wpOp_thenQ hx' h1)
    rw [upTo_set]
    refine ⟨fun h => absurd ry (by rw [h]; simp), fun j hj => ?_⟩
    obtain rfl : j = i + 1 := by
      obtain ⟨h1, o, ho, ha⟩ := mem_ready.1 hj
      obtain ⟨hN', hki⟩ := upTo_true.1 h1
      by_cases hlt : i + 1 < j
      · obtain ⟨_, e, he, hb, h1⟩ := pair_far hp ho hlt
        have := (upTo_false.1 (ha e he hb)).2
        omega
      · omega
    rw [upTo_set]
    exact wpOp_mono (fun a'' w'' h'' => h'') (wpOp_thenQ hy' h')
  · refine wpOp_mono (fun a' w' h' => ?_) (wpOp_thenQ hy' h2)
    refine ⟨fun h => absurd rx' (by rw [h]; simp), fun j hj => ?_⟩
    obtain rfl : j = k := by
      obtain ⟨h1, o, ho, ha⟩ := mem_ready.1 hj
      obtain ⟨hN', hki, hne⟩ := upTo_true'.1 h1
      by_cases hlt : k + 1 < j
      · obtain ⟨⟨e, he, hb, h1, h2⟩, _⟩ := pair_far hp ho hlt
        have := (upTo_false'.1 (ha e he hb)).2
        omega
      · omega
    rw [upTo_swap]
    exact wpOp_mono (fun a'' w'' h'' => h'') (wpOp_thenQ hx' h')
end Go.Proofs.Ythjcnbimapgdnab
