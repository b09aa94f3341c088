/- StB, StC, StD, Swap, Pre, SesD, SesE, SesF0, SesH, But, StG, StE. -/
import Derived.StillTail
import Derived.Laws.AppendOwnNone
import Derived.Test.YteabfjpajgakiabJ00
import Derived.Test.YteabfjpajgakiabJ01
/- States: valsFine. -/
set_option linter.unusedSimpArgs false
set_option linter.unusedVariables false
namespace Go.Proofs.Yteabfjpajgakiab
open Go.RowKit

def valsIn (v0 v1 v2 v3 : Int) : Bool := inB v0 0 999 && (inB v1 0 999 && (inB v2 0 999 && inB v3 0 999))

set_option maxHeartbeats 2000000 in
theorem st_vals_fine (v0 v1 v2 v3 : Int) (w : World) :
    Calls Try.prog 28 #[.agg #[.int .i64 v0, .int .i64 v1, .int .i64 v2, .int .i64 v3]] w fun e w' => e = .returned (.bool (valsIn v0 v1 v2 v3)) ∧ Keeps w w' := by
  unfold valsIn
  cases q0 : inB v0 0 999 <;> cases q1 : inB v1 0 999 <;> cases q2 : inB v2 0 999 <;> cases q3 : inB v3 0 999 <;>
  · go_enter Try.func28, Try.ntmps28
    go_wp2_with fail
    refine wp_loop_rounds 5 ?_
    rw [rounds_succ]
    go_wp2_with (first | (go_at_call 27; refine (within_c _ _ _ _).mono ?_; rintro e w' ⟨rfl, rfl⟩) | rw [rounds_succ])
    go_ret
    exact ⟨rfl, (Keeps.refl _).alloc _⟩
end Go.Proofs.Yteabfjpajgakiab

/- States: inBounds. -/
set_option linter.unusedSimpArgs false
set_option linter.unusedVariables false
namespace Go.Proofs.Yteabfjpajgakiab
open Go.RowKit

theorem idx4 (v0 v1 v2 v3 : Int) (w : World) : (Instr.index 22 (.agg #[.int .i64 v0, .int .i64 v1, .int .i64 v2, .int .i64 v3]) (.int .i64 0)).run Try.prog w = .ok (.int .i64 v0) w ∧ (Instr.index 22 (.agg #[.int .i64 v0, .int .i64 v1, .int .i64 v2, .int .i64 v3]) (.int .i64 1)).run Try.prog w = .ok (.int .i64 v1) w ∧ (Instr.index 22 (.agg #[.int .i64 v0, .int .i64 v1, .int .i64 v2, .int .i64 v3]) (.int .i64 2)).run Try.prog w = .ok (.int .i64 v2) w ∧ (Instr.index 22 (.agg #[.int .i64 v0, .int .i64 v1, .int .i64 v2, .int .i64 v3]) (.int .i64 3)).run Try.prog w = .ok (.int .i64 v3) w :=
  ⟨by kernel_rfl, by kernel_rfl, by kernel_rfl, by kernel_rfl⟩

def stIn (s : St) : Bool := valsIn s.v0 s.v1 s.v2 s.v3 && (inB s.at_ 0 50 && inB s.clock 0 999)

set_option maxHeartbeats 4000000 in
theorem st_in_bounds (s : St) (x : Value) (w : World) (h : TabAt w x s.tab) :
    Calls Try.prog 24 #[stV s x] w fun e w' => e = .returned (.bool (stIn s)) ∧ Keeps w w' := by
  obtain ⟨a, c, rfl, _⟩ := h.len
  clear h
  obtain ⟨at_, clock, v0, v1, v2, v3, tab⟩ := s
  simp only [stIn, valsIn]
  generalize tab.length = m
  have i0 := fun w => (idx4 v0 v1 v2 v3 w).1
  have i1 := fun w => (idx4 v0 v1 v2 v3 w).2.1
  have i2 := fun w => (idx4 v0 v1 v2 v3 w).2.2.1
  have i3 := fun w => (idx4 v0 v1 v2 v3 w).2.2.2
  cases q0 : inB v0 0 999 <;> cases q1 : inB v1 0 999 <;> cases q2 : inB v2 0 999 <;> cases q3 : inB v3 0 999
  case true.true.true.true =>
    cases q4 : inB at_ 0 50 <;>
    · go_enter Try.func24, Try.ntmps24
      go_wp2_with fail
      refine wp_loop_rounds 5 ?_
      rw [rounds_succ]
      go_wp2_with (first | (go_at_call 26; refine (bound_in _ _ _ _).mono ?_; rintro e w' ⟨rfl, rfl⟩) | rw [rounds_succ])
      go_ret
      exact ⟨rfl, (Keeps.refl _).alloc _⟩
  all_goals
    go_enter Try.func24, Try.ntmps24
    go_wp2_with fail
    refine wp_loop_rounds 5 ?_
    rw [rounds_succ]
    go_wp2_with (first | (go_at_call 26; refine (bound_in _ _ _ _).mono ?_; rintro e w' ⟨rfl, rfl⟩) | rw [rounds_succ])
    go_ret
    exact ⟨rfl, (Keeps.refl _).alloc _⟩
end Go.Proofs.Yteabfjpajgakiab

/- States: Check and StateError. -/
set_option linter.unusedSimpArgs false
set_option linter.unusedVariables false
set_option maxRecDepth 10000
namespace Go.Proofs.Yteabfjpajgakiab
open Go.RowKit

def seenAll (c : Int) : List Ses → Bool
  | [] => true
  | s :: r => inB s.seen (c - 20) c && seenAll c r
theorem seenAll_at {c : Int} {L : List Ses} {k : Nat} (h : k < L.length) : seenAll c (L.drop k) = (inB (L[k]).seen (c - 20) c && seenAll c (L.drop (k + 1))) := by
  rw [List.drop_eq_getElem_cons h]; rfl
def stErr (s : St) : Int := if stIn s then (if tabErr s.tab == 0 then (if seenAll s.clock s.tab then 0 else 1) else tabErr s.tab) else 3

theorem stIn_clock {s : St} (h : stIn s = true) : 0 ≤ s.clock ∧ s.clock ≤ 999 := by
  simp only [stIn, Bool.and_eq_true] at h
  exact inB_iff.1 h.2.2

set_option maxHeartbeats 2000000 in
theorem state_check (s : St) (x : Value) (w : World) (hT : TabAt w x s.tab) :
    Calls Try.prog 10 #[stV s x] w fun e w' => e = .returned (.int .i64 (stErr s)) ∧ Keeps w w' := by
  obtain ⟨a, c, rfl, hlen⟩ := hT.len
  unfold maxLen at hlen
  have HT : Hid (TabAt w (.slice a s.tab.length c) s.tab) := hT
  clear hT
  go_enter Try.func10, Try.ntmps10
  go_wp2_with fail
  refine (st_in_bounds s _ _ (HT.out.keep ((Keeps.refl _).alloc _))).mono ?_
  rintro e w1 ⟨rfl, hb⟩
  have hk1 : Keeps w w1 := ((Keeps.refl _).alloc _).trans hb
  cases hi : stIn s with
  | false =>
    have HE : Hid (stErr s = 3) := by simp [Hid, stErr, hi]
    go_wp2_with fail
    go_ret
    exact ⟨ret_int HE.out.symm, hk1⟩
  | true =>
    obtain ⟨hc0, hc1⟩ := stIn_clock hi
    have x1 : w1.cell? ⟨w.heap.size, 1, none⟩ = some (.int .i64 s.clock) := (Below.cell hb (p := ⟨w.heap.size, 1, none⟩) (by simp)).trans (by simp [go_sem])
    have x6 : w1.cell? ⟨w.heap.size, 6, none⟩ = some (.slice a s.tab.length c) := (Below.cell hb (p := ⟨w.heap.size, 6, none⟩) (by simp)).trans (by simp [go_sem])
    clear hb
    have hlt := World.block_lt_of_cell? _ _ x6
    simp only [] at hlt
    go_wp2_with fail
    refine (sess_check s.tab _ _ (HT.out.keep hk1)).mono ?_
    rintro e w2 ⟨rfl, hb⟩
    have hk2 : Keeps w w2 := hk1.trans hb
    have x1 := cell_kept x1 hb
    have x6 := cell_kept x6 hb
    have hlt := Nat.lt_of_lt_of_le hlt hb.size
    clear hb hk1
    cases he : (tabErr s.tab == 0) with
    | false =>
      have he' : (tabErr s.tab != 0) = true := by simp [bne, he]
      have HE : Hid (stErr s = tabErr s.tab) := by simp [Hid, stErr, hi, he]
      go_wp2_with fail
      go_ret
      exact ⟨ret_int HE.out.symm, hk2⟩
    | true =>
      have he' : (tabErr s.tab != 0) = false := by simp [bne, he]
      have HS : Hid (stErr s = if seenAll s.clock s.tab then 0 else 1) := by simp [Hid, stErr, hi, he]
      clear he hi
      go_wp2_with fail
      go_loopw [18] (fun i wr => ∃ (k : Nat), k ≤ s.tab.length ∧ i = .int .i64 k ∧ Keeps w2 wr ∧ Hid (seenAll s.clock s.tab = seenAll s.clock (s.tab.drop k))) (fun i _ => s.tab.length - (intOf i).toNat)
      case atStart => exact ⟨0, Nat.zero_le _, rfl, Keeps.refl _, rfl⟩
      case round =>
        obtain ⟨k, hk, rfl, hkw, HQ⟩ := hrel
        have x1 := cell_kept x1 hkw
        have hlt := Nat.lt_of_lt_of_le hlt hkw.size
        by_cases hlt2 : k < s.tab.length
        · obtain ⟨b, off, cap', hv, hcell⟩ := (HT.out.keep (hk2.trans hkw)).at hlt2
          injection hv with hv1 hv2 hv3
          subst hv1
          clear hv2 hv3
          obtain ⟨c0, c1, c2, ka, kc, c3, hkv⟩ := hcell k hlt2
          clear hcell hkv
          have HR : Hid (seenAll s.clock s.tab = (inB (s.tab[k]).seen (s.clock - 20) s.clock && seenAll s.clock (s.tab.drop (k + 1)))) := HQ.out.trans (seenAll_at hlt2)
          clear HQ
          generalize s.tab[k] = t at *
          cases hs : inB t.seen (s.clock - 20) s.clock with
          | false =>
            have HE : Hid (stErr s = 1) := by show _ = _; rw [HS.out, HR.out, hs]; rfl
            go_wp2_with (first | (go_at_call 26; refine (bound_in _ _ _ _).mono ?_; rintro e w' ⟨rfl, rfl⟩))
            go_ret
            exact ⟨ret_int HE.out.symm, (hk2.trans hkw).alloc _⟩
          | true =>
            have HN : Hid (seenAll s.clock s.tab = seenAll s.clock (s.tab.drop (k + 1))) := by show _ = _; rw [HR.out, hs]; rfl
            clear HR
            go_wp2_with (first | (go_at_call 26; refine (bound_in _ _ _ _).mono ?_; rintro e w' ⟨rfl, rfl⟩))
            go_roundw
            case rel => exact ⟨k + 1, by omega, by go_num, hkw.alloc _, HN⟩
            case measure => simp [intOf]; omega
        · have HE : Hid (stErr s = 0) := by show _ = _; rw [HS.out, HQ.out, List.drop_of_length_le (by omega)]; rfl
          go_wp2_with fail
          go_ret
          exact ⟨ret_int HE.out.symm, hk2.trans hkw⟩
end Go.Proofs.Yteabfjpajgakiab

/- A region that draws its order, whose order is forced but for two neighbours. -/
set_option linter.unusedSimpArgs false
set_option linter.unusedVariables false
namespace Go.Proofs.Yteabfjpajgakiab
open Go.RowKit

theorem oper_thenQ {P : Program} {o : Oper} {a : Act} {w : World} {K K' : Act → World → Prop} {Q : Exit → Act → World → Prop} (h : o.wp P a w K (Exit.then K' Q)) : o.wp P a w K Q := by
  unfold Oper.wp at *
  generalize (execOp a.eval o).run P w = r at *
  cases r with
  | ok n w' => cases n <;> exact h
  | halt x w' => cases x <;> exact h

theorem wpOp_thenQ {P : Program} {ops : Array Oper} {i : Nat} {o : Oper} {a : Act} {w : World} {K K' : Act → World → Prop} {Q : Exit → Act → World → Prop} (h0 : ops[i]? = some o)
    (h : if Region.wanted o (yielded ops a.tmps) then o.wp P a w K (Exit.then K' Q) ∨ (o.asks P a w ∧ LetsOut (Exit.then K' Q)) else K (a.put o.dst undef) w) : wpOp P ops Q i K a w := by
  unfold wpOp
  simp only [h0]
  split
  · rename_i hw
    rw [if_pos hw] at h
    exact h.imp oper_thenQ (fun h => h)
  · rename_i hw
    rw [if_neg hw] at h
    exact h

/-- The first k are done. -/
def upTo (N k : Nat) : Array Bool := Array.ofFn (n := N) fun i => decide (i.1 < k)

theorem upTo_zero (N : Nat) : Array.replicate N false = upTo N 0 := by
  apply Array.ext
  · simp [upTo]
  · intro i h1 h2; simp [upTo]

theorem upTo_set (N k : Nat) : (upTo N k).setIfInBounds k true = upTo N (k + 1) := by
  apply Array.ext_getElem?
  intro i
  rw [Array.getElem?_setIfInBounds]
  unfold upTo
  by_cases h : k = i
  · subst h
    by_cases h' : k < N <;> simp [h']
  · rw [if_neg h]
    by_cases h' : i < N
    · simp [h']; omega
    · simp [h']

theorem upTo_swap (N k : Nat) : ((upTo N k).setIfInBounds (k + 1) true).setIfInBounds k true = upTo N (k + 2) := by
  rw [Array.setIfInBounds_comm _ _ (by omega), upTo_set, upTo_set]

theorem upTo_true {N k i : Nat} : (upTo N k).getD i true = false ↔ i < N ∧ k ≤ i := by
  unfold upTo
  by_cases h : i < N
  · simp [h]
  · simp [h]

theorem upTo_false {N k i : Nat} : (upTo N k).getD i false = true ↔ i < N ∧ i < k := by
  unfold upTo
  by_cases h : i < N
  · simp [h]
  · simp [h]

theorem upTo_true' {N k i : Nat} : ((upTo N k).setIfInBounds (k + 1) true).getD i true = false ↔ i < N ∧ k ≤ i ∧ i ≠ k + 1 := by
  unfold upTo
  by_cases h : i < N
  · simp only [Array.getD_eq_getD_getElem?, Array.getElem?_setIfInBounds]
    by_cases h' : k + 1 = i
    · subst h'; simp [h]
    · rw [if_neg h']; simp [h]; omega
  · have h2 : ¬ (i < ((Array.ofFn (n := N) fun i => decide (i.1 < k)).setIfInBounds (k + 1) true).size) := by simpa using h
    simp [Array.getD, h]

theorem upTo_false' {N k i : Nat} : ((upTo N k).setIfInBounds (k + 1) true).getD i false = true ↔ i < N ∧ (i < k ∨ i = k + 1) := by
  unfold upTo
  by_cases h : i < N
  · simp only [Array.getD_eq_getD_getElem?, Array.getElem?_setIfInBounds]
    by_cases h' : k + 1 = i
    · subst h'; simp [h]
    · rw [if_neg h']; simp [h]; omega
  · simp [Array.getD, h]

def waits (ops : Array Oper) (j i : Nat) : Bool := Region.waitsFor .any ops j i

structure Chain (ops : Array Oper) (n : Nat) : Prop where
  one : 1 ≤ n
  size : n + 2 ≤ ops.size
  skip : waits ops (n + 1) (n - 1) = true
  both : n + 2 < ops.size → waits ops (n + 2) n = true
  prev : ∀ t, t < ops.size → t ≠ 0 → t ≠ n + 1 → waits ops t (t - 1) = true
  back : ∀ t o, ops[t]? = some o → ∀ e ∈ o.after, Region.binds .any e = true → e.on < t ∧ (t = n + 1 → e.on ≠ n)

theorem waits_of {ops : Array Oper} {j i : Nat} {o : Oper} (h : waits ops j i = true) (ho : ops[j]? = some o) {listed : Array Bool} (ha : ∀ e ∈ o.after, Region.binds .any e = true → listed.getD e.on false = true) : listed.getD i false = true := by
  obtain ⟨oj, hj, e, he, hb, rfl⟩ := Region.waitsFor_spec h
  rw [ho] at hj
  cases hj
  exact ha e he hb

theorem size_of {ops : Array Oper} {i : Nat} {o : Oper} (h : ops[i]? = some o) : i < ops.size := by
  rcases Nat.lt_or_ge i ops.size with h' | h'
  · exact h'
  · rw [Array.getElem?_eq_none h'] at h; cases h

/-- Elsewhere one alone may come up. -/
theorem Chain.only {ops : Array Oper} {n : Nat} (C : Chain ops n) {k i : Nat} (hk : k ≠ n) (hi : i ∈ Region.ready .any ops (upTo ops.size k)) : i = k := by
  obtain ⟨h1, o, ho, ha⟩ := mem_ready.1 hi
  obtain ⟨hN, hki⟩ := upTo_true.1 h1
  by_cases hn : i = n + 1
  · have := (upTo_false.1 (waits_of (i := n - 1) (by rw [hn]; exact C.skip) ho ha)).2
    have := C.one
    omega
  · by_cases h0 : i = 0
    · omega
    · have := (upTo_false.1 (waits_of (C.prev i hN h0 hn) ho ha)).2
      omega

theorem Chain.first {ops : Array Oper} {n : Nat} (C : Chain ops n) {k : Nat} (hk : k < ops.size) : k ∈ Region.ready .any ops (upTo ops.size k) := by
  refine mem_ready.2 ⟨upTo_true.2 ⟨hk, Nat.le_refl _⟩, ops[k], by simp [hk], fun e he hb => upTo_false.2 ?_⟩
  have := (C.back k ops[k] (by simp [hk]) e he hb).1
  omega

theorem Chain.other {ops : Array Oper} {n : Nat} (C : Chain ops n) {i : Nat} (hi : i ∈ Region.ready .any ops ((upTo ops.size n).setIfInBounds (n + 1) true)) : i = n := by
  obtain ⟨h1, o, ho, ha⟩ := mem_ready.1 hi
  obtain ⟨hN, hki, hne⟩ := upTo_true'.1 h1
  by_cases h0 : i = 0
  · omega
  · by_cases h2 : i = n + 2
    · have := (upTo_false'.1 (waits_of (i := n) (by rw [h2]; exact C.both (by omega)) ho ha)).2
      omega
    · have := (upTo_false'.1 (waits_of (C.prev i hN h0 hne) ho ha)).2
      omega

theorem Chain.done {ops : Array Oper} {k : Nat} (hk : ops.size ≤ k) : Region.ready .any ops (upTo ops.size k) = [] := by
  apply List.eq_nil_iff_forall_not_mem.2
  intro i hi
  obtain ⟨h1, _⟩ := mem_ready.1 hi
  obtain ⟨hN, hki⟩ := upTo_true.1 h1
  omega

end Go.Proofs.Yteabfjpajgakiab

/- A region that draws its order: stretches of it whose order is forced are walked as the text has them. -/
set_option linter.unusedSimpArgs false
set_option linter.unusedVariables false
namespace Go.Proofs.Yteabfjpajgakiab
open Go.RowKit

/-- Where the first k are done, k alone may come up. -/
def soleB (ops : Array Oper) (k : Nat) : Bool :=
  ((List.range ops.size).all fun t => decide (t ≤ k) || ((ops[t]?).map fun o => o.after.any fun e => Region.binds .any e && decide (k ≤ e.on ∧ e.on < ops.size)).getD false) &&
    ((ops[k]?).map fun o => o.after.all fun e => !Region.binds .any e || decide (e.on < k)).getD false

theorem sole_only {ops : Array Oper} {k : Nat} (h : soleB ops k = true) {i : Nat} (hi : i ∈ Region.ready .any ops (upTo ops.size k)) : i = k := by
  simp only [soleB, Bool.and_eq_true, List.all_eq_true, List.mem_range, Bool.or_eq_true, decide_eq_true_eq] at h
  obtain ⟨h1, o, ho, ha⟩ := mem_ready.1 hi
  obtain ⟨hN, hki⟩ := upTo_true.1 h1
  rcases h.1 i hN with h' | h'
  · omega
  · rw [ho] at h'
    simp only [Option.map_some, Option.getD_some, Array.any_eq_true', Bool.and_eq_true, decide_eq_true_eq] at h'
    obtain ⟨e, he, hb, hk, _⟩ := h'
    have := (upTo_false.1 (ha e he hb)).2
    omega

theorem sole_first {ops : Array Oper} {k : Nat} (h : soleB ops k = true) : k ∈ Region.ready .any ops (upTo ops.size k) := by
  simp only [soleB, Bool.and_eq_true] at h
  have h2 := h.2
  cases ho : ops[k]? with
  | none => rw [ho] at h2; cases h2
  | some o =>
    rw [ho] at h2
    simp only [Option.map_some, Option.getD_some, Array.all_eq_true', Bool.or_eq_true, Bool.not_eq_true', decide_eq_true_eq] at h2
    have hk := size_of ho
    refine mem_ready.2 ⟨upTo_true.2 ⟨hk, Nat.le_refl _⟩, o, ho, fun e he hb => upTo_false.2 ?_⟩
    rcases h2 e he with h' | h'
    · rw [hb] at h'; cases h'
    · omega

theorem wpAny_seg {P : Program} {ops : Array Oper} {Q : Exit → Act → World → Prop} {m : Nat} : ∀ (l : List Oper) (k : Nat) (a : Act) (w : World), (∀ j, j < l.length → l[j]? = ops[k + j]?) →
    (∀ j, j < l.length → soleB ops (k + j) = true) → wpList P ops (Exit.then (wpAny P .any ops Q m (upTo ops.size (k + l.length))) Q) l a w → wpAny P .any ops Q (m + l.length) (upTo ops.size k) a w
  | [], k, a, w, _, _, h => h
  | o :: l, k, a, w, hl, hB, h => by
    have h0 : ops[k]? = some o := by simpa using (hl 0 (by simp)).symm
    have hk : soleB ops k = true := by simpa using hB 0 (by simp)
    refine ⟨fun h1 => ?_, fun i hi => ?_⟩
    · have := sole_first hk
      rw [h1] at this
      cases this
    · obtain rfl := sole_only hk hi
      rw [upTo_set]
      have hw := wpOp_thenQ h0 h
      refine wpOp_mono (fun a' w' h' => wpAny_seg l (i + 1) a' w' (fun j hj => by have := hl (j + 1) (by simp; omega); simpa [Nat.add_assoc, Nat.add_comm 1 j] using this)
        (fun j hj => by have := hB (j + 1) (by simp; omega); simpa [Nat.add_assoc, Nat.add_comm 1 j] using this) ?_) hw
      rw [show i + 1 + l.length = i + (o :: l).length by simp; omega]
      exact h'

def segB (ops : Array Oper) (k n : Nat) : Bool := (List.range n).all fun j => soleB ops (k + j)

/-- From k on, n of them as the text has them. -/
theorem wpAny_on {P : Program} {l : List Oper} {Q : Exit → Act → World → Prop} {a : Act} {w : World} (k n m : Nat) (hn : k + n + m = l.length) (hB : segB l.toArray k n = true)
    (h : wpList P l.toArray (Exit.then (wpAny P .any l.toArray Q m (upTo l.toArray.size (k + n))) Q) ((l.drop k).take n) a w) : wpAny P .any l.toArray Q (m + n) (upTo l.toArray.size k) a w := by
  have hl : ((l.drop k).take n).length = n := by simp; omega
  simp only [segB, List.all_eq_true, List.mem_range] at hB
  have := wpAny_seg (P := P) (Q := Q) (ops := l.toArray) (m := m) ((l.drop k).take n) k a w (fun j hj => by rw [hl] at hj; simp [List.getElem?_take, hj]) (fun j hj => hB j (by rw [hl] at hj; exact hj)) (by rw [hl]; exact h)
  rwa [hl] at this

/-- A region: its first n as the text has them. -/
theorem wp_region_pre {P : Program} {id : Nat} {Q : Exit → Act → World → Prop} {a : Act} {w : World} {l : List Oper} (n m : Nat) (hm : P.follows .mixedOrders = true) (hn : n + m = l.length) (hB : segB l.toArray 0 n = true)
    (h : wpList P l.toArray (Exit.then (wpAny P .any l.toArray Q m (upTo l.toArray.size n)) Q) (l.take n) a w.drew) : (Code.region id l.toArray true).wp P Q a w := by
  refine wp_region_any hm ?_
  have := wpAny_on (P := P) (Q := Q) (l := l) (a := a) (w := w.drew) 0 n m (by omega) hB (by simpa using h)
  rw [← upTo_zero] at this
  have e : m + n = l.toArray.size := by simp; omega
  rw [e] at this
  exact this

/-- Where the first k are done, k and k + 1 alone may come up, in either order. -/
def pairB (ops : Array Oper) (k : Nat) : Bool :=
  ((List.range ops.size).all fun t => decide (t ≤ k + 1) || ((ops[t]?).map fun o => (o.after.any fun e => Region.binds .any e && decide (k ≤ e.on ∧ e.on ≠ k + 1 ∧ e.on < ops.size)) && (o.after.any fun e => Region.binds .any e && decide (k + 1 ≤ e.on ∧ e.on < ops.size))).getD false) &&
    (((ops[k]?).map fun o => o.after.all fun e => !Region.binds .any e || decide (e.on < k)).getD false && ((ops[k + 1]?).map fun o => o.after.all fun e => !Region.binds .any e || decide (e.on < k)).getD false)

theorem pair_edges {ops : Array Oper} {k j : Nat} (h : ((ops[j]?).map fun o => o.after.all fun e => !Region.binds .any e || decide (e.on < k)).getD false = true) : ∃ o, ops[j]? = some o ∧ ∀ e ∈ o.after, Region.binds .any e = true → e.on < k := by
  cases ho : ops[j]? with
  | none => rw [ho] at h; cases h
  | some o =>
    rw [ho] at h
    simp only [Option.map_some, Option.getD_some, Array.all_eq_true', Bool.or_eq_true, Bool.not_eq_true', decide_eq_true_eq] at h
    refine ⟨o, rfl, fun e he hb => ?_⟩
    rcases h e he with h' | h'
    · rw [hb] at h'; cases h'
    · exact h'

theorem pair_far {ops : Array Oper} {k : Nat} (h : pairB ops k = true) {t : Nat} {o : Oper} (ho : ops[t]? = some o) (ht : k + 1 < t) :
    (∃ e ∈ o.after, Region.binds .any e = true ∧ k ≤ e.on ∧ e.on ≠ k + 1) ∧ ∃ e ∈ o.after, Region.binds .any e = true ∧ k + 1 ≤ e.on := by
  simp only [pairB, Bool.and_eq_true, List.all_eq_true, List.mem_range, Bool.or_eq_true, decide_eq_true_eq] at h
  rcases h.1 t (size_of ho) with h' | h'
  · omega
  · rw [ho] at h'
    simp only [Option.map_some, Option.getD_some, Array.any_eq_true', Bool.and_eq_true, decide_eq_true_eq] at h'
    obtain ⟨⟨e, he, hb, h1, h2, _⟩, e', he', hb', h1', _⟩ := h'
    exact ⟨⟨e, he, hb, h1, h2⟩, e', he', hb', h1'⟩

theorem wpAny_pair {P : Program} {l : List Oper} {Q : Exit → Act → World → Prop} {a : Act} {w : World} (k m : Nat) (x y : Oper) (hx : l[k]? = some x) (hy : l[k + 1]? = some y) (hp : pairB l.toArray k = true)
    (h1 : wpList P l.toArray (Exit.then (wpAny P .any l.toArray Q m (upTo l.toArray.size (k + 2))) Q) [x, y] a w)
    (h2 : wpList P l.toArray (Exit.then (wpAny P .any l.toArray Q m (upTo l.toArray.size (k + 2))) Q) [y, x] a w) : wpAny P .any l.toArray Q (m + 1 + 1) (upTo l.toArray.size k) a w := by
  have hx' : l.toArray[k]? = some x := by simpa using hx
  have hy' : l.toArray[k + 1]? = some y := by simpa using hy
  have hp2 := hp
  simp only [pairB, Bool.and_eq_true] at hp2
  obtain ⟨ox, hox, ex⟩ := pair_edges hp2.2.1
  obtain ⟨oy, hoy, ey⟩ := pair_edges hp2.2.2
  rw [hx'] at hox
  rw [hy'] at hoy
  cases hox
  cases hoy
  have hN := size_of hy'
  have rx : k ∈ Region.ready .any l.toArray (upTo l.toArray.size k) := mem_ready.2 ⟨upTo_true.2 ⟨by omega, Nat.le_refl _⟩, x, hx', fun e he hb => upTo_false.2 (by have := ex e he hb; omega)⟩
  have ry : k + 1 ∈ Region.ready .any l.toArray (upTo l.toArray.size (k + 1)) := mem_ready.2 ⟨upTo_true.2 ⟨by omega, Nat.le_refl _⟩, y, hy', fun e he hb => upTo_false.2 (by have := ey e he hb; omega)⟩
  have rx' : k ∈ Region.ready .any l.toArray ((upTo l.toArray.size k).setIfInBounds (k + 1) true) := mem_ready.2 ⟨upTo_true'.2 ⟨by omega, Nat.le_refl _, by omega⟩, x, hx', fun e he hb => upTo_false'.2 (by have := ex e he hb; omega)⟩
  refine ⟨fun h => absurd rx (by rw [h]; simp), fun i hi => ?_⟩
  have hi2 : i = k ∨ i = k + 1 := by
    obtain ⟨h1, o, ho, ha⟩ := mem_ready.1 hi
    obtain ⟨hN', hki⟩ := upTo_true.1 h1
    by_cases hlt : k + 1 < i
    · obtain ⟨⟨e, he, hb, h1, h2⟩, _⟩ := pair_far hp ho hlt
      have := (upTo_false.1 (ha e he hb)).2
      omega
    · omega
  rcases hi2 with rfl | rfl
  · refine wpOp_mono (fun a' w' h' => ?_) (wpOp_thenQ hx' h1)
    rw [upTo_set]
    refine ⟨fun h => absurd ry (by rw [h]; simp), fun j hj => ?_⟩
    obtain rfl : j = i + 1 := by
      obtain ⟨h1, o, ho, ha⟩ := mem_ready.1 hj
      obtain ⟨hN', hki⟩ := upTo_true.1 h1
      by_cases hlt : i + 1 < j
      · obtain ⟨_, e, he, hb, h1⟩ := pair_far hp ho hlt
        have := (upTo_false.1 (ha e he hb)).2
        omega
      · omega
    rw [upTo_set]
    exact wpOp_mono (fun a'' w'' h'' => h'') (wpOp_thenQ hy' h')
  · refine wpOp_mono (fun a' w' h' => ?_) (wpOp_thenQ hy' h2)
    refine ⟨fun h => absurd rx' (by rw [h]; simp), fun j hj => ?_⟩
    obtain rfl : j = k := by
      obtain ⟨h1, o, ho, ha⟩ := mem_ready.1 hj
      obtain ⟨hN', hki, hne⟩ := upTo_true'.1 h1
      by_cases hlt : k + 1 < j
      · obtain ⟨⟨e, he, hb, h1, h2⟩, _⟩ := pair_far hp ho hlt
        have := (upTo_false'.1 (ha e he hb)).2
        omega
      · omega
    rw [upTo_swap]
    exact wpOp_mono (fun a'' w'' h'' => h'') (wpOp_thenQ hx' h')
end Go.Proofs.Yteabfjpajgakiab

/- A session of its own memory: sess.twin, the reference's ownSession. -/
set_option linter.unusedSimpArgs false
set_option linter.unusedVariables false
namespace Go.Proofs.Yteabfjpajgakiab
open Go.RowKit

theorem infoRep : (Try.prog.info? 78).map (fun i => (i.zero, i.size, i.bytes)) = some (some (.agg #[.int .i64 0, .int .i64 0]), 2, 16) := by kernel_rfl
theorem infoSes : (Try.prog.info? 48).map (fun i => (i.zero, i.size, i.bytes)) = some (some (.agg #[.int .i64 0, .int .i64 0, .int .i64 0, .slice none 0 0]), 4, 48) := by kernel_rfl

theorem RowAt.of_owns {w : World} {base : Nat} {e : TypeId} {size : Nat} {v : Value} {n : Nat} {xs : List Value} (h : w.ownsRow base e size v n xs) : RowAt w size v n xs := by
  have hc := fun g => h.cells (g := g)
  obtain ⟨h1, h2⟩ := h
  rcases h2 with ⟨rfl, rfl⟩ | ⟨g, cap, cur, rfl, _, _, hnc, hcm, _, _⟩
  · exact ⟨h1, by unfold maxLen; omega, .inl ⟨rfl, rfl⟩⟩
  · exact ⟨h1, Nat.le_trans hnc hcm, .inr ⟨_, cap, rfl, fun j u hu => hc g rfl j u hu⟩⟩

theorem owns_base {w : World} {base base' : Nat} {e : TypeId} {size : Nat} {v : Value} {n : Nat} {xs : List Value} (h : w.ownsRow base e size v n xs) (hb : base' ≤ base) : w.ownsRow base' e size v n xs := by
  obtain ⟨h1, h2⟩ := h
  refine ⟨h1, ?_⟩
  rcases h2 with h2 | ⟨g, cap, cur, hv, hg, r⟩
  · exact .inl h2
  · exact .inr ⟨g, cap, cur, hv, Nat.le_trans hb hg, r⟩

theorem keeps_grown {w w' : World} {v : Value} {a : World} (ha : Keeps a w) (hg : w.grownBy w' v.ownBlock) (hb : ∀ k, v.ownBlock = some k → a.heap.size ≤ k) : Keeps a w' :=
  Below.grown ha hg ha.size hb

/-- 'append(v, x...)', v the call's own, x whatever is read. -/
theorem run_append_read (w : World) (base : Nat) (t ty e : TypeId) (size bytes : Nat) (z : Value) (hinfo : (Try.prog.info? e).map (fun i => (i.zero, i.size, i.bytes)) = some (some z, size, bytes))
    (ht : Try.prog.underlying t = some (.slice e)) (hzs : z.cells.size = size) (hsz : 0 < size)
    (v : Value) (m : Nat) (ys : List Value) (hown : w.ownsRow base e size v m ys) (x : Value) (n : Nat) (xs : List Value) (hx : RowAt w size x n xs) (h1 : ∀ u ∈ xs, u.oneCell' = true)
    (h63 : m + n ≤ maxLen) (hbytes : (m + n) * bytes ≤ 140737488355328) (hbase : base ≤ w.heap.size) :
    ∃ v' w', (Builtin.append_ #[t, t] ty #[v, x]).run Try.prog w = .ok v' w' ∧ w'.ownsRow base e size v' (m + n) (ys ++ xs) ∧ w.grownBy w' v.ownBlock := by
  obtain ⟨i, hi, hz, hs, hb⟩ := info_parts hinfo
  rcases hx.2.2 with ⟨rfl, rfl⟩ | ⟨a, cap, rfl, hc⟩
  · have hx0 : xs = [] := List.eq_nil_of_length_eq_zero (by simpa using hx.1)
    subst hx0
    refine ⟨v, w, run_append_owned_none (P := Try.prog) w base t ty e i size ht hi v m ys hown, by simpa using hown, ⟨rfl, rfl, rfl, Nat.le_refl _, fun _ _ _ => rfl⟩⟩
  · obtain ⟨v', w', hr, ho, hg, _⟩ := run_append_own (P := Try.prog) w base t ty e i z size bytes ht hi hz hs hb hzs hsz v m ys hown a n cap xs hx.1 hc h1 h63 hbytes hbase
    exact ⟨v', w', hr, ho, hg⟩

/-- An append whose run is known. -/
theorem wpList_append_run {P : Program} {w w' : World} {ops : Array Oper} {rest : List Oper} {o : Oper} {a : Act} {Q : Exit → Act → World → Prop} {v x v' : Value} (hgd : o.guard = none) (s y : Operand) (t : TypeId)
    (ho : o.op = .call { callee := .builtin .append, args := #[s, y], argTypes := #[t, t] }) (hs : a.eval s = v) (hx : a.eval y = x)
    (hr : (Builtin.append_ #[t, t] o.type #[v, x]).run P w = .ok v' w') (h : wpList P ops Q rest (a.put o.dst v') w') : wpList P ops Q (o :: rest) a w := by
  refine wpList_plain hgd fun K hK => ?_
  unfold Oper.wp
  simp [execOp, ho, resolve, invoke, builtin, hs, hx, hr, Result.andThen]
  exact hK _ _ h

theorem repCells_one : ∀ (l : List (Int × Int)), ∀ u ∈ repCells l, u.oneCell' = true
  | [], u, h => by simp [repCells] at h
  | (q, v) :: r, u, h => by
    simp only [repCells, List.mem_cons] at h
    rcases h with rfl | rfl | h
    · rfl
    · rfl
    · exact repCells_one r u h

set_option maxHeartbeats 1000000 in
theorem twin_c (s : Ses) (kv : Value) (w : World) (hk : KeptAt w kv s.kept) (hn : s.kept.length ≤ 3) :
    Calls Try.prog 77 #[sesV s kv] w fun e w' => ∃ kv', w'.ownsRow w.heap.size 78 2 kv' s.kept.length (repCells s.kept) ∧ e = .returned (sesV s kv') ∧ Keeps w w' := by
  obtain ⟨ka, kc, rfl, hlen⟩ := hk.len
  have hkW : KeptAt ((w.alloc (.cells #[.int .i64 s.client, .int .i64 s.acked, .int .i64 s.seen, .slice ka s.kept.length kc] 48)).alloc (.cells #[.int .i64 0, .int .i64 0, .int .i64 0, .slice none 0 0] 48)) (.slice ka s.kept.length kc) s.kept := hk.keep (((Keeps.refl _).alloc _).alloc _)
  obtain ⟨v', w', hr, ho, hg⟩ := run_append_read ((w.alloc (.cells #[.int .i64 s.client, .int .i64 s.acked, .int .i64 s.seen, .slice ka s.kept.length kc] 48)).alloc (.cells #[.int .i64 0, .int .i64 0, .int .i64 0, .slice none 0 0] 48)) (w.heap.size + 2) 46 46 78 2 16 _ infoRep Try.underlying46 rfl (by decide) (.slice none 0 0) 0 [] (World.ownsRow_nil _ _ _ _) _ _ _ hkW (repCells_one _) (by unfold maxLen; omega) (by omega) (by simp)
  simp only [Nat.zero_add, List.nil_append] at ho
  clear hkW hk
  obtain ⟨va, vc, rfl⟩ : ∃ va vc, v' = .slice va s.kept.length vc := by obtain ⟨x, y, h, _⟩ := (RowAt.of_owns ho).len; exact ⟨x, y, h⟩
  have hkp : Keeps ((w.alloc (.cells #[.int .i64 s.client, .int .i64 s.acked, .int .i64 s.seen, .slice ka s.kept.length kc] 48)).alloc (.cells #[.int .i64 0, .int .i64 0, .int .i64 0, .slice none 0 0] 48)) w' := keeps_grown (Keeps.refl _) hg (fun k h => by cases h)
  have Hr := (show Hid (_ = _) from hr)
  clear hr hg
  obtain ⟨hc, hf⟩ := hkp.cells
  have hz := hkp.size
  simp only [World.size_alloc] at hc hf hz
  have hz1 : w.heap.size < w'.heap.size := by omega
  have hz2 : w.heap.size + 1 < w'.heap.size := by omega
  have hk' : Keeps w w' := (((Keeps.refl _).alloc _).alloc _).trans hkp
  have hq : w'.cell? ⟨w.heap.size, 3, none⟩ = some (.slice ka s.kept.length kc) := by rw [hc _ _ (by omega)]; simp [go_sem]
  have hs := World.cell?_setCell_same w' ⟨w.heap.size, 3, none⟩ (.slice va s.kept.length vc) hq
  clear hq
  go_enter Try.func77, Try.ntmps77
  go_wp2_with (at_builtin; refine wpList_append_run rfl _ _ _ rfl rfl rfl Hr.out ?_)
  refine bodyPost_ret (v := sesV s (.slice va s.kept.length vc)) ?_ rfl ?_
  · simp [results, Try.results77, go_sem, hc]
  · refine ⟨.slice va s.kept.length vc, ?_, rfl, ?_⟩
    · refine owns_base (base := w.heap.size + 2) ?_ (by omega)
      repeat refine ownsRow_setCell_below ?_ (by simp <;> omega) _
      exact ho
    · repeat refine Keeps.set ?_ (by simp <;> omega) _
      exact hk'

set_option maxHeartbeats 1000000 in
theorem own_c (s : Ses) (kv : Value) (w : World) (hk : KeptAt w kv s.kept) (hn : s.kept.length ≤ 3) :
    Calls Try.prog 76 #[sesV s kv] w fun e w' => ∃ kv', w'.ownsRow w.heap.size 78 2 kv' s.kept.length (repCells s.kept) ∧ e = .returned (sesV s kv') ∧ Keeps w w' := by
  obtain ⟨ka, kc, rfl, hlen⟩ := hk.len
  have hsz2 : ((w.alloc (.cells #[.int .i64 s.client, .int .i64 s.acked, .int .i64 s.seen, .slice ka s.kept.length kc] 48)).alloc (.cells #[.int .i64 0, .int .i64 0, .int .i64 0, .slice none 0 0] 48)).heap.size = w.heap.size + 1 + 1 := by simp
  have hmade := World.ownsRow_made (base := w.heap.size + 2) (e := 78) (size := 2) ((w.alloc (.cells #[.int .i64 s.client, .int .i64 s.acked, .int .i64 s.seen, .slice ka s.kept.length kc] 48)).alloc (.cells #[.int .i64 0, .int .i64 0, .int .i64 0, .slice none 0 0] 48)) #[] 0 (by simp) (by unfold maxLen; omega) rfl
  rw [hsz2] at hmade
  have hkW := hk.keep ((((Keeps.refl w).alloc (.cells #[.int .i64 s.client, .int .i64 s.acked, .int .i64 s.seen, .slice ka s.kept.length kc] 48)).alloc (.cells #[.int .i64 0, .int .i64 0, .int .i64 0, .slice none 0 0] 48)).alloc (.cells #[] 78))
  obtain ⟨v', w', hr, ho, hg⟩ := run_append_read _ (w.heap.size + 2) 46 46 78 2 16 _ infoRep Try.underlying46 rfl (by decide) _ 0 [] hmade _ _ _ hkW (repCells_one _) (by unfold maxLen; omega) (by omega) (by simp)
  simp only [Nat.zero_add, List.nil_append] at ho
  clear hkW hk hmade
  obtain ⟨va, vc, rfl⟩ : ∃ va vc, v' = .slice va s.kept.length vc := by obtain ⟨x, y, h, _⟩ := (RowAt.of_owns ho).len; exact ⟨x, y, h⟩
  have hkp : Keeps ((w.alloc (.cells #[.int .i64 s.client, .int .i64 s.acked, .int .i64 s.seen, .slice ka s.kept.length kc] 48)).alloc (.cells #[.int .i64 0, .int .i64 0, .int .i64 0, .slice none 0 0] 48)) w' :=
    keeps_grown ((Keeps.refl _).alloc _) hg (fun k h => by simp [Value.ownBlock] at h; simp; omega)
  have Hr := (show Hid (_ = _) from hr)
  clear hr hg hsz2
  obtain ⟨hc, hf⟩ := hkp.cells
  have hz := hkp.size
  simp only [World.size_alloc] at hc hf hz
  have hz1 : w.heap.size < w'.heap.size := by omega
  have hz2 : w.heap.size + 1 < w'.heap.size := by omega
  have hk' : Keeps w w' := (((Keeps.refl _).alloc _).alloc _).trans hkp
  have hq : w'.cell? ⟨w.heap.size, 3, none⟩ = some (.slice ka s.kept.length kc) := by rw [hc _ _ (by omega)]; simp [go_sem]
  have hs := World.cell?_setCell_same w' ⟨w.heap.size, 3, none⟩ (.slice va s.kept.length vc) hq
  clear hq
  go_enter Try.func76, Try.ntmps76
  go_wp2_with (at_builtin; refine wpList_append_run rfl _ _ _ rfl rfl rfl Hr.out ?_)
  refine bodyPost_ret (v := sesV s (.slice va s.kept.length vc)) ?_ rfl ?_
  · simp [results, Try.results76, go_sem, hc]
  · refine ⟨.slice va s.kept.length vc, ?_, rfl, ?_⟩
    · refine owns_base (base := w.heap.size + 2) ?_ (by omega)
      repeat refine ownsRow_setCell_below ?_ (by simp <;> omega) _
      exact ho
    · repeat refine Keeps.set ?_ (by simp <;> omega) _
      exact hk'
end Go.Proofs.Yteabfjpajgakiab

/- sess.Find and the reference's FindOf. -/
set_option linter.unusedSimpArgs false
set_option linter.unusedVariables false
namespace Go.Proofs.Yteabfjpajgakiab
open Go.RowKit

theorem keptOk_len (hi : Int) : ∀ (l : List (Int × Int)) (lo : Int), keptOk hi lo l = true → (l.length : Int) ≤ max 0 (hi + 1 - lo)
  | [], lo, _ => by simp; omega
  | (q, v) :: r, lo, h => by
    simp only [keptOk, Bool.and_eq_true] at h
    have h1 := inB_iff.1 h.1.1
    have := keptOk_len hi r (q + 1) h.2
    simp only [List.length_cons]
    omega

/-- What a right session has. -/
theorem ses_right {s : Ses} (h : sesErr s = 0) : inB s.client 1 5 = true ∧ inB s.acked 0 60 = true ∧ inB s.seen 0 999 = true ∧ keptOk (min (s.acked + 3) 60) (s.acked + 1) s.kept = true := by
  unfold sesErr at h
  split at h
  · cases h
  · rename_i h1
    split at h
    · cases h
    · rename_i h2
      simp only [Bool.not_eq_true', Bool.and_eq_false_iff, not_or, Bool.not_eq_false] at h1 h2
      exact ⟨h1.1.1, h1.1.2, h1.2, h2⟩
theorem kept_le {s : Ses} (h : sesErr s = 0) : s.kept.length ≤ 3 := by
  have := keptOk_len _ _ _ (ses_right h).2.2.2
  omega

theorem firstErr_zero : ∀ {L : List Ses}, firstErr L = 0 → ∀ s ∈ L, sesErr s = 0
  | [], _, s, hs => by cases hs
  | a :: r, h, s, hs => by
    unfold firstErr at h
    cases e : (sesErr a == 0) with
    | false => rw [e] at h; simp at h; simp [h] at e
    | true =>
      rw [e] at h
      simp only [if_true] at h
      rcases List.mem_cons.1 hs with rfl | hs
      · simpa using e
      · exact firstErr_zero h s hs

/-- What a right table has. -/
theorem tab_right {L : List Ses} (h : tabErr L = 0) : L.length ≤ 3 ∧ (∀ s ∈ L, sesErr s = 0) ∧ rising L = true := by
  unfold tabErr at h
  split at h
  · cases h
  · rename_i h3
    split at h
    · rename_i hf
      split at h
      · rename_i hr
        exact ⟨by omega, firstErr_zero (by simpa using hf), hr⟩
      · cases h
    · rename_i hf
      simp only [beq_iff_eq] at hf
      exact absurd h hf

def zeroSes : Ses := ⟨0, 0, 0, []⟩
def findSes (L : List Ses) (c : Int) : Option Ses := L.find? (fun s => s.client == c)
theorem findSes_at {L : List Ses} {c : Int} {k : Nat} (h : k < L.length) : findSes (L.drop k) c = if (L[k]).client == c then some (L[k]) else findSes (L.drop (k + 1)) c := by
  rw [List.drop_eq_getElem_cons h]
  simp only [findSes, List.find?_cons]
  cases ((L[k]).client == c) <;> rfl


end Go.Proofs.Yteabfjpajgakiab

/- The reference's find and FindOf. -/
set_option linter.unusedSimpArgs false
set_option linter.unusedVariables false
namespace Go.Proofs.Yteabfjpajgakiab
open Go.RowKit

set_option maxHeartbeats 1000000 in
theorem find_ix (L : List Ses) (v : Value) (c : Int) (w : World) (hT : TabAt w v L) :
    Calls Try.prog 58 #[v, .int .i64 c] w fun e w' => ∃ r : Int, e = .returned (.int .i64 r) ∧ w = w' ∧ ((r = -1 ∧ findSes L c = none) ∨ ∃ (k : Nat) (h : k < L.length), r = k ∧ findSes L c = some (L[k])) := by
  obtain ⟨a, cap, rfl, hlen⟩ := hT.len
  unfold maxLen at hlen
  have HT : Hid (TabAt w (.slice a L.length cap) L) := hT
  clear hT
  go_enter Try.func58, Try.ntmps58
  go_wp2_with fail
  go_loop [5] (fun i => ∃ (k : Nat), k ≤ L.length ∧ i = .int .i64 k ∧ Hid (findSes L c = findSes (L.drop k) c)) (fun i => L.length - (intOf i).toNat)
  case atStart => exact ⟨0, Nat.zero_le _, rfl, rfl⟩
  case round =>
    obtain ⟨k, hk, rfl, HQ⟩ := hrel
    by_cases hlt : k < L.length
    · obtain ⟨b, off, cap', hv, hcell⟩ := HT.out.at hlt
      injection hv with hv1 hv2 hv3
      subst hv1
      clear hv2 hv3
      obtain ⟨c0, _, _, _, _, _, _⟩ := hcell k hlt
      clear hcell
      have HR : Hid (findSes L c = if (L[k]).client == c then some (L[k]) else findSes (L.drop (k + 1)) c) := HQ.out.trans (findSes_at hlt)
      clear HQ
      cases hq : ((L[k]).client == c) with
      | true =>
        have HN : Hid (findSes L c = some (L[k])) := by show _ = _; rw [HR.out, hq]; rfl
        go_wp2_with fail
        go_ret
        first | exact ⟨k, rfl, rfl, .inr ⟨k, hlt, rfl, HN.out⟩⟩ | exact ⟨k, rfl, rfl, .inr ⟨k, rfl, hlt, HN.out⟩⟩
      | false =>
        have HN : Hid (findSes L c = findSes (L.drop (k + 1)) c) := by show _ = _; rw [HR.out, hq]; rfl
        go_wp2_with fail
        go_round
        case rel => exact ⟨k + 1, by omega, by go_num, HN⟩
        case measure => simp [intOf]; omega
    · have HN : Hid (findSes L c = none) := HQ.out.trans (by rw [List.drop_of_length_le (by omega)]; rfl)
      go_wp2_with fail
      go_ret
      exact ⟨-1, rfl, rfl, .inl ⟨rfl, HN.out⟩⟩
end Go.Proofs.Yteabfjpajgakiab

/- sess.those: the sessions that are wanted, in memory of their own. -/
set_option linter.unusedSimpArgs false
set_option linter.unusedVariables false
namespace Go.Proofs.Yteabfjpajgakiab
open Go.RowKit

/-- The answers that are kept lie in rows of the call's own. -/
def KeptsOwn (base : Nat) (w : World) : List Ses → List Value → Prop
  | [], [] => True
  | s :: r, k :: ks => w.ownsRow base 78 2 k s.kept.length (repCells s.kept) ∧ KeptsOwn base w r ks
  | _, _ => False
/-- A table of the call's own. -/
def OwnTab (base : Nat) (w : World) (v : Value) (L : List Ses) : Prop := ∃ ks, KeptsOwn base w L ks ∧ w.ownsRow base 48 4 v L.length (sesCells L ks)

theorem owns_apart {w : World} {base base' : Nat} {e e' : TypeId} {size size' : Nat} {v v' : Value} {n n' : Nat} {xs xs' : List Value} (h : w.ownsRow base e size v n xs) (h' : w.ownsRow base' e' size' v' n' xs') (hne : e ≠ e') : v.ownBlock = none ∨ v.ownBlock ≠ v'.ownBlock := by
  rcases h.2 with ⟨rfl, _⟩ | ⟨g, cap, cur, rfl, _, hg, _⟩
  · exact .inl rfl
  · rcases h'.2 with ⟨rfl, _⟩ | ⟨g', cap', cur', rfl, _, hg', _⟩
    · right; simp [Value.ownBlock]
    · right
      simp only [Value.ownBlock]
      intro e1
      injection e1 with e1
      subst e1
      rw [hg] at hg'
      simp at hg'
      exact hne hg'.2

theorem KeptsOwn.kept {base : Nat} {w w' : World} {row : Value} {m size : Nat} {ys : List Value} (hrow : w.ownsRow base 48 size row m ys) (hg : w.grownBy w' row.ownBlock) : ∀ {L : List Ses} {ks : List Value}, KeptsOwn base w L ks → KeptsOwn base w' L ks
  | [], [], _ => trivial
  | _ :: _, _ :: _, h => ⟨h.1.kept hg (owns_apart h.1 hrow (by decide)), KeptsOwn.kept hrow hg h.2⟩

theorem owns_keep {w w' : World} {base : Nat} {e : TypeId} {size : Nat} {v : Value} {n : Nat} {xs : List Value} (h : w.ownsRow base e size v n xs) (hk : Keeps w w') : w'.ownsRow base e size v n xs := by
  refine h.kept (row := none) ⟨hk.os, hk.tape, hk.output, hk.size, fun k hk' _ => hk.block k hk'⟩ ?_
  cases hv : v.ownBlock <;> simp

theorem KeptsOwn.keep {base : Nat} {w w' : World} (hk : Keeps w w') : ∀ {L : List Ses} {ks : List Value}, KeptsOwn base w L ks → KeptsOwn base w' L ks
  | [], [], _ => trivial
  | _ :: _, _ :: _, h => ⟨owns_keep h.1 hk, KeptsOwn.keep hk h.2⟩
theorem OwnTab.keep {base : Nat} {w w' : World} {v : Value} {L : List Ses} (h : OwnTab base w v L) (hk : Keeps w w') : OwnTab base w' v L := by
  obtain ⟨ks, h1, h2⟩ := h
  exact ⟨ks, h1.keep hk, owns_keep h2 hk⟩
theorem KeptsOwn.at {base : Nat} {w : World} : ∀ {L : List Ses} {ks : List Value}, KeptsOwn base w L ks → KeptsAt w L ks
  | [], [], _ => trivial
  | _ :: _, _ :: _, h => ⟨RowAt.of_owns h.1, KeptsOwn.at h.2⟩
theorem OwnTab.tab {base : Nat} {w : World} {v : Value} {L : List Ses} (h : OwnTab base w v L) : TabAt w v L := by
  obtain ⟨ks, h1, h2⟩ := h
  exact ⟨ks, h1.at, RowAt.of_owns h2⟩
theorem KeptsOwn.base {base base' : Nat} {w : World} (hb : base' ≤ base) : ∀ {L : List Ses} {ks : List Value}, KeptsOwn base w L ks → KeptsOwn base' w L ks
  | [], [], _ => trivial
  | _ :: _, _ :: _, h => ⟨owns_base h.1 hb, KeptsOwn.base hb h.2⟩
theorem OwnTab.base {base base' : Nat} {w : World} {v : Value} {L : List Ses} (h : OwnTab base w v L) (hb : base' ≤ base) : OwnTab base' w v L := by
  obtain ⟨ks, h1, h2⟩ := h
  exact ⟨ks, h1.base hb, owns_base h2 hb⟩
theorem OwnTab.nil (base : Nat) (w : World) : OwnTab base w (.slice none 0 0) [] := ⟨[], trivial, World.ownsRow_nil _ _ _ _⟩

theorem sesCells_append : ∀ (L M : List Ses) (ks ms : List Value), ks.length = L.length → sesCells (L ++ M) (ks ++ ms) = sesCells L ks ++ sesCells M ms
  | [], M, [], ms, _ => rfl
  | [], M, _ :: _, ms, h => by simp at h
  | _ :: _, M, [], ms, h => by simp at h
  | s :: L, M, k :: ks, ms, h => by simp [sesCells, sesCells_append L M ks ms (by simpa using h)]
theorem KeptsOwn.append {base : Nat} {w : World} : ∀ {L M : List Ses} {ks ms : List Value}, KeptsOwn base w L ks → KeptsOwn base w M ms → KeptsOwn base w (L ++ M) (ks ++ ms)
  | [], _, [], _, _, h => h
  | _ :: _, _, _ :: _, _, h, h' => ⟨h.1, KeptsOwn.append h.2 h'⟩
theorem KeptsOwn.len {base : Nat} {w : World} {L : List Ses} {ks : List Value} (h : KeptsOwn base w L ks) : ks.length = L.length := h.at.len

theorem sesCells_one (L : List Ses) : ∀ (ks : List Value), (∀ k ∈ ks, k.oneCell' = true) → ∀ u ∈ sesCells L ks, u.oneCell' = true := by
  induction L with
  | nil => intro ks _ u h; simp [sesCells] at h
  | cons s r ih =>
    intro ks hk u h
    cases ks with
    | nil => simp [sesCells] at h
    | cons k ks =>
      simp only [sesCells, List.mem_cons] at h
      rcases h with rfl | rfl | rfl | rfl | h
      · rfl
      · rfl
      · rfl
      · exact hk _ (List.mem_cons_self ..)
      · exact ih ks (fun k' h' => hk k' (List.mem_cons_of_mem _ h')) u h
theorem KeptsAt.one {w : World} : ∀ {L : List Ses} {ks : List Value}, KeptsAt w L ks → ∀ k ∈ ks, k.oneCell' = true
  | [], [], _, k, h => by cases h
  | _ :: _, k0 :: ks, h, k, hm => by
    rcases List.mem_cons.1 hm with rfl | hm
    · obtain ⟨a, cap, rfl, _⟩ := h.1.len; rfl
    · exact KeptsAt.one h.2 k hm

/-- 'append(out, ts...)', out the call's own, ts a table of the call's own. -/
theorem run_append_tab (w : World) (base : Nat) (v : Value) (L : List Ses) (h : OwnTab base w v L) (x : Value) (M : List Ses) (ms : List Value) (hM : KeptsOwn base w M ms) (hx : RowAt w 4 x M.length (sesCells M ms))
    (hlen : L.length + M.length ≤ 100) (hbase : base ≤ w.heap.size) :
    ∃ v' w', (Builtin.append_ #[23, 23] 23 #[v, x]).run Try.prog w = .ok v' w' ∧ OwnTab base w' v' (L ++ M) ∧ w.grownBy w' v.ownBlock ∧ (∀ k, v.ownBlock = some k → base ≤ k) := by
  obtain ⟨ks, h1, h2⟩ := h
  obtain ⟨v', w', hr, ho, hg⟩ := run_append_read w base 23 23 48 4 48 _ infoSes Try.underlying23 rfl (by decide) v L.length _ h2 x M.length _ hx (sesCells_one M ms hM.at.one) (by unfold maxLen; omega) (by omega) hbase
  refine ⟨v', w', hr, ⟨ks ++ ms, (h1.kept h2 hg).append (hM.kept h2 hg), ?_⟩, hg, fun k hk => (h2.lt k hk).1⟩
  rw [sesCells_append _ _ _ _ h1.len, List.length_append]
  exact ho

/-- A row that has just been laid, with one session in it. -/
theorem row_one (w : World) (s : Ses) (k : Value) : RowAt (w.alloc (.cells #[.int .i64 s.client, .int .i64 s.acked, .int .i64 s.seen, k] 48)) 4 (.slice (some ⟨w.heap.size, 0, none⟩) 1 1) [s].length (sesCells [s] [k]) := by
  refine ⟨rfl, by unfold maxLen; simp, .inr ⟨⟨w.heap.size, 0, none⟩, 1, rfl, fun j u hu => ?_⟩⟩
  rw [Addr.add_lit, Nat.zero_add, World.cell?_alloc_new]
  simpa [sesCells] using hu

theorem filter_take {p : Ses → Bool} {L : List Ses} {k : Nat} (h : k < L.length) : (L.take (k + 1)).filter p = (L.take k).filter p ++ (if p (L[k]) then [L[k]] else []) := by
  rw [List.take_succ_eq_append_getElem h, List.filter_append]
  cases hp : p (L[k]) <;> simp [hp]

set_option maxHeartbeats 2000000 in
theorem those_c (f : Nat) (cv : Value) (p : Ses → Bool) (L : List Ses) (v : Value) (w : World) (hT : TabAt w v L) (h3 : L.length ≤ 3) (hk3 : ∀ s ∈ L, s.kept.length ≤ 3)
    (hcall : ∀ args W, (callFunc f args).run Try.prog W = .ok (.enter f args) W)
    (hcl : Hid (∀ (W : World) (s : Ses) (kv : Value), Keeps w W → KeptAt W kv s.kept → Calls Try.prog f #[sesV s kv, cv] W fun e w' => e = .returned (.bool (p s)) ∧ Keeps W w')) :
    Calls Try.prog 68 #[v, .func (.func f) #[] #[cv]] w fun e w' => ∃ v', OwnTab w.heap.size w' v' (L.filter p) ∧ e = .returned v' ∧ Keeps w w' := by
  obtain ⟨a, cap, rfl, hlen⟩ := hT.len
  unfold maxLen at hlen
  have HT : Hid (TabAt w (.slice a L.length cap) L) := hT
  have HK3 : Hid (∀ s ∈ L, s.kept.length ≤ 3) := hk3
  clear hT hk3
  go_enter Try.func68, Try.ntmps68
  go_wp2_with fail
  go_loopw [5, 10] (fun o i wr => ∃ (k : Nat), k ≤ L.length ∧ i = .int .i64 k ∧ Keeps w wr ∧ Hid (OwnTab w.heap.size wr o ((L.take k).filter p))) (fun _ i _ => L.length - (intOf i).toNat)
  case atStart => exact ⟨0, Nat.zero_le _, rfl, Keeps.refl _, OwnTab.nil _ _⟩
  case round =>
    obtain ⟨k, hk, rfl, hkw, HO⟩ := hrel
    by_cases hlt : k < L.length
    · obtain ⟨b, off, cap', hv, hcell⟩ := (HT.out.keep hkw).at hlt
      injection hv with hv1 hv2 hv3
      subst hv1
      clear hv2 hv3
      obtain ⟨c0, c1, c2, ka, kc, c3, hkv⟩ := hcell k hlt
      clear hcell
      have HKV : Hid (KeptAt wr (.slice ka (L[k]).kept.length kc) (L[k]).kept) := hkv
      clear hkv
      have HF : Hid ((L.take (k + 1)).filter p = (L.take k).filter p ++ (if p (L[k]) then [L[k]] else [])) := filter_take hlt
      have hn3 : (L[k]).kept.length ≤ 3 := HK3.out _ (List.getElem_mem hlt)
      have hfl : ((L.take k).filter p).length ≤ 3 := Nat.le_trans (List.length_filter_le _ _) (by simp; omega)
      generalize L[k] = s at *
      generalize hO : (L.take k).filter p = O at *
      go_wp2_with fail
      refine (hcl.out _ s _ (hkw.alloc _) (HKV.out.keep ((Keeps.refl _).alloc _))).mono ?_
      rintro e w1 ⟨rfl, hb1⟩
      obtain ⟨hc1, hf1⟩ := hb1.cells
      have hz1 := hb1.size
      simp only [World.size_alloc] at hc1 hf1 hz1
      have hz1' : wr.heap.size < w1.heap.size := by omega
      have hk1 : Keeps wr w1 := ((Keeps.refl _).alloc _).trans hb1
      clear hb1
      cases hp : p s with
      | false =>
        have HO1 : Hid (OwnTab w.heap.size w1 u5 ((L.take (k + 1)).filter p)) := by show OwnTab _ _ _ _; rw [HF.out, hp]; simpa using HO.out.keep hk1
        go_wp2_with fail
        go_roundw
        case rel => exact ⟨k + 1, by omega, by go_num, hkw.trans hk1, HO1⟩
        case measure => simp [intOf]; omega
      | true =>
        go_wp2_with fail
        refine (twin_c s _ _ (HKV.out.keep hk1) hn3).mono ?_
        rintro e w2 ⟨kv', ho, rfl, hb2⟩
        obtain ⟨va, vc, rfl⟩ : ∃ va vc, kv' = .slice va s.kept.length vc := by obtain ⟨x, y, h, _⟩ := (RowAt.of_owns ho).len; exact ⟨x, y, h⟩
        have hb12 : w.heap.size ≤ w1.heap.size := Nat.le_trans hkw.size hk1.size
        have hk2 : Keeps wr w2 := hk1.trans hb2
        have hM : KeptsOwn w.heap.size (w2.alloc (.cells #[.int .i64 s.client, .int .i64 s.acked, .int .i64 s.seen, .slice va s.kept.length vc] 48)) [s] [.slice va s.kept.length vc] := ⟨owns_keep (owns_base ho hb12) ((Keeps.refl _).alloc _), trivial⟩
        obtain ⟨v', w', hr, hO', hg, hbk⟩ := run_append_tab (w2.alloc (.cells #[.int .i64 s.client, .int .i64 s.acked, .int .i64 s.seen, .slice va s.kept.length vc] 48)) w.heap.size u5 O ((HO.out.keep hk2).keep ((Keeps.refl _).alloc _)) _ [s] _ hM (row_one w2 s _) (by simp; omega) (by simp; have := hkw.size; have := hk2.size; omega)
        have hk' : Keeps w w' := keeps_grown ((hkw.trans hk2).alloc _) hg hbk
        have Hr := (show Hid (_ = _) from hr)
        have HO1 : Hid (OwnTab w.heap.size w' v' ((L.take (k + 1)).filter p)) := by show OwnTab _ _ _ _; rw [HF.out, hp]; exact hO'
        clear hr hM hO' hg hbk ho hb2 HO HF HKV
        go_wp2_with (at_builtin; refine wpList_append_run rfl _ _ _ rfl rfl rfl Hr.out ?_)
        go_roundw
        case rel => exact ⟨k + 1, by omega, by go_num, hk', HO1⟩
        case measure => simp [intOf]; omega
    · have HO1 : Hid (OwnTab w.heap.size wr u5 (L.filter p)) := by
        have := HO.out
        rw [List.take_of_length_le (by omega)] at this
        exact this
      go_wp2_with fail
      go_ret
      exact ⟨u5, HO1.out, rfl, hkw⟩
end Go.Proofs.Yteabfjpajgakiab

/- All that was there is as it was, but for one block. -/
set_option linter.unusedSimpArgs false
set_option linter.unusedVariables false
namespace Go.Proofs.Yteabfjpajgakiab
open Go.RowKit

/-- What was there is as it was, but for block b. -/
structure But (b : Nat) (a w : World) : Prop where
  os : w.os = a.os
  tape : w.tape = a.tape
  output : w.output = a.output
  size : a.heap.size ≤ w.heap.size
  block : ∀ k, k < a.heap.size → k ≠ b → w.heap[k]? = a.heap[k]?

theorem But.refl (b : Nat) (w : World) : But b w w := ⟨rfl, rfl, rfl, Nat.le_refl _, fun _ _ _ => rfl⟩
theorem But.trans {b : Nat} {x y z : World} (h : But b x y) (k : But b y z) : But b x z :=
  ⟨k.os.trans h.os, k.tape.trans h.tape, k.output.trans h.output, Nat.le_trans h.size k.size, fun i hi hb => (k.block i (Nat.lt_of_lt_of_le hi h.size) hb).trans (h.block i hi hb)⟩
theorem But.of {b : Nat} {x y : World} (h : Keeps x y) : But b x y := ⟨h.os, h.tape, h.output, h.size, fun k hk _ => h.block k hk⟩
theorem But.keeps {b : Nat} {x y z : World} (h : But b x y) (k : Keeps y z) : But b x z := h.trans (But.of k)
theorem But.set {b : Nat} {x y : World} (h : But b x y) (i : Nat) (u : Value) : But b x (y.setCell ⟨b, i, none⟩ u) :=
  h.trans ⟨rfl, rfl, rfl, by simp [World.setCell], fun k _ hk => Below.heap_setCell _ _ _ _ hk⟩
/-- Where the block is younger than all that was there. -/
theorem But.to {b : Nat} {a x y : World} (ha : Keeps a x) (hb : a.heap.size ≤ b) (h : But b x y) : Keeps a y :=
  Below.trans ha (⟨h.os, h.tape, h.output, h.size, fun k hk => h.block k (Nat.lt_of_lt_of_le hk ha.size) (by omega)⟩ : Below a.heap.size x y)
theorem But.cell {b : Nat} {x y : World} (h : But b x y) {p : Addr} (hp : p.block < x.heap.size) (hb : p.block ≠ b) : y.cell? p = x.cell? p := World.cell?_of_block (w := x) (h.block p.block hp hb)
theorem But.frozen {b : Nat} {x y : World} (h : But b x y) {p : Addr} (hp : p.block < x.heap.size) (hb : p.block ≠ b) : y.frozen? p = x.frozen? p := World.frozen?_of_block (w := x) (h.block p.block hp hb)
theorem But.at {b : Nat} {x y : World} (h : But b x y) {p : Addr} {u : Value} (hu : x.cell? p = some u) (hb : p.block ≠ b) : y.cell? p = some u := (h.cell (World.block_lt_of_cell? _ _ hu) hb).trans hu

/-- It lies apart from block b. -/
def KeptFar (b : Nat) (w : World) (v : Value) (l : List (Int × Int)) : Prop := ∀ w', But b w w' → KeptAt w' v l
def TabFar (b : Nat) (w : World) (v : Value) (L : List Ses) : Prop := ∀ w', But b w w' → TabAt w' v L
theorem KeptFar.kept {b : Nat} {w : World} {v : Value} {l : List (Int × Int)} (h : KeptFar b w v l) : KeptAt w v l := h w (But.refl _ _)
theorem TabFar.tab {b : Nat} {w : World} {v : Value} {L : List Ses} (h : TabFar b w v L) : TabAt w v L := h w (But.refl _ _)
theorem KeptFar.go {b : Nat} {w w' : World} {v : Value} {l : List (Int × Int)} (h : KeptFar b w v l) (k : But b w w') : KeptFar b w' v l := fun _ h' => h _ (k.trans h')
theorem TabFar.go {b : Nat} {w w' : World} {v : Value} {L : List Ses} (h : TabFar b w v L) (k : But b w w') : TabFar b w' v L := fun _ h' => h _ (k.trans h')

/-- What was there ahead of the block. -/
theorem KeptAt.far {b : Nat} {w w' : World} {v : Value} {l : List (Int × Int)} (h : KeptAt w v l) (hk : Keeps w w') (hb : w.heap.size ≤ b) : KeptFar b w' v l := fun _ h' => h.keep (But.to hk hb h')
theorem TabAt.far {b : Nat} {w w' : World} {v : Value} {L : List Ses} (h : TabAt w v L) (hk : Keeps w w') (hb : w.heap.size ≤ b) : TabFar b w' v L := fun _ h' => h.keep (But.to hk hb h')

theorem owns_far {b base : Nat} {w w' : World} {e : TypeId} {size : Nat} {v : Value} {n : Nat} {xs : List Value} (h : w.ownsRow base e size v n xs) (hb : b < base) (hk : But b w w') : w'.ownsRow base e size v n xs := by
  refine h.kept (row := some b) ⟨hk.os, hk.tape, hk.output, hk.size, fun k hk' hne => hk.block k hk' (fun e => hne (by rw [e]))⟩ ?_
  rcases h.2 with ⟨rfl, _⟩ | ⟨g, cap, cur, rfl, hg, _⟩
  · exact .inl rfl
  · right
    simp only [Value.ownBlock, ne_eq, Option.some.injEq]
    omega
theorem KeptsOwn.far {b base : Nat} {w w' : World} (hb : b < base) (hk : But b w w') : ∀ {L : List Ses} {ks : List Value}, KeptsOwn base w L ks → KeptsOwn base w' L ks
  | [], [], _ => trivial
  | _ :: _, _ :: _, h => ⟨owns_far h.1 hb hk, KeptsOwn.far hb hk h.2⟩
theorem OwnTab.but {b base : Nat} {w w' : World} {v : Value} {L : List Ses} (h : OwnTab base w v L) (hb : b < base) (hk : But b w w') : OwnTab base w' v L := by
  obtain ⟨ks, h1, h2⟩ := h
  exact ⟨ks, h1.far hb hk, owns_far h2 hb hk⟩
/-- What is the call's own lies apart from what was there. -/
theorem OwnTab.far {b base : Nat} {w : World} {v : Value} {L : List Ses} (h : OwnTab base w v L) (hb : b < base) : TabFar b w v L := fun _ hk => (h.but hb hk).tab
/-- At an address elsewhere. -/
theorem kept_far_at {b g o : Nat} {w : World} {n c : Nat} {l : List (Int × Int)} (h : KeptAt w (.slice (some ⟨g, o, none⟩) n c) l) (hb : g ≠ b) (hl : g < w.heap.size) : KeptFar b w (.slice (some ⟨g, o, none⟩) n c) l := by
  intro w' hk
  obtain ⟨h1, h2, h3⟩ := h
  refine ⟨h1, h2, ?_⟩
  rcases h3 with ⟨h3, _⟩ | ⟨a', c', h3, h4⟩
  · cases h3
  · injection h3 with e1 e2 e3
    injection e1 with e1
    subst e1 e2 e3
    refine .inr ⟨_, c, rfl, fun j u hu => ?_⟩
    have := h4 j u hu
    rw [Addr.add_lit] at this ⊢
    exact hk.at this hb
end Go.Proofs.Yteabfjpajgakiab

/- States: the law's shop, Begin. -/
set_option linter.unusedSimpArgs false
set_option linter.unusedVariables false
set_option maxRecDepth 10000
namespace Go.Proofs.Yteabfjpajgakiab
open Go.RowKit

/-- A row of the law, and where its answers lie. -/
theorem row_at (c : Int) (w : World) : Calls Try.prog 46 #[.int .i64 c] w fun e w' => ∃ g, w.heap.size ≤ g ∧ g < w'.heap.size ∧ KeptAt w' (.slice (some ⟨g, 0, none⟩) 2 2) [(3, 7), (5, -1)] ∧ e = .returned (sesV (rowS c) (.slice (some ⟨g, 0, none⟩) 2 2)) ∧ Keeps w w' := by
  go_enter Try.func46, Try.ntmps46
  go_wp2_with fail
  refine bodyPost_ret (v := sesV (rowS c) (.slice (some ⟨w.heap.size + 1, 0, none⟩) 2 2)) ?_ rfl ?_
  · simp [results, Try.results46, go_sem]
  · refine ⟨w.heap.size + 1, by omega, by simp, ?_, rfl, ?_⟩
    · refine ⟨rfl, by unfold maxLen; simp, .inr ⟨_, _, rfl, fun j u hu => ?_⟩⟩
      rw [Addr.add_lit, Nat.zero_add]
      match j, hu with
      | 0, hu => simp [repCells] at hu; subst hu; simp [go_sem]
      | 1, hu => simp [repCells] at hu; subst hu; simp [go_sem]
      | 2, hu => simp [repCells] at hu; subst hu; simp [go_sem]
      | 3, hu => simp [repCells] at hu; subst hu; simp [go_sem]
    · exact ((Keeps.refl _).alloc _).alloc _

abbrev shopS : St := ⟨6, 10, 7, 0, 0, 1, [rowS 2, rowS 4]⟩

/-- Where the shop's table lies. -/
structure ShopAt (w : World) (b : Nat) (ka : Option Addr) (kc : Nat) (la : Option Addr) (lc : Nat) : Prop where
  c0 : w.cell? ⟨b, 0, none⟩ = some (.int .i64 2)
  c1 : w.cell? ⟨b, 1, none⟩ = some (.int .i64 2)
  c2 : w.cell? ⟨b, 2, none⟩ = some (.int .i64 9)
  c3 : w.cell? ⟨b, 3, none⟩ = some (.slice ka 2 kc)
  c4 : w.cell? ⟨b, 4, none⟩ = some (.int .i64 4)
  c5 : w.cell? ⟨b, 5, none⟩ = some (.int .i64 2)
  c6 : w.cell? ⟨b, 6, none⟩ = some (.int .i64 9)
  c7 : w.cell? ⟨b, 7, none⟩ = some (.slice la 2 lc)
  fz : w.frozen? ⟨b, 3, none⟩ = false
  k1 : KeptAt w (.slice ka 2 kc) [(3, 7), (5, -1)]
  k2 : KeptAt w (.slice la 2 lc) [(3, 7), (5, -1)]

theorem ShopAt.keep {w w' : World} {b : Nat} {ka : Option Addr} {kc : Nat} {la : Option Addr} {lc : Nat} (h : ShopAt w b ka kc la lc) (hk : Keeps w w') : ShopAt w' b ka kc la lc :=
  ⟨cell_kept h.c0 hk, cell_kept h.c1 hk, cell_kept h.c2 hk, cell_kept h.c3 hk, cell_kept h.c4 hk, cell_kept h.c5 hk, cell_kept h.c6 hk, cell_kept h.c7 hk,
    (Below.frozen hk (p := ⟨b, 3, none⟩) (World.block_lt_of_cell? _ _ h.c3)).trans h.fz, h.k1.keep hk, h.k2.keep hk⟩

theorem tab_cells {w : World} {b : Nat} {s t : Ses} {k l : Value} (c0 : w.cell? ⟨b, 0, none⟩ = some (.int .i64 s.client)) (c1 : w.cell? ⟨b, 1, none⟩ = some (.int .i64 s.acked)) (c2 : w.cell? ⟨b, 2, none⟩ = some (.int .i64 s.seen)) (c3 : w.cell? ⟨b, 3, none⟩ = some k)
    (c4 : w.cell? ⟨b, 4, none⟩ = some (.int .i64 t.client)) (c5 : w.cell? ⟨b, 5, none⟩ = some (.int .i64 t.acked)) (c6 : w.cell? ⟨b, 6, none⟩ = some (.int .i64 t.seen)) (c7 : w.cell? ⟨b, 7, none⟩ = some l) (hk : KeptAt w k s.kept) (hl : KeptAt w l t.kept) :
    TabAt w (.slice (some ⟨b, 0, none⟩) 2 2) [s, t] := by
  refine ⟨[k, l], ⟨hk, hl, trivial⟩, rfl, by unfold maxLen; simp, .inr ⟨_, _, rfl, fun j u hu => ?_⟩⟩
  rw [Addr.add_lit, Nat.zero_add]
  match j, hu with
  | 0, hu => simp [sesCells] at hu; subst hu; exact c0
  | 1, hu => simp [sesCells] at hu; subst hu; exact c1
  | 2, hu => simp [sesCells] at hu; subst hu; exact c2
  | 3, hu => simp [sesCells] at hu; subst hu; exact c3
  | 4, hu => simp [sesCells] at hu; subst hu; exact c4
  | 5, hu => simp [sesCells] at hu; subst hu; exact c5
  | 6, hu => simp [sesCells] at hu; subst hu; exact c6
  | 7, hu => simp [sesCells] at hu; subst hu; exact c7

theorem ShopAt.tab {w : World} {b : Nat} {ka : Option Addr} {kc : Nat} {la : Option Addr} {lc : Nat} (h : ShopAt w b ka kc la lc) : TabAt w (.slice (some ⟨b, 0, none⟩) 2 2) [rowS 2, rowS 4] :=
  tab_cells h.c0 h.c1 h.c2 h.c3 h.c4 h.c5 h.c6 h.c7 h.k1 h.k2

theorem begin_c (w : World) : Calls Try.prog 23 #[] w fun e w' => e = .returned (stV ⟨0, 0, 0, 0, 0, 0, []⟩ (.slice none 0 0)) ∧ Keeps w w' := by
  go_enter Try.func23, Try.ntmps23
  go_wp2_with fail
  refine bodyPost_ret (v := stV ⟨0, 0, 0, 0, 0, 0, []⟩ (.slice none 0 0)) ?_ rfl ?_
  · simp [results, Try.results23, go_sem]
  · exact ⟨rfl, (Keeps.refl _).alloc _⟩

set_option maxHeartbeats 2000000 in
theorem shop_c (w : World) : Calls Try.prog 22 #[] w fun e w' => ∃ b ka kc la lc, w.heap.size ≤ b ∧ ShopAt w' b ka kc la lc ∧ (KeptFar b w' (.slice la 2 lc) [(3, 7), (5, -1)]) ∧ e = .returned (stV shopS (.slice (some ⟨b, 0, none⟩) 2 2)) ∧ Keeps w w' := by
  go_enter Try.func22, Try.ntmps22
  go_wp2_with fail
  refine (row_at 2 _).mono ?_
  rintro e w1 ⟨g1, hg1, hl1, k1, rfl, hb⟩
  go_wp2_with fail
  refine (row_at 4 _).mono ?_
  rintro e w2 ⟨g2, hg2, hl2, k2, rfl, hb2⟩
  have hB := hb.trans hb2
  have k1 := k1.keep hb2
  have hg1' : g1 ≠ w.heap.size := by simp at hg1; omega
  have hg2' : g2 ≠ w.heap.size := by have := hb.size; simp at this; omega
  have hl1' : g1 < w2.heap.size := Nat.lt_of_lt_of_le hl1 hb2.size
  have hk2 : Keeps w w2 := ((Keeps.refl _).alloc _).trans hB
  have x0 : w2.cell? ⟨w.heap.size, 0, none⟩ = some (.int .i64 0) := cell_kept (by simp [go_sem]) hB
  have x1 : w2.cell? ⟨w.heap.size, 1, none⟩ = some (.int .i64 0) := cell_kept (by simp [go_sem]) hB
  have x2 : w2.cell? ⟨w.heap.size, 2, none⟩ = some (.int .i64 0) := cell_kept (by simp [go_sem]) hB
  have x3 : w2.cell? ⟨w.heap.size, 3, none⟩ = some (.int .i64 0) := cell_kept (by simp [go_sem]) hB
  have x4 : w2.cell? ⟨w.heap.size, 4, none⟩ = some (.int .i64 0) := cell_kept (by simp [go_sem]) hB
  have x5 : w2.cell? ⟨w.heap.size, 5, none⟩ = some (.int .i64 0) := cell_kept (by simp [go_sem]) hB
  have x6 : w2.cell? ⟨w.heap.size, 6, none⟩ = some (.slice none 0 0) := cell_kept (by simp [go_sem]) hB
  have xf : ∀ i, w2.frozen? ⟨w.heap.size, i, none⟩ = false := fun i => (Below.frozen hB (p := ⟨w.heap.size, i, none⟩) (by simp)).trans (by simp [go_sem])
  have hlt := World.block_lt_of_cell? _ _ x6
  simp only [] at hlt
  clear hb hb2 hB
  have K1 : Hid (KeptFar w.heap.size w2 (.slice (some ⟨g1, 0, none⟩) 2 2) [(3, 7), (5, -1)]) := kept_far_at k1 hg1' hl1'
  have K2 : Hid (KeptFar w.heap.size w2 (.slice (some ⟨g2, 0, none⟩) 2 2) [(3, 7), (5, -1)]) := kept_far_at k2 hg2' hl2
  clear k1 k2
  go_wp2_with fail
  refine bodyPost_ret (v := stV shopS (.slice (some ⟨w2.heap.size, 0, none⟩) 2 2)) ?_ rfl ?_
  · simp [results, Try.results22, go_sem, x0, x1, x2, x3, x4, x5, x6, hlt]
  · have hbt : But w.heap.size w2 ((((((((w2.setCell ⟨w.heap.size, 0, none⟩ (.int .i64 6)).setCell ⟨w.heap.size, 1, none⟩ (.int .i64 10)).setCell ⟨w.heap.size, 2, none⟩ (.int .i64 7)).setCell ⟨w.heap.size, 3, none⟩ (.int .i64 0)).setCell ⟨w.heap.size, 4, none⟩ (.int .i64 0)).setCell ⟨w.heap.size, 5, none⟩ (.int .i64 1)).setCell ⟨w.heap.size, 6, none⟩ (.slice (some ⟨w2.heap.size, 0, none⟩) 2 2))) :=
      (((((((But.refl _ _).set 0 _).set 1 _).set 2 _).set 3 _).set 4 _).set 5 _).set 6 _
    have hbu := hbt.keeps ((Keeps.refl _).alloc (.cells #[.int .i64 2, .int .i64 2, .int .i64 9, .slice (some ⟨g1, 0, none⟩) 2 2, .int .i64 4, .int .i64 2, .int .i64 9, .slice (some ⟨g2, 0, none⟩) 2 2] 48))
    have kk2 := K2.out _ hbu
    refine ⟨w2.heap.size, _, _, _, _, hk2.size, ⟨?_, ?_, ?_, ?_, ?_, ?_, ?_, ?_, ?_, K1.out _ hbu, kk2⟩, kept_far_at kk2 (by omega) (by simp; omega), rfl, But.to hk2 (Nat.le_refl _) hbu⟩
    all_goals simp [go_sem]
end Go.Proofs.Yteabfjpajgakiab

/- States: the reference's StateError. -/
set_option linter.unusedSimpArgs false
set_option linter.unusedVariables false
set_option maxRecDepth 10000
namespace Go.Proofs.Yteabfjpajgakiab
open Go.RowKit

set_option maxHeartbeats 2000000 in
theorem state_error_range (s : St) (x : Value) (w : World) (hT : TabAt w x s.tab) (hi : stIn s = false) :
    Calls Try.prog 11 #[stV s x] w fun e w' => e = .returned (.int .i64 (stErr s)) ∧ Keeps w w' := by
  obtain ⟨a, c, rfl, hlen⟩ := hT.len
  unfold maxLen at hlen
  clear hT
  have HE : Hid (stErr s = 3) := by simp [Hid, stErr, hi]
  generalize s.tab.length = m at *
  cases q1 : inB s.at_ 0 50 with
  | false =>
    clear hi
    go_enter Try.func11, Try.ntmps11
    go_wp2_with (first | (go_at_call 27; refine (within_c _ _ _ _).mono ?_; rintro e w' ⟨rfl, rfl⟩))
    go_ret
    exact ⟨ret_int HE.out.symm, (Keeps.refl _).alloc _⟩
  | true =>
    cases q2 : inB s.clock 0 999 with
    | false =>
      clear hi
      go_enter Try.func11, Try.ntmps11
      go_wp2_with (first | (go_at_call 27; refine (within_c _ _ _ _).mono ?_; rintro e w' ⟨rfl, rfl⟩))
      go_ret
      exact ⟨ret_int HE.out.symm, (Keeps.refl _).alloc _⟩
    | true =>
      have q3 : valsIn s.v0 s.v1 s.v2 s.v3 = false := by simpa [stIn, q1, q2] using hi
      clear hi
      go_enter Try.func11, Try.ntmps11
      go_wp2_with (first | (go_at_call 27; refine (within_c _ _ _ _).mono ?_; rintro e w' ⟨rfl, rfl⟩))
      refine (st_vals_fine s.v0 s.v1 s.v2 s.v3 _).mono ?_
      rintro e w1 ⟨rfl, hb⟩
      have hk1 : Keeps w w1 := ((Keeps.refl _).alloc _).trans hb
      clear hb
      go_wp2_with fail
      go_ret
      exact ⟨ret_int HE.out.symm, hk1⟩

set_option maxHeartbeats 2000000 in
theorem state_error_in (s : St) (x : Value) (w : World) (hT : TabAt w x s.tab) (hi : stIn s = true) :
    Calls Try.prog 11 #[stV s x] w fun e w' => e = .returned (.int .i64 (stErr s)) ∧ Keeps w w' := by
  obtain ⟨a, c, rfl, hlen⟩ := hT.len
  unfold maxLen at hlen
  have HT : Hid (TabAt w (.slice a s.tab.length c) s.tab) := hT
  clear hT
  have hi' := hi
  simp only [stIn, Bool.and_eq_true] at hi'
  obtain ⟨q3, q1, q2⟩ := hi'
  obtain ⟨hc0, hc1⟩ := stIn_clock hi
  have HI : Hid (stIn s = true) := hi
  clear hi
  go_enter Try.func11, Try.ntmps11
  go_wp2_with (first | (go_at_call 27; refine (within_c _ _ _ _).mono ?_; rintro e w' ⟨rfl, rfl⟩))
  refine (st_vals_fine s.v0 s.v1 s.v2 s.v3 _).mono ?_
  rintro e w1 ⟨rfl, hb⟩
  have hk1 : Keeps w w1 := ((Keeps.refl _).alloc _).trans hb
  have x1 : w1.cell? ⟨w.heap.size, 1, none⟩ = some (.int .i64 s.clock) := (Below.cell hb (p := ⟨w.heap.size, 1, none⟩) (by simp)).trans (by simp [go_sem])
  have x6 : w1.cell? ⟨w.heap.size, 6, none⟩ = some (.slice a s.tab.length c) := (Below.cell hb (p := ⟨w.heap.size, 6, none⟩) (by simp)).trans (by simp [go_sem])
  clear hb
  have hlt := World.block_lt_of_cell? _ _ x6
  simp only [] at hlt
  go_wp2_with fail
  refine (table_error s.tab _ _ (HT.out.keep hk1)).mono ?_
  rintro e w2 ⟨rfl, hb⟩
  have hk2 : Keeps w w2 := hk1.trans hb
  have x1 := cell_kept x1 hb
  have x6 := cell_kept x6 hb
  have hlt := Nat.lt_of_lt_of_le hlt hb.size
  clear hb hk1
  cases he : (tabErr s.tab == 0) with
  | false =>
    have he' : (tabErr s.tab != 0) = true := by simp [bne, he]
    have HE : Hid (stErr s = tabErr s.tab) := by simp [Hid, stErr, HI.out, he]
    go_wp2_with fail
    go_ret
    exact ⟨ret_int HE.out.symm, hk2⟩
  | true =>
    have he' : (tabErr s.tab != 0) = false := by simp [bne, he]
    have HS : Hid (stErr s = if seenAll s.clock s.tab then 0 else 1) := by simp [Hid, stErr, HI.out, he]
    clear he HI
    go_wp2_with fail
    go_loopw [4] (fun i wr => ∃ (k : Nat), k ≤ s.tab.length ∧ i = .int .i64 k ∧ Keeps w2 wr ∧ Hid (seenAll s.clock s.tab = seenAll s.clock (s.tab.drop k))) (fun i _ => s.tab.length - (intOf i).toNat)
    case atStart => exact ⟨0, Nat.zero_le _, rfl, Keeps.refl _, rfl⟩
    case round =>
      obtain ⟨k, hk, rfl, hkw, HQ⟩ := hrel
      have x1 := cell_kept x1 hkw
      have x6 := cell_kept x6 hkw
      have hlt := Nat.lt_of_lt_of_le hlt hkw.size
      by_cases hlt2 : k < s.tab.length
      · obtain ⟨b, off, cap', hv, hcell⟩ := (HT.out.keep (hk2.trans hkw)).at hlt2
        injection hv with hv1 hv2 hv3
        subst hv1
        clear hv2 hv3
        have c2 := (hcell k hlt2).2.2.1
        clear hcell
        have HR : Hid (seenAll s.clock s.tab = (inB (s.tab[k]).seen (s.clock - 20) s.clock && seenAll s.clock (s.tab.drop (k + 1)))) := HQ.out.trans (seenAll_at hlt2)
        clear HQ
        generalize s.tab[k] = t at *
        have hne := After.some wr
        have y1 := fun t : After wr => (Below.cell t.h (p := ⟨w.heap.size, 1, none⟩) hlt).trans x1
        have y6 := fun t : After wr => (Below.cell t.h (p := ⟨w.heap.size, 6, none⟩) hlt).trans x6
        have z2 := fun t : After wr => (Below.cell t.h (p := ⟨b, off + k * 4 + 2, none⟩) (World.block_lt_of_cell? _ _ c2)).trans c2
        cases hs : inB t.seen (s.clock - 20) s.clock with
        | false =>
          have HE : Hid (stErr s = 1) := by show _ = _; rw [HS.out, HR.out, hs]; rfl
          go_wp2_with fail
          refine wp_region_after (by kernel_rfl) (by kernel_rfl) ?_
          repeat (first | go_big_quiet_skip | (go_big_quiet_want; go_big_quiet_op; first | go_big_quiet_on | (apply Exists.intro; refine ⟨fun _ => ?_, ?_⟩; (go_at_call 27; exact calls_after_eq (within_c _ _ _ _) (congrArg Value.bool hs)); go_big_quiet_on)))
          refine wpQuiet_nil ?_
          rintro _ ⟨t, rfl⟩
          go_wp2_with fail
          go_ret
          exact ⟨ret_int HE.out.symm, (hk2.trans hkw).trans t.h⟩
        | true =>
          have HN : Hid (seenAll s.clock s.tab = seenAll s.clock (s.tab.drop (k + 1))) := by show _ = _; rw [HR.out, hs]; rfl
          clear HR
          go_wp2_with fail
          refine wp_region_after (by kernel_rfl) (by kernel_rfl) ?_
          repeat (first | go_big_quiet_skip | (go_big_quiet_want; go_big_quiet_op; first | go_big_quiet_on | (apply Exists.intro; refine ⟨fun _ => ?_, ?_⟩; (go_at_call 27; exact calls_after_eq (within_c _ _ _ _) (congrArg Value.bool hs)); go_big_quiet_on)))
          refine wpQuiet_nil ?_
          rintro _ ⟨t, rfl⟩
          go_wp2_with fail
          go_roundw
          case rel => exact ⟨k + 1, by omega, by go_num, hkw.trans t.h, HN⟩
          case measure => simp [intOf]; omega
      · have HE : Hid (stErr s = 0) := by show _ = _; rw [HS.out, HQ.out, List.drop_of_length_le (by omega)]; rfl
        go_wp2_with fail
        go_ret
        exact ⟨ret_int HE.out.symm, hk2.trans hkw⟩

theorem state_error (s : St) (x : Value) (w : World) (hT : TabAt w x s.tab) :
    Calls Try.prog 11 #[stV s x] w fun e w' => e = .returned (.int .i64 (stErr s)) ∧ Keeps w w' := by
  cases h : stIn s with
  | false => exact state_error_range s x w hT h
  | true => exact state_error_in s x w hT h
end Go.Proofs.Yteabfjpajgakiab
