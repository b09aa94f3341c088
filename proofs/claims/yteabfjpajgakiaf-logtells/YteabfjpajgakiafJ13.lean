/- FoE, FoF, FoG, Swap, Pre, StG. -/
import Derived.StillTail
import Derived.Test.YteabfjpajgakiafJ00
import Derived.Test.YteabfjpajgakiafJ02
import Derived.Test.YteabfjpajgakiafJ12
/- fold.All. -/
set_option linter.unusedSimpArgs false
set_option linter.unusedVariables false
set_option maxRecDepth 10000
namespace Go.Proofs.Yteabfjpajgakiaf
open Go.RowKit Go.Shelf
attribute [local go_sem] Oper.semAt_some

/-- A variable of one cell. -/
def OneBox (b : Nat) (v : Value) (w : World) : Prop := w.cell? ⟨b, 0, none⟩ = some v ∧ ∀ i, w.frozen? ⟨b, i, none⟩ = false
theorem OneBox.lt {b : Nat} {v : Value} {w : World} (h : OneBox b v w) : b < w.heap.size := World.block_lt_of_cell? _ _ h.1
theorem OneBox.same {b : Nat} {v : Value} {w w' : World} (h : OneBox b v w) (he : w'.heap[b]? = w.heap[b]?) : OneBox b v w' := ⟨(World.cell?_of_block he).trans h.1, fun i => (World.frozen?_of_block he).trans (h.2 i)⟩
theorem OneBox.set {b : Nat} {v : Value} {w : World} (h : OneBox b v w) (u : Value) : OneBox b u (w.setCell ⟨b, 0, none⟩ u) := ⟨World.cell?_setCell_same _ _ _ h.1, fun i => (World.frozen?_setCell _ _ _ _).trans (h.2 i)⟩

/-- What stands between two rounds of All's loop. -/
structure AllAt (s : St) (L : List Ent) (w w2 : World) (p : Nat → Prop) (bl ba D l n1 : Nat) (r : Loop) (i : Nat) (W : World) : Prop where
  last : ∃ v, StBox bl (runSt s (L.take i)) v W ∧ ∀ W', Spares p W W' → OwnTab w.heap.size W' v (runSt s (L.take i)).tab
  ans : ∃ av, OneBox ba av W ∧ W.ownsRow n1 3 1 av (runAns s (L.take i)).length (intCells (runAns s (L.take i)))
  loop : W.heap[l]? = some (.loop r)
  mark : W.heap[D]? = some (.deferred (some []))
  keeps : Keeps w2 W

theorem AllAt.but {s : St} {L : List Ent} {w w2 : World} {p : Nat → Prop} {bl ba bS D l n1 : Nat} {r : Loop} {i : Nat} {W W' : World} (h : AllAt s L w w2 p bl ba D l n1 r i W) (hb : But bS W W') (h0 : ¬ p bS) (h1 : bl ≠ bS) (h2 : ba ≠ bS) (h3 : D ≠ bS) (h4 : l ≠ bS) (h5 : bS < n1) (h6 : w2.heap.size ≤ bS) :
    AllAt s L w w2 p bl ba D l n1 r i W' := by
  obtain ⟨v, hv, ho⟩ := h.last
  obtain ⟨av, ha, hr⟩ := h.ans
  exact ⟨⟨v, hv.other hb h1, fun W2 h2 => ho W2 ((Spares.but hb h0).trans h2)⟩, ⟨av, ha.same (hb.block ba ha.lt h2), owns_far hr h5 hb⟩, (hb.block l (Array.getElem?_eq_some_iff.1 h.loop).1 h4).trans h.loop, (hb.block D (Array.getElem?_eq_some_iff.1 h.mark).1 h3).trans h.mark, But.to h.keeps h6 hb⟩

theorem But.put (w : World) (b : Nat) (o : Obj) : But b w (w.putObj b o) := ⟨rfl, rfl, rfl, by simp, fun k _ hne => World.putObj_heap_other hne⟩
theorem StBox.slice {b n c : Nat} {s : St} {a : Option Addr} {w : World} (h : StBox b s (.slice a n c) w) : w.cell? ⟨b, 6, none⟩ = some (.slice a n c) := h.c6

end Go.Proofs.Yteabfjpajgakiaf

/- Entries made. -/
set_option linter.unusedSimpArgs false
set_option linter.unusedVariables false
set_option maxRecDepth 10000
namespace Go.Proofs.Yteabfjpajgakiaf
open Go.RowKit

theorem mk_add (n : Int) (w : World) : Calls Try.prog 26 #[.int .i64 n] w fun y w' => y = .returned (.agg #[.int .i64 2, .int .i64 0, .int .i64 0, .int .i64 n]) ∧ Keeps w w' := by
  go_enter Try.func26, Try.ntmps26
  go_wp2_with fail
  refine bodyPost_ret (v := .agg #[.int .i64 2, .int .i64 0, .int .i64 0, .int .i64 n]) ?_ rfl ?_
  · simp [results, Try.results26, go_sem]
  · exact ⟨rfl, (Keeps.refl _).alloc _⟩
theorem mk_call (t c q a k key tk n : Int) (w : World) : Calls Try.prog 25 #[.int .i64 t, .int .i64 c, .int .i64 q, .int .i64 a, .agg #[.int .i64 k, .int .i64 key, .int .i64 tk, .int .i64 n]] w fun y w' => y = .returned (entV ⟨2, t, c, q, a, k, key, tk, n⟩) ∧ Keeps w w' := by
  go_enter Try.func25, Try.ntmps25
  go_wp2_with fail
  refine bodyPost_ret (v := entV ⟨2, t, c, q, a, k, key, tk, n⟩) ?_ rfl ?_
  · simp [results, Try.results25, go_sem]
  · exact ⟨rfl, ((Keeps.refl _).alloc _).alloc _⟩
theorem mk_open (t c : Int) (w : World) : Calls Try.prog 24 #[.int .i64 t, .int .i64 c] w fun y w' => y = .returned (entV ⟨1, t, c, 0, 0, 0, 0, 0, 0⟩) ∧ Keeps w w' := by
  go_enter Try.func24, Try.ntmps24
  go_wp2_with fail
  refine bodyPost_ret (v := entV ⟨1, t, c, 0, 0, 0, 0, 0, 0⟩) ?_ rfl ?_
  · simp [results, Try.results24, go_sem]
  · exact ⟨rfl, (Keeps.refl _).alloc _⟩
end Go.Proofs.Yteabfjpajgakiaf

/- Some entries of a log, as the statements have them. -/
set_option linter.unusedSimpArgs false
set_option linter.unusedVariables false
set_option maxRecDepth 10000
namespace Go.Proofs.Yteabfjpajgakiaf
open Go.RowKit

/-- Entries that have just been laid. -/
theorem EntsAt.new (w : World) (L : List Ent) (hL : L.length ≤ 1000) (c : Nat) : EntsAt (w.alloc (.cells (entCells L).toArray 35)) (.slice (some ⟨w.heap.size, 0, none⟩) L.length c) L := by
  refine ⟨entCells_len L, by unfold maxLen; omega, .inr ⟨_, _, rfl, fun j u hu => ?_⟩⟩
  rw [Addr.add_lit, Nat.zero_add]
  unfold World.cell?
  rw [World.alloc_heap_new]
  simpa using hu

end Go.Proofs.Yteabfjpajgakiaf

/- A region that draws its order, whose order is forced but for two neighbours. -/
set_option linter.unusedSimpArgs false
set_option linter.unusedVariables false
namespace Go.Proofs.Yteabfjpajgakiaf
open Go.RowKit

/-- The first k are done. -/
def upTo (N k : Nat) : Array Bool := Array.ofFn (n := N) fun i => decide (i.1 < k)

theorem upTo_true {N k i : Nat} : (upTo N k).getD i true = false ↔ i < N ∧ k ≤ i := by
  unfold upTo
  by_cases h : i < N
  · simp [h]
  · simp [h]

theorem upTo_false {N k i : Nat} : (upTo N k).getD i false = true ↔ i < N ∧ i < k := by
  unfold upTo
  by_cases h : i < N
  · simp [h]
  · simp [h]

theorem upTo_true' {N k i : Nat} : ((upTo N k).setIfInBounds (k + 1) true).getD i true = false ↔ i < N ∧ k ≤ i ∧ i ≠ k + 1 := by
  unfold upTo
  by_cases h : i < N
  · simp only [Array.getD_eq_getD_getElem?, Array.getElem?_setIfInBounds]
    by_cases h' : k + 1 = i
    · subst h'; simp [h]
    · rw [if_neg h']; simp [h]; omega
  · have h2 : ¬ (i < ((Array.ofFn (n := N) fun i => decide (i.1 < k)).setIfInBounds (k + 1) true).size) := by simpa using h
    simp [Array.getD, h]

theorem upTo_false' {N k i : Nat} : ((upTo N k).setIfInBounds (k + 1) true).getD i false = true ↔ i < N ∧ (i < k ∨ i = k + 1) := by
  unfold upTo
  by_cases h : i < N
  · simp only [Array.getD_eq_getD_getElem?, Array.getElem?_setIfInBounds]
    by_cases h' : k + 1 = i
    · subst h'; simp [h]
    · rw [if_neg h']; simp [h]; omega
  · simp [Array.getD, h]

def waits (ops : Array Oper) (j i : Nat) : Bool := Region.waitsFor .any ops j i

structure Chain (ops : Array Oper) (n : Nat) : Prop where
  one : 1 ≤ n
  size : n + 2 ≤ ops.size
  skip : waits ops (n + 1) (n - 1) = true
  both : n + 2 < ops.size → waits ops (n + 2) n = true
  prev : ∀ t, t < ops.size → t ≠ 0 → t ≠ n + 1 → waits ops t (t - 1) = true
  back : ∀ t o, ops[t]? = some o → ∀ e ∈ o.after, Region.binds .any e = true → e.on < t ∧ (t = n + 1 → e.on ≠ n)

theorem waits_of {ops : Array Oper} {j i : Nat} {o : Oper} (h : waits ops j i = true) (ho : ops[j]? = some o) {listed : Array Bool} (ha : ∀ e ∈ o.after, Region.binds .any e = true → listed.getD e.on false = true) : listed.getD i false = true := by
  obtain ⟨oj, hj, e, he, hb, rfl⟩ := Region.waitsFor_spec h
  rw [ho] at hj
  cases hj
  exact ha e he hb

theorem size_of {ops : Array Oper} {i : Nat} {o : Oper} (h : ops[i]? = some o) : i < ops.size := by
  rcases Nat.lt_or_ge i ops.size with h' | h'
  · exact h'
  · rw [Array.getElem?_eq_none h'] at h; cases h

/-- Elsewhere one alone may come up. -/
theorem Chain.only {ops : Array Oper} {n : Nat} (C : Chain ops n) {k i : Nat} (hk : k ≠ n) (hi : i ∈ Region.ready .any ops (upTo ops.size k)) : i = k := by
  obtain ⟨h1, o, ho, ha⟩ := mem_ready.1 hi
  obtain ⟨hN, hki⟩ := upTo_true.1 h1
  by_cases hn : i = n + 1
  · have := (upTo_false.1 (waits_of (i := n - 1) (by rw [hn]; exact C.skip) ho ha)).2
    have := C.one
    omega
  · by_cases h0 : i = 0
    · omega
    · have := (upTo_false.1 (waits_of (C.prev i hN h0 hn) ho ha)).2
      omega

theorem Chain.first {ops : Array Oper} {n : Nat} (C : Chain ops n) {k : Nat} (hk : k < ops.size) : k ∈ Region.ready .any ops (upTo ops.size k) := by
  refine mem_ready.2 ⟨upTo_true.2 ⟨hk, Nat.le_refl _⟩, ops[k], by simp [hk], fun e he hb => upTo_false.2 ?_⟩
  have := (C.back k ops[k] (by simp [hk]) e he hb).1
  omega

theorem Chain.other {ops : Array Oper} {n : Nat} (C : Chain ops n) {i : Nat} (hi : i ∈ Region.ready .any ops ((upTo ops.size n).setIfInBounds (n + 1) true)) : i = n := by
  obtain ⟨h1, o, ho, ha⟩ := mem_ready.1 hi
  obtain ⟨hN, hki, hne⟩ := upTo_true'.1 h1
  by_cases h0 : i = 0
  · omega
  · by_cases h2 : i = n + 2
    · have := (upTo_false'.1 (waits_of (i := n) (by rw [h2]; exact C.both (by omega)) ho ha)).2
      omega
    · have := (upTo_false'.1 (waits_of (C.prev i hN h0 hne) ho ha)).2
      omega

theorem Chain.done {ops : Array Oper} {k : Nat} (hk : ops.size ≤ k) : Region.ready .any ops (upTo ops.size k) = [] := by
  apply List.eq_nil_iff_forall_not_mem.2
  intro i hi
  obtain ⟨h1, _⟩ := mem_ready.1 hi
  obtain ⟨hN, hki⟩ := upTo_true.1 h1
  omega

end Go.Proofs.Yteabfjpajgakiaf

/- A region that draws its order: stretches of it whose order is forced are walked as the text has them. -/
set_option linter.unusedSimpArgs false
set_option linter.unusedVariables false
namespace Go.Proofs.Yteabfjpajgakiaf
open Go.RowKit

end Go.Proofs.Yteabfjpajgakiaf

/- States: the law's shop, Begin. -/
set_option linter.unusedSimpArgs false
set_option linter.unusedVariables false
set_option maxRecDepth 10000
namespace Go.Proofs.Yteabfjpajgakiaf
open Go.RowKit

/-- Where the shop's table lies. -/
structure ShopAt (w : World) (b : Nat) (ka : Option Addr) (kc : Nat) (la : Option Addr) (lc : Nat) : Prop where
  c0 : w.cell? ⟨b, 0, none⟩ = some (.int .i64 2)
  c1 : w.cell? ⟨b, 1, none⟩ = some (.int .i64 2)
  c2 : w.cell? ⟨b, 2, none⟩ = some (.int .i64 9)
  c3 : w.cell? ⟨b, 3, none⟩ = some (.slice ka 2 kc)
  c4 : w.cell? ⟨b, 4, none⟩ = some (.int .i64 4)
  c5 : w.cell? ⟨b, 5, none⟩ = some (.int .i64 2)
  c6 : w.cell? ⟨b, 6, none⟩ = some (.int .i64 9)
  c7 : w.cell? ⟨b, 7, none⟩ = some (.slice la 2 lc)
  fz : w.frozen? ⟨b, 3, none⟩ = false
  k1 : KeptAt w (.slice ka 2 kc) [(3, 7), (5, -1)]
  k2 : KeptAt w (.slice la 2 lc) [(3, 7), (5, -1)]

theorem ShopAt.keep {w w' : World} {b : Nat} {ka : Option Addr} {kc : Nat} {la : Option Addr} {lc : Nat} (h : ShopAt w b ka kc la lc) (hk : Keeps w w') : ShopAt w' b ka kc la lc :=
  ⟨cell_kept h.c0 hk, cell_kept h.c1 hk, cell_kept h.c2 hk, cell_kept h.c3 hk, cell_kept h.c4 hk, cell_kept h.c5 hk, cell_kept h.c6 hk, cell_kept h.c7 hk,
    (Below.frozen hk (p := ⟨b, 3, none⟩) (World.block_lt_of_cell? _ _ h.c3)).trans h.fz, h.k1.keep hk, h.k2.keep hk⟩

theorem tab_cells {w : World} {b : Nat} {s t : Ses} {k l : Value} (c0 : w.cell? ⟨b, 0, none⟩ = some (.int .i64 s.client)) (c1 : w.cell? ⟨b, 1, none⟩ = some (.int .i64 s.acked)) (c2 : w.cell? ⟨b, 2, none⟩ = some (.int .i64 s.seen)) (c3 : w.cell? ⟨b, 3, none⟩ = some k)
    (c4 : w.cell? ⟨b, 4, none⟩ = some (.int .i64 t.client)) (c5 : w.cell? ⟨b, 5, none⟩ = some (.int .i64 t.acked)) (c6 : w.cell? ⟨b, 6, none⟩ = some (.int .i64 t.seen)) (c7 : w.cell? ⟨b, 7, none⟩ = some l) (hk : KeptAt w k s.kept) (hl : KeptAt w l t.kept) :
    TabAt w (.slice (some ⟨b, 0, none⟩) 2 2) [s, t] := by
  refine ⟨[k, l], ⟨hk, hl, trivial⟩, rfl, by unfold maxLen; simp, .inr ⟨_, _, rfl, fun j u hu => ?_⟩⟩
  rw [Addr.add_lit, Nat.zero_add]
  match j, hu with
  | 0, hu => simp [sesCells] at hu; subst hu; exact c0
  | 1, hu => simp [sesCells] at hu; subst hu; exact c1
  | 2, hu => simp [sesCells] at hu; subst hu; exact c2
  | 3, hu => simp [sesCells] at hu; subst hu; exact c3
  | 4, hu => simp [sesCells] at hu; subst hu; exact c4
  | 5, hu => simp [sesCells] at hu; subst hu; exact c5
  | 6, hu => simp [sesCells] at hu; subst hu; exact c6
  | 7, hu => simp [sesCells] at hu; subst hu; exact c7

theorem ShopAt.tab {w : World} {b : Nat} {ka : Option Addr} {kc : Nat} {la : Option Addr} {lc : Nat} (h : ShopAt w b ka kc la lc) : TabAt w (.slice (some ⟨b, 0, none⟩) 2 2) [rowS 2, rowS 4] :=
  tab_cells h.c0 h.c1 h.c2 h.c3 h.c4 h.c5 h.c6 h.c7 h.k1 h.k2

end Go.Proofs.Yteabfjpajgakiaf
