/- All that was there is as it was, but for one block. -/
import Derived.Test.YthjcnbimapgdnabSesH
set_option linter.unusedSimpArgs false
set_option linter.unusedVariables false
namespace Go.Proofs.Ythjcnbimapgdnab
open Go.RowKit

/-- What was there is as it was, but for block b. -/
structure But (b : Nat) (a w : World) : Prop where
  os : w.os = a.os
  tape : w.tape = a.tape
  output : w.output = a.output
  size : a.heap.size ≤ w.heap.size
  block : ∀ k, k < a.heap.size → k ≠ b → w.heap[k]? = a.heap[k]?

theorem But.refl (b : Nat) (w : World) : But b w w := ⟨rfl, rfl, rfl, Nat.le_refl _, fun _ _ _ => rfl⟩
theorem But.trans {b : Nat} {x y z : World} (h : But b x y) (k : But b y z) : But b x z :=
  ⟨k.os.trans h.os, k.tape.trans h.tape, k.output.trans h.output, Nat.le_trans h.size k.size, fun i hi hb => (k.block i (Nat.lt_of_lt_of_le hi h.size) hb).trans (h.block i hi hb)⟩
theorem But.of {b : Nat} {x y : World} (h : Keeps x y) : But b x y := ⟨h.os, h.tape, h.output, h.size, fun k hk _ => h.block k hk⟩
theorem But.keeps {b : Nat} {x y z : World} (h : But b x y) (k : Keeps y z) : But b x z := h.trans (But.of k)
theorem But.set {b : Nat} {x y : World} (h : But b x y) (i : Nat) (u : Value) : But b x (y.setCell ⟨b, i, none⟩ u) :=
  h.trans ⟨rfl, rfl, rfl, by simp [World.setCell], fun k _ hk => Below.heap_setCell _ _ _ _ hk⟩
/-- Where the block is younger than all that was there. -/
theorem But.to {b : Nat} {a x y : World} (ha : Keeps a x) (hb : a.heap.size ≤ b) (h : But b x y) : Keeps a y :=
  Below.trans ha (⟨h.os, h.tape, h.output, h.size, fun k hk => h.block k (Nat.lt_of_lt_of_le hk ha.size) (by omega)⟩ : Below a.heap.size x y)
theorem But.cell {b : Nat} {x y : World} (h : But b x y) {p : Addr} (hp : p.block < x.heap.size) (hb : p.block ≠ b) : y.cell? p = x.cell? p := World.cell?_of_block (w := x) (h.block p.block hp hb)
theorem But.frozen {b : Nat} {x y : World} (h : But b x y) {p : Addr} (hp : p.block < x.heap.size) (hb : p.block ≠ b) : y.frozen? p = x.frozen? p := World.frozen?_of_block (w := x) (h.block p.block hp hb)
theorem But.at {b : Nat} {x y : World} (h : But b x y) {p : Addr} {u : Value} (hu : x.cell? p = some u) (hb : p.block ≠ b) : y.cell? p = some u := (h.cell (World.block_lt_of_cell? _ _ hu) hb).trans hu

/-- It lies apart from block b. -/
def KeptFar (b : Nat) (w : World) (v : Value) (l : List (Int × Int)) : Prop := ∀ w', But b w w' → KeptAt w' v l
def TabFar (b : Nat) (w : World) (v : Value) (L : List Ses) : Prop := ∀ w', But b w w' → TabAt w' v L
theorem KeptFar.kept {b : Nat} {w : World} {v : Value} {l : List (Int × Int)} (h : KeptFar b w v l) : KeptAt w v l := h w (But.refl _ _)
theorem TabFar.tab {b : Nat} {w : World} {v : Value} {L : List Ses} (h : TabFar b w v L) : TabAt w v L := h w (But.refl _ _)
theorem KeptFar.go {b : Nat} {w w' : World} {v : Value} {l : List (Int × Int)} (h : KeptFar b w v l) (k : But b w w') : KeptFar b w' v l := fun _ h' => h _ (k.trans h')
theorem TabFar.go {b : Nat} {w w' : World} {v : Value} {L : List Ses} (h : TabFar b w v L) (k : But b w w') : TabFar b w' v L := fun _ h' => h _ (k.trans h')

/-- What was there ahead of the block. -/
theorem KeptAt.far {b : Nat} {w w' : World} {v : Value} {l : List (Int × Int)} (h : KeptAt w v l) (hk : Keeps w w') (hb : w.heap.size ≤ b) : KeptFar b w' v l := fun _ h' => h.keep (But.to hk hb h')
theorem TabAt.far {b : Nat} {w w' : World} {v : Value} {L : List Ses} (h : TabAt w v L) (hk : Keeps w w') (hb : w.heap.size ≤ b) : TabFar b w' v L := fun _ h' => h.keep (But.to hk hb h')

theorem owns_far {b base : Nat} {w w' : World} {e : TypeId} {size : Nat} {v : Value} {n : Nat} {xs : List Value} (h : w.ownsRow base e size v n xs) (hb : b < base) (hk : But b w w') : w'.ownsRow base e size v n xs := by
  refine h.kept (row := some b) ⟨hk.os, hk.tape, hk.output, hk.size, fun k hk' hne => hk.block k hk' (fun e => hne (by rw [e]))⟩ ?_
  rcases h.2 with ⟨rfl, _⟩ | ⟨g, cap, cur, rfl, hg, _⟩
  · exact .inl rfl
  · right
    simp only [Value.ownBlock, ne_eq, Option.some.injEq]
    omega
theorem KeptsOwn.far {b base : Nat} {w w' : World} (hb : b < base) (hk : But b w w') : ∀ {L : List Ses} {ks : List Value}, KeptsOwn base w L ks → KeptsOwn base w' L ks
  | [], [], _ => trivial
  | _ :: _, _ :: _, h => ⟨owns_far h.1 hb hk, KeptsOwn.far hb hk h.2⟩
theorem OwnTab.but {b base : Nat} {w w' : World} {v : Value} {L : List Ses} (h : OwnTab base w v L) (hb : b < base) (hk : But b w w') : OwnTab base w' v L := by
  obtain ⟨ks, h1, h2⟩ := h
  exact ⟨ks, h1.far hb hk, owns_far h2 hb hk⟩
/-- What is the call's own lies apart from what was there. -/
theorem OwnTab.far {b base : Nat} {w : World} {v : Value} {L : List Ses} (h : OwnTab base w v L) (hb : b < base) : TabFar b w v L := fun _ hk => (h.but hb hk).tab
theorem owns_kept_far {b base : Nat} {w : World} {v : Value} {l : List (Int × Int)} (h : w.ownsRow base 78 2 v l.length (repCells l)) (hb : b < base) : KeptFar b w v l := fun _ hk => RowAt.of_owns (owns_far h hb hk)
/-- At an address elsewhere. -/
theorem kept_far_at {b g o : Nat} {w : World} {n c : Nat} {l : List (Int × Int)} (h : KeptAt w (.slice (some ⟨g, o, none⟩) n c) l) (hb : g ≠ b) (hl : g < w.heap.size) : KeptFar b w (.slice (some ⟨g, o, none⟩) n c) l := by
  intro w' hk
  obtain ⟨h1, h2, h3⟩ := h
  refine ⟨h1, h2, ?_⟩
  rcases h3 with ⟨h3, _⟩ | ⟨a', c', h3, h4⟩
  · cases h3
  · injection h3 with e1 e2 e3
    injection e1 with e1
    subst e1 e2 e3
    refine .inr ⟨_, c, rfl, fun j u hu => ?_⟩
    have := h4 j u hu
    rw [Addr.add_lit] at this ⊢
    exact hk.at this hb
end Go.Proofs.Ythjcnbimapgdnab
