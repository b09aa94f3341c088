/- SesF0, SesH, But, OpA, OpB, ApA, LoA, LoB, OpenStr, Swap, Pre, Grow. -/
import Derived.Deep.AppendLies
import Derived.Laws.IdiomStrings
import Derived.Laws.BitsAllLaws
import Derived.StillTail
import Derived.Deep.RegionHeld3
import Derived.Test.YteabfjpajgakiadJ00
import Derived.Test.YteabfjpajgakiadJ01
/- The reference's find and FindOf. -/
set_option linter.unusedSimpArgs false
set_option linter.unusedVariables false
namespace Go.Proofs.Yteabfjpajgakiad
open Go.RowKit

end Go.Proofs.Yteabfjpajgakiad

/- sess.those: the sessions that are wanted, in memory of their own. -/
set_option linter.unusedSimpArgs false
set_option linter.unusedVariables false
namespace Go.Proofs.Yteabfjpajgakiad
open Go.RowKit

/-- The answers that are kept lie in rows of the call's own. -/
def KeptsOwn (base : Nat) (w : World) : List Ses → List Value → Prop
  | [], [] => True
  | s :: r, k :: ks => w.ownsRow base 66 2 k s.kept.length (repCells s.kept) ∧ KeptsOwn base w r ks
  | _, _ => False
/-- A table of the call's own. -/
def OwnTab (base : Nat) (w : World) (v : Value) (L : List Ses) : Prop := ∃ ks, KeptsOwn base w L ks ∧ w.ownsRow base 59 4 v L.length (sesCells L ks)

theorem owns_apart {w : World} {base base' : Nat} {e e' : TypeId} {size size' : Nat} {v v' : Value} {n n' : Nat} {xs xs' : List Value} (h : w.ownsRow base e size v n xs) (h' : w.ownsRow base' e' size' v' n' xs') (hne : e ≠ e') : v.ownBlock = none ∨ v.ownBlock ≠ v'.ownBlock := by
  rcases h.2 with ⟨rfl, _⟩ | ⟨g, cap, cur, rfl, _, hg, _⟩
  · exact .inl rfl
  · rcases h'.2 with ⟨rfl, _⟩ | ⟨g', cap', cur', rfl, _, hg', _⟩
    · right; simp [Value.ownBlock]
    · right
      simp only [Value.ownBlock]
      intro e1
      injection e1 with e1
      subst e1
      rw [hg] at hg'
      simp at hg'
      exact hne hg'.2

theorem KeptsOwn.kept {base : Nat} {w w' : World} {row : Value} {m size : Nat} {ys : List Value} (hrow : w.ownsRow base 59 size row m ys) (hg : w.grownBy w' row.ownBlock) : ∀ {L : List Ses} {ks : List Value}, KeptsOwn base w L ks → KeptsOwn base w' L ks
  | [], [], _ => trivial
  | _ :: _, _ :: _, h => ⟨h.1.kept hg (owns_apart h.1 hrow (by decide)), KeptsOwn.kept hrow hg h.2⟩

theorem owns_keep {w w' : World} {base : Nat} {e : TypeId} {size : Nat} {v : Value} {n : Nat} {xs : List Value} (h : w.ownsRow base e size v n xs) (hk : Keeps w w') : w'.ownsRow base e size v n xs := by
  refine h.kept (row := none) ⟨hk.os, hk.tape, hk.output, hk.size, fun k hk' _ => hk.block k hk'⟩ ?_
  cases hv : v.ownBlock <;> simp

theorem KeptsOwn.keep {base : Nat} {w w' : World} (hk : Keeps w w') : ∀ {L : List Ses} {ks : List Value}, KeptsOwn base w L ks → KeptsOwn base w' L ks
  | [], [], _ => trivial
  | _ :: _, _ :: _, h => ⟨owns_keep h.1 hk, KeptsOwn.keep hk h.2⟩
theorem OwnTab.keep {base : Nat} {w w' : World} {v : Value} {L : List Ses} (h : OwnTab base w v L) (hk : Keeps w w') : OwnTab base w' v L := by
  obtain ⟨ks, h1, h2⟩ := h
  exact ⟨ks, h1.keep hk, owns_keep h2 hk⟩
theorem KeptsOwn.at {base : Nat} {w : World} : ∀ {L : List Ses} {ks : List Value}, KeptsOwn base w L ks → KeptsAt w L ks
  | [], [], _ => trivial
  | _ :: _, _ :: _, h => ⟨RowAt.of_owns h.1, KeptsOwn.at h.2⟩
theorem OwnTab.tab {base : Nat} {w : World} {v : Value} {L : List Ses} (h : OwnTab base w v L) : TabAt w v L := by
  obtain ⟨ks, h1, h2⟩ := h
  exact ⟨ks, h1.at, RowAt.of_owns h2⟩
theorem KeptsOwn.base {base base' : Nat} {w : World} (hb : base' ≤ base) : ∀ {L : List Ses} {ks : List Value}, KeptsOwn base w L ks → KeptsOwn base' w L ks
  | [], [], _ => trivial
  | _ :: _, _ :: _, h => ⟨owns_base h.1 hb, KeptsOwn.base hb h.2⟩
theorem OwnTab.base {base base' : Nat} {w : World} {v : Value} {L : List Ses} (h : OwnTab base w v L) (hb : base' ≤ base) : OwnTab base' w v L := by
  obtain ⟨ks, h1, h2⟩ := h
  exact ⟨ks, h1.base hb, owns_base h2 hb⟩
theorem OwnTab.nil (base : Nat) (w : World) : OwnTab base w (.slice none 0 0) [] := ⟨[], trivial, World.ownsRow_nil _ _ _ _⟩

theorem sesCells_append : ∀ (L M : List Ses) (ks ms : List Value), ks.length = L.length → sesCells (L ++ M) (ks ++ ms) = sesCells L ks ++ sesCells M ms
  | [], M, [], ms, _ => rfl
  | [], M, _ :: _, ms, h => by simp at h
  | _ :: _, M, [], ms, h => by simp at h
  | s :: L, M, k :: ks, ms, h => by simp [sesCells, sesCells_append L M ks ms (by simpa using h)]
theorem KeptsOwn.append {base : Nat} {w : World} : ∀ {L M : List Ses} {ks ms : List Value}, KeptsOwn base w L ks → KeptsOwn base w M ms → KeptsOwn base w (L ++ M) (ks ++ ms)
  | [], _, [], _, _, h => h
  | _ :: _, _, _ :: _, _, h, h' => ⟨h.1, KeptsOwn.append h.2 h'⟩
theorem KeptsOwn.len {base : Nat} {w : World} {L : List Ses} {ks : List Value} (h : KeptsOwn base w L ks) : ks.length = L.length := h.at.len

theorem sesCells_one (L : List Ses) : ∀ (ks : List Value), (∀ k ∈ ks, k.oneCell' = true) → ∀ u ∈ sesCells L ks, u.oneCell' = true := by
  induction L with
  | nil => intro ks _ u h; simp [sesCells] at h
  | cons s r ih =>
    intro ks hk u h
    cases ks with
    | nil => simp [sesCells] at h
    | cons k ks =>
      simp only [sesCells, List.mem_cons] at h
      rcases h with rfl | rfl | rfl | rfl | h
      · rfl
      · rfl
      · rfl
      · exact hk _ (List.mem_cons_self ..)
      · exact ih ks (fun k' h' => hk k' (List.mem_cons_of_mem _ h')) u h
theorem KeptsAt.one {w : World} : ∀ {L : List Ses} {ks : List Value}, KeptsAt w L ks → ∀ k ∈ ks, k.oneCell' = true
  | [], [], _, k, h => by cases h
  | _ :: _, k0 :: ks, h, k, hm => by
    rcases List.mem_cons.1 hm with rfl | hm
    · obtain ⟨a, cap, rfl, _⟩ := h.1.len; rfl
    · exact KeptsAt.one h.2 k hm

/-- A row that has just been laid, with one session in it. -/
theorem row_one (w : World) (s : Ses) (k : Value) : RowAt (w.alloc (.cells #[.int .i64 s.client, .int .i64 s.acked, .int .i64 s.seen, k] 59)) 4 (.slice (some ⟨w.heap.size, 0, none⟩) 1 1) [s].length (sesCells [s] [k]) := by
  refine ⟨rfl, by unfold maxLen; simp, .inr ⟨⟨w.heap.size, 0, none⟩, 1, rfl, fun j u hu => ?_⟩⟩
  rw [Addr.add_lit, Nat.zero_add, World.cell?_alloc_new]
  simpa [sesCells] using hu

end Go.Proofs.Yteabfjpajgakiad

/- All that was there is as it was, but for one block. -/
set_option linter.unusedSimpArgs false
set_option linter.unusedVariables false
namespace Go.Proofs.Yteabfjpajgakiad
open Go.RowKit

/-- What was there is as it was, but for block b. -/
structure But (b : Nat) (a w : World) : Prop where
  os : w.os = a.os
  tape : w.tape = a.tape
  output : w.output = a.output
  size : a.heap.size ≤ w.heap.size
  block : ∀ k, k < a.heap.size → k ≠ b → w.heap[k]? = a.heap[k]?

theorem But.refl (b : Nat) (w : World) : But b w w := ⟨rfl, rfl, rfl, Nat.le_refl _, fun _ _ _ => rfl⟩
theorem But.trans {b : Nat} {x y z : World} (h : But b x y) (k : But b y z) : But b x z :=
  ⟨k.os.trans h.os, k.tape.trans h.tape, k.output.trans h.output, Nat.le_trans h.size k.size, fun i hi hb => (k.block i (Nat.lt_of_lt_of_le hi h.size) hb).trans (h.block i hi hb)⟩
theorem But.of {b : Nat} {x y : World} (h : Keeps x y) : But b x y := ⟨h.os, h.tape, h.output, h.size, fun k hk _ => h.block k hk⟩
theorem But.keeps {b : Nat} {x y z : World} (h : But b x y) (k : Keeps y z) : But b x z := h.trans (But.of k)
theorem But.set {b : Nat} {x y : World} (h : But b x y) (i : Nat) (u : Value) : But b x (y.setCell ⟨b, i, none⟩ u) :=
  h.trans ⟨rfl, rfl, rfl, by simp [World.setCell], fun k _ hk => Below.heap_setCell _ _ _ _ hk⟩
/-- Where the block is younger than all that was there. -/
theorem But.to {b : Nat} {a x y : World} (ha : Keeps a x) (hb : a.heap.size ≤ b) (h : But b x y) : Keeps a y :=
  Below.trans ha (⟨h.os, h.tape, h.output, h.size, fun k hk => h.block k (Nat.lt_of_lt_of_le hk ha.size) (by omega)⟩ : Below a.heap.size x y)
theorem But.cell {b : Nat} {x y : World} (h : But b x y) {p : Addr} (hp : p.block < x.heap.size) (hb : p.block ≠ b) : y.cell? p = x.cell? p := World.cell?_of_block (w := x) (h.block p.block hp hb)
theorem But.frozen {b : Nat} {x y : World} (h : But b x y) {p : Addr} (hp : p.block < x.heap.size) (hb : p.block ≠ b) : y.frozen? p = x.frozen? p := World.frozen?_of_block (w := x) (h.block p.block hp hb)
theorem But.at {b : Nat} {x y : World} (h : But b x y) {p : Addr} {u : Value} (hu : x.cell? p = some u) (hb : p.block ≠ b) : y.cell? p = some u := (h.cell (World.block_lt_of_cell? _ _ hu) hb).trans hu

/-- It lies apart from block b. -/
def KeptFar (b : Nat) (w : World) (v : Value) (l : List (Int × Int)) : Prop := ∀ w', But b w w' → KeptAt w' v l
def TabFar (b : Nat) (w : World) (v : Value) (L : List Ses) : Prop := ∀ w', But b w w' → TabAt w' v L
theorem KeptFar.kept {b : Nat} {w : World} {v : Value} {l : List (Int × Int)} (h : KeptFar b w v l) : KeptAt w v l := h w (But.refl _ _)
theorem TabFar.tab {b : Nat} {w : World} {v : Value} {L : List Ses} (h : TabFar b w v L) : TabAt w v L := h w (But.refl _ _)
theorem KeptFar.go {b : Nat} {w w' : World} {v : Value} {l : List (Int × Int)} (h : KeptFar b w v l) (k : But b w w') : KeptFar b w' v l := fun _ h' => h _ (k.trans h')
theorem TabFar.go {b : Nat} {w w' : World} {v : Value} {L : List Ses} (h : TabFar b w v L) (k : But b w w') : TabFar b w' v L := fun _ h' => h _ (k.trans h')

/-- What was there ahead of the block. -/
theorem KeptAt.far {b : Nat} {w w' : World} {v : Value} {l : List (Int × Int)} (h : KeptAt w v l) (hk : Keeps w w') (hb : w.heap.size ≤ b) : KeptFar b w' v l := fun _ h' => h.keep (But.to hk hb h')
theorem TabAt.far {b : Nat} {w w' : World} {v : Value} {L : List Ses} (h : TabAt w v L) (hk : Keeps w w') (hb : w.heap.size ≤ b) : TabFar b w' v L := fun _ h' => h.keep (But.to hk hb h')

theorem owns_far {b base : Nat} {w w' : World} {e : TypeId} {size : Nat} {v : Value} {n : Nat} {xs : List Value} (h : w.ownsRow base e size v n xs) (hb : b < base) (hk : But b w w') : w'.ownsRow base e size v n xs := by
  refine h.kept (row := some b) ⟨hk.os, hk.tape, hk.output, hk.size, fun k hk' hne => hk.block k hk' (fun e => hne (by rw [e]))⟩ ?_
  rcases h.2 with ⟨rfl, _⟩ | ⟨g, cap, cur, rfl, hg, _⟩
  · exact .inl rfl
  · right
    simp only [Value.ownBlock, ne_eq, Option.some.injEq]
    omega
theorem KeptsOwn.far {b base : Nat} {w w' : World} (hb : b < base) (hk : But b w w') : ∀ {L : List Ses} {ks : List Value}, KeptsOwn base w L ks → KeptsOwn base w' L ks
  | [], [], _ => trivial
  | _ :: _, _ :: _, h => ⟨owns_far h.1 hb hk, KeptsOwn.far hb hk h.2⟩
theorem OwnTab.but {b base : Nat} {w w' : World} {v : Value} {L : List Ses} (h : OwnTab base w v L) (hb : b < base) (hk : But b w w') : OwnTab base w' v L := by
  obtain ⟨ks, h1, h2⟩ := h
  exact ⟨ks, h1.far hb hk, owns_far h2 hb hk⟩
/-- What is the call's own lies apart from what was there. -/
theorem OwnTab.far {b base : Nat} {w : World} {v : Value} {L : List Ses} (h : OwnTab base w v L) (hb : b < base) : TabFar b w v L := fun _ hk => (h.but hb hk).tab
/-- At an address elsewhere. -/
theorem kept_far_at {b g o : Nat} {w : World} {n c : Nat} {l : List (Int × Int)} (h : KeptAt w (.slice (some ⟨g, o, none⟩) n c) l) (hb : g ≠ b) (hl : g < w.heap.size) : KeptFar b w (.slice (some ⟨g, o, none⟩) n c) l := by
  intro w' hk
  obtain ⟨h1, h2, h3⟩ := h
  refine ⟨h1, h2, ?_⟩
  rcases h3 with ⟨h3, _⟩ | ⟨a', c', h3, h4⟩
  · cases h3
  · injection h3 with e1 e2 e3
    injection e1 with e1
    subst e1 e2 e3
    refine .inr ⟨_, c, rfl, fun j u hu => ?_⟩
    have := h4 j u hu
    rw [Addr.add_lit] at this ⊢
    exact hk.at this hb
end Go.Proofs.Yteabfjpajgakiad

/- Leaf contracts of package op. -/
namespace Go.Proofs.Yteabfjpajgakiad
open Go.RowKit

end Go.Proofs.Yteabfjpajgakiad

/- Contracts of package op: inBounds, Check. -/
namespace Go.Proofs.Yteabfjpajgakiad
open Go.RowKit

end Go.Proofs.Yteabfjpajgakiad

/- Entries: apply.inBounds, apply.Check. -/
set_option linter.unusedSimpArgs false
set_option linter.unusedVariables false
set_option maxRecDepth 10000
namespace Go.Proofs.Yteabfjpajgakiad
open Go.RowKit

end Go.Proofs.Yteabfjpajgakiad

/- Entries as bytes (plain). -/
set_option linter.unusedSimpArgs false
set_option linter.unusedVariables false
set_option maxRecDepth 10000
namespace Go.Proofs.Yteabfjpajgakiad
open Go.RowKit

/-- A number as a byte. -/
def b8 (n : Int) : UInt8 := UInt8.ofNat (n % 256).toNat
def i8 (b : UInt8) : Int := (b.toNat : Int)
theorem i8_lo (b : UInt8) : 0 ≤ i8 b := Int.natCast_nonneg _
theorem i8_hi (b : UInt8) : i8 b < 256 := by
  have := b.toNat_lt
  unfold i8
  omega
theorem i8_b8 {n : Int} (h0 : 0 ≤ n) (h1 : n < 256) : i8 (b8 n) = n := by
  unfold i8 b8
  rw [UInt8.toNat_ofNat']
  omega
theorem b8_i8 (b : UInt8) : b8 (i8 b) = b := by
  have h := b.toNat_lt
  apply UInt8.toNat_inj.1
  unfold i8 b8
  rw [UInt8.toNat_ofNat']
  omega
theorem b8_mod (n : Int) : b8 (n % 256) = b8 n := by
  unfold b8
  rw [Int.emod_emod_of_dvd _ (Int.dvd_refl _)]
def wide (n : Int) : List UInt8 := [b8 (n / 256), b8 n]
theorem wide_two (h l : UInt8) : wide (i8 h * 256 + i8 l) = [h, l] := by
  have h0 := i8_lo h; have h1 := i8_hi h; have l0 := i8_lo l; have l1 := i8_hi l
  unfold wide
  have e1 : (i8 h * 256 + i8 l) / 256 = i8 h := by omega
  have e2 : b8 (i8 h * 256 + i8 l) = b8 (i8 l) := by
    rw [← b8_mod]
    congr 1
    omega
  rw [e1, e2, b8_i8, b8_i8]
theorem two_wide {n : Int} (h0 : 0 ≤ n) (h1 : n < 65536) : i8 (b8 (n / 256)) * 256 + i8 (b8 n) = n := by
  have e2 : b8 n = b8 (n % 256) := (b8_mod n).symm
  rw [i8_b8 (by omega) (by omega), e2, i8_b8 (by omega) (by omega)]
  omega
/-- What the reference hears: what is not there is 0. -/
def nth (l : List UInt8) (i : Nat) : UInt8 := l.getD i 0
end Go.Proofs.Yteabfjpajgakiad

/- Bytes in memory; octet.Small, octet.Wide. -/
set_option linter.unusedSimpArgs false
set_option linter.unusedVariables false
set_option maxRecDepth 10000
namespace Go.Proofs.Yteabfjpajgakiad
open Go.RowKit

def byCells (B : List UInt8) : List Value := B.map fun b => .int .u8 (i8 b)
def bt (l : List UInt8) : ByteArray := ⟨l.toArray⟩
theorem wrap_b8 (n : Int) : IntKind.u8.wrap n = i8 (b8 n) := by
  rw [IntKind.wrap_u8', ← b8_mod, i8_b8 (by omega) (by omega)]
def BOwn (base : Nat) (w : World) (v : Value) (B : List UInt8) : Prop := w.ownsRow base 5 1 v B.length (byCells B)
theorem BOwn.nil {base : Nat} {w : World} : BOwn base w (.slice none 0 0) [] := ⟨rfl, .inl ⟨rfl, rfl⟩⟩
theorem byCells_append (a b : List UInt8) : byCells (a ++ b) = byCells a ++ byCells b := List.map_append ..
theorem byCells_len (a : List UInt8) : (byCells a).length = a.length := List.length_map ..
theorem byCells_one (a : List UInt8) : ∀ u ∈ byCells a, u.oneCell' = true := by
  intro u hu
  obtain ⟨b, _, rfl⟩ := List.mem_map.1 hu
  rfl
theorem byCells_at {a : List UInt8} {j : Nat} (h : j < a.length) : (byCells a)[j]? = some (.int .u8 (i8 a[j])) := by
  unfold byCells
  rw [List.getElem?_map, List.getElem?_eq_getElem h]
  rfl
/-- Only what v has, and what is new, is written; and v' is where v was, or is new. -/
structure GrowsTo (w w' : World) (v v' : Value) : Prop where
  grown : w.grownBy w' v.ownBlock
  lies : ∀ k, v'.ownBlock = some k → v.ownBlock = some k ∨ w.heap.size ≤ k
theorem GrowsTo.refl (w : World) (v : Value) : GrowsTo w w v v := ⟨⟨rfl, rfl, rfl, Nat.le_refl _, fun _ _ _ => rfl⟩, fun _ h => .inl h⟩
theorem GrowsTo.trans {w1 w2 w3 : World} {a b c : Value} (h : GrowsTo w1 w2 a b) (k : GrowsTo w2 w3 b c) : GrowsTo w1 w3 a c := by
  refine ⟨⟨k.grown.os.trans h.grown.os, k.grown.tape.trans h.grown.tape, k.grown.output.trans h.grown.output, Nat.le_trans h.grown.size k.grown.size, fun i hi hne => ?_⟩, fun i hi => ?_⟩
  · rw [k.grown.block i (Nat.lt_of_lt_of_le hi h.grown.size) (fun e => ?_), h.grown.block i hi hne]
    rcases h.lies i e.symm with h1 | h1
    · exact hne h1.symm
    · omega
  · rcases k.lies i hi with h1 | h1
    · exact h.lies i h1
    · exact .inr (Nat.le_trans h.grown.size h1)
theorem GrowsTo.of {w w' : World} (v : Value) (h : Keeps w w') : GrowsTo w w' v v := ⟨⟨h.os, h.tape, h.output, h.size, fun k hk _ => h.block k hk⟩, fun _ h => .inl h⟩
theorem BOwn.own {base : Nat} {w : World} {v : Value} {B : List UInt8} (h : BOwn base w v B) {k : Nat} (hk : v.ownBlock = some k) : base ≤ k ∧ k < w.heap.size := by
  rcases h.2 with ⟨rfl, _⟩ | ⟨g, cap, cur, rfl, hb, hg, _⟩
  · cases hk
  · have e : g = k := by simpa [Value.ownBlock] using hk
    subst e
    refine ⟨hb, ?_⟩
    rcases Nat.lt_or_ge g w.heap.size with hlt | hge
    · exact hlt
    · rw [Array.getElem?_eq_none hge] at hg; cases hg
theorem GrowsTo.below {base : Nat} {w w' : World} {v v' : Value} {B : List UInt8} (h : GrowsTo w w' v v') (hv : BOwn base w v B) (hb : base ≤ w.heap.size) : Below base w w' :=
  ⟨h.grown.os, h.grown.tape, h.grown.output, h.grown.size, fun k hk => h.grown.block k (Nat.lt_of_lt_of_le hk hb) (fun e => by have := (hv.own e.symm).1; omega)⟩
theorem BOwn.keep {base : Nat} {w w' : World} {v : Value} {B : List UInt8} (h : BOwn base w v B) (hk : Keeps w w') : BOwn base w' v B := by
  rcases h.2 with ⟨rfl, h0⟩ | ⟨g, cap, cur, rfl, hb, hg, h1⟩
  · exact ⟨h.1, .inl ⟨rfl, h0⟩⟩
  · exact ⟨h.1, .inr ⟨g, cap, cur, rfl, hb, by rw [hk.block g (h.own rfl).2]; exact hg, h1⟩⟩
theorem BOwn.len {base : Nat} {w : World} {v : Value} {B : List UInt8} (h : BOwn base w v B) : ∃ a c, v = .slice a B.length c := by
  rcases h.2 with ⟨rfl, h0⟩ | ⟨g, cap, cur, rfl, _⟩
  · exact ⟨_, _, by rw [h0]⟩
  · exact ⟨_, _, rfl⟩
theorem infoByte : ∃ i, Try.prog.info? 5 = some i ∧ i.zero = some (.int .u8 0) ∧ i.size = 1 ∧ i.bytes = 1 := ⟨_, rfl, rfl, rfl, rfl⟩
theorem run_append_bytes (w : World) (base : Nat) (hb : base ≤ w.heap.size) (ty : TypeId) (v : Value) (B : List UInt8) (hown : BOwn base w v B) (ad : Addr) (c : Nat) (N : List UInt8) (hN : ∀ j u, (byCells N)[j]? = some u → w.cell? (ad.add j) = some u) (hm : 0 < N.length) (hlen : B.length + N.length ≤ 100000) :
    ∃ g cap w', (Builtin.append_ #[55, 55] ty #[v, .slice (some ad) N.length c]).run Try.prog w = .ok (.slice (some ⟨g, 0, none⟩) (B ++ N).length cap) w' ∧ BOwn base w' (.slice (some ⟨g, 0, none⟩) (B ++ N).length cap) (B ++ N) ∧ GrowsTo w w' v (.slice (some ⟨g, 0, none⟩) (B ++ N).length cap) := by
  obtain ⟨i, hi, hz, hs, hby⟩ := infoByte
  obtain ⟨g, cap, w', h1, h2, h3, h4, h5⟩ := run_append_lies (P := Try.prog) w 55 ty base 5 i _ 1 1 Try.underlying55 hi hz hs hby rfl (by decide) v B.length (byCells B) hown ad N.length c (byCells N) (by rw [byCells_len]; omega) hN (byCells_one N) hm (by unfold maxLen; omega) (by omega) hb _ rfl
  rw [← byCells_append] at h2
  rw [List.length_append]
  refine ⟨g, cap, w', h1, ?_, h3, fun k hk => ?_⟩
  · unfold BOwn
    rw [List.length_append]
    exact h2
  · have e : g = k := by simpa [Value.ownBlock] using hk
    subst e
    rcases h4 with h4 | h4
    · exact .inl h4
    · exact .inr (by omega)
theorem app_bytes {ops : Array Oper} {rest : List Oper} {o : Oper} {a : Act} {Q : Exit → Act → World → Prop} (w : World) (hg : o.guard = none) (s x : Operand) (hop : o.op = .call { callee := .builtin .append, args := #[s, x], argTypes := #[55, 55] })
    (base : Nat) (hb : base ≤ w.heap.size) (v : Value) (B : List UInt8) (hs : a.eval s = v) (hown : BOwn base w v B) (ad : Addr) (c : Nat) (N : List UInt8) (hx : a.eval x = .slice (some ad) N.length c) (hN : ∀ j u, (byCells N)[j]? = some u → w.cell? (ad.add j) = some u) (hm : 0 < N.length) (hlen : B.length + N.length ≤ 100000)
    (h : ∀ v' w', BOwn base w' v' (B ++ N) → GrowsTo w w' v v' → wpList Try.prog ops Q rest (a.put o.dst v') w') : wpList Try.prog ops Q (o :: rest) a w := by
  obtain ⟨g, cap, w', hr, h2, h3⟩ := run_append_bytes w base hb o.type v B hown ad c N hN hm hlen
  refine wpList_plain hg fun K hK => ?_
  unfold Oper.wp execOp
  simp only [hop, resolve, invoke, builtin, Sem.run_bind, Sem.run_pure, Result.andThen_ok, List.map_toArray, List.map_cons, List.map_nil, hs, hx, hr]
  exact hK _ _ (h _ w' h2 h3)
theorem new_bytes (w : World) (N : List UInt8) (t : TypeId) : ∀ j u, (byCells N)[j]? = some u → (w.alloc (.cells (byCells N).toArray t)).cell? ((⟨w.heap.size, 0, none⟩ : Addr).add j) = some u :=
  World.news_of_block (w := w.alloc (.cells (byCells N).toArray t)) (cs := (byCells N).toArray) (t := t) (fr := (0, 0)) (by simp only [World.alloc, Array.getElem?_push_size])
theorem new_byte {w : World} {m n : Int} {t : TypeId} (h : m = i8 (b8 n)) : ∀ j u, (byCells [b8 n])[j]? = some u → (w.alloc (.cells #[.int .u8 m] t)).cell? ((⟨w.heap.size, 0, none⟩ : Addr).add j) = some u := by
  rw [h]
  exact new_bytes w [b8 n] t
/-- Numbers in one block. -/
def NumsAt (w : World) (b : Nat) (N : List Int) : Prop := ∀ i n, N[i]? = some n → w.cell? ⟨b, i, none⟩ = some (.int .i64 n)
theorem NumsAt.same {w w' : World} {b : Nat} {N : List Int} (h : NumsAt w b N) (he : w'.heap[b]? = w.heap[b]?) : NumsAt w' b N := fun i n hn => (World.cell?_of_block he).trans (h i n hn)

set_option maxHeartbeats 1000000 in
theorem small_c (base : Nat) (B : List UInt8) (v : Value) (N : List Int) (nb : Nat) (w : World) (hb : base ≤ w.heap.size) (hv : BOwn base w v B) (hN : NumsAt w nb N) (hnb : nb < w.heap.size) (hne : v.ownBlock ≠ some nb) (hlen : B.length + N.length ≤ 100000) :
    Calls Try.prog 30 #[v, .slice (some ⟨nb, 0, none⟩) N.length N.length] w fun e w' => ∃ v', e = .returned v' ∧ BOwn base w' v' (B ++ N.map b8) ∧ GrowsTo w w' v v' := by
  have HV : Hid (BOwn base w v B) := hv
  have HN : Hid (NumsAt w nb N) := hN
  have HL : Hid (v.ownBlock ≠ some nb) := hne
  have HB : Hid (base ≤ w.heap.size) := hb
  have HNB : Hid (nb < w.heap.size) := hnb
  have hnl : N.length ≤ 100000 := by omega
  clear hv hN hne hb hnb
  go_enter Try.func30, Try.ntmps30
  go_wp2_with fail
  go_loopw [0, 9] (fun b i wr => ∃ (k : Nat), k ≤ N.length ∧ i = .int .i64 k ∧ Hid (BOwn base wr b (B ++ (N.take k).map b8)) ∧ Hid (GrowsTo w wr v b)) (fun _ i _ => N.length - (intOf i).toNat)
  case atStart =>
    refine ⟨0, Nat.zero_le _, rfl, ?_, GrowsTo.refl _ _⟩
    show BOwn base w v (B ++ [])
    rw [List.append_nil]
    exact HV.out
  case round =>
    obtain ⟨k, hk, rfl, HO, HG⟩ := hrel
    by_cases hlt : k < N.length
    · have hc : wr.cell? ⟨nb, k, none⟩ = some (.int .i64 N[k]) := by
        exact (HN.out.same (HG.out.grown.block nb HNB.out (fun e => HL.out e.symm))) k _ (List.getElem?_eq_getElem hlt)
      have HR : Hid (B ++ (N.take k).map b8 ++ [b8 N[k]] = B ++ (N.take (k + 1)).map b8) := by
        show _ = _
        rw [List.append_assoc, List.take_succ_eq_append_getElem hlt, List.map_append]
        rfl
      generalize N[k] = n at *
      have hb2 : base ≤ wr.heap.size := Nat.le_trans HB.out HG.out.grown.size
      have hl2 : (B ++ (N.take k).map b8).length + [b8 n].length ≤ 100000 := by simp; omega
      have hm : IntKind.u8.wrap n = i8 (b8 n) := wrap_b8 n
      go_wp2_with (first | (refine app_bytes _ rfl _ _ rfl base (Nat.le_trans hb2 (by simp)) u0 _ rfl (HO.out.keep ((Keeps.refl _).alloc _)) ⟨wr.heap.size, 0, none⟩ 1 [b8 n] rfl (new_byte rfl) (by simp) hl2 ?_; intro v2 w2 hO2 hG2))
      go_roundw
      case rel => exact ⟨k + 1, by omega, by go_num, by rw [← HR.out]; exact hO2, (HG.out.trans (GrowsTo.of _ ((Keeps.refl _).alloc _))).trans hG2⟩
      case measure => simp [intOf]; omega
    · have e : k = N.length := by omega
      subst e
      have hO := HO.out
      rw [List.take_length] at hO
      go_wp2_with fail
      go_ret
      exact ⟨_, rfl, hO, HG.out⟩
theorem new_nums (w : World) (N : List Int) (t : TypeId) : NumsAt (w.alloc (.cells (N.map (Value.int .i64)).toArray t)) w.heap.size N := fun i n hn => by
  have h := World.news_of_block (w := w.alloc (.cells (N.map (Value.int .i64)).toArray t)) (B := w.heap.size) (cs := (N.map (Value.int .i64)).toArray) (t := t) (fr := (0, 0)) (by simp only [World.alloc, Array.getElem?_push_size]) i (.int .i64 n) (by simp [hn])
  have e : (⟨w.heap.size, 0, none⟩ : Addr).add i = ⟨w.heap.size, i, none⟩ := by unfold Addr.add; split <;> simp_all
  rw [e] at h
  exact h
/-- Numbers, two bytes each. -/
def wides : List Int → List UInt8
  | [] => []
  | n :: r => wide n ++ wides r
theorem wides_append : ∀ (a b : List Int), wides (a ++ b) = wides a ++ wides b
  | [], _ => rfl
  | n :: r, b => by
    show wide n ++ wides (r ++ b) = (wide n ++ wides r) ++ wides b
    rw [wides_append r b, List.append_assoc]
theorem wides_len : ∀ (a : List Int), (wides a).length = 2 * a.length
  | [] => rfl
  | n :: r => by
    show (wide n ++ wides r).length = _
    rw [List.length_append, wides_len r]
    simp [wide]
    omega

set_option maxHeartbeats 1000000 in
theorem wide_c (base : Nat) (B : List UInt8) (v : Value) (N : List Int) (nb : Nat) (w : World) (hb : base ≤ w.heap.size) (hv : BOwn base w v B) (hN : NumsAt w nb N) (hnb : nb < w.heap.size) (hne : v.ownBlock ≠ some nb) (hlen : B.length + 2 * N.length ≤ 100000) :
    Calls Try.prog 31 #[v, .slice (some ⟨nb, 0, none⟩) N.length N.length] w fun e w' => ∃ v', e = .returned v' ∧ BOwn base w' v' (B ++ wides N) ∧ GrowsTo w w' v v' := by
  have HV : Hid (BOwn base w v B) := hv
  have HN : Hid (NumsAt w nb N) := hN
  have HL : Hid (v.ownBlock ≠ some nb) := hne
  have HB : Hid (base ≤ w.heap.size) := hb
  have HNB : Hid (nb < w.heap.size) := hnb
  have hnl : N.length ≤ 100000 := by omega
  clear hv hN hne hb hnb
  go_enter Try.func31, Try.ntmps31
  go_wp2_with fail
  go_loopw [0, 9] (fun b i wr => ∃ (k : Nat), k ≤ N.length ∧ i = .int .i64 k ∧ Hid (BOwn base wr b (B ++ wides (N.take k))) ∧ Hid (GrowsTo w wr v b)) (fun _ i _ => N.length - (intOf i).toNat)
  case atStart =>
    refine ⟨0, Nat.zero_le _, rfl, ?_, GrowsTo.refl _ _⟩
    show BOwn base w v (B ++ [])
    rw [List.append_nil]
    exact HV.out
  case round =>
    obtain ⟨k, hk, rfl, HO, HG⟩ := hrel
    by_cases hlt : k < N.length
    · have hc : wr.cell? ⟨nb, k, none⟩ = some (.int .i64 N[k]) := by
        exact (HN.out.same (HG.out.grown.block nb HNB.out (fun e => HL.out e.symm))) k _ (List.getElem?_eq_getElem hlt)
      have HR : Hid (B ++ wides (N.take k) ++ wide N[k] = B ++ wides (N.take (k + 1))) := by
        show _ = _
        rw [List.append_assoc, List.take_succ_eq_append_getElem hlt, wides_append]
        simp [wides]
      generalize N[k] = n at *
      have hb2 : base ≤ wr.heap.size := Nat.le_trans HB.out HG.out.grown.size
      have hl2 : (B ++ wides (N.take k)).length + 2 ≤ 100000 := by rw [List.length_append, wides_len, List.length_take]; omega
      have HW : Hid ([n / 256, n].map b8 = wide n) := rfl
      go_wp2_with fail
      refine (small_c base _ u0 [n / 256, n] wr.heap.size _ (Nat.le_trans hb2 (by simp)) (HO.out.keep ((Keeps.refl _).alloc _)) (new_nums wr [n / 256, n] _) (by simp) (fun e => by have := (HO.out.own e).2; omega) hl2).mono ?_
      rintro e w2 ⟨v2, rfl, hO2, hG2⟩
      rw [HW.out, HR.out] at hO2
      have HO2 : Hid (BOwn base w2 v2 (B ++ wides (N.take (k + 1)))) := hO2
      have HG2 : Hid (GrowsTo w w2 v v2) := (HG.out.trans (GrowsTo.of _ ((Keeps.refl _).alloc _))).trans hG2
      clear hO2 hG2 HO HG HR HW
      go_wp2_with fail
      go_roundw
      case rel => exact ⟨k + 1, by omega, by go_num, HO2, HG2⟩
      case measure => simp [intOf]; omega
    · have e : k = N.length := by omega
      subst e
      have hO := HO.out
      rw [List.take_length] at hO
      go_wp2_with fail
      go_ret
      exact ⟨_, rfl, hO, HG.out⟩
end Go.Proofs.Yteabfjpajgakiad

/- An argument that is a string. -/
set_option linter.unusedSimpArgs false
set_option linter.unusedVariables false
set_option maxRecDepth 100000
namespace Go.Proofs.Yteabfjpajgakiad
open Go.ChangeShapes Go.WideShapes Go.ChangeAt Go.RowKit Go.Joins

theorem open_str {w : World} {r : Reach} {b0 : Nat} {v : Value} (hv : Value.okWide Try.prog w r b0 9 v) : ∃ l, v = .string (bt l) := by
  obtain ⟨s, rfl⟩ := okWide_string Try.underlying9 hv
  exact ⟨s.data.toList, by cases s; simp [bt]⟩
end Go.Proofs.Yteabfjpajgakiad

/- A region that draws its order, whose order is forced but for two neighbours. -/
set_option linter.unusedSimpArgs false
set_option linter.unusedVariables false
namespace Go.Proofs.Yteabfjpajgakiad
open Go.RowKit

/-- The first k are done. -/
def upTo (N k : Nat) : Array Bool := Array.ofFn (n := N) fun i => decide (i.1 < k)

theorem upTo_true {N k i : Nat} : (upTo N k).getD i true = false ↔ i < N ∧ k ≤ i := by
  unfold upTo
  by_cases h : i < N
  · simp [h]
  · simp [h]

theorem upTo_false {N k i : Nat} : (upTo N k).getD i false = true ↔ i < N ∧ i < k := by
  unfold upTo
  by_cases h : i < N
  · simp [h]
  · simp [h]

theorem upTo_true' {N k i : Nat} : ((upTo N k).setIfInBounds (k + 1) true).getD i true = false ↔ i < N ∧ k ≤ i ∧ i ≠ k + 1 := by
  unfold upTo
  by_cases h : i < N
  · simp only [Array.getD_eq_getD_getElem?, Array.getElem?_setIfInBounds]
    by_cases h' : k + 1 = i
    · subst h'; simp [h]
    · rw [if_neg h']; simp [h]; omega
  · have h2 : ¬ (i < ((Array.ofFn (n := N) fun i => decide (i.1 < k)).setIfInBounds (k + 1) true).size) := by simpa using h
    simp [Array.getD, h]

theorem upTo_false' {N k i : Nat} : ((upTo N k).setIfInBounds (k + 1) true).getD i false = true ↔ i < N ∧ (i < k ∨ i = k + 1) := by
  unfold upTo
  by_cases h : i < N
  · simp only [Array.getD_eq_getD_getElem?, Array.getElem?_setIfInBounds]
    by_cases h' : k + 1 = i
    · subst h'; simp [h]
    · rw [if_neg h']; simp [h]; omega
  · simp [Array.getD, h]

def waits (ops : Array Oper) (j i : Nat) : Bool := Region.waitsFor .any ops j i

structure Chain (ops : Array Oper) (n : Nat) : Prop where
  one : 1 ≤ n
  size : n + 2 ≤ ops.size
  skip : waits ops (n + 1) (n - 1) = true
  both : n + 2 < ops.size → waits ops (n + 2) n = true
  prev : ∀ t, t < ops.size → t ≠ 0 → t ≠ n + 1 → waits ops t (t - 1) = true
  back : ∀ t o, ops[t]? = some o → ∀ e ∈ o.after, Region.binds .any e = true → e.on < t ∧ (t = n + 1 → e.on ≠ n)

theorem waits_of {ops : Array Oper} {j i : Nat} {o : Oper} (h : waits ops j i = true) (ho : ops[j]? = some o) {listed : Array Bool} (ha : ∀ e ∈ o.after, Region.binds .any e = true → listed.getD e.on false = true) : listed.getD i false = true := by
  obtain ⟨oj, hj, e, he, hb, rfl⟩ := Region.waitsFor_spec h
  rw [ho] at hj
  cases hj
  exact ha e he hb

theorem size_of {ops : Array Oper} {i : Nat} {o : Oper} (h : ops[i]? = some o) : i < ops.size := by
  rcases Nat.lt_or_ge i ops.size with h' | h'
  · exact h'
  · rw [Array.getElem?_eq_none h'] at h; cases h

/-- Elsewhere one alone may come up. -/
theorem Chain.only {ops : Array Oper} {n : Nat} (C : Chain ops n) {k i : Nat} (hk : k ≠ n) (hi : i ∈ Region.ready .any ops (upTo ops.size k)) : i = k := by
  obtain ⟨h1, o, ho, ha⟩ := mem_ready.1 hi
  obtain ⟨hN, hki⟩ := upTo_true.1 h1
  by_cases hn : i = n + 1
  · have := (upTo_false.1 (waits_of (i := n - 1) (by rw [hn]; exact C.skip) ho ha)).2
    have := C.one
    omega
  · by_cases h0 : i = 0
    · omega
    · have := (upTo_false.1 (waits_of (C.prev i hN h0 hn) ho ha)).2
      omega

theorem Chain.first {ops : Array Oper} {n : Nat} (C : Chain ops n) {k : Nat} (hk : k < ops.size) : k ∈ Region.ready .any ops (upTo ops.size k) := by
  refine mem_ready.2 ⟨upTo_true.2 ⟨hk, Nat.le_refl _⟩, ops[k], by simp [hk], fun e he hb => upTo_false.2 ?_⟩
  have := (C.back k ops[k] (by simp [hk]) e he hb).1
  omega

theorem Chain.other {ops : Array Oper} {n : Nat} (C : Chain ops n) {i : Nat} (hi : i ∈ Region.ready .any ops ((upTo ops.size n).setIfInBounds (n + 1) true)) : i = n := by
  obtain ⟨h1, o, ho, ha⟩ := mem_ready.1 hi
  obtain ⟨hN, hki, hne⟩ := upTo_true'.1 h1
  by_cases h0 : i = 0
  · omega
  · by_cases h2 : i = n + 2
    · have := (upTo_false'.1 (waits_of (i := n) (by rw [h2]; exact C.both (by omega)) ho ha)).2
      omega
    · have := (upTo_false'.1 (waits_of (C.prev i hN h0 hne) ho ha)).2
      omega

theorem Chain.done {ops : Array Oper} {k : Nat} (hk : ops.size ≤ k) : Region.ready .any ops (upTo ops.size k) = [] := by
  apply List.eq_nil_iff_forall_not_mem.2
  intro i hi
  obtain ⟨h1, _⟩ := mem_ready.1 hi
  obtain ⟨hN, hki⟩ := upTo_true.1 h1
  omega

end Go.Proofs.Yteabfjpajgakiad

/- A region that draws its order: stretches of it whose order is forced are walked as the text has them. -/
set_option linter.unusedSimpArgs false
set_option linter.unusedVariables false
namespace Go.Proofs.Yteabfjpajgakiad
open Go.RowKit

end Go.Proofs.Yteabfjpajgakiad

/- A region that draws its order: whatever the order, each operation's value meets a condition of its own; the conditions stand when memory is added, and, where an operation writes (a store, an append in its place: 'special'), as far as that operation's own frame keeps them. -/
set_option linter.unusedSimpArgs false
set_option linter.unusedVariables false
namespace Go.Proofs.Yteabfjpajgakiad
open Go.RowKit

/-- A condition on a value that stands when memory is added. -/
structure Pr where
  p : Value → World → Prop
  keep : ∀ v W W', p v W → Keeps W W' → p v W'
def Pr.any : Pr := ⟨fun _ _ => True, fun _ _ _ _ _ => trivial⟩
def Pr.is (x : Value) : Pr := ⟨fun v _ => v = x, fun _ _ _ h _ => h⟩

def prAt : List Pr → Nat → Pr
  | [], _ => Pr.any
  | r :: _, 0 => r
  | _ :: rs, i + 1 => prAt rs i

def fillL : List (Option Tmp) → (Nat → Value) → Nat → Act → Act
  | [], _, _, a => a
  | d :: ds, vs, k, a => fillL ds vs (k + 1) (a.put d (vs k))

theorem put_twice (a : Act) (d : Option Tmp) (x y : Value) : (a.put d x).put d y = a.put d y := by
  cases d <;> simp [Act.put]
theorem put_comm' (a : Act) {d e : Option Tmp} (x y : Value) (h : ∀ t, d = some t → e ≠ some t) : (a.put d x).put e y = (a.put e y).put d x := by
  cases d with
  | none => rfl
  | some d =>
    cases e with
    | none => rfl
    | some e =>
      simp only [Act.put]
      rw [Array.setIfInBounds_comm _ _ (fun q => h d rfl (by rw [q]))]
/-- No slot is written twice. -/
def apartB : List (Option Tmp) → Bool
  | [] => true
  | none :: ds => apartB ds
  | some d :: ds => !ds.contains (some d) && apartB ds
theorem fillL_comm {d : Option Tmp} : ∀ (ds : List (Option Tmp)) (vs : Nat → Value) (k : Nat) (a : Act) (v : Value), (∀ t, d = some t → some t ∉ ds) → (fillL ds vs k a).put d v = fillL ds vs k (a.put d v)
  | [], _, _, _, _, _ => rfl
  | e :: ds, vs, k, a, v, h => by
    simp only [fillL]
    rw [fillL_comm ds vs (k + 1) _ v (fun t ht hm => h t ht (List.mem_cons_of_mem _ hm)), put_comm' a (vs k) v (fun t ht hd => h t hd (by rw [ht]; exact List.mem_cons_self ..))]
theorem fillL_congr : ∀ (ds : List (Option Tmp)) (vs vs' : Nat → Value) (k : Nat) (a : Act), (∀ j, k ≤ j → vs j = vs' j) → fillL ds vs k a = fillL ds vs' k a
  | [], _, _, _, _, _ => rfl
  | d :: ds, vs, vs', k, a, h => by
    simp only [fillL]
    rw [h k (Nat.le_refl _)]
    exact fillL_congr ds vs vs' (k + 1) _ (fun j hj => h j (by omega))
theorem fillL_put {d : Option Tmp} : ∀ (ds : List (Option Tmp)) (vs : Nat → Value) (k i : Nat) (a : Act) (v : Value), apartB ds = true → ds[i]? = some d → (fillL ds vs k a).put d v = fillL ds (fun j => if j = k + i then v else vs j) k a
  | [], _, _, i, _, _, _, h => by simp at h
  | e :: ds, vs, k, 0, a, v, hn, h => by
    obtain rfl : e = d := by simpa using h
    simp only [fillL]
    rw [fillL_comm ds vs (k + 1) _ v (fun t ht hm => by subst ht; simp [apartB] at hn; exact hn.1 hm), put_twice]
    simp only [Nat.add_zero, if_true]
    exact fillL_congr ds _ _ (k + 1) _ (fun j hj => by simp [show j ≠ k by omega])
  | e :: ds, vs, k, i + 1, a, v, hn, h => by
    have hn' : apartB ds = true := by
      cases e with
      | none => exact hn
      | some e => simp [apartB] at hn; exact hn.2
    simp only [fillL]
    rw [fillL_put ds vs (k + 1) i _ v hn' (by simpa using h)]
    simp only [show k ≠ k + (i + 1) by omega, if_false]
    exact fillL_congr ds _ _ (k + 1) _ (fun j hj => by simp [show k + 1 + i = k + (i + 1) by omega])

def cntU (listed : Array Bool) : Nat → Nat
  | 0 => 0
  | n + 1 => cntU listed n + (if listed.getD n false = true then 0 else 1)
theorem getD_set {listed : Array Bool} {i : Nat} (hi : i < listed.size) (j : Nat) : (listed.setIfInBounds i true).getD j false = if j = i then true else listed.getD j false := by
  simp only [Array.getD_eq_getD_getElem?, Array.getElem?_setIfInBounds]
  by_cases h : i = j
  · subst h; simp [hi]
  · rw [if_neg h, if_neg (fun e => h e.symm)]
theorem cnt_ge {listed : Array Bool} {i : Nat} (hi : i < listed.size) : ∀ n, n ≤ i → cntU (listed.setIfInBounds i true) n = cntU listed n
  | 0, _ => rfl
  | n + 1, h => by
    simp only [cntU]
    rw [cnt_ge hi n (by omega), getD_set hi, if_neg (by omega : ¬ n = i)]
theorem cnt_lt {listed : Array Bool} {i : Nat} (hi : i < listed.size) (hu : listed.getD i false = false) : ∀ n, i < n → cntU listed n = cntU (listed.setIfInBounds i true) n + 1
  | 0, h => by omega
  | n + 1, h => by
    simp only [cntU]
    by_cases hn : i = n
    · subst hn
      rw [cnt_ge hi i (Nat.le_refl _), getD_set hi, hu]
      simp
    · rw [cnt_lt hi hu n (by omega), getD_set hi, if_neg (by omega : ¬ n = i)]
      omega
theorem cnt_zero {listed : Array Bool} : ∀ n, cntU listed n = 0 → ∀ i, i < n → listed.getD i false = true
  | 0, _, i, h => by omega
  | n + 1, h, i, hi => by
    simp only [cntU] at h
    by_cases hn : i = n
    · subst hn
      cases q : listed.getD i false with
      | true => rfl
      | false => rw [q] at h; simp at h
    · exact cnt_zero n (by omega) i (by omega)
theorem cnt_pos {listed : Array Bool} : ∀ n, cntU listed n ≠ 0 → ∃ i, i < n ∧ listed.getD i false = false
  | 0, h => absurd rfl h
  | n + 1, h => by
    simp only [cntU] at h
    cases q : listed.getD n false with
    | false => exact ⟨n, by omega, q⟩
    | true =>
      rw [q] at h
      obtain ⟨i, hi, hu⟩ := cnt_pos n (by simpa using h)
      exact ⟨i, by omega, hu⟩

/-- j waits for i. -/
def waitB (ops : Array Oper) (j i : Nat) : Bool := ((ops[j]?).map fun o => o.after.any fun e => Region.binds .any e && e.on == i).getD false
/-- None waits for one behind it. -/
def growB (ops : Array Oper) : Bool := (List.range ops.size).all fun i => ((ops[i]?).map fun o => o.after.all fun e => !Region.binds .any e || decide (e.on < i)).getD false
theorem grow_back {ops : Array Oper} (h : growB ops = true) : ∀ i, i < ops.size → ∃ o, ops[i]? = some o ∧ ∀ e ∈ o.after, Region.binds .any e = true → e.on < i := by
  simp only [growB, List.all_eq_true, List.mem_range] at h
  intro i hi
  have := h i hi
  cases ho : ops[i]? with
  | none => rw [ho] at this; cases this
  | some o =>
    rw [ho] at this
    simp only [Option.map_some, Option.getD_some, Array.all_eq_true', Bool.or_eq_true, Bool.not_eq_true', decide_eq_true_eq] at this
    refine ⟨o, rfl, fun e he hb => ?_⟩
    rcases this e he with h' | h'
    · rw [hb] at h'; cases h'
    · exact h'

structure Listed (ops : Array Oper) (listed : Array Bool) : Prop where
  size : listed.size = ops.size
  down : ∀ j, listed.getD j false = true → ∀ o, ops[j]? = some o → ∀ e ∈ o.after, Region.binds .any e = true → listed.getD e.on false = true

theorem waitB_iff {ops : Array Oper} {j i : Nat} (h : waitB ops j i = true) : ∃ o, ops[j]? = some o ∧ ∃ e ∈ o.after, Region.binds .any e = true ∧ e.on = i := by
  unfold waitB at h
  cases ho : ops[j]? with
  | none => rw [ho] at h; cases h
  | some o =>
    rw [ho] at h
    simp only [Option.map_some, Option.getD_some, Array.any_eq_true', Bool.and_eq_true, beq_iff_eq] at h
    obtain ⟨e, he, hb, hk⟩ := h
    exact ⟨o, rfl, e, he, hb, hk⟩
theorem getD_both {listed : Array Bool} {i : Nat} (hi : i < listed.size) : listed.getD i true = listed.getD i false := by
  simp [Array.getD, hi]
theorem grow_some {ops : Array Oper} (G : ∀ i, i < ops.size → ∃ o, ops[i]? = some o ∧ ∀ e ∈ o.after, Region.binds .any e = true → e.on < i) {listed : Array Bool} (L : Listed ops listed) : ∀ k u, u ≤ k → u < ops.size → listed.getD u false = false → ∃ i, i ∈ Region.ready .any ops listed := by
  intro k
  induction k with
  | zero =>
    intro u hk hu hul
    obtain ⟨o, ho, hb⟩ := G u hu
    exact ⟨u, mem_ready.2 ⟨by rw [getD_both (by rw [L.size]; omega)]; exact hul, o, ho, fun e he hbd => by have := hb e he hbd; omega⟩⟩
  | succ k ih =>
    intro u hk hu hul
    obtain ⟨o, ho, hb⟩ := G u hu
    by_cases hall : ∀ e ∈ o.after, Region.binds .any e = true → listed.getD e.on false = true
    · exact ⟨u, mem_ready.2 ⟨by rw [getD_both (by rw [L.size]; omega)]; exact hul, o, ho, hall⟩⟩
    · have : ∃ e, e ∈ o.after ∧ Region.binds .any e = true ∧ listed.getD e.on false = false := by
        apply Classical.byContradiction
        intro hc
        refine hall (fun e he hbd => ?_)
        cases q : listed.getD e.on false with
        | true => rfl
        | false => exact absurd ⟨e, he, hbd, q⟩ hc
      obtain ⟨e, he, hbd, q⟩ := this
      have := hb e he hbd
      exact ih e.on (by omega) (by omega) q

/-- It comes behind k. -/
def reachB (ops : Array Oper) : Nat → Nat → Nat → Bool
  | 0, _, _ => false
  | f + 1, i, k => waitB ops i k || (List.range i).any fun j => waitB ops i j && reachB ops f j k
theorem reach_listed {ops : Array Oper} {listed : Array Bool} (L : Listed ops listed) : ∀ f i k, reachB ops f i k = true → listed.getD i false = true → listed.getD k false = true
  | 0, _, _, h, _ => by cases h
  | f + 1, i, k, h, hl => by
    have one : ∀ j, waitB ops i j = true → listed.getD j false = true := fun j hw => by
      obtain ⟨o, ho, e, he, hb, rfl⟩ := waitB_iff hw
      exact L.down i hl o ho e he hb
    simp only [reachB, Bool.or_eq_true, List.any_eq_true, Bool.and_eq_true] at h
    rcases h with h | ⟨j, _, h1, h2⟩
    · exact one k h
    · exact reach_listed L f j k h2 (one j h1)

/-- An operation that writes: its number, the numbers whose conditions it ends, its frame. -/
structure Wr where
  num : Nat
  dead : List Nat
  frame : World → World → Prop
def Fr (xs : List Wr) (w0 : World) (i : Nat) (W W' : World) : Prop := ((∀ x ∈ xs, x.num ≠ i) → Keeps W W') ∧ Keeps w0 W' ∧ ∀ x ∈ xs, x.num = i → x.frame W W'
theorem Fr.of {xs : List Wr} {w0 : World} {i : Nat} {W W' : World} (h : ∀ x ∈ xs, x.num ≠ i) (h0 : Keeps w0 W) (hk : Keeps W W') : Fr xs w0 i W W' := ⟨fun _ => hk, h0.trans hk, fun x hx e => absurd e (h x hx)⟩

/-- What i may use of j. -/
def mayB (ops : Array Oper) (xs : List Wr) (i j : Nat) : Bool := waitB ops i j && xs.all fun x => !x.dead.contains j || (x.num == i || reachB ops ops.size x.num i)

theorem rep_false (N k : Nat) : (Array.replicate N false).getD k false = false := by
  by_cases h : k < N <;> simp [Array.getD, h]

end Go.Proofs.Yteabfjpajgakiad
