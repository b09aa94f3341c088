/- SesG, SesH, But, LoA, LoB, OpenStr, SesR, StA, StB, StC, StD. -/
import Derived.Deep.AppendLies
import Derived.Laws.IdiomStrings
import Derived.Laws.BitsAllLaws
import Derived.Test.YteabfjpajgakiafJ00
import Derived.Test.YteabfjpajgakiafJ01
/- The reference's sameSessions, SameSession, SameTables. -/
set_option linter.unusedSimpArgs false
set_option linter.unusedVariables false
namespace Go.Proofs.Yteabfjpajgakiaf
open Go.RowKit

end Go.Proofs.Yteabfjpajgakiaf

/- sess.those: the sessions that are wanted, in memory of their own. -/
set_option linter.unusedSimpArgs false
set_option linter.unusedVariables false
namespace Go.Proofs.Yteabfjpajgakiaf
open Go.RowKit

/-- The answers that are kept lie in rows of the call's own. -/
def KeptsOwn (base : Nat) (w : World) : List Ses → List Value → Prop
  | [], [] => True
  | s :: r, k :: ks => w.ownsRow base 116 2 k s.kept.length (repCells s.kept) ∧ KeptsOwn base w r ks
  | _, _ => False
/-- A table of the call's own. -/
def OwnTab (base : Nat) (w : World) (v : Value) (L : List Ses) : Prop := ∃ ks, KeptsOwn base w L ks ∧ w.ownsRow base 95 4 v L.length (sesCells L ks)

theorem owns_apart {w : World} {base base' : Nat} {e e' : TypeId} {size size' : Nat} {v v' : Value} {n n' : Nat} {xs xs' : List Value} (h : w.ownsRow base e size v n xs) (h' : w.ownsRow base' e' size' v' n' xs') (hne : e ≠ e') : v.ownBlock = none ∨ v.ownBlock ≠ v'.ownBlock := by
  rcases h.2 with ⟨rfl, _⟩ | ⟨g, cap, cur, rfl, _, hg, _⟩
  · exact .inl rfl
  · rcases h'.2 with ⟨rfl, _⟩ | ⟨g', cap', cur', rfl, _, hg', _⟩
    · right; simp [Value.ownBlock]
    · right
      simp only [Value.ownBlock]
      intro e1
      injection e1 with e1
      subst e1
      rw [hg] at hg'
      simp at hg'
      exact hne hg'.2

theorem KeptsOwn.kept {base : Nat} {w w' : World} {row : Value} {m size : Nat} {ys : List Value} (hrow : w.ownsRow base 95 size row m ys) (hg : w.grownBy w' row.ownBlock) : ∀ {L : List Ses} {ks : List Value}, KeptsOwn base w L ks → KeptsOwn base w' L ks
  | [], [], _ => trivial
  | _ :: _, _ :: _, h => ⟨h.1.kept hg (owns_apart h.1 hrow (by decide)), KeptsOwn.kept hrow hg h.2⟩

theorem owns_keep {w w' : World} {base : Nat} {e : TypeId} {size : Nat} {v : Value} {n : Nat} {xs : List Value} (h : w.ownsRow base e size v n xs) (hk : Keeps w w') : w'.ownsRow base e size v n xs := by
  refine h.kept (row := none) ⟨hk.os, hk.tape, hk.output, hk.size, fun k hk' _ => hk.block k hk'⟩ ?_
  cases hv : v.ownBlock <;> simp

theorem KeptsOwn.keep {base : Nat} {w w' : World} (hk : Keeps w w') : ∀ {L : List Ses} {ks : List Value}, KeptsOwn base w L ks → KeptsOwn base w' L ks
  | [], [], _ => trivial
  | _ :: _, _ :: _, h => ⟨owns_keep h.1 hk, KeptsOwn.keep hk h.2⟩
theorem OwnTab.keep {base : Nat} {w w' : World} {v : Value} {L : List Ses} (h : OwnTab base w v L) (hk : Keeps w w') : OwnTab base w' v L := by
  obtain ⟨ks, h1, h2⟩ := h
  exact ⟨ks, h1.keep hk, owns_keep h2 hk⟩
theorem KeptsOwn.at {base : Nat} {w : World} : ∀ {L : List Ses} {ks : List Value}, KeptsOwn base w L ks → KeptsAt w L ks
  | [], [], _ => trivial
  | _ :: _, _ :: _, h => ⟨RowAt.of_owns h.1, KeptsOwn.at h.2⟩
theorem OwnTab.tab {base : Nat} {w : World} {v : Value} {L : List Ses} (h : OwnTab base w v L) : TabAt w v L := by
  obtain ⟨ks, h1, h2⟩ := h
  exact ⟨ks, h1.at, RowAt.of_owns h2⟩
theorem KeptsOwn.base {base base' : Nat} {w : World} (hb : base' ≤ base) : ∀ {L : List Ses} {ks : List Value}, KeptsOwn base w L ks → KeptsOwn base' w L ks
  | [], [], _ => trivial
  | _ :: _, _ :: _, h => ⟨owns_base h.1 hb, KeptsOwn.base hb h.2⟩
theorem OwnTab.base {base base' : Nat} {w : World} {v : Value} {L : List Ses} (h : OwnTab base w v L) (hb : base' ≤ base) : OwnTab base' w v L := by
  obtain ⟨ks, h1, h2⟩ := h
  exact ⟨ks, h1.base hb, owns_base h2 hb⟩
theorem OwnTab.nil (base : Nat) (w : World) : OwnTab base w (.slice none 0 0) [] := ⟨[], trivial, World.ownsRow_nil _ _ _ _⟩

theorem KeptsOwn.append {base : Nat} {w : World} : ∀ {L M : List Ses} {ks ms : List Value}, KeptsOwn base w L ks → KeptsOwn base w M ms → KeptsOwn base w (L ++ M) (ks ++ ms)
  | [], _, [], _, _, h => h
  | _ :: _, _, _ :: _, _, h, h' => ⟨h.1, KeptsOwn.append h.2 h'⟩
theorem KeptsOwn.len {base : Nat} {w : World} {L : List Ses} {ks : List Value} (h : KeptsOwn base w L ks) : ks.length = L.length := h.at.len

theorem KeptsAt.one {w : World} : ∀ {L : List Ses} {ks : List Value}, KeptsAt w L ks → ∀ k ∈ ks, k.oneCell' = true
  | [], [], _, k, h => by cases h
  | _ :: _, k0 :: ks, h, k, hm => by
    rcases List.mem_cons.1 hm with rfl | hm
    · obtain ⟨a, cap, rfl, _⟩ := h.1.len; rfl
    · exact KeptsAt.one h.2 k hm

end Go.Proofs.Yteabfjpajgakiaf

/- All that was there is as it was, but for one block. -/
set_option linter.unusedSimpArgs false
set_option linter.unusedVariables false
namespace Go.Proofs.Yteabfjpajgakiaf
open Go.RowKit

/-- What was there is as it was, but for block b. -/
structure But (b : Nat) (a w : World) : Prop where
  os : w.os = a.os
  tape : w.tape = a.tape
  output : w.output = a.output
  size : a.heap.size ≤ w.heap.size
  block : ∀ k, k < a.heap.size → k ≠ b → w.heap[k]? = a.heap[k]?

theorem But.refl (b : Nat) (w : World) : But b w w := ⟨rfl, rfl, rfl, Nat.le_refl _, fun _ _ _ => rfl⟩
theorem But.trans {b : Nat} {x y z : World} (h : But b x y) (k : But b y z) : But b x z :=
  ⟨k.os.trans h.os, k.tape.trans h.tape, k.output.trans h.output, Nat.le_trans h.size k.size, fun i hi hb => (k.block i (Nat.lt_of_lt_of_le hi h.size) hb).trans (h.block i hi hb)⟩
theorem But.of {b : Nat} {x y : World} (h : Keeps x y) : But b x y := ⟨h.os, h.tape, h.output, h.size, fun k hk _ => h.block k hk⟩
theorem But.keeps {b : Nat} {x y z : World} (h : But b x y) (k : Keeps y z) : But b x z := h.trans (But.of k)
theorem But.set {b : Nat} {x y : World} (h : But b x y) (i : Nat) (u : Value) : But b x (y.setCell ⟨b, i, none⟩ u) :=
  h.trans ⟨rfl, rfl, rfl, by simp [World.setCell], fun k _ hk => Below.heap_setCell _ _ _ _ hk⟩
/-- Where the block is younger than all that was there. -/
theorem But.to {b : Nat} {a x y : World} (ha : Keeps a x) (hb : a.heap.size ≤ b) (h : But b x y) : Keeps a y :=
  Below.trans ha (⟨h.os, h.tape, h.output, h.size, fun k hk => h.block k (Nat.lt_of_lt_of_le hk ha.size) (by omega)⟩ : Below a.heap.size x y)
theorem But.cell {b : Nat} {x y : World} (h : But b x y) {p : Addr} (hp : p.block < x.heap.size) (hb : p.block ≠ b) : y.cell? p = x.cell? p := World.cell?_of_block (w := x) (h.block p.block hp hb)
theorem But.frozen {b : Nat} {x y : World} (h : But b x y) {p : Addr} (hp : p.block < x.heap.size) (hb : p.block ≠ b) : y.frozen? p = x.frozen? p := World.frozen?_of_block (w := x) (h.block p.block hp hb)
theorem But.at {b : Nat} {x y : World} (h : But b x y) {p : Addr} {u : Value} (hu : x.cell? p = some u) (hb : p.block ≠ b) : y.cell? p = some u := (h.cell (World.block_lt_of_cell? _ _ hu) hb).trans hu

/-- It lies apart from block b. -/
def KeptFar (b : Nat) (w : World) (v : Value) (l : List (Int × Int)) : Prop := ∀ w', But b w w' → KeptAt w' v l
def TabFar (b : Nat) (w : World) (v : Value) (L : List Ses) : Prop := ∀ w', But b w w' → TabAt w' v L
theorem KeptFar.kept {b : Nat} {w : World} {v : Value} {l : List (Int × Int)} (h : KeptFar b w v l) : KeptAt w v l := h w (But.refl _ _)
theorem TabFar.tab {b : Nat} {w : World} {v : Value} {L : List Ses} (h : TabFar b w v L) : TabAt w v L := h w (But.refl _ _)
theorem KeptFar.go {b : Nat} {w w' : World} {v : Value} {l : List (Int × Int)} (h : KeptFar b w v l) (k : But b w w') : KeptFar b w' v l := fun _ h' => h _ (k.trans h')
theorem TabFar.go {b : Nat} {w w' : World} {v : Value} {L : List Ses} (h : TabFar b w v L) (k : But b w w') : TabFar b w' v L := fun _ h' => h _ (k.trans h')

/-- What was there ahead of the block. -/
theorem KeptAt.far {b : Nat} {w w' : World} {v : Value} {l : List (Int × Int)} (h : KeptAt w v l) (hk : Keeps w w') (hb : w.heap.size ≤ b) : KeptFar b w' v l := fun _ h' => h.keep (But.to hk hb h')
theorem TabAt.far {b : Nat} {w w' : World} {v : Value} {L : List Ses} (h : TabAt w v L) (hk : Keeps w w') (hb : w.heap.size ≤ b) : TabFar b w' v L := fun _ h' => h.keep (But.to hk hb h')

theorem owns_far {b base : Nat} {w w' : World} {e : TypeId} {size : Nat} {v : Value} {n : Nat} {xs : List Value} (h : w.ownsRow base e size v n xs) (hb : b < base) (hk : But b w w') : w'.ownsRow base e size v n xs := by
  refine h.kept (row := some b) ⟨hk.os, hk.tape, hk.output, hk.size, fun k hk' hne => hk.block k hk' (fun e => hne (by rw [e]))⟩ ?_
  rcases h.2 with ⟨rfl, _⟩ | ⟨g, cap, cur, rfl, hg, _⟩
  · exact .inl rfl
  · right
    simp only [Value.ownBlock, ne_eq, Option.some.injEq]
    omega
theorem KeptsOwn.far {b base : Nat} {w w' : World} (hb : b < base) (hk : But b w w') : ∀ {L : List Ses} {ks : List Value}, KeptsOwn base w L ks → KeptsOwn base w' L ks
  | [], [], _ => trivial
  | _ :: _, _ :: _, h => ⟨owns_far h.1 hb hk, KeptsOwn.far hb hk h.2⟩
theorem OwnTab.but {b base : Nat} {w w' : World} {v : Value} {L : List Ses} (h : OwnTab base w v L) (hb : b < base) (hk : But b w w') : OwnTab base w' v L := by
  obtain ⟨ks, h1, h2⟩ := h
  exact ⟨ks, h1.far hb hk, owns_far h2 hb hk⟩
/-- What is the call's own lies apart from what was there. -/
theorem OwnTab.far {b base : Nat} {w : World} {v : Value} {L : List Ses} (h : OwnTab base w v L) (hb : b < base) : TabFar b w v L := fun _ hk => (h.but hb hk).tab
end Go.Proofs.Yteabfjpajgakiaf

/- Entries as bytes (plain). -/
set_option linter.unusedSimpArgs false
set_option linter.unusedVariables false
set_option maxRecDepth 10000
namespace Go.Proofs.Yteabfjpajgakiaf
open Go.RowKit

/-- A number as a byte. -/
def b8 (n : Int) : UInt8 := UInt8.ofNat (n % 256).toNat
def i8 (b : UInt8) : Int := (b.toNat : Int)
theorem i8_lo (b : UInt8) : 0 ≤ i8 b := Int.natCast_nonneg _
theorem i8_hi (b : UInt8) : i8 b < 256 := by
  have := b.toNat_lt
  unfold i8
  omega
theorem i8_b8 {n : Int} (h0 : 0 ≤ n) (h1 : n < 256) : i8 (b8 n) = n := by
  unfold i8 b8
  rw [UInt8.toNat_ofNat']
  omega
theorem b8_i8 (b : UInt8) : b8 (i8 b) = b := by
  have h := b.toNat_lt
  apply UInt8.toNat_inj.1
  unfold i8 b8
  rw [UInt8.toNat_ofNat']
  omega
theorem b8_mod (n : Int) : b8 (n % 256) = b8 n := by
  unfold b8
  rw [Int.emod_emod_of_dvd _ (Int.dvd_refl _)]
def wide (n : Int) : List UInt8 := [b8 (n / 256), b8 n]
theorem wide_two (h l : UInt8) : wide (i8 h * 256 + i8 l) = [h, l] := by
  have h0 := i8_lo h; have h1 := i8_hi h; have l0 := i8_lo l; have l1 := i8_hi l
  unfold wide
  have e1 : (i8 h * 256 + i8 l) / 256 = i8 h := by omega
  have e2 : b8 (i8 h * 256 + i8 l) = b8 (i8 l) := by
    rw [← b8_mod]
    congr 1
    omega
  rw [e1, e2, b8_i8, b8_i8]
theorem two_wide {n : Int} (h0 : 0 ≤ n) (h1 : n < 65536) : i8 (b8 (n / 256)) * 256 + i8 (b8 n) = n := by
  have e2 : b8 n = b8 (n % 256) := (b8_mod n).symm
  rw [i8_b8 (by omega) (by omega), e2, i8_b8 (by omega) (by omega)]
  omega
def entBs (e : Ent) : List UInt8 := [b8 e.kind] ++ wide e.time ++ [b8 e.client] ++ (if e.kind == 2 then [b8 e.seq, b8 e.ack, b8 e.ok, b8 e.okey, b8 e.oto] ++ wide (e.on + 999) else [])
theorem entBs_call {e : Ent} (h : e.kind = 2) : entBs e = [b8 e.kind, b8 (e.time / 256), b8 e.time, b8 e.client, b8 e.seq, b8 e.ack, b8 e.ok, b8 e.okey, b8 e.oto, b8 ((e.on + 999) / 256), b8 (e.on + 999)] := by
  unfold entBs
  rw [h]
  rfl
theorem entBs_other {e : Ent} (h : e.kind ≠ 2) : entBs e = [b8 e.kind, b8 (e.time / 256), b8 e.time, b8 e.client] := by
  unfold entBs
  rw [if_neg (by simpa using h)]
  rfl
theorem entBs_len (e : Ent) : (entBs e).length = if e.kind == 2 then 11 else 4 := by
  by_cases h : e.kind = 2
  · rw [entBs_call h, h]; rfl
  · rw [entBs_other h, if_neg (by simpa using h)]; rfl
theorem entBs_pos (e : Ent) : 4 ≤ (entBs e).length ∧ (entBs e).length ≤ 11 := by
  rw [entBs_len]
  split <;> omega
/-- What is read of bytes, be it right or not; none: they end too early. -/
def callE (k t1 t0 c s a o y z n1 n0 : UInt8) : Ent := ⟨i8 k, i8 t1 * 256 + i8 t0, i8 c, i8 s, i8 a, i8 o, i8 y, i8 z, i8 n1 * 256 + i8 n0 - 999⟩
def otherE (k t1 t0 c : UInt8) : Ent := ⟨i8 k, i8 t1 * 256 + i8 t0, i8 c, 0, 0, 0, 0, 0, 0⟩
def readRest (k t1 t0 c : UInt8) : List UInt8 → Option (Ent × Nat)
  | s :: a :: o :: y :: z :: n1 :: n0 :: _ => some (callE k t1 t0 c s a o y z n1 n0, 11)
  | _ => none
def readE : List UInt8 → Option (Ent × Nat)
  | k :: t1 :: t0 :: c :: r => if i8 k == 2 then readRest k t1 t0 c r else some (otherE k t1 t0 c, 4)
  | _ => none
theorem bytes_callE {k t1 t0 c s a o y z n1 n0 : UInt8} (hk : i8 k = 2) : entBs (callE k t1 t0 c s a o y z n1 n0) = [k, t1, t0, c, s, a, o, y, z, n1, n0] := by
  have w1 := wide_two t1 t0
  have w2 := wide_two n1 n0
  have e9 : i8 n1 * 256 + i8 n0 - 999 + 999 = i8 n1 * 256 + i8 n0 := by omega
  rw [entBs_call hk]
  unfold wide at w1 w2
  injection w1 with a1 a2
  injection a2 with a2 _
  injection w2 with c1 c2
  injection c2 with c2 _
  show [b8 (i8 k), b8 ((i8 t1 * 256 + i8 t0) / 256), b8 (i8 t1 * 256 + i8 t0), b8 (i8 c), b8 (i8 s), b8 (i8 a), b8 (i8 o), b8 (i8 y), b8 (i8 z), b8 ((i8 n1 * 256 + i8 n0 - 999 + 999) / 256), b8 (i8 n1 * 256 + i8 n0 - 999 + 999)] = _
  rw [e9, a1, a2, c1, c2]
  simp only [b8_i8]
theorem bytes_otherE {k t1 t0 c : UInt8} (hk : i8 k ≠ 2) : entBs (otherE k t1 t0 c) = [k, t1, t0, c] := by
  have w1 := wide_two t1 t0
  rw [entBs_other (e := otherE k t1 t0 c) hk]
  unfold wide at w1
  injection w1 with a1 a2
  injection a2 with a2 _
  show [b8 (i8 k), b8 ((i8 t1 * 256 + i8 t0) / 256), b8 (i8 t1 * 256 + i8 t0), b8 (i8 c)] = _
  rw [a1, a2]
  simp only [b8_i8]
/-- What was read has just those bytes. -/
theorem readE_bytes {l : List UInt8} {e : Ent} {n : Nat} (h : readE l = some (e, n)) : n = (entBs e).length ∧ l = entBs e ++ l.drop n := by
  match l, h with
  | k :: t1 :: t0 :: c :: r, h =>
    simp only [readE] at h
    by_cases hk : i8 k = 2
    · rw [if_pos (by simpa using hk)] at h
      match r, h with
      | s :: a :: o :: y :: z :: n1 :: n0 :: r', h =>
        simp only [readRest, Option.some.injEq, Prod.mk.injEq] at h
        obtain ⟨rfl, rfl⟩ := h
        rw [bytes_callE hk]
        exact ⟨rfl, rfl⟩
    · rw [if_neg (by simpa using hk)] at h
      simp only [Option.some.injEq, Prod.mk.injEq] at h
      obtain ⟨rfl, rfl⟩ := h
      rw [bytes_otherE hk]
      exact ⟨rfl, rfl⟩
theorem op_fits {k key tk n : Int} (h : opErr k key tk n = 0) : (1 ≤ k ∧ k ≤ 4) ∧ (0 ≤ key ∧ key ≤ 3) ∧ (0 ≤ tk ∧ tk ≤ 3) ∧ (-999 ≤ n ∧ n ≤ 999) := by
  unfold opErr opIn inB at h
  by_cases k1 : k = 1
  · subst k1; simp at h; omega
  · by_cases k2 : k = 2
    · subst k2; simp at h; omega
    · by_cases k3 : k = 3
      · subst k3; simp at h; omega
      · by_cases k4 : k = 4
        · subst k4; simp at h; omega
        · simp [k1, k2, k3, k4] at h
theorem ent_fits {e : Ent} (h : entErr e = 0) : (1 ≤ e.kind ∧ e.kind ≤ 3) ∧ (0 ≤ e.time ∧ e.time ≤ 999) ∧ (1 ≤ e.client ∧ e.client ≤ 5) := by
  unfold entErr entIn inB at h
  split at h
  · split at h
    · rename_i h1 h2
      simp only [Bool.and_eq_true, decide_eq_true_eq] at h1 h2
      exact ⟨h1, h2.1, h2.2.1⟩
    · simp at h
  · simp at h
theorem ent_call {e : Ent} (h : entErr e = 0) (hk : e.kind = 2) : (1 ≤ e.seq ∧ e.seq ≤ 60) ∧ (0 ≤ e.ack ∧ e.ack < e.seq) ∧ (1 ≤ e.ok ∧ e.ok ≤ 4) ∧ (0 ≤ e.okey ∧ e.okey ≤ 3) ∧ (0 ≤ e.oto ∧ e.oto ≤ 3) ∧ (-999 ≤ e.on ∧ e.on ≤ 999) := by
  unfold entErr entIn inB at h
  rw [hk] at h
  split at h
  · split at h
    · rename_i h1 h2
      simp only [beq_self_eq_true, if_true] at h
      have ho := op_fits h
      simp only [Bool.and_eq_true, Bool.or_eq_true, decide_eq_true_eq, bne_self_eq_false, Bool.false_eq_true, false_or] at h2
      obtain ⟨_, _, a, b⟩ := h2
      exact ⟨a, ⟨b.1, by omega⟩, ho⟩
    · simp at h
  · simp at h
theorem ent_other {e : Ent} (h : entErr e = 0) (hk : e.kind ≠ 2) : e.seq = 0 ∧ e.ack = 0 ∧ e.ok = 0 ∧ e.okey = 0 ∧ e.oto = 0 ∧ e.on = 0 := by
  unfold entErr opNone at h
  rw [if_neg (c := (e.kind == 2) = true) (by simpa using hk)] at h
  split at h
  · split at h
    · split at h
      · rename_i h3
        simpa [and_assoc] using h3
      · simp at h
    · simp at h
  · simp at h
/-- What was written of a right one is read as it was. -/
theorem readE_of {e : Ent} (h : entErr e = 0) (r : List UInt8) : readE (entBs e ++ r) = some (e, (entBs e).length) := by
  obtain ⟨k, t, c⟩ := ent_fits h
  by_cases hk : e.kind = 2
  · obtain ⟨s, a, o, y, z, n⟩ := ent_call h hk
    rw [entBs_call hk]
    have k2 : i8 (b8 e.kind) = 2 := by rw [i8_b8 (by omega) (by omega), hk]
    show (if i8 (b8 e.kind) == 2 then some (callE (b8 e.kind) _ _ _ _ _ _ _ _ _ _, 11) else _) = some (e, 11)
    rw [if_pos (by simpa using k2)]
    unfold callE
    rw [i8_b8 (n := e.kind) (by omega) (by omega), i8_b8 (n := e.client) (by omega) (by omega), i8_b8 (n := e.seq) (by omega) (by omega), i8_b8 (n := e.ack) (by omega) (by omega), i8_b8 (n := e.ok) (by omega) (by omega), i8_b8 (n := e.okey) (by omega) (by omega), i8_b8 (n := e.oto) (by omega) (by omega), two_wide (by omega) (by omega), two_wide (by omega) (by omega)]
    have : e.on + 999 - 999 = e.on := by omega
    rw [this]
  · obtain ⟨s, a, o, y, z, n⟩ := ent_other h hk
    rw [entBs_other hk]
    have k2 : i8 (b8 e.kind) ≠ 2 := by rw [i8_b8 (by omega) (by omega)]; exact hk
    show (if i8 (b8 e.kind) == 2 then _ else some (otherE (b8 e.kind) _ _ _, 4)) = some (e, 4)
    rw [if_neg (by simpa using k2)]
    unfold otherE
    rw [i8_b8 (n := e.kind) (by omega) (by omega), i8_b8 (n := e.client) (by omega) (by omega), two_wide (by omega) (by omega)]
    cases e
    simp only at s a o y z n
    subst s a o y z n
    rfl
theorem readE_kind {k : UInt8} {r : List UInt8} {e : Ent} {n : Nat} (h : readE (k :: r) = some (e, n)) : e.kind = i8 k := by
  match r, h with
  | t1 :: t0 :: c :: r, h =>
    simp only [readE] at h
    by_cases hk : i8 k = 2
    · rw [if_pos (by simpa using hk)] at h
      match r, h with
      | s :: a :: o :: y :: z :: n1 :: n0 :: r', h =>
        simp only [readRest, Option.some.injEq, Prod.mk.injEq] at h
        obtain ⟨rfl, rfl⟩ := h
        rfl
    · rw [if_neg (by simpa using hk)] at h
      simp only [Option.some.injEq, Prod.mk.injEq] at h
      obtain ⟨rfl, rfl⟩ := h
      rfl
theorem entBs_head (e : Ent) : ∃ r, entBs e = b8 e.kind :: r := ⟨_, rfl⟩
/-- Too few bytes for it: none is read of it. -/
theorem readE_short {e : Ent} (h : entErr e = 0) {m : Nat} (hm : m < (entBs e).length) : readE ((entBs e).take m) = none := by
  obtain ⟨k, t, c⟩ := ent_fits h
  match m with
  | 0 => rfl
  | m + 1 =>
    cases q : readE ((entBs e).take (m + 1)) with
    | none => rfl
    | some p =>
      obtain ⟨e', n⟩ := p
      exfalso
      obtain ⟨h1, h2⟩ := readE_bytes q
      have h3 : (entBs e').length ≤ m + 1 := by
        have := congrArg List.length h2
        simp only [List.length_append, List.length_take] at this
        omega
      obtain ⟨r, hr⟩ := entBs_head e
      rw [hr, List.take_succ_cons] at q
      have hk := readE_kind q
      rw [i8_b8 (by omega) (by omega)] at hk
      have := entBs_len e
      have := entBs_len e'
      rw [hk] at this
      omega
def okRead (l : List UInt8) : Option (Ent × Nat) :=
  match readE l with
  | some (e, n) => if entErr e == 0 then some (e, n) else none
  | none => none
/-- What the reference hears: what is not there is 0. -/
def nth (l : List UInt8) (i : Nat) : UInt8 := l.getD i 0
def earE (l : List UInt8) : Ent :=
  if i8 (nth l 0) == 2 then callE (nth l 0) (nth l 1) (nth l 2) (nth l 3) (nth l 4) (nth l 5) (nth l 6) (nth l 7) (nth l 8) (nth l 9) (nth l 10)
  else otherE (nth l 0) (nth l 1) (nth l 2) (nth l 3)
theorem earE_kind (l : List UInt8) : (earE l).kind = i8 (nth l 0) := by
  unfold earE
  split <;> rfl
theorem earE_some {l : List UInt8} {e : Ent} {n : Nat} (h : readE l = some (e, n)) : earE l = e := by
  match l, h with
  | k :: t1 :: t0 :: c :: r, h =>
    simp only [readE] at h
    unfold earE
    by_cases hk : i8 k = 2
    · rw [if_pos (by simpa using hk)] at h
      rw [if_pos (by simpa [nth] using hk)]
      match r, h with
      | s :: a :: o :: y :: z :: n1 :: n0 :: r', h =>
        simp only [readRest, Option.some.injEq, Prod.mk.injEq] at h
        obtain ⟨rfl, rfl⟩ := h
        rfl
    · rw [if_neg (by simpa using hk)] at h
      rw [if_neg (by simpa [nth] using hk)]
      simp only [Option.some.injEq, Prod.mk.injEq] at h
      obtain ⟨rfl, rfl⟩ := h
      rfl
theorem readE_none {l : List UInt8} (h : readE l = none) : l.length < 4 ∨ (i8 (nth l 0) = 2 ∧ l.length < 11) := by
  match l, h with
  | [], _ => exact Or.inl (by simp)
  | [_], _ => exact Or.inl (by simp)
  | [_, _], _ => exact Or.inl (by simp)
  | [_, _, _], _ => exact Or.inl (by simp)
  | k :: t1 :: t0 :: c :: r, h =>
    right
    simp only [readE] at h
    by_cases hk : i8 k = 2
    · rw [if_pos (by simpa using hk)] at h
      refine ⟨hk, ?_⟩
      match r, h with
      | [], _ => simp
      | [_], _ => simp
      | [_, _], _ => simp
      | [_, _, _], _ => simp
      | [_, _, _, _], _ => simp
      | [_, _, _, _, _], _ => simp
      | [_, _, _, _, _, _], _ => simp
      | s :: a :: o :: y :: z :: n1 :: n0 :: r', h => simp [readRest] at h
    · rw [if_neg (by simpa using hk)] at h
      simp at h
theorem earE_none {l : List UInt8} (h : readE l = none) : l.length < (entBs (earE l)).length := by
  have h1 := entBs_len (earE l)
  rw [earE_kind] at h1
  have h2 := (entBs_pos (earE l)).1
  rcases readE_none h with h3 | ⟨h3, h4⟩
  · omega
  · rw [h3] at h1
    simp at h1
    omega
/-- Both read the same. -/
theorem ear_ok (l : List UInt8) : okRead l = if entErr (earE l) == 0 && (decide ((entBs (earE l)).length ≤ l.length) && (l.take (entBs (earE l)).length == entBs (earE l))) then some (earE l, (entBs (earE l)).length) else none := by
  unfold okRead
  cases h : readE l with
  | none =>
    have := earE_none h
    have h2 : decide ((entBs (earE l)).length ≤ l.length) = false := by simp; omega
    rw [h2]
    simp
  | some p =>
    obtain ⟨e, n⟩ := p
    obtain ⟨h1, h2⟩ := readE_bytes h
    rw [earE_some h]
    have h3 : (entBs e).length ≤ l.length := by
      have := congrArg List.length h2
      simp only [List.length_append] at this
      omega
    have h4 : l.take (entBs e).length = entBs e := by
      rw [h2, List.take_append_of_le_length (Nat.le_refl _), List.take_length]
    simp only [h3, h4, decide_true, beq_self_eq_true, Bool.and_true, Bool.true_and, h1]
/-- The entries that a text begins with, at most f; and how many bytes they have. -/
def repl : Nat → List UInt8 → List Ent
  | 0, _ => []
  | f + 1, l => match okRead l with
    | some (e, n) => e :: repl f (l.drop n)
    | none => []
def allBs : List Ent → List UInt8
  | [] => []
  | e :: r => entBs e ++ allBs r
theorem allBs_append : ∀ (a b : List Ent), allBs (a ++ b) = allBs a ++ allBs b
  | [], _ => rfl
  | e :: r, b => by
    show entBs e ++ allBs (r ++ b) = (entBs e ++ allBs r) ++ allBs b
    rw [allBs_append r b, List.append_assoc]
/-- How many are whole, of entries that are written one behind the other, where they are cut at n. -/
def wholeN : List Ent → Nat → Nat
  | [], _ => 0
  | e :: r, n => if (entBs e).length ≤ n then wholeN r (n - (entBs e).length) + 1 else 0
theorem repl_whole : ∀ (l : List Ent) (f n : Nat), (∀ e ∈ l, entErr e = 0) → l.length ≤ f → repl f ((allBs l).take n) = l.take (wholeN l n)
  | [], 0, _, _, _ => rfl
  | [], f + 1, n, _, _ => by
    simp only [allBs, List.take_nil, repl]
    rfl
  | e :: r, 0, _, _, h => by simp at h
  | e :: r, f + 1, n, hr, hf => by
    have he := hr e (by simp)
    by_cases hn : (entBs e).length ≤ n
    · have h1 : (allBs (e :: r)).take n = entBs e ++ (allBs r).take (n - (entBs e).length) := by
        show (entBs e ++ allBs r).take n = _
        rw [List.take_append, List.take_of_length_le hn]
      rw [h1]
      have h2 : okRead (entBs e ++ (allBs r).take (n - (entBs e).length)) = some (e, (entBs e).length) := by
        unfold okRead
        rw [readE_of he]
        simp [he]
      simp only [repl, h2, wholeN, if_pos hn, List.take_succ_cons, List.drop_left]
      rw [repl_whole r f _ (fun x hx => hr x (by simp [hx])) (by simpa using hf)]
    · have h1 : (allBs (e :: r)).take n = (entBs e).take n := by
        show (entBs e ++ allBs r).take n = _
        rw [List.take_append_of_le_length (by omega)]
      have h2 : okRead ((entBs e).take n) = none := by
        unfold okRead
        rw [readE_short he (by omega)]
      rw [h1]
      simp only [repl, h2, wholeN, if_neg hn, List.take_zero]
end Go.Proofs.Yteabfjpajgakiaf

/- Bytes in memory; octet.Small, octet.Wide. -/
set_option linter.unusedSimpArgs false
set_option linter.unusedVariables false
set_option maxRecDepth 10000
namespace Go.Proofs.Yteabfjpajgakiaf
open Go.RowKit

def byCells (B : List UInt8) : List Value := B.map fun b => .int .u8 (i8 b)
def bt (l : List UInt8) : ByteArray := ⟨l.toArray⟩
theorem wrap_b8 (n : Int) : IntKind.u8.wrap n = i8 (b8 n) := by
  rw [IntKind.wrap_u8', ← b8_mod, i8_b8 (by omega) (by omega)]
def BOwn (base : Nat) (w : World) (v : Value) (B : List UInt8) : Prop := w.ownsRow base 5 1 v B.length (byCells B)
theorem BOwn.nil {base : Nat} {w : World} : BOwn base w (.slice none 0 0) [] := ⟨rfl, .inl ⟨rfl, rfl⟩⟩
theorem byCells_append (a b : List UInt8) : byCells (a ++ b) = byCells a ++ byCells b := List.map_append ..
theorem byCells_len (a : List UInt8) : (byCells a).length = a.length := List.length_map ..
theorem byCells_one (a : List UInt8) : ∀ u ∈ byCells a, u.oneCell' = true := by
  intro u hu
  obtain ⟨b, _, rfl⟩ := List.mem_map.1 hu
  rfl
theorem byCells_at {a : List UInt8} {j : Nat} (h : j < a.length) : (byCells a)[j]? = some (.int .u8 (i8 a[j])) := by
  unfold byCells
  rw [List.getElem?_map, List.getElem?_eq_getElem h]
  rfl
/-- Only what v has, and what is new, is written; and v' is where v was, or is new. -/
structure GrowsTo (w w' : World) (v v' : Value) : Prop where
  grown : w.grownBy w' v.ownBlock
  lies : ∀ k, v'.ownBlock = some k → v.ownBlock = some k ∨ w.heap.size ≤ k
theorem GrowsTo.refl (w : World) (v : Value) : GrowsTo w w v v := ⟨⟨rfl, rfl, rfl, Nat.le_refl _, fun _ _ _ => rfl⟩, fun _ h => .inl h⟩
theorem GrowsTo.trans {w1 w2 w3 : World} {a b c : Value} (h : GrowsTo w1 w2 a b) (k : GrowsTo w2 w3 b c) : GrowsTo w1 w3 a c := by
  refine ⟨⟨k.grown.os.trans h.grown.os, k.grown.tape.trans h.grown.tape, k.grown.output.trans h.grown.output, Nat.le_trans h.grown.size k.grown.size, fun i hi hne => ?_⟩, fun i hi => ?_⟩
  · rw [k.grown.block i (Nat.lt_of_lt_of_le hi h.grown.size) (fun e => ?_), h.grown.block i hi hne]
    rcases h.lies i e.symm with h1 | h1
    · exact hne h1.symm
    · omega
  · rcases k.lies i hi with h1 | h1
    · exact h.lies i h1
    · exact .inr (Nat.le_trans h.grown.size h1)
theorem GrowsTo.of {w w' : World} (v : Value) (h : Keeps w w') : GrowsTo w w' v v := ⟨⟨h.os, h.tape, h.output, h.size, fun k hk _ => h.block k hk⟩, fun _ h => .inl h⟩
theorem BOwn.own {base : Nat} {w : World} {v : Value} {B : List UInt8} (h : BOwn base w v B) {k : Nat} (hk : v.ownBlock = some k) : base ≤ k ∧ k < w.heap.size := by
  rcases h.2 with ⟨rfl, _⟩ | ⟨g, cap, cur, rfl, hb, hg, _⟩
  · cases hk
  · have e : g = k := by simpa [Value.ownBlock] using hk
    subst e
    refine ⟨hb, ?_⟩
    rcases Nat.lt_or_ge g w.heap.size with hlt | hge
    · exact hlt
    · rw [Array.getElem?_eq_none hge] at hg; cases hg
theorem GrowsTo.below {base : Nat} {w w' : World} {v v' : Value} {B : List UInt8} (h : GrowsTo w w' v v') (hv : BOwn base w v B) (hb : base ≤ w.heap.size) : Below base w w' :=
  ⟨h.grown.os, h.grown.tape, h.grown.output, h.grown.size, fun k hk => h.grown.block k (Nat.lt_of_lt_of_le hk hb) (fun e => by have := (hv.own e.symm).1; omega)⟩
theorem BOwn.keep {base : Nat} {w w' : World} {v : Value} {B : List UInt8} (h : BOwn base w v B) (hk : Keeps w w') : BOwn base w' v B := by
  rcases h.2 with ⟨rfl, h0⟩ | ⟨g, cap, cur, rfl, hb, hg, h1⟩
  · exact ⟨h.1, .inl ⟨rfl, h0⟩⟩
  · exact ⟨h.1, .inr ⟨g, cap, cur, rfl, hb, by rw [hk.block g (h.own rfl).2]; exact hg, h1⟩⟩
theorem BOwn.len {base : Nat} {w : World} {v : Value} {B : List UInt8} (h : BOwn base w v B) : ∃ a c, v = .slice a B.length c := by
  rcases h.2 with ⟨rfl, h0⟩ | ⟨g, cap, cur, rfl, _⟩
  · exact ⟨_, _, by rw [h0]⟩
  · exact ⟨_, _, rfl⟩
theorem infoByte : ∃ i, Try.prog.info? 5 = some i ∧ i.zero = some (.int .u8 0) ∧ i.size = 1 ∧ i.bytes = 1 := ⟨_, rfl, rfl, rfl, rfl⟩
theorem run_append_bytes (w : World) (base : Nat) (hb : base ≤ w.heap.size) (ty : TypeId) (v : Value) (B : List UInt8) (hown : BOwn base w v B) (ad : Addr) (c : Nat) (N : List UInt8) (hN : ∀ j u, (byCells N)[j]? = some u → w.cell? (ad.add j) = some u) (hm : 0 < N.length) (hlen : B.length + N.length ≤ 100000) :
    ∃ g cap w', (Builtin.append_ #[76, 76] ty #[v, .slice (some ad) N.length c]).run Try.prog w = .ok (.slice (some ⟨g, 0, none⟩) (B ++ N).length cap) w' ∧ BOwn base w' (.slice (some ⟨g, 0, none⟩) (B ++ N).length cap) (B ++ N) ∧ GrowsTo w w' v (.slice (some ⟨g, 0, none⟩) (B ++ N).length cap) := by
  obtain ⟨i, hi, hz, hs, hby⟩ := infoByte
  obtain ⟨g, cap, w', h1, h2, h3, h4, h5⟩ := run_append_lies (P := Try.prog) w 76 ty base 5 i _ 1 1 Try.underlying76 hi hz hs hby rfl (by decide) v B.length (byCells B) hown ad N.length c (byCells N) (by rw [byCells_len]; omega) hN (byCells_one N) hm (by unfold maxLen; omega) (by omega) hb _ rfl
  rw [← byCells_append] at h2
  rw [List.length_append]
  refine ⟨g, cap, w', h1, ?_, h3, fun k hk => ?_⟩
  · unfold BOwn
    rw [List.length_append]
    exact h2
  · have e : g = k := by simpa [Value.ownBlock] using hk
    subst e
    rcases h4 with h4 | h4
    · exact .inl h4
    · exact .inr (by omega)
theorem app_bytes {ops : Array Oper} {rest : List Oper} {o : Oper} {a : Act} {Q : Exit → Act → World → Prop} (w : World) (hg : o.guard = none) (s x : Operand) (hop : o.op = .call { callee := .builtin .append, args := #[s, x], argTypes := #[76, 76] })
    (base : Nat) (hb : base ≤ w.heap.size) (v : Value) (B : List UInt8) (hs : a.eval s = v) (hown : BOwn base w v B) (ad : Addr) (c : Nat) (N : List UInt8) (hx : a.eval x = .slice (some ad) N.length c) (hN : ∀ j u, (byCells N)[j]? = some u → w.cell? (ad.add j) = some u) (hm : 0 < N.length) (hlen : B.length + N.length ≤ 100000)
    (h : ∀ v' w', BOwn base w' v' (B ++ N) → GrowsTo w w' v v' → wpList Try.prog ops Q rest (a.put o.dst v') w') : wpList Try.prog ops Q (o :: rest) a w := by
  obtain ⟨g, cap, w', hr, h2, h3⟩ := run_append_bytes w base hb o.type v B hown ad c N hN hm hlen
  refine wpList_plain hg fun K hK => ?_
  unfold Oper.wp execOp
  simp only [hop, resolve, invoke, builtin, Sem.run_bind, Sem.run_pure, Result.andThen_ok, List.map_toArray, List.map_cons, List.map_nil, hs, hx, hr]
  exact hK _ _ (h _ w' h2 h3)
theorem new_bytes (w : World) (N : List UInt8) (t : TypeId) : ∀ j u, (byCells N)[j]? = some u → (w.alloc (.cells (byCells N).toArray t)).cell? ((⟨w.heap.size, 0, none⟩ : Addr).add j) = some u :=
  World.news_of_block (w := w.alloc (.cells (byCells N).toArray t)) (cs := (byCells N).toArray) (t := t) (fr := (0, 0)) (by simp only [World.alloc, Array.getElem?_push_size])
theorem new_byte {w : World} {m n : Int} {t : TypeId} (h : m = i8 (b8 n)) : ∀ j u, (byCells [b8 n])[j]? = some u → (w.alloc (.cells #[.int .u8 m] t)).cell? ((⟨w.heap.size, 0, none⟩ : Addr).add j) = some u := by
  rw [h]
  exact new_bytes w [b8 n] t
/-- Numbers in one block. -/
def NumsAt (w : World) (b : Nat) (N : List Int) : Prop := ∀ i n, N[i]? = some n → w.cell? ⟨b, i, none⟩ = some (.int .i64 n)
theorem NumsAt.same {w w' : World} {b : Nat} {N : List Int} (h : NumsAt w b N) (he : w'.heap[b]? = w.heap[b]?) : NumsAt w' b N := fun i n hn => (World.cell?_of_block he).trans (h i n hn)

set_option maxHeartbeats 1000000 in
theorem small_c (base : Nat) (B : List UInt8) (v : Value) (N : List Int) (nb : Nat) (w : World) (hb : base ≤ w.heap.size) (hv : BOwn base w v B) (hN : NumsAt w nb N) (hnb : nb < w.heap.size) (hne : v.ownBlock ≠ some nb) (hlen : B.length + N.length ≤ 100000) :
    Calls Try.prog 35 #[v, .slice (some ⟨nb, 0, none⟩) N.length N.length] w fun e w' => ∃ v', e = .returned v' ∧ BOwn base w' v' (B ++ N.map b8) ∧ GrowsTo w w' v v' := by
  have HV : Hid (BOwn base w v B) := hv
  have HN : Hid (NumsAt w nb N) := hN
  have HL : Hid (v.ownBlock ≠ some nb) := hne
  have HB : Hid (base ≤ w.heap.size) := hb
  have HNB : Hid (nb < w.heap.size) := hnb
  have hnl : N.length ≤ 100000 := by omega
  clear hv hN hne hb hnb
  go_enter Try.func35, Try.ntmps35
  go_wp2_with fail
  go_loopw [0, 9] (fun b i wr => ∃ (k : Nat), k ≤ N.length ∧ i = .int .i64 k ∧ Hid (BOwn base wr b (B ++ (N.take k).map b8)) ∧ Hid (GrowsTo w wr v b)) (fun _ i _ => N.length - (intOf i).toNat)
  case atStart =>
    refine ⟨0, Nat.zero_le _, rfl, ?_, GrowsTo.refl _ _⟩
    show BOwn base w v (B ++ [])
    rw [List.append_nil]
    exact HV.out
  case round =>
    obtain ⟨k, hk, rfl, HO, HG⟩ := hrel
    by_cases hlt : k < N.length
    · have hc : wr.cell? ⟨nb, k, none⟩ = some (.int .i64 N[k]) := by
        exact (HN.out.same (HG.out.grown.block nb HNB.out (fun e => HL.out e.symm))) k _ (List.getElem?_eq_getElem hlt)
      have HR : Hid (B ++ (N.take k).map b8 ++ [b8 N[k]] = B ++ (N.take (k + 1)).map b8) := by
        show _ = _
        rw [List.append_assoc, List.take_succ_eq_append_getElem hlt, List.map_append]
        rfl
      generalize N[k] = n at *
      have hb2 : base ≤ wr.heap.size := Nat.le_trans HB.out HG.out.grown.size
      have hl2 : (B ++ (N.take k).map b8).length + [b8 n].length ≤ 100000 := by simp; omega
      have hm : IntKind.u8.wrap n = i8 (b8 n) := wrap_b8 n
      go_wp2_with (first | (refine app_bytes _ rfl _ _ rfl base (Nat.le_trans hb2 (by simp)) u0 _ rfl (HO.out.keep ((Keeps.refl _).alloc _)) ⟨wr.heap.size, 0, none⟩ 1 [b8 n] rfl (new_byte rfl) (by simp) hl2 ?_; intro v2 w2 hO2 hG2))
      go_roundw
      case rel => exact ⟨k + 1, by omega, by go_num, by rw [← HR.out]; exact hO2, (HG.out.trans (GrowsTo.of _ ((Keeps.refl _).alloc _))).trans hG2⟩
      case measure => simp [intOf]; omega
    · have e : k = N.length := by omega
      subst e
      have hO := HO.out
      rw [List.take_length] at hO
      go_wp2_with fail
      go_ret
      exact ⟨_, rfl, hO, HG.out⟩
theorem new_nums (w : World) (N : List Int) (t : TypeId) : NumsAt (w.alloc (.cells (N.map (Value.int .i64)).toArray t)) w.heap.size N := fun i n hn => by
  have h := World.news_of_block (w := w.alloc (.cells (N.map (Value.int .i64)).toArray t)) (B := w.heap.size) (cs := (N.map (Value.int .i64)).toArray) (t := t) (fr := (0, 0)) (by simp only [World.alloc, Array.getElem?_push_size]) i (.int .i64 n) (by simp [hn])
  have e : (⟨w.heap.size, 0, none⟩ : Addr).add i = ⟨w.heap.size, i, none⟩ := by unfold Addr.add; split <;> simp_all
  rw [e] at h
  exact h
/-- Numbers, two bytes each. -/
def wides : List Int → List UInt8
  | [] => []
  | n :: r => wide n ++ wides r
theorem wides_append : ∀ (a b : List Int), wides (a ++ b) = wides a ++ wides b
  | [], _ => rfl
  | n :: r, b => by
    show wide n ++ wides (r ++ b) = (wide n ++ wides r) ++ wides b
    rw [wides_append r b, List.append_assoc]
theorem wides_len : ∀ (a : List Int), (wides a).length = 2 * a.length
  | [] => rfl
  | n :: r => by
    show (wide n ++ wides r).length = _
    rw [List.length_append, wides_len r]
    simp [wide]
    omega

set_option maxHeartbeats 1000000 in
theorem wide_c (base : Nat) (B : List UInt8) (v : Value) (N : List Int) (nb : Nat) (w : World) (hb : base ≤ w.heap.size) (hv : BOwn base w v B) (hN : NumsAt w nb N) (hnb : nb < w.heap.size) (hne : v.ownBlock ≠ some nb) (hlen : B.length + 2 * N.length ≤ 100000) :
    Calls Try.prog 36 #[v, .slice (some ⟨nb, 0, none⟩) N.length N.length] w fun e w' => ∃ v', e = .returned v' ∧ BOwn base w' v' (B ++ wides N) ∧ GrowsTo w w' v v' := by
  have HV : Hid (BOwn base w v B) := hv
  have HN : Hid (NumsAt w nb N) := hN
  have HL : Hid (v.ownBlock ≠ some nb) := hne
  have HB : Hid (base ≤ w.heap.size) := hb
  have HNB : Hid (nb < w.heap.size) := hnb
  have hnl : N.length ≤ 100000 := by omega
  clear hv hN hne hb hnb
  go_enter Try.func36, Try.ntmps36
  go_wp2_with fail
  go_loopw [0, 9] (fun b i wr => ∃ (k : Nat), k ≤ N.length ∧ i = .int .i64 k ∧ Hid (BOwn base wr b (B ++ wides (N.take k))) ∧ Hid (GrowsTo w wr v b)) (fun _ i _ => N.length - (intOf i).toNat)
  case atStart =>
    refine ⟨0, Nat.zero_le _, rfl, ?_, GrowsTo.refl _ _⟩
    show BOwn base w v (B ++ [])
    rw [List.append_nil]
    exact HV.out
  case round =>
    obtain ⟨k, hk, rfl, HO, HG⟩ := hrel
    by_cases hlt : k < N.length
    · have hc : wr.cell? ⟨nb, k, none⟩ = some (.int .i64 N[k]) := by
        exact (HN.out.same (HG.out.grown.block nb HNB.out (fun e => HL.out e.symm))) k _ (List.getElem?_eq_getElem hlt)
      have HR : Hid (B ++ wides (N.take k) ++ wide N[k] = B ++ wides (N.take (k + 1))) := by
        show _ = _
        rw [List.append_assoc, List.take_succ_eq_append_getElem hlt, wides_append]
        simp [wides]
      generalize N[k] = n at *
      have hb2 : base ≤ wr.heap.size := Nat.le_trans HB.out HG.out.grown.size
      have hl2 : (B ++ wides (N.take k)).length + 2 ≤ 100000 := by rw [List.length_append, wides_len, List.length_take]; omega
      have HW : Hid ([n / 256, n].map b8 = wide n) := rfl
      go_wp2_with fail
      refine (small_c base _ u0 [n / 256, n] wr.heap.size _ (Nat.le_trans hb2 (by simp)) (HO.out.keep ((Keeps.refl _).alloc _)) (new_nums wr [n / 256, n] _) (by simp) (fun e => by have := (HO.out.own e).2; omega) hl2).mono ?_
      rintro e w2 ⟨v2, rfl, hO2, hG2⟩
      rw [HW.out, HR.out] at hO2
      have HO2 : Hid (BOwn base w2 v2 (B ++ wides (N.take (k + 1)))) := hO2
      have HG2 : Hid (GrowsTo w w2 v v2) := (HG.out.trans (GrowsTo.of _ ((Keeps.refl _).alloc _))).trans hG2
      clear hO2 hG2 HO HG HR HW
      go_wp2_with fail
      go_roundw
      case rel => exact ⟨k + 1, by omega, by go_num, HO2, HG2⟩
      case measure => simp [intOf]; omega
    · have e : k = N.length := by omega
      subst e
      have hO := HO.out
      rw [List.take_length] at hO
      go_wp2_with fail
      go_ret
      exact ⟨_, rfl, hO, HG.out⟩
end Go.Proofs.Yteabfjpajgakiaf

/- An argument that is a string. -/
set_option linter.unusedSimpArgs false
set_option linter.unusedVariables false
set_option maxRecDepth 100000
namespace Go.Proofs.Yteabfjpajgakiaf
open Go.ChangeShapes Go.WideShapes Go.ChangeAt Go.RowKit Go.Joins

theorem open_str {w : World} {r : Reach} {b0 : Nat} {v : Value} (hv : Value.okWide Try.prog w r b0 9 v) : ∃ l, v = .string (bt l) := by
  obtain ⟨s, rfl⟩ := okWide_string Try.underlying9 hv
  exact ⟨s.data.toList, by cases s; simp [bt]⟩
end Go.Proofs.Yteabfjpajgakiaf

/- A table just laid; the law's row. -/
set_option linter.unusedSimpArgs false
set_option linter.unusedVariables false
namespace Go.Proofs.Yteabfjpajgakiaf
open Go.RowKit

abbrev rowS (c : Int) : Ses := ⟨c, 2, 9, [(3, 7), (5, -1)]⟩

end Go.Proofs.Yteabfjpajgakiaf

/- States: what is laid, SameOf. -/
set_option linter.unusedSimpArgs false
set_option linter.unusedVariables false
namespace Go.Proofs.Yteabfjpajgakiaf
open Go.RowKit

theorem cell_kept {W W' : World} {a : Addr} {u : Value} (h : W.cell? a = some u) (hk : Keeps W W') : W'.cell? a = some u := (Below.cell hk (World.block_lt_of_cell? _ _ h)).trans h

structure St where
  at_ : Int
  clock : Int
  v0 : Int
  v1 : Int
  v2 : Int
  v3 : Int
  tab : List Ses

end Go.Proofs.Yteabfjpajgakiaf

/- States: valsFine. -/
set_option linter.unusedSimpArgs false
set_option linter.unusedVariables false
namespace Go.Proofs.Yteabfjpajgakiaf
open Go.RowKit

def valsIn (v0 v1 v2 v3 : Int) : Bool := inB v0 0 999 && (inB v1 0 999 && (inB v2 0 999 && inB v3 0 999))

end Go.Proofs.Yteabfjpajgakiaf

/- States: inBounds. -/
set_option linter.unusedSimpArgs false
set_option linter.unusedVariables false
namespace Go.Proofs.Yteabfjpajgakiaf
open Go.RowKit

def stIn (s : St) : Bool := valsIn s.v0 s.v1 s.v2 s.v3 && (inB s.at_ 0 50 && inB s.clock 0 999)

end Go.Proofs.Yteabfjpajgakiaf

/- States: Check and StateError. -/
set_option linter.unusedSimpArgs false
set_option linter.unusedVariables false
set_option maxRecDepth 10000
namespace Go.Proofs.Yteabfjpajgakiaf
open Go.RowKit

def seenAll (c : Int) : List Ses → Bool
  | [] => true
  | s :: r => inB s.seen (c - 20) c && seenAll c r
def stErr (s : St) : Int := if stIn s then (if tabErr s.tab == 0 then (if seenAll s.clock s.tab then 0 else 1) else tabErr s.tab) else 3

end Go.Proofs.Yteabfjpajgakiaf
