/- SesG, SesH, But, SuA, OpenStu, OpenIs, SesR, StA, StB, StC, StD. -/
import Derived.Deep.RegionHeld3
import Derived.Deep.DeepCutAuto
import Derived.Test.YteabfjpajgakiagJ00
import Derived.Test.YteabfjpajgakiagJ01
/- The reference's sameSessions, SameSession, SameTables. -/
set_option linter.unusedSimpArgs false
set_option linter.unusedVariables false
namespace Go.Proofs.Yteabfjpajgakiag
open Go.RowKit

def sameKept : List (Int × Int) → List (Int × Int) → Bool
  | [], [] => true
  | (q, v) :: r, (q', v') :: r' => (q == q' && v == v') && sameKept r r'
  | _, _ => false
def sameSes (s t : Ses) : Bool := s.client == t.client && (s.acked == t.acked && (s.seen == t.seen && sameKept s.kept t.kept))

def sameTab : List Ses → List Ses → Bool
  | [], [] => true
  | s :: r, t :: r' => sameSes s t && sameTab r r'
  | _, _ => false
end Go.Proofs.Yteabfjpajgakiag

/- sess.those: the sessions that are wanted, in memory of their own. -/
set_option linter.unusedSimpArgs false
set_option linter.unusedVariables false
namespace Go.Proofs.Yteabfjpajgakiag
open Go.RowKit

/-- The answers that are kept lie in rows of the call's own. -/
def KeptsOwn (base : Nat) (w : World) : List Ses → List Value → Prop
  | [], [] => True
  | s :: r, k :: ks => w.ownsRow base 109 2 k s.kept.length (repCells s.kept) ∧ KeptsOwn base w r ks
  | _, _ => False
/-- A table of the call's own. -/
def OwnTab (base : Nat) (w : World) (v : Value) (L : List Ses) : Prop := ∃ ks, KeptsOwn base w L ks ∧ w.ownsRow base 82 4 v L.length (sesCells L ks)

theorem owns_apart {w : World} {base base' : Nat} {e e' : TypeId} {size size' : Nat} {v v' : Value} {n n' : Nat} {xs xs' : List Value} (h : w.ownsRow base e size v n xs) (h' : w.ownsRow base' e' size' v' n' xs') (hne : e ≠ e') : v.ownBlock = none ∨ v.ownBlock ≠ v'.ownBlock := by
  rcases h.2 with ⟨rfl, _⟩ | ⟨g, cap, cur, rfl, _, hg, _⟩
  · exact .inl rfl
  · rcases h'.2 with ⟨rfl, _⟩ | ⟨g', cap', cur', rfl, _, hg', _⟩
    · right; simp [Value.ownBlock]
    · right
      simp only [Value.ownBlock]
      intro e1
      injection e1 with e1
      subst e1
      rw [hg] at hg'
      simp at hg'
      exact hne hg'.2

theorem KeptsOwn.kept {base : Nat} {w w' : World} {row : Value} {m size : Nat} {ys : List Value} (hrow : w.ownsRow base 82 size row m ys) (hg : w.grownBy w' row.ownBlock) : ∀ {L : List Ses} {ks : List Value}, KeptsOwn base w L ks → KeptsOwn base w' L ks
  | [], [], _ => trivial
  | _ :: _, _ :: _, h => ⟨h.1.kept hg (owns_apart h.1 hrow (by decide)), KeptsOwn.kept hrow hg h.2⟩

theorem owns_keep {w w' : World} {base : Nat} {e : TypeId} {size : Nat} {v : Value} {n : Nat} {xs : List Value} (h : w.ownsRow base e size v n xs) (hk : Keeps w w') : w'.ownsRow base e size v n xs := by
  refine h.kept (row := none) ⟨hk.os, hk.tape, hk.output, hk.size, fun k hk' _ => hk.block k hk'⟩ ?_
  cases hv : v.ownBlock <;> simp

theorem KeptsOwn.keep {base : Nat} {w w' : World} (hk : Keeps w w') : ∀ {L : List Ses} {ks : List Value}, KeptsOwn base w L ks → KeptsOwn base w' L ks
  | [], [], _ => trivial
  | _ :: _, _ :: _, h => ⟨owns_keep h.1 hk, KeptsOwn.keep hk h.2⟩
theorem OwnTab.keep {base : Nat} {w w' : World} {v : Value} {L : List Ses} (h : OwnTab base w v L) (hk : Keeps w w') : OwnTab base w' v L := by
  obtain ⟨ks, h1, h2⟩ := h
  exact ⟨ks, h1.keep hk, owns_keep h2 hk⟩
theorem KeptsOwn.at {base : Nat} {w : World} : ∀ {L : List Ses} {ks : List Value}, KeptsOwn base w L ks → KeptsAt w L ks
  | [], [], _ => trivial
  | _ :: _, _ :: _, h => ⟨RowAt.of_owns h.1, KeptsOwn.at h.2⟩
theorem OwnTab.tab {base : Nat} {w : World} {v : Value} {L : List Ses} (h : OwnTab base w v L) : TabAt w v L := by
  obtain ⟨ks, h1, h2⟩ := h
  exact ⟨ks, h1.at, RowAt.of_owns h2⟩
theorem KeptsOwn.base {base base' : Nat} {w : World} (hb : base' ≤ base) : ∀ {L : List Ses} {ks : List Value}, KeptsOwn base w L ks → KeptsOwn base' w L ks
  | [], [], _ => trivial
  | _ :: _, _ :: _, h => ⟨owns_base h.1 hb, KeptsOwn.base hb h.2⟩
theorem OwnTab.base {base base' : Nat} {w : World} {v : Value} {L : List Ses} (h : OwnTab base w v L) (hb : base' ≤ base) : OwnTab base' w v L := by
  obtain ⟨ks, h1, h2⟩ := h
  exact ⟨ks, h1.base hb, owns_base h2 hb⟩
theorem OwnTab.nil (base : Nat) (w : World) : OwnTab base w (.slice none 0 0) [] := ⟨[], trivial, World.ownsRow_nil _ _ _ _⟩

theorem sesCells_append : ∀ (L M : List Ses) (ks ms : List Value), ks.length = L.length → sesCells (L ++ M) (ks ++ ms) = sesCells L ks ++ sesCells M ms
  | [], M, [], ms, _ => rfl
  | [], M, _ :: _, ms, h => by simp at h
  | _ :: _, M, [], ms, h => by simp at h
  | s :: L, M, k :: ks, ms, h => by simp [sesCells, sesCells_append L M ks ms (by simpa using h)]
theorem KeptsOwn.append {base : Nat} {w : World} : ∀ {L M : List Ses} {ks ms : List Value}, KeptsOwn base w L ks → KeptsOwn base w M ms → KeptsOwn base w (L ++ M) (ks ++ ms)
  | [], _, [], _, _, h => h
  | _ :: _, _, _ :: _, _, h, h' => ⟨h.1, KeptsOwn.append h.2 h'⟩
theorem KeptsOwn.len {base : Nat} {w : World} {L : List Ses} {ks : List Value} (h : KeptsOwn base w L ks) : ks.length = L.length := h.at.len

theorem sesCells_one (L : List Ses) : ∀ (ks : List Value), (∀ k ∈ ks, k.oneCell' = true) → ∀ u ∈ sesCells L ks, u.oneCell' = true := by
  induction L with
  | nil => intro ks _ u h; simp [sesCells] at h
  | cons s r ih =>
    intro ks hk u h
    cases ks with
    | nil => simp [sesCells] at h
    | cons k ks =>
      simp only [sesCells, List.mem_cons] at h
      rcases h with rfl | rfl | rfl | rfl | h
      · rfl
      · rfl
      · rfl
      · exact hk _ (List.mem_cons_self ..)
      · exact ih ks (fun k' h' => hk k' (List.mem_cons_of_mem _ h')) u h
theorem KeptsAt.one {w : World} : ∀ {L : List Ses} {ks : List Value}, KeptsAt w L ks → ∀ k ∈ ks, k.oneCell' = true
  | [], [], _, k, h => by cases h
  | _ :: _, k0 :: ks, h, k, hm => by
    rcases List.mem_cons.1 hm with rfl | hm
    · obtain ⟨a, cap, rfl, _⟩ := h.1.len; rfl
    · exact KeptsAt.one h.2 k hm

/-- 'append(out, ts...)', out the call's own, ts a table of the call's own. -/
theorem run_append_tab (w : World) (base : Nat) (v : Value) (L : List Ses) (h : OwnTab base w v L) (x : Value) (M : List Ses) (ms : List Value) (hM : KeptsOwn base w M ms) (hx : RowAt w 4 x M.length (sesCells M ms))
    (hlen : L.length + M.length ≤ 100) (hbase : base ≤ w.heap.size) :
    ∃ v' w', (Builtin.append_ #[45, 45] 45 #[v, x]).run Try.prog w = .ok v' w' ∧ OwnTab base w' v' (L ++ M) ∧ w.grownBy w' v.ownBlock ∧ (∀ k, v.ownBlock = some k → base ≤ k) := by
  obtain ⟨ks, h1, h2⟩ := h
  obtain ⟨v', w', hr, ho, hg⟩ := run_append_read w base 45 45 82 4 48 _ infoSes Try.underlying45 rfl (by decide) v L.length _ h2 x M.length _ hx (sesCells_one M ms hM.at.one) (by unfold maxLen; omega) (by omega) hbase
  refine ⟨v', w', hr, ⟨ks ++ ms, (h1.kept h2 hg).append (hM.kept h2 hg), ?_⟩, hg, fun k hk => (h2.lt k hk).1⟩
  rw [sesCells_append _ _ _ _ h1.len, List.length_append]
  exact ho

/-- A row that has just been laid, with one session in it. -/
theorem row_one (w : World) (s : Ses) (k : Value) : RowAt (w.alloc (.cells #[.int .i64 s.client, .int .i64 s.acked, .int .i64 s.seen, k] 82)) 4 (.slice (some ⟨w.heap.size, 0, none⟩) 1 1) [s].length (sesCells [s] [k]) := by
  refine ⟨rfl, by unfold maxLen; simp, .inr ⟨⟨w.heap.size, 0, none⟩, 1, rfl, fun j u hu => ?_⟩⟩
  rw [Addr.add_lit, Nat.zero_add, World.cell?_alloc_new]
  simpa [sesCells] using hu

theorem filter_take {p : Ses → Bool} {L : List Ses} {k : Nat} (h : k < L.length) : (L.take (k + 1)).filter p = (L.take k).filter p ++ (if p (L[k]) then [L[k]] else []) := by
  rw [List.take_succ_eq_append_getElem h, List.filter_append]
  cases hp : p (L[k]) <;> simp [hp]

set_option maxHeartbeats 2000000 in
theorem those_c (f : Nat) (cv : Value) (p : Ses → Bool) (L : List Ses) (v : Value) (w : World) (hT : TabAt w v L) (h3 : L.length ≤ 3) (hk3 : ∀ s ∈ L, s.kept.length ≤ 3)
    (hcall : ∀ args W, (callFunc f args).run Try.prog W = .ok (.enter f args) W)
    (hcl : Hid (∀ (W : World) (s : Ses) (kv : Value), Keeps w W → KeptAt W kv s.kept → Calls Try.prog f #[sesV s kv, cv] W fun e w' => e = .returned (.bool (p s)) ∧ Keeps W w')) :
    Calls Try.prog 77 #[v, .func (.func f) #[] #[cv]] w fun e w' => ∃ v', OwnTab w.heap.size w' v' (L.filter p) ∧ e = .returned v' ∧ Keeps w w' := by
  obtain ⟨a, cap, rfl, hlen⟩ := hT.len
  unfold maxLen at hlen
  have HT : Hid (TabAt w (.slice a L.length cap) L) := hT
  have HK3 : Hid (∀ s ∈ L, s.kept.length ≤ 3) := hk3
  clear hT hk3
  go_enter Try.func77, Try.ntmps77
  go_wp2_with fail
  go_loopw [5, 10] (fun o i wr => ∃ (k : Nat), k ≤ L.length ∧ i = .int .i64 k ∧ Keeps w wr ∧ Hid (OwnTab w.heap.size wr o ((L.take k).filter p))) (fun _ i _ => L.length - (intOf i).toNat)
  case atStart => exact ⟨0, Nat.zero_le _, rfl, Keeps.refl _, OwnTab.nil _ _⟩
  case round =>
    obtain ⟨k, hk, rfl, hkw, HO⟩ := hrel
    by_cases hlt : k < L.length
    · obtain ⟨b, off, cap', hv, hcell⟩ := (HT.out.keep hkw).at hlt
      injection hv with hv1 hv2 hv3
      subst hv1
      clear hv2 hv3
      obtain ⟨c0, c1, c2, ka, kc, c3, hkv⟩ := hcell k hlt
      clear hcell
      have HKV : Hid (KeptAt wr (.slice ka (L[k]).kept.length kc) (L[k]).kept) := hkv
      clear hkv
      have HF : Hid ((L.take (k + 1)).filter p = (L.take k).filter p ++ (if p (L[k]) then [L[k]] else [])) := filter_take hlt
      have hn3 : (L[k]).kept.length ≤ 3 := HK3.out _ (List.getElem_mem hlt)
      have hfl : ((L.take k).filter p).length ≤ 3 := Nat.le_trans (List.length_filter_le _ _) (by simp; omega)
      generalize L[k] = s at *
      generalize hO : (L.take k).filter p = O at *
      go_wp2_with fail
      refine (hcl.out _ s _ (hkw.alloc _) (HKV.out.keep ((Keeps.refl _).alloc _))).mono ?_
      rintro e w1 ⟨rfl, hb1⟩
      obtain ⟨hc1, hf1⟩ := hb1.cells
      have hz1 := hb1.size
      simp only [World.size_alloc] at hc1 hf1 hz1
      have hz1' : wr.heap.size < w1.heap.size := by omega
      have hk1 : Keeps wr w1 := ((Keeps.refl _).alloc _).trans hb1
      clear hb1
      cases hp : p s with
      | false =>
        have HO1 : Hid (OwnTab w.heap.size w1 u5 ((L.take (k + 1)).filter p)) := by show OwnTab _ _ _ _; rw [HF.out, hp]; simpa using HO.out.keep hk1
        go_wp2_with fail
        go_roundw
        case rel => exact ⟨k + 1, by omega, by go_num, hkw.trans hk1, HO1⟩
        case measure => simp [intOf]; omega
      | true =>
        go_wp2_with fail
        refine (twin_c s _ _ (HKV.out.keep hk1) hn3).mono ?_
        rintro e w2 ⟨kv', ho, rfl, hb2⟩
        obtain ⟨va, vc, rfl⟩ : ∃ va vc, kv' = .slice va s.kept.length vc := by obtain ⟨x, y, h, _⟩ := (RowAt.of_owns ho).len; exact ⟨x, y, h⟩
        have hb12 : w.heap.size ≤ w1.heap.size := Nat.le_trans hkw.size hk1.size
        have hk2 : Keeps wr w2 := hk1.trans hb2
        have hM : KeptsOwn w.heap.size (w2.alloc (.cells #[.int .i64 s.client, .int .i64 s.acked, .int .i64 s.seen, .slice va s.kept.length vc] 82)) [s] [.slice va s.kept.length vc] := ⟨owns_keep (owns_base ho hb12) ((Keeps.refl _).alloc _), trivial⟩
        obtain ⟨v', w', hr, hO', hg, hbk⟩ := run_append_tab (w2.alloc (.cells #[.int .i64 s.client, .int .i64 s.acked, .int .i64 s.seen, .slice va s.kept.length vc] 82)) w.heap.size u5 O ((HO.out.keep hk2).keep ((Keeps.refl _).alloc _)) _ [s] _ hM (row_one w2 s _) (by simp; omega) (by simp; have := hkw.size; have := hk2.size; omega)
        have hk' : Keeps w w' := keeps_grown ((hkw.trans hk2).alloc _) hg hbk
        have Hr := (show Hid (_ = _) from hr)
        have HO1 : Hid (OwnTab w.heap.size w' v' ((L.take (k + 1)).filter p)) := by show OwnTab _ _ _ _; rw [HF.out, hp]; exact hO'
        clear hr hM hO' hg hbk ho hb2 HO HF HKV
        go_wp2_with (at_builtin; refine wpList_append_run rfl _ _ _ rfl rfl rfl Hr.out ?_)
        go_roundw
        case rel => exact ⟨k + 1, by omega, by go_num, hk', HO1⟩
        case measure => simp [intOf]; omega
    · have HO1 : Hid (OwnTab w.heap.size wr u5 (L.filter p)) := by
        have := HO.out
        rw [List.take_of_length_le (by omega)] at this
        exact this
      go_wp2_with fail
      go_ret
      exact ⟨u5, HO1.out, rfl, hkw⟩
end Go.Proofs.Yteabfjpajgakiag

/- All that was there is as it was, but for one block. -/
set_option linter.unusedSimpArgs false
set_option linter.unusedVariables false
namespace Go.Proofs.Yteabfjpajgakiag
open Go.RowKit

/-- What was there is as it was, but for block b. -/
structure But (b : Nat) (a w : World) : Prop where
  os : w.os = a.os
  tape : w.tape = a.tape
  output : w.output = a.output
  size : a.heap.size ≤ w.heap.size
  block : ∀ k, k < a.heap.size → k ≠ b → w.heap[k]? = a.heap[k]?

theorem But.refl (b : Nat) (w : World) : But b w w := ⟨rfl, rfl, rfl, Nat.le_refl _, fun _ _ _ => rfl⟩
theorem But.trans {b : Nat} {x y z : World} (h : But b x y) (k : But b y z) : But b x z :=
  ⟨k.os.trans h.os, k.tape.trans h.tape, k.output.trans h.output, Nat.le_trans h.size k.size, fun i hi hb => (k.block i (Nat.lt_of_lt_of_le hi h.size) hb).trans (h.block i hi hb)⟩
theorem But.of {b : Nat} {x y : World} (h : Keeps x y) : But b x y := ⟨h.os, h.tape, h.output, h.size, fun k hk _ => h.block k hk⟩
theorem But.keeps {b : Nat} {x y z : World} (h : But b x y) (k : Keeps y z) : But b x z := h.trans (But.of k)
theorem But.set {b : Nat} {x y : World} (h : But b x y) (i : Nat) (u : Value) : But b x (y.setCell ⟨b, i, none⟩ u) :=
  h.trans ⟨rfl, rfl, rfl, by simp [World.setCell], fun k _ hk => Below.heap_setCell _ _ _ _ hk⟩
/-- Where the block is younger than all that was there. -/
theorem But.to {b : Nat} {a x y : World} (ha : Keeps a x) (hb : a.heap.size ≤ b) (h : But b x y) : Keeps a y :=
  Below.trans ha (⟨h.os, h.tape, h.output, h.size, fun k hk => h.block k (Nat.lt_of_lt_of_le hk ha.size) (by omega)⟩ : Below a.heap.size x y)
theorem But.cell {b : Nat} {x y : World} (h : But b x y) {p : Addr} (hp : p.block < x.heap.size) (hb : p.block ≠ b) : y.cell? p = x.cell? p := World.cell?_of_block (w := x) (h.block p.block hp hb)
theorem But.frozen {b : Nat} {x y : World} (h : But b x y) {p : Addr} (hp : p.block < x.heap.size) (hb : p.block ≠ b) : y.frozen? p = x.frozen? p := World.frozen?_of_block (w := x) (h.block p.block hp hb)
theorem But.at {b : Nat} {x y : World} (h : But b x y) {p : Addr} {u : Value} (hu : x.cell? p = some u) (hb : p.block ≠ b) : y.cell? p = some u := (h.cell (World.block_lt_of_cell? _ _ hu) hb).trans hu

/-- It lies apart from block b. -/
def KeptFar (b : Nat) (w : World) (v : Value) (l : List (Int × Int)) : Prop := ∀ w', But b w w' → KeptAt w' v l
def TabFar (b : Nat) (w : World) (v : Value) (L : List Ses) : Prop := ∀ w', But b w w' → TabAt w' v L
theorem KeptFar.kept {b : Nat} {w : World} {v : Value} {l : List (Int × Int)} (h : KeptFar b w v l) : KeptAt w v l := h w (But.refl _ _)
theorem TabFar.tab {b : Nat} {w : World} {v : Value} {L : List Ses} (h : TabFar b w v L) : TabAt w v L := h w (But.refl _ _)
theorem KeptFar.go {b : Nat} {w w' : World} {v : Value} {l : List (Int × Int)} (h : KeptFar b w v l) (k : But b w w') : KeptFar b w' v l := fun _ h' => h _ (k.trans h')
theorem TabFar.go {b : Nat} {w w' : World} {v : Value} {L : List Ses} (h : TabFar b w v L) (k : But b w w') : TabFar b w' v L := fun _ h' => h _ (k.trans h')

/-- What was there ahead of the block. -/
theorem KeptAt.far {b : Nat} {w w' : World} {v : Value} {l : List (Int × Int)} (h : KeptAt w v l) (hk : Keeps w w') (hb : w.heap.size ≤ b) : KeptFar b w' v l := fun _ h' => h.keep (But.to hk hb h')
theorem TabAt.far {b : Nat} {w w' : World} {v : Value} {L : List Ses} (h : TabAt w v L) (hk : Keeps w w') (hb : w.heap.size ≤ b) : TabFar b w' v L := fun _ h' => h.keep (But.to hk hb h')

theorem owns_far {b base : Nat} {w w' : World} {e : TypeId} {size : Nat} {v : Value} {n : Nat} {xs : List Value} (h : w.ownsRow base e size v n xs) (hb : b < base) (hk : But b w w') : w'.ownsRow base e size v n xs := by
  refine h.kept (row := some b) ⟨hk.os, hk.tape, hk.output, hk.size, fun k hk' hne => hk.block k hk' (fun e => hne (by rw [e]))⟩ ?_
  rcases h.2 with ⟨rfl, _⟩ | ⟨g, cap, cur, rfl, hg, _⟩
  · exact .inl rfl
  · right
    simp only [Value.ownBlock, ne_eq, Option.some.injEq]
    omega
theorem KeptsOwn.far {b base : Nat} {w w' : World} (hb : b < base) (hk : But b w w') : ∀ {L : List Ses} {ks : List Value}, KeptsOwn base w L ks → KeptsOwn base w' L ks
  | [], [], _ => trivial
  | _ :: _, _ :: _, h => ⟨owns_far h.1 hb hk, KeptsOwn.far hb hk h.2⟩
theorem OwnTab.but {b base : Nat} {w w' : World} {v : Value} {L : List Ses} (h : OwnTab base w v L) (hb : b < base) (hk : But b w w') : OwnTab base w' v L := by
  obtain ⟨ks, h1, h2⟩ := h
  exact ⟨ks, h1.far hb hk, owns_far h2 hb hk⟩
/-- What is the call's own lies apart from what was there. -/
theorem OwnTab.far {b base : Nat} {w : World} {v : Value} {L : List Ses} (h : OwnTab base w v L) (hb : b < base) : TabFar b w v L := fun _ hk => (h.but hb hk).tab
end Go.Proofs.Yteabfjpajgakiag

/- stub.Check, acked, called, call, twin.Stub; the reference's StubError, came, ack. -/
set_option linter.unusedSimpArgs false
set_option linter.unusedVariables false
set_option maxRecDepth 10000
namespace Go.Proofs.Yteabfjpajgakiag
open Go.RowKit

theorem cell_stays {W W' : World} {a : Addr} {u : Value} (h : W.cell? a = some u) (hk : Keeps W W') : W'.cell? a = some u := (Below.cell hk (World.block_lt_of_cell? _ _ h)).trans h

structure StuBox (b : Nat) (s : Stu) (t : Value) (w : World) : Prop where
  c0 : w.cell? ⟨b, 0, none⟩ = some (.int .i64 s.client)
  c1 : w.cell? ⟨b, 1, none⟩ = some (.int .i64 s.next)
  c2 : w.cell? ⟨b, 2, none⟩ = some t
  fz : ∀ i, w.frozen? ⟨b, i, none⟩ = false
theorem StuBox.lt {b : Nat} {s : Stu} {t : Value} {w : World} (h : StuBox b s t w) : b < w.heap.size := World.block_lt_of_cell? _ _ h.c0
theorem StuBox.same {b : Nat} {s : Stu} {t : Value} {w w' : World} (h : StuBox b s t w) (hb : w'.heap[b]? = w.heap[b]?) : StuBox b s t w' :=
  ⟨(World.cell?_of_block hb).trans h.c0, (World.cell?_of_block hb).trans h.c1, (World.cell?_of_block hb).trans h.c2, fun i => (World.frozen?_of_block hb).trans (h.fz i)⟩
theorem StuBox.keep {b : Nat} {s : Stu} {t : Value} {w w' : World} (h : StuBox b s t w) (hk : Keeps w w') : StuBox b s t w' := h.same (hk.block b h.lt)
theorem StuBox.other {b b' : Nat} {s : Stu} {t : Value} {w w' : World} (h : StuBox b s t w) (hk : But b' w w') (hb : b ≠ b') : StuBox b s t w' := h.same (hk.block b h.lt hb)
theorem StuBox.new (w : World) (s : Stu) (t : Value) (ht : t.cells = #[t]) (ty : TypeId) : StuBox w.heap.size s t (w.alloc (.cells #[.int .i64 s.client, .int .i64 s.next, t] ty)) := ⟨by simp [go_sem], by simp [go_sem], by simp [go_sem], fun i => by simp [go_sem]⟩
theorem StuBox.put {b : Nat} {k : Stu} {u : Value} {w : World} (h : StuBox b k u w) (s : Stu) (t : Value) : StuBox b s t (((w.setCell ⟨b, 0, none⟩ (.int .i64 s.client)).setCell ⟨b, 1, none⟩ (.int .i64 s.next)).setCell ⟨b, 2, none⟩ t) ∧ But b w (((w.setCell ⟨b, 0, none⟩ (.int .i64 s.client)).setCell ⟨b, 1, none⟩ (.int .i64 s.next)).setCell ⟨b, 2, none⟩ t) := by
  have c0 := h.c0
  have c1 := h.c1
  have c2 := h.c2
  have fz := h.fz
  exact ⟨⟨by simp [go_sem, c0, c1, c2], by simp [go_sem, c0, c1, c2], by simp [go_sem, c0, c1, c2], fun i => by simp [go_sem, fz]⟩, (((But.refl _ _).set 0 _).set 1 _).set 2 _⟩
/-- An entry's variable. -/
structure EBox (b : Nat) (e : Ent) (w : World) : Prop where
  c0 : w.cell? ⟨b, 0, none⟩ = some (.int .i64 e.kind)
  c1 : w.cell? ⟨b, 1, none⟩ = some (.int .i64 e.time)
  c2 : w.cell? ⟨b, 2, none⟩ = some (.int .i64 e.client)
  c3 : w.cell? ⟨b, 3, none⟩ = some (.int .i64 e.seq)
  c4 : w.cell? ⟨b, 4, none⟩ = some (.int .i64 e.ack)
  c5 : w.cell? ⟨b, 5, none⟩ = some (.int .i64 e.ok)
  c6 : w.cell? ⟨b, 6, none⟩ = some (.int .i64 e.okey)
  c7 : w.cell? ⟨b, 7, none⟩ = some (.int .i64 e.oto)
  c8 : w.cell? ⟨b, 8, none⟩ = some (.int .i64 e.on)
  fz : ∀ i, w.frozen? ⟨b, i, none⟩ = false
theorem EBox.lt {b : Nat} {e : Ent} {w : World} (h : EBox b e w) : b < w.heap.size := World.block_lt_of_cell? _ _ h.c0
theorem EBox.same {b : Nat} {e : Ent} {w w' : World} (h : EBox b e w) (hb : w'.heap[b]? = w.heap[b]?) : EBox b e w' := by
  have hc : ∀ i, w'.cell? ⟨b, i, none⟩ = w.cell? ⟨b, i, none⟩ := fun i => World.cell?_of_block hb
  exact ⟨(hc _).trans h.c0, (hc _).trans h.c1, (hc _).trans h.c2, (hc _).trans h.c3, (hc _).trans h.c4, (hc _).trans h.c5, (hc _).trans h.c6, (hc _).trans h.c7, (hc _).trans h.c8, fun i => (World.frozen?_of_block hb).trans (h.fz i)⟩
theorem EBox.keep {b : Nat} {e : Ent} {w w' : World} (h : EBox b e w) (hk : Keeps w w') : EBox b e w' := h.same (hk.block b h.lt)
theorem EBox.other {b b' : Nat} {e : Ent} {w w' : World} (h : EBox b e w) (hk : But b' w w') (hb : b ≠ b') : EBox b e w' := h.same (hk.block b h.lt hb)
theorem EBox.new (w : World) (e : Ent) (ty : TypeId) : EBox w.heap.size e (w.alloc (.cells #[.int .i64 e.kind, .int .i64 e.time, .int .i64 e.client, .int .i64 e.seq, .int .i64 e.ack, .int .i64 e.ok, .int .i64 e.okey, .int .i64 e.oto, .int .i64 e.on] ty)) :=
  ⟨by simp [go_sem], by simp [go_sem], by simp [go_sem], by simp [go_sem], by simp [go_sem], by simp [go_sem], by simp [go_sem], by simp [go_sem], by simp [go_sem], fun i => by simp [go_sem]⟩
theorem EBox.put {b : Nat} {k : Ent} {w : World} (h : EBox b k w) (e : Ent) : EBox b e (((((((((w.setCell ⟨b, 0, none⟩ (.int .i64 e.kind)).setCell ⟨b, 1, none⟩ (.int .i64 e.time)).setCell ⟨b, 2, none⟩ (.int .i64 e.client)).setCell ⟨b, 3, none⟩ (.int .i64 e.seq)).setCell ⟨b, 4, none⟩ (.int .i64 e.ack)).setCell ⟨b, 5, none⟩ (.int .i64 e.ok)).setCell ⟨b, 6, none⟩ (.int .i64 e.okey)).setCell ⟨b, 7, none⟩ (.int .i64 e.oto)).setCell ⟨b, 8, none⟩ (.int .i64 e.on)) ∧ But b w (((((((((w.setCell ⟨b, 0, none⟩ (.int .i64 e.kind)).setCell ⟨b, 1, none⟩ (.int .i64 e.time)).setCell ⟨b, 2, none⟩ (.int .i64 e.client)).setCell ⟨b, 3, none⟩ (.int .i64 e.seq)).setCell ⟨b, 4, none⟩ (.int .i64 e.ack)).setCell ⟨b, 5, none⟩ (.int .i64 e.ok)).setCell ⟨b, 6, none⟩ (.int .i64 e.okey)).setCell ⟨b, 7, none⟩ (.int .i64 e.oto)).setCell ⟨b, 8, none⟩ (.int .i64 e.on)) := by
  have c0 := h.c0
  have c1 := h.c1
  have c2 := h.c2
  have c3 := h.c3
  have c4 := h.c4
  have c5 := h.c5
  have c6 := h.c6
  have c7 := h.c7
  have c8 := h.c8
  have fz := h.fz
  refine ⟨⟨?_, ?_, ?_, ?_, ?_, ?_, ?_, ?_, ?_, fun i => by simp [go_sem, fz]⟩, ((((((((((But.refl _ _).set 0 _).set 1 _).set 2 _).set 3 _).set 4 _).set 5 _).set 6 _).set 7 _).set 8 _)⟩ <;> simp [go_sem, c0, c1, c2, c3, c4, c5, c6, c7, c8]

set_option maxHeartbeats 2000000 in
theorem stub_check (s : Stu) (t : Value) (w : World) (h : IntsAt w t s.came) : Calls Try.prog 9 #[stuV s t] w fun e w' => e = .returned (.int .i64 (stuErr s)) ∧ Keeps w w' := by
  obtain ⟨ta, tc, rfl, hlen⟩ := RowAt.len h
  unfold maxLen at hlen
  have HI : Hid (IntsAt w (.slice ta s.came.length tc) s.came) := h
  have HE : Hid (stuErr s = if inB s.client 1 5 && inB s.next 1 61 then (if cameOk s.next 0 s.came then 0 else 1) else 3) := rfl
  clear h
  cases q1 : inB s.client 1 5 with
  | false =>
    have HF : Hid (stuErr s = 3) := by show _ = _; rw [HE.out, q1]; rfl
    go_enter Try.func9, Try.ntmps9
    go_wp2_with (first | (go_at_call 28; refine (bound_in _ _ _ _).mono ?_; rintro e w' ⟨rfl, rfl⟩))
    go_ret
    exact ⟨ret_int HF.out.symm, (Keeps.refl _).alloc _⟩
  | true =>
    cases q2 : inB s.next 1 61 with
    | false =>
      have HF : Hid (stuErr s = 3) := by show _ = _; rw [HE.out, q1, q2]; rfl
      go_enter Try.func9, Try.ntmps9
      go_wp2_with (first | (go_at_call 28; refine (bound_in _ _ _ _).mono ?_; rintro e w' ⟨rfl, rfl⟩))
      go_ret
      exact ⟨ret_int HF.out.symm, (Keeps.refl _).alloc _⟩
    | true =>
      have hn := inB_iff.1 q2
      obtain ⟨hn1, hn2⟩ := hn
      have HF : Hid (stuErr s = if cameOk s.next 0 s.came then 0 else 1) := by show _ = _; rw [HE.out, q1, q2]; rfl
      go_enter Try.func9, Try.ntmps9
      go_wp2_with (first | (go_at_call 28; refine (bound_in _ _ _ _).mono ?_; rintro e w' ⟨rfl, rfl⟩))
      clear q1 q2
      obtain ⟨W1, hW1⟩ : ∃ W1, W1 = w.alloc (.cells #[.int .i64 s.client, .int .i64 s.next, .slice ta s.came.length tc] 24) := ⟨_, rfl⟩
      have k1 : Keeps w W1 := by rw [hW1]; exact (Keeps.refl _).alloc _
      have B1 : StuBox w.heap.size s (.slice ta s.came.length tc) W1 := by rw [hW1]; exact StuBox.new w s _ rfl 24
      have s0 := B1.c0
      have s1 := B1.c1
      have s2 := B1.c2
      have sl := B1.lt
      rw [← hW1]
      clear hW1
      have HK1 : Hid (Keeps w W1) := k1
      clear k1 B1
      go_loop [3, 19] (fun l i => ∃ (k : Nat) (p : Int), k ≤ s.came.length ∧ i = .int .i64 k ∧ l = .int .i64 p ∧ 0 ≤ p ∧ p ≤ 60 ∧ Hid (cameOk s.next 0 s.came = cameOk s.next p (s.came.drop k))) (fun _ i => s.came.length - (intOf i).toNat)
      case atStart => exact ⟨0, 0, Nat.zero_le _, rfl, rfl, by omega, by omega, rfl⟩
      case round =>
        obtain ⟨k, p, hk, rfl, rfl, hp0, hp1, HQ⟩ := hrel
        by_cases hlt : k < s.came.length
        · obtain ⟨b, off, cap', hv, c1⟩ := (HI.out.keep HK1.out).at hlt
          injection hv with hv1 hv2 hv3
          subst hv1
          clear hv2 hv3
          have HR : Hid (cameOk s.next 0 s.came = (inB (s.came[k]) (p + 1) (s.next - 1) && cameOk s.next (s.came[k]) (s.came.drop (k + 1)))) := HQ.out.trans (cameOk_at hlt)
          clear HQ
          generalize s.came[k] = n at *
          cases qi : inB n (p + 1) (s.next - 1) with
          | false =>
            have HN : Hid (stuErr s = 1) := by show _ = _; rw [HF.out, HR.out, qi]; rfl
            go_wp2_with (first | (go_at_call 28; refine (bound_in _ _ _ _).mono ?_; rintro e w' ⟨rfl, rfl⟩))
            go_ret
            exact ⟨ret_int HN.out.symm, HK1.out⟩
          | true =>
            have hb := inB_iff.1 qi
            have HN : Hid (cameOk s.next 0 s.came = cameOk s.next n (s.came.drop (k + 1))) := by show _ = _; rw [HR.out, qi]; rfl
            go_wp2_with (first | (go_at_call 28; refine (bound_in _ _ _ _).mono ?_; rintro e w' ⟨rfl, rfl⟩))
            go_round
            case rel => exact ⟨k + 1, n, by omega, by go_num, rfl, by omega, by omega, HN⟩
            case measure => simp [intOf]; omega
        · have HN : Hid (stuErr s = 0) := by show _ = _; rw [HF.out, HQ.out, List.drop_of_length_le (by omega)]; rfl
          go_wp2_with fail
          go_ret
          exact ⟨ret_int HN.out.symm, HK1.out⟩

set_option maxHeartbeats 2000000 in
theorem stub_acked (s : Stu) (t : Value) (w : World) (h : IntsAt w t s.came) : Calls Try.prog 39 #[stuV s t] w fun e w' => e = .returned (.int .i64 (ackOf s.came)) ∧ Keeps w w' := by
  obtain ⟨ta, tc, rfl, hlen⟩ := RowAt.len h
  unfold maxLen at hlen
  have HI : Hid (IntsAt w (.slice ta s.came.length tc) s.came) := h
  clear h
  go_enter Try.func39, Try.ntmps39
  go_wp2_with fail
  obtain ⟨W1, hW1⟩ : ∃ W1, W1 = w.alloc (.cells #[.int .i64 s.client, .int .i64 s.next, .slice ta s.came.length tc] 24) := ⟨_, rfl⟩
  have k1 : Keeps w W1 := by rw [hW1]; exact (Keeps.refl _).alloc _
  have B1 : StuBox w.heap.size s (.slice ta s.came.length tc) W1 := by rw [hW1]; exact StuBox.new w s _ rfl 24
  have s0 := B1.c0
  have s1 := B1.c1
  have s2 := B1.c2
  have sl := B1.lt
  rw [← hW1]
  clear hW1
  have HK1 : Hid (Keeps w W1) := k1
  clear k1 B1
  go_loop [8] (fun i => ∃ (k : Nat), k ≤ s.came.length ∧ i = .int .i64 k ∧ Hid (ackOf s.came = ackFrom k (s.came.drop k))) (fun i => s.came.length - (intOf i).toNat)
  case atStart => exact ⟨0, Nat.zero_le _, rfl, rfl⟩
  case round =>
    obtain ⟨k, hk, rfl, HQ⟩ := hrel
    by_cases hlt : k < s.came.length
    · obtain ⟨b, off, cap', hv, c1⟩ := (HI.out.keep HK1.out).at hlt
      injection hv with hv1 hv2 hv3
      subst hv1
      clear hv2 hv3
      have HR : Hid (ackOf s.came = if s.came[k] == (k : Int) + 1 then ackFrom (k + 1) (s.came.drop (k + 1)) else k) := HQ.out.trans (ackFrom_at hlt)
      clear HQ
      generalize s.came[k] = n at *
      cases qn : (n == (k : Int) + 1) with
      | true =>
        have qn' : (n != (k : Int) + 1) = false := by simp [bne, qn]
        have HN : Hid (ackOf s.came = ackFrom (k + 1) (s.came.drop (k + 1))) := by show _ = _; rw [HR.out, qn]; rfl
        go_wp2_with fail
        go_round
        case rel => exact ⟨k + 1, by omega, by go_num, HN⟩
        case measure => simp [intOf]; omega
      | false =>
        have qn' : (n != (k : Int) + 1) = true := by simp [bne, qn]
        have HN : Hid (ackOf s.came = k) := by show _ = _; rw [HR.out, qn]; rfl
        go_wp2_with fail
        go_ret
        exact ⟨ret_int (by rw [HN.out]), HK1.out⟩
    · have HN : Hid (ackOf s.came = s.came.length) := by
        show _ = _
        rw [HQ.out, List.drop_of_length_le (by omega)]
        show k = _
        omega
      go_wp2_with fail
      go_ret
      exact ⟨ret_int (by rw [HN.out]), HK1.out⟩

theorem stub_called (s : Stu) (q : Int) (t : Value) (w : World) (h1 : 1 ≤ s.next) (h2 : s.next ≤ 61) : Calls Try.prog 31 #[stuV s t, .int .i64 q] w fun e w' => e = .returned (.bool (inB q 1 (s.next - 1))) ∧ Keeps w w' := by
  go_enter Try.func31, Try.ntmps31
  go_wp2_with (first | (go_at_call 28; refine (bound_in _ _ _ _).mono ?_; rintro e w' ⟨rfl, rfl⟩))
  go_ret
  exact ⟨rfl, (Keeps.refl _).alloc _⟩

set_option maxHeartbeats 2000000 in
theorem twin_stub (s : Stu) (t : Value) (w : World) (h : IntsAt w t s.came) (hl : s.came.length ≤ 1000) : Calls Try.prog 22 #[stuV s t] w fun e w' => ∃ qa qc, Hid (w'.ownsRow (w.heap.size + 2) 3 1 (.slice qa s.came.length qc) s.came.length (intCells s.came)) ∧ e = .returned (stuV s (.slice qa s.came.length qc)) ∧ Keeps w w' := by
  obtain ⟨ta, tc, rfl, hlen⟩ := RowAt.len h
  unfold maxLen at hlen
  have HI : Hid (IntsAt w (.slice ta s.came.length tc) s.came) := h
  clear h
  go_enter Try.func22, Try.ntmps22
  obtain ⟨W1, hW1⟩ : ∃ W1, W1 = (w.alloc (.cells #[.int .i64 s.client, .int .i64 s.next, .slice ta s.came.length tc] 24)).alloc (.cells #[.int .i64 0, .int .i64 0, .slice none 0 0] 24) := ⟨_, rfl⟩
  have k1 : Keeps w W1 := by rw [hW1]; exact ((Keeps.refl _).alloc _).alloc _
  have B1 : StuBox w.heap.size s (.slice ta s.came.length tc) W1 := by rw [hW1]; exact (StuBox.new w s _ rfl 24).keep ((Keeps.refl _).alloc _)
  have Z1 : StuBox (w.heap.size + 1) zeroStu (.slice none 0 0) W1 := by
    rw [hW1]
    have := StuBox.new (w.alloc (.cells #[.int .i64 s.client, .int .i64 s.next, .slice ta s.came.length tc] 24)) zeroStu (.slice none 0 0) rfl 24
    simp only [World.size_alloc] at this
    exact this
  have hz1 : W1.heap.size = w.heap.size + 2 := by rw [hW1]; simp
  obtain ⟨v', w2, hr, ho, hg⟩ := run_append_read W1 W1.heap.size 22 22 3 1 8 _ infoInt Try.underlying22 rfl (by decide) (.slice none 0 0) 0 [] (World.ownsRow_nil _ _ _ _) _ s.came.length (intCells s.came) (HI.out.keep k1) (by intro u hu; simp [intCells] at hu; obtain ⟨a, _, rfl⟩ := hu; rfl) (by unfold maxLen; omega) (by omega) (Nat.le_refl _)
  have k12 : Keeps W1 w2 := keeps_grown (Keeps.refl _) hg (fun k h => by simp [Value.ownBlock] at h)
  rw [Nat.zero_add, List.nil_append] at ho
  obtain ⟨qa, qc, rfl, _⟩ := (RowAt.of_owns ho).len
  rw [hW1] at hr
  have Hr := (show Hid (_ = _) from hr)
  have HO := (show Hid _ from ho)
  have HK2 : Hid (Keeps w w2) := k1.trans k12
  have B2 := B1.keep k12
  have HZ2 : Hid (StuBox (w.heap.size + 1) zeroStu (.slice none 0 0) w2) := Z1.keep k12
  have HZ5 : Hid (W1.heap.size = w.heap.size + 2) := hz1
  have HB2 : Hid (StuBox w.heap.size s (.slice ta s.came.length tc) w2) := B2
  have s0 := B2.c0
  have s1 := B2.c1
  have s2 := B2.c2
  have sf := B2.fz
  have sl := B2.lt
  have z0 := HZ2.out.c0
  have z1 := HZ2.out.c1
  have z2 := HZ2.out.c2
  have zf := HZ2.out.fz
  have zl := HZ2.out.lt
  clear hr ho hg k1 k12 B1 Z1 B2 hz1 hW1
  go_wp2_with (at_builtin; refine wpList_append_run rfl _ _ _ rfl rfl rfl Hr.out ?_)
  have b1 : But w.heap.size w2 (w2.setCell ⟨w.heap.size, 2, none⟩ (.slice qa s.came.length qc)) := (But.refl _ _).set 2 _
  have zz := HZ2.out.other b1 (by omega)
  have BP := zz.put s (.slice qa s.came.length qc)
  have c0 := BP.1.c0
  have c1 := BP.1.c1
  have c2 := BP.1.c2
  have hz := HZ5.out
  refine bodyPost_ret (v := stuV s (.slice qa s.came.length qc)) ?_ rfl ?_
  · simp only [results, Try.results22, go_sem, c0, c1, c2]
    simp [go_sem, c0, c1, c2]
  · have ho := HO.out
    rw [hz] at ho
    exact ⟨qa, qc, owns_far (owns_far ho (by omega) b1) (by omega) BP.2, rfl, But.to (But.to HK2.out (Nat.le_refl _) b1) (by omega) BP.2⟩

set_option maxHeartbeats 4000000 in
theorem stub_call (s : Stu) (time seq o0 o1 o2 o3 : Int) (t : Value) (w : World) (h : IntsAt w t s.came) : Calls Try.prog 21 #[stuV s t, .int .i64 time, .int .i64 seq, opV o0 o1 o2 o3] w fun e w' => e = .returned (.tuple #[entV (callE (stuCall s time seq (o0, o1, o2, o3))), .int .i64 (entErr (stuCall s time seq (o0, o1, o2, o3)))]) ∧ Keeps w w' := by
  obtain ⟨ta, tc, rfl, hlen⟩ := RowAt.len h
  unfold maxLen at hlen
  have HI : Hid (IntsAt w (.slice ta s.came.length tc) s.came) := h
  obtain ⟨ak, hak⟩ : ∃ ak : Int, ak = ackOf s.came := ⟨_, rfl⟩
  have HSC : Hid (stuCall s time seq (o0, o1, o2, o3) = ⟨2, time, s.client, seq, ak, o0, o1, o2, o3⟩) := by show _ = _; rw [hak]; rfl
  clear h
  rw [HSC.out]
  have HCE : Hid (callE ⟨2, time, s.client, seq, ak, o0, o1, o2, o3⟩ = if entErr ⟨2, time, s.client, seq, ak, o0, o1, o2, o3⟩ == 0 then ⟨2, time, s.client, seq, ak, o0, o1, o2, o3⟩ else zeroE) := rfl
  go_enter Try.func21, Try.ntmps21
  go_wp2_with fail
  obtain ⟨W1, hW1⟩ : ∃ W1, W1 = ((w.alloc (.cells #[.int .i64 s.client, .int .i64 s.next, .slice ta s.came.length tc] 24)).alloc (.cells #[.int .i64 o0, .int .i64 o1, .int .i64 o2, .int .i64 o3] 26)).alloc (.cells #[.int .i64 0, .int .i64 0, .int .i64 0, .int .i64 0, .int .i64 0, .int .i64 0, .int .i64 0, .int .i64 0, .int .i64 0] 28) := ⟨_, rfl⟩
  have k1 : Keeps w W1 := by rw [hW1]; exact (((Keeps.refl _).alloc _).alloc _).alloc _
  have HB1 : Hid (StuBox w.heap.size s (.slice ta s.came.length tc) W1) := by rw [hW1]; exact (StuBox.new w s _ rfl 24).keep (((Keeps.refl _).alloc _).alloc _)
  have HO1 : Hid (W1.cell? ⟨w.heap.size + 1, 0, none⟩ = some (.int .i64 o0) ∧ W1.cell? ⟨w.heap.size + 1, 1, none⟩ = some (.int .i64 o1) ∧ W1.cell? ⟨w.heap.size + 1, 2, none⟩ = some (.int .i64 o2) ∧ W1.cell? ⟨w.heap.size + 1, 3, none⟩ = some (.int .i64 o3)) := by rw [hW1]; refine ⟨?_, ?_, ?_, ?_⟩ <;> simp [go_sem]
  have HZ1 : Hid (EBox (w.heap.size + 2) zeroE W1) := by
    rw [hW1]
    have := EBox.new ((w.alloc (.cells #[.int .i64 s.client, .int .i64 s.next, .slice ta s.came.length tc] 24)).alloc (.cells #[.int .i64 o0, .int .i64 o1, .int .i64 o2, .int .i64 o3] 26)) zeroE 28
    simp only [World.size_alloc] at this
    exact this
  have HK1 : Hid (Keeps w W1) := k1
  rw [← hW1]
  clear hW1 k1
  have HC : Hid (∀ W, Keeps W1 W → Calls Try.prog 39 #[stuV s (.slice ta s.came.length tc)] W fun e w' => e = .returned (.int .i64 ak) ∧ Keeps W w') := fun W hk => by rw [hak]; exact stub_acked s _ W (HI.out.keep (HK1.out.trans hk))
  have HSA : Hid (∀ W, Keeps W1 W → W.cell? ⟨w.heap.size, 0, none⟩ = some (.int .i64 s.client) ∧ W.cell? ⟨w.heap.size, 1, none⟩ = some (.int .i64 s.next) ∧ W.cell? ⟨w.heap.size, 2, none⟩ = some (.slice ta s.came.length tc) ∧ W.cell? ⟨w.heap.size + 1, 0, none⟩ = some (.int .i64 o0) ∧ W.cell? ⟨w.heap.size + 1, 1, none⟩ = some (.int .i64 o1) ∧ W.cell? ⟨w.heap.size + 1, 2, none⟩ = some (.int .i64 o2) ∧ W.cell? ⟨w.heap.size + 1, 3, none⟩ = some (.int .i64 o3)) := fun W hk => have B := HB1.out.keep hk; ⟨B.c0, B.c1, B.c2, cell_stays HO1.out.1 hk, cell_stays HO1.out.2.1 hk, cell_stays HO1.out.2.2.1 hk, cell_stays HO1.out.2.2.2 hk⟩
  clear hak HI
  go_cut [10] (fun p wc => ∃ eb, p = .pointer (some ⟨eb, 0, none⟩) ∧ EBox eb ⟨2, time, s.client, seq, ak, o0, o1, o2, o3⟩ wc ∧ Keeps W1 wc ∧ W1.heap.size ≤ eb)
  case first =>
    obtain ⟨V0, hV0⟩ : ∃ z, z = W1.drew := ⟨_, rfl⟩
    have k0 : Keeps W1 V0 := by rw [hV0]; exact (Keeps.refl _).drew
    refine wp_region_held_drew (S := fun W => W.cell? ⟨w.heap.size, 0, none⟩ = some (.int .i64 s.client) ∧ W.cell? ⟨w.heap.size, 1, none⟩ = some (.int .i64 s.next) ∧ W.cell? ⟨w.heap.size, 2, none⟩ = some (.slice ta s.came.length tc) ∧ W.cell? ⟨w.heap.size + 1, 0, none⟩ = some (.int .i64 o0) ∧ W.cell? ⟨w.heap.size + 1, 1, none⟩ = some (.int .i64 o1) ∧ W.cell? ⟨w.heap.size + 1, 2, none⟩ = some (.int .i64 o2) ∧ W.cell? ⟨w.heap.size + 1, 3, none⟩ = some (.int .i64 o3)) (by kernel_rfl) (HSA.out _ (Keeps.refl _).drew) (fun hS => ?_)
    rw [← hV0] at hS ⊢
    clear hV0
    refine wpAnyH_take (i := 0) (v := .int .i64 time) rfl (by kernel_rfl) (by kernel_rfl) (by kernel_rfl) (fun _ _ _ h => h) (Or.inl ⟨by rfl, ?_⟩) hS ?_
    · intro w hS; go_simp
    refine wpAnyH_take (i := 1) (v := .pointer (some ⟨w.heap.size, 0, none⟩)) rfl (by kernel_rfl) (by kernel_rfl) (by kernel_rfl) (fun _ _ _ h => h) (Or.inl ⟨by rfl, ?_⟩) hS ?_
    · intro w hS; go_simp
    refine wpAnyH_take (i := 2) (v := .int .i64 s.client) rfl (by kernel_rfl) (by kernel_rfl) (by kernel_rfl) (fun _ _ _ h => h) (Or.inl ⟨by rfl, ?_⟩) hS ?_
    · intro w hS; go_simp
    refine wpAnyH_take (i := 3) (v := .int .i64 seq) rfl (by kernel_rfl) (by kernel_rfl) (by kernel_rfl) (fun _ _ _ h => h) (Or.inl ⟨by rfl, ?_⟩) hS ?_
    · intro w hS; go_simp
    refine wpAnyH_take (i := 4) (v := stuV s (.slice ta s.came.length tc)) rfl (by kernel_rfl) (by kernel_rfl) (by kernel_rfl) (fun _ _ _ h => h) (Or.inl ⟨by rfl, ?_⟩) hS ?_
    · intro w hS; go_simp
    refine wpAnyH_take (i := 6) (v := opV o0 o1 o2 o3) rfl (by kernel_rfl) (by kernel_rfl) (by kernel_rfl) (fun _ _ _ h => h) (Or.inl ⟨by rfl, ?_⟩) hS ?_
    · intro w hS; go_simp
    refine wpAnyH_ready (rs := [5, 8]) (by kernel_rfl) (by simp) ?_
    refine AllReadyH.cons rfl (fun K hK => ?_) (AllReadyH.cons rfl (fun K hK => ?_) (AllReadyH.nil))
    · go_simp
      refine (HC.out V0 k0).mono ?_
      rintro y V1 ⟨rfl, hb⟩
      have k1 := k0.trans hb
      clear hb
      go_simp
      refine hK.out _ _ (HSA.out _ k1) (fun hS => ?_)
      clear hK K
      refine wpAnyH_take (i := 7) (v := .agg #[.int .i64 2, .int .i64 time, .int .i64 s.client, .int .i64 seq, .int .i64 ak, .int .i64 o0, .int .i64 o1, .int .i64 o2, .int .i64 o3]) rfl (by kernel_rfl) (by kernel_rfl) (by kernel_rfl) (fun _ _ _ h => h) (Or.inl ⟨by rfl, ?_⟩) hS ?_
      · intro w hS; go_simp
      refine wpAnyH_ready (rs := [8]) (by kernel_rfl) (by simp) ?_
      refine AllReadyH.cons rfl (fun K hK => ?_) (AllReadyH.nil)
      go_simp
      have hb : Keeps V1 (V1.alloc (.cells #[.int .i64 0, .int .i64 0, .int .i64 0, .int .i64 0, .int .i64 0, .int .i64 0, .int .i64 0, .int .i64 0, .int .i64 0] 28)) := (Keeps.refl _).alloc _
      have HQ2 : Hid (EBox V1.heap.size zeroE (V1.alloc (.cells #[.int .i64 0, .int .i64 0, .int .i64 0, .int .i64 0, .int .i64 0, .int .i64 0, .int .i64 0, .int .i64 0, .int .i64 0] 28))) := EBox.new V1 zeroE 28
      generalize V1.alloc (.cells #[.int .i64 0, .int .i64 0, .int .i64 0, .int .i64 0, .int .i64 0, .int .i64 0, .int .i64 0, .int .i64 0, .int .i64 0] 28) = V2 at *
      have k2 := k1.trans hb
      clear hb
      refine hK.out _ _ (HSA.out _ k2) (fun hS => ?_)
      clear hK K
      refine wpAnyH_ready (rs := [9]) (by kernel_rfl) (by simp) ?_
      refine AllReadyH.cons rfl (fun K hK => ?_) (AllReadyH.nil)
      have z0 := HQ2.out.c0
      have z1 := HQ2.out.c1
      have z2 := HQ2.out.c2
      have z3 := HQ2.out.c3
      have z4 := HQ2.out.c4
      have z5 := HQ2.out.c5
      have z6 := HQ2.out.c6
      have z7 := HQ2.out.c7
      have z8 := HQ2.out.c8
      have zf := HQ2.out.fz
      have zl := HQ2.out.lt
      go_simp
      have BP := HQ2.out.put ⟨2, time, s.client, seq, ak, o0, o1, o2, o3⟩
      have KF := But.to k2 k1.size BP.2
      refine hK.out _ _ (HSA.out _ KF) (fun hS => ?_)
      clear hK K
      refine wpAnyH_done (by kernel_rfl) ?_ _
      go_wp2_with fail
      go_meet
      exact ⟨_, rfl, BP.1, KF, k1.size⟩
    · go_simp
      have hb : Keeps V0 (V0.alloc (.cells #[.int .i64 0, .int .i64 0, .int .i64 0, .int .i64 0, .int .i64 0, .int .i64 0, .int .i64 0, .int .i64 0, .int .i64 0] 28)) := (Keeps.refl _).alloc _
      have HQ1 : Hid (EBox V0.heap.size zeroE (V0.alloc (.cells #[.int .i64 0, .int .i64 0, .int .i64 0, .int .i64 0, .int .i64 0, .int .i64 0, .int .i64 0, .int .i64 0, .int .i64 0] 28))) := EBox.new V0 zeroE 28
      generalize V0.alloc (.cells #[.int .i64 0, .int .i64 0, .int .i64 0, .int .i64 0, .int .i64 0, .int .i64 0, .int .i64 0, .int .i64 0, .int .i64 0] 28) = V1 at *
      have k1 := k0.trans hb
      clear hb
      refine hK.out _ _ (HSA.out _ k1) (fun hS => ?_)
      clear hK K
      refine wpAnyH_ready (rs := [5]) (by kernel_rfl) (by simp) ?_
      refine AllReadyH.cons rfl (fun K hK => ?_) (AllReadyH.nil)
      go_simp
      refine (HC.out V1 k1).mono ?_
      rintro y V2 ⟨rfl, hb⟩
      have k2 := k1.trans hb
      have HQ2 : Hid (EBox V0.heap.size zeroE V2) := HQ1.out.keep hb
      clear hb
      go_simp
      refine hK.out _ _ (HSA.out _ k2) (fun hS => ?_)
      clear hK K
      refine wpAnyH_take (i := 7) (v := .agg #[.int .i64 2, .int .i64 time, .int .i64 s.client, .int .i64 seq, .int .i64 ak, .int .i64 o0, .int .i64 o1, .int .i64 o2, .int .i64 o3]) rfl (by kernel_rfl) (by kernel_rfl) (by kernel_rfl) (fun _ _ _ h => h) (Or.inl ⟨by rfl, ?_⟩) hS ?_
      · intro w hS; go_simp
      refine wpAnyH_ready (rs := [9]) (by kernel_rfl) (by simp) ?_
      refine AllReadyH.cons rfl (fun K hK => ?_) (AllReadyH.nil)
      have z0 := HQ2.out.c0
      have z1 := HQ2.out.c1
      have z2 := HQ2.out.c2
      have z3 := HQ2.out.c3
      have z4 := HQ2.out.c4
      have z5 := HQ2.out.c5
      have z6 := HQ2.out.c6
      have z7 := HQ2.out.c7
      have z8 := HQ2.out.c8
      have zf := HQ2.out.fz
      have zl := HQ2.out.lt
      go_simp
      have BP := HQ2.out.put ⟨2, time, s.client, seq, ak, o0, o1, o2, o3⟩
      have KF := But.to k2 k0.size BP.2
      refine hK.out _ _ (HSA.out _ KF) (fun hS => ?_)
      clear hK K
      refine wpAnyH_done (by kernel_rfl) ?_ _
      go_wp2_with fail
      go_meet
      exact ⟨_, rfl, BP.1, KF, k0.size⟩
  case rest =>
    obtain ⟨eb, rfl, hE, hkc, heb⟩ := hcut
    have HEc : Hid (EBox eb ⟨2, time, s.client, seq, ak, o0, o1, o2, o3⟩ wc) := hE
    have HZc : Hid (EBox (w.heap.size + 2) zeroE wc) := HZ1.out.keep hkc
    have HKc : Hid (Keeps w wc) := HK1.out.trans hkc
    have hzz := HZ1.out.lt
    have e0 := hE.c0
    have e1 := hE.c1
    have e2 := hE.c2
    have e3 := hE.c3
    have e4 := hE.c4
    have e5 := hE.c5
    have e6 := hE.c6
    have e7 := hE.c7
    have e8 := hE.c8
    have el := hE.lt
    clear hE hkc HSA HC HB1 HO1
    simp only [] at e0 e1 e2 e3 e4 e5 e6 e7 e8
    go_wp2_with fail
    refine (ent_check ⟨2, time, s.client, seq, ak, o0, o1, o2, o3⟩ wc).mono ?_
    rintro y w2 ⟨rfl, hb⟩
    have hE2 := HEc.out.keep hb
    have HZ2 : Hid (EBox (w.heap.size + 2) zeroE w2) := HZc.out.keep hb
    have HK2 : Hid (Keeps w w2) := HKc.out.trans hb
    clear hb e0 e1 e2 e3 e4 e5 e6 e7 e8 el
    have e0 := hE2.c0
    have e1 := hE2.c1
    have e2 := hE2.c2
    have e3 := hE2.c3
    have e4 := hE2.c4
    have e5 := hE2.c5
    have e6 := hE2.c6
    have e7 := hE2.c7
    have e8 := hE2.c8
    have el := hE2.lt
    simp only [] at e0 e1 e2 e3 e4 e5 e6 e7 e8
    have z0 := HZ2.out.c0
    have z1 := HZ2.out.c1
    have z2 := HZ2.out.c2
    have z3 := HZ2.out.c3
    have z4 := HZ2.out.c4
    have z5 := HZ2.out.c5
    have z6 := HZ2.out.c6
    have z7 := HZ2.out.c7
    have z8 := HZ2.out.c8
    have zf := HZ2.out.fz
    have zl := HZ2.out.lt
    have hk := HK2.out
    have hne1 : (eb = w.heap.size + 2) = False := eq_false (by omega)
    have hne2 : (w.heap.size + 2 = eb) = False := eq_false (by omega)
    clear hE2
    obtain ⟨er, her⟩ : ∃ er, er = entErr ⟨2, time, s.client, seq, ak, o0, o1, o2, o3⟩ := ⟨_, rfl⟩
    rw [← her] at HCE ⊢
    have HER : Hid (er = entErr ⟨2, time, s.client, seq, ak, o0, o1, o2, o3⟩) := her
    clear her
    cases q : (er == 0) with
    | false =>
      have q' : (er != 0) = true := by simp [bne, q]
      have HF' : Hid (callE ⟨2, time, s.client, seq, ak, o0, o1, o2, o3⟩ = zeroE) := by show _ = _; rw [HCE.out, q]; rfl
      go_wp2_with fail
      refine bodyPost_ret (v := .tuple #[entV zeroE, .int .i64 er]) ?_ rfl ?_
      · simp [results, Try.results21, go_sem, zeroE, z0, z1, z2, z3, z4, z5, z6, z7, z8]
      · rw [HF'.out, ← HER.out]
        refine ⟨rfl, ?_⟩
        repeat refine Keeps.set ?_ (by simp <;> omega) _
        exact hk
    | true =>
      have q' : (er != 0) = false := by simp [bne, q]
      have q0 : er = 0 := by simpa using q
      have HF' : Hid (callE ⟨2, time, s.client, seq, ak, o0, o1, o2, o3⟩ = ⟨2, time, s.client, seq, ak, o0, o1, o2, o3⟩) := by show _ = _; rw [HCE.out, q]; rfl
      go_wp2_with fail
      have BP := HZ2.out.put ⟨2, time, s.client, seq, ak, o0, o1, o2, o3⟩
      have c0 := BP.1.c0
      have c1 := BP.1.c1
      have c2 := BP.1.c2
      have c3 := BP.1.c3
      have c4 := BP.1.c4
      have c5 := BP.1.c5
      have c6 := BP.1.c6
      have c7 := BP.1.c7
      have c8 := BP.1.c8
      simp only [] at c0 c1 c2 c3 c4 c5 c6 c7 c8
      refine bodyPost_ret (v := .tuple #[entV ⟨2, time, s.client, seq, ak, o0, o1, o2, o3⟩, .int .i64 0]) ?_ rfl ?_
      · simp [results, Try.results21, go_sem, c0, c1, c2, c3, c4, c5, c6, c7, c8]
      · rw [HF'.out, ← HER.out, q0]
        exact ⟨rfl, But.to HK2.out (by omega) BP.2⟩
end Go.Proofs.Yteabfjpajgakiag

/- The arguments of a law: a list of numbers, a client's stub, an op. -/
set_option linter.unusedSimpArgs false
set_option linter.unusedVariables false
set_option maxRecDepth 100000
namespace Go.Proofs.Yteabfjpajgakiag
open Go.ChangeShapes Go.WideShapes Go.ChangeAt Go.RowKit Go.Joins Go.Deep

section
variable {H : Type} {enc : TypeId × Value → H} {w : World} {base : Nat} {spare : Nat → Bool} {held : Bool}

end
end Go.Proofs.Yteabfjpajgakiag

/- The arguments of a law: a list of numbers, each of 64 bits. -/
set_option linter.unusedSimpArgs false
set_option linter.unusedVariables false
set_option maxRecDepth 100000
namespace Go.Proofs.Yteabfjpajgakiag
open Go.ChangeShapes Go.WideShapes Go.ChangeAt Go.RowKit Go.Joins Go.Deep

section
variable {H : Type} {enc : TypeId × Value → H} {w : World} {base : Nat} {spare : Nat → Bool} {held : Bool}

theorem one_int64 {n : Nat} {v : Value} {y : DataW H × List MemPlace} (h : DataW.trod enc Try.prog w base spare held n 3 [v] = some y) : ∃ a : Int, v = .int .i64 a ∧ -9223372036854775808 ≤ a ∧ a ≤ 9223372036854775807 := by
  obtain ⟨m, e, _, hw⟩ := DataW.trod_int Try.underlying3 h
  simp at e
  have := in64_of_wf hw
  unfold In64 at this
  exact ⟨m, e, by omega, by omega⟩
theorem ints_cell64 {n : Nat} {v : Value} {y : DataW H × List MemPlace} (h : DataW.trod enc Try.prog w base spare held n 22 [v] = some y) : ∃ L : List Int, IntsAt w v L ∧ ∀ x ∈ L, -9223372036854775808 ≤ x ∧ x ≤ 9223372036854775807 := by
  rcases open_slice Try.underlying22 h with ⟨h0, _⟩ | ⟨a, vl, vc, m, k, D, Pl, hv', hcp, hl, hm, hmm, _, hx⟩
  · obtain rfl : v = .slice none 0 0 := by simpa using h0
    exact ⟨[], ⟨rfl, by unfold maxLen; simp, .inl ⟨rfl, rfl⟩⟩, fun x hx => by cases hx⟩
  · obtain rfl : v = .slice (some a) vl vc := by simpa using hv'
    have hlm : vl ≤ m := by rw [hmm]; split <;> omega
    have each : ∀ i, i < vl → ∃ e : Int, w.cell? (a.add i) = some (.int .i64 e) ∧ -9223372036854775808 ≤ e ∧ e ≤ 9223372036854775807 := by
      intro i hi
      obtain ⟨cs', h1, h2⟩ := hx i (by omega)
      rw [cells3] at h1
      obtain ⟨_, hlen, hcell⟩ := World.cells?_some h1
      match cs', hlen with
      | [v0], _ =>
        obtain ⟨e, rfl, e0, e1⟩ := one_int64 h2
        refine ⟨e, ?_, e0, e1⟩
        have := hcell 0 (by omega)
        rw [add_add] at this
        simpa using this
    obtain ⟨q, hq⟩ := choose_lt each
    refine ⟨(List.range vl).map q, ⟨by simp [intCells], by simp; omega, .inr ⟨a, vc, by simp, fun j u hu => ?_⟩⟩, fun x hx' => ?_⟩
    · have hj : j < vl := by
        have := (List.getElem?_eq_some_iff.1 hu).1
        simpa [intCells] using this
      rw [(hq j hj).1]
      simpa [intCells, hj] using hu
    · obtain ⟨i, hi, rfl⟩ := List.mem_map.1 hx'
      exact (hq i (List.mem_range.1 hi)).2

/-- A list of numbers, each of 64 bits. -/
theorem open_ints64 {r : Reach} {b0 : Nat} {v : Value} {d : DataW H} {p : List MemPlace} (hv : Value.okWide Try.prog w r b0 22 v) (h : DataW.Trod enc Try.prog w base spare held 22 v d p) : ∃ (L : List Int) (a : Option Addr) (c : Nat), v = .slice a L.length c ∧ IntsAt w (.slice a L.length c) L ∧ ∀ x ∈ L, -9223372036854775808 ≤ x ∧ x ≤ 9223372036854775807 := by
  obtain ⟨va, vl, vc, rfl⟩ := okWide_slice Try.underlying22 hv
  obtain ⟨n, hn⟩ := field_of_Trod h (by simp [Value.cells])
  obtain ⟨L, h1, h2⟩ := ints_cell64 hn
  obtain ⟨a, c, e, _⟩ := RowAt.len h1
  rw [e] at h1
  exact ⟨L, a, c, e, h1, h2⟩
end
end Go.Proofs.Yteabfjpajgakiag

/- A table just laid; the law's row. -/
set_option linter.unusedSimpArgs false
set_option linter.unusedVariables false
namespace Go.Proofs.Yteabfjpajgakiag
open Go.RowKit

abbrev rowS (c : Int) : Ses := ⟨c, 2, 9, [(3, 7), (5, -1)]⟩

end Go.Proofs.Yteabfjpajgakiag

/- States: what is laid, SameOf. -/
set_option linter.unusedSimpArgs false
set_option linter.unusedVariables false
namespace Go.Proofs.Yteabfjpajgakiag
open Go.RowKit

theorem cell_kept {W W' : World} {a : Addr} {u : Value} (h : W.cell? a = some u) (hk : Keeps W W') : W'.cell? a = some u := (Below.cell hk (World.block_lt_of_cell? _ _ h)).trans h

structure St where
  at_ : Int
  clock : Int
  v0 : Int
  v1 : Int
  v2 : Int
  v3 : Int
  tab : List Ses

abbrev stV (s : St) (t : Value) : Value := .agg #[.int .i64 s.at_, .int .i64 s.clock, .int .i64 s.v0, .int .i64 s.v1, .int .i64 s.v2, .int .i64 s.v3, t]

def sameVals (s t : St) : Bool := s.v0 == t.v0 && (s.v1 == t.v1 && (s.v2 == t.v2 && s.v3 == t.v3))
def sameSt (s t : St) : Bool := s.at_ == t.at_ && (s.clock == t.clock && (sameVals s t && sameTab s.tab t.tab))

end Go.Proofs.Yteabfjpajgakiag

/- States: valsFine. -/
set_option linter.unusedSimpArgs false
set_option linter.unusedVariables false
namespace Go.Proofs.Yteabfjpajgakiag
open Go.RowKit

def valsIn (v0 v1 v2 v3 : Int) : Bool := inB v0 0 999 && (inB v1 0 999 && (inB v2 0 999 && inB v3 0 999))

end Go.Proofs.Yteabfjpajgakiag

/- States: inBounds. -/
set_option linter.unusedSimpArgs false
set_option linter.unusedVariables false
namespace Go.Proofs.Yteabfjpajgakiag
open Go.RowKit

theorem idx4 (v0 v1 v2 v3 : Int) (w : World) : (Instr.index 44 (.agg #[.int .i64 v0, .int .i64 v1, .int .i64 v2, .int .i64 v3]) (.int .i64 0)).run Try.prog w = .ok (.int .i64 v0) w ∧ (Instr.index 44 (.agg #[.int .i64 v0, .int .i64 v1, .int .i64 v2, .int .i64 v3]) (.int .i64 1)).run Try.prog w = .ok (.int .i64 v1) w ∧ (Instr.index 44 (.agg #[.int .i64 v0, .int .i64 v1, .int .i64 v2, .int .i64 v3]) (.int .i64 2)).run Try.prog w = .ok (.int .i64 v2) w ∧ (Instr.index 44 (.agg #[.int .i64 v0, .int .i64 v1, .int .i64 v2, .int .i64 v3]) (.int .i64 3)).run Try.prog w = .ok (.int .i64 v3) w :=
  ⟨by kernel_rfl, by kernel_rfl, by kernel_rfl, by kernel_rfl⟩

def stIn (s : St) : Bool := valsIn s.v0 s.v1 s.v2 s.v3 && (inB s.at_ 0 50 && inB s.clock 0 999)

set_option maxHeartbeats 4000000 in
theorem st_in_bounds (s : St) (x : Value) (w : World) (h : TabAt w x s.tab) :
    Calls Try.prog 55 #[stV s x] w fun e w' => e = .returned (.bool (stIn s)) ∧ Keeps w w' := by
  obtain ⟨a, c, rfl, _⟩ := h.len
  clear h
  obtain ⟨at_, clock, v0, v1, v2, v3, tab⟩ := s
  simp only [stIn, valsIn]
  generalize tab.length = m
  have i0 := fun w => (idx4 v0 v1 v2 v3 w).1
  have i1 := fun w => (idx4 v0 v1 v2 v3 w).2.1
  have i2 := fun w => (idx4 v0 v1 v2 v3 w).2.2.1
  have i3 := fun w => (idx4 v0 v1 v2 v3 w).2.2.2
  cases q0 : inB v0 0 999 <;> cases q1 : inB v1 0 999 <;> cases q2 : inB v2 0 999 <;> cases q3 : inB v3 0 999
  case true.true.true.true =>
    cases q4 : inB at_ 0 50 <;>
    · go_enter Try.func55, Try.ntmps55
      go_wp2_with fail
      refine wp_loop_rounds 5 ?_
      rw [rounds_succ]
      go_wp2_with (first | (go_at_call 28; refine (bound_in _ _ _ _).mono ?_; rintro e w' ⟨rfl, rfl⟩) | rw [rounds_succ])
      go_ret
      exact ⟨rfl, (Keeps.refl _).alloc _⟩
  all_goals
    go_enter Try.func55, Try.ntmps55
    go_wp2_with fail
    refine wp_loop_rounds 5 ?_
    rw [rounds_succ]
    go_wp2_with (first | (go_at_call 28; refine (bound_in _ _ _ _).mono ?_; rintro e w' ⟨rfl, rfl⟩) | rw [rounds_succ])
    go_ret
    exact ⟨rfl, (Keeps.refl _).alloc _⟩
end Go.Proofs.Yteabfjpajgakiag

/- States: Check and StateError. -/
set_option linter.unusedSimpArgs false
set_option linter.unusedVariables false
set_option maxRecDepth 10000
namespace Go.Proofs.Yteabfjpajgakiag
open Go.RowKit

def seenAll (c : Int) : List Ses → Bool
  | [] => true
  | s :: r => inB s.seen (c - 20) c && seenAll c r
theorem seenAll_at {c : Int} {L : List Ses} {k : Nat} (h : k < L.length) : seenAll c (L.drop k) = (inB (L[k]).seen (c - 20) c && seenAll c (L.drop (k + 1))) := by
  rw [List.drop_eq_getElem_cons h]; rfl
def stErr (s : St) : Int := if stIn s then (if tabErr s.tab == 0 then (if seenAll s.clock s.tab then 0 else 1) else tabErr s.tab) else 3

theorem stIn_clock {s : St} (h : stIn s = true) : 0 ≤ s.clock ∧ s.clock ≤ 999 := by
  simp only [stIn, Bool.and_eq_true] at h
  exact inB_iff.1 h.2.2

set_option maxHeartbeats 2000000 in
theorem state_check (s : St) (x : Value) (w : World) (hT : TabAt w x s.tab) :
    Calls Try.prog 46 #[stV s x] w fun e w' => e = .returned (.int .i64 (stErr s)) ∧ Keeps w w' := by
  obtain ⟨a, c, rfl, hlen⟩ := hT.len
  unfold maxLen at hlen
  have HT : Hid (TabAt w (.slice a s.tab.length c) s.tab) := hT
  clear hT
  go_enter Try.func46, Try.ntmps46
  go_wp2_with fail
  refine (st_in_bounds s _ _ (HT.out.keep ((Keeps.refl _).alloc _))).mono ?_
  rintro e w1 ⟨rfl, hb⟩
  have hk1 : Keeps w w1 := ((Keeps.refl _).alloc _).trans hb
  cases hi : stIn s with
  | false =>
    have HE : Hid (stErr s = 3) := by simp [Hid, stErr, hi]
    go_wp2_with fail
    go_ret
    exact ⟨ret_int HE.out.symm, hk1⟩
  | true =>
    obtain ⟨hc0, hc1⟩ := stIn_clock hi
    have x1 : w1.cell? ⟨w.heap.size, 1, none⟩ = some (.int .i64 s.clock) := (Below.cell hb (p := ⟨w.heap.size, 1, none⟩) (by simp)).trans (by simp [go_sem])
    have x6 : w1.cell? ⟨w.heap.size, 6, none⟩ = some (.slice a s.tab.length c) := (Below.cell hb (p := ⟨w.heap.size, 6, none⟩) (by simp)).trans (by simp [go_sem])
    clear hb
    have hlt := World.block_lt_of_cell? _ _ x6
    simp only [] at hlt
    go_wp2_with fail
    refine (sess_check s.tab _ _ (HT.out.keep hk1)).mono ?_
    rintro e w2 ⟨rfl, hb⟩
    have hk2 : Keeps w w2 := hk1.trans hb
    have x1 := cell_kept x1 hb
    have x6 := cell_kept x6 hb
    have hlt := Nat.lt_of_lt_of_le hlt hb.size
    clear hb hk1
    cases he : (tabErr s.tab == 0) with
    | false =>
      have he' : (tabErr s.tab != 0) = true := by simp [bne, he]
      have HE : Hid (stErr s = tabErr s.tab) := by simp [Hid, stErr, hi, he]
      go_wp2_with fail
      go_ret
      exact ⟨ret_int HE.out.symm, hk2⟩
    | true =>
      have he' : (tabErr s.tab != 0) = false := by simp [bne, he]
      have HS : Hid (stErr s = if seenAll s.clock s.tab then 0 else 1) := by simp [Hid, stErr, hi, he]
      clear he hi
      go_wp2_with fail
      go_loopw [18] (fun i wr => ∃ (k : Nat), k ≤ s.tab.length ∧ i = .int .i64 k ∧ Keeps w2 wr ∧ Hid (seenAll s.clock s.tab = seenAll s.clock (s.tab.drop k))) (fun i _ => s.tab.length - (intOf i).toNat)
      case atStart => exact ⟨0, Nat.zero_le _, rfl, Keeps.refl _, rfl⟩
      case round =>
        obtain ⟨k, hk, rfl, hkw, HQ⟩ := hrel
        have x1 := cell_kept x1 hkw
        have hlt := Nat.lt_of_lt_of_le hlt hkw.size
        by_cases hlt2 : k < s.tab.length
        · obtain ⟨b, off, cap', hv, hcell⟩ := (HT.out.keep (hk2.trans hkw)).at hlt2
          injection hv with hv1 hv2 hv3
          subst hv1
          clear hv2 hv3
          obtain ⟨c0, c1, c2, ka, kc, c3, hkv⟩ := hcell k hlt2
          clear hcell hkv
          have HR : Hid (seenAll s.clock s.tab = (inB (s.tab[k]).seen (s.clock - 20) s.clock && seenAll s.clock (s.tab.drop (k + 1)))) := HQ.out.trans (seenAll_at hlt2)
          clear HQ
          generalize s.tab[k] = t at *
          cases hs : inB t.seen (s.clock - 20) s.clock with
          | false =>
            have HE : Hid (stErr s = 1) := by show _ = _; rw [HS.out, HR.out, hs]; rfl
            go_wp2_with (first | (go_at_call 28; refine (bound_in _ _ _ _).mono ?_; rintro e w' ⟨rfl, rfl⟩))
            go_ret
            exact ⟨ret_int HE.out.symm, (hk2.trans hkw).alloc _⟩
          | true =>
            have HN : Hid (seenAll s.clock s.tab = seenAll s.clock (s.tab.drop (k + 1))) := by show _ = _; rw [HR.out, hs]; rfl
            clear HR
            go_wp2_with (first | (go_at_call 28; refine (bound_in _ _ _ _).mono ?_; rintro e w' ⟨rfl, rfl⟩))
            go_roundw
            case rel => exact ⟨k + 1, by omega, by go_num, hkw.alloc _, HN⟩
            case measure => simp [intOf]; omega
        · have HE : Hid (stErr s = 0) := by show _ = _; rw [HS.out, HQ.out, List.drop_of_length_le (by omega)]; rfl
          go_wp2_with fail
          go_ret
          exact ⟨ret_int HE.out.symm, hk2.trans hkw⟩
end Go.Proofs.Yteabfjpajgakiag
