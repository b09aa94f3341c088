/- Applying: the answers that a session keeps, in a row of its own: slices.DeleteFunc. -/
import Derived.Test.YthjcnbimapgdnabApC
set_option linter.unusedSimpArgs false
set_option linter.unusedVariables false
set_option maxRecDepth 10000
namespace Go.Proofs.Ythjcnbimapgdnab
open Go.RowKit

/-- A row of answers in block g. -/
def RepRow (w : World) (g cap : Nat) (xs : List Value) : Prop := ∃ cur : Array Value, w.heap[g]? = some (.cells cur 78 (0, 0)) ∧ cur.size = cap * 2 ∧ cap ≤ maxLen ∧ xs.length ≤ cap * 2 ∧ cur.toList.take xs.length = xs

theorem RepRow.lt {w : World} {g cap : Nat} {xs : List Value} (h : RepRow w g cap xs) : g < w.heap.size := by
  obtain ⟨cur, h1, _⟩ := h
  exact (Array.getElem?_eq_some_iff.1 h1).1
theorem RepRow.cell {w : World} {g cap : Nat} {xs : List Value} (h : RepRow w g cap xs) (i : Nat) (u : Value) (hu : xs[i]? = some u) : w.cell? ⟨g, i, none⟩ = some u := by
  obtain ⟨cur, h1, h2, h3, h4, h5⟩ := h
  have hi := (List.getElem?_eq_some_iff.1 hu).1
  rw [← h5, List.getElem?_take, if_pos hi] at hu
  simp [World.cell?, h1]
  simpa using hu
theorem RepRow.some {w : World} {g cap : Nat} {xs : List Value} (h : RepRow w g cap xs) (i : Nat) (hi : i < cap * 2) : ∃ u, w.cell? ⟨g, i, none⟩ = some u := by
  obtain ⟨cur, h1, h2, _⟩ := h
  refine ⟨cur[i]'(by omega), ?_⟩
  simp [World.cell?, h1, h2, hi]
theorem RepRow.frozen {w : World} {g cap : Nat} {xs : List Value} (h : RepRow w g cap xs) (i : Nat) : w.frozen? ⟨g, i, none⟩ = false := by
  obtain ⟨cur, h1, _⟩ := h
  simp [World.frozen?, h1]
theorem RepRow.set {w : World} {g cap : Nat} {xs : List Value} (h : RepRow w g cap xs) (i : Nat) (u : Value) : RepRow (w.setCell ⟨g, i, none⟩ u) g cap (xs.set i u) := by
  obtain ⟨cur, h1, h2, h3, h4, h5⟩ := h
  refine ⟨cur.setIfInBounds i u, ?_, by simpa using h2, h3, by simpa using h4, ?_⟩
  · simp [World.setCell, Array.getElem?_modify, h1]
  · simp only [List.length_set, Array.toList_setIfInBounds]
    rw [List.take_set, h5]
theorem RepRow.but {w w' : World} {g b cap : Nat} {xs : List Value} (h : RepRow w g cap xs) (hk : But b w w') (hb : g ≠ b) : RepRow w' g cap xs := by
  have hl := h.lt
  obtain ⟨cur, h1, r⟩ := h
  exact ⟨cur, (hk.block g hl hb).trans h1, r⟩
theorem RepRow.keep {w w' : World} {g cap : Nat} {xs : List Value} (h : RepRow w g cap xs) (hk : Keeps w w') : RepRow w' g cap xs := by
  have hl := h.lt
  obtain ⟨cur, h1, r⟩ := h
  exact ⟨cur, (hk.block g hl).trans h1, r⟩
theorem RepRow.take {w : World} {g cap : Nat} {xs : List Value} (h : RepRow w g cap xs) (n : Nat) : RepRow w g cap (xs.take n) := by
  obtain ⟨cur, h1, h2, h3, h4, h5⟩ := h
  refine ⟨cur, h1, h2, h3, by simp; omega, ?_⟩
  have e : List.take n xs = List.take n (List.take xs.length cur.toList) := by rw [h5]
  rw [List.length_take, e, List.take_take]

/-- The answers lie in block g (or there are none, and no row). -/
def KeptOn (g : Nat) (w : World) (kv : Value) (l : List (Int × Int)) : Prop := (kv = .slice none 0 0 ∧ l = []) ∨ ∃ cap, kv = .slice (some ⟨g, 0, none⟩) l.length cap ∧ RepRow w g cap (repCells l)

theorem KeptOn.kept {g : Nat} {w : World} {kv : Value} {l : List (Int × Int)} (h : KeptOn g w kv l) : KeptAt w kv l := by
  rcases h with ⟨rfl, rfl⟩ | ⟨cap, rfl, hr⟩
  · exact kept_nil w
  · have hc := fun i u hu => hr.cell i u hu
    obtain ⟨cur, h1, h2, h3, h4, h5⟩ := hr
    rw [repCells_len] at h4
    exact ⟨repCells_len _, by omega, .inr ⟨_, cap, rfl, fun j u hu => by rw [Addr.add_lit, Nat.zero_add]; exact hc j u hu⟩⟩
theorem KeptOn.but {g b : Nat} {w w' : World} {kv : Value} {l : List (Int × Int)} (h : KeptOn g w kv l) (hk : But b w w') (hb : g ≠ b) : KeptOn g w' kv l :=
  h.imp id fun ⟨cap, e, hr⟩ => ⟨cap, e, hr.but hk hb⟩
theorem KeptOn.keep {g : Nat} {w w' : World} {kv : Value} {l : List (Int × Int)} (h : KeptOn g w kv l) (hk : Keeps w w') : KeptOn g w' kv l :=
  h.imp id fun ⟨cap, e, hr⟩ => ⟨cap, e, hr.keep hk⟩
theorem KeptOn.of_owns {base : Nat} {w : World} {kv : Value} {l : List (Int × Int)} (h : w.ownsRow base 78 2 kv l.length (repCells l)) : ∃ g, KeptOn g w kv l ∧ base ≤ g ∧ (g < w.heap.size ∨ g = base) := by
  obtain ⟨h1, h2⟩ := h
  rcases h2 with ⟨rfl, h0⟩ | ⟨g, cap, cur, rfl, hg, hh, hn, hm, hs, ht⟩
  · exact ⟨base, .inl ⟨rfl, List.length_eq_zero_iff.1 h0⟩, Nat.le_refl _, .inr rfl⟩
  · have hr : RepRow w g cap (repCells l) := ⟨cur, hh, hs, hm, by rw [h1]; omega, by rw [h1]; exact ht⟩
    exact ⟨g, .inr ⟨cap, rfl, hr⟩, hg, .inl hr.lt⟩
/-- .. and back. -/
theorem KeptOn.owns {g : Nat} {w : World} {kv : Value} {l : List (Int × Int)} (h : KeptOn g w kv l) : w.ownsRow g 78 2 kv l.length (repCells l) := by
  refine ⟨repCells_len _, ?_⟩
  rcases h with ⟨rfl, rfl⟩ | ⟨cap, rfl, cur, h1, h2, h3, h4, h5⟩
  · exact .inl ⟨rfl, rfl⟩
  · rw [repCells_len] at h4 h5
    exact .inr ⟨g, cap, cur, rfl, Nat.le_refl _, h1, by omega, h3, h2, h5⟩

theorem fnc74 (args : Array Value) (W : World) : (callFunc 74 args).run Try.prog W = .ok (.enter 74 args) W := by kernel_rfl

theorem gone_c (sb : Nat) (ack q v : Int) (w : World) (hs : w.cell? ⟨sb, 1, none⟩ = some (.int .i64 ack)) :
    Calls Try.prog 74 #[.agg #[.int .i64 q, .int .i64 v], .pointer (some ⟨sb, 0, none⟩)] w fun e w' => e = .returned (.bool (decide (q ≤ ack))) ∧ Keeps w w' := by
  have hl := World.block_lt_of_cell? _ _ hs
  simp only [] at hl
  go_enter Try.func74, Try.ntmps74
  go_wp2_with fail
  go_ret
  exact ⟨rfl, (Keeps.refl _).alloc _⟩

abbrev delF (sb : Nat) : Value := .func (.func 74) #[] #[.pointer (some ⟨sb, 0, none⟩)]

/-- slices.IndexFunc, where none is gone. -/
theorem index_none (sb : Nat) (ack : Int) (l : List (Int × Int)) (kv : Value) (w : World) (hk : KeptAt w kv l) (h3 : l.length ≤ 3) (hs : w.cell? ⟨sb, 1, none⟩ = some (.int .i64 ack)) (hall : ∀ r ∈ l, ack < r.1) :
    Calls Try.prog 81 #[kv, delF sb] w fun e w' => e = .returned (.int .i64 (-1)) ∧ Keeps w w' := by
  obtain ⟨a, cap, rfl, hlen⟩ := hk.len
  have HK : Hid (KeptAt w (.slice a l.length cap) l) := hk
  have HALL : Hid (∀ r ∈ l, ack < r.1) := hall
  have hf := fnc74
  clear hk hall hlen
  go_enter Try.func81, Try.ntmps81
  go_wp2_with fail
  go_loopw [8] (fun i wr => ∃ (k : Nat), k ≤ l.length ∧ i = .int .i64 k ∧ Keeps w wr) (fun i _ => l.length - (intOf i).toNat)
  case atStart => exact ⟨0, Nat.zero_le _, rfl, Keeps.refl _⟩
  case round =>
    obtain ⟨k, hk, rfl, hkw⟩ := hrel
    by_cases hlt : k < l.length
    · obtain ⟨b, off, cp, hv, _, hcell⟩ := (HK.out.keep hkw).at hlt
      injection hv with hv1 hv2 hv3
      subst hv1
      clear hv2 hv3
      obtain ⟨c0, c1⟩ := hcell k hlt
      clear hcell
      have hd : decide ((l[k]).1 ≤ ack) = false := by have := HALL.out _ (List.getElem_mem hlt); simp; omega
      generalize (l[k]).1 = q at *
      generalize (l[k]).2 = v at *
      go_wp2_with fail
      refine (gone_c sb ack q v _ (cell_kept hs hkw)).mono ?_
      rintro e w1 ⟨rfl, hb⟩
      have hk1 : Keeps w w1 := hkw.trans hb
      clear hb
      go_wp2_with fail
      go_roundw
      case rel => exact ⟨k + 1, by omega, by go_num, hk1⟩
      case measure => simp [intOf]; omega
    · go_wp2_with fail
      go_ret
      exact ⟨rfl, hkw⟩

/-- .. and where the first is. -/
theorem index_first (sb : Nat) (ack q v : Int) (l : List (Int × Int)) (kv : Value) (w : World) (hk : KeptAt w kv ((q, v) :: l)) (hs : w.cell? ⟨sb, 1, none⟩ = some (.int .i64 ack)) (hq : q ≤ ack) :
    Calls Try.prog 81 #[kv, delF sb] w fun e w' => e = .returned (.int .i64 0) ∧ Keeps w w' := by
  obtain ⟨b, off, cap, rfl, hlen, hcell⟩ := hk.at (k := 0) (by simp)
  obtain ⟨c0, c1⟩ := hcell 0 (by simp)
  simp only [Nat.zero_mul, Nat.add_zero, List.getElem_cons_zero] at c0 c1
  clear hcell hk
  have hf := fnc74
  have hd : decide (q ≤ ack) = true := by simpa using hq
  simp only [List.length_cons] at *
  generalize l.length = n at *
  unfold maxLen at hlen
  go_enter Try.func81, Try.ntmps81
  go_wp2_with fail
  refine wp_loop_rounds 2 ?_
  rw [rounds_succ]
  go_wp2_with (first | (go_at_call 74; refine (gone_c sb ack q v _ hs).mono ?_; rintro e w1 ⟨rfl, hb⟩))
  go_ret
  exact ⟨rfl, hb⟩

def keptAfter (ack : Int) (l : List (Int × Int)) : List (Int × Int) := l.filter fun r => decide (ack < r.1)
theorem keptAfter_all {ack : Int} {l : List (Int × Int)} (h : ∀ r ∈ l, ack < r.1) : keptAfter ack l = l := List.filter_eq_self.2 (by simpa using h)

/-- slices.DeleteFunc, where none is gone. -/
theorem delete_none (g sb : Nat) (ack : Int) (l : List (Int × Int)) (kv : Value) (w : World) (hk : KeptOn g w kv l) (h3 : l.length ≤ 3) (hs : w.cell? ⟨sb, 1, none⟩ = some (.int .i64 ack)) (hall : ∀ r ∈ l, ack < r.1) :
    Calls Try.prog 73 #[kv, delF sb] w fun e w' => ∃ kv', KeptOn g w' kv' (keptAfter ack l) ∧ e = .returned kv' ∧ But g w w' := by
  have HK : Hid (KeptOn g w kv l) := hk
  have HI : Hid (Calls Try.prog 81 #[kv, delF sb] w fun e w' => e = .returned (.int .i64 (-1)) ∧ Keeps w w') := index_none sb ack l kv w hk.kept h3 hs hall
  rw [keptAfter_all hall]
  obtain ⟨a, cap, rfl, hlen⟩ := hk.kept.len
  clear hk hall
  go_enter Try.func73, Try.ntmps73
  go_wp2_with fail
  refine HI.out.mono ?_
  rintro e w1 ⟨rfl, hb⟩
  go_wp2_with fail
  go_ret
  exact ⟨_, HK.out.keep hb, rfl, But.of hb⟩
end Go.Proofs.Ythjcnbimapgdnab
