/- SuC, SuD, SuE, SuF, SuG, SoA, Grow, GrowI, Cel2, PkB, SoB, ChN, FoI, SuH. -/
import Derived.Laws.AppendOwnNone
import Derived.Deep.RegionHeld3
import Derived.RangeFuncRecord
import Derived.Deep.MidRow
import Derived.Deep.AppendLies
import Derived.ArgAppend
import Derived.Test.YteabfjpajgakiagJ00
import Derived.Test.YteabfjpajgakiagJ02
import Derived.Test.YteabfjpajgakiagJ03
import Derived.Test.YteabfjpajgakiagJ04
import Derived.Test.YteabfjpajgakiagJ13
import Derived.Test.YteabfjpajgakiagJ14
import Derived.Test.YteabfjpajgakiagJ15
import Derived.Test.YteabfjpajgakiagJ17
/- slices.Insert at int: WRITTEN BY tools/genSuC.py. -/
set_option linter.unusedSimpArgs false
set_option linter.unusedVariables false
set_option maxRecDepth 10000
namespace Go.Proofs.Yteabfjpajgakiag
open Go.RowKit

theorem intCells_len (l : List Int) : (intCells l).length = l.length := by simp [intCells]
theorem intCells_take (A : List Int) (i : Nat) : (intCells A).take i = intCells (A.take i) := by simp [intCells]
theorem intCells_drop (A : List Int) (i : Nat) : (intCells A).drop i = intCells (A.drop i) := by simp [intCells]
theorem intCells_append (A B : List Int) : intCells (A ++ B) = intCells A ++ intCells B := by simp [intCells]
theorem intCells_one (A : List Int) : ∀ v ∈ intCells A, v.oneCell' = true := by
  intro v hv
  simp [intCells] at hv
  obtain ⟨a, _, rfl⟩ := hv
  rfl
theorem ints_nil (w : World) : IntsAt w (.slice none 0 0) [] := RowAt.of_owns (World.ownsRow_nil w 0 3 1)

/-- A row of answers in block g. -/
def IRow (w : World) (g cap : Nat) (xs : List Value) : Prop := ∃ cur : Array Value, w.heap[g]? = some (.cells cur 3 (0, 0)) ∧ cur.size = cap ∧ cap ≤ maxLen ∧ xs.length ≤ cap ∧ cur.toList.take xs.length = xs

theorem IRow.lt {w : World} {g cap : Nat} {xs : List Value} (h : IRow w g cap xs) : g < w.heap.size := by
  obtain ⟨cur, h1, _⟩ := h
  exact (Array.getElem?_eq_some_iff.1 h1).1
theorem IRow.cell {w : World} {g cap : Nat} {xs : List Value} (h : IRow w g cap xs) (i : Nat) (u : Value) (hu : xs[i]? = some u) : w.cell? ⟨g, i, none⟩ = some u := by
  obtain ⟨cur, h1, h2, h3, h4, h5⟩ := h
  have hi := (List.getElem?_eq_some_iff.1 hu).1
  rw [← h5, List.getElem?_take, if_pos hi] at hu
  simp [World.cell?, h1]
  simpa using hu
theorem IRow.some {w : World} {g cap : Nat} {xs : List Value} (h : IRow w g cap xs) (i : Nat) (hi : i < cap) : ∃ u, w.cell? ⟨g, i, none⟩ = some u := by
  obtain ⟨cur, h1, h2, _⟩ := h
  refine ⟨cur[i]'(by omega), ?_⟩
  simp [World.cell?, h1, h2, hi]
theorem IRow.frozen {w : World} {g cap : Nat} {xs : List Value} (h : IRow w g cap xs) (i : Nat) : w.frozen? ⟨g, i, none⟩ = false := by
  obtain ⟨cur, h1, _⟩ := h
  simp [World.frozen?, h1]
theorem IRow.set {w : World} {g cap : Nat} {xs : List Value} (h : IRow w g cap xs) (i : Nat) (u : Value) : IRow (w.setCell ⟨g, i, none⟩ u) g cap (xs.set i u) := by
  obtain ⟨cur, h1, h2, h3, h4, h5⟩ := h
  refine ⟨cur.setIfInBounds i u, ?_, by simpa using h2, h3, by simpa using h4, ?_⟩
  · simp [World.setCell, Array.getElem?_modify, h1]
  · simp only [List.length_set, Array.toList_setIfInBounds]
    rw [List.take_set, h5]
theorem IRow.but {w w' : World} {g b cap : Nat} {xs : List Value} (h : IRow w g cap xs) (hk : But b w w') (hb : g ≠ b) : IRow w' g cap xs := by
  have hl := h.lt
  obtain ⟨cur, h1, r⟩ := h
  exact ⟨cur, (hk.block g hl hb).trans h1, r⟩
theorem IRow.keep {w w' : World} {g cap : Nat} {xs : List Value} (h : IRow w g cap xs) (hk : Keeps w w') : IRow w' g cap xs := by
  have hl := h.lt
  obtain ⟨cur, h1, r⟩ := h
  exact ⟨cur, (hk.block g hl).trans h1, r⟩
theorem IRow.take {w : World} {g cap : Nat} {xs : List Value} (h : IRow w g cap xs) (n : Nat) : IRow w g cap (xs.take n) := by
  obtain ⟨cur, h1, h2, h3, h4, h5⟩ := h
  refine ⟨cur, h1, h2, h3, by simp; omega, ?_⟩
  have e : List.take n xs = List.take n (List.take xs.length cur.toList) := by rw [h5]
  rw [List.length_take, e, List.take_take]

/-- The answers lie in block g (or there are none, and no row). -/
def IntsOn (g : Nat) (w : World) (kv : Value) (l : List Int) : Prop := (kv = .slice none 0 0 ∧ l = []) ∨ ∃ cap, kv = .slice (some ⟨g, 0, none⟩) l.length cap ∧ IRow w g cap (intCells l)

theorem IntsOn.kept {g : Nat} {w : World} {kv : Value} {l : List Int} (h : IntsOn g w kv l) : IntsAt w kv l := by
  rcases h with ⟨rfl, rfl⟩ | ⟨cap, rfl, hr⟩
  · exact ints_nil w
  · have hc := fun i u hu => hr.cell i u hu
    obtain ⟨cur, h1, h2, h3, h4, h5⟩ := hr
    rw [intCells_len] at h4
    exact ⟨by rw [intCells_len]; omega, by omega, .inr ⟨_, cap, rfl, fun j u hu => by rw [Addr.add_lit, Nat.zero_add]; exact hc j u hu⟩⟩
theorem IntsOn.but {g b : Nat} {w w' : World} {kv : Value} {l : List Int} (h : IntsOn g w kv l) (hk : But b w w') (hb : g ≠ b) : IntsOn g w' kv l :=
  h.imp id fun ⟨cap, e, hr⟩ => ⟨cap, e, hr.but hk hb⟩
theorem IntsOn.keep {g : Nat} {w w' : World} {kv : Value} {l : List Int} (h : IntsOn g w kv l) (hk : Keeps w w') : IntsOn g w' kv l :=
  h.imp id fun ⟨cap, e, hr⟩ => ⟨cap, e, hr.keep hk⟩
theorem IntsOn.of_owns {base : Nat} {w : World} {kv : Value} {l : List Int} (h : w.ownsRow base 3 1 kv l.length (intCells l)) : ∃ g, IntsOn g w kv l ∧ base ≤ g ∧ (g < w.heap.size ∨ g = base) := by
  obtain ⟨h1, h2⟩ := h
  rcases h2 with ⟨rfl, h0⟩ | ⟨g, cap, cur, rfl, hg, hh, hn, hm, hs, ht⟩
  · exact ⟨base, .inl ⟨rfl, List.length_eq_zero_iff.1 h0⟩, Nat.le_refl _, .inr rfl⟩
  · have hr : IRow w g cap (intCells l) := ⟨cur, hh, by omega, hm, by rw [h1]; omega, by rw [h1]; exact ht⟩
    exact ⟨g, .inr ⟨cap, rfl, hr⟩, hg, .inl hr.lt⟩
/-- .. and back. -/
theorem IntsOn.owns {g : Nat} {w : World} {kv : Value} {l : List Int} (h : IntsOn g w kv l) : w.ownsRow g 3 1 kv l.length (intCells l) := by
  refine ⟨by rw [intCells_len]; omega, ?_⟩
  rcases h with ⟨rfl, rfl⟩ | ⟨cap, rfl, cur, h1, h2, h3, h4, h5⟩
  · exact .inl ⟨rfl, rfl⟩
  · rw [intCells_len] at h4 h5
    exact .inr ⟨g, cap, cur, rfl, Nat.le_refl _, h1, by omega, h3, by omega, by rw [Nat.mul_one]; exact h5⟩

theorem IRow.setCells {g cap : Nat} : ∀ (cs : List Value) (o : Nat) {w : World} {xs : List Value}, IRow w g cap xs → IRow (w.setCells g o cs) g cap (setL xs o cs)
  | [], _, _, _, h => h
  | v :: r, o, _, _, h => IRow.setCells r (o + 1) (h.set o v)
theorem IntsOn.of_owns_at {base g n c : Nat} {w : World} {l : List Int} (h : w.ownsRow base 3 1 (.slice (some ⟨g, 0, none⟩) n c) l.length (intCells l)) : IntsOn g w (.slice (some ⟨g, 0, none⟩) n c) l := by
  obtain ⟨g', hk, _⟩ := IntsOn.of_owns h
  rcases hk with ⟨e, _⟩ | ⟨cap, e, hr⟩
  · cases e
  · injection e with e1 e2 e3
    injection e1 with e1
    injection e1 with e1
    subst e1 e2 e3
    exact .inr ⟨_, rfl, hr⟩
theorem vb_int {w : World} {vb : Nat} {q : Int} (hv : w.heap[vb]? = some (.cells #[.int .i64 q] 3 (0, 0))) : ∀ j u, [Value.int .i64 q][j]? = some u → w.cell? ((⟨vb, 0, none⟩ : Addr).add j) = some u := by
  intro j u hu
  rw [Addr.add_lit, Nat.zero_add]
  simp [World.cell?, hv]
  simpa using hu

/-- 'append(kept, answer)'. -/
theorem put_end_int (w : World) (g vb : Nat) (A : List Int) (q : Int) (kv : Value) (hk : IntsOn g w kv A) (h3 : A.length ≤ 60) (hv : w.heap[vb]? = some (.cells #[.int .i64 q] 3 (0, 0))) :
    ∃ g' kv' w', (Builtin.append_ #[22, 22] 22 #[kv, .slice (some ⟨vb, 0, none⟩) 1 1]).run Try.prog w = .ok kv' w' ∧ IntsOn g' w' kv' (A ++ [q]) ∧ (g' = g ∨ w.heap.size ≤ g') ∧ But g w w' := by
  obtain ⟨i, hi, hz, hs, hb⟩ := info_parts infoInt
  have hl : [Value.int .i64 q].length = 1 := rfl
  have h1 : ∀ u ∈ [Value.int .i64 q], u.oneCell' = true := by intro u hu; simp at hu; subst hu; rfl
  have hc := vb_int hv
  have happ : intCells A ++ [Value.int .i64 q] = intCells (A ++ [q]) := by rw [intCells_append]; rfl
  rcases hk with ⟨rfl, rfl⟩ | ⟨cap, rfl, hr⟩
  · obtain ⟨v', w', hrun, ho, hg, _⟩ := run_append_own (P := Try.prog) w w.heap.size 22 22 3 i _ 1 8 Try.underlying22 hi hz hs hb rfl (by decide) (.slice none 0 0) 0 [] (World.ownsRow_nil _ _ _ _) ⟨vb, 0, none⟩ 1 1 _ hl hc h1 (by unfold maxLen; omega) (by omega) (Nat.le_refl _)
    have ho' : w'.ownsRow w.heap.size 3 1 v' [q].length (intCells [q]) := ho
    obtain ⟨g', hk', hge, _⟩ := IntsOn.of_owns ho'
    exact ⟨g', v', w', hrun, hk', .inr hge, But.of_grown hg (fun k h => by cases h)⟩
  · have hown := IntsOn.owns (.inr ⟨cap, rfl, hr⟩ : IntsOn g w (.slice (some ⟨g, 0, none⟩) A.length cap) A)
    have hlt := hr.lt
    obtain ⟨v', w', hrun, ho, hg, _⟩ := run_append_own (P := Try.prog) w g 22 22 3 i _ 1 8 Try.underlying22 hi hz hs hb rfl (by decide) _ _ _ hown ⟨vb, 0, none⟩ 1 1 _ hl hc h1 (by unfold maxLen; omega) (by omega) (by omega)
    have hbut : But g w w' := But.of_grown hg (fun k h => by simp [Value.ownBlock] at h; exact h.symm)
    rw [happ] at ho
    have hlen : A.length + 1 = (A ++ [q]).length := by simp
    rw [hlen] at ho
    obtain ⟨cur, h1', h2, h3', h4, h5⟩ := hr
    by_cases hroom : A.length + 1 ≤ cap
    · have hr2 := run_append_room (P := Try.prog) w 22 22 3 i Try.underlying22 hi g A.length cap cur h1' ⟨vb, 0, none⟩ 1 1 _ (by rw [hs]; exact hl) hc h1 hroom (by rw [hs, h2]; simp; omega)
      rw [hrun] at hr2
      injection hr2 with e1 e2
      subst e1
      exact ⟨g, _, w', hrun, IntsOn.of_owns_at ho, .inl rfl, hbut⟩
    · have hr2 := run_append_grow (P := Try.prog) w 22 22 3 i _ Try.underlying22 hi hz ⟨g, 0, none⟩ A.length cap (intCells A) (by rw [hs, intCells_len]; omega) (hown.cells (g := g) rfl) ⟨vb, 0, none⟩ 1 1 _ (by rw [hs]; exact hl) hc (by omega) (by omega) (by rw [hb]; exact growslice_fits (by omega) (by omega))
      rw [hrun] at hr2
      injection hr2 with e1 e2
      subst e1
      exact ⟨w.heap.size, _, w', hrun, IntsOn.of_owns_at ho, .inr (Nat.le_refl _), hbut⟩

/-- 'copy(d, s)' between rows of answers. -/
theorem run_copy_int (w : World) (ty : TypeId) (b o dLen dCap : Nat) (a : Addr) (sLen sCap : Nat) (cs : List Value) (hn : cs.length = Nat.min sLen dLen)
    (hsrc : ∀ j v, cs[j]? = some v → w.cell? (a.add j) = some v) (hc : ∀ j, j < cs.length → (w.cell? ⟨b, o + j, none⟩).isSome = true) (hf : ∀ j, j < cs.length → w.frozen? ⟨b, o + j, none⟩ = false) (h1 : ∀ v ∈ cs, v.oneCell' = true) :
    (Builtin.copy_ #[22, 22] ty #[.slice (some ⟨b, o, none⟩) dLen dCap, .slice (some a) sLen sCap]).run Try.prog w = .ok (goInt (Nat.min sLen dLen)) (w.setCells b o cs) := by
  have hl := run_loadCells_list (P := Try.prog) w a cs hsrc
  have hst := run_storeCells_cells (P := Try.prog) b o cs 0 w (by simpa using hc) (by simpa using hf) h1
  obtain ⟨i, hi, hz, hs, hb⟩ := info_parts infoInt
  simp [Builtin.copy_, run_underlying Try.underlying22, Builtin.lenOf, Builtin.firstCells, sizeOf, typeInfo, hi, hs, ← hn, hl, hst]

theorem insertI_end (g vb : Nat) (A : List Int) (q : Int) (kv : Value) (w : World) (hk : IntsOn g w kv A) (h3 : A.length ≤ 60) (hv : w.heap[vb]? = some (.cells #[.int .i64 q] 3 (0, 0))) :
    Calls Try.prog 32 #[kv, .int .i64 A.length, .slice (some ⟨vb, 0, none⟩) 1 1] w fun e w' => ∃ g' kv', IntsOn g' w' kv' (A ++ [q]) ∧ (g' = g ∨ w.heap.size ≤ g') ∧ e = .returned kv' ∧ But g w w' := by
  obtain ⟨g', kv', w', hr, hk', hor, hb⟩ := put_end_int w g vb A q kv hk h3 hv
  have Hr := (show Hid (_ = _) from hr)
  obtain ⟨ka, kc, rfl, hlen⟩ := hk.kept.len
  have hcap : A.length ≤ kc ∧ kc ≤ maxLen := by
    rcases hk with ⟨e, h⟩ | ⟨cap, e, cur, _, _, h4, h5, _⟩
    · injection e with _ _ e; rw [h, e]; exact ⟨Nat.le_refl _, by unfold maxLen; omega⟩
    · injection e with _ _ e; rw [intCells_len] at h5; subst e; exact ⟨by omega, h4⟩
  obtain ⟨hc1, hc2⟩ := hcap
  unfold maxLen at hc2
  clear hr hk hv
  generalize A.length = n at *
  go_enter Try.func32, Try.ntmps32
  go_wp2_with (at_builtin; refine wpList_append_run rfl _ _ _ rfl rfl rfl Hr.out ?_)
  all_goals go_ret
  all_goals exact ⟨g', kv', hk', hor, rfl, hb⟩

theorem overI_no (w : World) (g vb o lb cb cap : Nat) (q : Int) (xs : List Value) (hr : IRow w g cap xs) (hc : 0 < cap) (hv : w.heap[vb]? = some (.cells #[.int .i64 q] 3 (0, 0))) (hne : vb ≠ g) :
    (callFunc 44 #[.slice (some ⟨vb, 0, none⟩) 1 1, .slice (some ⟨g, o, none⟩) lb cb]).run Try.prog w = .ok (.value (.bool false)) w := by
  obtain ⟨cur, h1, h2, _⟩ := hr
  have hz : ∀ w, (Go.sizeOf 3).run Try.prog w = .ok 1 w := fun _ => by kernel_rfl
  rw [run_callFunc_extern Try.func44 (by kernel_rfl) (by kernel_rfl) (by kernel_rfl) (e := Extern.SlicesOverlaps.overlaps #[22, 22] #[4]) (by kernel_rfl),
    Lib.run_overlaps_apart w 22 4 3 Try.underlying22 1 hz ⟨vb, 0, none⟩ ⟨g, o, none⟩ 1 1 lb cb hne 3 3 1 cur.size (by simp [World.shape?, hv]) (by simp [World.shape?, h1]) (by omega) (by simp [World.frozen?, hv]) (by simp [World.frozen?, hv])]
  rfl
theorem IRow.drew {w : World} {g cap : Nat} {xs : List Value} (h : IRow w g cap xs) : IRow w.drew g cap xs := h.keep (Keeps.refl _).drew
/-- The row, with as much of the spare room as is wanted. -/
theorem IRow.more {w : World} {g cap : Nat} {xs : List Value} (h : IRow w g cap xs) (n : Nat) (h1 : xs.length ≤ n) (h2 : n ≤ cap) : ∃ ys : List Value, ys.length = n - xs.length ∧ IRow w g cap (xs ++ ys) := by
  obtain ⟨cur, e1, e2, e3, e4, e5⟩ := h
  refine ⟨(cur.toList.take n).drop xs.length, by simp; omega, cur, e1, e2, e3, by simp; omega, ?_⟩
  have hl : (cur.toList.take n).length = n := by simp; omega
  rw [List.length_append, List.length_drop, hl, show xs.length + (n - xs.length) = n from by omega]
  have hx : xs = (cur.toList.take n).take xs.length := by rw [List.take_take, Nat.min_eq_left h1, e5]
  exact (List.take_append_drop xs.length (cur.toList.take n)).symm.trans (congrArg (· ++ _) hx.symm)

theorem insI_list (A : List Int) (i : Nat) (ys : List Value) (q : Int) (hi : i < A.length) (hy : ys.length = 1) :
    setL (setL (intCells A ++ ys) ((i + 1)) (intCells (A.drop i))) (i) [.int .i64 q] = intCells (A.take i ++ q :: A.drop i) := by
  have hA : A = A.take i ++ A.drop i := (List.take_append_drop _ _).symm
  have hl : (intCells (A.drop i)).length = (A.length - i) := by rw [intCells_len, List.length_drop]
  have hlA : (intCells A).length = A.length := intCells_len _
  rw [setL_eq _ _ ((i + 1)) (by rw [List.length_append, hl, hlA, hy]; omega)]
  rw [show ((i + 1) + (intCells (A.drop i)).length) = (intCells A ++ ys).length from by rw [List.length_append, hl, hlA, hy]; omega, List.drop_length, List.append_nil]
  rw [setL_eq _ _ (i) (by rw [List.length_append, List.length_take, List.length_append, hl, hlA, hy]; simp; omega)]
  have ht : (List.take ((i + 1)) (intCells A ++ ys)).length = (i + 1) := by rw [List.length_take, List.length_append, hlA, hy]; omega
  rw [List.take_append_of_le_length (by rw [ht]; omega), List.take_take, Nat.min_eq_left (by omega), List.take_append_of_le_length (by rw [hlA]; omega), intCells_take]
  rw [show i + [Value.int .i64 q].length = (i + 1) from by simp]
  rw [show List.drop ((i + 1)) (List.take ((i + 1)) (intCells A ++ ys) ++ intCells (A.drop i)) = intCells (A.drop i) from List.drop_left' ht]
  rw [intCells_append]
  simp [intCells]

set_option maxHeartbeats 4000000 in
theorem insertI_shift (g vb cap i : Nat) (A : List Int) (q : Int) (w : World) (hr : IRow w g cap (intCells A)) (hi : i < A.length) (h3 : A.length ≤ 60) (hroom : A.length + 1 ≤ cap) (hv : w.heap[vb]? = some (.cells #[.int .i64 q] 3 (0, 0))) (hne : vb ≠ g) :
    Calls Try.prog 32 #[.slice (some ⟨g, 0, none⟩) A.length cap, .int .i64 i, .slice (some ⟨vb, 0, none⟩) 1 1] w fun e w' => ∃ g' kv', IntsOn g' w' kv' (A.take i ++ q :: A.drop i) ∧ (g' = g ∨ w.heap.size ≤ g') ∧ e = .returned kv' ∧ But g w w' := by
  have hcm : cap ≤ maxLen := hr.choose_spec.2.2.1
  unfold maxLen at hcm
  have hov : ∀ lb cb, (callFunc 44 #[.slice (some ⟨vb, 0, none⟩) 1 1, .slice (some ⟨g, (i + 1), none⟩) lb cb]).run Try.prog w = .ok (.value (.bool false)) w := fun lb cb => overI_no w g vb _ lb cb cap q _ hr (by omega) hv hne
  have hdl : (intCells (A.drop i)).length = (A.length - i) := by rw [intCells_len, List.length_drop]
  have hcs : ∀ j v, (intCells (A.drop i))[j]? = some v → w.cell? ⟨g, i + j, none⟩ = some v := fun j v hj => hr.cell _ _ (by rw [← intCells_drop, List.getElem?_drop] at hj; exact hj)
  have hcp1 : ∀ ty dc sc, (Builtin.copy_ #[22, 22] ty #[.slice (some ⟨g, (i + 1), none⟩) (A.length - i) dc, .slice (some ⟨g, i, none⟩) (A.length + 1 - i) sc]).run Try.prog w.drew = .ok (goInt (Nat.min (A.length + 1 - i) (A.length - i))) (w.drew.setCells g ((i + 1)) (intCells (A.drop i))) := fun ty dc sc =>
    run_copy_int w.drew ty g ((i + 1)) _ dc ⟨g, i, none⟩ _ sc _ (by rw [hdl]; simp only [Nat.min_def]; split <;> omega) (fun j v hj => by rw [Addr.add_lit]; exact hcs j v hj)
      (fun j hj => by obtain ⟨u, hu⟩ := hr.drew.some ((i + 1) + j) (by omega); rw [hu]; rfl) (fun j _ => hr.drew.frozen _) (intCells_one _)
  obtain ⟨ys, hys, hr2⟩ := hr.more ((A.length + 1)) (by rw [intCells_len]; omega) (by omega)
  have hy2 : ys.length = 1 := by rw [hys, intCells_len]; omega
  have hr3 : IRow (w.drew.setCells g ((i + 1)) (intCells (A.drop i))) g cap _ := IRow.setCells (intCells (A.drop i)) ((i + 1)) hr2.drew
  have hvc : ∀ j u, [Value.int .i64 q][j]? = some u → (w.drew.setCells g ((i + 1)) (intCells (A.drop i))).cell? ((⟨vb, 0, none⟩ : Addr).add j) = some u := fun j u hu => by
    rw [Addr.add_lit, Nat.zero_add]
    exact (But.setCells _ _ (But.of (Keeps.refl w).drew)).at (by have := vb_int hv j u hu; rwa [Addr.add_lit, Nat.zero_add] at this) hne
  have hcp2 : ∀ ty dc, (Builtin.copy_ #[22, 22] ty #[.slice (some ⟨g, i, none⟩) (A.length + 1 - i) dc, .slice (some ⟨vb, 0, none⟩) 1 1]).run Try.prog (w.drew.setCells g ((i + 1)) (intCells (A.drop i))) = .ok (goInt (Nat.min 1 (A.length + 1 - i))) ((w.drew.setCells g ((i + 1)) (intCells (A.drop i))).setCells g (i) [.int .i64 q]) := fun ty dc =>
    run_copy_int _ ty g (i) _ dc ⟨vb, 0, none⟩ 1 1 [.int .i64 q] (by simp only [Nat.min_def]; split <;> simp <;> omega) hvc
      (fun j hj => by obtain ⟨u, hu⟩ := hr3.some (i + j) (by simp at hj; omega); rw [hu]; rfl) (fun j _ => hr3.frozen _) (by intro u hu; simp at hu; subst hu; rfl)
  have HF : Hid (IntsOn g ((w.drew.setCells g ((i + 1)) (intCells (A.drop i))).setCells g (i) [.int .i64 q]) (.slice (some ⟨g, 0, none⟩) (A.length + 1) cap) (A.take i ++ q :: A.drop i)) := by
    refine .inr ⟨cap, by simp; omega, ?_⟩
    have := IRow.setCells [.int .i64 q] (i) hr3
    rw [insI_list A i ys q hi hy2] at this
    exact this
  have HB : Hid (But g w ((w.drew.setCells g ((i + 1)) (intCells (A.drop i))).setCells g (i) [.int .i64 q])) := But.setCells _ _ (But.setCells _ _ (But.of (Keeps.refl w).drew))
  have hw1 : IntKind.i64.wrap ((i : Int) + 1) = (i : Int) + 1 := by rw [IntKind.wrap_i64]; omega
  have htn : ((i : Int) + 1).toNat = i + 1 := by omega
  have htn2 : ((A.length : Int) + 1).toNat = A.length + 1 := by omega
  have hb2 : ¬ (cap = i + 1) := by omega
  have hb4 : ¬ (cap = i) := by omega
  have hb1 : (0 : Int) ≤ (i : Int) + 1 := by omega
  have hin : i ≤ A.length := by omega
  have hb3 : (i : Int) ≤ (A.length : Int) + 1 := by omega
  clear hr hr2 hr3 hys hy2 hvc hcs hv
  generalize A.length = n at *
  generalize (w.drew.setCells g ((i + 1)) (intCells (A.drop i))) = W1 at *
  go_enter Try.func32, Try.ntmps32
  go_wp2_with (simp only [hov])
  go_region_law (refine step_copy_run rfl _ _ 22 rfl (by simp [Act.eval, Act.put]) (by simp [Act.eval, Act.put]) (hcp1 _ _ _) ?_)
  go_wp2_with (at_builtin; refine wpList_copy_run rfl _ _ _ rfl rfl rfl (hcp2 _ _) ?_)
  go_ret
  exact ⟨g, _, HF.out, .inl rfl, rfl, HB.out⟩

theorem insI_list2 (A : List Int) (i : Nat) (zs : List Value) (q : Int) (hi : i < A.length) (hz : zs.length = (A.length + 1 - i)) :
    setL (setL (intCells (A.take i) ++ zs) (i) [.int .i64 q]) ((i + 1)) (intCells (A.drop i)) = intCells (A.take i ++ q :: A.drop i) := by
  have hl : (intCells (A.drop i)).length = (A.length - i) := by rw [intCells_len, List.length_drop]
  have ht : (intCells (A.take i)).length = i := by rw [intCells_len, List.length_take, Nat.min_eq_left (by omega)]
  rw [setL_eq _ _ (i) (by rw [List.length_append, ht, hz]; simp; omega)]
  rw [List.take_left' ht]
  have hq : (intCells (A.take i) ++ [Value.int .i64 q]).length = (i + 1) := by rw [List.length_append, ht]; simp
  have hd : (List.drop (i + [Value.int .i64 q].length) (intCells (A.take i) ++ zs)).length = (A.length - i) := by rw [List.length_drop, List.length_append, ht, hz]; simp; omega
  generalize List.drop (i + [Value.int .i64 q].length) (intCells (A.take i) ++ zs) = D at *
  generalize hT : intCells (A.take i) ++ [Value.int .i64 q] = T at *
  rw [setL_eq _ _ ((i + 1)) (by rw [List.length_append, hq, hd, hl]; omega)]
  have e : List.drop ((i + 1) + (intCells (A.drop i)).length) (T ++ D) = [] := List.drop_of_length_le (by rw [List.length_append, hq, hd, hl]; omega)
  rw [e, List.take_left' hq, List.append_nil, ← hT, intCells_append]
  simp [intCells]

set_option maxHeartbeats 4000000 in
theorem insertI_grow (g vb cap i : Nat) (A : List Int) (q : Int) (w : World) (hr : IRow w g cap (intCells A)) (hi : i < A.length) (h3 : A.length ≤ 60) (hroom : cap < A.length + 1) (hv : w.heap[vb]? = some (.cells #[.int .i64 q] 3 (0, 0))) (hne : vb ≠ g) :
    Calls Try.prog 32 #[.slice (some ⟨g, 0, none⟩) A.length cap, .int .i64 i, .slice (some ⟨vb, 0, none⟩) 1 1] w fun e w' => ∃ g' kv', IntsOn g' w' kv' (A.take i ++ q :: A.drop i) ∧ (g' = g ∨ w.heap.size ≤ g') ∧ e = .returned kv' ∧ But g w w' := by
  have hcl : A.length ≤ cap := by obtain ⟨cur, _, _, _, h4, _⟩ := hr; rw [intCells_len] at h4; omega
  obtain ⟨i0, hi0, hz0, hzs, hzb⟩ := info_parts infoInt
  have hglt := hr.lt
  have hvlt : vb < w.heap.size := (Array.getElem?_eq_some_iff.1 hv).1
  have hdl : (intCells (A.drop i)).length = (A.length - i) := by rw [intCells_len, List.length_drop]
  have hcs : ∀ j v, (intCells (A.drop i))[j]? = some v → w.cell? ⟨g, i + j, none⟩ = some v := fun j v hj => hr.cell _ _ (by rw [← intCells_drop, List.getElem?_drop] at hj; exact hj)
  have hold : (Builtin.firstCells i0.size i (.slice (some ⟨g, 0, none⟩) i cap)).run Try.prog w.drew = .ok (intCells (A.take i)).toArray w.drew := by
    rw [hzs]
    refine run_firstCells_some w.drew 1 i ⟨g, 0, none⟩ i cap (intCells (A.take i)) (by rw [intCells_len, List.length_take]; omega) (fun j v hj => ?_)
    rw [Addr.add_lit, Nat.zero_add]
    rw [← intCells_take, List.getElem?_take] at hj
    split at hj
    · exact hr.cell j v hj
    · cases hj
  have hkk : (A.length : Int) + 1 - (i : Int) = ((A.length + 1 - i : Nat) : Int) := by omega
  have hrz := Lib.run_append_grow_zeros (P := Try.prog) w 22 3 22 3 i0 _ .i64 .i64 Try.underlying22 Try.underlying3 hi0 hz0 (some ⟨g, 0, none⟩) i cap (intCells (A.take i)) hold (A.length + 1 - i) (by omega) (by omega) (by omega) (by omega) (by rw [hzb]; omega) (by rw [hzb, show i + (A.length + 1 - i) = A.length + 1 from by omega]; exact growslice_fits hroom (by omega))
  rw [show i + (A.length + 1 - i) = A.length + 1 from by omega, ← hkk] at hrz
  obtain ⟨G, hG⟩ : ∃ G, G = grownCap w (A.length + 1) cap 3 := ⟨_, rfl⟩
  have hGn : A.length + 1 ≤ G := by rw [hG]; exact grownCap_ge w _ _ _
  have hGm : G ≤ maxLen := by rw [hG]; exact grownCap_le_maxLen w (A.length + 1) cap 3 (by unfold maxLen; omega)
  rw [← hG] at hrz
  obtain ⟨W1, hW1⟩ : ∃ W1, W1 = (w.drew.alloc (.cells ((intCells (A.take i)).toArray ++ Builtin.zeroCells (Value.cells (.int .i64 0)) (A.length + 1 - i) ++ Builtin.zeroCells (Value.cells (.int .i64 0)) (G - (A.length + 1))) 3)) := ⟨_, rfl⟩
  rw [← hW1] at hrz
  have hlt : (intCells (A.take i)).length = i := by rw [intCells_len, List.length_take, Nat.min_eq_left (by omega)]
  obtain ⟨zs, hzs1⟩ : ∃ zs : List Value, zs = (Builtin.zeroCells (Value.cells (.int .i64 0)) (A.length + 1 - i)).toList := ⟨_, rfl⟩
  have hzl : zs.length = (A.length + 1 - i) := by rw [hzs1, Array.length_toList, size_zeroCells]; simp [Value.cells]
  have hr1 : IRow W1 w.heap.size G (intCells (A.take i) ++ zs) := by
    refine ⟨_, by rw [hW1]; exact heap_alloc_new w.drew _, ?_, hGm, by rw [List.length_append, hlt, hzl]; omega, ?_⟩
    · simp only [Array.size_append, List.size_toArray, size_zeroCells, hlt]
      simp [Value.cells]
      omega
    · rw [Array.toList_append, Array.toList_append, ← hzs1]
      exact List.take_left' rfl
  have hk1 : Keeps w W1 := by rw [hW1]; exact (Keeps.refl _).drew.alloc _
  have hz1 : w.heap.size < W1.heap.size := hr1.lt
  clear hold hW1
  have hvc : ∀ j u, [Value.int .i64 q][j]? = some u → W1.cell? ((⟨vb, 0, none⟩ : Addr).add j) = some u := fun j u hu => by
    have := vb_int hv j u hu
    rw [Addr.add_lit] at this ⊢
    exact cell_kept this hk1
  have hcpA : ∀ ty dc, (Builtin.copy_ #[22, 22] ty #[.slice (some ⟨w.heap.size, i, none⟩) (A.length + 1 - i) dc, .slice (some ⟨vb, 0, none⟩) 1 1]).run Try.prog W1 = .ok (goInt (Nat.min 1 (A.length + 1 - i))) (W1.setCells w.heap.size (i) [.int .i64 q]) := fun ty dc =>
    run_copy_int _ ty w.heap.size (i) _ dc ⟨vb, 0, none⟩ 1 1 [.int .i64 q] (by simp only [Nat.min_def]; split <;> simp <;> omega) hvc
      (fun j hj => by obtain ⟨u, hu⟩ := hr1.some (i + j) (by simp at hj; omega); rw [hu]; rfl) (fun j _ => hr1.frozen _) (by intro u hu; simp at hu; subst hu; rfl)
  have hr2 : IRow (W1.setCells w.heap.size (i) [.int .i64 q]) w.heap.size G _ := IRow.setCells [.int .i64 q] (i) hr1
  have hk2 : Keeps w (W1.setCells w.heap.size (i) [.int .i64 q]) := But.to hk1 (Nat.le_refl _) (But.setCells _ _ (But.refl _ _))
  generalize hW2 : W1.setCells w.heap.size (i) [.int .i64 q] = W2 at *
  have hz2 : w.heap.size < W2.heap.size := hr2.lt
  have hcpB : ∀ ty dc sc, (Builtin.copy_ #[22, 22] ty #[.slice (some ⟨w.heap.size, (i + 1), none⟩) (A.length - i) dc, .slice (some ⟨g, i, none⟩) (A.length - i) sc]).run Try.prog W2.drew = .ok (goInt (Nat.min (A.length - i) (A.length - i))) (W2.drew.setCells w.heap.size ((i + 1)) (intCells (A.drop i))) := fun ty dc sc =>
    run_copy_int _ ty w.heap.size ((i + 1)) _ dc ⟨g, i, none⟩ _ sc (intCells (A.drop i)) (by rw [hdl, show Nat.min (A.length - i) (A.length - i) = A.length - i from Nat.min_self _]) (fun j v hj => by rw [Addr.add_lit]; exact cell_kept (hcs j v hj) (hk2.drew))
      (fun j hj => by obtain ⟨u, hu⟩ := hr2.drew.some ((i + 1) + j) (by omega); rw [hu]; rfl) (fun j _ => hr2.drew.frozen _) (intCells_one _)
  have HF : Hid (IntsOn w.heap.size (W2.drew.setCells w.heap.size ((i + 1)) (intCells (A.drop i))) (.slice (some ⟨w.heap.size, 0, none⟩) (A.length + 1) G) (A.take i ++ q :: A.drop i)) := by
    refine .inr ⟨G, by simp; omega, ?_⟩
    have := IRow.setCells (intCells (A.drop i)) ((i + 1)) hr2.drew
    rw [insI_list2 A i zs q hi hzl] at this
    exact this
  have HB : Hid (But g w (W2.drew.setCells w.heap.size ((i + 1)) (intCells (A.drop i)))) := But.of (But.to hk2.drew (Nat.le_refl _) (But.setCells _ _ (But.refl _ _)))
  have hw1 : IntKind.i64.wrap ((i : Int) + 1) = (i : Int) + 1 := by rw [IntKind.wrap_i64]; omega
  have htn : ((i : Int) + 1).toNat = i + 1 := by omega
  have hGi : ¬ (G = i) := by omega
  have hGi2 : ¬ (G = i + 1) := by omega
  have hci : ¬ (cap = i) := by omega
  have hb1 : (0 : Int) ≤ (i : Int) + 1 := by omega
  have hin : i ≤ A.length := by omega
  have hb3 : (i : Int) ≤ (A.length : Int) + 1 := by omega
  have hG63 : G ≤ 9223372036854775807 := by unfold maxLen at hGm; omega
  have Hrz := (show Hid (_ = _) from hrz)
  clear hr hr1 hr2 hvc hcs hv hrz hkk hlt hzs1 hW2 hk1 hk2 hG hGm hzl
  generalize A.length = n at *
  generalize hWN : w.heap.size = N at *
  go_enter Try.func32, Try.ntmps32
  go_wp2_with (at_builtin; first | (refine Lib.wpList_append_run _ rfl _ _ _ _ rfl _ _ rfl rfl _ _ Hrz.out ?_) | (refine wpList_copy_run rfl _ _ _ rfl rfl rfl (hcpA _ _) ?_))
  go_region_law (refine step_copy_run rfl _ _ 22 rfl (by simp [Act.eval, Act.put]) (by simp [Act.eval, Act.put]) (hcpB _ _ _) ?_)
  go_wp2_with fail
  go_ret
  exact ⟨N, _, HF.out, .inr (Nat.le_refl _), rfl, HB.out⟩

/-- slices.Insert of an answer. -/
theorem insertI_c (g vb i : Nat) (A : List Int) (q : Int) (kv : Value) (w : World) (hk : IntsOn g w kv A) (hi : i ≤ A.length) (h3 : A.length ≤ 60) (hv : w.heap[vb]? = some (.cells #[.int .i64 q] 3 (0, 0))) (hne : vb ≠ g) :
    Calls Try.prog 32 #[kv, .int .i64 i, .slice (some ⟨vb, 0, none⟩) 1 1] w fun e w' => ∃ g' kv', IntsOn g' w' kv' (A.take i ++ q :: A.drop i) ∧ (g' = g ∨ w.heap.size ≤ g') ∧ e = .returned kv' ∧ But g w w' := by
  by_cases hlt : i < A.length
  · rcases hk with ⟨_, h⟩ | ⟨cap, rfl, hr⟩
    · rw [h] at hlt; simp at hlt
    · by_cases hroom : A.length + 1 ≤ cap
      · exact insertI_shift g vb cap i A q w hr hlt h3 hroom hv hne
      · exact insertI_grow g vb cap i A q w hr hlt h3 (by omega) hv hne
  · have : i = A.length := by omega
    subst this
    rw [List.take_length, List.drop_length]
    exact insertI_end g vb A q kv w hk h3 hv
end Go.Proofs.Yteabfjpajgakiag

/- stub.Again. -/
set_option linter.unusedSimpArgs false
set_option linter.unusedVariables false
set_option maxRecDepth 10000
namespace Go.Proofs.Yteabfjpajgakiag
open Go.RowKit

def againErr (s : Stu) (time seq : Int) (o : Int × Int × Int × Int) : Int := if stuErr s == 0 then (if hasI s.came seq then 5 else if inB seq 1 (s.next - 1) then entErr (stuCall s time seq o) else 5) else stuErr s
def againE (s : Stu) (time seq : Int) (o : Int × Int × Int × Int) : Ent := if againErr s time seq o == 0 then stuCall s time seq o else zeroE

set_option maxHeartbeats 4000000 in
theorem stub_again (s : Stu) (time seq o0 o1 o2 o3 : Int) (t : Value) (w : World) (h : IntsAt w t s.came) : Calls Try.prog 12 #[stuV s t, .int .i64 time, .int .i64 seq, opV o0 o1 o2 o3] w fun e w' => e = .returned (.tuple #[entV (againE s time seq (o0, o1, o2, o3)), .int .i64 (againErr s time seq (o0, o1, o2, o3))]) ∧ Keeps w w' := by
  obtain ⟨ta, tc, rfl, hlen⟩ := RowAt.len h
  unfold maxLen at hlen
  have HI : Hid (IntsAt w (.slice ta s.came.length tc) s.came) := h
  have HE : Hid (againErr s time seq (o0, o1, o2, o3) = if stuErr s == 0 then (if hasI s.came seq then 5 else if inB seq 1 (s.next - 1) then entErr (stuCall s time seq (o0, o1, o2, o3)) else 5) else stuErr s) := rfl
  have HAZ : Hid ((againErr s time seq (o0, o1, o2, o3) == 0) = false → againE s time seq (o0, o1, o2, o3) = zeroE) := fun h => by unfold againE; rw [h]; rfl
  have HAE : Hid (againErr s time seq (o0, o1, o2, o3) = entErr (stuCall s time seq (o0, o1, o2, o3)) → againE s time seq (o0, o1, o2, o3) = callE (stuCall s time seq (o0, o1, o2, o3))) := fun h => by unfold againE callE; rw [h]
  generalize againErr s time seq (o0, o1, o2, o3) = er at *
  generalize againE s time seq (o0, o1, o2, o3) = ag at *
  have HCA : Hid (∀ W, Keeps w W → Calls Try.prog 21 #[stuV s (.slice ta s.came.length tc), .int .i64 time, .int .i64 seq, opV o0 o1 o2 o3] W fun e w' => e = .returned (.tuple #[entV (callE (stuCall s time seq (o0, o1, o2, o3))), .int .i64 (entErr (stuCall s time seq (o0, o1, o2, o3)))]) ∧ Keeps W w') := fun W hk => stub_call s time seq o0 o1 o2 o3 _ W (HI.out.keep hk)
  generalize callE (stuCall s time seq (o0, o1, o2, o3)) = ce at *
  generalize entErr (stuCall s time seq (o0, o1, o2, o3)) = ee at *
  clear h
  go_enter Try.func12, Try.ntmps12
  go_wp2_with fail
  obtain ⟨W1, hW1⟩ : ∃ W1, W1 = ((w.alloc (.cells #[.int .i64 s.client, .int .i64 s.next, .slice ta s.came.length tc] 24)).alloc (.cells #[.int .i64 o0, .int .i64 o1, .int .i64 o2, .int .i64 o3] 26)).alloc (.cells #[.int .i64 0, .int .i64 0, .int .i64 0, .int .i64 0, .int .i64 0, .int .i64 0, .int .i64 0, .int .i64 0, .int .i64 0] 28) := ⟨_, rfl⟩
  have k1 : Keeps w W1 := by rw [hW1]; exact (((Keeps.refl _).alloc _).alloc _).alloc _
  have B1 : StuBox w.heap.size s (.slice ta s.came.length tc) W1 := by rw [hW1]; exact (StuBox.new w s _ rfl 24).keep (((Keeps.refl _).alloc _).alloc _)
  have O1 : W1.cell? ⟨w.heap.size + 1, 0, none⟩ = some (.int .i64 o0) ∧ W1.cell? ⟨w.heap.size + 1, 1, none⟩ = some (.int .i64 o1) ∧ W1.cell? ⟨w.heap.size + 1, 2, none⟩ = some (.int .i64 o2) ∧ W1.cell? ⟨w.heap.size + 1, 3, none⟩ = some (.int .i64 o3) := by rw [hW1]; refine ⟨?_, ?_, ?_, ?_⟩ <;> simp [go_sem]
  have Z1 : EBox (w.heap.size + 1 + 1) zeroE W1 := by
    rw [hW1]
    have := EBox.new ((w.alloc (.cells #[.int .i64 s.client, .int .i64 s.next, .slice ta s.came.length tc] 24)).alloc (.cells #[.int .i64 o0, .int .i64 o1, .int .i64 o2, .int .i64 o3] 26)) zeroE 28
    simp only [World.size_alloc] at this
    exact this
  rw [← hW1]
  clear hW1
  obtain ⟨zb, hzb⟩ : ∃ zb, zb = w.heap.size + 1 + 1 := ⟨_, rfl⟩
  rw [← hzb] at Z1 ⊢
  have HZB : Hid (zb = w.heap.size + 1 + 1) := hzb
  clear hzb
  refine (stub_check s _ W1 (HI.out.keep k1)).mono ?_
  rintro e w1 ⟨rfl, hb⟩
  have HK1 : Hid (Keeps w w1) := k1.trans hb
  have HB1 : Hid (StuBox w.heap.size s (.slice ta s.came.length tc) w1) := B1.keep hb
  have HO1 : Hid (w1.cell? ⟨w.heap.size + 1, 0, none⟩ = some (.int .i64 o0) ∧ w1.cell? ⟨w.heap.size + 1, 1, none⟩ = some (.int .i64 o1) ∧ w1.cell? ⟨w.heap.size + 1, 2, none⟩ = some (.int .i64 o2) ∧ w1.cell? ⟨w.heap.size + 1, 3, none⟩ = some (.int .i64 o3)) := ⟨cell_stays O1.1 hb, cell_stays O1.2.1 hb, cell_stays O1.2.2.1 hb, cell_stays O1.2.2.2 hb⟩
  have HZ1 : Hid (EBox zb zeroE w1) := Z1.keep hb
  clear k1 B1 O1 Z1 hb
  clear W1
  cases q1 : (stuErr s == 0) with
  | false =>
    have q1' : (stuErr s != 0) = true := by simp [bne, q1]
    have HE2 : Hid (er = stuErr s) := by show _ = _; rw [HE.out, q1]; rfl
    have H1 := (show Hid _ from HAZ.out (by rw [HE2.out]; exact q1))
    have z0 := HZ1.out.c0
    have z1 := HZ1.out.c1
    have z2 := HZ1.out.c2
    have z3 := HZ1.out.c3
    have z4 := HZ1.out.c4
    have z5 := HZ1.out.c5
    have z6 := HZ1.out.c6
    have z7 := HZ1.out.c7
    have z8 := HZ1.out.c8
    have zf := HZ1.out.fz
    have zl := HZ1.out.lt
    have hk := HK1.out
    go_wp2_with fail
    refine bodyPost_ret (v := .tuple #[entV zeroE, .int .i64 (stuErr s)]) ?_ rfl ?_
    · simp [results, Try.results12, go_sem, zeroE, z0, z1, z2, z3, z4, z5, z6, z7, z8]
    · have hzz := HZB.out
      rw [HE2.out, H1.out]
      refine ⟨rfl, ?_⟩
      repeat refine Keeps.set ?_ (by simp <;> omega) _
      exact hk
  | true =>
    have q1' : (stuErr s != 0) = false := by simp [bne, q1]
    have q0 : stuErr s = 0 := by simpa using q1
    obtain ⟨_, ⟨hn1, hn2⟩, hck⟩ := stu_right q0
    have HSO := (show Hid _ from came_sorted hck)
    have hl60 : s.came.length ≤ 60 := by have := came_len hck (by omega); omega
    clear q0 hck
    have b0 := HB1.out.c0
    have b1 := HB1.out.c1
    have b2 := HB1.out.c2
    have bl := HB1.out.lt
    go_wp2_with fail
    refine (search_i s.came _ seq w1 (HI.out.keep HK1.out) HSO.out (by omega)).mono ?_
    rintro e w1' ⟨p, _, rfl, rfl⟩
    cases q2 : hasI s.came seq with
    | true =>
      have HE2 : Hid (er = 5) := by show _ = _; rw [HE.out, q1, q2]; rfl
      have H1 := (show Hid _ from HAZ.out (by rw [HE2.out]; rfl))
      have z0 := HZ1.out.c0
      have z1 := HZ1.out.c1
      have z2 := HZ1.out.c2
      have z3 := HZ1.out.c3
      have z4 := HZ1.out.c4
      have z5 := HZ1.out.c5
      have z6 := HZ1.out.c6
      have z7 := HZ1.out.c7
      have z8 := HZ1.out.c8
      have zf := HZ1.out.fz
      have zl := HZ1.out.lt
      have hk := HK1.out
      go_wp2_with fail
      refine bodyPost_ret (v := .tuple #[entV zeroE, .int .i64 5]) ?_ rfl ?_
      · simp [results, Try.results12, go_sem, zeroE, z0, z1, z2, z3, z4, z5, z6, z7, z8]
      · have hzz := HZB.out
        rw [HE2.out, H1.out]
        refine ⟨rfl, ?_⟩
        repeat refine Keeps.set ?_ (by simp <;> omega) _
        exact hk
    | false =>
      go_wp2_with fail
      refine (stub_called s seq _ w1 hn1 hn2).mono ?_
      rintro e w2 ⟨rfl, hb⟩
      have HK2 : Hid (Keeps w w2) := HK1.out.trans hb
      have hB := HB1.out.keep hb
      have hO : w2.cell? ⟨w.heap.size + 1, 0, none⟩ = some (.int .i64 o0) ∧ w2.cell? ⟨w.heap.size + 1, 1, none⟩ = some (.int .i64 o1) ∧ w2.cell? ⟨w.heap.size + 1, 2, none⟩ = some (.int .i64 o2) ∧ w2.cell? ⟨w.heap.size + 1, 3, none⟩ = some (.int .i64 o3) := ⟨cell_stays HO1.out.1 hb, cell_stays HO1.out.2.1 hb, cell_stays HO1.out.2.2.1 hb, cell_stays HO1.out.2.2.2 hb⟩
      have HZ2 : Hid (EBox zb zeroE w2) := HZ1.out.keep hb
      clear hb b0 b1 b2 bl HB1 HZ1 HK1 HO1
      have b0 := hB.c0
      have b1 := hB.c1
      have b2 := hB.c2
      have bl := hB.lt
      clear hB
      have HZ1 := HZ2
      have HK1 := HK2
      cases q3 : inB seq 1 (s.next - 1) with
      | false =>
        have HE2 : Hid (er = 5) := by show _ = _; rw [HE.out, q1, q2, q3]; rfl
        have H1 := (show Hid _ from HAZ.out (by rw [HE2.out]; rfl))
        have z0 := HZ1.out.c0
        have z1 := HZ1.out.c1
        have z2 := HZ1.out.c2
        have z3 := HZ1.out.c3
        have z4 := HZ1.out.c4
        have z5 := HZ1.out.c5
        have z6 := HZ1.out.c6
        have z7 := HZ1.out.c7
        have z8 := HZ1.out.c8
        have zf := HZ1.out.fz
        have zl := HZ1.out.lt
        have hk := HK1.out
        go_wp2_with fail
        refine bodyPost_ret (v := .tuple #[entV zeroE, .int .i64 5]) ?_ rfl ?_
        · simp [results, Try.results12, go_sem, zeroE, z0, z1, z2, z3, z4, z5, z6, z7, z8]
        · have hzz := HZB.out
          rw [HE2.out, H1.out]
          refine ⟨rfl, ?_⟩
          repeat refine Keeps.set ?_ (by simp <;> omega) _
          exact hk
      | true =>
        have HE2 : Hid (er = ee) := by show _ = _; rw [HE.out, q1, q2, q3]; rfl
        have H2 := (show Hid _ from HAE.out HE2.out)
        obtain ⟨p0, p1, p2, p3⟩ := hO
        have pl := World.block_lt_of_cell? _ _ p0
        simp only [] at pl
        go_wp2_with fail
        refine (HCA.out w2 HK2.out).mono ?_
        rintro e w3 ⟨rfl, hb⟩
        have HZ3 : Hid (EBox zb zeroE w3) := HZ2.out.keep hb
        have HK3 : Hid (Keeps w w3) := HK2.out.trans hb
        have HZ1 := HZ3
        clear hb b0 b1 b2 bl p0 p1 p2 p3 pl HZ2 HK2
        have z0 := HZ1.out.c0
        have z1 := HZ1.out.c1
        have z2 := HZ1.out.c2
        have z3 := HZ1.out.c3
        have z4 := HZ1.out.c4
        have z5 := HZ1.out.c5
        have z6 := HZ1.out.c6
        have z7 := HZ1.out.c7
        have z8 := HZ1.out.c8
        have zf := HZ1.out.fz
        have zl := HZ1.out.lt
        have HBP := (show Hid _ from HZ3.out.put ce)
        go_wp2_with fail
        have c0 := HBP.out.1.c0
        have c1 := HBP.out.1.c1
        have c2 := HBP.out.1.c2
        have c3 := HBP.out.1.c3
        have c4 := HBP.out.1.c4
        have c5 := HBP.out.1.c5
        have c6 := HBP.out.1.c6
        have c7 := HBP.out.1.c7
        have c8 := HBP.out.1.c8
        refine bodyPost_ret (v := .tuple #[entV ce, .int .i64 ee]) ?_ rfl ?_
        · simp only [results, Try.results12, go_sem, c0, c1, c2, c3, c4, c5, c6, c7, c8]
          simp [go_sem, c0, c1, c2, c3, c4, c5, c6, c7, c8]
        · have hzz := HZB.out
          rw [HE2.out, H2.out]
          exact ⟨rfl, But.to HK3.out (by omega) HBP.out.2⟩
end Go.Proofs.Yteabfjpajgakiag

/- Numbers that rise: what has come, with one more (plain). -/
set_option linter.unusedSimpArgs false
set_option linter.unusedVariables false
namespace Go.Proofs.Yteabfjpajgakiag
open Go.RowKit

theorem sorted_ext : ∀ (l m : List Int), l.Pairwise (· < ·) → m.Pairwise (· < ·) → (∀ x, x ∈ l ↔ x ∈ m) → l = m
  | [], [], _, _, _ => rfl
  | [], b :: s, _, _, h => absurd ((h b).2 (List.mem_cons_self ..)) (by simp)
  | a :: r, [], _, _, h => absurd ((h a).1 (List.mem_cons_self ..)) (by simp)
  | a :: r, b :: s, hl, hm, h => by
    have hl' := List.pairwise_cons.1 hl
    have hm' := List.pairwise_cons.1 hm
    have hab : a = b := by
      rcases List.mem_cons.1 ((h a).1 (List.mem_cons_self ..)) with e | e
      · exact e
      · rcases List.mem_cons.1 ((h b).2 (List.mem_cons_self ..)) with e2 | e2
        · exact e2.symm
        · have h1 := hm'.1 a e
          have h2 := hl'.1 b e2
          omega
    subst hab
    refine congrArg (a :: ·) (sorted_ext r s hl'.2 hm'.2 (fun x => ⟨fun hx => ?_, fun hx => ?_⟩))
    · rcases List.mem_cons.1 ((h x).1 (List.mem_cons_of_mem _ hx)) with e | e
      · have := hl'.1 x hx
        omega
      · exact e
    · rcases List.mem_cons.1 ((h x).2 (List.mem_cons_of_mem _ hx)) with e | e
      · have := hm'.1 x hx
        omega
      · exact e

/-- The numbers 1 .. k that have come, and one more. -/
def cameTo (l : List Int) (q : Int) (k : Nat) : List Int := ((List.range k).map (fun (i : Nat) => (i : Int) + 1)).filter (fun n => n == q || hasI l n)
def camePut (nx : Int) (l : List Int) (q : Int) : List Int := cameTo l q (nx - 1).toNat

theorem range_sorted : ∀ k : Nat, ((List.range k).map (fun (i : Nat) => (i : Int) + 1)).Pairwise (· < ·) := by
  intro k
  rw [List.pairwise_map]
  exact (List.pairwise_lt_range (n := k)).imp (fun h => by omega)
theorem cameTo_sorted (l : List Int) (q : Int) (k : Nat) : (cameTo l q k).Pairwise (· < ·) := (range_sorted k).filter _
theorem cameTo_mem {l : List Int} {q x : Int} {k : Nat} : x ∈ cameTo l q k ↔ (1 ≤ x ∧ x ≤ k) ∧ (x = q ∨ x ∈ l) := by
  unfold cameTo
  rw [List.mem_filter]
  constructor
  · rintro ⟨h1, h2⟩
    obtain ⟨i, hi, rfl⟩ := List.mem_map.1 h1
    have := List.mem_range.1 hi
    refine ⟨⟨by omega, by omega⟩, ?_⟩
    rcases Bool.or_eq_true_iff.1 h2 with h | h
    · exact Or.inl (by simpa using h)
    · exact Or.inr (hasI_iff.1 h)
  · rintro ⟨⟨h1, h2⟩, h3⟩
    refine ⟨List.mem_map.2 ⟨(x - 1).toNat, List.mem_range.2 (by omega), by omega⟩, ?_⟩
    rcases h3 with rfl | h
    · simp
    · rw [hasI_iff.2 h, Bool.or_true]
theorem camePut_has {nx q : Int} {l : List Int} (hs : l.Pairwise (· < ·)) (hb : ∀ n ∈ l, 1 ≤ n ∧ n ≤ nx - 1) (h : hasI l q = true) : l = camePut nx l q := by
  refine sorted_ext _ _ hs (cameTo_sorted _ _ _) (fun x => ?_)
  unfold camePut
  rw [cameTo_mem]
  constructor
  · intro hx
    have := hb x hx
    exact ⟨⟨by omega, by omega⟩, Or.inr hx⟩
  · rintro ⟨_, rfl | h2⟩
    · exact hasI_iff.1 h
    · exact h2
theorem camePut_ins {nx q : Int} {l : List Int} {p : Nat} (hs : l.Pairwise (· < ·)) (hb : ∀ n ∈ l, 1 ≤ n ∧ n ≤ nx - 1) (hq : 1 ≤ q ∧ q ≤ nx - 1) (hP : PlaceI l q p) (h : hasI l q = false) : l.take p ++ q :: l.drop p = camePut nx l q := by
  have hn : ∀ x ∈ l, x ≠ q := fun x hx e => by
    have := hasI_iff.2 (e ▸ hx)
    rw [h] at this
    cases this
  have hlow : ∀ x ∈ l.take p, x < q := by
    intro x hx
    obtain ⟨k, hk, rfl⟩ := List.mem_iff_getElem.1 hx
    have hk' : k < p ∧ k < l.length := by simp at hk; omega
    rw [List.getElem_take]
    exact hP.low k hk'.2 hk'.1
  have hhigh : ∀ x ∈ l.drop p, q < x := by
    intro x hx
    obtain ⟨k, hk, rfl⟩ := List.mem_iff_getElem.1 hx
    rw [List.getElem_drop]
    have hk' : p + k < l.length := by simp at hk; omega
    have h1 := hP.high (p + k) hk' (by omega)
    have h2 := hn _ (List.getElem_mem hk')
    omega
  refine sorted_ext _ _ ?_ (cameTo_sorted _ _ _) (fun x => ?_)
  · rw [List.pairwise_append]
    refine ⟨hs.sublist (List.take_sublist _ _), List.pairwise_cons.2 ⟨hhigh, hs.sublist (List.drop_sublist _ _)⟩, ?_⟩
    intro a ha b hb
    rcases List.mem_cons.1 hb with rfl | hb
    · exact hlow a ha
    · have h1 := hlow a ha
      have h2 := hhigh b hb
      omega
  · unfold camePut
    rw [cameTo_mem, List.mem_append, List.mem_cons]
    have hm : x ∈ l ↔ x ∈ l.take p ∨ x ∈ l.drop p := by rw [← List.mem_append, List.take_append_drop]
    constructor
    · rintro (h1 | rfl | h1)
      · have hx := hm.2 (Or.inl h1)
        have := hb x hx
        exact ⟨⟨by omega, by omega⟩, Or.inr hx⟩
      · exact ⟨⟨by omega, by omega⟩, Or.inl rfl⟩
      · have hx := hm.2 (Or.inr h1)
        have := hb x hx
        exact ⟨⟨by omega, by omega⟩, Or.inr hx⟩
    · rintro ⟨_, rfl | h2⟩
      · exact Or.inr (Or.inl rfl)
      · rcases hm.1 h2 with h3 | h3
        · exact Or.inl h3
        · exact Or.inr (Or.inr h3)
end Go.Proofs.Yteabfjpajgakiag

/- stub.Came. -/
set_option linter.unusedSimpArgs false
set_option linter.unusedVariables false
set_option maxRecDepth 10000
namespace Go.Proofs.Yteabfjpajgakiag
open Go.RowKit

def cameErr (s : Stu) (seq : Int) : Int := if stuErr s == 0 then (if inB seq 1 (s.next - 1) then 0 else 5) else stuErr s
def cameS (s : Stu) (seq : Int) : Stu := if cameErr s seq == 0 then ⟨s.client, s.next, camePut s.next s.came seq⟩ else zeroStu

/-- Where there is no row any block serves. -/
theorem IntsOn.anew {base N : Nat} {w : World} {kv : Value} {l : List Int} (h : w.ownsRow base 3 1 kv l.length (intCells l)) (hN : base ≤ N) : ∃ g, IntsOn g w kv l ∧ base ≤ g ∧ (g < w.heap.size ∨ g = N) := by
  obtain ⟨g, hg, hb, hc⟩ := IntsOn.of_owns h
  rcases hg with hl | ⟨cap, e, hr⟩
  · exact ⟨N, .inl hl, hN, .inr rfl⟩
  · exact ⟨g, .inr ⟨cap, e, hr⟩, hb, .inl hr.lt⟩

set_option maxHeartbeats 4000000 in
theorem stub_came_on (s : Stu) (seq : Int) (t : Value) (w : World) (h : IntsAt w t s.came) : Calls Try.prog 13 #[stuV s t, .int .i64 seq] w fun e w' => ∃ ra rc, (∃ g, IntsOn g w' (.slice ra (cameS s seq).came.length rc) (cameS s seq).came ∧ w.heap.size ≤ g) ∧ e = .returned (.tuple #[stuV (cameS s seq) (.slice ra (cameS s seq).came.length rc), .int .i64 (cameErr s seq)]) ∧ Keeps w w' := by
  obtain ⟨ta, tc, rfl, hlen⟩ := RowAt.len h
  unfold maxLen at hlen
  have HI : Hid (IntsAt w (.slice ta s.came.length tc) s.came) := h
  have HE : Hid (cameErr s seq = if stuErr s == 0 then (if inB seq 1 (s.next - 1) then 0 else 5) else stuErr s) := rfl
  have HCZ : Hid ((cameErr s seq == 0) = false → cameS s seq = zeroStu) := fun h => by unfold cameS; rw [h]; rfl
  have HCO : Hid (cameErr s seq = 0 → cameS s seq = ⟨s.client, s.next, camePut s.next s.came seq⟩) := fun h => by unfold cameS; rw [h]; rfl
  clear h
  go_enter Try.func13, Try.ntmps13
  go_wp2_with fail
  obtain ⟨W1, hW1⟩ : ∃ W1, W1 = (w.alloc (.cells #[.int .i64 s.client, .int .i64 s.next, .slice ta s.came.length tc] 24)).alloc (.cells #[.int .i64 0, .int .i64 0, .slice none 0 0] 24) := ⟨_, rfl⟩
  have k1 : Keeps w W1 := by rw [hW1]; exact ((Keeps.refl _).alloc _).alloc _
  have B1 : StuBox w.heap.size s (.slice ta s.came.length tc) W1 := by rw [hW1]; exact (StuBox.new w s _ rfl 24).keep ((Keeps.refl _).alloc _)
  have Z1 : StuBox (w.heap.size + 1) zeroStu (.slice none 0 0) W1 := by
    rw [hW1]
    have := StuBox.new (w.alloc (.cells #[.int .i64 s.client, .int .i64 s.next, .slice ta s.came.length tc] 24)) zeroStu (.slice none 0 0) rfl 24
    simp only [World.size_alloc] at this
    exact this
  rw [← hW1]
  clear hW1
  refine (stub_check s _ W1 (HI.out.keep k1)).mono ?_
  rintro e w1 ⟨rfl, hb⟩
  have HKK : Hid (Keeps w w1) := k1.trans hb
  have HB1 : Hid (StuBox w.heap.size s (.slice ta s.came.length tc) w1) := B1.keep hb
  have HZK : Hid (StuBox (w.heap.size + 1) zeroStu (.slice none 0 0) w1) := Z1.keep hb
  clear k1 B1 Z1 hb
  clear W1
  cases q1 : (stuErr s == 0) with
  | false =>
    have q1' : (stuErr s != 0) = true := by simp [bne, q1]
    have HE2 : Hid (cameErr s seq = stuErr s) := by show _ = _; rw [HE.out, q1]; rfl
    have H1 := (show Hid _ from HCZ.out (by rw [HE2.out]; exact q1))
    have z0 := HZK.out.c0
    have z1 := HZK.out.c1
    have z2 := HZK.out.c2
    have zf := HZK.out.fz
    have zl := HZK.out.lt
    have hk := HKK.out
    go_wp2_with fail
    refine bodyPost_ret (v := .tuple #[stuV zeroStu (.slice none 0 0), .int .i64 (stuErr s)]) ?_ rfl ?_
    · simp [results, Try.results13, go_sem, zeroStu, z0, z1, z2]
    · rw [HE2.out, H1.out]
      refine ⟨none, 0, ⟨w.heap.size, .inl ⟨rfl, rfl⟩, Nat.le_refl _⟩, rfl, ?_⟩
      repeat refine Keeps.set ?_ (by simp <;> omega) _
      exact hk
  | true =>
    have q1' : (stuErr s != 0) = false := by simp [bne, q1]
    have q0 : stuErr s = 0 := by simpa using q1
    obtain ⟨_, ⟨hn1, hn2⟩, hck⟩ := stu_right q0
    have HSO := (show Hid _ from came_sorted hck)
    have HBD := (show Hid _ from came_bounds hck)
    have hl60 : s.came.length ≤ 60 := by have := came_len hck (by omega); omega
    clear q0 hck
    have b0 := HB1.out.c0
    have b1 := HB1.out.c1
    have b2 := HB1.out.c2
    have bl := HB1.out.lt
    go_wp2_with fail
    refine (stub_called s seq _ w1 hn1 hn2).mono ?_
    rintro e w2 ⟨rfl, hb⟩
    have HK2 : Hid (Keeps w w2) := HKK.out.trans hb
    have HB2 : Hid (StuBox w.heap.size s (.slice ta s.came.length tc) w2) := HB1.out.keep hb
    have HZ2 : Hid (StuBox (w.heap.size + 1) zeroStu (.slice none 0 0) w2) := HZK.out.keep hb
    clear hb b0 b1 b2 bl HB1 HZK HKK
    clear w1
    cases q2 : inB seq 1 (s.next - 1) with
    | false =>
      have HE2 : Hid (cameErr s seq = 5) := by show _ = _; rw [HE.out, q1, q2]; rfl
      have HKK := HK2
      have HZK := HZ2
      have H1 := (show Hid _ from HCZ.out (by rw [HE2.out]; rfl))
      have z0 := HZK.out.c0
      have z1 := HZK.out.c1
      have z2 := HZK.out.c2
      have zf := HZK.out.fz
      have zl := HZK.out.lt
      have hk := HKK.out
      go_wp2_with fail
      refine bodyPost_ret (v := .tuple #[stuV zeroStu (.slice none 0 0), .int .i64 5]) ?_ rfl ?_
      · simp [results, Try.results13, go_sem, zeroStu, z0, z1, z2]
      · rw [HE2.out, H1.out]
        refine ⟨none, 0, ⟨w.heap.size, .inl ⟨rfl, rfl⟩, Nat.le_refl _⟩, rfl, ?_⟩
        repeat refine Keeps.set ?_ (by simp <;> omega) _
        exact hk
    | true =>
      have hq := inB_iff.1 q2
      have HE2 : Hid (cameErr s seq = 0) := by show _ = _; rw [HE.out, q1, q2]; rfl
      have HCP := (show Hid _ from HCO.out HE2.out)
      have b0 := HB2.out.c0
      have b1 := HB2.out.c1
      have b2 := HB2.out.c2
      have bl := HB2.out.lt
      go_wp2_with fail
      refine (twin_stub s _ w2 (HI.out.keep HK2.out) (by omega)).mono ?_
      rintro e w3 ⟨qa, qc, HOW, rfl, hb⟩
      have HK3 : Hid (Keeps w w3) := HK2.out.trans hb
      have HZ3 : Hid (StuBox (w.heap.size + 1) zeroStu (.slice none 0 0) w3) := HZ2.out.keep hb
      have hsz2 := HZ2.out.lt
      have hs3 := hb.size
      have HS3 : Hid (w2.heap.size ≤ w3.heap.size ∧ w.heap.size + 1 < w2.heap.size) := ⟨hs3, hsz2⟩
      clear hb b0 b1 b2 bl hs3 hsz2 HB2
      go_wp2_with fail
      have HB4 : Hid (StuBox w3.heap.size s (.slice qa s.came.length qc) (w3.alloc (.cells #[.int .i64 s.client, .int .i64 s.next, .slice qa s.came.length qc] 24))) := StuBox.new w3 s _ rfl 24
      have k34 : Keeps w3 (w3.alloc (.cells #[.int .i64 s.client, .int .i64 s.next, .slice qa s.came.length qc] 24)) := (Keeps.refl _).alloc _
      have hs4 : (w3.alloc (.cells #[.int .i64 s.client, .int .i64 s.next, .slice qa s.came.length qc] 24)).heap.size = w3.heap.size + 1 := World.size_alloc _ _
      obtain ⟨w4, hw4⟩ : ∃ z, z = w3.alloc (.cells #[.int .i64 s.client, .int .i64 s.next, .slice qa s.came.length qc] 24) := ⟨_, rfl⟩
      rw [← hw4] at HB4 k34 hs4 ⊢
      clear hw4
      have HI4 : Hid (IntsAt w4 (.slice qa s.came.length qc) s.came) := IntsAt.keep (RowAt.of_owns HOW.out) k34
      have HK4 : Hid (Keeps w w4) := HK3.out.trans k34
      have HZ4 : Hid (StuBox (w.heap.size + 1) zeroStu (.slice none 0 0) w4) := HZ3.out.keep k34
      refine (search_i s.came _ seq w4 HI4.out HSO.out (by omega)).mono ?_
      rintro e w4' ⟨p, hP, rfl, rfl⟩
      have HP : Hid (PlaceI s.came seq p) := hP
      have hpl := hP.le
      obtain ⟨nb, hnb⟩ : ∃ nb, nb = w3.heap.size := ⟨_, rfl⟩
      rw [← hnb] at HB4 hs4 ⊢
      have HNB : Hid (nb = w3.heap.size ∧ w4.heap.size = nb + 1) := ⟨hnb, hs4⟩
      have HR4 : Hid (∃ g, IntsOn g w4 (.slice qa s.came.length qc) s.came ∧ w.heap.size + 2 ≤ g ∧ g ≠ nb ∧ (g < nb ∨ g = w4.heap.size + 1)) := by
        obtain ⟨g, hg, h1, h2⟩ := IntsOn.anew (N := w4.heap.size + 1) HOW.out (by have := HS3.out; have := HNB.out; omega)
        have h3 := HS3.out
        have h4 := HNB.out
        exact ⟨g, hg.keep k34, by omega, by omega, by omega⟩
      clear hnb hs4 k34 HOW HZ3 HK3 hP
      cases q3 : hasI s.came seq with
      | true =>
        obtain ⟨L, hL⟩ : ∃ L, L = camePut s.next s.came seq := ⟨_, rfl⟩
        have hLc : s.came = L := by rw [hL]; exact camePut_has HSO.out (fun n hn => by have := HBD.out n hn; omega) q3
        have HCN : Hid (cameS s seq = ⟨s.client, s.next, L⟩) := by show _ = _; rw [HCP.out, hL]
        have HLC : Hid (s.came = L) := hLc
        clear hL hLc
        have b0 := HB4.out.c0
        have b1 := HB4.out.c1
        have b2 := HB4.out.c2
        have bl := HB4.out.lt
        have z0 := HZ4.out.c0
        have z1 := HZ4.out.c1
        have z2 := HZ4.out.c2
        have zf := HZ4.out.fz
        have zl := HZ4.out.lt
        have HBP := (show Hid _ from HZ4.out.put s (.slice qa s.came.length qc))
        go_wp2_with fail
        have c0 := HBP.out.1.c0
        have c1 := HBP.out.1.c1
        have c2 := HBP.out.1.c2
        refine bodyPost_ret (v := .tuple #[stuV s (.slice qa s.came.length qc), .int .i64 0]) ?_ rfl ?_
        · simp only [results, Try.results13, go_sem, c0, c1, c2]
          simp [go_sem, c0, c1, c2]
        · rw [HE2.out, HCN.out, ← HLC.out]
          have hk0 := But.to HK4.out (by omega) HBP.out.2
          obtain ⟨g, hg, h1, _⟩ := HR4.out
          exact ⟨qa, qc, ⟨_, hg.but HBP.out.2 (by omega), by omega⟩, rfl, hk0⟩
      | false =>
        obtain ⟨L, hL⟩ : ∃ L, L = s.came.take p ++ seq :: s.came.drop p := ⟨_, rfl⟩
        have HCN : Hid (cameS s seq = ⟨s.client, s.next, L⟩) := by
          show _ = _
          rw [HCP.out, hL, camePut_ins (nx := s.next) HSO.out (fun n hn => by have := HBD.out n hn; omega) hq HP.out q3]
        obtain ⟨g, hg, hg1, hg2, hg3⟩ := HR4.out
        have b0 := HB4.out.c0
        have b1 := HB4.out.c1
        have b2 := HB4.out.c2
        have bl := HB4.out.lt
        go_wp2_with fail
        have k45 : Keeps w4 (w4.alloc (.cells #[.int .i64 seq] 3)) := (Keeps.refl _).alloc _
        have hv5 : (w4.alloc (.cells #[.int .i64 seq] 3)).heap[w4.heap.size]? = some (.cells #[.int .i64 seq] 3 (0, 0)) := heap_alloc_new w4 _
        have hs5 : (w4.alloc (.cells #[.int .i64 seq] 3)).heap.size = w4.heap.size + 1 := World.size_alloc _ _
        obtain ⟨w5, hw5⟩ : ∃ z, z = w4.alloc (.cells #[.int .i64 seq] 3) := ⟨_, rfl⟩
        rw [← hw5] at k45 hv5 hs5 ⊢
        clear hw5
        have HINS := (show Hid _ from insertI_c g w4.heap.size p s.came seq _ w5 (hg.keep k45) hpl hl60 hv5 (by have := HNB.out; omega))
        have HB5 := (show Hid _ from HB4.out.keep k45)
        have HZ5 := (show Hid _ from HZ4.out.keep k45)
        have HK5 : Hid (Keeps w w5) := HK4.out.trans k45
        have HG5 : Hid (w.heap.size + 2 ≤ g ∧ g ≠ nb ∧ nb < w5.heap.size ∧ w.heap.size + 1 < nb) := by
          have h1 := HNB.out
          have h2 := HS3.out
          exact ⟨hg1, hg2, by omega, by omega⟩
        clear hv5 hs5 k45 hg hg1 hg2 hg3 HR4 HI4 HK4 HZ4 HB4 HNB b0 b1 b2 bl
        refine Calls.mono HINS.out ?_
        rintro e w6 ⟨g', kv', hI', hor, rfl, hbut⟩
        rw [← hL] at hI'
        have hG5 := HG5.out
        have hB6 := HB5.out.other hbut (by omega)
        have hZ6 := HZ5.out.other hbut (by omega)
        have HK6 : Hid (Keeps w w6) := But.to HK5.out (by omega) hbut
        obtain ⟨ra, rc, rfl, _⟩ := RowAt.len hI'.kept
        have HI6 : Hid (IntsOn g' w6 (.slice ra L.length rc) L) := hI'
        have HG6 : Hid (g' ≠ nb ∧ g' ≠ w.heap.size + 1 ∧ w.heap.size ≤ g') := by
          rcases hor with e | e <;> exact ⟨by omega, by omega, by omega⟩
        have HZ6 := (show Hid _ from hZ6)
        have HB6 := (show Hid _ from hB6)
        have b0 := HB6.out.c0
        have b1 := HB6.out.c1
        have b2 := HB6.out.c2
        have bf := HB6.out.fz
        have bl := HB6.out.lt
        have z0 := HZ6.out.c0
        have z1 := HZ6.out.c1
        have z2 := HZ6.out.c2
        have zf := HZ6.out.fz
        have zl := HZ6.out.lt
        have hnz : nb ≠ w.heap.size + 1 := by omega
        have HBN : Hid (But nb w6 (w6.setCell ⟨nb, 2, none⟩ (.slice ra L.length rc))) := (But.refl _ _).set 2 _
        have HBP := (show Hid _ from (HZ6.out.other HBN.out (by omega)).put ⟨s.client, s.next, L⟩ (.slice ra L.length rc))
        have HWN : Hid (w.heap.size ≤ nb) := by show _ ≤ _; omega
        clear hG5 hB6 hZ6 hbut hI' hor HB5 HZ5 HK5 HINS hL
        go_wp2_with fail
        have c0 := HBP.out.1.c0
        have c1 := HBP.out.1.c1
        have c2 := HBP.out.1.c2
        refine bodyPost_ret (v := .tuple #[stuV ⟨s.client, s.next, L⟩ (.slice ra L.length rc), .int .i64 0]) ?_ rfl ?_
        · simp only [results, Try.results13, go_sem, c0, c1, c2]
          simp [go_sem, c0, c1, c2]
        · rw [HE2.out, HCN.out]
          exact ⟨ra, rc, ⟨_, (HI6.out.but HBN.out HG6.out.1).but HBP.out.2 HG6.out.2.1, HG6.out.2.2⟩, rfl, But.to (But.to HK6.out HWN.out HBN.out) (by omega) HBP.out.2⟩
theorem stub_came (s : Stu) (seq : Int) (t : Value) (w : World) (h : IntsAt w t s.came) : Calls Try.prog 13 #[stuV s t, .int .i64 seq] w fun e w' => ∃ ra rc, IntsAt w' (.slice ra (cameS s seq).came.length rc) (cameS s seq).came ∧ e = .returned (.tuple #[stuV (cameS s seq) (.slice ra (cameS s seq).came.length rc), .int .i64 (cameErr s seq)]) ∧ Keeps w w' := by
  refine (stub_came_on s seq t w h).mono ?_
  rintro e w' ⟨ra, rc, ⟨g, hg, _⟩, h2, h3⟩
  exact ⟨ra, rc, hg.kept, h2, h3⟩
end Go.Proofs.Yteabfjpajgakiag

/- stub.Next. -/
set_option linter.unusedSimpArgs false
set_option linter.unusedVariables false
set_option maxRecDepth 10000
namespace Go.Proofs.Yteabfjpajgakiag
open Go.RowKit

def nextErr (s : Stu) (time : Int) (o : Int × Int × Int × Int) : Int := if stuErr s == 0 then entErr (stuCall s time s.next o) else stuErr s
def nextS (s : Stu) (time : Int) (o : Int × Int × Int × Int) : Stu := if nextErr s time o == 0 then ⟨s.client, s.next + 1, s.came⟩ else zeroStu
def nextE (s : Stu) (time : Int) (o : Int × Int × Int × Int) : Ent := if nextErr s time o == 0 then stuCall s time s.next o else zeroE

set_option maxHeartbeats 4000000 in
theorem stub_next_on (s : Stu) (time o0 o1 o2 o3 : Int) (t : Value) (w : World) (h : IntsAt w t s.came) : Calls Try.prog 6 #[stuV s t, .int .i64 time, opV o0 o1 o2 o3] w fun e w' => ∃ ra rc, (∃ g, IntsOn g w' (.slice ra (nextS s time (o0, o1, o2, o3)).came.length rc) (nextS s time (o0, o1, o2, o3)).came ∧ w.heap.size ≤ g) ∧ e = .returned (.tuple #[stuV (nextS s time (o0, o1, o2, o3)) (.slice ra (nextS s time (o0, o1, o2, o3)).came.length rc), entV (nextE s time (o0, o1, o2, o3)), .int .i64 (nextErr s time (o0, o1, o2, o3))]) ∧ Keeps w w' := by
  obtain ⟨ta, tc, rfl, hlen⟩ := RowAt.len h
  unfold maxLen at hlen
  have HI : Hid (IntsAt w (.slice ta s.came.length tc) s.came) := h
  have HE : Hid (nextErr s time (o0, o1, o2, o3) = if stuErr s == 0 then entErr (stuCall s time s.next (o0, o1, o2, o3)) else stuErr s) := rfl
  have HNZ : Hid ((nextErr s time (o0, o1, o2, o3) == 0) = false → nextS s time (o0, o1, o2, o3) = zeroStu ∧ nextE s time (o0, o1, o2, o3) = zeroE) := fun h => ⟨by unfold nextS; rw [h]; rfl, by unfold nextE; rw [h]; rfl⟩
  have HNO : Hid (nextErr s time (o0, o1, o2, o3) = 0 → nextErr s time (o0, o1, o2, o3) = entErr (stuCall s time s.next (o0, o1, o2, o3)) → nextS s time (o0, o1, o2, o3) = ⟨s.client, s.next + 1, s.came⟩ ∧ nextE s time (o0, o1, o2, o3) = callE (stuCall s time s.next (o0, o1, o2, o3))) := fun h h2 => ⟨by unfold nextS; rw [h]; rfl, by unfold nextE callE; rw [← h2, h]⟩
  generalize nextErr s time (o0, o1, o2, o3) = er at *
  generalize nextS s time (o0, o1, o2, o3) = ns at *
  generalize nextE s time (o0, o1, o2, o3) = ne at *
  have HCA : Hid (∀ W, Keeps w W → Calls Try.prog 21 #[stuV s (.slice ta s.came.length tc), .int .i64 time, .int .i64 s.next, opV o0 o1 o2 o3] W fun e w' => e = .returned (.tuple #[entV (callE (stuCall s time s.next (o0, o1, o2, o3))), .int .i64 (entErr (stuCall s time s.next (o0, o1, o2, o3)))]) ∧ Keeps W w') := fun W hk => stub_call s time s.next o0 o1 o2 o3 _ W (HI.out.keep hk)
  generalize callE (stuCall s time s.next (o0, o1, o2, o3)) = ce at *
  generalize entErr (stuCall s time s.next (o0, o1, o2, o3)) = ee at *
  clear h
  go_enter Try.func6, Try.ntmps6
  go_wp2_with fail
  obtain ⟨W1, hW1⟩ : ∃ W1, W1 = (((w.alloc (.cells #[.int .i64 s.client, .int .i64 s.next, .slice ta s.came.length tc] 24)).alloc (.cells #[.int .i64 o0, .int .i64 o1, .int .i64 o2, .int .i64 o3] 26)).alloc (.cells #[.int .i64 0, .int .i64 0, .slice none 0 0] 24)).alloc (.cells #[.int .i64 0, .int .i64 0, .int .i64 0, .int .i64 0, .int .i64 0, .int .i64 0, .int .i64 0, .int .i64 0, .int .i64 0] 28) := ⟨_, rfl⟩
  have k1 : Keeps w W1 := by rw [hW1]; exact ((((Keeps.refl _).alloc _).alloc _).alloc _).alloc _
  have B1 : StuBox w.heap.size s (.slice ta s.came.length tc) W1 := by rw [hW1]; exact (StuBox.new w s _ rfl 24).keep ((((Keeps.refl _).alloc _).alloc _).alloc _)
  have O1 : W1.cell? ⟨w.heap.size + 1, 0, none⟩ = some (.int .i64 o0) ∧ W1.cell? ⟨w.heap.size + 1, 1, none⟩ = some (.int .i64 o1) ∧ W1.cell? ⟨w.heap.size + 1, 2, none⟩ = some (.int .i64 o2) ∧ W1.cell? ⟨w.heap.size + 1, 3, none⟩ = some (.int .i64 o3) := by rw [hW1]; refine ⟨?_, ?_, ?_, ?_⟩ <;> simp [go_sem]
  have Z1 : StuBox (w.heap.size + 1 + 1) zeroStu (.slice none 0 0) W1 := by
    rw [hW1]
    have := (StuBox.new ((w.alloc (.cells #[.int .i64 s.client, .int .i64 s.next, .slice ta s.came.length tc] 24)).alloc (.cells #[.int .i64 o0, .int .i64 o1, .int .i64 o2, .int .i64 o3] 26)) zeroStu (.slice none 0 0) rfl 24).keep ((Keeps.refl _).alloc (.cells #[.int .i64 0, .int .i64 0, .int .i64 0, .int .i64 0, .int .i64 0, .int .i64 0, .int .i64 0, .int .i64 0, .int .i64 0] 28))
    simp only [World.size_alloc] at this
    exact this
  have Y1 : EBox (w.heap.size + 1 + 1 + 1) zeroE W1 := by
    rw [hW1]
    have := EBox.new (((w.alloc (.cells #[.int .i64 s.client, .int .i64 s.next, .slice ta s.came.length tc] 24)).alloc (.cells #[.int .i64 o0, .int .i64 o1, .int .i64 o2, .int .i64 o3] 26)).alloc (.cells #[.int .i64 0, .int .i64 0, .slice none 0 0] 24)) zeroE 28
    simp only [World.size_alloc] at this
    exact this
  rw [← hW1]
  clear hW1
  obtain ⟨yb, hyb⟩ : ∃ yb, yb = w.heap.size + 1 + 1 + 1 := ⟨_, rfl⟩
  rw [← hyb] at Y1 ⊢
  obtain ⟨zb, hzb⟩ : ∃ zb, zb = w.heap.size + 1 + 1 := ⟨_, rfl⟩
  rw [← hzb] at Z1 ⊢
  have HZB : Hid (zb = w.heap.size + 2 ∧ yb = w.heap.size + 3) := ⟨by omega, by omega⟩
  have hyz : (yb = zb) = False := eq_false (by omega)
  have hzy : (zb = yb) = False := eq_false (by omega)
  clear hzb hyb
  refine (stub_check s _ W1 (HI.out.keep k1)).mono ?_
  rintro e w1 ⟨rfl, hb⟩
  have HK1 : Hid (Keeps w w1) := k1.trans hb
  have HB1 : Hid (StuBox w.heap.size s (.slice ta s.came.length tc) w1) := B1.keep hb
  have HO1 : Hid (w1.cell? ⟨w.heap.size + 1, 0, none⟩ = some (.int .i64 o0) ∧ w1.cell? ⟨w.heap.size + 1, 1, none⟩ = some (.int .i64 o1) ∧ w1.cell? ⟨w.heap.size + 1, 2, none⟩ = some (.int .i64 o2) ∧ w1.cell? ⟨w.heap.size + 1, 3, none⟩ = some (.int .i64 o3)) := ⟨cell_stays O1.1 hb, cell_stays O1.2.1 hb, cell_stays O1.2.2.1 hb, cell_stays O1.2.2.2 hb⟩
  have HZ1 : Hid (StuBox zb zeroStu (.slice none 0 0) w1) := Z1.keep hb
  have HY1 : Hid (EBox yb zeroE w1) := Y1.keep hb
  clear k1 B1 O1 Z1 Y1 hb
  clear W1
  cases q1 : (stuErr s == 0) with
  | false =>
    have q1' : (stuErr s != 0) = true := by simp [bne, q1]
    have HE2 : Hid (er = stuErr s) := by show _ = _; rw [HE.out, q1]; rfl
    have H1 := (show Hid _ from HNZ.out (by rw [HE2.out]; exact q1))
    have z0 := HZ1.out.c0
    have z1 := HZ1.out.c1
    have z2 := HZ1.out.c2
    have zf := HZ1.out.fz
    have zl := HZ1.out.lt
    have y0 := HY1.out.c0
    have y1 := HY1.out.c1
    have y2 := HY1.out.c2
    have y3 := HY1.out.c3
    have y4 := HY1.out.c4
    have y5 := HY1.out.c5
    have y6 := HY1.out.c6
    have y7 := HY1.out.c7
    have y8 := HY1.out.c8
    have yf := HY1.out.fz
    have yl := HY1.out.lt
    have hk := HK1.out
    go_wp2_with fail
    refine bodyPost_ret (v := .tuple #[stuV zeroStu (.slice none 0 0), entV zeroE, .int .i64 (stuErr s)]) ?_ rfl ?_
    · simp [results, Try.results6, go_sem, zeroStu, zeroE, z0, z1, z2, y0, y1, y2, y3, y4, y5, y6, y7, y8, hyz, hzy]
    · have hzz := HZB.out
      rw [HE2.out, H1.out.1, H1.out.2]
      refine ⟨none, 0, ⟨w.heap.size, .inl ⟨rfl, rfl⟩, Nat.le_refl _⟩, rfl, ?_⟩
      repeat refine Keeps.set ?_ (by simp <;> omega) _
      exact hk
  | true =>
    have q1' : (stuErr s != 0) = false := by simp [bne, q1]
    have q0 : stuErr s = 0 := by simpa using q1
    obtain ⟨_, ⟨hn1, hn2⟩, hck⟩ := stu_right q0
    have hl60 : s.came.length ≤ 60 := by have := came_len hck (by omega); omega
    have HE2 : Hid (er = ee) := by show _ = _; rw [HE.out, q1]; rfl
    clear q0 hck
    obtain ⟨p0, p1, p2, p3⟩ := HO1.out
    have pl := World.block_lt_of_cell? _ _ p0
    simp only [] at pl
    have b0 := HB1.out.c0
    have b1 := HB1.out.c1
    have b2 := HB1.out.c2
    have bl := HB1.out.lt
    go_wp2_with fail
    refine (HCA.out w1 HK1.out).mono ?_
    rintro e w2 ⟨rfl, hb⟩
    have HK2 : Hid (Keeps w w2) := HK1.out.trans hb
    have HB2 : Hid (StuBox w.heap.size s (.slice ta s.came.length tc) w2) := HB1.out.keep hb
    have HZ2 : Hid (StuBox zb zeroStu (.slice none 0 0) w2) := HZ1.out.keep hb
    have HY2 : Hid (EBox yb zeroE w2) := HY1.out.keep hb
    clear hb p0 p1 p2 p3 pl b0 b1 b2 bl HB1 HO1 HZ1 HY1 HK1
    clear w1
    cases q2 : (ee == 0) with
    | false =>
      have q2' : (ee != 0) = true := by simp [bne, q2]
      have H1 := (show Hid _ from HNZ.out (by rw [HE2.out]; exact q2))
      have HK3 : Hid (Keeps w (w2.alloc (.cells #[.int .i64 ce.kind, .int .i64 ce.time, .int .i64 ce.client, .int .i64 ce.seq, .int .i64 ce.ack, .int .i64 ce.ok, .int .i64 ce.okey, .int .i64 ce.oto, .int .i64 ce.on] 28))) := HK2.out.alloc _
      have HZ3 := (show Hid _ from HZ2.out.keep ((Keeps.refl _).alloc (.cells #[.int .i64 ce.kind, .int .i64 ce.time, .int .i64 ce.client, .int .i64 ce.seq, .int .i64 ce.ack, .int .i64 ce.ok, .int .i64 ce.okey, .int .i64 ce.oto, .int .i64 ce.on] 28)))
      have HY3 := (show Hid _ from HY2.out.keep ((Keeps.refl _).alloc (.cells #[.int .i64 ce.kind, .int .i64 ce.time, .int .i64 ce.client, .int .i64 ce.seq, .int .i64 ce.ack, .int .i64 ce.ok, .int .i64 ce.okey, .int .i64 ce.oto, .int .i64 ce.on] 28)))
      have z0 := HZ3.out.c0
      have z1 := HZ3.out.c1
      have z2 := HZ3.out.c2
      have zf := HZ3.out.fz
      have zl := HZ3.out.lt
      have y0 := HY3.out.c0
      have y1 := HY3.out.c1
      have y2 := HY3.out.c2
      have y3 := HY3.out.c3
      have y4 := HY3.out.c4
      have y5 := HY3.out.c5
      have y6 := HY3.out.c6
      have y7 := HY3.out.c7
      have y8 := HY3.out.c8
      have yf := HY3.out.fz
      have yl := HY3.out.lt
      have hk := HK3.out
      go_wp2_with fail
      refine bodyPost_ret (v := .tuple #[stuV zeroStu (.slice none 0 0), entV zeroE, .int .i64 ee]) ?_ rfl ?_
      · simp [results, Try.results6, go_sem, zeroStu, zeroE, z0, z1, z2, y0, y1, y2, y3, y4, y5, y6, y7, y8, hyz, hzy]
      · have hzz := HZB.out
        rw [HE2.out, H1.out.1, H1.out.2]
        refine ⟨none, 0, ⟨w.heap.size, .inl ⟨rfl, rfl⟩, Nat.le_refl _⟩, rfl, ?_⟩
        repeat refine Keeps.set ?_ (by simp <;> omega) _
        exact hk
    | true =>
      have q2' : (ee != 0) = false := by simp [bne, q2]
      have e0 : ee = 0 := by simpa using q2
      have HN := (show Hid _ from HNO.out (by rw [HE2.out, e0]) HE2.out)
      clear q2
      subst e0
      have b0 := HB2.out.c0
      have b1 := HB2.out.c1
      have b2 := HB2.out.c2
      have bl := HB2.out.lt
      go_wp2_with fail
      have E3 : EBox w2.heap.size ce (w2.alloc (.cells #[.int .i64 ce.kind, .int .i64 ce.time, .int .i64 ce.client, .int .i64 ce.seq, .int .i64 ce.ack, .int .i64 ce.ok, .int .i64 ce.okey, .int .i64 ce.oto, .int .i64 ce.on] 28)) := EBox.new w2 ce 28
      have k23 : Keeps w2 (w2.alloc (.cells #[.int .i64 ce.kind, .int .i64 ce.time, .int .i64 ce.client, .int .i64 ce.seq, .int .i64 ce.ack, .int .i64 ce.ok, .int .i64 ce.okey, .int .i64 ce.oto, .int .i64 ce.on] 28)) := (Keeps.refl _).alloc _
      obtain ⟨w3, hw3⟩ : ∃ z, z = w2.alloc (.cells #[.int .i64 ce.kind, .int .i64 ce.time, .int .i64 ce.client, .int .i64 ce.seq, .int .i64 ce.ack, .int .i64 ce.ok, .int .i64 ce.okey, .int .i64 ce.oto, .int .i64 ce.on] 28) := ⟨_, rfl⟩
      rw [← hw3] at E3 k23 ⊢
      clear hw3
      have h2z := HY2.out.lt
      obtain ⟨cb, hcb⟩ : ∃ cb, cb = w2.heap.size := ⟨_, rfl⟩
      rw [← hcb] at E3 h2z ⊢
      clear hcb
      have HK3 : Hid (Keeps w w3) := HK2.out.trans k23
      refine (twin_stub s _ w3 (HI.out.keep HK3.out) (by omega)).mono ?_
      rintro e w4 ⟨qa, qc, HOW, rfl, hb⟩
      have HK4 : Hid (Keeps w w4) := HK3.out.trans hb
      have HZ4 : Hid (StuBox zb zeroStu (.slice none 0 0) w4) := HZ2.out.keep (k23.trans hb)
      have HY4 : Hid (EBox yb zeroE w4) := HY2.out.keep (k23.trans hb)
      have HE4 : Hid (EBox cb ce w4) := E3.keep hb
      have HIG : Hid (∃ g, IntsOn g w4 (.slice qa s.came.length qc) s.came ∧ w.heap.size + 4 ≤ g ∧ True) := by
        obtain ⟨g, hg, h1, _⟩ := IntsOn.of_owns HOW.out
        have h2 := HZB.out
        have h5 := k23.size
        have h6 := HY2.out.lt
        exact ⟨g, hg, by omega, trivial⟩
      have HR4 : Hid (w.heap.size + 3 < w4.heap.size ∧ yb < cb ∧ cb < w4.heap.size) := by
        have h1 := HZB.out
        have h2 := HY4.out.lt
        exact ⟨by omega, by omega, HE4.out.lt⟩
      clear hb k23 E3 h2z HB2 HZ2 HY2 HK2 HK3 b0 b1 b2 bl
      go_wp2_with fail
      obtain ⟨W5, hW5⟩ : ∃ z, z = w4.alloc (.cells #[.int .i64 s.client, .int .i64 (s.next + 1), .slice qa s.came.length qc] 24) := ⟨_, rfl⟩
      have k45 : Keeps w4 W5 := by rw [hW5]; exact (Keeps.refl _).alloc _
      have HN5 : Hid (StuBox w4.heap.size ⟨s.client, s.next + 1, s.came⟩ (.slice qa s.came.length qc) W5) := by rw [hW5]; exact StuBox.new w4 ⟨s.client, s.next + 1, s.came⟩ _ rfl 24
      rw [← hW5]
      clear hW5
      obtain ⟨nb, hnb⟩ : ∃ nb, nb = w4.heap.size := ⟨_, rfl⟩
      rw [← hnb] at HN5 ⊢
      have HD : Hid (nb ≠ zb ∧ nb ≠ yb ∧ cb ≠ zb ∧ cb ≠ yb ∧ zb ≠ yb ∧ w.heap.size ≤ zb ∧ w.heap.size ≤ yb) := by
        have h1 := HR4.out
        have h2 := HZB.out
        exact ⟨by omega, by omega, by omega, by omega, by omega, by omega, by omega⟩
      have HZ5 : Hid (StuBox zb zeroStu (.slice none 0 0) W5) := HZ4.out.keep k45
      have HY5 : Hid (EBox yb zeroE W5) := HY4.out.keep k45
      have HE5 : Hid (EBox cb ce W5) := HE4.out.keep k45
      have HK5 : Hid (Keeps w W5) := HK4.out.trans k45
      have HI5 : Hid (∀ W, Keeps W5 W → ∀ W', But zb W W' → ∀ W'', But yb W' W'' → ∃ g, IntsOn g W'' (.slice qa s.came.length qc) s.came ∧ w.heap.size ≤ g) := by
        intro W hk W' h1 W'' h2
        obtain ⟨g, hg, hg1, _⟩ := HIG.out
        have h3 := HZB.out
        exact ⟨g, ((hg.keep (k45.trans hk)).but h1 (by omega)).but h2 (by omega), by omega⟩
      clear k45 hnb HZ4 HY4 HE4 HK4
      have HSX : Hid (∀ W, StuBox nb ⟨s.client, s.next + 1, s.came⟩ (.slice qa s.came.length qc) W → EBox cb ce W → W.cell? ⟨nb, 0, none⟩ = some (.int .i64 s.client) ∧ W.cell? ⟨nb, 1, none⟩ = some (.int .i64 (s.next + 1)) ∧ W.cell? ⟨nb, 2, none⟩ = some (.slice qa s.came.length qc) ∧ W.cell? ⟨cb, 0, none⟩ = some (.int .i64 ce.kind) ∧ W.cell? ⟨cb, 1, none⟩ = some (.int .i64 ce.time) ∧ W.cell? ⟨cb, 2, none⟩ = some (.int .i64 ce.client) ∧ W.cell? ⟨cb, 3, none⟩ = some (.int .i64 ce.seq) ∧ W.cell? ⟨cb, 4, none⟩ = some (.int .i64 ce.ack) ∧ W.cell? ⟨cb, 5, none⟩ = some (.int .i64 ce.ok) ∧ W.cell? ⟨cb, 6, none⟩ = some (.int .i64 ce.okey) ∧ W.cell? ⟨cb, 7, none⟩ = some (.int .i64 ce.oto) ∧ W.cell? ⟨cb, 8, none⟩ = some (.int .i64 ce.on)) := fun W B C => ⟨B.c0, B.c1, B.c2, C.c0, C.c1, C.c2, C.c3, C.c4, C.c5, C.c6, C.c7, C.c8⟩
      have HSA : Hid (∀ W, Keeps W5 W → W.cell? ⟨nb, 0, none⟩ = some (.int .i64 s.client) ∧ W.cell? ⟨nb, 1, none⟩ = some (.int .i64 (s.next + 1)) ∧ W.cell? ⟨nb, 2, none⟩ = some (.slice qa s.came.length qc) ∧ W.cell? ⟨cb, 0, none⟩ = some (.int .i64 ce.kind) ∧ W.cell? ⟨cb, 1, none⟩ = some (.int .i64 ce.time) ∧ W.cell? ⟨cb, 2, none⟩ = some (.int .i64 ce.client) ∧ W.cell? ⟨cb, 3, none⟩ = some (.int .i64 ce.seq) ∧ W.cell? ⟨cb, 4, none⟩ = some (.int .i64 ce.ack) ∧ W.cell? ⟨cb, 5, none⟩ = some (.int .i64 ce.ok) ∧ W.cell? ⟨cb, 6, none⟩ = some (.int .i64 ce.okey) ∧ W.cell? ⟨cb, 7, none⟩ = some (.int .i64 ce.oto) ∧ W.cell? ⟨cb, 8, none⟩ = some (.int .i64 ce.on)) := fun W hk => HSX.out W (HN5.out.keep hk) (HE5.out.keep hk)
      obtain ⟨V0, hV0⟩ : ∃ z, z = W5.drew := ⟨_, rfl⟩
      have k0 : Keeps W5 V0 := by rw [hV0]; exact (Keeps.refl _).drew
      refine wp_region_held_drew (S := fun W => W.cell? ⟨nb, 0, none⟩ = some (.int .i64 s.client) ∧ W.cell? ⟨nb, 1, none⟩ = some (.int .i64 (s.next + 1)) ∧ W.cell? ⟨nb, 2, none⟩ = some (.slice qa s.came.length qc) ∧ W.cell? ⟨cb, 0, none⟩ = some (.int .i64 ce.kind) ∧ W.cell? ⟨cb, 1, none⟩ = some (.int .i64 ce.time) ∧ W.cell? ⟨cb, 2, none⟩ = some (.int .i64 ce.client) ∧ W.cell? ⟨cb, 3, none⟩ = some (.int .i64 ce.seq) ∧ W.cell? ⟨cb, 4, none⟩ = some (.int .i64 ce.ack) ∧ W.cell? ⟨cb, 5, none⟩ = some (.int .i64 ce.ok) ∧ W.cell? ⟨cb, 6, none⟩ = some (.int .i64 ce.okey) ∧ W.cell? ⟨cb, 7, none⟩ = some (.int .i64 ce.oto) ∧ W.cell? ⟨cb, 8, none⟩ = some (.int .i64 ce.on)) (by kernel_rfl) (HSA.out _ (Keeps.refl _).drew) (fun hS => ?_)
      rw [← hV0] at hS ⊢
      clear hV0
      refine wpAnyH_take (i := 0) (v := .agg #[.int .i64 s.client, .int .i64 (s.next + 1), .slice qa s.came.length qc]) rfl (by kernel_rfl) (by kernel_rfl) (by kernel_rfl) (fun _ _ _ h => h) (Or.inl ⟨by kernel_rfl, ?_⟩) hS ?_
      · intro w hS; go_simp
      refine wpAnyH_take (i := 1) (v := entV ce) rfl (by kernel_rfl) (by kernel_rfl) (by kernel_rfl) (fun _ _ _ h => h) (Or.inl ⟨by kernel_rfl, ?_⟩) hS ?_
      · intro w hS; go_simp
      refine wpAnyH_ready (rs := [2]) (by kernel_rfl) (by simp) ?_
      refine AllReadyH.cons rfl (fun K hK => ?_) (AllReadyH.nil)
      have z0 := (HZ5.out.keep k0).c0
      have z1 := (HZ5.out.keep k0).c1
      have z2 := (HZ5.out.keep k0).c2
      have zf := (HZ5.out.keep k0).fz
      have zl := (HZ5.out.keep k0).lt
      go_simp
      have BP := (HZ5.out.keep k0).put ⟨s.client, s.next + 1, s.came⟩ (.slice qa s.came.length qc)
      obtain ⟨WF, hWF⟩ : ∃ z, z = ((V0.setCell ⟨zb, 0, none⟩ (.int .i64 s.client)).setCell ⟨zb, 1, none⟩ (.int .i64 (s.next + 1))).setCell ⟨zb, 2, none⟩ (.slice qa s.came.length qc) := ⟨_, rfl⟩
      rw [← hWF] at BP ⊢
      clear hWF z0 z1 z2 zf zl
      have hd := HD.out
      have HYF : Hid (EBox yb zeroE WF) := (HY5.out.keep k0).other BP.2 (by omega)
      have HNF : Hid (StuBox nb ⟨s.client, s.next + 1, s.came⟩ (.slice qa s.came.length qc) WF) := (HN5.out.keep k0).other BP.2 (by omega)
      have HEF : Hid (EBox cb ce WF) := (HE5.out.keep k0).other BP.2 (by omega)
      have HKF : Hid (Keeps w WF) := But.to (HK5.out.trans k0) (by omega) BP.2
      have HBP := (show Hid _ from BP)
      clear BP hd
      refine hK.out _ _ (HSX.out _ HNF.out HEF.out) (fun hS => ?_)
      clear hK K
      refine wpAnyH_ready (rs := [3]) (by kernel_rfl) (by simp) ?_
      refine AllReadyH.cons rfl (fun K hK => ?_) (AllReadyH.nil)
      have y0 := HYF.out.c0
      have y1 := HYF.out.c1
      have y2 := HYF.out.c2
      have y3 := HYF.out.c3
      have y4 := HYF.out.c4
      have y5 := HYF.out.c5
      have y6 := HYF.out.c6
      have y7 := HYF.out.c7
      have y8 := HYF.out.c8
      have yf := HYF.out.fz
      have yl := HYF.out.lt
      go_simp
      have BQ := HYF.out.put ce
      obtain ⟨WG, hWG⟩ : ∃ z, z = (((((((((WF.setCell ⟨yb, 0, none⟩ (.int .i64 ce.kind)).setCell ⟨yb, 1, none⟩ (.int .i64 ce.time)).setCell ⟨yb, 2, none⟩ (.int .i64 ce.client)).setCell ⟨yb, 3, none⟩ (.int .i64 ce.seq)).setCell ⟨yb, 4, none⟩ (.int .i64 ce.ack)).setCell ⟨yb, 5, none⟩ (.int .i64 ce.ok)).setCell ⟨yb, 6, none⟩ (.int .i64 ce.okey)).setCell ⟨yb, 7, none⟩ (.int .i64 ce.oto)).setCell ⟨yb, 8, none⟩ (.int .i64 ce.on)) := ⟨_, rfl⟩
      rw [← hWG] at BQ ⊢
      clear hWG y0 y1 y2 y3 y4 y5 y6 y7 y8 yf yl
      have hd := HD.out
      have HZG : Hid (StuBox zb ⟨s.client, s.next + 1, s.came⟩ (.slice qa s.came.length qc) WG) := HBP.out.1.other BQ.2 (by omega)
      have HKG : Hid (Keeps w WG) := But.to HKF.out (by omega) BQ.2
      have HNG := HNF.out.other BQ.2 (by omega)
      have HEG := HEF.out.other BQ.2 (by omega)
      have HBQ := (show Hid _ from BQ)
      clear BQ hd
      refine hK.out _ _ (HSX.out _ HNG HEG) (fun hS => ?_)
      clear hK K HNG HEG
      refine wpAnyH_take (i := 4) (v := .int .i64 0) rfl (by kernel_rfl) (by kernel_rfl) (by kernel_rfl) (fun _ _ _ h => h) (Or.inl ⟨by kernel_rfl, ?_⟩) hS ?_
      · intro w hS; go_simp
      refine wpAnyH_done (by kernel_rfl) ?_ _
      go_wp2_with fail
      have c0 := HZG.out.c0
      have c1 := HZG.out.c1
      have c2 := HZG.out.c2
      have d0 := HBQ.out.1.c0
      have d1 := HBQ.out.1.c1
      have d2 := HBQ.out.1.c2
      have d3 := HBQ.out.1.c3
      have d4 := HBQ.out.1.c4
      have d5 := HBQ.out.1.c5
      have d6 := HBQ.out.1.c6
      have d7 := HBQ.out.1.c7
      have d8 := HBQ.out.1.c8
      refine bodyPost_ret (v := .tuple #[stuV ⟨s.client, s.next + 1, s.came⟩ (.slice qa s.came.length qc), entV ce, .int .i64 0]) ?_ rfl ?_
      · simp only [results, Try.results6, go_sem, c0, c1, c2, d0, d1, d2, d3, d4, d5, d6, d7, d8]
        simp [go_sem, c0, c1, c2, d0, d1, d2, d3, d4, d5, d6, d7, d8]
      · rw [HE2.out, HN.out.1, HN.out.2]
        exact ⟨qa, qc, HI5.out _ k0 _ HBP.out.2 _ HBQ.out.2, rfl, HKG.out⟩
theorem stub_next (s : Stu) (time o0 o1 o2 o3 : Int) (t : Value) (w : World) (h : IntsAt w t s.came) : Calls Try.prog 6 #[stuV s t, .int .i64 time, opV o0 o1 o2 o3] w fun e w' => ∃ ra rc, IntsAt w' (.slice ra (nextS s time (o0, o1, o2, o3)).came.length rc) (nextS s time (o0, o1, o2, o3)).came ∧ e = .returned (.tuple #[stuV (nextS s time (o0, o1, o2, o3)) (.slice ra (nextS s time (o0, o1, o2, o3)).came.length rc), entV (nextE s time (o0, o1, o2, o3)), .int .i64 (nextErr s time (o0, o1, o2, o3))]) ∧ Keeps w w' := by
  refine (stub_next_on s time o0 o1 o2 o3 t w h).mono ?_
  rintro e w' ⟨ra, rc, ⟨g, hg, _⟩, h2, h3⟩
  exact ⟨ra, rc, hg.kept, h2, h3⟩
end Go.Proofs.Yteabfjpajgakiag

/- StubOnce, plain: of one session that lives each number whose answer has come was done once, and none twice. -/
set_option linter.unusedSimpArgs false
set_option linter.unusedVariables false
set_option maxRecDepth 10000
namespace Go.Proofs.Yteabfjpajgakiag
open Go.RowKit

def sendE (q a : Int) : Ent := ⟨2, 0, 1, q, a, 2, 1, 0, 1⟩
def openE : Ent := ⟨1, 0, 1, 0, 0, 0, 0, 0, 0⟩
abbrev addO : Int × Int × Int × Int := (2, 1, 0, 1)

theorem atSt_append {l m : List Ent} {j : Nat} (h : j ≤ l.length) : atSt (l ++ m) j = atSt l j := by
  unfold atSt
  rw [List.take_append_of_le_length h]
theorem doneB_append {l m : List Ent} {j : Nat} (h : j < l.length) : doneB (l ++ m) j = doneB l j := by
  rw [doneB_at (by simp; omega), doneB_at h, atSt_append (by omega), List.getElem_append_left h]
theorem doersTo_append {l m : List Ent} : ∀ i, i ≤ l.length → doersTo (l ++ m) i = doersTo l i
  | 0, _ => rfl
  | i + 1, h => by
    simp only [doersTo]
    rw [doneB_append (by omega), doersTo_append i (by omega), List.getElem?_append_left (by omega)]
theorem doers_snoc (l : List Ent) (e : Ent) : doersTo (l ++ [e]) (l ++ [e]).length = if oneDone (runSt zeroSt l) e then doersTo l l.length ++ [e] else doersTo l l.length := by
  have h : l.length < (l ++ [e]).length := by simp
  have e1 : (l ++ [e])[l.length]'h = e := by simp
  have e2 : atSt (l ++ [e]) l.length = runSt zeroSt l := by unfold atSt; rw [List.take_left]
  have e3 : (l ++ [e]).length = l.length + 1 := by simp
  rw [e3]
  cases hd : oneDone (runSt zeroSt l) e with
  | true => rw [doersTo_some h (by rw [e1, e2]; exact hd), doersTo_append _ (Nat.le_refl _), e1]; rfl
  | false => rw [doersTo_none h (by rw [e1, e2]; exact hd), doersTo_append _ (Nat.le_refl _)]; rfl

def onceAll (l : List Ent) (n : Int) : Int := onceTo l 1 n l.length
theorem once_snoc (l : List Ent) (e : Ent) (n : Int) (hc : e.client = 1) : onceAll (l ++ [e]) n = onceAll l n + if oneDone (runSt zeroSt l) e && e.seq == n then 1 else 0 := by
  unfold onceAll onceTo
  rw [doers_snoc]
  cases hd : oneDone (runSt zeroSt l) e with
  | false => simp
  | true =>
    cases hn : (e.seq == n) with
    | true => simp [List.filter_append, hc, hn]
    | false => simp [List.filter_append, hc, hn]

/-- A call that was sent. -/
def SentOk (s : Stu) (e : Ent) : Prop := ∃ q a : Int, e = sendE q a ∧ 1 ≤ q ∧ q ≤ s.next - 1 ∧ q ≤ 60 ∧ 0 ≤ a ∧ a ≤ q - 1 ∧ ∀ n, 1 ≤ n → n ≤ a → n ∈ s.came

/-- What the log has made, of one session that lives. -/
structure Lives (l : List Ent) (came : List Int) (a : Int) (kept : List (Int × Int)) : Prop where
  run : runSt zeroSt l = ⟨l.length, 0, 0, (doersTo l l.length).length, 0, 0, [⟨1, a, 0, kept⟩]⟩
  a0 : 0 ≤ a
  low : ∀ n, 1 ≤ n → n ≤ a → n ∈ came
  one : ∀ n, 1 ≤ n → (n ≤ a ∨ ∃ v, (n, v) ∈ kept) → onceAll l n = 1
  none : ∀ n, 1 ≤ n → ¬ (n ≤ a ∨ ∃ v, (n, v) ∈ kept) → onceAll l n = 0
  came : ∀ n ∈ came, n ≤ a ∨ ∃ v, (n, v) ∈ kept

structure Onced (l : List Ent) (s : Stu) (sent : List Ent) : Prop where
  right : ∀ e ∈ l, entErr e = 0
  stu : stuErr s = 0
  cl : s.client = 1
  sent : ∀ e ∈ sent, SentOk s e
  st : ∃ a kept, Lives l s.came a kept
  doers : ∀ e ∈ doersTo l l.length, e.client = 1 ∧ 1 ≤ e.seq ∧ e.seq ≤ s.next - 1

theorem onced_begun : Onced [openE] ⟨1, 1, []⟩ [] := by
  have hd : doersTo [openE] [openE].length = [] := by decide +kernel
  refine ⟨by decide +kernel, by decide +kernel, rfl, fun e he => (by cases he), ⟨0, [], ⟨?_, Int.le_refl _, fun n h1 h2 => (by omega), fun n h1 h2 => ?_, fun n h1 h2 => ?_, fun n hn => (by cases hn)⟩⟩, fun e he => (by rw [hd] at he; cases he)⟩
  · rw [hd]
    exact same_st_iff.1 (by decide +kernel : sameSt (runSt zeroSt [openE]) ⟨1, 0, 0, 0, 0, 0, [⟨1, 0, 0, []⟩]⟩ = true)
  · rcases h2 with h2 | ⟨v, h2⟩
    · omega
    · cases h2
  · unfold onceAll onceTo
    rw [hd]
    rfl

theorem sent_right {s : Stu} {e : Ent} (h : SentOk s e) : entErr e = 0 ∧ e.kind = 2 ∧ e.client = 1 ∧ e.time = 0 := by
  obtain ⟨q, a, rfl, h1, h2, h3, h4, h5, _⟩ := h
  refine ⟨?_, rfl, rfl, rfl⟩
  have i1 : inB q 1 60 = true := inB_iff.2 ⟨h1, h3⟩
  have i2 : inB a 0 (q - 1) = true := inB_iff.2 ⟨h4, h5⟩
  simp [entErr, entIn, sendE, i1, i2]
  decide +kernel

theorem keptHas_mem {l : List (Int × Int)} {q : Int} (h : keptHas l q = true) : (q, keptVal l q) ∈ l := by
  obtain ⟨hp, hv⟩ := kept_found h
  have h1 : (l[posOf l q]).1 = q := by
    unfold keptHas thereB at h
    rw [List.getElem?_eq_getElem hp] at h
    simpa using h
  have := List.getElem_mem hp
  rw [hv]
  have e : l[posOf l q] = (q, (l[posOf l q]).2) := Prod.ext h1 rfl
  rw [e] at this
  exact this
theorem keptPut_mem_iff {l : List (Int × Int)} {q v n u : Int} (h : (n, u) ∈ keptPut l q v) : (n = q ∧ u = v) ∨ (n, u) ∈ l := by
  unfold keptPut at h
  rcases List.mem_append.1 h with h | h
  · exact .inr (List.mem_of_mem_take h)
  · rcases List.mem_cons.1 h with h | h
    · injection h with h1 h2
      exact .inl ⟨h1, h2⟩
    · exact .inr (List.mem_of_mem_drop h)

/-- One more entry of those that were sent. -/
theorem lives_put {l : List Ent} {s : Stu} {sent : List Ent} {e : Ent} (h : Onced l s sent) (he : SentOk s e) (hl : l.length ≤ 49) :
    Onced (l ++ [e]) s sent ∧ bothErr (runSt zeroSt l) e = 0 ∧ (-1 ≤ oneAns (runSt zeroSt l) e → onceAll (l ++ [e]) e.seq = 1) := by
  obtain ⟨a, kept, L⟩ := h.st
  obtain ⟨hee, hek, hec, het⟩ := sent_right he
  have hS := run_right (L := l) zero_right h.right (by show (0 : Int) + _ ≤ 50; omega)
  have hSat : (runSt zeroSt l).at_ = l.length := by rw [hS.2]; show (0 : Int) + _ = _; omega
  have hb : bothErr (runSt zeroSt l) e = 0 := both_zero hS.1 hee (by rw [hSat]; omega)
  obtain ⟨q, b, rfl, q1, q2, q3, b0, b1, bc⟩ := he
  obtain ⟨v, hv⟩ : ∃ v : Nat, v = (doersTo l l.length).length := ⟨_, rfl⟩
  have hvl : v ≤ 49 := by have := doersTo_len l l.length; omega
  have run := L.run
  rw [← hv] at run
  obtain ⟨T, hT⟩ : ∃ T : St, T = ⟨(l.length : Int) + 1, 0, 0, v, 0, 0, [⟨1, a, 0, kept⟩]⟩ := ⟨_, rfl⟩
  have htick : ticked (runSt zeroSt l) 0 = T := by
    rw [run, hT]
    simp [ticked, freshTab]
  have hTr : stErr T = 0 := by
    rw [← htick]
    exact ticked_right hS.1 (Int.le_refl _) (by decide) (by rw [hSat]; omega)
  have hfind : findSes T.tab 1 = some ⟨1, a, 0, kept⟩ := by rw [hT]; rfl
  obtain ⟨f, hf⟩ : ∃ f : Ses, f = ⟨1, a, 0, kept⟩ := ⟨_, rfl⟩
  rw [← hf] at hfind
  obtain ⟨hp, hfr, _, _⟩ := call_put (e := sendE q b) hTr hee rfl hfind
  have e0 : oneSt (runSt zeroSt l) (sendE q b) = callSt T (sendE q b) := by
    simp only [oneSt, hb, beq_self_eq_true, if_true]
    show takenSt (ticked (runSt zeroSt l) 0) (sendE q b) = _
    rw [htick]
    rfl
  have e1 : oneAns (runSt zeroSt l) (sendE q b) = ansOf T (calledSes T f (sendE q b)) (sendE q b) := by
    simp only [oneAns, hb, beq_self_eq_true, if_true]
    show takenAns (ticked (runSt zeroSt l) 0) (sendE q b) = _
    rw [htick]
    show callAns T (sendE q b) = _
    unfold callAns
    rw [show findSes T.tab (sendE q b).client = some f from hfind]
  have e2 : oneDone (runSt zeroSt l) (sendE q b) = ansDone (calledSes T f (sendE q b)) (sendE q b) := by
    simp only [oneDone, hb, beq_self_eq_true, if_true]
    show takenDone (ticked (runSt zeroSt l) 0) (sendE q b) = _
    rw [htick]
    show callDone T (sendE q b) = _
    unfold callDone
    rw [show findSes T.tab (sendE q b).client = some f from hfind]
  have e3 : callSt T (sendE q b) = { ansSt T (calledSes T f (sendE q b)) (sendE q b) with tab := [callSes T f (sendE q b)] } := by
    unfold callSt
    rw [show findSes T.tab (sendE q b).client = some f from hfind]
    simp only [putTab_ok hp]
    have hc : (callSes T f (sendE q b)).client = 1 := by rw [hf]; rfl
    have hlist : putList T.tab (callSes T f (sendE q b)) = [callSes T f (sendE q b)] := by
      unfold putList
      rw [hc, hT]
      rfl
    rw [hlist]
  -- the session ahead of the answer
  have f1 : (calledSes T f (sendE q b)).acked = max a b := by rw [hf]; rfl
  have f2 : (calledSes T f (sendE q b)).kept = keptAfter (max a b) kept := by rw [hf]; rfl
  have hpair : kept.Pairwise (fun x y => x.1 < y.1) := by have := pair_kept hfr; rw [hf] at this; exact this
  have after_mem : ∀ n u, (n, u) ∈ keptAfter (max a b) kept ↔ (n, u) ∈ kept ∧ max a b < n := fun n u => by
    unfold keptAfter
    rw [List.mem_filter]
    simp
  have old_one : ∀ n, 1 ≤ n → (n ≤ max a b ∨ ∃ u, (n, u) ∈ keptAfter (max a b) kept) → onceAll l n = 1 := fun n hn hh => by
    rcases hh with hh | ⟨u, hu⟩
    · by_cases hna : n ≤ a
      · exact L.one n hn (.inl hna)
      · exact L.one n hn (L.came n (bc n hn (by omega)))
    · exact L.one n hn (.inr ⟨u, ((after_mem n u).1 hu).1⟩)
  have old_none : ∀ n, 1 ≤ n → ¬ (n ≤ max a b ∨ ∃ u, (n, u) ∈ keptAfter (max a b) kept) → onceAll l n = 0 := fun n hn hh => by
    refine L.none n hn (fun h' => hh ?_)
    rcases h' with h' | ⟨u, hu⟩
    · exact .inl (by omega)
    · by_cases hnb : n ≤ max a b
      · exact .inl hnb
      · exact .inr ⟨u, (after_mem n u).2 ⟨hu, by omega⟩⟩
  have came_new : ∀ n ∈ s.came, n ≤ max a b ∨ ∃ u, (n, u) ∈ keptAfter (max a b) kept := fun n hn => by
    by_cases hnb : n ≤ max a b
    · exact .inl hnb
    · rcases L.came n hn with h' | ⟨u, hu⟩
      · exact .inl (by omega)
      · exact .inr ⟨u, (after_mem n u).2 ⟨hu, by omega⟩⟩
  have low_new : ∀ n, 1 ≤ n → n ≤ max a b → n ∈ s.came := fun n hn hh => by
    by_cases hna : n ≤ a
    · exact L.low n hn hna
    · exact bc n hn (by omega)
  have hseq : (sendE q b).seq = q := rfl
  have hlen : ((l ++ [sendE q b]).length : Int) = (l.length : Int) + 1 := by simp
  have hright : ∀ e ∈ l ++ [sendE q b], entErr e = 0 := fun e he => by
    rcases List.mem_append.1 he with he | he
    · exact h.right e he
    · rw [List.mem_singleton.1 he]; exact hee
  have hrun : runSt zeroSt (l ++ [sendE q b]) = callSt T (sendE q b) := by rw [runSt_snoc, e0]
  cases hd : ansDone (calledSes T f (sendE q b)) (sendE q b) with
  | false =>
    have hD : doersTo (l ++ [sendE q b]) (l ++ [sendE q b]).length = doersTo l l.length := by rw [doers_snoc, e2, hd]; rfl
    have hO : ∀ n, onceAll (l ++ [sendE q b]) n = onceAll l n := fun n => by rw [once_snoc _ _ _ rfl, e2, hd]; simp
    refine ⟨⟨hright, h.stu, h.cl, h.sent, ⟨max a b, keptAfter (max a b) kept, ⟨?_, by have := L.a0; omega, low_new, fun n hn hh => by rw [hO]; exact old_one n hn hh, fun n hn hh => by rw [hO]; exact old_none n hn hh, came_new⟩⟩, by rw [hD]; exact h.doers⟩, hb, fun ha => ?_⟩
    · rw [hrun, e3, hD, hlen, ← hv]
      have g1 : ansSt T (calledSes T f (sendE q b)) (sendE q b) = T := by unfold ansSt; rw [hd]; rfl
      have g2 : callSes T f (sendE q b) = ⟨1, max a b, 0, keptAfter (max a b) kept⟩ := by
        unfold callSes ansKept
        rw [hd]
        simp only [Bool.false_eq_true, if_false]
        rw [hf, hT]
        rfl
      rw [g1, g2, hT]
    · rw [hO, hseq]
      rw [e1] at ha
      unfold ansOf at ha
      rw [hd] at ha
      simp only [Bool.false_eq_true, if_false, ansNo, hseq, f1, f2] at ha
      split at ha
      · omega
      · split at ha
        · rename_i hk
          exact old_one q q1 (.inr ⟨_, keptHas_mem hk⟩)
        · omega
  | true =>
    have hd' := hd
    simp only [ansDone, Bool.and_eq_true, Bool.not_eq_true', decide_eq_false_iff_not, hseq, f1, f2] at hd'
    obtain ⟨d1, d2, d3⟩ := hd'
    have hD : doersTo (l ++ [sendE q b]) (l ++ [sendE q b]).length = doersTo l l.length ++ [sendE q b] := by rw [doers_snoc, e2, hd]; rfl
    have hO : ∀ n, onceAll (l ++ [sendE q b]) n = onceAll l n + if q == n then 1 else 0 := fun n => by rw [once_snoc _ _ _ rfl, e2, hd, hseq]; simp
    have hvals : stG T 0 = 0 ∧ stG T 1 = v ∧ stG T 2 = 0 ∧ stG T 3 = 0 := by rw [hT]; exact ⟨rfl, rfl, rfl, rfl⟩
    have hok : opErr 2 1 0 1 = 0 := by decide +kernel
    have hvo : valsOk (stG T) = true := vals_of hTr
    have hst : stepOk 2 (stG T) 1 0 1 = true := by
      simp only [stepOk, beq_self_eq_true, if_true]
      exact inB_iff.2 ⟨by show 0 ≤ stG T 1 + 1; omega, by show stG T 1 + 1 ≤ 999; omega⟩
    have hdv : doneVals T (sendE q b) = upd (stG T) 1 ((v : Int) + 1) := by
      show doVals (stG T) 2 1 0 1 = _
      unfold doVals
      rw [hok, hvo, hst]
      simp only [beq_self_eq_true, Bool.and_self, if_true, stepTo, show ((2 : Int) == 1) = false from rfl, Bool.false_eq_true, if_false]
      show upd (stG T) 1 (stG T 1 + 1) = _
      rw [hvals.2.1]
    have hda : doneAns T (sendE q b) = (v : Int) + 1 := by
      show doAns (stG T) 2 1 0 1 = _
      unfold doAns
      rw [hok, hvo, hst]
      simp only [beq_self_eq_true, Bool.and_self, if_true, stepTo, show ((2 : Int) == 1) = false from rfl, Bool.false_eq_true, if_false]
      show upd (stG T) 1 (stG T 1 + 1) 1 = _
      rw [hvals.2.1]
      rfl
    have hq_no : ¬ (q ≤ max a b ∨ ∃ u, (q, u) ∈ keptAfter (max a b) kept) := by
      rintro (h' | ⟨u, hu⟩)
      · exact d1 h'
      · have hpa : (keptAfter (max a b) kept).Pairwise (fun x y => x.1 < y.1) := hpair.filter _
        have hg := place_gone hpa d2
        have hl := (place_pos q hpa).1
        rw [← List.take_append_drop (posOf (keptAfter (max a b) kept) q) (keptAfter (max a b) kept)] at hu
        rcases List.mem_append.1 hu with hu | hu
        · have := hl _ hu
          simp at this
        · have := hg _ hu
          simp at this
    have mem_iff : ∀ n, (∃ u, (n, u) ∈ keptPut (keptAfter (max a b) kept) q ((v : Int) + 1)) ↔ n = q ∨ ∃ u, (n, u) ∈ keptAfter (max a b) kept := fun n => by
      constructor
      · rintro ⟨u, hu⟩
        rcases keptPut_mem_iff hu with h' | h'
        · exact .inl h'.1
        · exact .inr ⟨u, h'⟩
      · rintro (rfl | ⟨u, hu⟩)
        · exact ⟨_, keptPut_self⟩
        · exact ⟨u, keptPut_mem hu⟩
    refine ⟨⟨hright, h.stu, h.cl, h.sent, ⟨max a b, keptPut (keptAfter (max a b) kept) q ((v : Int) + 1), ⟨?_, by have := L.a0; omega, low_new, fun n hn hh => ?_, fun n hn hh => ?_, fun n hn => ?_⟩⟩, fun e he => ?_⟩, hb, fun _ => ?_⟩
    · rw [hrun, e3, hD, hlen]
      have g1 : ansSt T (calledSes T f (sendE q b)) (sendE q b) = { T with v1 := (v : Int) + 1 } := by
        unfold ansSt setVals
        rw [hd, hdv]
        simp only [if_true]
        rw [hT]
        rfl
      have g2 : callSes T f (sendE q b) = ⟨1, max a b, 0, keptPut (keptAfter (max a b) kept) q ((v : Int) + 1)⟩ := by
        unfold callSes ansKept
        rw [hd, hda]
        simp only [if_true, f2, hseq]
        rw [hf, hT]
        rfl
      rw [g1, g2, hT]
      simp [hv]
    · rw [hO]
      by_cases hnq : q = n
      · subst hnq
        rw [old_none q q1 hq_no]
        simp
      · have : (q == n) = false := by simpa using hnq
        rw [this]
        simp only [Bool.false_eq_true, if_false, Int.add_zero]
        refine old_one n hn ?_
        rcases hh with hh | hh
        · exact .inl hh
        · rcases (mem_iff n).1 hh with rfl | hh
          · exact absurd rfl hnq
          · exact .inr hh
    · rw [hO]
      have hnq : ¬ q = n := fun e => hh (.inr ((mem_iff n).2 (.inl e.symm)))
      have : (q == n) = false := by simpa using hnq
      rw [this]
      simp only [Bool.false_eq_true, if_false, Int.add_zero]
      exact old_none n hn (fun h' => hh (h'.elim .inl (fun h' => .inr ((mem_iff n).2 (.inr h')))))
    · exact (came_new n hn).elim .inl (fun h' => .inr ((mem_iff n).2 (.inr h')))
    · rw [hD] at he
      rcases List.mem_append.1 he with he | he
      · exact h.doers e he
      · rw [List.mem_singleton.1 he]
        exact ⟨rfl, q1, q2⟩
    · rw [hO, hseq, old_none q q1 hq_no]
      simp

theorem cameOk_mk {nx : Int} : ∀ {l : List Int} {p : Int}, l.Pairwise (· < ·) → (∀ n ∈ l, p < n ∧ n ≤ nx - 1) → cameOk nx p l = true
  | [], _, _, _ => rfl
  | n :: r, p, hs, hb => by
    have hs' := List.pairwise_cons.1 hs
    have h0 := hb n (List.mem_cons_self ..)
    simp only [cameOk, Bool.and_eq_true]
    exact ⟨inB_iff.2 (by omega), cameOk_mk hs'.2 (fun m hm => ⟨hs'.1 m hm, (hb m (List.mem_cons_of_mem _ hm)).2⟩)⟩
theorem stu_mk {s : Stu} (h1 : 1 ≤ s.client ∧ s.client ≤ 5) (h2 : 1 ≤ s.next ∧ s.next ≤ 61) (h3 : s.came.Pairwise (· < ·)) (h4 : ∀ n ∈ s.came, 0 < n ∧ n ≤ s.next - 1) : stuErr s = 0 := by
  unfold stuErr
  rw [inB_iff.2 h1, inB_iff.2 h2, cameOk_mk h3 h4]
  rfl

/-- A number has come that was done. -/
theorem lives_came {l : List Ent} {s : Stu} {sent : List Ent} {e : Ent} (h : Onced l s sent) (he : SentOk s e) (h1 : onceAll l e.seq = 1) : cameErr s e.seq = 0 ∧ Onced l (cameS s e.seq) sent ∧ (cameS s e.seq).next = s.next := by
  obtain ⟨q, b, rfl, q1, q2, q3, b0, b1, bc⟩ := he
  obtain ⟨r1, r2, r3⟩ := stu_right h.stu
  have h0 : cameErr s q = 0 := by
    unfold cameErr
    rw [h.stu, inB_iff.2 ⟨q1, q2⟩]
    rfl
  have hS : cameS s q = ⟨s.client, s.next, camePut s.next s.came q⟩ := by unfold cameS; rw [h0]; rfl
  have hb := came_bounds r3
  have hmem : ∀ x, x ∈ camePut s.next s.came q ↔ (x = q ∨ x ∈ s.came) := fun x => by
    unfold camePut
    rw [cameTo_mem]
    constructor
    · exact fun h => h.2
    · rintro (rfl | h')
      · exact ⟨⟨q1, by omega⟩, .inl rfl⟩
      · have := hb x h'
        exact ⟨⟨by omega, by omega⟩, .inr h'⟩
  show cameErr s q = 0 ∧ Onced l (cameS s q) sent ∧ (cameS s q).next = s.next
  rw [hS]
  obtain ⟨a, kept, L⟩ := h.st
  refine ⟨h0, ⟨h.right, ?_, h.cl, fun e he => ?_, ⟨a, kept, ⟨L.run, L.a0, fun n hn hh => (hmem n).2 (.inr (L.low n hn hh)), L.one, L.none, fun n hn => ?_⟩⟩, h.doers⟩, rfl⟩
  · refine stu_mk r1 r2 (cameTo_sorted _ _ _) (fun n hn => ?_)
    rcases (hmem n).1 hn with rfl | hn
    · exact ⟨by omega, q2⟩
    · exact hb n hn
  · obtain ⟨q', b', e', x1, x2, x3, x4, x5, x6⟩ := h.sent e he
    exact ⟨q', b', e', x1, x2, x3, x4, x5, fun n hn hh => (hmem n).2 (.inr (x6 n hn hh))⟩
  · rcases (hmem n).1 hn with rfl | hn
    · apply Classical.byContradiction
      intro hc
      have := L.none n q1 hc
      have h1' : onceAll l n = 1 := h1
      omega
    · exact L.came n hn

theorem call_ok {s : Stu} {q : Int} (hc : s.client = 1) (h : entErr (stuCall s 0 q addO) = 0) : stuCall s 0 q addO = sendE q (ackOf s.came) ∧ 1 ≤ q ∧ q ≤ 60 ∧ (ackOf s.came : Int) ≤ q - 1 ∧ ∀ n, 1 ≤ n → n ≤ (ackOf s.came : Int) → n ∈ s.came := by
  have hE : stuCall s 0 q addO = sendE q (ackOf s.came) := by simp [stuCall, sendE, hc]
  rw [hE] at h
  obtain ⟨_, _, _, h4, _⟩ := ent_right h
  obtain ⟨x1, x2, _⟩ := h4 rfl
  refine ⟨hE, x1.1, x1.2, x2.2, fun n hn hh => ?_⟩
  have := ackFrom_mem s.came 0 n.toNat (by omega) (by unfold ackOf at hh; omega)
  rwa [show ((n.toNat : Nat) : Int) = n by omega] at this

theorem lives_next {l : List Ent} {s : Stu} {sent : List Ent} (h : Onced l s sent) (h0 : nextErr s 0 addO = 0) : Onced l (nextS s 0 addO) (sent ++ [nextE s 0 addO]) ∧ (nextS s 0 addO).next = s.next + 1 := by
  obtain ⟨r1, r2, r3⟩ := stu_right h.stu
  have hS : nextS s 0 addO = ⟨s.client, s.next + 1, s.came⟩ := by unfold nextS; rw [h0]; rfl
  have hE : nextE s 0 addO = stuCall s 0 s.next addO := by unfold nextE; rw [h0]; rfl
  have he : entErr (stuCall s 0 s.next addO) = 0 := by
    unfold nextErr at h0
    rw [h.stu] at h0
    exact h0
  obtain ⟨c1, c2, c3, c4, c5⟩ := call_ok h.cl he
  rw [hS, hE, c1]
  obtain ⟨a, kept, L⟩ := h.st
  refine ⟨⟨h.right, stu_mk r1 ⟨by show 1 ≤ s.next + 1; omega, by show s.next + 1 ≤ 61; omega⟩ (came_sorted r3) (fun n hn => ?_), h.cl, fun e he => ?_, ⟨a, kept, L⟩, fun e he => ?_⟩, rfl⟩
  · have := came_bounds r3 n hn
    show 0 < n ∧ n ≤ s.next + 1 - 1
    omega
  · rcases List.mem_append.1 he with he | he
    · obtain ⟨q', b', e', x1, x2, x3, x4, x5, x6⟩ := h.sent e he
      exact ⟨q', b', e', x1, by show q' ≤ s.next + 1 - 1; omega, x3, x4, x5, x6⟩
    · rw [List.mem_singleton.1 he]
      exact ⟨_, _, rfl, c2, by show s.next ≤ s.next + 1 - 1; omega, c3, by omega, c4, c5⟩
  · have := h.doers e he
    exact ⟨this.1, this.2.1, by show e.seq ≤ s.next + 1 - 1; omega⟩

theorem lives_again {l : List Ent} {s : Stu} {sent : List Ent} {q : Int} (h : Onced l s sent) (h0 : againErr s 0 q addO = 0) : Onced l s (sent ++ [againE s 0 q addO]) := by
  have hE : againE s 0 q addO = stuCall s 0 q addO := by unfold againE; rw [h0]; rfl
  have he : inB q 1 (s.next - 1) = true ∧ entErr (stuCall s 0 q addO) = 0 := by
    unfold againErr at h0
    rw [h.stu] at h0
    simp only [beq_self_eq_true, if_true] at h0
    split at h0
    · cases h0
    · split at h0
      · rename_i hb
        exact ⟨hb, h0⟩
      · cases h0
  obtain ⟨c1, c2, c3, c4, c5⟩ := call_ok h.cl he.2
  refine ⟨h.right, h.stu, h.cl, fun e he' => ?_, h.st, h.doers⟩
  rcases List.mem_append.1 he' with he' | he'
  · exact h.sent e he'
  · rw [List.mem_singleton.1 he', hE, c1]
    exact ⟨_, _, rfl, c2, (inB_iff.1 he.1).2, c3, by omega, c4, c5⟩

/-- The sum of all that were done, up to a number. -/
def onceSum (l : List Ent) : Nat → Int
  | 0 => 0
  | n + 1 => onceSum l n + onceAll l ((n : Int) + 1)
theorem count_sum (D : List Ent) : ∀ (n : Nat), (∀ e ∈ D, e.client = 1 ∧ 1 ≤ e.seq) → ∀ m : Nat, (∀ e ∈ D, e.seq ≤ m) → m = n → ((List.range n).map (fun k : Nat => ((D.filter (fun e => e.client == 1 && e.seq == (k : Int) + 1)).length : Int))).sum = D.length := by
  intro n hD m hm hmn
  subst hmn
  induction D with
  | nil =>
    have : ∀ n : Nat, ((List.range n).map (fun k : Nat => (((([] : List Ent).filter (fun e => e.client == 1 && e.seq == (k : Int) + 1)).length : Nat) : Int))).sum = 0 := by
      intro n
      induction n with
      | zero => rfl
      | succ n ih => rw [List.range_succ, List.map_append, List.sum_append, ih]; rfl
    exact this m
  | cons e D ih =>
    have ih := ih (fun x hx => hD x (List.mem_cons_of_mem _ hx)) (fun x hx => hm x (List.mem_cons_of_mem _ hx))
    obtain ⟨h1, h2⟩ := hD e (List.mem_cons_self ..)
    have h3 := hm e (List.mem_cons_self ..)
    have step : ∀ n : Nat, ((List.range n).map (fun k : Nat => ((((e :: D).filter (fun x => x.client == 1 && x.seq == (k : Int) + 1)).length : Nat) : Int))).sum = ((List.range n).map (fun k : Nat => (((D.filter (fun x => x.client == 1 && x.seq == (k : Int) + 1)).length : Nat) : Int))).sum + if e.seq ≤ n then 1 else 0 := by
      intro n
      induction n with
      | zero => simp; omega
      | succ n ihn =>
        rw [List.range_succ, List.map_append, List.sum_append, List.map_append, List.sum_append, ihn]
        simp only [List.map_cons, List.map_nil, List.sum_cons, List.sum_nil]
        by_cases hq : e.seq = (n : Int) + 1
        · rw [List.filter_cons_of_pos (by simp [h1, hq]), if_neg (by omega), if_pos (by omega)]
          simp only [List.length_cons]
          omega
        · rw [List.filter_cons_of_neg (by simp [h1, hq])]
          by_cases hn : e.seq ≤ n
          · rw [if_pos hn, if_pos (by omega)]
            omega
          · rw [if_neg hn, if_neg (by omega)]
            omega
    rw [step m, ih, if_pos h3]
    simp
theorem onceSum_eq (l : List Ent) : ∀ n : Nat, onceSum l n = ((List.range n).map (fun k : Nat => (((doersTo l l.length).filter (fun e => e.client == 1 && e.seq == (k : Int) + 1)).length : Int))).sum
  | 0 => rfl
  | n + 1 => by
    rw [List.range_succ, List.map_append, List.sum_append, ← onceSum_eq l n]
    simp [onceSum, onceAll, onceTo]

/-- What the end holds. -/
theorem once_end {l : List Ent} {s : Stu} {sent : List Ent} (h : Onced l s sent) (hl : l.length ≤ 50) : foldErr zeroSt l = 0 ∧ (∀ n, 1 ≤ n → n ≤ s.next - 1 → n ≤ 60 → onceErr l 1 n = 0 ∧ onceN l 1 n = onceAll l n ∧ 0 ≤ onceAll l n ∧ onceAll l n ≤ 1) ∧ (∀ n ∈ s.came, onceAll l n = 1) ∧ (runSt zeroSt l).v1 = onceSum l (s.next - 1).toNat := by
  obtain ⟨a, kept, L⟩ := h.st
  obtain ⟨r1, r2, r3⟩ := stu_right h.stu
  have hf : foldErr zeroSt l = 0 := by
    have : listErr l = 0 := by
      unfold listErr
      rw [if_neg (by omega)]
      exact fent_zero.2 h.right
    rw [fold_zero_err, this]
  have hlist : listErr l = 0 := by rw [← fold_zero_err]; exact hf
  refine ⟨hf, fun n h1 h2 h3 => ?_, fun n hn => L.one n (by have := came_bounds r3 n hn; omega) (L.came n hn), ?_⟩
  · have he : onceErr l 1 n = 0 := by
      unfold onceErr
      rw [hlist, inB_iff.2 ⟨h1, h3⟩]
      rfl
    refine ⟨he, by unfold onceN; rw [he]; rfl, ?_, ?_⟩
    · by_cases hc : n ≤ a ∨ ∃ v, (n, v) ∈ kept
      · rw [L.one n h1 hc]; decide
      · rw [L.none n h1 hc]; decide
    · by_cases hc : n ≤ a ∨ ∃ v, (n, v) ∈ kept
      · rw [L.one n h1 hc]; decide
      · rw [L.none n h1 hc]; decide
  · rw [L.run, onceSum_eq]
    exact (count_sum (doersTo l l.length) _ (fun e he => ⟨(h.doers e he).1, (h.doers e he).2.1⟩) (s.next - 1).toNat (fun e he => by have := (h.doers e he).2.2; omega) rfl).symm
end Go.Proofs.Yteabfjpajgakiag

/- A region that draws its order: whatever the order, each operation's value meets a condition of its own; the conditions stand when memory is added, and, where an operation writes (a store, an append in its place: 'special'), as far as that operation's own frame keeps them. -/
set_option linter.unusedSimpArgs false
set_option linter.unusedVariables false
namespace Go.Proofs.Yteabfjpajgakiag
open Go.RowKit

/-- A condition on a value that stands when memory is added. -/
structure Pr where
  p : Value → World → Prop
  keep : ∀ v W W', p v W → Keeps W W' → p v W'
def Pr.any : Pr := ⟨fun _ _ => True, fun _ _ _ _ _ => trivial⟩
def Pr.is (x : Value) : Pr := ⟨fun v _ => v = x, fun _ _ _ h _ => h⟩

def prAt : List Pr → Nat → Pr
  | [], _ => Pr.any
  | r :: _, 0 => r
  | _ :: rs, i + 1 => prAt rs i

def fillL : List (Option Tmp) → (Nat → Value) → Nat → Act → Act
  | [], _, _, a => a
  | d :: ds, vs, k, a => fillL ds vs (k + 1) (a.put d (vs k))

theorem put_twice (a : Act) (d : Option Tmp) (x y : Value) : (a.put d x).put d y = a.put d y := by
  cases d <;> simp [Act.put]
theorem put_comm' (a : Act) {d e : Option Tmp} (x y : Value) (h : ∀ t, d = some t → e ≠ some t) : (a.put d x).put e y = (a.put e y).put d x := by
  cases d with
  | none => rfl
  | some d =>
    cases e with
    | none => rfl
    | some e =>
      simp only [Act.put]
      rw [Array.setIfInBounds_comm _ _ (fun q => h d rfl (by rw [q]))]
/-- No slot is written twice. -/
def apartB : List (Option Tmp) → Bool
  | [] => true
  | none :: ds => apartB ds
  | some d :: ds => !ds.contains (some d) && apartB ds
theorem fillL_comm {d : Option Tmp} : ∀ (ds : List (Option Tmp)) (vs : Nat → Value) (k : Nat) (a : Act) (v : Value), (∀ t, d = some t → some t ∉ ds) → (fillL ds vs k a).put d v = fillL ds vs k (a.put d v)
  | [], _, _, _, _, _ => rfl
  | e :: ds, vs, k, a, v, h => by
    simp only [fillL]
    rw [fillL_comm ds vs (k + 1) _ v (fun t ht hm => h t ht (List.mem_cons_of_mem _ hm)), put_comm' a (vs k) v (fun t ht hd => h t hd (by rw [ht]; exact List.mem_cons_self ..))]
theorem fillL_congr : ∀ (ds : List (Option Tmp)) (vs vs' : Nat → Value) (k : Nat) (a : Act), (∀ j, k ≤ j → vs j = vs' j) → fillL ds vs k a = fillL ds vs' k a
  | [], _, _, _, _, _ => rfl
  | d :: ds, vs, vs', k, a, h => by
    simp only [fillL]
    rw [h k (Nat.le_refl _)]
    exact fillL_congr ds vs vs' (k + 1) _ (fun j hj => h j (by omega))
theorem fillL_put {d : Option Tmp} : ∀ (ds : List (Option Tmp)) (vs : Nat → Value) (k i : Nat) (a : Act) (v : Value), apartB ds = true → ds[i]? = some d → (fillL ds vs k a).put d v = fillL ds (fun j => if j = k + i then v else vs j) k a
  | [], _, _, i, _, _, _, h => by simp at h
  | e :: ds, vs, k, 0, a, v, hn, h => by
    obtain rfl : e = d := by simpa using h
    simp only [fillL]
    rw [fillL_comm ds vs (k + 1) _ v (fun t ht hm => by subst ht; simp [apartB] at hn; exact hn.1 hm), put_twice]
    simp only [Nat.add_zero, if_true]
    exact fillL_congr ds _ _ (k + 1) _ (fun j hj => by simp [show j ≠ k by omega])
  | e :: ds, vs, k, i + 1, a, v, hn, h => by
    have hn' : apartB ds = true := by
      cases e with
      | none => exact hn
      | some e => simp [apartB] at hn; exact hn.2
    simp only [fillL]
    rw [fillL_put ds vs (k + 1) i _ v hn' (by simpa using h)]
    simp only [show k ≠ k + (i + 1) by omega, if_false]
    exact fillL_congr ds _ _ (k + 1) _ (fun j hj => by simp [show k + 1 + i = k + (i + 1) by omega])

def cntU (listed : Array Bool) : Nat → Nat
  | 0 => 0
  | n + 1 => cntU listed n + (if listed.getD n false = true then 0 else 1)
theorem getD_set {listed : Array Bool} {i : Nat} (hi : i < listed.size) (j : Nat) : (listed.setIfInBounds i true).getD j false = if j = i then true else listed.getD j false := by
  simp only [Array.getD_eq_getD_getElem?, Array.getElem?_setIfInBounds]
  by_cases h : i = j
  · subst h; simp [hi]
  · rw [if_neg h, if_neg (fun e => h e.symm)]
theorem cnt_ge {listed : Array Bool} {i : Nat} (hi : i < listed.size) : ∀ n, n ≤ i → cntU (listed.setIfInBounds i true) n = cntU listed n
  | 0, _ => rfl
  | n + 1, h => by
    simp only [cntU]
    rw [cnt_ge hi n (by omega), getD_set hi, if_neg (by omega : ¬ n = i)]
theorem cnt_lt {listed : Array Bool} {i : Nat} (hi : i < listed.size) (hu : listed.getD i false = false) : ∀ n, i < n → cntU listed n = cntU (listed.setIfInBounds i true) n + 1
  | 0, h => by omega
  | n + 1, h => by
    simp only [cntU]
    by_cases hn : i = n
    · subst hn
      rw [cnt_ge hi i (Nat.le_refl _), getD_set hi, hu]
      simp
    · rw [cnt_lt hi hu n (by omega), getD_set hi, if_neg (by omega : ¬ n = i)]
      omega
theorem cnt_zero {listed : Array Bool} : ∀ n, cntU listed n = 0 → ∀ i, i < n → listed.getD i false = true
  | 0, _, i, h => by omega
  | n + 1, h, i, hi => by
    simp only [cntU] at h
    by_cases hn : i = n
    · subst hn
      cases q : listed.getD i false with
      | true => rfl
      | false => rw [q] at h; simp at h
    · exact cnt_zero n (by omega) i (by omega)
theorem cnt_pos {listed : Array Bool} : ∀ n, cntU listed n ≠ 0 → ∃ i, i < n ∧ listed.getD i false = false
  | 0, h => absurd rfl h
  | n + 1, h => by
    simp only [cntU] at h
    cases q : listed.getD n false with
    | false => exact ⟨n, by omega, q⟩
    | true =>
      rw [q] at h
      obtain ⟨i, hi, hu⟩ := cnt_pos n (by simpa using h)
      exact ⟨i, by omega, hu⟩

/-- j waits for i. -/
def waitB (ops : Array Oper) (j i : Nat) : Bool := ((ops[j]?).map fun o => o.after.any fun e => Region.binds .any e && e.on == i).getD false
/-- None waits for one behind it. -/
def growB (ops : Array Oper) : Bool := (List.range ops.size).all fun i => ((ops[i]?).map fun o => o.after.all fun e => !Region.binds .any e || decide (e.on < i)).getD false
theorem grow_back {ops : Array Oper} (h : growB ops = true) : ∀ i, i < ops.size → ∃ o, ops[i]? = some o ∧ ∀ e ∈ o.after, Region.binds .any e = true → e.on < i := by
  simp only [growB, List.all_eq_true, List.mem_range] at h
  intro i hi
  have := h i hi
  cases ho : ops[i]? with
  | none => rw [ho] at this; cases this
  | some o =>
    rw [ho] at this
    simp only [Option.map_some, Option.getD_some, Array.all_eq_true', Bool.or_eq_true, Bool.not_eq_true', decide_eq_true_eq] at this
    refine ⟨o, rfl, fun e he hb => ?_⟩
    rcases this e he with h' | h'
    · rw [hb] at h'; cases h'
    · exact h'

structure Listed (ops : Array Oper) (listed : Array Bool) : Prop where
  size : listed.size = ops.size
  down : ∀ j, listed.getD j false = true → ∀ o, ops[j]? = some o → ∀ e ∈ o.after, Region.binds .any e = true → listed.getD e.on false = true

theorem waitB_iff {ops : Array Oper} {j i : Nat} (h : waitB ops j i = true) : ∃ o, ops[j]? = some o ∧ ∃ e ∈ o.after, Region.binds .any e = true ∧ e.on = i := by
  unfold waitB at h
  cases ho : ops[j]? with
  | none => rw [ho] at h; cases h
  | some o =>
    rw [ho] at h
    simp only [Option.map_some, Option.getD_some, Array.any_eq_true', Bool.and_eq_true, beq_iff_eq] at h
    obtain ⟨e, he, hb, hk⟩ := h
    exact ⟨o, rfl, e, he, hb, hk⟩
theorem getD_both {listed : Array Bool} {i : Nat} (hi : i < listed.size) : listed.getD i true = listed.getD i false := by
  simp [Array.getD, hi]
theorem grow_some {ops : Array Oper} (G : ∀ i, i < ops.size → ∃ o, ops[i]? = some o ∧ ∀ e ∈ o.after, Region.binds .any e = true → e.on < i) {listed : Array Bool} (L : Listed ops listed) : ∀ k u, u ≤ k → u < ops.size → listed.getD u false = false → ∃ i, i ∈ Region.ready .any ops listed := by
  intro k
  induction k with
  | zero =>
    intro u hk hu hul
    obtain ⟨o, ho, hb⟩ := G u hu
    exact ⟨u, mem_ready.2 ⟨by rw [getD_both (by rw [L.size]; omega)]; exact hul, o, ho, fun e he hbd => by have := hb e he hbd; omega⟩⟩
  | succ k ih =>
    intro u hk hu hul
    obtain ⟨o, ho, hb⟩ := G u hu
    by_cases hall : ∀ e ∈ o.after, Region.binds .any e = true → listed.getD e.on false = true
    · exact ⟨u, mem_ready.2 ⟨by rw [getD_both (by rw [L.size]; omega)]; exact hul, o, ho, hall⟩⟩
    · have : ∃ e, e ∈ o.after ∧ Region.binds .any e = true ∧ listed.getD e.on false = false := by
        apply Classical.byContradiction
        intro hc
        refine hall (fun e he hbd => ?_)
        cases q : listed.getD e.on false with
        | true => rfl
        | false => exact absurd ⟨e, he, hbd, q⟩ hc
      obtain ⟨e, he, hbd, q⟩ := this
      have := hb e he hbd
      exact ih e.on (by omega) (by omega) q

/-- It comes behind k. -/
def reachB (ops : Array Oper) : Nat → Nat → Nat → Bool
  | 0, _, _ => false
  | f + 1, i, k => waitB ops i k || (List.range i).any fun j => waitB ops i j && reachB ops f j k
theorem reach_listed {ops : Array Oper} {listed : Array Bool} (L : Listed ops listed) : ∀ f i k, reachB ops f i k = true → listed.getD i false = true → listed.getD k false = true
  | 0, _, _, h, _ => by cases h
  | f + 1, i, k, h, hl => by
    have one : ∀ j, waitB ops i j = true → listed.getD j false = true := fun j hw => by
      obtain ⟨o, ho, e, he, hb, rfl⟩ := waitB_iff hw
      exact L.down i hl o ho e he hb
    simp only [reachB, Bool.or_eq_true, List.any_eq_true, Bool.and_eq_true] at h
    rcases h with h | ⟨j, _, h1, h2⟩
    · exact one k h
    · exact reach_listed L f j k h2 (one j h1)

/-- An operation that writes: its number, the numbers whose conditions it ends, its frame. -/
structure Wr where
  num : Nat
  dead : List Nat
  frame : World → World → Prop
def Fr (xs : List Wr) (w0 : World) (i : Nat) (W W' : World) : Prop := ((∀ x ∈ xs, x.num ≠ i) → Keeps W W') ∧ Keeps w0 W' ∧ ∀ x ∈ xs, x.num = i → x.frame W W'
theorem Fr.of {xs : List Wr} {w0 : World} {i : Nat} {W W' : World} (h : ∀ x ∈ xs, x.num ≠ i) (h0 : Keeps w0 W) (hk : Keeps W W') : Fr xs w0 i W W' := ⟨fun _ => hk, h0.trans hk, fun x hx e => absurd e (h x hx)⟩

/-- What i may use of j. -/
def mayB (ops : Array Oper) (xs : List Wr) (i j : Nat) : Bool := waitB ops i j && xs.all fun x => !x.dead.contains j || (x.num == i || reachB ops ops.size x.num i)

/-- What one operation is to do. -/
def GrowStep (P : Program) (l : List Oper) (Q : Exit → Act → World → Prop) (a0 : Act) (w0 : World) (ds : List (Option Tmp)) (R : List Pr) (xs : List Wr) (i : Nat) : Prop :=
  ∀ (vs : Nat → Value) (W : World), Keeps w0 W → (∀ j, mayB l.toArray xs i j = true → (prAt R j).p (vs j) W) →
    ∀ K : Act → World → Prop, Shut (∀ a' v W', a' = (fillL ds vs 0 a0).put (ds.getD i none) v → Fr xs w0 i W W' → (prAt R i).p v W' → K a' W') →
      match l[i]? with
      | none => False
      | some o => if Region.wanted o (yielded l.toArray (fillL ds vs 0 a0).tmps) = true then o.wp P (fillL ds vs 0 a0) W K Q else K ((fillL ds vs 0 a0).put o.dst undef) W

theorem grow_all {P : Program} {l : List Oper} {Q : Exit → Act → World → Prop} {a0 : Act} {w0 : World} {ds : List (Option Tmp)} {R : List Pr} {xs : List Wr} (hds : l.map (·.dst) = ds) (hnd : apartB ds = true) (hG : growB l.toArray = true)
    (hstep : ∀ i, i < l.length → GrowStep P l Q a0 w0 ds R xs i)
    (hF : ∀ x ∈ xs, ∀ j, j < l.length → j ∉ x.dead → j ≠ x.num → reachB l.toArray l.toArray.size j x.num = false → ∀ v W W', (prAt R j).p v W → x.frame W W' → (prAt R j).p v W')
    (hend : ∀ vs W, Keeps w0 W → (∀ i, i < l.length → (∀ x ∈ xs, i ∉ x.dead) → (prAt R i).p (vs i) W) → Q .normal (fillL ds vs 0 a0) W) :
    ∀ c (listed : Array Bool) (vs : Nat → Value) (W : World), cntU listed l.length = c → Listed l.toArray listed → Keeps w0 W → (∀ i, i < l.length → listed.getD i false = true → (∀ x ∈ xs, listed.getD x.num false = true → i ∉ x.dead) → (prAt R i).p (vs i) W) →
      wpAny P .any l.toArray Q c listed (fillL ds vs 0 a0) W := by
  have G := grow_back hG
  have hN : l.toArray.size = l.length := by simp
  intro c
  induction c with
  | zero =>
    intro listed vs W hc L hk hR
    have hall := cnt_zero l.length hc
    refine ⟨?_, hend vs W hk (fun i hi hd => hR i hi (hall i hi) (fun x hx _ => hd x hx))⟩
    apply List.eq_nil_iff_forall_not_mem.2
    intro i hi
    obtain ⟨h1, o, ho, _⟩ := mem_ready.1 hi
    have hil : i < l.length := by have := size_of ho; omega
    rw [getD_both (by rw [L.size]; omega), hall i hil] at h1
    cases h1
  | succ c ih =>
    intro listed vs W hc L hk hR
    obtain ⟨u, hu, hul⟩ := cnt_pos l.length (by omega : cntU listed l.length ≠ 0)
    refine ⟨fun h0 => ?_, fun i hi => ?_⟩
    · obtain ⟨i, hi⟩ := grow_some G L u u (Nat.le_refl _) (by omega) hul
      rw [h0] at hi
      cases hi
    · obtain ⟨h1, o, ho, ha⟩ := mem_ready.1 hi
      have hin : i < l.length := by have := size_of ho; omega
      have his : i < listed.size := by rw [L.size]; omega
      have hiu : listed.getD i false = false := by rw [← getD_both his]; exact h1
      have hlo : l[i]? = some o := by simpa using ho
      have hdst : o.dst = ds.getD i none ∧ ds[i]? = some (ds.getD i none) := by
        have e1 : (l.map (·.dst))[i]? = some o.dst := by simp [hlo]
        rw [hds] at e1
        have e2 : ds.getD i none = o.dst := by simp [List.getD, e1]
        exact ⟨e2.symm, by rw [e2]; exact e1⟩
      have hs := hstep i hin vs W hk (fun j hw => by
        simp only [mayB, Bool.and_eq_true, List.all_eq_true, Bool.or_eq_true, Bool.not_eq_true', beq_iff_eq] at hw
        obtain ⟨o', ho', e, he, hb, rfl⟩ := waitB_iff hw.1
        rw [ho] at ho'
        cases ho'
        obtain ⟨o2, ho2, hb2⟩ := G i (by omega)
        rw [ho] at ho2
        cases ho2
        refine hR e.on (by have := hb2 e he hb; omega) (ha e he hb) (fun x hx hxl => ?_)
        rcases hw.2 x hx with h' | h' | h'
        · intro hm
          rw [List.contains_iff_mem.2 hm] at h'
          cases h'
        · rw [h', hiu] at hxl; cases hxl
        · have := reach_listed L _ x.num i h' hxl
          rw [hiu] at this
          cases this)
      refine wpOp_step ho (fun K hK => ?_)
      have hs' := hs K (fun a' v W' ha' hfr hv => by
        subst ha'
        refine hK _ _ ?_
        rw [fillL_put ds vs 0 i a0 v hnd hdst.2, Nat.zero_add]
        refine ih (listed.setIfInBounds i true) _ W' (by have := cnt_lt his hiu l.length hin; omega) ⟨by rw [Array.size_setIfInBounds]; exact L.size, ?_⟩ hfr.2.1 ?_
        · intro j hj o' ho' e he hb
          rw [getD_set his] at hj ⊢
          by_cases hje : j = i
          · subst hje
            rw [ho] at ho'
            cases ho'
            rw [ha e he hb]
            simp
          · rw [if_neg hje] at hj
            rw [L.down j hj o' ho' e he hb]
            simp
        · intro j hj hjl hjd
          rw [getD_set his] at hjl
          by_cases hje : j = i
          · subst hje
            simp only [if_true]
            exact hv
          · rw [if_neg hje] at hjl
            simp only [if_neg hje]
            have hold : (prAt R j).p (vs j) W := hR j hj hjl (fun x hx hxl => hjd x hx (by rw [getD_set his, hxl, ite_self]))
            by_cases hix : ∃ x, x ∈ xs ∧ x.num = i
            · obtain ⟨x, hx, rfl⟩ := hix
              refine hF x hx j hj (hjd x hx (by rw [getD_set his, if_pos rfl])) hje ?_ _ W W' hold (hfr.2.2 x hx rfl)
              cases q : reachB l.toArray l.toArray.size j x.num with
              | false => rfl
              | true =>
                have := reach_listed L _ j x.num q hjl
                rw [hiu] at this
                cases this
            · exact (prAt R j).keep _ _ _ hold (hfr.1 (fun x hx e => hix ⟨x, hx, e⟩)))
      rw [hlo] at hs'
      simp only at hs'
      exact hs'

theorem rep_false (N k : Nat) : (Array.replicate N false).getD k false = false := by
  by_cases h : k < N <;> simp [Array.getD, h]

/-- THE RULE. -/
theorem wp_region_grow {P : Program} {id : Nat} {Q : Exit → Act → World → Prop} {a0 : Act} {w : World} {l : List Oper} (ds : List (Option Tmp)) (R : List Pr) (xs : List Wr) (hm : P.follows .mixedOrders = true) (hds : l.map (·.dst) = ds) (hnd : apartB ds = true) (hG : growB l.toArray = true)
    (hstep : ∀ i, i < l.length → GrowStep P l Q a0 w.drew ds R xs i)
    (hF : ∀ x ∈ xs, ∀ j, j < l.length → j ∉ x.dead → j ≠ x.num → reachB l.toArray l.toArray.size j x.num = false → ∀ v W W', (prAt R j).p v W → x.frame W W' → (prAt R j).p v W')
    (hend : ∀ vs W, Keeps w.drew W → (∀ i, i < l.length → (∀ x ∈ xs, i ∉ x.dead) → (prAt R i).p (vs i) W) → Q .normal (fillL ds vs 0 a0) W) : (Code.region id l.toArray true).wp P Q a0 w := by
  refine wp_region_any hm ?_
  obtain ⟨vs, hvs⟩ : ∃ vs : Nat → Value, vs = fun i => match ds.getD i none with | some d => a0.tmps.getD d undef | none => undef := ⟨_, rfl⟩
  have key := grow_all hds hnd hG hstep hF hend l.length (Array.replicate l.toArray.size false) vs w.drew
  have hcnt : ∀ k, k ≤ l.toArray.size → cntU (Array.replicate l.toArray.size false) k = k := by
    intro k
    induction k with
    | zero => intro _; rfl
    | succ k ih =>
      intro hk
      simp only [cntU]
      rw [ih (by omega), rep_false]
      simp
  have hfill : ∀ (ds' : List (Option Tmp)) (k : Nat) (vs : Nat → Value), (∀ i d, ds'[i]? = some (some d) → vs (k + i) = a0.tmps.getD d undef) → fillL ds' vs k a0 = a0 := by
    intro ds'
    induction ds' with
    | nil => intro _ _ _; rfl
    | cons d ds' ih =>
      intro k vs h
      simp only [fillL]
      have : a0.put d (vs k) = a0 := by
        cases d with
        | none => rfl
        | some d =>
          have h0 := h 0 d rfl
          rw [Nat.add_zero] at h0
          rw [h0]
          simp only [Act.put]
          congr 1
          apply Array.ext
          · simp
          · intro i h1 h2
            rw [Array.getElem_setIfInBounds]
            split
            · rename_i hdi
              subst hdi
              simp [Array.getD, h2]
            · rfl
      rw [this]
      exact ih (k + 1) vs (fun i d' hd => by rw [← h (i + 1) d' (by simpa using hd)]; congr 1; omega)
  have hf := hfill ds 0 vs (fun i d hd => by rw [hvs]; simp [List.getD, hd])
  rw [hf] at key
  have hsz : l.length = l.toArray.size := by simp
  rw [hsz] at key
  exact key (hcnt _ (Nat.le_refl _)) ⟨by simp, fun j hj => (by rw [rep_false] at hj; cases hj)⟩ (Keeps.refl _) (fun i hi hj _ => (by rw [rep_false] at hj; cases hj))
end Go.Proofs.Yteabfjpajgakiag

/- The rule for drawn regions, with an invariant of one's own. -/
set_option linter.unusedSimpArgs false
set_option linter.unusedVariables false
namespace Go.Proofs.Yteabfjpajgakiag
open Go.RowKit

def FrI (xs : List Wr) (I : World → Prop) (i : Nat) (W W' : World) : Prop := ((∀ x ∈ xs, x.num ≠ i) → Keeps W W') ∧ I W' ∧ ∀ x ∈ xs, x.num = i → x.frame W W'
theorem FrI.of {xs : List Wr} {I : World → Prop} {i : Nat} {W W' : World} (h : ∀ x ∈ xs, x.num ≠ i) (h0 : I W') (hk : Keeps W W') : FrI xs I i W W' := ⟨fun _ => hk, h0, fun x hx e => absurd e (h x hx)⟩

end Go.Proofs.Yteabfjpajgakiag

/- Laws for variables of many cells, drawn regions. -/
set_option linter.unusedSimpArgs false
set_option linter.unusedVariables false
set_option maxRecDepth 10000
namespace Go.Proofs.Yteabfjpajgakiag
open Go.RowKit

/-- A variable of cells. -/
def CBox (b : Nat) (cs : List Value) (w : World) : Prop := (∀ i u, cs[i]? = some u → w.cell? ⟨b, i, none⟩ = some u) ∧ ∀ i, w.frozen? ⟨b, i, none⟩ = false
theorem CBox.lt {b : Nat} {cs : List Value} {w : World} (h : CBox b cs w) (hc : 0 < cs.length) : b < w.heap.size := World.block_lt_of_cell? _ _ (h.1 0 _ (List.getElem?_eq_getElem hc))
theorem CBox.same {b : Nat} {cs : List Value} {w w' : World} (h : CBox b cs w) (he : w'.heap[b]? = w.heap[b]?) : CBox b cs w' := ⟨fun i u hu => (World.cell?_of_block he).trans (h.1 i u hu), fun i => (World.frozen?_of_block he).trans (h.2 i)⟩
theorem CBox.keep {b : Nat} {cs : List Value} {w w' : World} (h : CBox b cs w) (hk : Keeps w w') (hc : 0 < cs.length := by simp) : CBox b cs w' := h.same (hk.block b (h.lt hc))
theorem CBox.other {b c : Nat} {cs : List Value} {w w' : World} (h : CBox b cs w) (hk : But c w w') (hb : b ≠ c) (hc : 0 < cs.length := by simp) : CBox b cs w' := h.same (hk.block b (h.lt hc) hb)
theorem CBox.new (w : World) (cs : List Value) (ty : TypeId) : CBox w.heap.size cs (w.alloc (.cells cs.toArray ty)) := by
  refine ⟨fun i u hu => ?_, fun i => ?_⟩
  · unfold World.cell?
    rw [World.alloc_heap_new]
    simpa using hu
  · simp [go_sem]

theorem range_of {b : Nat} {cs : List Value} {w : World} (h : CBox b cs w) (o n : Nat) {ds : List Value} (hd : (cs.drop o).take n = ds) : w.rangeAt b o ds := by
  intro j v hv
  refine h.1 (o + j) v ?_
  rw [← hd] at hv
  rw [List.getElem?_take] at hv
  split at hv
  · rw [List.getElem?_drop] at hv
    exact hv
  · cases hv

theorem CBox.there {b : Nat} {cs : List Value} {w : World} (h : CBox b cs w) (o n : Nat) (hn : o + n ≤ cs.length) : w.there b o n := fun j hj => ⟨by rw [h.1 (o + j) _ (List.getElem?_eq_getElem (by omega))]; rfl, h.2 _⟩
theorem frozen_setCells {b : Nat} : ∀ (vs : List Value) (o : Nat) (w : World) (a : Addr), (w.setCells b o vs).frozen? a = w.frozen? a
  | [], _, _, _ => rfl
  | v :: r, o, w, a => (frozen_setCells r (o + 1) _ a).trans (World.frozen?_setCell _ _ _ _)
/-- A variable that is written whole. -/
theorem CBox.puts {b : Nat} {cs : List Value} {w : World} (h : CBox b cs w) (ds : List Value) (hl : ds.length = cs.length) : CBox b ds (w.setCells b 0 ds) := by
  refine ⟨fun i u hu => ?_, fun i => (frozen_setCells ds 0 w _).trans (h.2 i)⟩
  have := World.rangeAt_setCells_same w b 0 ds (h.there 0 ds.length (by omega)) i u hu
  rwa [Nat.zero_add] at this
/-- A part of it. -/
theorem CBox.putAt {b o : Nat} {cs : List Value} {w : World} (h : CBox b cs w) (ds : List Value) (hl : o + ds.length ≤ cs.length) : CBox b (cs.take o ++ ds ++ cs.drop (o + ds.length)) (w.setCells b o ds) := by
  refine ⟨fun i u hu => ?_, fun i => (frozen_setCells ds o w _).trans (h.2 i)⟩
  by_cases h1 : i < o
  · rw [World.cell?_setCells_out b ds o w ⟨b, i, none⟩ (fun _ _ => .inl h1)]
    refine h.1 i u ?_
    rw [List.append_assoc, List.getElem?_append_left (by simp; omega), List.getElem?_take, if_pos h1] at hu
    exact hu
  · by_cases h2 : i < o + ds.length
    · have := World.rangeAt_setCells_same w b o ds (h.there o ds.length hl) (i - o) u (by
        rw [List.append_assoc, List.getElem?_append_right (by simp; omega), List.getElem?_append_left (by simp; omega)] at hu
        rw [List.length_take, Nat.min_eq_left (by omega)] at hu
        exact hu)
      rwa [show o + (i - o) = i by omega] at this
    · rw [World.cell?_setCells_out b ds o w ⟨b, i, none⟩ (fun _ _ => .inr (by simp; omega))]
      refine h.1 i u ?_
      rw [List.getElem?_append_right (by simp; omega), List.getElem?_drop] at hu
      rw [← hu]
      congr 1
      simp
      omega

/-- A variable that is made: the same. -/
theorem wpList_alloc_new {P : Program} {ops : Array Oper} {rest : List Oper} {op : Oper} {a : Act} {w : World} {Q : Exit → Act → World → Prop} (hgd : op.guard = none) (ty : TypeId) (ho : op.op = .alloc ty) (z : Value) (cs : List Value) (hz : (P.info? ty).map (·.zero) = some (some z)) (hc : z.cells = cs.toArray)
    (h : ∀ (w' : World) (b : Nat), CBox b cs w' → Keeps w w' → b < w'.heap.size → w.heap.size ≤ b → wpList P ops Q rest (a.put op.dst (.pointer (some ⟨b, 0, none⟩))) w') : wpList P ops Q (op :: rest) a w := by
  refine wpList_plain hgd fun K hK => ?_
  have hn := h (w.alloc (.cells cs.toArray ty)) w.heap.size (CBox.new w cs ty) ((Keeps.refl _).alloc _) (by simp) (Nat.le_refl _)
  obtain ⟨i, hi, hzi⟩ : ∃ i, P.info? ty = some i ∧ i.zero = some z := by
    cases q : P.info? ty with
    | none => rw [q] at hz; cases hz
    | some i => rw [q] at hz; exact ⟨i, rfl, by simpa using hz⟩
  have e1 : (execOp a.eval op).run P w = .ok (.value (.pointer (some ⟨w.heap.size, 0, none⟩))) (w.alloc (.cells cs.toArray ty)) := by
    generalize a.eval = f
    rw [← hc]
    simp [execOp, ho, hi, hzi, go_sem, typeInfo, zeroValue]
  unfold Oper.wp
  rw [e1]
  exact hK _ _ hn

/-- A part of a variable is read. -/
theorem wpList_load_box {P : Program} {ops : Array Oper} {rest : List Oper} {op : Oper} {a : Act} {w : World} {Q : Exit → Act → World → Prop} (hgd : op.guard = none) (ty : TypeId) (x : Operand) (ho : op.op = .load ty x) (b o : Nat) (hx : a.eval x = .pointer (some ⟨b, o, none⟩)) {cs : List Value} (hB : CBox b cs w) (n : Nat) (ds : List Value) (hds : (cs.drop o).take n = ds) (d : TypeDesc)
    (hu : P.underlying ty = some d) (hd : d.isRow = true) (hi : (P.info? ty).map (·.size) = some ds.length) (h : wpList P ops Q rest (a.put op.dst (.agg ds.toArray)) w) : wpList P ops Q (op :: rest) a w :=
  wpList_load_mid hgd ty x ho b o hx ds d (range_of hB o n hds) hu hd hi h
/-- A part of a variable is written. -/
theorem wpList_store_box {P : Program} {ops : Array Oper} {rest : List Oper} {op : Oper} {a : Act} {w : World} {Q : Exit → Act → World → Prop} (hgd : op.guard = none) (ty : TypeId) (x y : Operand) (ho : op.op = .store ty x y) (b o : Nat) (ds : List Value) (hx : a.eval x = .pointer (some ⟨b, o, none⟩)) (hy : a.eval y = .agg ds.toArray) {cs : List Value} (hB : CBox b cs w) (es : List Value) (hes : cs.take o ++ ds ++ cs.drop (o + ds.length) = es)
    (hl : o + ds.length ≤ cs.length) (hi : (P.info? ty).map (·.size) = some ds.length) (h1 : ds.toArray.all (·.oneCell') = true) (h : ∀ w', CBox b es w' → But b w w' → wpList P ops Q rest (a.put op.dst undef) w') : wpList P ops Q (op :: rest) a w := by
  subst hes
  refine wpList_store_mid hgd ty x y ho b o ds.toArray hx hy (by simpa using hB.there o ds.length hl) (by simpa using hi) h1 ?_
  exact h _ (hB.putAt ds hl) (But.setCells _ _ (But.refl _ _))
theorem info_size {P : Program} {t : TypeId} {n : Nat} (h : (P.info? t).map (·.size) = some n) {l : List Value} (hl : l.length = n) : (P.info? t).map (·.size) = some l.length := by rw [hl]; exact h
/-- A goal that is not looked into. -/
structure Wrp (p : Prop) : Prop where
  out : p
/-- An operation that is wanted comes up next. -/
theorem AllReadyH.wrp {P : Program} {ops : Array Oper} {Q : Exit → Act → World → Prop} {md : Region.Mode} {S : World → Prop} {fuel : Nat} {listed : Array Bool} {a : Act} {w : World} {i : Nat} {o : Oper} {rs : List Nat} (ho : ops[i]? = some o) (hw : Region.wanted o (yielded ops a.tmps) = true)
    (h : ∀ K' : Act → World → Prop, Shut (∀ a w, S w → (S w → wpAnyH P md ops Q S fuel (listed.setIfInBounds i true) a w) → K' a w) → Wrp (Oper.wp P o a w K' Q)) (hs : AllReadyH P md ops Q S fuel listed a w rs) : AllReadyH P md ops Q S fuel listed a w (i :: rs) :=
  AllReadyH.cons ho (fun K' hK => by rw [if_pos hw]; exact (h K' hK).out) hs
/-- A call. -/
theorem h_call {P : Program} {o : Oper} {a : Act} {w : World} {K : Act → World → Prop} {Q : Exit → Act → World → Prop} (h : o.wp P a w K Q) : Wrp (Oper.wp P o a w K Q) := ⟨h⟩
theorem wp_alloc_new {P : Program} {op : Oper} {a : Act} {w : World} {K : Act → World → Prop} {Q : Exit → Act → World → Prop} (ty : TypeId) (ho : op.op = .alloc ty) (z : Value) (cs : List Value) (hz : (P.info? ty).map (·.zero) = some (some z)) (hc : z.cells = cs.toArray)
    (h : ∀ (w' : World) (b : Nat), CBox b cs w' → Keeps w w' → b < w'.heap.size → w.heap.size ≤ b → K (a.put op.dst (.pointer (some ⟨b, 0, none⟩))) w') : op.wp P a w K Q := by
  have hn := h (w.alloc (.cells cs.toArray ty)) w.heap.size (CBox.new w cs ty) ((Keeps.refl _).alloc _) (by simp) (Nat.le_refl _)
  obtain ⟨i, hi, hzi⟩ : ∃ i, P.info? ty = some i ∧ i.zero = some z := by
    cases q : P.info? ty with
    | none => rw [q] at hz; cases hz
    | some i => rw [q] at hz; exact ⟨i, rfl, by simpa using hz⟩
  have e1 : (execOp a.eval op).run P w = .ok (.value (.pointer (some ⟨w.heap.size, 0, none⟩))) (w.alloc (.cells cs.toArray ty)) := by
    generalize a.eval = f
    rw [← hc]
    simp [execOp, ho, hi, hzi, go_sem, typeInfo, zeroValue]
  unfold Oper.wp
  rw [e1]
  exact hn
theorem wp_store_box {P : Program} {op : Oper} {a : Act} {w : World} {K : Act → World → Prop} {Q : Exit → Act → World → Prop} (ty : TypeId) (x y : Operand) (ho : op.op = .store ty x y) (b o : Nat) (ds : List Value) (hx : a.eval x = .pointer (some ⟨b, o, none⟩)) (hy : a.eval y = .agg ds.toArray) {cs : List Value} (hB : CBox b cs w) (es : List Value) (hes : cs.take o ++ ds ++ cs.drop (o + ds.length) = es)
    (hl : o + ds.length ≤ cs.length) (hi : (P.info? ty).map (·.size) = some ds.length) (h1 : ds.toArray.all (·.oneCell') = true) (h : ∀ w', CBox b es w' → But b w w' → K (a.put op.dst undef) w') : op.wp P a w K Q := by
  subst hes
  refine wp_store_mid ty x y ho b o ds.toArray hx hy (by simpa using hB.there o ds.length hl) (by simpa using hi) h1 ?_
  exact h _ (hB.putAt ds hl) (But.setCells _ _ (But.refl _ _))
theorem load_cell {P : Program} {w : World} {b i : Nat} {t : TypeId} {v : Value} (hc : w.cell? ⟨b, i, none⟩ = some v) (ha : (isAgg t).run P w = .ok false w) : (Instr.loadAt t (.pointer (some ⟨b, i, none⟩))).run P w = .ok v w := by
  simp [Instr.loadAt, Instr.sureAddr, loadVar, ha, go_sem, hc]
/-- Only what v has, and what is new, is written; and v' is where v was, or is new. -/
structure GrowsTo (w w' : World) (v v' : Value) : Prop where
  grown : w.grownBy w' v.ownBlock
  lies : ∀ k, v'.ownBlock = some k → v.ownBlock = some k ∨ w.heap.size ≤ k
theorem GrowsTo.refl (w : World) (v : Value) : GrowsTo w w v v := ⟨⟨rfl, rfl, rfl, Nat.le_refl _, fun _ _ _ => rfl⟩, fun _ h => .inl h⟩
theorem GrowsTo.of {w w' : World} (v : Value) (h : Keeps w w') : GrowsTo w w' v v := ⟨⟨h.os, h.tape, h.output, h.size, fun k hk _ => h.block k hk⟩, fun _ h => .inl h⟩
end Go.Proofs.Yteabfjpajgakiag

/- Behind an empty slice that was built: an append only adds memory. -/
set_option linter.unusedSimpArgs false
set_option linter.unusedVariables false
namespace Go.Proofs.Yteabfjpajgakiag
open Go.RowKit

theorem run_append_bare (w : World) (base b : Nat) (hown : w.ownsRow base 28 9 (.slice (some ⟨b, 0, none⟩) 0 0) 0 []) (x : Value) (n : Nat) (xs : List Value) (hx : RowAt w 9 x n xs) (h1 : ∀ u ∈ xs, u.oneCell' = true) (h63 : n ≤ maxLen) (hbytes : n * 72 ≤ 140737488355328) (hbase : base ≤ w.heap.size) (ty : TypeId) :
    ∃ v' w', (Builtin.append_ #[42, 42] ty #[.slice (some ⟨b, 0, none⟩) 0 0, x]).run Try.prog w = .ok v' w' ∧ w'.ownsRow base 28 9 v' n xs ∧ Keeps w w' := by
  obtain ⟨i, hi, hz, hs, hb⟩ := info_parts infoEnt
  rcases hx.2.2 with ⟨rfl, rfl⟩ | ⟨a, cap, rfl, hc⟩
  · have hx0 : xs = [] := List.eq_nil_of_length_eq_zero (by simpa using hx.1)
    subst hx0
    exact ⟨_, w, run_append_owned_none (P := Try.prog) w base 42 ty 28 i 9 Try.underlying42 hi _ 0 [] hown, hown, Keeps.refl _⟩
  · by_cases hn : n = 0
    · subst hn
      have hx0 : xs = [] := List.eq_nil_of_length_eq_zero (by simpa using hx.1)
      subst hx0
      have hr := run_append_room_cells (P := Try.prog) w 42 ty 28 i Try.underlying42 hi b 0 0 0 a 0 cap [] (by simp) (by simp) (by simp) (by simp) (by simp) (by simp)
      refine ⟨_, _, hr, ?_, ?_⟩
      · simpa [World.setCells] using hown
      · simpa [World.setCells] using Keeps.refl w
    · obtain ⟨v', w', hr, ho, hg⟩ := run_append_arg_grows (P := Try.prog) w 42 ty 28 i _ 9 72 Try.underlying42 hi hz hs hb rfl (by decide) ⟨b, 0, none⟩ 0 0 [] (by simp) (by simp) a n cap xs hx.1 hc (by omega) (by omega) (by omega)
      rw [Nat.zero_add, List.nil_append] at ho
      exact ⟨v', w', hr, owns_base ho hbase, keeps_grown (v := .slice none 0 0) (Keeps.refl _) hg (fun k h => by cases h)⟩
end Go.Proofs.Yteabfjpajgakiag

/- StubOnce: laws for the walk. -/
set_option linter.unusedSimpArgs false
set_option linter.unusedVariables false
set_option maxRecDepth 10000
namespace Go.Proofs.Yteabfjpajgakiag
open Go.RowKit

def S3 (s : Stu) (p : Value) : List Value := [.int .i64 s.client, .int .i64 s.next, p]
def E9 (e : Ent) : List Value := [.int .i64 e.kind, .int .i64 e.time, .int .i64 e.client, .int .i64 e.seq, .int .i64 e.ack, .int .i64 e.ok, .int .i64 e.okey, .int .i64 e.oto, .int .i64 e.on]
def O4 (o0 o1 o2 o3 : Int) : List Value := [.int .i64 o0, .int .i64 o1, .int .i64 o2, .int .i64 o3]
def T7 (s : St) (p : Value) : List Value := [.int .i64 s.at_, .int .i64 s.clock, .int .i64 s.v0, .int .i64 s.v1, .int .i64 s.v2, .int .i64 s.v3, p]
theorem yields_load_box {P : Program} {ops : Array Oper} {S : World → Prop} {op : Oper} {a : Act} (hw : Region.wanted op (yielded ops a.tmps) = true) (ty : TypeId) (x : Operand) (ho : op.op = .load ty x) (b o : Nat) (hx : a.eval x = .pointer (some ⟨b, o, none⟩)) {cs : List Value} (hS : ∀ w, S w → CBox b cs w) (n : Nat) (ds : List Value) (hds : (cs.drop o).take n = ds) (d : TypeDesc)
    (hu : P.underlying ty = some d) (hd : d.isRow = true) (hi : (P.info? ty).map (·.size) = some ds.length) : YieldsIf P ops S op (.agg ds.toArray) a :=
  .inl ⟨hw, fun w h => by
    have e : (Instr.loadAt ty (.pointer (some ⟨b, o, none⟩))).run P w = .ok (.agg ds.toArray) w := run_loadAt_mid w b o ty ds d (range_of (hS w h) o n hds) hu hd hi
    unfold execOp
    simp only [ho, hx, Sem.run_bind, e, Result.andThen_ok, Sem.run_pure]⟩
theorem zv_S : (Try.prog.info? 24).map (·.zero) = some (some (.agg (S3 zeroStu (.slice none 0 0)).toArray)) := by kernel_rfl
theorem zs_S : (Try.prog.info? 24).map (·.size) = some 3 := by kernel_rfl
theorem zr_S : ∃ d, Try.prog.underlying 24 = some d ∧ d.isRow = true := ⟨_, Try.underlying24, rfl⟩
theorem allocS {ops : Array Oper} {rest : List Oper} {op : Oper} {a : Act} {w : World} {Q : Exit → Act → World → Prop} (hgd : op.guard = none) (ho : op.op = .alloc 24)
    (h : ∀ (w' : World) (b : Nat), CBox b (S3 zeroStu (.slice none 0 0)) w' → Keeps w w' → b < w'.heap.size → w.heap.size ≤ b → wpList Try.prog ops Q rest (a.put op.dst (.pointer (some ⟨b, 0, none⟩))) w') : wpList Try.prog ops Q (op :: rest) a w := wpList_alloc_new hgd _ ho _ _ zv_S rfl h
theorem storeS {ops : Array Oper} {rest : List Oper} {op : Oper} {a : Act} {w : World} {Q : Exit → Act → World → Prop} (hgd : op.guard = none) {x y : Operand} (ho : op.op = .store 24 x y) (b : Nat) (hx : a.eval x = .pointer (some ⟨b, 0, none⟩)) {cs : List Value} (s : Stu) (ka : Option Addr) (kn kc : Nat) (hy : a.eval y = stuV s (.slice ka kn kc)) (hB : CBox b cs w) (hl : cs.length = 3)
    (h : ∀ w', CBox b (S3 s (.slice ka kn kc)) w' → But b w w' → wpList Try.prog ops Q rest (a.put op.dst undef) w') : wpList Try.prog ops Q (op :: rest) a w :=
  wpList_store_box hgd _ x y ho b 0 (S3 s (.slice ka kn kc)) hx hy hB _ (by rw [List.drop_of_length_le (by rw [hl]; exact Nat.le_refl _)]; simp) (by rw [hl]; exact Nat.le_refl _) (info_size zs_S rfl) (by kernel_rfl) h
theorem loadS {ops : Array Oper} {rest : List Oper} {op : Oper} {a : Act} {w : World} {Q : Exit → Act → World → Prop} (hgd : op.guard = none) {x : Operand} (ho : op.op = .load 24 x) (b : Nat) (hx : a.eval x = .pointer (some ⟨b, 0, none⟩)) {s : Stu} {ka : Option Addr} {kn kc : Nat} (hB : CBox b (S3 s (.slice ka kn kc)) w)
    (h : wpList Try.prog ops Q rest (a.put op.dst (stuV s (.slice ka kn kc))) w) : wpList Try.prog ops Q (op :: rest) a w := by
  obtain ⟨d, h1, h2⟩ := zr_S
  exact wpList_load_box hgd _ x ho b 0 hx hB 3 (S3 s (.slice ka kn kc)) rfl d h1 h2 (info_size zs_S rfl) h
theorem y_loadS {ops : Array Oper} {S : World → Prop} {op : Oper} {a : Act} (hw : Region.wanted op (yielded ops a.tmps) = true) {x : Operand} (ho : op.op = .load 24 x) (b : Nat) (hx : a.eval x = .pointer (some ⟨b, 0, none⟩)) {s : Stu} {ka : Option Addr} {kn kc : Nat} (hS : ∀ w, S w → CBox b (S3 s (.slice ka kn kc)) w) : YieldsIf Try.prog ops S op (stuV s (.slice ka kn kc)) a := by
  obtain ⟨d, h1, h2⟩ := zr_S
  exact yields_load_box hw _ x ho b 0 hx hS 3 (S3 s (.slice ka kn kc)) rfl d h1 h2 (info_size zs_S rfl)
theorem zv_E : (Try.prog.info? 28).map (·.zero) = some (some (.agg (E9 zeroE).toArray)) := by kernel_rfl
theorem zs_E : (Try.prog.info? 28).map (·.size) = some 9 := by kernel_rfl
theorem zr_E : ∃ d, Try.prog.underlying 28 = some d ∧ d.isRow = true := ⟨_, Try.underlying28, rfl⟩
theorem allocE {ops : Array Oper} {rest : List Oper} {op : Oper} {a : Act} {w : World} {Q : Exit → Act → World → Prop} (hgd : op.guard = none) (ho : op.op = .alloc 28)
    (h : ∀ (w' : World) (b : Nat), CBox b (E9 zeroE) w' → Keeps w w' → b < w'.heap.size → w.heap.size ≤ b → wpList Try.prog ops Q rest (a.put op.dst (.pointer (some ⟨b, 0, none⟩))) w') : wpList Try.prog ops Q (op :: rest) a w := wpList_alloc_new hgd _ ho _ _ zv_E rfl h
theorem storeE {ops : Array Oper} {rest : List Oper} {op : Oper} {a : Act} {w : World} {Q : Exit → Act → World → Prop} (hgd : op.guard = none) {x y : Operand} (ho : op.op = .store 28 x y) (b : Nat) (hx : a.eval x = .pointer (some ⟨b, 0, none⟩)) {cs : List Value} (e : Ent) (hy : a.eval y = entV e) (hB : CBox b cs w) (hl : cs.length = 9)
    (h : ∀ w', CBox b (E9 e) w' → But b w w' → wpList Try.prog ops Q rest (a.put op.dst undef) w') : wpList Try.prog ops Q (op :: rest) a w :=
  wpList_store_box hgd _ x y ho b 0 (E9 e) hx hy hB _ (by rw [List.drop_of_length_le (by rw [hl]; exact Nat.le_refl _)]; simp) (by rw [hl]; exact Nat.le_refl _) (info_size zs_E rfl) (by kernel_rfl) h
theorem loadE {ops : Array Oper} {rest : List Oper} {op : Oper} {a : Act} {w : World} {Q : Exit → Act → World → Prop} (hgd : op.guard = none) {x : Operand} (ho : op.op = .load 28 x) (b : Nat) (hx : a.eval x = .pointer (some ⟨b, 0, none⟩)) {e : Ent} (hB : CBox b (E9 e) w)
    (h : wpList Try.prog ops Q rest (a.put op.dst (entV e)) w) : wpList Try.prog ops Q (op :: rest) a w := by
  obtain ⟨d, h1, h2⟩ := zr_E
  exact wpList_load_box hgd _ x ho b 0 hx hB 9 (E9 e) rfl d h1 h2 (info_size zs_E rfl) h
theorem h_allocE {o : Oper} {a : Act} {w : World} {K : Act → World → Prop} {Q : Exit → Act → World → Prop} (ho : o.op = .alloc 28)
    (h : ∀ (w' : World) (b : Nat), CBox b (E9 zeroE) w' → Keeps w w' → b < w'.heap.size → w.heap.size ≤ b → K (a.put o.dst (.pointer (some ⟨b, 0, none⟩))) w') : Wrp (Oper.wp Try.prog o a w K Q) := ⟨wp_alloc_new _ ho _ _ zv_E rfl h⟩
theorem h_storeE {o : Oper} {a : Act} {w : World} {K : Act → World → Prop} {Q : Exit → Act → World → Prop} {x y : Operand} (ho : o.op = .store 28 x y) (b : Nat) (hx : a.eval x = .pointer (some ⟨b, 0, none⟩)) {cs : List Value} (e : Ent) (hy : a.eval y = entV e) (hB : CBox b cs w) (hl : cs.length = 9)
    (h : ∀ w', CBox b (E9 e) w' → But b w w' → K (a.put o.dst undef) w') : Wrp (Oper.wp Try.prog o a w K Q) :=
  ⟨wp_store_box _ x y ho b 0 (E9 e) hx hy hB _ (by rw [List.drop_of_length_le (by rw [hl]; exact Nat.le_refl _)]; simp) (by rw [hl]; exact Nat.le_refl _) (info_size zs_E rfl) (by kernel_rfl) h⟩
theorem zv_O : (Try.prog.info? 26).map (·.zero) = some (some (.agg (O4 0 0 0 0).toArray)) := by kernel_rfl
theorem zs_O : (Try.prog.info? 26).map (·.size) = some 4 := by kernel_rfl
theorem zr_O : ∃ d, Try.prog.underlying 26 = some d ∧ d.isRow = true := ⟨_, Try.underlying26, rfl⟩
theorem allocO {ops : Array Oper} {rest : List Oper} {op : Oper} {a : Act} {w : World} {Q : Exit → Act → World → Prop} (hgd : op.guard = none) (ho : op.op = .alloc 26)
    (h : ∀ (w' : World) (b : Nat), CBox b (O4 0 0 0 0) w' → Keeps w w' → b < w'.heap.size → w.heap.size ≤ b → wpList Try.prog ops Q rest (a.put op.dst (.pointer (some ⟨b, 0, none⟩))) w') : wpList Try.prog ops Q (op :: rest) a w := wpList_alloc_new hgd _ ho _ _ zv_O rfl h
theorem storeO {ops : Array Oper} {rest : List Oper} {op : Oper} {a : Act} {w : World} {Q : Exit → Act → World → Prop} (hgd : op.guard = none) {x y : Operand} (ho : op.op = .store 26 x y) (b : Nat) (hx : a.eval x = .pointer (some ⟨b, 0, none⟩)) {cs : List Value} (o0 o1 o2 o3 : Int) (hy : a.eval y = opV o0 o1 o2 o3) (hB : CBox b cs w) (hl : cs.length = 4)
    (h : ∀ w', CBox b (O4 o0 o1 o2 o3) w' → But b w w' → wpList Try.prog ops Q rest (a.put op.dst undef) w') : wpList Try.prog ops Q (op :: rest) a w :=
  wpList_store_box hgd _ x y ho b 0 (O4 o0 o1 o2 o3) hx hy hB _ (by rw [List.drop_of_length_le (by rw [hl]; exact Nat.le_refl _)]; simp) (by rw [hl]; exact Nat.le_refl _) (info_size zs_O rfl) (by kernel_rfl) h
theorem loadO {ops : Array Oper} {rest : List Oper} {op : Oper} {a : Act} {w : World} {Q : Exit → Act → World → Prop} (hgd : op.guard = none) {x : Operand} (ho : op.op = .load 26 x) (b : Nat) (hx : a.eval x = .pointer (some ⟨b, 0, none⟩)) {o0 o1 o2 o3 : Int} (hB : CBox b (O4 o0 o1 o2 o3) w)
    (h : wpList Try.prog ops Q rest (a.put op.dst (opV o0 o1 o2 o3)) w) : wpList Try.prog ops Q (op :: rest) a w := by
  obtain ⟨d, h1, h2⟩ := zr_O
  exact wpList_load_box hgd _ x ho b 0 hx hB 4 (O4 o0 o1 o2 o3) rfl d h1 h2 (info_size zs_O rfl) h
theorem y_loadO {ops : Array Oper} {S : World → Prop} {op : Oper} {a : Act} (hw : Region.wanted op (yielded ops a.tmps) = true) {x : Operand} (ho : op.op = .load 26 x) (b : Nat) (hx : a.eval x = .pointer (some ⟨b, 0, none⟩)) {o0 o1 o2 o3 : Int} (hS : ∀ w, S w → CBox b (O4 o0 o1 o2 o3) w) : YieldsIf Try.prog ops S op (opV o0 o1 o2 o3) a := by
  obtain ⟨d, h1, h2⟩ := zr_O
  exact yields_load_box hw _ x ho b 0 hx hS 4 (O4 o0 o1 o2 o3) rfl d h1 h2 (info_size zs_O rfl)
theorem zv_T : (Try.prog.info? 47).map (·.zero) = some (some (.agg (T7 zeroSt (.slice none 0 0)).toArray)) := by kernel_rfl
theorem zs_T : (Try.prog.info? 47).map (·.size) = some 7 := by kernel_rfl
theorem allocT {ops : Array Oper} {rest : List Oper} {op : Oper} {a : Act} {w : World} {Q : Exit → Act → World → Prop} (hgd : op.guard = none) (ho : op.op = .alloc 47)
    (h : ∀ (w' : World) (b : Nat), CBox b (T7 zeroSt (.slice none 0 0)) w' → Keeps w w' → b < w'.heap.size → w.heap.size ≤ b → wpList Try.prog ops Q rest (a.put op.dst (.pointer (some ⟨b, 0, none⟩))) w') : wpList Try.prog ops Q (op :: rest) a w := wpList_alloc_new hgd _ ho _ _ zv_T rfl h
theorem storeT {ops : Array Oper} {rest : List Oper} {op : Oper} {a : Act} {w : World} {Q : Exit → Act → World → Prop} (hgd : op.guard = none) {x y : Operand} (ho : op.op = .store 47 x y) (b : Nat) (hx : a.eval x = .pointer (some ⟨b, 0, none⟩)) {cs : List Value} (s : St) (ka : Option Addr) (kn kc : Nat) (hy : a.eval y = stV s (.slice ka kn kc)) (hB : CBox b cs w) (hl : cs.length = 7)
    (h : ∀ w', CBox b (T7 s (.slice ka kn kc)) w' → But b w w' → wpList Try.prog ops Q rest (a.put op.dst undef) w') : wpList Try.prog ops Q (op :: rest) a w :=
  wpList_store_box hgd _ x y ho b 0 (T7 s (.slice ka kn kc)) hx hy hB _ (by rw [List.drop_of_length_le (by rw [hl]; exact Nat.le_refl _)]; simp) (by rw [hl]; exact Nat.le_refl _) (info_size zs_T rfl) (by kernel_rfl) h
/-- Entries in a row of its own. -/
def EnOwn (base : Nat) (w : World) (v : Value) (L : List Ent) : Prop := w.ownsRow base 28 9 v L.length (entCells L)
def InOwn (base : Nat) (w : World) (v : Value) (l : List Int) : Prop := w.ownsRow base 3 1 v l.length (intCells l)
theorem IntsOn.inOwn {base g : Nat} {w : World} {v : Value} {l : List Int} (h : IntsOn g w v l) (hb : base ≤ g) : InOwn base w v l := by
  rcases h with ⟨rfl, rfl⟩ | ⟨cap, rfl, cur, h1, h2, h3, h4, h5⟩
  · exact ⟨rfl, .inl ⟨rfl, rfl⟩⟩
  · have hl : (intCells l).length = l.length := by simp [intCells]
    rw [hl] at h4 h5
    exact ⟨by rw [hl, Nat.mul_one], .inr ⟨g, cap, cur, rfl, hb, h1, h4, h3, by rw [h2, Nat.mul_one], by rw [Nat.mul_one]; exact h5⟩⟩
theorem app_en {ops : Array Oper} {rest : List Oper} {o : Oper} {a : Act} {Q : Exit → Act → World → Prop} {w : World} (hg : o.guard = none) (s x : Operand) (hop : o.op = .call { callee := .builtin .append, args := #[s, x], argTypes := #[42, 42] })
    (base : Nat) (hb : base ≤ w.heap.size) (v : Value) (L : List Ent) (hs : a.eval s = v) (hown : EnOwn base w v L) (e : Ent) (ad : Addr) (c : Nat) (hx : a.eval x = .slice (some ad) 1 c) (hX : EntsAt w (.slice (some ad) 1 c) [e]) (hlen : L.length ≤ 1000)
    (h : ∀ va vc w', EnOwn base w' (.slice va (L.length + 1) vc) (L ++ [e]) → GrowsTo w w' v (.slice va (L.length + 1) vc) → wpList Try.prog ops Q rest (a.put o.dst (.slice va (L.length + 1) vc)) w') : wpList Try.prog ops Q (o :: rest) a w := by
  obtain ⟨i, hi, hz, hs', hby⟩ := info_parts infoEnt
  have hN : ∀ j u, (entCells [e])[j]? = some u → w.cell? (ad.add j) = some u := by
    rcases hX.2.2 with ⟨h1, _⟩ | ⟨a', cap, h1, h2⟩
    · cases h1
    · injection h1 with h1 _ _
      injection h1 with h1
      subst h1
      exact h2
  refine wpList_append_lies w hg s x 42 hop base 28 i _ 9 72 Try.underlying42 hi hz hs' hby rfl (by decide) v L.length (entCells L) hs hown ad 1 c (entCells [e]) hx (by simp [entCells]) hN (entCells_one _) (by decide) (by unfold maxLen; omega) (by omega) hb _ rfl ?_
  intro g cap w' h2 h3 h4 h5
  refine h _ _ w' ?_ ⟨h3, fun k hk => ?_⟩
  · unfold EnOwn
    rw [List.length_append, entCells_append]
    exact h2
  · have e' : g = k := by simpa [Value.ownBlock] using hk
    subst e'
    rcases h4 with h4 | h4
    · exact .inl h4
    · exact .inr (by omega)

theorem owns_lt {w : World} {base : Nat} {t : TypeId} {size n : Nat} {v : Value} {xs : List Value} (h : w.ownsRow base t size v n xs) {k : Nat} (hk : v.ownBlock = some k) : base ≤ k ∧ k < w.heap.size := h.lt k hk
theorem owns_grown {w w' : World} {base : Nat} {t : TypeId} {size n : Nat} {u v v' : Value} {xs : List Value} (h : w.ownsRow base t size u n xs) (hg : GrowsTo w w' v v') (ha : ∀ k, u.ownBlock = some k → v.ownBlock ≠ some k) : w'.ownsRow base t size u n xs := by
  refine h.kept hg.grown ?_
  cases hu : u.ownBlock with
  | none => exact .inl rfl
  | some k => exact .inr (fun e => ha k hu e.symm)
theorem owns_but {w w' : World} {base b : Nat} {t : TypeId} {size n : Nat} {u : Value} {xs : List Value} (h : w.ownsRow base t size u n xs) (hk : But b w w') (ha : u.ownBlock ≠ some b) : w'.ownsRow base t size u n xs := by
  refine h.kept (row := some b) ⟨hk.os, hk.tape, hk.output, hk.size, fun k hk' hn => hk.block k hk' (fun e => hn (by rw [e]))⟩ ?_
  exact .inr ha
/-- What lies beside each other: the log, what was sent, the stub's variable, what has come. -/
structure Std (w0 w : World) (sb : Nat) (lv sv cv : Value) (L T : List Ent) (S : Stu) : Prop where
  l : EnOwn w0.heap.size w lv L
  t : EnOwn w0.heap.size w sv T
  c : InOwn w0.heap.size w cv S.came
  box : CBox sb (S3 S cv) w
  keeps : Keeps w0 w
  sb0 : w0.heap.size ≤ sb
  ls : lv.ownBlock ≠ some sb
  ts : sv.ownBlock ≠ some sb
  cs : cv.ownBlock ≠ some sb
  lt : ∀ k, lv.ownBlock = some k → sv.ownBlock ≠ some k
  lc : ∀ k, lv.ownBlock = some k → cv.ownBlock ≠ some k
  tc : ∀ k, sv.ownBlock = some k → cv.ownBlock ≠ some k
theorem S3_len (s : Stu) (p : Value) : 0 < (S3 s p).length := Nat.le_of_ble_eq_true rfl
theorem Std.keep {w0 w w' : World} {sb : Nat} {lv sv cv : Value} {L T : List Ent} {S : Stu} (h : Std w0 w sb lv sv cv L T S) (hk : Keeps w w') : Std w0 w' sb lv sv cv L T S :=
  { h with l := owns_keep h.l hk, t := owns_keep h.t hk, c := owns_keep h.c hk, box := h.box.keep hk (S3_len _ _), keeps := h.keeps.trans hk }
theorem Std.sbl {w0 w : World} {sb : Nat} {lv sv cv : Value} {L T : List Ent} {S : Stu} (h : Std w0 w sb lv sv cv L T S) : sb < w.heap.size := h.box.lt (S3_len _ _)
theorem Std.growL {w0 w w' : World} {sb : Nat} {lv sv cv lv' : Value} {L T L' : List Ent} {S : Stu} (h : Std w0 w sb lv sv cv L T S) (ho : EnOwn w0.heap.size w' lv' L') (hg : GrowsTo w w' lv lv') : Std w0 w' sb lv' sv cv L' T S := by
  have hb := h.sbl
  refine ⟨ho, owns_grown h.t hg (fun k e e' => h.lt k e' e), owns_grown h.c hg (fun k e e' => h.lc k e' e), h.box.same (hg.grown.block sb hb (fun e => h.ls e.symm)), ?_, h.sb0, fun e => ?_, h.ts, h.cs, fun k e e' => ?_, fun k e e' => ?_, h.tc⟩
  · exact keeps_grown h.keeps hg.grown (fun k e => (owns_lt h.l e).1)
  · rcases hg.lies _ e with e1 | e1
    · exact h.ls e1
    · omega
  · rcases hg.lies _ e with e1 | e1
    · exact h.lt k e1 e'
    · have := (owns_lt h.t e').2
      omega
  · rcases hg.lies _ e with e1 | e1
    · exact h.lc k e1 e'
    · have := (owns_lt h.c e').2
      omega
theorem Std.growT {w0 w w' : World} {sb : Nat} {lv sv cv sv' : Value} {L T T' : List Ent} {S : Stu} (h : Std w0 w sb lv sv cv L T S) (ho : EnOwn w0.heap.size w' sv' T') (hg : GrowsTo w w' sv sv') : Std w0 w' sb lv sv' cv L T' S := by
  have hb := h.sbl
  refine ⟨owns_grown h.l hg (fun k e e' => h.lt k e e'), ho, owns_grown h.c hg (fun k e e' => h.tc k e' e), h.box.same (hg.grown.block sb hb (fun e => h.ts e.symm)), ?_, h.sb0, h.ls, fun e => ?_, h.cs, fun k e e' => ?_, h.lc, fun k e e' => ?_⟩
  · exact keeps_grown h.keeps hg.grown (fun k e => (owns_lt h.t e).1)
  · rcases hg.lies _ e with e1 | e1
    · exact h.ts e1
    · omega
  · rcases hg.lies _ e' with e1 | e1
    · exact h.lt k e e1
    · have := (owns_lt h.l e).2
      omega
  · rcases hg.lies _ e with e1 | e1
    · exact h.tc k e1 e'
    · have := (owns_lt h.c e').2
      omega
/-- The stub's variable is written: what has come lies in memory that is newer than W. -/
theorem Std.put {w0 W w w' : World} {sb : Nat} {lv sv cv cv' : Value} {L T : List Ent} {S S' : Stu} (h : Std w0 W sb lv sv cv L T S) (hk : Keeps W w) (hc : InOwn W.heap.size w cv' S'.came) (hB : CBox sb (S3 S' cv') w') (hT : But sb w w') : Std w0 w' sb lv sv cv' L T S' := by
  have h2 := h.keep hk
  have hb := h.sbl
  have hcs : cv'.ownBlock ≠ some sb := fun e => by have := (owns_lt hc e).1; omega
  refine ⟨owns_but h2.l hT h.ls, owns_but h2.t hT h.ts, owns_base (owns_but hc hT hcs) h.keeps.size, hB, But.to h2.keeps h.sb0 hT, h.sb0, h.ls, h.ts, hcs, h.lt, fun k e e' => ?_, fun k e e' => ?_⟩
  · have := (owns_lt h.l e).2
    have := (owns_lt hc e').1
    omega
  · have := (owns_lt h.t e).2
    have := (owns_lt hc e').1
    omega
end Go.Proofs.Yteabfjpajgakiag

/- choose: which of n things a raw number speaks of. -/
set_option linter.unusedSimpArgs false
set_option linter.unusedVariables false
set_option maxRecDepth 10000
namespace Go.Proofs.Yteabfjpajgakiag
open Go.RowKit

theorem choose_n (c n : Int) (w : World) (hc0 : -9223372036854775808 ≤ c) (hc1 : c ≤ 9223372036854775807) (hn : 1 ≤ n) (hn1 : n ≤ 9223372036854775807) :
    Calls Try.prog 17 #[.int .i64 c, .int .i64 n] w fun e w' => ∃ r : Int, 0 ≤ r ∧ r < n ∧ e = .returned (.int .i64 r) ∧ w = w' := by
  have hne : ¬ n = 0 := by omega
  by_cases h : c < 0
  · have e1 : Hid (0 ≤ (-(c + 1)).tmod n ∧ (-(c + 1)).tmod n < n) := ⟨Int.tmod_nonneg _ (by omega), Int.tmod_lt_of_pos _ (by omega)⟩
    go_enter Try.func17, Try.ntmps17
    go_wp2
    go_ret
    exact ⟨_, by have := e1.out.1; rwa [Int.neg_tmod] at this, by have := e1.out.2; rwa [Int.neg_tmod] at this, rfl, rfl⟩
  · have e1 : Hid (0 ≤ c.tmod n ∧ c.tmod n < n) := ⟨Int.tmod_nonneg _ (by omega), Int.tmod_lt_of_pos _ (by omega)⟩
    have e2 : Hid (c.tmod n = c % n) := Int.tmod_eq_emod_of_nonneg (by omega)
    go_enter Try.func17, Try.ntmps17
    go_wp2
    go_ret
    first
      | exact ⟨_, e1.out.1, e1.out.2, rfl, rfl⟩
      | exact ⟨_, by have := e1.out.1; rwa [e2.out] at this, by have := e1.out.2; rwa [e2.out] at this, rfl, rfl⟩
end Go.Proofs.Yteabfjpajgakiag

/- FoldSplit: the walk. -/
set_option linter.unusedSimpArgs false
set_option linter.unusedVariables false
set_option maxRecDepth 10000
namespace Go.Proofs.Yteabfjpajgakiag
open Go.RowKit

end Go.Proofs.Yteabfjpajgakiag

/- The reference's SameStubs, of one and the same stub in two places. -/
set_option linter.unusedSimpArgs false
set_option linter.unusedVariables false
set_option maxRecDepth 10000
namespace Go.Proofs.Yteabfjpajgakiag
open Go.RowKit

end Go.Proofs.Yteabfjpajgakiag
