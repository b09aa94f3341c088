/- ApR, EnE, StE, FoK, TrF, TrG, TrH, TrI0, StS, SuB. -/
import Derived.Test.YteabfjpajgakiagJ00
import Derived.Test.YteabfjpajgakiagJ02
import Derived.Test.YteabfjpajgakiagJ05
import Derived.Test.YteabfjpajgakiagJ12
import Derived.Test.YteabfjpajgakiagJ13
import Derived.Test.YteabfjpajgakiagJ15
import Derived.Test.YteabfjpajgakiagJ16
/- The reference's OwnState, and applied. -/
set_option linter.unusedSimpArgs false
set_option linter.unusedVariables false
set_option maxRecDepth 10000
namespace Go.Proofs.Yteabfjpajgakiag
open Go.RowKit

end Go.Proofs.Yteabfjpajgakiag

/- The reference's EntryError. -/
set_option linter.unusedSimpArgs false
set_option linter.unusedVariables false
set_option maxRecDepth 10000
namespace Go.Proofs.Yteabfjpajgakiag
open Go.RowKit

end Go.Proofs.Yteabfjpajgakiag

/- States: the reference's StateError. -/
set_option linter.unusedSimpArgs false
set_option linter.unusedVariables false
set_option maxRecDepth 10000
namespace Go.Proofs.Yteabfjpajgakiag
open Go.RowKit

end Go.Proofs.Yteabfjpajgakiag

/- The reference's ListError, folded, FoldOf. -/
set_option linter.unusedSimpArgs false
set_option linter.unusedVariables false
set_option maxRecDepth 10000
namespace Go.Proofs.Yteabfjpajgakiag
open Go.RowKit

end Go.Proofs.Yteabfjpajgakiag

/- The reference's DoneOf, OpsOf, OnceOf. -/
set_option linter.unusedSimpArgs false
set_option linter.unusedVariables false
set_option maxRecDepth 10000
namespace Go.Proofs.Yteabfjpajgakiag
open Go.RowKit

end Go.Proofs.Yteabfjpajgakiag

/- TraceTells, TraceOnce: the walks. -/
set_option linter.unusedSimpArgs false
set_option linter.unusedVariables false
set_option maxRecDepth 10000
namespace Go.Proofs.Yteabfjpajgakiag
open Go.RowKit

end Go.Proofs.Yteabfjpajgakiag

/- TraceVals: the walk. -/
set_option linter.unusedSimpArgs false
set_option linter.unusedVariables false
set_option maxRecDepth 10000
namespace Go.Proofs.Yteabfjpajgakiag
open Go.RowKit

/-- Four values in memory. -/
structure VBox (b : Nat) (t : St) (w : World) : Prop where
  c0 : w.cell? ⟨b, 0, none⟩ = some (.int .i64 t.v0)
  c1 : w.cell? ⟨b, 1, none⟩ = some (.int .i64 t.v1)
  c2 : w.cell? ⟨b, 2, none⟩ = some (.int .i64 t.v2)
  c3 : w.cell? ⟨b, 3, none⟩ = some (.int .i64 t.v3)
  fz : ∀ i, w.frozen? ⟨b, i, none⟩ = false
theorem VBox.lt {b : Nat} {t : St} {w : World} (h : VBox b t w) : b < w.heap.size := World.block_lt_of_cell? _ _ h.c0
theorem VBox.keep {b : Nat} {t : St} {w w' : World} (h : VBox b t w) (hk : Keeps w w') : VBox b t w' :=
  ⟨cell_kept h.c0 hk, cell_kept h.c1 hk, cell_kept h.c2 hk, cell_kept h.c3 hk, fun i => (Below.frozen hk (p := ⟨b, i, none⟩) h.lt).trans (h.fz i)⟩
theorem VBox.new (w : World) (t : St) (ty : TypeId) : VBox w.heap.size t (w.alloc (.cells #[.int .i64 t.v0, .int .i64 t.v1, .int .i64 t.v2, .int .i64 t.v3] ty)) := ⟨by simp [go_sem], by simp [go_sem], by simp [go_sem], by simp [go_sem], fun i => by simp [go_sem]⟩
theorem VBox.put {b : Nat} {t : St} {w : World} (h : VBox b t w) (u : St) : VBox b u ((((w.setCell ⟨b, 0, none⟩ (.int .i64 u.v0)).setCell ⟨b, 1, none⟩ (.int .i64 u.v1)).setCell ⟨b, 2, none⟩ (.int .i64 u.v2)).setCell ⟨b, 3, none⟩ (.int .i64 u.v3)) ∧ But b w ((((w.setCell ⟨b, 0, none⟩ (.int .i64 u.v0)).setCell ⟨b, 1, none⟩ (.int .i64 u.v1)).setCell ⟨b, 2, none⟩ (.int .i64 u.v2)).setCell ⟨b, 3, none⟩ (.int .i64 u.v3)) := by
  have c0 := h.c0
  have c1 := h.c1
  have c2 := h.c2
  have c3 := h.c3
  have fz := h.fz
  refine ⟨⟨by simp [go_sem, c0, c1, c2, c3], by simp [go_sem, c0, c1, c2, c3], by simp [go_sem, c0, c1, c2, c3], by simp [go_sem, c0, c1, c2, c3], fun i => by simp [go_sem, fz]⟩, ((((But.refl _ _).set 0 _).set 1 _).set 2 _).set 3 _⟩

theorem fold_zero_err {L : List Ent} : foldErr zeroSt L = listErr L := by
  unfold foldErr
  rw [zero_right]
  simp only [beq_self_eq_true, if_true]
  split
  · rename_i h
    have h0 : listErr L = 0 := by simpa using h
    have := (list_right h0).2
    rw [if_neg (by show ¬ (50 : Int) < 0 + _; omega), h0]
  · rfl

end Go.Proofs.Yteabfjpajgakiag

/- A number is done twice only by two sessions: plain mathematics. -/
set_option linter.unusedSimpArgs false
set_option linter.unusedVariables false
set_option maxRecDepth 10000
namespace Go.Proofs.Yteabfjpajgakiag
open Go.RowKit

theorem keptPut_mem {l : List (Int × Int)} {q v : Int} {r : Int × Int} (h : r ∈ l) : r ∈ keptPut l q v := by
  unfold keptPut
  rw [← List.take_append_drop (posOf l q) l] at h
  rcases List.mem_append.1 h with h | h
  · exact List.mem_append.2 (.inl h)
  · exact List.mem_append.2 (.inr (List.mem_cons_of_mem _ h))
theorem keptPut_self {l : List (Int × Int)} {q v : Int} : (q, v) ∈ keptPut l q v := List.mem_append.2 (.inr (List.mem_cons_self ..))

theorem pair_kept {s : Ses} (h : sesErr s = 0) : s.kept.Pairwise (fun a b => a.1 < b.1) := by
  have hr := keptOk_rises (ses_right h).2.2.2
  rw [List.pairwise_iff_getElem]
  intro i j hi hj hij
  exact hr i j hi hj hij

end Go.Proofs.Yteabfjpajgakiag

/- Two states are the same just if they are one. -/
namespace Go.Proofs.Yteabfjpajgakiag
open Go.RowKit

theorem same_kept_iff : ∀ {l m : List (Int × Int)}, sameKept l m = true ↔ l = m
  | [], [] => by simp [sameKept]
  | [], _ :: _ => by simp [sameKept]
  | _ :: _, [] => by simp [sameKept]
  | (q, v) :: r, (q', v') :: r' => by simp [sameKept, same_kept_iff (l := r) (m := r')]
theorem same_ses_iff {s t : Ses} : sameSes s t = true ↔ s = t := by
  obtain ⟨a, b, c, d⟩ := s
  obtain ⟨a', b', c', d'⟩ := t
  simp [sameSes, same_kept_iff]
theorem same_tab_iff : ∀ {L M : List Ses}, sameTab L M = true ↔ L = M
  | [], [] => by simp [sameTab]
  | [], _ :: _ => by simp [sameTab]
  | _ :: _, [] => by simp [sameTab]
  | s :: r, t :: r' => by simp [sameTab, same_ses_iff, same_tab_iff (L := r) (M := r')]
theorem same_st_iff {s t : St} : sameSt s t = true ↔ s = t := by
  obtain ⟨a, b, c, d, e, f, g⟩ := s
  obtain ⟨a', b', c', d', e', f', g'⟩ := t
  simp [sameSt, sameVals, same_tab_iff, and_assoc]
end Go.Proofs.Yteabfjpajgakiag

/- slices.BinarySearch at int. -/
set_option linter.unusedSimpArgs false
set_option linter.unusedVariables false
set_option maxRecDepth 10000
namespace Go.Proofs.Yteabfjpajgakiag
open Go.RowKit

theorem nanI_s (a : Int) (w : World) : Calls Try.prog 43 #[.int .i64 a] w fun e w' => e = .returned (.bool false) ∧ w = w' := by
  go_enter Try.func43, Try.ntmps43
  go_wp2
  go_ret
  exact ⟨by simp, rfl⟩
theorem nanI_c (a : Int) (w : World) : Calls Try.prog 53 #[.int .i64 a] w fun e w' => e = .returned (.bool false) ∧ w = w' := by
  go_enter Try.func53, Try.ntmps53
  go_wp2
  go_ret
  exact ⟨by simp, rfl⟩
theorem lessI_c (a b : Int) (w : World) : Calls Try.prog 42 #[.int .i64 a, .int .i64 b] w fun e w' => e = .returned (.bool (decide (a < b))) ∧ w = w' := by
  go_enter Try.func42, Try.ntmps42
  go_wp2_with (first | (go_at_call 53; refine (nanI_c _ _).mono ?_; rintro e w' ⟨rfl, rfl⟩))
  go_ret
  exact ⟨by simp, rfl⟩

/-- Where a number is, or belongs, among numbers that rise. -/
structure PlaceI (l : List Int) (q : Int) (p : Nat) : Prop where
  le : p ≤ l.length
  low : ∀ k (h : k < l.length), k < p → l[k] < q
  high : ∀ k (h : k < l.length), p ≤ k → q ≤ l[k]

theorem placeI_has {l : List Int} {q : Int} {p : Nat} (hP : PlaceI l q p) (hs : l.Pairwise (· < ·)) : (∀ h : p < l.length, hasI l q = (l[p] == q)) ∧ (¬ p < l.length → hasI l q = false) := by
  constructor
  · intro h
    cases e : (l[p] == q) with
    | true =>
      have : l[p] = q := by simpa using e
      exact hasI_iff.2 (this ▸ List.getElem_mem h)
    | false =>
      have hne : l[p] ≠ q := by simpa using e
      cases e2 : hasI l q with
      | false => rfl
      | true =>
        exfalso
        obtain ⟨k, hk, hkq⟩ := List.mem_iff_getElem.1 (hasI_iff.1 e2)
        by_cases h1 : k < p
        · have := hP.low k hk h1
          omega
        · by_cases h2 : k = p
          · subst h2
            exact hne hkq
          · have h3 := hP.high p h (Nat.le_refl _)
            have h4 := List.pairwise_iff_getElem.1 hs p k h hk (by omega)
            omega
  · intro h
    cases e2 : hasI l q with
    | false => rfl
    | true =>
      exfalso
      obtain ⟨k, hk, hkq⟩ := List.mem_iff_getElem.1 (hasI_iff.1 e2)
      have := hP.low k hk (by omega)
      omega

set_option maxHeartbeats 4000000 in
theorem search_i (l : List Int) (v : Value) (q : Int) (w : World) (h : IntsAt w v l) (hs : l.Pairwise (· < ·)) (hl : l.length ≤ 1000) :
    Calls Try.prog 30 #[v, .int .i64 q] w fun e w' => ∃ p : Nat, PlaceI l q p ∧ e = .returned (.tuple #[.int .i64 p, .bool (hasI l q)]) ∧ w = w' := by
  obtain ⟨va, vc, rfl, hlen⟩ := h.len
  have HV : Hid (IntsAt w (.slice va l.length vc) l) := h
  have HS : Hid (l.Pairwise (· < ·)) := hs
  have HPH : Hid (∀ p, PlaceI l q p → (∀ h : p < l.length, hasI l q = (l[p] == q)) ∧ (¬ p < l.length → hasI l q = false)) := fun p hp => placeI_has hp hs
  clear h hlen hs
  go_enter Try.func30, Try.ntmps30
  go_wp2_with fail
  go_loop [7, 8] (fun i j => ∃ (a b : Nat), i = .int .i64 a ∧ j = .int .i64 b ∧ a ≤ b ∧ b ≤ l.length ∧ Hid (∀ k (h : k < l.length), k < a → l[k] < q) ∧ Hid (∀ k (h : k < l.length), b ≤ k → q ≤ l[k])) (fun i j => (intOf j - intOf i).toNat)
  case atStart => exact ⟨0, l.length, rfl, rfl, Nat.zero_le _, Nat.le_refl _, fun k h h' => by omega, fun k h h' => by omega⟩
  case round =>
    obtain ⟨a, b, rfl, rfl, hab, hbn, HLo, HHi⟩ := hrel
    by_cases hlt : a < b
    · obtain ⟨m, hm⟩ : ∃ m : Nat, m = (a + b) / 2 := ⟨_, rfl⟩
      have hm1 : ((a : Int) + (b : Int)) / 2 = (m : Int) := by omega
      have hma : a ≤ m := by omega
      have hmb : m < b := by omega
      have hh : m < l.length := by omega
      obtain ⟨g, off, cp, hv, hcell⟩ := HV.out.at hh
      injection hv with hv1 hv2 hv3
      subst hv1
      clear hv2 hv3 hm
      have HX : Hid (∀ h, l[m]'h = l[m]'hh) := fun _ => rfl
      generalize l[m] = x at *
      by_cases hq : x < q
      · have HU : Hid (∀ k (h : k < l.length), k < m + 1 → l[k] < q) := by
          intro k hk hkm
          by_cases e : k = m
          · subst e
            rw [HX.out hk]
            exact hq
          · have := List.pairwise_iff_getElem.1 HS.out k m hk hh (by omega)
            rw [HX.out hh] at this
            omega
        go_wp2_with (first | (go_at_call 42; refine (lessI_c _ _ _).mono ?_; rintro e w2 ⟨rfl, rfl⟩))
        go_round
        case rel => exact ⟨m + 1, b, by go_num, rfl, by omega, hbn, HU, HHi⟩
        case measure => simp [intOf]; omega
      · have HU : Hid (∀ k (h : k < l.length), m ≤ k → q ≤ l[k]) := by
          intro k hk hkm
          by_cases e : k = m
          · subst e
            rw [HX.out hk]
            omega
          · have := List.pairwise_iff_getElem.1 HS.out m k hh hk (by omega)
            rw [HX.out hh] at this
            omega
        go_wp2_with (first | (go_at_call 42; refine (lessI_c _ _ _).mono ?_; rintro e w2 ⟨rfl, rfl⟩))
        go_round
        case rel => exact ⟨a, m, rfl, by go_num, by omega, by omega, HLo, HU⟩
        case measure => simp [intOf]; omega
    · have hab' : a = b := by omega
      subst hab'
      have HP : Hid (PlaceI l q a) := ⟨hbn, HLo.out, HHi.out⟩
      by_cases han : a < l.length
      · obtain ⟨g, off, cp, hv, hcell⟩ := HV.out.at han
        injection hv with hv1 hv2 hv3
        subst hv1
        clear hv2 hv3
        have HT : Hid (hasI l q = (l[a] == q)) := (HPH.out a HP.out).1 han
        generalize l[a] = x at *
        cases hx : (x == q) with
        | true =>
          go_wp2_with (first | (go_at_call 43; refine (nanI_s _ _).mono ?_; rintro e w2 ⟨rfl, rfl⟩))
          go_ret2
          exact ⟨a, HP.out, by rw [HT.out, hx]; rfl, rfl⟩
        | false =>
          go_wp2_with (first | (go_at_call 43; refine (nanI_s _ _).mono ?_; rintro e w2 ⟨rfl, rfl⟩))
          go_ret2
          exact ⟨a, HP.out, by rw [HT.out, hx]; rfl, rfl⟩
      · have HT : Hid (hasI l q = false) := (HPH.out a HP.out).2 han
        go_wp2_with fail
        go_ret2
        exact ⟨a, HP.out, by rw [HT.out]; rfl, rfl⟩
end Go.Proofs.Yteabfjpajgakiag
