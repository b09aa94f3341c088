/- RefB, RefC. -/
import Derived.Test.YteabfjpajgakiabJ07
/- Contracts of the reference's functions on ops: did. -/
set_option linter.unusedSimpArgs false
set_option linter.unusedVariables false
namespace Go.Proofs.Yteabfjpajgakiab
open Go.RowKit

set_option maxHeartbeats 4000000 in
theorem did_set (g : Nat → Int) (key tk n : Int) (w : World) (hk0 : 0 ≤ key) (hk3 : key ≤ 3) (hn : inB n 0 999 = true) (hv : valsOk g = true) :
    Calls Try.prog 61 #[arrV g, opV 1 key tk n] w fun e w' => e = .returned (.tuple #[arrV (upd g key.toNat n), .int .i64 n]) ∧ Keeps w w' := by
  simp only [valsOk, Bool.and_eq_true] at hv
  obtain ⟨⟨⟨v0, v1⟩, v2⟩, v3⟩ := hv
  rcases four hk0 hk3 with rfl | rfl | rfl | rfl
  · have ho : ok4 (n) (g 1) (g 2) (g 3) = true := by simp [ok4, *]
    go_enter Try.func61, Try.ntmps61
    go_wp2_with fail
    refine (fine4 _ _ _ _ _).mono ?_
    rintro e w1 ⟨rfl, hb⟩
    have hk1 : Keeps w w1 := by refine Keeps.trans ?_ hb; repeat (first | exact Keeps.refl _ | refine Keeps.alloc ?_ _ | refine Keeps.drew ?_)
    obtain ⟨hc, hf⟩ := hb.cells
    have hz := hb.size
    simp only [World.size_alloc, World.size_drew] at hc hf hz
    have hz1 : w.heap.size + 1 + 1 < w1.heap.size := by omega
    have hz2 : w.heap.size < w1.heap.size := by omega
    have hz3 : w.heap.size + 1 < w1.heap.size := by omega
    have hz4 : w.heap.size + 1 + 1 + 1 < w1.heap.size := by omega
    go_wp2_with fail
    go_region
    all_goals go_wp2_with fail
    all_goals exact bodyPost_ret (v := .tuple #[arrV (upd g 0 n), .int .i64 n]) (by simp [results, Try.results61, go_sem, hc, upd]) rfl ⟨rfl, by repeat (first | exact hk1 | refine Keeps.set ?_ (by simp <;> omega) _ | refine Keeps.drew ?_)⟩
  · have ho : ok4 (g 0) (n) (g 2) (g 3) = true := by simp [ok4, *]
    go_enter Try.func61, Try.ntmps61
    go_wp2_with fail
    refine (fine4 _ _ _ _ _).mono ?_
    rintro e w1 ⟨rfl, hb⟩
    have hk1 : Keeps w w1 := by refine Keeps.trans ?_ hb; repeat (first | exact Keeps.refl _ | refine Keeps.alloc ?_ _ | refine Keeps.drew ?_)
    obtain ⟨hc, hf⟩ := hb.cells
    have hz := hb.size
    simp only [World.size_alloc, World.size_drew] at hc hf hz
    have hz1 : w.heap.size + 1 + 1 < w1.heap.size := by omega
    have hz2 : w.heap.size < w1.heap.size := by omega
    have hz3 : w.heap.size + 1 < w1.heap.size := by omega
    have hz4 : w.heap.size + 1 + 1 + 1 < w1.heap.size := by omega
    go_wp2_with fail
    go_region
    all_goals go_wp2_with fail
    all_goals exact bodyPost_ret (v := .tuple #[arrV (upd g 1 n), .int .i64 n]) (by simp [results, Try.results61, go_sem, hc, upd]) rfl ⟨rfl, by repeat (first | exact hk1 | refine Keeps.set ?_ (by simp <;> omega) _ | refine Keeps.drew ?_)⟩
  · have ho : ok4 (g 0) (g 1) (n) (g 3) = true := by simp [ok4, *]
    go_enter Try.func61, Try.ntmps61
    go_wp2_with fail
    refine (fine4 _ _ _ _ _).mono ?_
    rintro e w1 ⟨rfl, hb⟩
    have hk1 : Keeps w w1 := by refine Keeps.trans ?_ hb; repeat (first | exact Keeps.refl _ | refine Keeps.alloc ?_ _ | refine Keeps.drew ?_)
    obtain ⟨hc, hf⟩ := hb.cells
    have hz := hb.size
    simp only [World.size_alloc, World.size_drew] at hc hf hz
    have hz1 : w.heap.size + 1 + 1 < w1.heap.size := by omega
    have hz2 : w.heap.size < w1.heap.size := by omega
    have hz3 : w.heap.size + 1 < w1.heap.size := by omega
    have hz4 : w.heap.size + 1 + 1 + 1 < w1.heap.size := by omega
    go_wp2_with fail
    go_region
    all_goals go_wp2_with fail
    all_goals exact bodyPost_ret (v := .tuple #[arrV (upd g 2 n), .int .i64 n]) (by simp [results, Try.results61, go_sem, hc, upd]) rfl ⟨rfl, by repeat (first | exact hk1 | refine Keeps.set ?_ (by simp <;> omega) _ | refine Keeps.drew ?_)⟩
  · have ho : ok4 (g 0) (g 1) (g 2) (n) = true := by simp [ok4, *]
    go_enter Try.func61, Try.ntmps61
    go_wp2_with fail
    refine (fine4 _ _ _ _ _).mono ?_
    rintro e w1 ⟨rfl, hb⟩
    have hk1 : Keeps w w1 := by refine Keeps.trans ?_ hb; repeat (first | exact Keeps.refl _ | refine Keeps.alloc ?_ _ | refine Keeps.drew ?_)
    obtain ⟨hc, hf⟩ := hb.cells
    have hz := hb.size
    simp only [World.size_alloc, World.size_drew] at hc hf hz
    have hz1 : w.heap.size + 1 + 1 < w1.heap.size := by omega
    have hz2 : w.heap.size < w1.heap.size := by omega
    have hz3 : w.heap.size + 1 < w1.heap.size := by omega
    have hz4 : w.heap.size + 1 + 1 + 1 < w1.heap.size := by omega
    go_wp2_with fail
    go_region
    all_goals go_wp2_with fail
    all_goals exact bodyPost_ret (v := .tuple #[arrV (upd g 3 n), .int .i64 n]) (by simp [results, Try.results61, go_sem, hc, upd]) rfl ⟨rfl, by repeat (first | exact hk1 | refine Keeps.set ?_ (by simp <;> omega) _ | refine Keeps.drew ?_)⟩

set_option maxHeartbeats 4000000 in
theorem did_get (g : Nat → Int) (key tk n : Int) (w : World) (hk0 : 0 ≤ key) (hk3 : key ≤ 3) (hv : valsOk g = true) :
    Calls Try.prog 61 #[arrV g, opV 4 key tk n] w fun e w' => e = .returned (.tuple #[arrV g, .int .i64 (g key.toNat)]) ∧ Keeps w w' := by
  have ho : ok4 (g 0) (g 1) (g 2) (g 3) = true := hv
  rcases four hk0 hk3 with rfl | rfl | rfl | rfl
  · go_enter Try.func61, Try.ntmps61
    go_wp2_with fail
    refine (fine4 _ _ _ _ _).mono ?_
    rintro e w1 ⟨rfl, hb⟩
    have hk1 : Keeps w w1 := by refine Keeps.trans ?_ hb; repeat (first | exact Keeps.refl _ | refine Keeps.alloc ?_ _ | refine Keeps.drew ?_)
    obtain ⟨hc, hf⟩ := hb.cells
    have hz := hb.size
    simp only [World.size_alloc, World.size_drew] at hc hf hz
    have hz1 : w.heap.size + 1 + 1 < w1.heap.size := by omega
    have hz2 : w.heap.size < w1.heap.size := by omega
    have hz3 : w.heap.size + 1 < w1.heap.size := by omega
    have hz4 : w.heap.size + 1 + 1 + 1 < w1.heap.size := by omega
    go_wp2_with fail
    go_region
    all_goals go_wp2_with fail
    all_goals exact bodyPost_ret (v := .tuple #[arrV g, .int .i64 (g 0)]) (by simp [results, Try.results61, go_sem, hc, upd]) rfl ⟨rfl, by repeat (first | exact hk1 | refine Keeps.set ?_ (by simp <;> omega) _ | refine Keeps.drew ?_)⟩
  · go_enter Try.func61, Try.ntmps61
    go_wp2_with fail
    refine (fine4 _ _ _ _ _).mono ?_
    rintro e w1 ⟨rfl, hb⟩
    have hk1 : Keeps w w1 := by refine Keeps.trans ?_ hb; repeat (first | exact Keeps.refl _ | refine Keeps.alloc ?_ _ | refine Keeps.drew ?_)
    obtain ⟨hc, hf⟩ := hb.cells
    have hz := hb.size
    simp only [World.size_alloc, World.size_drew] at hc hf hz
    have hz1 : w.heap.size + 1 + 1 < w1.heap.size := by omega
    have hz2 : w.heap.size < w1.heap.size := by omega
    have hz3 : w.heap.size + 1 < w1.heap.size := by omega
    have hz4 : w.heap.size + 1 + 1 + 1 < w1.heap.size := by omega
    go_wp2_with fail
    go_region
    all_goals go_wp2_with fail
    all_goals exact bodyPost_ret (v := .tuple #[arrV g, .int .i64 (g 1)]) (by simp [results, Try.results61, go_sem, hc, upd]) rfl ⟨rfl, by repeat (first | exact hk1 | refine Keeps.set ?_ (by simp <;> omega) _ | refine Keeps.drew ?_)⟩
  · go_enter Try.func61, Try.ntmps61
    go_wp2_with fail
    refine (fine4 _ _ _ _ _).mono ?_
    rintro e w1 ⟨rfl, hb⟩
    have hk1 : Keeps w w1 := by refine Keeps.trans ?_ hb; repeat (first | exact Keeps.refl _ | refine Keeps.alloc ?_ _ | refine Keeps.drew ?_)
    obtain ⟨hc, hf⟩ := hb.cells
    have hz := hb.size
    simp only [World.size_alloc, World.size_drew] at hc hf hz
    have hz1 : w.heap.size + 1 + 1 < w1.heap.size := by omega
    have hz2 : w.heap.size < w1.heap.size := by omega
    have hz3 : w.heap.size + 1 < w1.heap.size := by omega
    have hz4 : w.heap.size + 1 + 1 + 1 < w1.heap.size := by omega
    go_wp2_with fail
    go_region
    all_goals go_wp2_with fail
    all_goals exact bodyPost_ret (v := .tuple #[arrV g, .int .i64 (g 2)]) (by simp [results, Try.results61, go_sem, hc, upd]) rfl ⟨rfl, by repeat (first | exact hk1 | refine Keeps.set ?_ (by simp <;> omega) _ | refine Keeps.drew ?_)⟩
  · go_enter Try.func61, Try.ntmps61
    go_wp2_with fail
    refine (fine4 _ _ _ _ _).mono ?_
    rintro e w1 ⟨rfl, hb⟩
    have hk1 : Keeps w w1 := by refine Keeps.trans ?_ hb; repeat (first | exact Keeps.refl _ | refine Keeps.alloc ?_ _ | refine Keeps.drew ?_)
    obtain ⟨hc, hf⟩ := hb.cells
    have hz := hb.size
    simp only [World.size_alloc, World.size_drew] at hc hf hz
    have hz1 : w.heap.size + 1 + 1 < w1.heap.size := by omega
    have hz2 : w.heap.size < w1.heap.size := by omega
    have hz3 : w.heap.size + 1 < w1.heap.size := by omega
    have hz4 : w.heap.size + 1 + 1 + 1 < w1.heap.size := by omega
    go_wp2_with fail
    go_region
    all_goals go_wp2_with fail
    all_goals exact bodyPost_ret (v := .tuple #[arrV g, .int .i64 (g 3)]) (by simp [results, Try.results61, go_sem, hc, upd]) rfl ⟨rfl, by repeat (first | exact hk1 | refine Keeps.set ?_ (by simp <;> omega) _ | refine Keeps.drew ?_)⟩
end Go.Proofs.Yteabfjpajgakiab

/- Contracts of the reference's functions on ops: did, Add. -/
set_option linter.unusedSimpArgs false
set_option linter.unusedVariables false
namespace Go.Proofs.Yteabfjpajgakiab
open Go.RowKit

set_option maxHeartbeats 4000000 in
theorem did_add (g : Nat → Int) (key tk n : Int) (w : World) (hk0 : 0 ≤ key) (hk3 : key ≤ 3) (hn0 : -999 ≤ n) (hn1 : n ≤ 999) (hv : valsOk g = true) :
    Calls Try.prog 61 #[arrV g, opV 2 key tk n] w fun e w' => e = .returned (.tuple #[arrV (if inB (g key.toNat + n) 0 999 then upd g key.toNat (g key.toNat + n) else g), .int .i64 (if inB (g key.toNat + n) 0 999 then g key.toNat + n else -1)]) ∧ Keeps w w' := by
  simp only [valsOk, Bool.and_eq_true] at hv
  obtain ⟨⟨⟨v0, v1⟩, v2⟩, v3⟩ := hv
  rcases four hk0 hk3 with rfl | rfl | rfl | rfl
  · have hj : 0 ≤ g 0 ∧ g 0 ≤ 999 := by simpa [inB] using v0
    have hj0 := hj.1
    have hj1 := hj.2
    clear hj
    cases hi : inB (g 0 + n) 0 999 with
    | true =>
      have hi' : inB (g ((0 : Int).toNat) + n) 0 999 = true := hi
      simp only [hi', if_true]
      have ho : ok4 (g 0 + n) (g 1) (g 2) (g 3) = true := by simp [ok4, *]
      go_enter Try.func61, Try.ntmps61
      go_wp2_with fail
      go_region
      all_goals go_wp2_with fail
      all_goals refine (fine4 _ _ _ _ _).mono ?_
      all_goals
        rintro e w1 ⟨rfl, hb⟩
        have hk1 : Keeps w w1 := by refine Keeps.trans ?_ hb; repeat (first | exact Keeps.refl _ | refine Keeps.alloc ?_ _ | refine Keeps.drew ?_)
        obtain ⟨hc, hf⟩ := hb.cells
        have hz := hb.size
        simp only [World.size_alloc, World.size_drew] at hc hf hz
        have hz1 : w.heap.size + 1 + 1 < w1.heap.size := by omega
        have hz2 : w.heap.size < w1.heap.size := by omega
        have hz3 : w.heap.size + 1 < w1.heap.size := by omega
        have hz4 : w.heap.size + 1 + 1 + 1 < w1.heap.size := by omega
        go_wp2_with fail
        go_region
        all_goals go_wp2_with fail
        all_goals exact bodyPost_ret (v := .tuple #[arrV (upd g 0 (g 0 + n)), .int .i64 (g 0 + n)]) (by simp [results, Try.results61, go_sem, hc, upd]) rfl ⟨rfl, by repeat (first | exact hk1 | refine Keeps.set ?_ (by simp <;> omega) _ | refine Keeps.drew ?_)⟩
    | false =>
      have hi' : inB (g ((0 : Int).toNat) + n) 0 999 = false := hi
      simp only [hi', Bool.false_eq_true, if_false]
      have ho : ok4 (g 0 + n) (g 1) (g 2) (g 3) = false := by simp [ok4, hi]
      go_enter Try.func61, Try.ntmps61
      go_wp2_with fail
      go_region
      all_goals go_wp2_with fail
      all_goals refine (fine4 _ _ _ _ _).mono ?_
      all_goals
        rintro e w1 ⟨rfl, hb⟩
        have hk1 : Keeps w w1 := by refine Keeps.trans ?_ hb; repeat (first | exact Keeps.refl _ | refine Keeps.alloc ?_ _ | refine Keeps.drew ?_)
        obtain ⟨hc, hf⟩ := hb.cells
        have hz := hb.size
        simp only [World.size_alloc, World.size_drew] at hc hf hz
        have hz1 : w.heap.size + 1 + 1 < w1.heap.size := by omega
        have hz2 : w.heap.size < w1.heap.size := by omega
        have hz3 : w.heap.size + 1 < w1.heap.size := by omega
        have hz4 : w.heap.size + 1 + 1 + 1 < w1.heap.size := by omega
        go_wp2_with fail
        all_goals exact bodyPost_ret (v := .tuple #[arrV g, .int .i64 (-1)]) (by simp [results, Try.results61, go_sem, hc, upd]) rfl ⟨rfl, by repeat (first | exact hk1 | refine Keeps.set ?_ (by simp <;> omega) _ | refine Keeps.drew ?_)⟩
  · have hj : 0 ≤ g 1 ∧ g 1 ≤ 999 := by simpa [inB] using v1
    have hj0 := hj.1
    have hj1 := hj.2
    clear hj
    cases hi : inB (g 1 + n) 0 999 with
    | true =>
      have hi' : inB (g ((1 : Int).toNat) + n) 0 999 = true := hi
      simp only [hi', if_true]
      have ho : ok4 (g 0) (g 1 + n) (g 2) (g 3) = true := by simp [ok4, *]
      go_enter Try.func61, Try.ntmps61
      go_wp2_with fail
      go_region
      all_goals go_wp2_with fail
      all_goals refine (fine4 _ _ _ _ _).mono ?_
      all_goals
        rintro e w1 ⟨rfl, hb⟩
        have hk1 : Keeps w w1 := by refine Keeps.trans ?_ hb; repeat (first | exact Keeps.refl _ | refine Keeps.alloc ?_ _ | refine Keeps.drew ?_)
        obtain ⟨hc, hf⟩ := hb.cells
        have hz := hb.size
        simp only [World.size_alloc, World.size_drew] at hc hf hz
        have hz1 : w.heap.size + 1 + 1 < w1.heap.size := by omega
        have hz2 : w.heap.size < w1.heap.size := by omega
        have hz3 : w.heap.size + 1 < w1.heap.size := by omega
        have hz4 : w.heap.size + 1 + 1 + 1 < w1.heap.size := by omega
        go_wp2_with fail
        go_region
        all_goals go_wp2_with fail
        all_goals exact bodyPost_ret (v := .tuple #[arrV (upd g 1 (g 1 + n)), .int .i64 (g 1 + n)]) (by simp [results, Try.results61, go_sem, hc, upd]) rfl ⟨rfl, by repeat (first | exact hk1 | refine Keeps.set ?_ (by simp <;> omega) _ | refine Keeps.drew ?_)⟩
    | false =>
      have hi' : inB (g ((1 : Int).toNat) + n) 0 999 = false := hi
      simp only [hi', Bool.false_eq_true, if_false]
      have ho : ok4 (g 0) (g 1 + n) (g 2) (g 3) = false := by simp [ok4, hi]
      go_enter Try.func61, Try.ntmps61
      go_wp2_with fail
      go_region
      all_goals go_wp2_with fail
      all_goals refine (fine4 _ _ _ _ _).mono ?_
      all_goals
        rintro e w1 ⟨rfl, hb⟩
        have hk1 : Keeps w w1 := by refine Keeps.trans ?_ hb; repeat (first | exact Keeps.refl _ | refine Keeps.alloc ?_ _ | refine Keeps.drew ?_)
        obtain ⟨hc, hf⟩ := hb.cells
        have hz := hb.size
        simp only [World.size_alloc, World.size_drew] at hc hf hz
        have hz1 : w.heap.size + 1 + 1 < w1.heap.size := by omega
        have hz2 : w.heap.size < w1.heap.size := by omega
        have hz3 : w.heap.size + 1 < w1.heap.size := by omega
        have hz4 : w.heap.size + 1 + 1 + 1 < w1.heap.size := by omega
        go_wp2_with fail
        all_goals exact bodyPost_ret (v := .tuple #[arrV g, .int .i64 (-1)]) (by simp [results, Try.results61, go_sem, hc, upd]) rfl ⟨rfl, by repeat (first | exact hk1 | refine Keeps.set ?_ (by simp <;> omega) _ | refine Keeps.drew ?_)⟩
  · have hj : 0 ≤ g 2 ∧ g 2 ≤ 999 := by simpa [inB] using v2
    have hj0 := hj.1
    have hj1 := hj.2
    clear hj
    cases hi : inB (g 2 + n) 0 999 with
    | true =>
      have hi' : inB (g ((2 : Int).toNat) + n) 0 999 = true := hi
      simp only [hi', if_true]
      have ho : ok4 (g 0) (g 1) (g 2 + n) (g 3) = true := by simp [ok4, *]
      go_enter Try.func61, Try.ntmps61
      go_wp2_with fail
      go_region
      all_goals go_wp2_with fail
      all_goals refine (fine4 _ _ _ _ _).mono ?_
      all_goals
        rintro e w1 ⟨rfl, hb⟩
        have hk1 : Keeps w w1 := by refine Keeps.trans ?_ hb; repeat (first | exact Keeps.refl _ | refine Keeps.alloc ?_ _ | refine Keeps.drew ?_)
        obtain ⟨hc, hf⟩ := hb.cells
        have hz := hb.size
        simp only [World.size_alloc, World.size_drew] at hc hf hz
        have hz1 : w.heap.size + 1 + 1 < w1.heap.size := by omega
        have hz2 : w.heap.size < w1.heap.size := by omega
        have hz3 : w.heap.size + 1 < w1.heap.size := by omega
        have hz4 : w.heap.size + 1 + 1 + 1 < w1.heap.size := by omega
        go_wp2_with fail
        go_region
        all_goals go_wp2_with fail
        all_goals exact bodyPost_ret (v := .tuple #[arrV (upd g 2 (g 2 + n)), .int .i64 (g 2 + n)]) (by simp [results, Try.results61, go_sem, hc, upd]) rfl ⟨rfl, by repeat (first | exact hk1 | refine Keeps.set ?_ (by simp <;> omega) _ | refine Keeps.drew ?_)⟩
    | false =>
      have hi' : inB (g ((2 : Int).toNat) + n) 0 999 = false := hi
      simp only [hi', Bool.false_eq_true, if_false]
      have ho : ok4 (g 0) (g 1) (g 2 + n) (g 3) = false := by simp [ok4, hi]
      go_enter Try.func61, Try.ntmps61
      go_wp2_with fail
      go_region
      all_goals go_wp2_with fail
      all_goals refine (fine4 _ _ _ _ _).mono ?_
      all_goals
        rintro e w1 ⟨rfl, hb⟩
        have hk1 : Keeps w w1 := by refine Keeps.trans ?_ hb; repeat (first | exact Keeps.refl _ | refine Keeps.alloc ?_ _ | refine Keeps.drew ?_)
        obtain ⟨hc, hf⟩ := hb.cells
        have hz := hb.size
        simp only [World.size_alloc, World.size_drew] at hc hf hz
        have hz1 : w.heap.size + 1 + 1 < w1.heap.size := by omega
        have hz2 : w.heap.size < w1.heap.size := by omega
        have hz3 : w.heap.size + 1 < w1.heap.size := by omega
        have hz4 : w.heap.size + 1 + 1 + 1 < w1.heap.size := by omega
        go_wp2_with fail
        all_goals exact bodyPost_ret (v := .tuple #[arrV g, .int .i64 (-1)]) (by simp [results, Try.results61, go_sem, hc, upd]) rfl ⟨rfl, by repeat (first | exact hk1 | refine Keeps.set ?_ (by simp <;> omega) _ | refine Keeps.drew ?_)⟩
  · have hj : 0 ≤ g 3 ∧ g 3 ≤ 999 := by simpa [inB] using v3
    have hj0 := hj.1
    have hj1 := hj.2
    clear hj
    cases hi : inB (g 3 + n) 0 999 with
    | true =>
      have hi' : inB (g ((3 : Int).toNat) + n) 0 999 = true := hi
      simp only [hi', if_true]
      have ho : ok4 (g 0) (g 1) (g 2) (g 3 + n) = true := by simp [ok4, *]
      go_enter Try.func61, Try.ntmps61
      go_wp2_with fail
      go_region
      all_goals go_wp2_with fail
      all_goals refine (fine4 _ _ _ _ _).mono ?_
      all_goals
        rintro e w1 ⟨rfl, hb⟩
        have hk1 : Keeps w w1 := by refine Keeps.trans ?_ hb; repeat (first | exact Keeps.refl _ | refine Keeps.alloc ?_ _ | refine Keeps.drew ?_)
        obtain ⟨hc, hf⟩ := hb.cells
        have hz := hb.size
        simp only [World.size_alloc, World.size_drew] at hc hf hz
        have hz1 : w.heap.size + 1 + 1 < w1.heap.size := by omega
        have hz2 : w.heap.size < w1.heap.size := by omega
        have hz3 : w.heap.size + 1 < w1.heap.size := by omega
        have hz4 : w.heap.size + 1 + 1 + 1 < w1.heap.size := by omega
        go_wp2_with fail
        go_region
        all_goals go_wp2_with fail
        all_goals exact bodyPost_ret (v := .tuple #[arrV (upd g 3 (g 3 + n)), .int .i64 (g 3 + n)]) (by simp [results, Try.results61, go_sem, hc, upd]) rfl ⟨rfl, by repeat (first | exact hk1 | refine Keeps.set ?_ (by simp <;> omega) _ | refine Keeps.drew ?_)⟩
    | false =>
      have hi' : inB (g ((3 : Int).toNat) + n) 0 999 = false := hi
      simp only [hi', Bool.false_eq_true, if_false]
      have ho : ok4 (g 0) (g 1) (g 2) (g 3 + n) = false := by simp [ok4, hi]
      go_enter Try.func61, Try.ntmps61
      go_wp2_with fail
      go_region
      all_goals go_wp2_with fail
      all_goals refine (fine4 _ _ _ _ _).mono ?_
      all_goals
        rintro e w1 ⟨rfl, hb⟩
        have hk1 : Keeps w w1 := by refine Keeps.trans ?_ hb; repeat (first | exact Keeps.refl _ | refine Keeps.alloc ?_ _ | refine Keeps.drew ?_)
        obtain ⟨hc, hf⟩ := hb.cells
        have hz := hb.size
        simp only [World.size_alloc, World.size_drew] at hc hf hz
        have hz1 : w.heap.size + 1 + 1 < w1.heap.size := by omega
        have hz2 : w.heap.size < w1.heap.size := by omega
        have hz3 : w.heap.size + 1 < w1.heap.size := by omega
        have hz4 : w.heap.size + 1 + 1 + 1 < w1.heap.size := by omega
        go_wp2_with fail
        all_goals exact bodyPost_ret (v := .tuple #[arrV g, .int .i64 (-1)]) (by simp [results, Try.results61, go_sem, hc, upd]) rfl ⟨rfl, by repeat (first | exact hk1 | refine Keeps.set ?_ (by simp <;> omega) _ | refine Keeps.drew ?_)⟩
end Go.Proofs.Yteabfjpajgakiab
