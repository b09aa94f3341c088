/- RefM1. -/
import Derived.Test.YteabfjpajgakiabJ07
/- Contracts of the reference's functions on ops: did, Move of key 1. -/
set_option linter.unusedSimpArgs false
set_option linter.unusedVariables false
namespace Go.Proofs.Yteabfjpajgakiab
open Go.RowKit

set_option maxHeartbeats 4000000 in
theorem did_move1_no (g : Nat → Int) (tk n : Int) (w : World) (hn0 : 0 ≤ n) (hn1 : n ≤ 999) (hv : valsOk g = true) (hi : inB (g 1 - n) 0 999 = false) :
    Calls Try.prog 61 #[arrV g, opV 3 1 tk n] w fun e w' => e = .returned (.tuple #[arrV g, .int .i64 (-1)]) ∧ Keeps w w' := by
  simp only [valsOk, Bool.and_eq_true] at hv
  obtain ⟨⟨⟨v0, v1⟩, v2⟩, v3⟩ := hv
  have hj : 0 ≤ g 1 ∧ g 1 ≤ 999 := by simpa [inB] using v1
  have hj0 := hj.1
  have hj1 := hj.2
  clear hj
  have ho : ok4 (g 0) (g 1 - n) (g 2) (g 3) = false := by simp [ok4, hi]
  go_enter Try.func61, Try.ntmps61
  go_wp2_with fail
  go_region
  all_goals go_wp2_with fail
  all_goals refine (fine4 _ _ _ _ _).mono ?_
  all_goals
    rintro e w1 ⟨rfl, hb⟩
    have hk1 : Keeps w w1 := by refine Keeps.trans ?_ hb; repeat (first | exact Keeps.refl _ | refine Keeps.alloc ?_ _ | refine Keeps.drew ?_)
    obtain ⟨hc, hf⟩ := hb.cells
    have hz := hb.size
    simp only [World.size_alloc, World.size_drew] at hc hf hz
    have hz1 : w.heap.size + 1 + 1 < w1.heap.size := by omega
    have hz2 : w.heap.size < w1.heap.size := by omega
    have hz3 : w.heap.size + 1 < w1.heap.size := by omega
    have hz4 : w.heap.size + 1 + 1 + 1 < w1.heap.size := by omega
    go_wp2_with fail
    all_goals exact bodyPost_ret (v := .tuple #[arrV g, .int .i64 (-1)]) (by simp [results, Try.results61, go_sem, hc, upd]) rfl ⟨rfl, by repeat (first | exact hk1 | refine Keeps.set ?_ (by simp <;> omega) _ | refine Keeps.drew ?_)⟩


set_option maxHeartbeats 4000000 in
theorem did_move10_yes (g : Nat → Int) (n : Int) (w : World) (hn0 : 0 ≤ n) (hn1 : n ≤ 999) (hv : valsOk g = true) (hi : inB (g 1 - n) 0 999 = true) (hi2 : inB (g 0 + n) 0 999 = true) :
    Calls Try.prog 61 #[arrV g, opV 3 1 0 n] w fun e w' => e = .returned (.tuple #[arrV (upd (upd g 1 (g 1 - n)) 0 (g 0 + n)), .int .i64 (g 1 - n)]) ∧ Keeps w w' := by
  simp only [valsOk, Bool.and_eq_true] at hv
  obtain ⟨⟨⟨v0, v1⟩, v2⟩, v3⟩ := hv
  have hj : 0 ≤ g 1 ∧ g 1 ≤ 999 := by simpa [inB] using v1
  have ht : 0 ≤ g 0 ∧ g 0 ≤ 999 := by simpa [inB] using v0
  have hj0 := hj.1
  have hj1 := hj.2
  have ht0 := ht.1
  have ht1 := ht.2
  clear hj ht
  have ho : ok4 (g 0) (g 1 - n) (g 2) (g 3) = true := by simp [ok4, *]
  have ho2 : ok4 (g 0 + n) (g 1 - n) (g 2) (g 3) = true := by simp [ok4, *]
  go_enter Try.func61, Try.ntmps61
  go_wp2_with fail
  go_region
  all_goals go_wp2_with fail
  all_goals refine (fine4 _ _ _ _ _).mono ?_
  all_goals
    rintro e w1 ⟨rfl, hb⟩
    have hk1 : Keeps w w1 := by refine Keeps.trans ?_ hb; repeat (first | exact Keeps.refl _ | refine Keeps.alloc ?_ _ | refine Keeps.drew ?_)
    obtain ⟨hc, hf⟩ := hb.cells
    have hz := hb.size
    simp only [World.size_alloc, World.size_drew] at hc hf hz
    have hz1 : w.heap.size + 1 + 1 < w1.heap.size := by omega
    have hz2 : w.heap.size < w1.heap.size := by omega
    have hz3 : w.heap.size + 1 < w1.heap.size := by omega
    have hz4 : w.heap.size + 1 + 1 + 1 < w1.heap.size := by omega
    have hq : w1.cell? ⟨w.heap.size, 0, none⟩ = some (.int .i64 (g 0)) := by rw [hc _ _ (by omega)]; simp [go_sem]
    have hs := World.cell?_setCell_same w1 ⟨w.heap.size, 0, none⟩ (.int .i64 (g 0 + n)) hq
    clear hq
    go_wp2_with fail
    go_region
    all_goals go_wp2_with fail
    all_goals refine (fine4 _ _ _ _ _).mono ?_
    all_goals
      rintro e w2 ⟨rfl, hb2⟩
      have hk2 : Keeps w w2 := by refine Keeps.trans ?_ hb2; repeat (first | exact hk1 | refine Keeps.set ?_ (by simp <;> omega) _ | refine Keeps.drew ?_)
      obtain ⟨hc2, hf2⟩ := hb2.cells
      have hy := hb2.size
      simp only [World.size_setCell, World.size_drew] at hc2 hf2 hy
      have hy1 : w.heap.size + 1 + 1 < w2.heap.size := by omega
      have hy2 : w.heap.size < w2.heap.size := by omega
      have hy3 : w.heap.size + 1 < w2.heap.size := by omega
      have hy4 : w.heap.size + 1 + 1 + 1 < w2.heap.size := by omega
      go_wp2_with fail
      go_region
      all_goals go_wp2_with fail
      all_goals exact bodyPost_ret (v := .tuple #[arrV (upd (upd g 1 (g 1 - n)) 0 (g 0 + n)), .int .i64 (g 1 - n)]) (by simp [results, Try.results61, go_sem, hc, hc2, upd, hz1, hz2, hz3, hz4]) rfl ⟨rfl, by repeat (first | exact hk2 | refine Keeps.set ?_ (by simp <;> omega) _ | refine Keeps.drew ?_)⟩

set_option maxHeartbeats 4000000 in
theorem did_move10_far (g : Nat → Int) (n : Int) (w : World) (hn0 : 0 ≤ n) (hn1 : n ≤ 999) (hv : valsOk g = true) (hi : inB (g 1 - n) 0 999 = true) (hi2 : inB (g 0 + n) 0 999 = false) :
    Calls Try.prog 61 #[arrV g, opV 3 1 0 n] w fun e w' => e = .returned (.tuple #[arrV g, .int .i64 (-1)]) ∧ Keeps w w' := by
  simp only [valsOk, Bool.and_eq_true] at hv
  obtain ⟨⟨⟨v0, v1⟩, v2⟩, v3⟩ := hv
  have hj : 0 ≤ g 1 ∧ g 1 ≤ 999 := by simpa [inB] using v1
  have ht : 0 ≤ g 0 ∧ g 0 ≤ 999 := by simpa [inB] using v0
  have hj0 := hj.1
  have hj1 := hj.2
  have ht0 := ht.1
  have ht1 := ht.2
  clear hj ht
  have ho : ok4 (g 0) (g 1 - n) (g 2) (g 3) = true := by simp [ok4, *]
  have ho2 : ok4 (g 0 + n) (g 1 - n) (g 2) (g 3) = false := by simp [ok4, *]
  go_enter Try.func61, Try.ntmps61
  go_wp2_with fail
  go_region
  all_goals go_wp2_with fail
  all_goals refine (fine4 _ _ _ _ _).mono ?_
  all_goals
    rintro e w1 ⟨rfl, hb⟩
    have hk1 : Keeps w w1 := by refine Keeps.trans ?_ hb; repeat (first | exact Keeps.refl _ | refine Keeps.alloc ?_ _ | refine Keeps.drew ?_)
    obtain ⟨hc, hf⟩ := hb.cells
    have hz := hb.size
    simp only [World.size_alloc, World.size_drew] at hc hf hz
    have hz1 : w.heap.size + 1 + 1 < w1.heap.size := by omega
    have hz2 : w.heap.size < w1.heap.size := by omega
    have hz3 : w.heap.size + 1 < w1.heap.size := by omega
    have hz4 : w.heap.size + 1 + 1 + 1 < w1.heap.size := by omega
    have hq : w1.cell? ⟨w.heap.size, 0, none⟩ = some (.int .i64 (g 0)) := by rw [hc _ _ (by omega)]; simp [go_sem]
    have hs := World.cell?_setCell_same w1 ⟨w.heap.size, 0, none⟩ (.int .i64 (g 0 + n)) hq
    clear hq
    go_wp2_with fail
    go_region
    all_goals go_wp2_with fail
    all_goals refine (fine4 _ _ _ _ _).mono ?_
    all_goals
      rintro e w2 ⟨rfl, hb2⟩
      have hk2 : Keeps w w2 := by refine Keeps.trans ?_ hb2; repeat (first | exact hk1 | refine Keeps.set ?_ (by simp <;> omega) _ | refine Keeps.drew ?_)
      obtain ⟨hc2, hf2⟩ := hb2.cells
      have hy := hb2.size
      simp only [World.size_setCell, World.size_drew] at hc2 hf2 hy
      have hy1 : w.heap.size + 1 + 1 < w2.heap.size := by omega
      have hy2 : w.heap.size < w2.heap.size := by omega
      have hy3 : w.heap.size + 1 < w2.heap.size := by omega
      have hy4 : w.heap.size + 1 + 1 + 1 < w2.heap.size := by omega
      go_wp2_with fail
      all_goals exact bodyPost_ret (v := .tuple #[arrV g, .int .i64 (-1)]) (by simp [results, Try.results61, go_sem, hc, hc2, upd, hz1, hz2, hz3, hz4]) rfl ⟨rfl, by repeat (first | exact hk2 | refine Keeps.set ?_ (by simp <;> omega) _ | refine Keeps.drew ?_)⟩

set_option maxHeartbeats 4000000 in
theorem did_move11_yes (g : Nat → Int) (n : Int) (w : World) (hn0 : 0 ≤ n) (hn1 : n ≤ 999) (hv : valsOk g = true) (hi : inB (g 1 - n) 0 999 = true) :
    Calls Try.prog 61 #[arrV g, opV 3 1 1 n] w fun e w' => e = .returned (.tuple #[arrV (upd (upd g 1 (g 1 - n)) 1 (g 1)), .int .i64 (g 1)]) ∧ Keeps w w' := by
  simp only [valsOk, Bool.and_eq_true] at hv
  obtain ⟨⟨⟨v0, v1⟩, v2⟩, v3⟩ := hv
  have hj : 0 ≤ g 1 ∧ g 1 ≤ 999 := by simpa [inB] using v1
  have ht : 0 ≤ g 1 ∧ g 1 ≤ 999 := by simpa [inB] using v1
  have hj0 := hj.1
  have hj1 := hj.2
  have ht0 := ht.1
  have ht1 := ht.2
  clear hj ht
  have ho : ok4 (g 0) (g 1 - n) (g 2) (g 3) = true := by simp [ok4, *]
  have ho2 : ok4 (g 0) (g 1) (g 2) (g 3) = true := by simp [ok4, *]
  go_enter Try.func61, Try.ntmps61
  go_wp2_with fail
  go_region
  all_goals go_wp2_with fail
  all_goals refine (fine4 _ _ _ _ _).mono ?_
  all_goals
    rintro e w1 ⟨rfl, hb⟩
    have hk1 : Keeps w w1 := by refine Keeps.trans ?_ hb; repeat (first | exact Keeps.refl _ | refine Keeps.alloc ?_ _ | refine Keeps.drew ?_)
    obtain ⟨hc, hf⟩ := hb.cells
    have hz := hb.size
    simp only [World.size_alloc, World.size_drew] at hc hf hz
    have hz1 : w.heap.size + 1 + 1 < w1.heap.size := by omega
    have hz2 : w.heap.size < w1.heap.size := by omega
    have hz3 : w.heap.size + 1 < w1.heap.size := by omega
    have hz4 : w.heap.size + 1 + 1 + 1 < w1.heap.size := by omega
    have hq : w1.cell? ⟨w.heap.size, 1, none⟩ = some (.int .i64 (g 1 - n)) := by rw [hc _ _ (by omega)]; simp [go_sem]
    have hs := World.cell?_setCell_same w1 ⟨w.heap.size, 1, none⟩ (.int .i64 (g 1)) hq
    clear hq
    go_wp2_with fail
    go_region
    all_goals go_wp2_with fail
    all_goals refine (fine4 _ _ _ _ _).mono ?_
    all_goals
      rintro e w2 ⟨rfl, hb2⟩
      have hk2 : Keeps w w2 := by refine Keeps.trans ?_ hb2; repeat (first | exact hk1 | refine Keeps.set ?_ (by simp <;> omega) _ | refine Keeps.drew ?_)
      obtain ⟨hc2, hf2⟩ := hb2.cells
      have hy := hb2.size
      simp only [World.size_setCell, World.size_drew] at hc2 hf2 hy
      have hy1 : w.heap.size + 1 + 1 < w2.heap.size := by omega
      have hy2 : w.heap.size < w2.heap.size := by omega
      have hy3 : w.heap.size + 1 < w2.heap.size := by omega
      have hy4 : w.heap.size + 1 + 1 + 1 < w2.heap.size := by omega
      go_wp2_with fail
      go_region
      all_goals go_wp2_with fail
      all_goals exact bodyPost_ret (v := .tuple #[arrV (upd (upd g 1 (g 1 - n)) 1 (g 1)), .int .i64 (g 1)]) (by simp [results, Try.results61, go_sem, hc, hc2, upd, hz1, hz2, hz3, hz4]) rfl ⟨rfl, by repeat (first | exact hk2 | refine Keeps.set ?_ (by simp <;> omega) _ | refine Keeps.drew ?_)⟩

set_option maxHeartbeats 4000000 in
theorem did_move12_yes (g : Nat → Int) (n : Int) (w : World) (hn0 : 0 ≤ n) (hn1 : n ≤ 999) (hv : valsOk g = true) (hi : inB (g 1 - n) 0 999 = true) (hi2 : inB (g 2 + n) 0 999 = true) :
    Calls Try.prog 61 #[arrV g, opV 3 1 2 n] w fun e w' => e = .returned (.tuple #[arrV (upd (upd g 1 (g 1 - n)) 2 (g 2 + n)), .int .i64 (g 1 - n)]) ∧ Keeps w w' := by
  simp only [valsOk, Bool.and_eq_true] at hv
  obtain ⟨⟨⟨v0, v1⟩, v2⟩, v3⟩ := hv
  have hj : 0 ≤ g 1 ∧ g 1 ≤ 999 := by simpa [inB] using v1
  have ht : 0 ≤ g 2 ∧ g 2 ≤ 999 := by simpa [inB] using v2
  have hj0 := hj.1
  have hj1 := hj.2
  have ht0 := ht.1
  have ht1 := ht.2
  clear hj ht
  have ho : ok4 (g 0) (g 1 - n) (g 2) (g 3) = true := by simp [ok4, *]
  have ho2 : ok4 (g 0) (g 1 - n) (g 2 + n) (g 3) = true := by simp [ok4, *]
  go_enter Try.func61, Try.ntmps61
  go_wp2_with fail
  go_region
  all_goals go_wp2_with fail
  all_goals refine (fine4 _ _ _ _ _).mono ?_
  all_goals
    rintro e w1 ⟨rfl, hb⟩
    have hk1 : Keeps w w1 := by refine Keeps.trans ?_ hb; repeat (first | exact Keeps.refl _ | refine Keeps.alloc ?_ _ | refine Keeps.drew ?_)
    obtain ⟨hc, hf⟩ := hb.cells
    have hz := hb.size
    simp only [World.size_alloc, World.size_drew] at hc hf hz
    have hz1 : w.heap.size + 1 + 1 < w1.heap.size := by omega
    have hz2 : w.heap.size < w1.heap.size := by omega
    have hz3 : w.heap.size + 1 < w1.heap.size := by omega
    have hz4 : w.heap.size + 1 + 1 + 1 < w1.heap.size := by omega
    have hq : w1.cell? ⟨w.heap.size, 2, none⟩ = some (.int .i64 (g 2)) := by rw [hc _ _ (by omega)]; simp [go_sem]
    have hs := World.cell?_setCell_same w1 ⟨w.heap.size, 2, none⟩ (.int .i64 (g 2 + n)) hq
    clear hq
    go_wp2_with fail
    go_region
    all_goals go_wp2_with fail
    all_goals refine (fine4 _ _ _ _ _).mono ?_
    all_goals
      rintro e w2 ⟨rfl, hb2⟩
      have hk2 : Keeps w w2 := by refine Keeps.trans ?_ hb2; repeat (first | exact hk1 | refine Keeps.set ?_ (by simp <;> omega) _ | refine Keeps.drew ?_)
      obtain ⟨hc2, hf2⟩ := hb2.cells
      have hy := hb2.size
      simp only [World.size_setCell, World.size_drew] at hc2 hf2 hy
      have hy1 : w.heap.size + 1 + 1 < w2.heap.size := by omega
      have hy2 : w.heap.size < w2.heap.size := by omega
      have hy3 : w.heap.size + 1 < w2.heap.size := by omega
      have hy4 : w.heap.size + 1 + 1 + 1 < w2.heap.size := by omega
      go_wp2_with fail
      go_region
      all_goals go_wp2_with fail
      all_goals exact bodyPost_ret (v := .tuple #[arrV (upd (upd g 1 (g 1 - n)) 2 (g 2 + n)), .int .i64 (g 1 - n)]) (by simp [results, Try.results61, go_sem, hc, hc2, upd, hz1, hz2, hz3, hz4]) rfl ⟨rfl, by repeat (first | exact hk2 | refine Keeps.set ?_ (by simp <;> omega) _ | refine Keeps.drew ?_)⟩

set_option maxHeartbeats 4000000 in
theorem did_move12_far (g : Nat → Int) (n : Int) (w : World) (hn0 : 0 ≤ n) (hn1 : n ≤ 999) (hv : valsOk g = true) (hi : inB (g 1 - n) 0 999 = true) (hi2 : inB (g 2 + n) 0 999 = false) :
    Calls Try.prog 61 #[arrV g, opV 3 1 2 n] w fun e w' => e = .returned (.tuple #[arrV g, .int .i64 (-1)]) ∧ Keeps w w' := by
  simp only [valsOk, Bool.and_eq_true] at hv
  obtain ⟨⟨⟨v0, v1⟩, v2⟩, v3⟩ := hv
  have hj : 0 ≤ g 1 ∧ g 1 ≤ 999 := by simpa [inB] using v1
  have ht : 0 ≤ g 2 ∧ g 2 ≤ 999 := by simpa [inB] using v2
  have hj0 := hj.1
  have hj1 := hj.2
  have ht0 := ht.1
  have ht1 := ht.2
  clear hj ht
  have ho : ok4 (g 0) (g 1 - n) (g 2) (g 3) = true := by simp [ok4, *]
  have ho2 : ok4 (g 0) (g 1 - n) (g 2 + n) (g 3) = false := by simp [ok4, *]
  go_enter Try.func61, Try.ntmps61
  go_wp2_with fail
  go_region
  all_goals go_wp2_with fail
  all_goals refine (fine4 _ _ _ _ _).mono ?_
  all_goals
    rintro e w1 ⟨rfl, hb⟩
    have hk1 : Keeps w w1 := by refine Keeps.trans ?_ hb; repeat (first | exact Keeps.refl _ | refine Keeps.alloc ?_ _ | refine Keeps.drew ?_)
    obtain ⟨hc, hf⟩ := hb.cells
    have hz := hb.size
    simp only [World.size_alloc, World.size_drew] at hc hf hz
    have hz1 : w.heap.size + 1 + 1 < w1.heap.size := by omega
    have hz2 : w.heap.size < w1.heap.size := by omega
    have hz3 : w.heap.size + 1 < w1.heap.size := by omega
    have hz4 : w.heap.size + 1 + 1 + 1 < w1.heap.size := by omega
    have hq : w1.cell? ⟨w.heap.size, 2, none⟩ = some (.int .i64 (g 2)) := by rw [hc _ _ (by omega)]; simp [go_sem]
    have hs := World.cell?_setCell_same w1 ⟨w.heap.size, 2, none⟩ (.int .i64 (g 2 + n)) hq
    clear hq
    go_wp2_with fail
    go_region
    all_goals go_wp2_with fail
    all_goals refine (fine4 _ _ _ _ _).mono ?_
    all_goals
      rintro e w2 ⟨rfl, hb2⟩
      have hk2 : Keeps w w2 := by refine Keeps.trans ?_ hb2; repeat (first | exact hk1 | refine Keeps.set ?_ (by simp <;> omega) _ | refine Keeps.drew ?_)
      obtain ⟨hc2, hf2⟩ := hb2.cells
      have hy := hb2.size
      simp only [World.size_setCell, World.size_drew] at hc2 hf2 hy
      have hy1 : w.heap.size + 1 + 1 < w2.heap.size := by omega
      have hy2 : w.heap.size < w2.heap.size := by omega
      have hy3 : w.heap.size + 1 < w2.heap.size := by omega
      have hy4 : w.heap.size + 1 + 1 + 1 < w2.heap.size := by omega
      go_wp2_with fail
      all_goals exact bodyPost_ret (v := .tuple #[arrV g, .int .i64 (-1)]) (by simp [results, Try.results61, go_sem, hc, hc2, upd, hz1, hz2, hz3, hz4]) rfl ⟨rfl, by repeat (first | exact hk2 | refine Keeps.set ?_ (by simp <;> omega) _ | refine Keeps.drew ?_)⟩

set_option maxHeartbeats 4000000 in
theorem did_move13_yes (g : Nat → Int) (n : Int) (w : World) (hn0 : 0 ≤ n) (hn1 : n ≤ 999) (hv : valsOk g = true) (hi : inB (g 1 - n) 0 999 = true) (hi2 : inB (g 3 + n) 0 999 = true) :
    Calls Try.prog 61 #[arrV g, opV 3 1 3 n] w fun e w' => e = .returned (.tuple #[arrV (upd (upd g 1 (g 1 - n)) 3 (g 3 + n)), .int .i64 (g 1 - n)]) ∧ Keeps w w' := by
  simp only [valsOk, Bool.and_eq_true] at hv
  obtain ⟨⟨⟨v0, v1⟩, v2⟩, v3⟩ := hv
  have hj : 0 ≤ g 1 ∧ g 1 ≤ 999 := by simpa [inB] using v1
  have ht : 0 ≤ g 3 ∧ g 3 ≤ 999 := by simpa [inB] using v3
  have hj0 := hj.1
  have hj1 := hj.2
  have ht0 := ht.1
  have ht1 := ht.2
  clear hj ht
  have ho : ok4 (g 0) (g 1 - n) (g 2) (g 3) = true := by simp [ok4, *]
  have ho2 : ok4 (g 0) (g 1 - n) (g 2) (g 3 + n) = true := by simp [ok4, *]
  go_enter Try.func61, Try.ntmps61
  go_wp2_with fail
  go_region
  all_goals go_wp2_with fail
  all_goals refine (fine4 _ _ _ _ _).mono ?_
  all_goals
    rintro e w1 ⟨rfl, hb⟩
    have hk1 : Keeps w w1 := by refine Keeps.trans ?_ hb; repeat (first | exact Keeps.refl _ | refine Keeps.alloc ?_ _ | refine Keeps.drew ?_)
    obtain ⟨hc, hf⟩ := hb.cells
    have hz := hb.size
    simp only [World.size_alloc, World.size_drew] at hc hf hz
    have hz1 : w.heap.size + 1 + 1 < w1.heap.size := by omega
    have hz2 : w.heap.size < w1.heap.size := by omega
    have hz3 : w.heap.size + 1 < w1.heap.size := by omega
    have hz4 : w.heap.size + 1 + 1 + 1 < w1.heap.size := by omega
    have hq : w1.cell? ⟨w.heap.size, 3, none⟩ = some (.int .i64 (g 3)) := by rw [hc _ _ (by omega)]; simp [go_sem]
    have hs := World.cell?_setCell_same w1 ⟨w.heap.size, 3, none⟩ (.int .i64 (g 3 + n)) hq
    clear hq
    go_wp2_with fail
    go_region
    all_goals go_wp2_with fail
    all_goals refine (fine4 _ _ _ _ _).mono ?_
    all_goals
      rintro e w2 ⟨rfl, hb2⟩
      have hk2 : Keeps w w2 := by refine Keeps.trans ?_ hb2; repeat (first | exact hk1 | refine Keeps.set ?_ (by simp <;> omega) _ | refine Keeps.drew ?_)
      obtain ⟨hc2, hf2⟩ := hb2.cells
      have hy := hb2.size
      simp only [World.size_setCell, World.size_drew] at hc2 hf2 hy
      have hy1 : w.heap.size + 1 + 1 < w2.heap.size := by omega
      have hy2 : w.heap.size < w2.heap.size := by omega
      have hy3 : w.heap.size + 1 < w2.heap.size := by omega
      have hy4 : w.heap.size + 1 + 1 + 1 < w2.heap.size := by omega
      go_wp2_with fail
      go_region
      all_goals go_wp2_with fail
      all_goals exact bodyPost_ret (v := .tuple #[arrV (upd (upd g 1 (g 1 - n)) 3 (g 3 + n)), .int .i64 (g 1 - n)]) (by simp [results, Try.results61, go_sem, hc, hc2, upd, hz1, hz2, hz3, hz4]) rfl ⟨rfl, by repeat (first | exact hk2 | refine Keeps.set ?_ (by simp <;> omega) _ | refine Keeps.drew ?_)⟩

set_option maxHeartbeats 4000000 in
theorem did_move13_far (g : Nat → Int) (n : Int) (w : World) (hn0 : 0 ≤ n) (hn1 : n ≤ 999) (hv : valsOk g = true) (hi : inB (g 1 - n) 0 999 = true) (hi2 : inB (g 3 + n) 0 999 = false) :
    Calls Try.prog 61 #[arrV g, opV 3 1 3 n] w fun e w' => e = .returned (.tuple #[arrV g, .int .i64 (-1)]) ∧ Keeps w w' := by
  simp only [valsOk, Bool.and_eq_true] at hv
  obtain ⟨⟨⟨v0, v1⟩, v2⟩, v3⟩ := hv
  have hj : 0 ≤ g 1 ∧ g 1 ≤ 999 := by simpa [inB] using v1
  have ht : 0 ≤ g 3 ∧ g 3 ≤ 999 := by simpa [inB] using v3
  have hj0 := hj.1
  have hj1 := hj.2
  have ht0 := ht.1
  have ht1 := ht.2
  clear hj ht
  have ho : ok4 (g 0) (g 1 - n) (g 2) (g 3) = true := by simp [ok4, *]
  have ho2 : ok4 (g 0) (g 1 - n) (g 2) (g 3 + n) = false := by simp [ok4, *]
  go_enter Try.func61, Try.ntmps61
  go_wp2_with fail
  go_region
  all_goals go_wp2_with fail
  all_goals refine (fine4 _ _ _ _ _).mono ?_
  all_goals
    rintro e w1 ⟨rfl, hb⟩
    have hk1 : Keeps w w1 := by refine Keeps.trans ?_ hb; repeat (first | exact Keeps.refl _ | refine Keeps.alloc ?_ _ | refine Keeps.drew ?_)
    obtain ⟨hc, hf⟩ := hb.cells
    have hz := hb.size
    simp only [World.size_alloc, World.size_drew] at hc hf hz
    have hz1 : w.heap.size + 1 + 1 < w1.heap.size := by omega
    have hz2 : w.heap.size < w1.heap.size := by omega
    have hz3 : w.heap.size + 1 < w1.heap.size := by omega
    have hz4 : w.heap.size + 1 + 1 + 1 < w1.heap.size := by omega
    have hq : w1.cell? ⟨w.heap.size, 3, none⟩ = some (.int .i64 (g 3)) := by rw [hc _ _ (by omega)]; simp [go_sem]
    have hs := World.cell?_setCell_same w1 ⟨w.heap.size, 3, none⟩ (.int .i64 (g 3 + n)) hq
    clear hq
    go_wp2_with fail
    go_region
    all_goals go_wp2_with fail
    all_goals refine (fine4 _ _ _ _ _).mono ?_
    all_goals
      rintro e w2 ⟨rfl, hb2⟩
      have hk2 : Keeps w w2 := by refine Keeps.trans ?_ hb2; repeat (first | exact hk1 | refine Keeps.set ?_ (by simp <;> omega) _ | refine Keeps.drew ?_)
      obtain ⟨hc2, hf2⟩ := hb2.cells
      have hy := hb2.size
      simp only [World.size_setCell, World.size_drew] at hc2 hf2 hy
      have hy1 : w.heap.size + 1 + 1 < w2.heap.size := by omega
      have hy2 : w.heap.size < w2.heap.size := by omega
      have hy3 : w.heap.size + 1 < w2.heap.size := by omega
      have hy4 : w.heap.size + 1 + 1 + 1 < w2.heap.size := by omega
      go_wp2_with fail
      all_goals exact bodyPost_ret (v := .tuple #[arrV g, .int .i64 (-1)]) (by simp [results, Try.results61, go_sem, hc, hc2, upd, hz1, hz2, hz3, hz4]) rfl ⟨rfl, by repeat (first | exact hk2 | refine Keeps.set ?_ (by simp <;> omega) _ | refine Keeps.drew ?_)⟩
end Go.Proofs.Yteabfjpajgakiab
