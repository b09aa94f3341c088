/- RefM3, OpE. -/
import Derived.Test.YteabfjpajgakiabJ07
import Derived.Test.YteabfjpajgakiabJ08
import Derived.Test.YteabfjpajgakiabJ09
import Derived.Test.YteabfjpajgakiabJ10
import Derived.Test.YteabfjpajgakiabJ11
/- Contracts of the reference's functions on ops: did, Move of key 3. -/
set_option linter.unusedSimpArgs false
set_option linter.unusedVariables false
namespace Go.Proofs.Yteabfjpajgakiab
open Go.RowKit

set_option maxHeartbeats 4000000 in
theorem did_move3_no (g : Nat → Int) (tk n : Int) (w : World) (hn0 : 0 ≤ n) (hn1 : n ≤ 999) (hv : valsOk g = true) (hi : inB (g 3 - n) 0 999 = false) :
    Calls Try.prog 61 #[arrV g, opV 3 3 tk n] w fun e w' => e = .returned (.tuple #[arrV g, .int .i64 (-1)]) ∧ Keeps w w' := by
  simp only [valsOk, Bool.and_eq_true] at hv
  obtain ⟨⟨⟨v0, v1⟩, v2⟩, v3⟩ := hv
  have hj : 0 ≤ g 3 ∧ g 3 ≤ 999 := by simpa [inB] using v3
  have hj0 := hj.1
  have hj1 := hj.2
  clear hj
  have ho : ok4 (g 0) (g 1) (g 2) (g 3 - n) = false := by simp [ok4, hi]
  go_enter Try.func61, Try.ntmps61
  go_wp2_with fail
  go_region
  all_goals go_wp2_with fail
  all_goals refine (fine4 _ _ _ _ _).mono ?_
  all_goals
    rintro e w1 ⟨rfl, hb⟩
    have hk1 : Keeps w w1 := by refine Keeps.trans ?_ hb; repeat (first | exact Keeps.refl _ | refine Keeps.alloc ?_ _ | refine Keeps.drew ?_)
    obtain ⟨hc, hf⟩ := hb.cells
    have hz := hb.size
    simp only [World.size_alloc, World.size_drew] at hc hf hz
    have hz1 : w.heap.size + 1 + 1 < w1.heap.size := by omega
    have hz2 : w.heap.size < w1.heap.size := by omega
    have hz3 : w.heap.size + 1 < w1.heap.size := by omega
    have hz4 : w.heap.size + 1 + 1 + 1 < w1.heap.size := by omega
    go_wp2_with fail
    all_goals exact bodyPost_ret (v := .tuple #[arrV g, .int .i64 (-1)]) (by simp [results, Try.results61, go_sem, hc, upd]) rfl ⟨rfl, by repeat (first | exact hk1 | refine Keeps.set ?_ (by simp <;> omega) _ | refine Keeps.drew ?_)⟩


set_option maxHeartbeats 4000000 in
theorem did_move30_yes (g : Nat → Int) (n : Int) (w : World) (hn0 : 0 ≤ n) (hn1 : n ≤ 999) (hv : valsOk g = true) (hi : inB (g 3 - n) 0 999 = true) (hi2 : inB (g 0 + n) 0 999 = true) :
    Calls Try.prog 61 #[arrV g, opV 3 3 0 n] w fun e w' => e = .returned (.tuple #[arrV (upd (upd g 3 (g 3 - n)) 0 (g 0 + n)), .int .i64 (g 3 - n)]) ∧ Keeps w w' := by
  simp only [valsOk, Bool.and_eq_true] at hv
  obtain ⟨⟨⟨v0, v1⟩, v2⟩, v3⟩ := hv
  have hj : 0 ≤ g 3 ∧ g 3 ≤ 999 := by simpa [inB] using v3
  have ht : 0 ≤ g 0 ∧ g 0 ≤ 999 := by simpa [inB] using v0
  have hj0 := hj.1
  have hj1 := hj.2
  have ht0 := ht.1
  have ht1 := ht.2
  clear hj ht
  have ho : ok4 (g 0) (g 1) (g 2) (g 3 - n) = true := by simp [ok4, *]
  have ho2 : ok4 (g 0 + n) (g 1) (g 2) (g 3 - n) = true := by simp [ok4, *]
  go_enter Try.func61, Try.ntmps61
  go_wp2_with fail
  go_region
  all_goals go_wp2_with fail
  all_goals refine (fine4 _ _ _ _ _).mono ?_
  all_goals
    rintro e w1 ⟨rfl, hb⟩
    have hk1 : Keeps w w1 := by refine Keeps.trans ?_ hb; repeat (first | exact Keeps.refl _ | refine Keeps.alloc ?_ _ | refine Keeps.drew ?_)
    obtain ⟨hc, hf⟩ := hb.cells
    have hz := hb.size
    simp only [World.size_alloc, World.size_drew] at hc hf hz
    have hz1 : w.heap.size + 1 + 1 < w1.heap.size := by omega
    have hz2 : w.heap.size < w1.heap.size := by omega
    have hz3 : w.heap.size + 1 < w1.heap.size := by omega
    have hz4 : w.heap.size + 1 + 1 + 1 < w1.heap.size := by omega
    have hq : w1.cell? ⟨w.heap.size, 0, none⟩ = some (.int .i64 (g 0)) := by rw [hc _ _ (by omega)]; simp [go_sem]
    have hs := World.cell?_setCell_same w1 ⟨w.heap.size, 0, none⟩ (.int .i64 (g 0 + n)) hq
    clear hq
    go_wp2_with fail
    go_region
    all_goals go_wp2_with fail
    all_goals refine (fine4 _ _ _ _ _).mono ?_
    all_goals
      rintro e w2 ⟨rfl, hb2⟩
      have hk2 : Keeps w w2 := by refine Keeps.trans ?_ hb2; repeat (first | exact hk1 | refine Keeps.set ?_ (by simp <;> omega) _ | refine Keeps.drew ?_)
      obtain ⟨hc2, hf2⟩ := hb2.cells
      have hy := hb2.size
      simp only [World.size_setCell, World.size_drew] at hc2 hf2 hy
      have hy1 : w.heap.size + 1 + 1 < w2.heap.size := by omega
      have hy2 : w.heap.size < w2.heap.size := by omega
      have hy3 : w.heap.size + 1 < w2.heap.size := by omega
      have hy4 : w.heap.size + 1 + 1 + 1 < w2.heap.size := by omega
      go_wp2_with fail
      go_region
      all_goals go_wp2_with fail
      all_goals exact bodyPost_ret (v := .tuple #[arrV (upd (upd g 3 (g 3 - n)) 0 (g 0 + n)), .int .i64 (g 3 - n)]) (by simp [results, Try.results61, go_sem, hc, hc2, upd, hz1, hz2, hz3, hz4]) rfl ⟨rfl, by repeat (first | exact hk2 | refine Keeps.set ?_ (by simp <;> omega) _ | refine Keeps.drew ?_)⟩

set_option maxHeartbeats 4000000 in
theorem did_move30_far (g : Nat → Int) (n : Int) (w : World) (hn0 : 0 ≤ n) (hn1 : n ≤ 999) (hv : valsOk g = true) (hi : inB (g 3 - n) 0 999 = true) (hi2 : inB (g 0 + n) 0 999 = false) :
    Calls Try.prog 61 #[arrV g, opV 3 3 0 n] w fun e w' => e = .returned (.tuple #[arrV g, .int .i64 (-1)]) ∧ Keeps w w' := by
  simp only [valsOk, Bool.and_eq_true] at hv
  obtain ⟨⟨⟨v0, v1⟩, v2⟩, v3⟩ := hv
  have hj : 0 ≤ g 3 ∧ g 3 ≤ 999 := by simpa [inB] using v3
  have ht : 0 ≤ g 0 ∧ g 0 ≤ 999 := by simpa [inB] using v0
  have hj0 := hj.1
  have hj1 := hj.2
  have ht0 := ht.1
  have ht1 := ht.2
  clear hj ht
  have ho : ok4 (g 0) (g 1) (g 2) (g 3 - n) = true := by simp [ok4, *]
  have ho2 : ok4 (g 0 + n) (g 1) (g 2) (g 3 - n) = false := by simp [ok4, *]
  go_enter Try.func61, Try.ntmps61
  go_wp2_with fail
  go_region
  all_goals go_wp2_with fail
  all_goals refine (fine4 _ _ _ _ _).mono ?_
  all_goals
    rintro e w1 ⟨rfl, hb⟩
    have hk1 : Keeps w w1 := by refine Keeps.trans ?_ hb; repeat (first | exact Keeps.refl _ | refine Keeps.alloc ?_ _ | refine Keeps.drew ?_)
    obtain ⟨hc, hf⟩ := hb.cells
    have hz := hb.size
    simp only [World.size_alloc, World.size_drew] at hc hf hz
    have hz1 : w.heap.size + 1 + 1 < w1.heap.size := by omega
    have hz2 : w.heap.size < w1.heap.size := by omega
    have hz3 : w.heap.size + 1 < w1.heap.size := by omega
    have hz4 : w.heap.size + 1 + 1 + 1 < w1.heap.size := by omega
    have hq : w1.cell? ⟨w.heap.size, 0, none⟩ = some (.int .i64 (g 0)) := by rw [hc _ _ (by omega)]; simp [go_sem]
    have hs := World.cell?_setCell_same w1 ⟨w.heap.size, 0, none⟩ (.int .i64 (g 0 + n)) hq
    clear hq
    go_wp2_with fail
    go_region
    all_goals go_wp2_with fail
    all_goals refine (fine4 _ _ _ _ _).mono ?_
    all_goals
      rintro e w2 ⟨rfl, hb2⟩
      have hk2 : Keeps w w2 := by refine Keeps.trans ?_ hb2; repeat (first | exact hk1 | refine Keeps.set ?_ (by simp <;> omega) _ | refine Keeps.drew ?_)
      obtain ⟨hc2, hf2⟩ := hb2.cells
      have hy := hb2.size
      simp only [World.size_setCell, World.size_drew] at hc2 hf2 hy
      have hy1 : w.heap.size + 1 + 1 < w2.heap.size := by omega
      have hy2 : w.heap.size < w2.heap.size := by omega
      have hy3 : w.heap.size + 1 < w2.heap.size := by omega
      have hy4 : w.heap.size + 1 + 1 + 1 < w2.heap.size := by omega
      go_wp2_with fail
      all_goals exact bodyPost_ret (v := .tuple #[arrV g, .int .i64 (-1)]) (by simp [results, Try.results61, go_sem, hc, hc2, upd, hz1, hz2, hz3, hz4]) rfl ⟨rfl, by repeat (first | exact hk2 | refine Keeps.set ?_ (by simp <;> omega) _ | refine Keeps.drew ?_)⟩

set_option maxHeartbeats 4000000 in
theorem did_move31_yes (g : Nat → Int) (n : Int) (w : World) (hn0 : 0 ≤ n) (hn1 : n ≤ 999) (hv : valsOk g = true) (hi : inB (g 3 - n) 0 999 = true) (hi2 : inB (g 1 + n) 0 999 = true) :
    Calls Try.prog 61 #[arrV g, opV 3 3 1 n] w fun e w' => e = .returned (.tuple #[arrV (upd (upd g 3 (g 3 - n)) 1 (g 1 + n)), .int .i64 (g 3 - n)]) ∧ Keeps w w' := by
  simp only [valsOk, Bool.and_eq_true] at hv
  obtain ⟨⟨⟨v0, v1⟩, v2⟩, v3⟩ := hv
  have hj : 0 ≤ g 3 ∧ g 3 ≤ 999 := by simpa [inB] using v3
  have ht : 0 ≤ g 1 ∧ g 1 ≤ 999 := by simpa [inB] using v1
  have hj0 := hj.1
  have hj1 := hj.2
  have ht0 := ht.1
  have ht1 := ht.2
  clear hj ht
  have ho : ok4 (g 0) (g 1) (g 2) (g 3 - n) = true := by simp [ok4, *]
  have ho2 : ok4 (g 0) (g 1 + n) (g 2) (g 3 - n) = true := by simp [ok4, *]
  go_enter Try.func61, Try.ntmps61
  go_wp2_with fail
  go_region
  all_goals go_wp2_with fail
  all_goals refine (fine4 _ _ _ _ _).mono ?_
  all_goals
    rintro e w1 ⟨rfl, hb⟩
    have hk1 : Keeps w w1 := by refine Keeps.trans ?_ hb; repeat (first | exact Keeps.refl _ | refine Keeps.alloc ?_ _ | refine Keeps.drew ?_)
    obtain ⟨hc, hf⟩ := hb.cells
    have hz := hb.size
    simp only [World.size_alloc, World.size_drew] at hc hf hz
    have hz1 : w.heap.size + 1 + 1 < w1.heap.size := by omega
    have hz2 : w.heap.size < w1.heap.size := by omega
    have hz3 : w.heap.size + 1 < w1.heap.size := by omega
    have hz4 : w.heap.size + 1 + 1 + 1 < w1.heap.size := by omega
    have hq : w1.cell? ⟨w.heap.size, 1, none⟩ = some (.int .i64 (g 1)) := by rw [hc _ _ (by omega)]; simp [go_sem]
    have hs := World.cell?_setCell_same w1 ⟨w.heap.size, 1, none⟩ (.int .i64 (g 1 + n)) hq
    clear hq
    go_wp2_with fail
    go_region
    all_goals go_wp2_with fail
    all_goals refine (fine4 _ _ _ _ _).mono ?_
    all_goals
      rintro e w2 ⟨rfl, hb2⟩
      have hk2 : Keeps w w2 := by refine Keeps.trans ?_ hb2; repeat (first | exact hk1 | refine Keeps.set ?_ (by simp <;> omega) _ | refine Keeps.drew ?_)
      obtain ⟨hc2, hf2⟩ := hb2.cells
      have hy := hb2.size
      simp only [World.size_setCell, World.size_drew] at hc2 hf2 hy
      have hy1 : w.heap.size + 1 + 1 < w2.heap.size := by omega
      have hy2 : w.heap.size < w2.heap.size := by omega
      have hy3 : w.heap.size + 1 < w2.heap.size := by omega
      have hy4 : w.heap.size + 1 + 1 + 1 < w2.heap.size := by omega
      go_wp2_with fail
      go_region
      all_goals go_wp2_with fail
      all_goals exact bodyPost_ret (v := .tuple #[arrV (upd (upd g 3 (g 3 - n)) 1 (g 1 + n)), .int .i64 (g 3 - n)]) (by simp [results, Try.results61, go_sem, hc, hc2, upd, hz1, hz2, hz3, hz4]) rfl ⟨rfl, by repeat (first | exact hk2 | refine Keeps.set ?_ (by simp <;> omega) _ | refine Keeps.drew ?_)⟩

set_option maxHeartbeats 4000000 in
theorem did_move31_far (g : Nat → Int) (n : Int) (w : World) (hn0 : 0 ≤ n) (hn1 : n ≤ 999) (hv : valsOk g = true) (hi : inB (g 3 - n) 0 999 = true) (hi2 : inB (g 1 + n) 0 999 = false) :
    Calls Try.prog 61 #[arrV g, opV 3 3 1 n] w fun e w' => e = .returned (.tuple #[arrV g, .int .i64 (-1)]) ∧ Keeps w w' := by
  simp only [valsOk, Bool.and_eq_true] at hv
  obtain ⟨⟨⟨v0, v1⟩, v2⟩, v3⟩ := hv
  have hj : 0 ≤ g 3 ∧ g 3 ≤ 999 := by simpa [inB] using v3
  have ht : 0 ≤ g 1 ∧ g 1 ≤ 999 := by simpa [inB] using v1
  have hj0 := hj.1
  have hj1 := hj.2
  have ht0 := ht.1
  have ht1 := ht.2
  clear hj ht
  have ho : ok4 (g 0) (g 1) (g 2) (g 3 - n) = true := by simp [ok4, *]
  have ho2 : ok4 (g 0) (g 1 + n) (g 2) (g 3 - n) = false := by simp [ok4, *]
  go_enter Try.func61, Try.ntmps61
  go_wp2_with fail
  go_region
  all_goals go_wp2_with fail
  all_goals refine (fine4 _ _ _ _ _).mono ?_
  all_goals
    rintro e w1 ⟨rfl, hb⟩
    have hk1 : Keeps w w1 := by refine Keeps.trans ?_ hb; repeat (first | exact Keeps.refl _ | refine Keeps.alloc ?_ _ | refine Keeps.drew ?_)
    obtain ⟨hc, hf⟩ := hb.cells
    have hz := hb.size
    simp only [World.size_alloc, World.size_drew] at hc hf hz
    have hz1 : w.heap.size + 1 + 1 < w1.heap.size := by omega
    have hz2 : w.heap.size < w1.heap.size := by omega
    have hz3 : w.heap.size + 1 < w1.heap.size := by omega
    have hz4 : w.heap.size + 1 + 1 + 1 < w1.heap.size := by omega
    have hq : w1.cell? ⟨w.heap.size, 1, none⟩ = some (.int .i64 (g 1)) := by rw [hc _ _ (by omega)]; simp [go_sem]
    have hs := World.cell?_setCell_same w1 ⟨w.heap.size, 1, none⟩ (.int .i64 (g 1 + n)) hq
    clear hq
    go_wp2_with fail
    go_region
    all_goals go_wp2_with fail
    all_goals refine (fine4 _ _ _ _ _).mono ?_
    all_goals
      rintro e w2 ⟨rfl, hb2⟩
      have hk2 : Keeps w w2 := by refine Keeps.trans ?_ hb2; repeat (first | exact hk1 | refine Keeps.set ?_ (by simp <;> omega) _ | refine Keeps.drew ?_)
      obtain ⟨hc2, hf2⟩ := hb2.cells
      have hy := hb2.size
      simp only [World.size_setCell, World.size_drew] at hc2 hf2 hy
      have hy1 : w.heap.size + 1 + 1 < w2.heap.size := by omega
      have hy2 : w.heap.size < w2.heap.size := by omega
      have hy3 : w.heap.size + 1 < w2.heap.size := by omega
      have hy4 : w.heap.size + 1 + 1 + 1 < w2.heap.size := by omega
      go_wp2_with fail
      all_goals exact bodyPost_ret (v := .tuple #[arrV g, .int .i64 (-1)]) (by simp [results, Try.results61, go_sem, hc, hc2, upd, hz1, hz2, hz3, hz4]) rfl ⟨rfl, by repeat (first | exact hk2 | refine Keeps.set ?_ (by simp <;> omega) _ | refine Keeps.drew ?_)⟩

set_option maxHeartbeats 4000000 in
theorem did_move32_yes (g : Nat → Int) (n : Int) (w : World) (hn0 : 0 ≤ n) (hn1 : n ≤ 999) (hv : valsOk g = true) (hi : inB (g 3 - n) 0 999 = true) (hi2 : inB (g 2 + n) 0 999 = true) :
    Calls Try.prog 61 #[arrV g, opV 3 3 2 n] w fun e w' => e = .returned (.tuple #[arrV (upd (upd g 3 (g 3 - n)) 2 (g 2 + n)), .int .i64 (g 3 - n)]) ∧ Keeps w w' := by
  simp only [valsOk, Bool.and_eq_true] at hv
  obtain ⟨⟨⟨v0, v1⟩, v2⟩, v3⟩ := hv
  have hj : 0 ≤ g 3 ∧ g 3 ≤ 999 := by simpa [inB] using v3
  have ht : 0 ≤ g 2 ∧ g 2 ≤ 999 := by simpa [inB] using v2
  have hj0 := hj.1
  have hj1 := hj.2
  have ht0 := ht.1
  have ht1 := ht.2
  clear hj ht
  have ho : ok4 (g 0) (g 1) (g 2) (g 3 - n) = true := by simp [ok4, *]
  have ho2 : ok4 (g 0) (g 1) (g 2 + n) (g 3 - n) = true := by simp [ok4, *]
  go_enter Try.func61, Try.ntmps61
  go_wp2_with fail
  go_region
  all_goals go_wp2_with fail
  all_goals refine (fine4 _ _ _ _ _).mono ?_
  all_goals
    rintro e w1 ⟨rfl, hb⟩
    have hk1 : Keeps w w1 := by refine Keeps.trans ?_ hb; repeat (first | exact Keeps.refl _ | refine Keeps.alloc ?_ _ | refine Keeps.drew ?_)
    obtain ⟨hc, hf⟩ := hb.cells
    have hz := hb.size
    simp only [World.size_alloc, World.size_drew] at hc hf hz
    have hz1 : w.heap.size + 1 + 1 < w1.heap.size := by omega
    have hz2 : w.heap.size < w1.heap.size := by omega
    have hz3 : w.heap.size + 1 < w1.heap.size := by omega
    have hz4 : w.heap.size + 1 + 1 + 1 < w1.heap.size := by omega
    have hq : w1.cell? ⟨w.heap.size, 2, none⟩ = some (.int .i64 (g 2)) := by rw [hc _ _ (by omega)]; simp [go_sem]
    have hs := World.cell?_setCell_same w1 ⟨w.heap.size, 2, none⟩ (.int .i64 (g 2 + n)) hq
    clear hq
    go_wp2_with fail
    go_region
    all_goals go_wp2_with fail
    all_goals refine (fine4 _ _ _ _ _).mono ?_
    all_goals
      rintro e w2 ⟨rfl, hb2⟩
      have hk2 : Keeps w w2 := by refine Keeps.trans ?_ hb2; repeat (first | exact hk1 | refine Keeps.set ?_ (by simp <;> omega) _ | refine Keeps.drew ?_)
      obtain ⟨hc2, hf2⟩ := hb2.cells
      have hy := hb2.size
      simp only [World.size_setCell, World.size_drew] at hc2 hf2 hy
      have hy1 : w.heap.size + 1 + 1 < w2.heap.size := by omega
      have hy2 : w.heap.size < w2.heap.size := by omega
      have hy3 : w.heap.size + 1 < w2.heap.size := by omega
      have hy4 : w.heap.size + 1 + 1 + 1 < w2.heap.size := by omega
      go_wp2_with fail
      go_region
      all_goals go_wp2_with fail
      all_goals exact bodyPost_ret (v := .tuple #[arrV (upd (upd g 3 (g 3 - n)) 2 (g 2 + n)), .int .i64 (g 3 - n)]) (by simp [results, Try.results61, go_sem, hc, hc2, upd, hz1, hz2, hz3, hz4]) rfl ⟨rfl, by repeat (first | exact hk2 | refine Keeps.set ?_ (by simp <;> omega) _ | refine Keeps.drew ?_)⟩

set_option maxHeartbeats 4000000 in
theorem did_move32_far (g : Nat → Int) (n : Int) (w : World) (hn0 : 0 ≤ n) (hn1 : n ≤ 999) (hv : valsOk g = true) (hi : inB (g 3 - n) 0 999 = true) (hi2 : inB (g 2 + n) 0 999 = false) :
    Calls Try.prog 61 #[arrV g, opV 3 3 2 n] w fun e w' => e = .returned (.tuple #[arrV g, .int .i64 (-1)]) ∧ Keeps w w' := by
  simp only [valsOk, Bool.and_eq_true] at hv
  obtain ⟨⟨⟨v0, v1⟩, v2⟩, v3⟩ := hv
  have hj : 0 ≤ g 3 ∧ g 3 ≤ 999 := by simpa [inB] using v3
  have ht : 0 ≤ g 2 ∧ g 2 ≤ 999 := by simpa [inB] using v2
  have hj0 := hj.1
  have hj1 := hj.2
  have ht0 := ht.1
  have ht1 := ht.2
  clear hj ht
  have ho : ok4 (g 0) (g 1) (g 2) (g 3 - n) = true := by simp [ok4, *]
  have ho2 : ok4 (g 0) (g 1) (g 2 + n) (g 3 - n) = false := by simp [ok4, *]
  go_enter Try.func61, Try.ntmps61
  go_wp2_with fail
  go_region
  all_goals go_wp2_with fail
  all_goals refine (fine4 _ _ _ _ _).mono ?_
  all_goals
    rintro e w1 ⟨rfl, hb⟩
    have hk1 : Keeps w w1 := by refine Keeps.trans ?_ hb; repeat (first | exact Keeps.refl _ | refine Keeps.alloc ?_ _ | refine Keeps.drew ?_)
    obtain ⟨hc, hf⟩ := hb.cells
    have hz := hb.size
    simp only [World.size_alloc, World.size_drew] at hc hf hz
    have hz1 : w.heap.size + 1 + 1 < w1.heap.size := by omega
    have hz2 : w.heap.size < w1.heap.size := by omega
    have hz3 : w.heap.size + 1 < w1.heap.size := by omega
    have hz4 : w.heap.size + 1 + 1 + 1 < w1.heap.size := by omega
    have hq : w1.cell? ⟨w.heap.size, 2, none⟩ = some (.int .i64 (g 2)) := by rw [hc _ _ (by omega)]; simp [go_sem]
    have hs := World.cell?_setCell_same w1 ⟨w.heap.size, 2, none⟩ (.int .i64 (g 2 + n)) hq
    clear hq
    go_wp2_with fail
    go_region
    all_goals go_wp2_with fail
    all_goals refine (fine4 _ _ _ _ _).mono ?_
    all_goals
      rintro e w2 ⟨rfl, hb2⟩
      have hk2 : Keeps w w2 := by refine Keeps.trans ?_ hb2; repeat (first | exact hk1 | refine Keeps.set ?_ (by simp <;> omega) _ | refine Keeps.drew ?_)
      obtain ⟨hc2, hf2⟩ := hb2.cells
      have hy := hb2.size
      simp only [World.size_setCell, World.size_drew] at hc2 hf2 hy
      have hy1 : w.heap.size + 1 + 1 < w2.heap.size := by omega
      have hy2 : w.heap.size < w2.heap.size := by omega
      have hy3 : w.heap.size + 1 < w2.heap.size := by omega
      have hy4 : w.heap.size + 1 + 1 + 1 < w2.heap.size := by omega
      go_wp2_with fail
      all_goals exact bodyPost_ret (v := .tuple #[arrV g, .int .i64 (-1)]) (by simp [results, Try.results61, go_sem, hc, hc2, upd, hz1, hz2, hz3, hz4]) rfl ⟨rfl, by repeat (first | exact hk2 | refine Keeps.set ?_ (by simp <;> omega) _ | refine Keeps.drew ?_)⟩

set_option maxHeartbeats 4000000 in
theorem did_move33_yes (g : Nat → Int) (n : Int) (w : World) (hn0 : 0 ≤ n) (hn1 : n ≤ 999) (hv : valsOk g = true) (hi : inB (g 3 - n) 0 999 = true) :
    Calls Try.prog 61 #[arrV g, opV 3 3 3 n] w fun e w' => e = .returned (.tuple #[arrV (upd (upd g 3 (g 3 - n)) 3 (g 3)), .int .i64 (g 3)]) ∧ Keeps w w' := by
  simp only [valsOk, Bool.and_eq_true] at hv
  obtain ⟨⟨⟨v0, v1⟩, v2⟩, v3⟩ := hv
  have hj : 0 ≤ g 3 ∧ g 3 ≤ 999 := by simpa [inB] using v3
  have ht : 0 ≤ g 3 ∧ g 3 ≤ 999 := by simpa [inB] using v3
  have hj0 := hj.1
  have hj1 := hj.2
  have ht0 := ht.1
  have ht1 := ht.2
  clear hj ht
  have ho : ok4 (g 0) (g 1) (g 2) (g 3 - n) = true := by simp [ok4, *]
  have ho2 : ok4 (g 0) (g 1) (g 2) (g 3) = true := by simp [ok4, *]
  go_enter Try.func61, Try.ntmps61
  go_wp2_with fail
  go_region
  all_goals go_wp2_with fail
  all_goals refine (fine4 _ _ _ _ _).mono ?_
  all_goals
    rintro e w1 ⟨rfl, hb⟩
    have hk1 : Keeps w w1 := by refine Keeps.trans ?_ hb; repeat (first | exact Keeps.refl _ | refine Keeps.alloc ?_ _ | refine Keeps.drew ?_)
    obtain ⟨hc, hf⟩ := hb.cells
    have hz := hb.size
    simp only [World.size_alloc, World.size_drew] at hc hf hz
    have hz1 : w.heap.size + 1 + 1 < w1.heap.size := by omega
    have hz2 : w.heap.size < w1.heap.size := by omega
    have hz3 : w.heap.size + 1 < w1.heap.size := by omega
    have hz4 : w.heap.size + 1 + 1 + 1 < w1.heap.size := by omega
    have hq : w1.cell? ⟨w.heap.size, 3, none⟩ = some (.int .i64 (g 3 - n)) := by rw [hc _ _ (by omega)]; simp [go_sem]
    have hs := World.cell?_setCell_same w1 ⟨w.heap.size, 3, none⟩ (.int .i64 (g 3)) hq
    clear hq
    go_wp2_with fail
    go_region
    all_goals go_wp2_with fail
    all_goals refine (fine4 _ _ _ _ _).mono ?_
    all_goals
      rintro e w2 ⟨rfl, hb2⟩
      have hk2 : Keeps w w2 := by refine Keeps.trans ?_ hb2; repeat (first | exact hk1 | refine Keeps.set ?_ (by simp <;> omega) _ | refine Keeps.drew ?_)
      obtain ⟨hc2, hf2⟩ := hb2.cells
      have hy := hb2.size
      simp only [World.size_setCell, World.size_drew] at hc2 hf2 hy
      have hy1 : w.heap.size + 1 + 1 < w2.heap.size := by omega
      have hy2 : w.heap.size < w2.heap.size := by omega
      have hy3 : w.heap.size + 1 < w2.heap.size := by omega
      have hy4 : w.heap.size + 1 + 1 + 1 < w2.heap.size := by omega
      go_wp2_with fail
      go_region
      all_goals go_wp2_with fail
      all_goals exact bodyPost_ret (v := .tuple #[arrV (upd (upd g 3 (g 3 - n)) 3 (g 3)), .int .i64 (g 3)]) (by simp [results, Try.results61, go_sem, hc, hc2, upd, hz1, hz2, hz3, hz4]) rfl ⟨rfl, by repeat (first | exact hk2 | refine Keeps.set ?_ (by simp <;> omega) _ | refine Keeps.drew ?_)⟩
end Go.Proofs.Yteabfjpajgakiab

/- What op.Do and the reference's DoOf answer. -/
set_option linter.unusedSimpArgs false
set_option linter.unusedVariables false
namespace Go.Proofs.Yteabfjpajgakiab
open Go.RowKit

/-- What is then, the answer, the error. -/
def doVals (g : Nat → Int) (k key tk n : Int) : Nat → Int :=
  if opErr k key tk n == 0 && valsOk g then (if stepOk k g key tk n then stepTo k g key tk n else g) else fun _ => 0
def doAns (g : Nat → Int) (k key tk n : Int) : Int :=
  if opErr k key tk n == 0 && valsOk g then (if stepOk k g key tk n then stepTo k g key tk n key.toNat else -1) else 0
def doErr (g : Nat → Int) (k key tk n : Int) : Int :=
  if opErr k key tk n == 0 then (if valsOk g then 0 else 3) else opErr k key tk n
def DoSays (g : Nat → Int) (k key tk n : Int) : Value := .tuple #[arrV (doVals g k key tk n), .int .i64 (doAns g k key tk n), .int .i64 (doErr g k key tk n)]

/-- What a right op has. -/
theorem op_right {k key tk n : Int} (h : opErr k key tk n = 0) :
    (0 ≤ key ∧ key ≤ 3) ∧ ((k = 1 ∧ tk = 0 ∧ 0 ≤ n ∧ n ≤ 999) ∨ (k = 2 ∧ tk = 0 ∧ -999 ≤ n ∧ n ≤ 999) ∨ (k = 3 ∧ (0 ≤ tk ∧ tk ≤ 3) ∧ 0 ≤ n ∧ n ≤ 999) ∨ (k = 4 ∧ tk = 0 ∧ n = 0)) := by
  by_cases h1 : k = 1
  · subst h1; revert h; simp [opErr, opIn, inB]; omega
  by_cases h2 : k = 2
  · subst h2; revert h; simp [opErr, opIn, inB]; omega
  by_cases h3 : k = 3
  · subst h3; revert h; simp [opErr, opIn, inB]; omega
  by_cases h4 : k = 4
  · subst h4; revert h; simp [opErr, opIn, inB]; omega
  · exfalso; revert h; simp [opErr, h1, h2, h3, h4]

theorem vals_at {g : Nat → Int} (h : valsOk g = true) (i : Nat) (hi : i < 4) : 0 ≤ g i ∧ g i ≤ 999 := by
  simp [valsOk, inB] at h
  have : i = 0 ∨ i = 1 ∨ i = 2 ∨ i = 3 := by omega
  rcases this with rfl | rfl | rfl | rfl <;> omega

theorem op_do (g : Nat → Int) (k key tk n : Int) (w : World) :
    Calls Try.prog 19 #[arrV g, opV k key tk n] w fun e w' => e = .returned (DoSays g k key tk n) ∧ Keeps w w' := by
  cases he : (opErr k key tk n == 0) with
  | false =>
    have := do_err g k key tk n w he
    simpa [DoSays, doVals, doAns, doErr, he] using this
  | true =>
    cases hv : valsOk g with
    | false =>
      have := do_range g k key tk n w he hv
      simpa [DoSays, doVals, doAns, doErr, he, hv] using this
    | true =>
      have h0 : opErr k key tk n = 0 := by simpa using he
      have hg := vals_at hv
      obtain ⟨⟨hk0, hk3⟩, hk⟩ := op_right h0
      have hgk := hg key.toNat (by omega)
      have e1 : DoSays g k key tk n = .tuple #[arrV (if stepOk k g key tk n then stepTo k g key tk n else g), .int .i64 (if stepOk k g key tk n then stepTo k g key tk n key.toNat else -1), .int .i64 0] := by
        simp [DoSays, doVals, doAns, doErr, he, hv]
      rw [e1]
      rcases hk with ⟨rfl, _, hn0, hn1⟩ | ⟨rfl, _, hn0, hn1⟩ | ⟨rfl, ⟨ht0, ht3⟩, hn0, hn1⟩ | ⟨rfl, _, hn⟩
      · exact do_main 62 g (stepTo 1 g key tk n) (stepOk 1 g key tk n) 1 key tk n w h0 hv rfl (fun _ _ => by kernel_rfl)
          (fun b W hA => (step_set b g 1 key tk n W hk0 hk3 hA).mono fun e w' ⟨h1, h2, h3⟩ => ⟨_, h3, h1, h2, fun _ => rfl⟩)
      · exact do_main 63 g (stepTo 2 g key tk n) (stepOk 2 g key tk n) 2 key tk n w h0 hv rfl (fun _ _ => by kernel_rfl)
          (fun b W hA => (step_add b g 2 key tk n W hk0 hk3 hgk.1 hgk.2 hn0 hn1 hA).mono fun e w' ⟨h1, h2, h3⟩ => ⟨_, h3, h1, h2, fun _ => rfl⟩)
      · exact do_main 65 g (stepTo 3 g key tk n) (stepOk 3 g key tk n) 3 key tk n w h0 hv rfl (fun _ _ => by kernel_rfl)
          (fun b W hA => (step_move b g 3 key tk n W hk0 hk3 ht0 ht3 hg hn0 hn1 hA).mono fun e w' ⟨h1, g'', h2, h3, h4⟩ => ⟨_, h2, h3, h1, h4⟩)
      · exact do_main 66 g (stepTo 4 g key tk n) (stepOk 4 g key tk n) 4 key tk n w h0 hv rfl (fun _ _ => by kernel_rfl)
          (fun b W hA => (step_get b g 4 key tk n W hA).mono fun e w' ⟨h1, h2, h3⟩ => ⟨_, h3, h1, h2, fun _ => rfl⟩)
end Go.Proofs.Yteabfjpajgakiab
