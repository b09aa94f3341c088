/- What the reference's DoOf answers. -/
import Derived.Test.YteabfjpajgakiaaOpF
set_option linter.unusedSimpArgs false
set_option linter.unusedVariables false
namespace Go.Proofs.Yteabfjpajgakiaa
open Go.RowKit

set_option maxHeartbeats 1000000 in
theorem do_of_err (g : Nat → Int) (k key tk n : Int) (w : World) (he : (opErr k key tk n == 0) = false) :
    Calls Try.prog 10 #[arrV g, opV k key tk n] w fun e w' => e = .returned (.tuple #[.agg #[.int .i64 0, .int .i64 0, .int .i64 0, .int .i64 0], .int .i64 0, .int .i64 (opErr k key tk n)]) ∧ Keeps w w' := by
  go_enter Try.func10, Try.ntmps10
  go_wp2_with fail
  refine (op_error k key tk n _).mono ?_
  rintro e w1 ⟨rfl, hb⟩
  have hk1 : Keeps w w1 := ((((Keeps.refl _).alloc _).alloc _).alloc _).trans hb
  obtain ⟨hc, hf⟩ := hb.cells
  have hz := hb.size
  simp only [World.size_alloc] at hc hf hz
  have hz1 : w.heap.size + 1 + 1 < w1.heap.size := by omega
  go_wp2_with fail
  exact bodyPost_ret (v := .tuple #[.agg #[.int .i64 0, .int .i64 0, .int .i64 0, .int .i64 0], .int .i64 0, .int .i64 (opErr k key tk n)]) (by simp [results, Try.results10, go_sem, hc]) rfl ⟨rfl, by repeat (first | exact hk1 | refine Keeps.set ?_ (by simp <;> omega) _)⟩

set_option maxHeartbeats 1000000 in
theorem do_of_range (g : Nat → Int) (k key tk n : Int) (w : World) (he : (opErr k key tk n == 0) = true) (hv : valsOk g = false) :
    Calls Try.prog 10 #[arrV g, opV k key tk n] w fun e w' => e = .returned (.tuple #[.agg #[.int .i64 0, .int .i64 0, .int .i64 0, .int .i64 0], .int .i64 0, .int .i64 3]) ∧ Keeps w w' := by
  have he' : opErr k key tk n = 0 := by simpa using he
  go_enter Try.func10, Try.ntmps10
  go_wp2_with fail
  refine (op_error k key tk n _).mono ?_
  rintro e w1 ⟨rfl, hb⟩
  have hk1 : Keeps w w1 := ((((Keeps.refl _).alloc _).alloc _).alloc _).trans hb
  obtain ⟨hc, hf⟩ := hb.cells
  have hz := hb.size
  simp only [World.size_alloc] at hc hf hz
  have hz1 : w.heap.size + 1 + 1 < w1.heap.size := by omega
  have hz2 : w.heap.size < w1.heap.size := by omega
  go_wp2_with fail
  refine (vals_fine g _).mono ?_
  rintro e w2 ⟨rfl, hb2⟩
  have hk2 : Keeps w w2 := hk1.trans hb2
  obtain ⟨hc2, hf2⟩ := hb2.cells
  have hy := hb2.size
  have hy1 : w.heap.size + 1 + 1 < w2.heap.size := by omega
  go_wp2_with fail
  exact bodyPost_ret (v := .tuple #[.agg #[.int .i64 0, .int .i64 0, .int .i64 0, .int .i64 0], .int .i64 0, .int .i64 3]) (by simp [results, Try.results10, go_sem, hc, hc2, hz1]) rfl ⟨rfl, by repeat (first | exact hk2 | refine Keeps.set ?_ (by simp <;> omega) _)⟩

set_option maxHeartbeats 1000000 in
theorem do_of_main (g : Nat → Int) (k key tk n : Int) (w : World) (he : (opErr k key tk n == 0) = true) (hv : valsOk g = true) :
    Calls Try.prog 10 #[arrV g, opV k key tk n] w fun e w' => e = .returned (.tuple #[arrV (if stepOk k g key tk n then stepTo k g key tk n else g), .int .i64 (if stepOk k g key tk n then stepTo k g key tk n key.toNat else -1), .int .i64 0]) ∧ Keeps w w' := by
  have he' : opErr k key tk n = 0 := by simpa using he
  have hd := did_c g k key tk n
  generalize (if stepOk k g key tk n then stepTo k g key tk n else g) = g' at *
  generalize (if stepOk k g key tk n then stepTo k g key tk n key.toNat else -1) = m at *
  have Hd : Hid (∀ (w : World), opErr k key tk n = 0 → valsOk g = true → Calls Try.prog 31 #[arrV g, opV k key tk n] w fun e w' => e = .returned (.tuple #[arrV g', .int .i64 m]) ∧ Keeps w w') := hd
  clear hd
  go_enter Try.func10, Try.ntmps10
  go_wp2_with fail
  refine (op_error k key tk n _).mono ?_
  rintro e w1 ⟨rfl, hb⟩
  have hk1 : Keeps w w1 := ((((Keeps.refl _).alloc _).alloc _).alloc _).trans hb
  obtain ⟨hc, hf⟩ := hb.cells
  have hz := hb.size
  simp only [World.size_alloc] at hc hf hz
  have hz1 : w.heap.size + 1 + 1 < w1.heap.size := by omega
  have hz2 : w.heap.size < w1.heap.size := by omega
  have hz3 : w.heap.size + 1 < w1.heap.size := by omega
  go_wp2_with fail
  refine (vals_fine g _).mono ?_
  rintro e w2 ⟨rfl, hb2⟩
  have hk2 : Keeps w w2 := hk1.trans hb2
  obtain ⟨hc2, hf2⟩ := hb2.cells
  have hy := hb2.size
  have hy1 : w.heap.size + 1 + 1 < w2.heap.size := by omega
  have hy2 : w.heap.size < w2.heap.size := by omega
  have hy3 : w.heap.size + 1 < w2.heap.size := by omega
  go_wp2_with fail
  refine (Hd.out _ he' hv).mono ?_
  rintro e w3 ⟨rfl, hb3⟩
  have hk3 : Keeps w w3 := hk2.trans hb3
  obtain ⟨hc3, hf3⟩ := hb3.cells
  have hx := hb3.size
  have hx1 : w.heap.size + 1 + 1 < w3.heap.size := by omega
  go_wp2_with fail
  exact bodyPost_ret (v := .tuple #[arrV g', .int .i64 m, .int .i64 0]) (by simp [results, Try.results10, go_sem, hc, hc2, hc3, hz1, hy1, hx1]) rfl ⟨rfl, by repeat (first | exact hk3 | refine Keeps.alloc ?_ _ | refine Keeps.set ?_ (by simp <;> omega) _)⟩

theorem do_of (g : Nat → Int) (k key tk n : Int) (w : World) :
    Calls Try.prog 10 #[arrV g, opV k key tk n] w fun e w' => e = .returned (DoSays g k key tk n) ∧ Keeps w w' := by
  cases he : (opErr k key tk n == 0) with
  | false =>
    have := do_of_err g k key tk n w he
    simpa [DoSays, doVals, doAns, doErr, he] using this
  | true =>
    cases hv : valsOk g with
    | false =>
      have := do_of_range g k key tk n w he hv
      simpa [DoSays, doVals, doAns, doErr, he, hv] using this
    | true =>
      have := do_of_main g k key tk n w he hv
      simpa [DoSays, doVals, doAns, doErr, he, hv] using this
end Go.Proofs.Yteabfjpajgakiaa
