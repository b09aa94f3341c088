/- What the reference's DoOf answers. -/
import Derived.Test.YteabfjpajgakiaaOpE
set_option linter.unusedSimpArgs false
set_option linter.unusedVariables false
set_option maxRecDepth 10000
namespace Go.Proofs.Yteabfjpajgakiaa
open Go.RowKit

theorem did_move (g : Nat → Int) (key tk n : Int) (w : World) (hk0 : 0 ≤ key) (hk3 : key ≤ 3) (ht0 : 0 ≤ tk) (ht3 : tk ≤ 3) (hn0 : 0 ≤ n) (hn1 : n ≤ 999) (hv : valsOk g = true) :
    Calls Try.prog 31 #[arrV g, opV 3 key tk n] w fun e w' => e = .returned (.tuple #[arrV (if stepOk 3 g key tk n then stepTo 3 g key tk n else g), .int .i64 (if stepOk 3 g key tk n then stepTo 3 g key tk n key.toNat else -1)]) ∧ Keeps w w' := by
  have hg := vals_at hv
  have e : ∀ a b : Int, a + -b = a - b := fun a b => rfl
  rcases four hk0 hk3 with rfl | rfl | rfl | rfl
  · cases hi : inB (g 0 - n) 0 999 with
    | false =>
      have := did_move0_no g tk n w hn0 hn1 hv hi
      simpa [stepOk, stepTo, e, hi] using this
    | true =>
      rcases four ht0 ht3 with rfl | rfl | rfl | rfl
      · have := did_move00_yes g n w hn0 hn1 hv hi
        have hq : inB (g 0) 0 999 = true := by simp [inB]; exact hg 0 (by decide)
        simpa [stepOk, stepTo, e, hi, hq, upd] using this
      · cases hi2 : inB (g 1 + n) 0 999 with
        | true =>
          have := did_move01_yes g n w hn0 hn1 hv hi hi2
          simpa [stepOk, stepTo, e, hi, hi2, upd] using this
        | false =>
          have := did_move01_far g n w hn0 hn1 hv hi hi2
          simpa [stepOk, stepTo, e, hi, hi2, upd] using this
      · cases hi2 : inB (g 2 + n) 0 999 with
        | true =>
          have := did_move02_yes g n w hn0 hn1 hv hi hi2
          simpa [stepOk, stepTo, e, hi, hi2, upd] using this
        | false =>
          have := did_move02_far g n w hn0 hn1 hv hi hi2
          simpa [stepOk, stepTo, e, hi, hi2, upd] using this
      · cases hi2 : inB (g 3 + n) 0 999 with
        | true =>
          have := did_move03_yes g n w hn0 hn1 hv hi hi2
          simpa [stepOk, stepTo, e, hi, hi2, upd] using this
        | false =>
          have := did_move03_far g n w hn0 hn1 hv hi hi2
          simpa [stepOk, stepTo, e, hi, hi2, upd] using this
  · cases hi : inB (g 1 - n) 0 999 with
    | false =>
      have := did_move1_no g tk n w hn0 hn1 hv hi
      simpa [stepOk, stepTo, e, hi] using this
    | true =>
      rcases four ht0 ht3 with rfl | rfl | rfl | rfl
      · cases hi2 : inB (g 0 + n) 0 999 with
        | true =>
          have := did_move10_yes g n w hn0 hn1 hv hi hi2
          simpa [stepOk, stepTo, e, hi, hi2, upd] using this
        | false =>
          have := did_move10_far g n w hn0 hn1 hv hi hi2
          simpa [stepOk, stepTo, e, hi, hi2, upd] using this
      · have := did_move11_yes g n w hn0 hn1 hv hi
        have hq : inB (g 1) 0 999 = true := by simp [inB]; exact hg 1 (by decide)
        simpa [stepOk, stepTo, e, hi, hq, upd] using this
      · cases hi2 : inB (g 2 + n) 0 999 with
        | true =>
          have := did_move12_yes g n w hn0 hn1 hv hi hi2
          simpa [stepOk, stepTo, e, hi, hi2, upd] using this
        | false =>
          have := did_move12_far g n w hn0 hn1 hv hi hi2
          simpa [stepOk, stepTo, e, hi, hi2, upd] using this
      · cases hi2 : inB (g 3 + n) 0 999 with
        | true =>
          have := did_move13_yes g n w hn0 hn1 hv hi hi2
          simpa [stepOk, stepTo, e, hi, hi2, upd] using this
        | false =>
          have := did_move13_far g n w hn0 hn1 hv hi hi2
          simpa [stepOk, stepTo, e, hi, hi2, upd] using this
  · cases hi : inB (g 2 - n) 0 999 with
    | false =>
      have := did_move2_no g tk n w hn0 hn1 hv hi
      simpa [stepOk, stepTo, e, hi] using this
    | true =>
      rcases four ht0 ht3 with rfl | rfl | rfl | rfl
      · cases hi2 : inB (g 0 + n) 0 999 with
        | true =>
          have := did_move20_yes g n w hn0 hn1 hv hi hi2
          simpa [stepOk, stepTo, e, hi, hi2, upd] using this
        | false =>
          have := did_move20_far g n w hn0 hn1 hv hi hi2
          simpa [stepOk, stepTo, e, hi, hi2, upd] using this
      · cases hi2 : inB (g 1 + n) 0 999 with
        | true =>
          have := did_move21_yes g n w hn0 hn1 hv hi hi2
          simpa [stepOk, stepTo, e, hi, hi2, upd] using this
        | false =>
          have := did_move21_far g n w hn0 hn1 hv hi hi2
          simpa [stepOk, stepTo, e, hi, hi2, upd] using this
      · have := did_move22_yes g n w hn0 hn1 hv hi
        have hq : inB (g 2) 0 999 = true := by simp [inB]; exact hg 2 (by decide)
        simpa [stepOk, stepTo, e, hi, hq, upd] using this
      · cases hi2 : inB (g 3 + n) 0 999 with
        | true =>
          have := did_move23_yes g n w hn0 hn1 hv hi hi2
          simpa [stepOk, stepTo, e, hi, hi2, upd] using this
        | false =>
          have := did_move23_far g n w hn0 hn1 hv hi hi2
          simpa [stepOk, stepTo, e, hi, hi2, upd] using this
  · cases hi : inB (g 3 - n) 0 999 with
    | false =>
      have := did_move3_no g tk n w hn0 hn1 hv hi
      simpa [stepOk, stepTo, e, hi] using this
    | true =>
      rcases four ht0 ht3 with rfl | rfl | rfl | rfl
      · cases hi2 : inB (g 0 + n) 0 999 with
        | true =>
          have := did_move30_yes g n w hn0 hn1 hv hi hi2
          simpa [stepOk, stepTo, e, hi, hi2, upd] using this
        | false =>
          have := did_move30_far g n w hn0 hn1 hv hi hi2
          simpa [stepOk, stepTo, e, hi, hi2, upd] using this
      · cases hi2 : inB (g 1 + n) 0 999 with
        | true =>
          have := did_move31_yes g n w hn0 hn1 hv hi hi2
          simpa [stepOk, stepTo, e, hi, hi2, upd] using this
        | false =>
          have := did_move31_far g n w hn0 hn1 hv hi hi2
          simpa [stepOk, stepTo, e, hi, hi2, upd] using this
      · cases hi2 : inB (g 2 + n) 0 999 with
        | true =>
          have := did_move32_yes g n w hn0 hn1 hv hi hi2
          simpa [stepOk, stepTo, e, hi, hi2, upd] using this
        | false =>
          have := did_move32_far g n w hn0 hn1 hv hi hi2
          simpa [stepOk, stepTo, e, hi, hi2, upd] using this
      · have := did_move33_yes g n w hn0 hn1 hv hi
        have hq : inB (g 3) 0 999 = true := by simp [inB]; exact hg 3 (by decide)
        simpa [stepOk, stepTo, e, hi, hq, upd] using this

theorem did_c (g : Nat → Int) (k key tk n : Int) (w : World) (h0 : opErr k key tk n = 0) (hv : valsOk g = true) :
    Calls Try.prog 31 #[arrV g, opV k key tk n] w fun e w' => e = .returned (.tuple #[arrV (if stepOk k g key tk n then stepTo k g key tk n else g), .int .i64 (if stepOk k g key tk n then stepTo k g key tk n key.toNat else -1)]) ∧ Keeps w w' := by
  obtain ⟨⟨hk0, hk3⟩, hk⟩ := op_right h0
  rcases hk with ⟨rfl, _, hn0, hn1⟩ | ⟨rfl, _, hn0, hn1⟩ | ⟨rfl, ⟨ht0, ht3⟩, hn0, hn1⟩ | ⟨rfl, _, hn⟩
  · have := did_set g key tk n w hk0 hk3 (by simp [inB]; exact ⟨hn0, hn1⟩) hv
    simpa [stepOk, stepTo, upd] using this
  · have := did_add g key tk n w hk0 hk3 hn0 hn1 hv
    have e : upd g key.toNat (g key.toNat + n) key.toNat = g key.toNat + n := by simp [upd]
    simpa [stepOk, stepTo, e] using this
  · exact did_move g key tk n w hk0 hk3 ht0 ht3 hn0 hn1 hv
  · have := did_get g key tk n w hk0 hk3 hv
    simpa [stepOk, stepTo] using this
end Go.Proofs.Yteabfjpajgakiaa
