/- OpTells. -/
import Derived.Test.YteabfjpajgakiaaOpG
import Derived.Test.YteabfjpajgakiaaAft
set_option linter.unusedSimpArgs false
set_option linter.unusedVariables false
namespace Go.Proofs.Yteabfjpajgakiaa
open Go.RowKit

theorem Arr.lt {b : Nat} {g : Nat → Int} {w : World} (h : Arr b g w) : b < w.heap.size := World.block_lt_of_cell? _ _ h.1

set_option maxHeartbeats 4000000 in
theorem op_tells (g : Nat → Int) (k key tk n : Int) (w : World) :
    Calls Try.prog 3 #[arrV g, opV k key tk n] w fun e w' => e = .returned (.bool true) ∧ Keeps w w' := by
  have hd1 := op_do g k key tk n
  have hd2 := do_of g k key tk n
  unfold DoSays at hd1 hd2
  generalize doVals g k key tk n = r at hd1 hd2
  generalize doAns g k key tk n = m at hd1 hd2
  generalize doErr g k key tk n = f at hd1 hd2
  have H1 : Hid (∀ (w : World), Calls Try.prog 9 #[arrV g, opV k key tk n] w fun e w' => e = .returned (.tuple #[arrV r, .int .i64 m, .int .i64 f]) ∧ Keeps w w') := hd1
  have H2 : Hid (∀ (w : World), Calls Try.prog 10 #[arrV g, opV k key tk n] w fun e w' => e = .returned (.tuple #[arrV r, .int .i64 m, .int .i64 f]) ∧ Keeps w w') := hd2
  clear hd1 hd2
  go_enter Try.func3, Try.ntmps3
  go_wp2_with fail
  refine (H1.out _).mono ?_
  rintro e w1 ⟨rfl, hb⟩
  have hk1 : Keeps w w1 := (((Keeps.refl _).alloc _).alloc _).trans hb
  have V1 := ((arr_new g w).below ((Keeps.refl _).alloc _)).below hb
  have X1 := (Blk.new k key tk n 24 (w.alloc (.cells #[.int .i64 (g 0), .int .i64 (g 1), .int .i64 (g 2), .int .i64 (g 3)] 22))).below hb
  rw [World.size_alloc] at X1
  clear hb
  have hv1 := V1.lt
  obtain ⟨v0, v1, v2, v3, vf⟩ := id V1
  obtain ⟨x0, x1, x2, x3, xb⟩ := id X1
  go_wp2_with fail
  clear v0 v1 v2 v3 vf x0 x1 x2 x3 xb hv1
  refine (H2.out _).mono ?_
  rintro e w2 ⟨rfl, hb⟩
  have hk2 : Keeps w w2 := (hk1.alloc _).trans hb
  have A2 := (arr_new r w1).below hb
  have X2 := (X1.below ((Keeps.refl _).alloc _)).below hb
  clear hb X1 V1
  have ha2 := A2.lt
  go_wp2_with fail
  have B2 := arr_new r w2
  have he := eql22
  have hne := After.some (w2.alloc (.cells #[.int .i64 (r 0), .int .i64 (r 1), .int .i64 (r 2), .int .i64 (r 3)] 22))
  have X3 := fun s : After (w2.alloc (.cells #[.int .i64 (r 0), .int .i64 (r 1), .int .i64 (r 2), .int .i64 (r 3)] 22)) => (X2.below ((Keeps.refl _).alloc _)).below s.h
  have A3 := fun s : After (w2.alloc (.cells #[.int .i64 (r 0), .int .i64 (r 1), .int .i64 (r 2), .int .i64 (r 3)] 22)) => (A2.below ((Keeps.refl _).alloc _)).below s.h
  have B3 := fun s : After (w2.alloc (.cells #[.int .i64 (r 0), .int .i64 (r 1), .int .i64 (r 2), .int .i64 (r 3)] 22)) => B2.below s.h
  have x0 := fun s => (X3 s).1
  have x1 := fun s => (X3 s).2.1
  have x2 := fun s => (X3 s).2.2.1
  have x3 := fun s => (X3 s).2.2.2.1
  have a0 := fun s => (A3 s).1
  have a1 := fun s => (A3 s).2.1
  have a2 := fun s => (A3 s).2.2.1
  have a3 := fun s => (A3 s).2.2.2.1
  have b0 := fun s => (B3 s).1
  have b1 := fun s => (B3 s).2.1
  have b2 := fun s => (B3 s).2.2.1
  have b3 := fun s => (B3 s).2.2.2.1
  clear X3 A3 B3 X2 A2 B2
  refine wp_region_after (by kernel_rfl) (by kernel_rfl) ?_
  repeat (first | go_big_quiet_skip | (go_big_quiet_want; go_big_quiet_op; first | go_big_quiet_on | (apply Exists.intro; refine ⟨fun _ => ?_, ?_⟩; (first | (go_at_call 11; exact calls_after (op_begun _)) | (go_at_call 12; exact calls_after (op_check _ _ _ _ _)) | (go_at_call 13; exact calls_after (op_error _ _ _ _ _))); go_big_quiet_on)))
  refine wpQuiet_nil ?_
  rintro _ ⟨s, rfl⟩
  go_wp2_with fail
  go_ret
  exact ⟨rfl, (hk2.alloc _).trans s.h⟩
end Go.Proofs.Yteabfjpajgakiaa
