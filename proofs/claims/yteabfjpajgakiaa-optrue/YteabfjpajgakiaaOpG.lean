/- opBegun, OpTells. -/
import Derived.Test.YteabfjpajgakiaaOpF2
import Derived.Test.YteabfjpajgakiaaEq
set_option linter.unusedSimpArgs false
set_option linter.unusedVariables false
namespace Go.Proofs.Yteabfjpajgakiaa
open Go.RowKit

theorem do_ex0 (w : World) : Calls Try.prog 9 #[ar4 5 0 998 0, opV 3 0 1 3] w fun e w' => e = .returned (.tuple #[ar4 2 3 998 0, .int .i64 2, .int .i64 0]) ∧ Keeps w w' := by
  have h := op_do (g4 5 0 998 0) 3 0 1 3 w
  rw [show DoSays (g4 5 0 998 0) 3 0 1 3 = .tuple #[ar4 2 3 998 0, .int .i64 2, .int .i64 0] from by kernel_rfl] at h
  exact h
theorem do_ex1 (w : World) : Calls Try.prog 9 #[ar4 5 0 998 0, opV 3 0 2 3] w fun e w' => e = .returned (.tuple #[ar4 5 0 998 0, .int .i64 (-1), .int .i64 0]) ∧ Keeps w w' := by
  have h := op_do (g4 5 0 998 0) 3 0 2 3 w
  rw [show DoSays (g4 5 0 998 0) 3 0 2 3 = .tuple #[ar4 5 0 998 0, .int .i64 (-1), .int .i64 0] from by kernel_rfl] at h
  exact h
theorem do_ex2 (w : World) : Calls Try.prog 9 #[ar4 5 0 998 0, opV 3 0 0 6] w fun e w' => e = .returned (.tuple #[ar4 5 0 998 0, .int .i64 (-1), .int .i64 0]) ∧ Keeps w w' := by
  have h := op_do (g4 5 0 998 0) 3 0 0 6 w
  rw [show DoSays (g4 5 0 998 0) 3 0 0 6 = .tuple #[ar4 5 0 998 0, .int .i64 (-1), .int .i64 0] from by kernel_rfl] at h
  exact h
theorem do_ex3 (w : World) : Calls Try.prog 9 #[ar4 5 0 998 0, opV 2 2 0 1] w fun e w' => e = .returned (.tuple #[ar4 5 0 999 0, .int .i64 999, .int .i64 0]) ∧ Keeps w w' := by
  have h := op_do (g4 5 0 998 0) 2 2 0 1 w
  rw [show DoSays (g4 5 0 998 0) 2 2 0 1 = .tuple #[ar4 5 0 999 0, .int .i64 999, .int .i64 0] from by kernel_rfl] at h
  exact h
theorem do_ex4 (w : World) : Calls Try.prog 9 #[ar4 1000 0 0 0, opV 4 0 0 0] w fun e w' => e = .returned (.tuple #[ar4 0 0 0 0, .int .i64 0, .int .i64 3]) ∧ Keeps w w' := by
  have h := op_do (g4 1000 0 0 0) 4 0 0 0 w
  rw [show DoSays (g4 1000 0 0 0) 4 0 0 0 = .tuple #[ar4 0 0 0 0, .int .i64 0, .int .i64 3] from by kernel_rfl] at h
  exact h
theorem ck_ex0 (w : World) : Calls Try.prog 12 #[opV 0 0 0 0] w fun e w' => e = .returned (.int .i64 4) ∧ Keeps w w' := by
  have h := op_check 0 0 0 0 w
  rw [show opErr 0 0 0 0 = 4 from by decide +kernel] at h
  exact h
theorem ck_ex1 (w : World) : Calls Try.prog 12 #[opV 4 0 0 1] w fun e w' => e = .returned (.int .i64 1) ∧ Keeps w w' := by
  have h := op_check 4 0 0 1 w
  rw [show opErr 4 0 0 1 = 1 from by decide +kernel] at h
  exact h
theorem ck_ex2 (w : World) : Calls Try.prog 12 #[opV 1 0 0 (-1)] w fun e w' => e = .returned (.int .i64 3) ∧ Keeps w w' := by
  have h := op_check 1 0 0 (-1) w
  rw [show opErr 1 0 0 (-1) = 3 from by decide +kernel] at h
  exact h
theorem ck_ex3 (w : World) : Calls Try.prog 12 #[opV 2 4 0 0] w fun e w' => e = .returned (.int .i64 3) ∧ Keeps w w' := by
  have h := op_check 2 4 0 0 w
  rw [show opErr 2 4 0 0 = 3 from by decide +kernel] at h
  exact h

/-- Block b holds these four. -/
def Blk (b : Nat) (c0 c1 c2 c3 : Int) (w : World) : Prop :=
  w.cell? ⟨b, 0, none⟩ = some (.int .i64 c0) ∧ w.cell? ⟨b, 1, none⟩ = some (.int .i64 c1) ∧ w.cell? ⟨b, 2, none⟩ = some (.int .i64 c2) ∧ w.cell? ⟨b, 3, none⟩ = some (.int .i64 c3) ∧ b < w.heap.size
theorem Blk.new (c0 c1 c2 c3 : Int) (t : TypeId) (w : World) : Blk w.heap.size c0 c1 c2 c3 (w.alloc (.cells #[.int .i64 c0, .int .i64 c1, .int .i64 c2, .int .i64 c3] t)) := by
  refine ⟨?_, ?_, ?_, ?_, ?_⟩ <;> simp
theorem Blk.below {b : Nat} {c0 c1 c2 c3 : Int} {w w' : World} (h : Blk b c0 c1 c2 c3 w) (hk : Keeps w w') : Blk b c0 c1 c2 c3 w' := by
  obtain ⟨h0, h1, h2, h3, hb⟩ := h
  have hc : ∀ i, w'.cell? ⟨b, i, none⟩ = w.cell? ⟨b, i, none⟩ := fun i => Below.cell hk (p := ⟨b, i, none⟩) hb
  exact ⟨(hc 0).trans h0, (hc 1).trans h1, (hc 2).trans h2, (hc 3).trans h3, Nat.lt_of_lt_of_le hb hk.size⟩

set_option maxHeartbeats 4000000 in
theorem op_begun (w : World) : Calls Try.prog 11 #[] w fun e w' => e = .returned (.bool true) ∧ Keeps w w' := by
  go_enter Try.func11, Try.ntmps11
  go_wp2_with fail
  refine (do_ex0 _).mono ?_
  rintro e w1 ⟨rfl, hb⟩
  have hk1 : Keeps w w1 := ((Keeps.refl _).alloc _).trans hb
  have V1 := (Blk.new 5 0 998 0 22 w).below hb
  clear hb
  obtain ⟨v0, v1, v2, v3, hv⟩ := id V1
  go_wp2_with fail
  clear v0 v1 v2 v3 hv
  refine (do_ex1 _).mono ?_
  rintro e w2 ⟨rfl, hb⟩
  have hk2 : Keeps w w2 := (hk1.alloc _).trans hb
  have A2 := (Blk.new 2 3 998 0 22 w1).below hb
  have V2 := (V1.below ((Keeps.refl _).alloc _)).below hb
  clear hb V1
  obtain ⟨v0, v1, v2, v3, hv⟩ := id V2
  go_wp2_with fail
  clear v0 v1 v2 v3 hv
  refine (do_ex2 _).mono ?_
  rintro e w3 ⟨rfl, hb⟩
  have hk3 : Keeps w w3 := (hk2.alloc _).trans hb
  have B3 := (Blk.new 5 0 998 0 22 w2).below hb
  have A3 := (A2.below ((Keeps.refl _).alloc _)).below hb
  have V3 := (V2.below ((Keeps.refl _).alloc _)).below hb
  clear hb V2 A2
  obtain ⟨v0, v1, v2, v3, hv⟩ := id V3
  go_wp2_with fail
  clear v0 v1 v2 v3 hv
  refine (do_ex3 _).mono ?_
  rintro e w4 ⟨rfl, hb⟩
  have hk4 : Keeps w w4 := (hk3.alloc _).trans hb
  have B4 := (B3.below ((Keeps.refl _).alloc _)).below hb
  have A4 := (A3.below ((Keeps.refl _).alloc _)).below hb
  have V4 := (V3.below ((Keeps.refl _).alloc _)).below hb
  clear hb V3 A3 B3
  go_wp2_with fail
  refine (do_ex4 _).mono ?_
  rintro e w5 ⟨rfl, hb⟩
  have hk5 : Keeps w w5 := (hk4.alloc _).trans hb
  have B5 := (B4.below ((Keeps.refl _).alloc _)).below hb
  have A5 := (A4.below ((Keeps.refl _).alloc _)).below hb
  have V5 := (V4.below ((Keeps.refl _).alloc _)).below hb
  clear hb V4 A4 B4
  obtain ⟨v0, v1, v2, v3, hv⟩ := V5
  obtain ⟨a0, a1, a2, a3, ha⟩ := A5
  obtain ⟨b0, b1, b2, b3, hb⟩ := B5
  have he := eql22
  go_wp2_with fail
  refine (ck_ex0 _).mono ?_
  rintro e w6 ⟨rfl, hb⟩
  have hk6 : Keeps w w6 := (hk5.alloc _).trans hb
  clear hb
  go_wp2_with fail
  refine (ck_ex1 _).mono ?_
  rintro e w7 ⟨rfl, hb⟩
  have hk7 : Keeps w w7 := hk6.trans hb
  clear hb
  go_wp2_with fail
  refine (ck_ex2 _).mono ?_
  rintro e w8 ⟨rfl, hb⟩
  have hk8 : Keeps w w8 := hk7.trans hb
  clear hb
  go_wp2_with fail
  refine (ck_ex3 _).mono ?_
  rintro e w9 ⟨rfl, hb⟩
  have hk9 : Keeps w w9 := hk8.trans hb
  clear hb
  go_wp2_with fail
  go_ret
  exact ⟨rfl, hk9⟩
end Go.Proofs.Yteabfjpajgakiaa
