/- Contracts of the reference's functions on ops. -/
import Derived.Test.YteabfjpajgakiaaOpD
import Derived.Test.YteabfjpajgakiaaRefW
namespace Go.Proofs.Yteabfjpajgakiaa
open Go.RowKit

theorem vals_fine (g : Nat → Int) (w : World) :
    Calls Try.prog 30 #[arrV g] w fun e w' => e = .returned (.bool (valsOk g)) ∧ Keeps w w' := by
  go_enter Try.func30, Try.ntmps30
  go_wp2_with fail
  refine wp_loop_rounds 5 ?_
  rw [rounds_succ]
  go_wp2_with (first | (go_at_call 35; refine (within_c _ _ _ _).mono ?_; rintro e w' ⟨rfl, rfl⟩) | rw [rounds_succ])
  all_goals go_ret
  all_goals refine ⟨?_, (Keeps.refl _).alloc _⟩
  all_goals (go_tidy; simp_all [valsOk])

theorem op_error_one (k key tk n : Int) (w : World) (hk : k = 1 ∨ k = 2 ∨ k = 3 ∨ k = 4) :
    Calls Try.prog 13 #[opV k key tk n] w fun e w' => e = .returned (.int .i64 (opErr k key tk n)) ∧ Keeps w w' := by
  rcases hk with rfl | rfl | rfl | rfl
  all_goals
    go_enter Try.func13, Try.ntmps13
    go_wp2_with (go_at_call 35; refine (within_c _ _ _ _).mono ?_; rintro e w' ⟨rfl, rfl⟩)
    all_goals go_ret
    all_goals refine ⟨?_, (Keeps.refl _).alloc _⟩
    all_goals (go_tidy; simp_all [opErr, opIn])

theorem op_error_bad (k key tk n : Int) (w : World) (h1 : (k == 1) = false) (h2 : (k == 2) = false) (h3 : (k == 3) = false) (h4 : (k == 4) = false) :
    Calls Try.prog 13 #[opV k key tk n] w fun e w' => e = .returned (.int .i64 (opErr k key tk n)) ∧ Keeps w w' := by
  have hi : inB k 1 4 = false := by
    simp only [beq_eq_false_iff_ne] at h1 h2 h3 h4
    simp only [inB, Bool.and_eq_false_iff, decide_eq_false_iff_not]; omega
  go_enter Try.func13, Try.ntmps13
  go_wp2_with (go_at_call 35; refine (within_c _ _ _ _).mono ?_; rintro e w' ⟨rfl, rfl⟩)
  go_ret
  refine ⟨?_, (Keeps.refl _).alloc _⟩
  go_tidy; simp_all [opErr]

theorem op_error (k key tk n : Int) (w : World) :
    Calls Try.prog 13 #[opV k key tk n] w fun e w' => e = .returned (.int .i64 (opErr k key tk n)) ∧ Keeps w w' := by
  by_cases h : k = 1 ∨ k = 2 ∨ k = 3 ∨ k = 4
  · exact op_error_one k key tk n w h
  · exact op_error_bad k key tk n w (by simp; omega) (by simp; omega) (by simp; omega) (by simp; omega)

abbrev ar4 (a b c d : Int) : Value := .agg #[.int .i64 a, .int .i64 b, .int .i64 c, .int .i64 d]
def g4 (a b c d : Int) : Nat → Int := fun i => if i = 0 then a else if i = 1 then b else if i = 2 then c else d
def ok4 (a b c d : Int) : Bool := inB a 0 999 && inB b 0 999 && inB c 0 999 && inB d 0 999
theorem fine4 (a b c d : Int) (w : World) : Calls Try.prog 30 #[ar4 a b c d] w fun e w' => e = .returned (.bool (ok4 a b c d)) ∧ Keeps w w' := vals_fine (g4 a b c d) w

def stepOk (k : Int) (g : Nat → Int) (key tk n : Int) : Bool :=
  if k == 2 then inB (g key.toNat + n) 0 999 else if k == 3 then inB (g key.toNat + -n) 0 999 && inB (upd g key.toNat (g key.toNat + -n) tk.toNat + n) 0 999 else true
def stepTo (k : Int) (g : Nat → Int) (key tk n : Int) : Nat → Int :=
  if k == 1 then upd g key.toNat n else if k == 2 then upd g key.toNat (g key.toNat + n) else if k == 3 then upd (upd g key.toNat (g key.toNat + -n)) tk.toNat (upd g key.toNat (g key.toNat + -n) tk.toNat + n) else g

end Go.Proofs.Yteabfjpajgakiaa
