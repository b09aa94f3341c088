/- Contracts of package op: inBounds, Check. -/
import Derived.Test.YteabfjpajgakiaaOpA
namespace Go.Proofs.Yteabfjpajgakiaa
open Go.RowKit

def stepOf (k : Int) : Value := if k == 1 then .func (.func 51) #[] #[] else if k == 2 then .func (.func 52) #[] #[] else if k == 3 then .func (.func 54) #[] #[] else if k == 4 then .func (.func 55) #[] #[] else .nilFunc

theorem look_run (w : World) (r : Nat) (k : Int) (hb : w.heap[r]? = some stepsMap) : (Instr.lookup 49 (.map (some r)) (.int .i64 k) false).run Try.prog w = .ok (stepOf k) w := by
  unfold stepsMap at hb
  have h2 := run_getObj_map (P := Try.prog) w r _ _ hb
  have h3 := ck_run false 9999 k w
  have hz : (zeroValue 48).run Try.prog w = .ok .nilFunc w := by kernel_rfl
  unfold Instr.lookup stepOf
  by_cases e1 : k = 1
  · subst e1
    have h4 := fk_run 1 [⟨.int .i64 1, .func (.func 51) #[] #[], 0⟩, ⟨.int .i64 2, .func (.func 52) #[] #[], 1⟩, ⟨.int .i64 3, .func (.func 54) #[] #[], 2⟩, ⟨.int .i64 4, .func (.func 55) #[] #[], 3⟩] _ w rfl
    simp [run_underlying Try.underlying49, h2, h3, h4]
  by_cases e2 : k = 2
  · subst e2
    have h4 := fk_run 2 [⟨.int .i64 1, .func (.func 51) #[] #[], 0⟩, ⟨.int .i64 2, .func (.func 52) #[] #[], 1⟩, ⟨.int .i64 3, .func (.func 54) #[] #[], 2⟩, ⟨.int .i64 4, .func (.func 55) #[] #[], 3⟩] _ w rfl
    simp [run_underlying Try.underlying49, h2, h3, h4]
  by_cases e3 : k = 3
  · subst e3
    have h4 := fk_run 3 [⟨.int .i64 1, .func (.func 51) #[] #[], 0⟩, ⟨.int .i64 2, .func (.func 52) #[] #[], 1⟩, ⟨.int .i64 3, .func (.func 54) #[] #[], 2⟩, ⟨.int .i64 4, .func (.func 55) #[] #[], 3⟩] _ w rfl
    simp [run_underlying Try.underlying49, h2, h3, h4]
  by_cases e4 : k = 4
  · subst e4
    have h4 := fk_run 4 [⟨.int .i64 1, .func (.func 51) #[] #[], 0⟩, ⟨.int .i64 2, .func (.func 52) #[] #[], 1⟩, ⟨.int .i64 3, .func (.func 54) #[] #[], 2⟩, ⟨.int .i64 4, .func (.func 55) #[] #[], 3⟩] _ w rfl
    simp [run_underlying Try.underlying49, h2, h3, h4]
  have h4 := fk_run k [⟨.int .i64 1, .func (.func 51) #[] #[], 0⟩, ⟨.int .i64 2, .func (.func 52) #[] #[], 1⟩, ⟨.int .i64 3, .func (.func 54) #[] #[], 2⟩, ⟨.int .i64 4, .func (.func 55) #[] #[], 3⟩] none w (by simp only [Instr.findNow, Instr.sameNow, if_true, beq_eq_false_iff_ne.2 e1, beq_eq_false_iff_ne.2 e2, beq_eq_false_iff_ne.2 e3, beq_eq_false_iff_ne.2 e4])
  simp [run_underlying Try.underlying49, h2, h3, h4, hz, e1, e2, e3, e4]

def opIn (k key tk n : Int) : Bool :=
  inB key 0 3 && (!(k == 3) || inB tk 0 3) && (if k == 2 then inB n (-999) 999 else !(k != 4) || inB n 0 999)

theorem in_bounds (k key tk n : Int) (w : World) :
    Calls Try.prog 32 #[opV k key tk n] w fun e w' => e = .returned (.bool (opIn k key tk n)) ∧ Keeps w w' := by
  unfold opV
  go_enter Try.func32, Try.ntmps32
  go_wp2_with (first | (go_at_call 48; refine (bound_in _ _ _ _).mono ?_; rintro e w' ⟨rfl, rfl⟩) | (go_at_call 56; refine (is_key _ _).mono ?_; rintro e w' ⟨rfl, rfl⟩) | (go_at_call 28; refine (is_val _ _).mono ?_; rintro e w' ⟨rfl, rfl⟩) | (go_at_call 33; refine (has_to _ _ _ _ _).mono ?_; rintro e w' ⟨rfl, rfl⟩) | (go_at_call 34; refine (has_n _ _ _ _ _).mono ?_; rintro e w' ⟨rfl, rfl⟩))
  all_goals go_ret
  all_goals refine ⟨?_, by repeat (first | exact Keeps.refl _ | refine Keeps.alloc ?_ _ | refine Keeps.drew ?_)⟩
  all_goals (go_tidy; simp_all [opIn])

theorem heap_at (w : World) (o : Obj) : (w.alloc o).heap[w.heap.size]? = some o := by simp only [World.alloc, Array.getElem?_push_size]

def opErr (k key tk n : Int) : Int :=
  if !(k == 1 || k == 2 || k == 3 || k == 4) then 4 else if !opIn k key tk n then 3 else if (!(k == 3) && tk != 0) || (!(k != 4) && n != 0) then 1 else 0


theorem eql_nil (w : World) : (binOp .eql 48 .nilFunc .nilFunc).run Try.prog w = .ok (.bool true) w := by kernel_rfl
theorem eql_fn (f : Nat) (w : World) : (binOp .eql 48 (.func (.func f) #[] #[]) .nilFunc).run Try.prog w = .ok (.bool false) w := by kernel_rfl
theorem look_two (w : World) (o : Obj) (k : Int) : (Instr.lookup 49 (.map (some (w.heap.size + 1))) (.int .i64 k) false).run Try.prog ((w.alloc o).alloc stepsMap).drew = .ok (stepOf k) ((w.alloc o).alloc stepsMap).drew :=
  look_run _ _ _ (by have := heap_at (w.alloc o) stepsMap; rw [World.size_alloc] at this; exact this)

theorem op_check_bad (k key tk n : Int) (w : World) (h1 : (k == 1) = false) (h2 : (k == 2) = false) (h3 : (k == 3) = false) (h4 : (k == 4) = false) :
    Calls Try.prog 12 #[opV k key tk n] w fun e w' => e = .returned (.int .i64 (opErr k key tk n)) ∧ Keeps w w' := by
  have hl := fun o => look_two w o k
  have hn := eql_nil
  have hs : stepOf k = .nilFunc := by simp only [stepOf, h1, h2, h3, h4, Bool.false_eq_true, if_false]
  unfold opV
  go_enter Try.func12, Try.ntmps12
  go_wp2_with fail
  go_region_with (go_at_call 29; refine (steps_c _).mono ?_; rintro e w' ⟨rfl, rfl⟩)
  all_goals go_wp2_with fail
  all_goals go_ret
  all_goals refine ⟨?_, by repeat (first | exact Keeps.refl _ | refine Keeps.alloc ?_ _ | refine Keeps.drew ?_)⟩
  all_goals (go_tidy; simp_all [opErr])

theorem op_check_good (k key tk n : Int) (f : Nat) (w : World) (hs : stepOf k = .func (.func f) #[] #[]) (hk : (k == 1 || k == 2 || k == 3 || k == 4) = true) :
    Calls Try.prog 12 #[opV k key tk n] w fun e w' => e = .returned (.int .i64 (opErr k key tk n)) ∧ Keeps w w' := by
  have hl := fun o => look_two w o k
  have hn := eql_fn f
  unfold opV
  go_enter Try.func12, Try.ntmps12
  go_wp2_with fail
  go_region_with (go_at_call 29; refine (steps_c _).mono ?_; rintro e w' ⟨rfl, rfl⟩)
  all_goals go_wp2_with fail
  all_goals
    refine (in_bounds k key tk n _).mono ?_
    rintro e w1 ⟨rfl, hb⟩
    have hk1 : Keeps w w1 := (((Keeps.refl _).alloc _).alloc _).drew.trans hb
    obtain ⟨hc, hf⟩ := hb.cells
    have hz := hb.size
    simp only [World.size_drew, World.size_alloc] at hc hf hz
    clear hf
    have hz1 : w.heap.size < w1.heap.size := by omega
    go_wp2_with (first | (go_at_call 33; refine (has_to _ _ _ _ _).mono ?_; rintro e w' ⟨rfl, rfl⟩) | (go_at_call 34; refine (has_n _ _ _ _ _).mono ?_; rintro e w' ⟨rfl, rfl⟩))
    all_goals go_ret
    all_goals refine ⟨?_, by repeat (first | exact hk1 | refine Keeps.alloc ?_ _ | refine Keeps.drew ?_)⟩
    all_goals (go_tidy; clear hb; simp_all [opErr])
    all_goals omega

theorem op_check (k key tk n : Int) (w : World) :
    Calls Try.prog 12 #[opV k key tk n] w fun e w' => e = .returned (.int .i64 (opErr k key tk n)) ∧ Keeps w w' := by
  cases h1 : (k == 1) with
  | true => exact op_check_good k key tk n 51 w (by simp [stepOf, h1]) (by simp [h1])
  | false =>
    cases h2 : (k == 2) with
    | true => exact op_check_good k key tk n 52 w (by simp [stepOf, h1, h2]) (by simp [h2])
    | false =>
      cases h3 : (k == 3) with
      | true => exact op_check_good k key tk n 54 w (by simp [stepOf, h1, h2, h3]) (by simp [h3])
      | false =>
        cases h4 : (k == 4) with
        | true => exact op_check_good k key tk n 55 w (by simp [stepOf, h1, h2, h3, h4]) (by simp [h4])
        | false => exact op_check_bad k key tk n w h1 h2 h3 h4
end Go.Proofs.Yteabfjpajgakiaa
