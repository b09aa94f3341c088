/- Leaf contracts of package op. -/
import Derived.Test.YteabfjpajgakiaaBndA
namespace Go.Proofs.Yteabfjpajgakiaa
open Go.RowKit

abbrev opV (k key tk n : Int) : Value := .agg #[.int .i64 k, .int .i64 key, .int .i64 tk, .int .i64 n]
theorem is_val (n : Int) (w : World) :
    Calls Try.prog 28 #[.int .i64 n] w fun e w' => e = .returned (.bool (inB n 0 999)) ∧ w = w' := by
  go_enter Try.func28, Try.ntmps28
  go_wp2_with (go_at_call 48; refine (bound_in _ _ _ _).mono ?_; rintro e w' ⟨rfl, rfl⟩)
  go_ret
  exact ⟨rfl, rfl⟩

theorem is_key (n : Int) (w : World) :
    Calls Try.prog 56 #[.int .i64 n] w fun e w' => e = .returned (.bool (inB n 0 3)) ∧ w = w' := by
  go_enter Try.func56, Try.ntmps56
  go_wp2_with (go_at_call 48; refine (bound_in _ _ _ _).mono ?_; rintro e w' ⟨rfl, rfl⟩)
  go_ret
  exact ⟨rfl, rfl⟩

theorem has_to (k key tk n : Int) (w : World) :
    Calls Try.prog 33 #[opV k key tk n] w fun e w' => e = .returned (.bool (k == 3)) ∧ w' = w.alloc (.cells #[.int .i64 k, .int .i64 key, .int .i64 tk, .int .i64 n] 24) := by
  unfold opV
  go_enter Try.func33, Try.ntmps33
  go_wp2
  go_ret
  exact ⟨rfl, rfl⟩

theorem has_n (k key tk n : Int) (w : World) :
    Calls Try.prog 34 #[opV k key tk n] w fun e w' => e = .returned (.bool (k != 4)) ∧ w' = w.alloc (.cells #[.int .i64 k, .int .i64 key, .int .i64 tk, .int .i64 n] 24) := by
  unfold opV
  go_enter Try.func34, Try.ntmps34
  go_wp2
  go_ret
  exact ⟨rfl, rfl⟩

def stepsMap : Obj := .map #[⟨.int .i64 1, .func (.func 51) #[] #[], 0⟩, ⟨.int .i64 2, .func (.func 52) #[] #[], 1⟩, ⟨.int .i64 3, .func (.func 54) #[] #[], 2⟩, ⟨.int .i64 4, .func (.func 55) #[] #[], 3⟩] 4


theorem ck_run (em : Bool) (n : Nat) (c : Int) (w : World) : (Instr.checkKey em (n + 1) 3 (.int .i64 c)).run Try.prog w = .ok () w := by
  simp [Instr.checkKey, run_underlying Try.underlying3]

theorem fk_run (c : Int) (es : List MapEntry) (r : Option (Nat × Value)) (w : World) (hf : Instr.findNow (.int .i64) (.int .i64 c) es 0 = some r) :
    (Instr.findKey 3 (.int .i64 c) es).run Try.prog w = .ok r w := by
  simp [Instr.findKey, run_underlying Try.underlying3, hf]

theorem set_run (w : World) (a b : Obj) (ha : (match a with | .cells .. => true | _ => false) = false) : (setObj w.heap.size b).run Try.prog (w.alloc a) = .ok () (w.alloc b) := by
  simp only [setObj, Sem.run]
  have h1 : (w.alloc a).heap[w.heap.size]? = some a := by simp only [World.alloc, Array.getElem?_push_size]
  rw [h1]
  cases a <;> first | (simp at ha; done) | (simp only [World.alloc, Array.setIfInBounds_push_size] ; done) | skip
  all_goals (simp only [World.alloc]; congr 2; simp [Array.setIfInBounds, Array.set_push]; done)

theorem ins_run (w : World) (es : Array MapEntry) (cl : Nat) (c : Int) (v : Value) (hf : Instr.findNow (.int .i64) (.int .i64 c) es.toList 0 = some none) :
    (Instr.mapUpdate 49 (.map (some w.heap.size)) (.int .i64 c) v).run Try.prog (w.alloc (.map es cl)) = .ok () (w.alloc (.map (es.push ⟨.int .i64 c, v, cl⟩) (cl + 1))) := by
  have h1 : (w.alloc (.map es cl)).heap[w.heap.size]? = some (.map es cl) := by simp only [World.alloc, Array.getElem?_push_size]
  have h2 := run_getObj_map (P := Try.prog) (w.alloc (.map es cl)) w.heap.size es cl h1
  have h3 := ck_run false 9999 c (w.alloc (.map es cl))
  have h4 := fk_run c es.toList none (w.alloc (.map es cl)) hf
  have h5 := set_run w (.map es cl) (.map (es.push ⟨.int .i64 c, v, cl⟩) (cl + 1)) rfl
  unfold Instr.mapUpdate
  simp [run_underlying Try.underlying49, h2, h3, h4, h5]

theorem steps_c (w : World) : Calls Try.prog 29 #[] w fun e w' => e = .returned (.map (some w.heap.size)) ∧ w' = w.alloc stepsMap := by
  have hmm := @run_makeMap Try.prog
  have i1 := ins_run w #[] 0 1 (.func (.func 51) #[] #[]) rfl
  have i2 := ins_run w #[⟨.int .i64 1, .func (.func 51) #[] #[], 0⟩] 1 2 (.func (.func 52) #[] #[]) rfl
  have i3 := ins_run w #[⟨.int .i64 1, .func (.func 51) #[] #[], 0⟩, ⟨.int .i64 2, .func (.func 52) #[] #[], 1⟩] 2 3 (.func (.func 54) #[] #[]) rfl
  have i4 := ins_run w #[⟨.int .i64 1, .func (.func 51) #[] #[], 0⟩, ⟨.int .i64 2, .func (.func 52) #[] #[], 1⟩, ⟨.int .i64 3, .func (.func 54) #[] #[], 2⟩] 3 4 (.func (.func 55) #[] #[]) rfl
  go_enter Try.func29, Try.ntmps29
  go_wp2
  go_ret
  exact ⟨rfl, rfl⟩
end Go.Proofs.Yteabfjpajgakiaa
