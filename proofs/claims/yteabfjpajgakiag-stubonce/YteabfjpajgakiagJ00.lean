/- Base, Frame, OpenInt, BndA, OpA, OpB, Eq, SesA, ApA, OpenEnt, Aft, RefW. -/
import Derived.Test.YteabfjpajgakiagChecked
import Derived.WalkKit
import Derived.WalkLawsBesides
import Derived.Deep.QuietTactic
import Derived.BigQuiet
import Derived.Deep.RegionWith
import Derived.Test.YteabfjpajgakiagRows
import Derived.ProofKit
import Derived.OpenShut
import Derived.Carry
import Derived.Lib.SmallJoins
/- The frame of all contracts. -/
namespace Go.Proofs.Yteabfjpajgakiag
open Go.RowKit

/-- What was there when the call began is as it was. -/
def Keeps (a w : World) : Prop := Below a.heap.size a w
theorem Keeps.refl (a : World) : Keeps a a := Below.refl _ _
theorem Keeps.alloc {a w : World} (h : Keeps a w) (o : Obj) : Keeps a (w.alloc o) := Below.alloc h (Below.size h) o
theorem Keeps.drew {a w : World} (h : Keeps a w) : Keeps a w.drew := Below.drew h
theorem Keeps.trans {a b c : World} (h : Keeps a b) (k : Keeps b c) : Keeps a c := Below.trans h (Below.mono k (Below.size h))
theorem Keeps.set {a w : World} (h : Keeps a w) {p : Addr} (hp : a.heap.size ≤ p.block) (u : Value) : Keeps a (w.setCell p u) := Below.setCell h hp u
theorem Keeps.size {a w : World} (h : Keeps a w) : a.heap.size ≤ w.heap.size := Below.size h
theorem Keeps.drewN {a w : World} (h : Keeps a w) (n : Nat) : Keeps a (w.drewN n) := by
  exact h.trans ⟨rfl, rfl, rfl, Nat.le_refl _, fun _ _ => rfl⟩
theorem Keeps.cells {W w1 : World} (hb : Keeps W w1) : (∀ b o, b < W.heap.size → w1.cell? ⟨b, o, none⟩ = W.cell? ⟨b, o, none⟩) ∧ (∀ b o, b < W.heap.size → w1.frozen? ⟨b, o, none⟩ = W.frozen? ⟨b, o, none⟩) :=
  ⟨fun b o h => Below.cell hb (p := ⟨b, o, none⟩) h, fun b o h => Below.frozen hb (p := ⟨b, o, none⟩) h⟩
def inB (n lo hi : Int) : Bool := decide (lo ≤ n) && decide (n ≤ hi)

end Go.Proofs.Yteabfjpajgakiag

/- What a law's row asks behind the walk: shared by all laws of the seat. -/
set_option linter.unusedSimpArgs false
set_option linter.unusedVariables false
namespace Go.Proofs.Yteabfjpajgakiag
open Go.ChangeShapes Go.WideShapes Go.ChangeAt Go.RowKit

theorem own : ownKnob Try.prog.godebug = none := by kernel_rfl
theorem laid_out : laidOutB Try.prog = true := by kernel_rfl

section
variable {H : Type} {enc : TypeId × Value → H}

/-- The arguments read behind the call as they read before. -/
theorem all_stay {W W' : World} (hk : Keeps W W') : ∀ (ts : List TypeId) (vs : List Value) (ds : List (DataW H)) (ps : List MemPlace),
    (∀ t ∈ ts, Try.prog.readableRec t = true ∧ t < Try.prog.types.size) → (∀ x ∈ ps, x.block < W.heap.size) →
    DataW.TrodAll enc Try.prog W 0 (fun _ => true) true ts vs ds ps → DataW.TrodAll enc Try.prog W' 0 (fun b => decide (b < W.heap.size)) true ts vs ds ps
  | [], vs, ds, ps, _, _, h => by
    obtain ⟨rfl, rfl, rfl⟩ := trodAll_nil h
    exact trodAll_mk0
  | t :: ts, vs, ds, ps, ht, hp, h => by
    obtain ⟨v, vs', d, ds', p, q, rfl, rfl, rfl, h0, hs⟩ := trodAll_cons h
    have h1 := ht t (List.mem_cons_self ..)
    exact trodAll_cons_mk (Below.trod laid_out h1.1 h1.2 h0 hk (fun x hx => hp x (List.mem_append_left _ hx)))
      (all_stay hk ts vs' ds' q (fun t' h' => ht t' (List.mem_cons_of_mem _ h')) (fun x hx => hp x (List.mem_append_right _ hx)) hs)

/-- Behind a walk that answers true and turns nothing that was there: what the row asks. -/
theorem law_post {f : Func} {s : ChangeSpec} {W W' : World} {args : Array Value} {ds gs : List (DataW H)} {before : List MemPlace}
    (hvars : s.vars = []) (hres : f.resultTypes = #[4]) (hts : ∀ t ∈ f.params.toList, Try.prog.readableRec t = true ∧ t < Try.prog.types.size)
    (hfn : s.fn H (ds ++ gs) = { results := [.lit (.bool true)], args := ds })
    (hW : DataW.Whole enc Try.prog f.params.toList s.vars false W args.toList ds gs before) (hk : Keeps W W') :
    s.post enc Try.prog f false true false false W args (.bool true) W' := by
  have hlt := hW.lt
  have hW' := hW
  obtain ⟨p, q, hA, hV, rfl, _, _⟩ := hW
  rw [hvars] at hV
  obtain ⟨rfl, rfl⟩ := trodVars_none hV
  refine ⟨ds, [], p ++ [], [], p, [], hW', ?_, ?_, ?_, Below.frame hk _, fun h => by cases h⟩
  · rw [hfn, hres]; exact trodAll_cons_mk (shut_bool Try.underlying4 _) trodAll_mk0
  · rw [hfn]; exact all_stay hk _ _ _ _ hts (fun x hx => hlt x (List.mem_append_left _ hx)) hA
  · rw [hfn, hvars]; exact rfl
end
end Go.Proofs.Yteabfjpajgakiag

/- The arguments of a law: an int. -/
set_option linter.unusedSimpArgs false
set_option linter.unusedVariables false
set_option maxRecDepth 100000
namespace Go.Proofs.Yteabfjpajgakiag
open Go.ChangeShapes Go.WideShapes Go.ChangeAt Go.RowKit Go.Joins

section
variable {H : Type} {enc : TypeId × Value → H} {w : World} {base : Nat} {spare : Nat → Bool} {held : Bool}

theorem cells3 : Try.prog.cellsOf 3 = 1 := by kernel_rfl

end

end Go.Proofs.Yteabfjpajgakiag

/- bound.In. -/
namespace Go.Proofs.Yteabfjpajgakiag
open Go.RowKit

theorem bound_in (n lo hi : Int) (w : World) :
    Calls Try.prog 28 #[.int .i64 n, .int .i64 lo, .int .i64 hi] w fun e w' => e = .returned (.bool (inB n lo hi)) ∧ w = w' := by
  by_cases h : lo ≤ n
  · go_enter Try.func28, Try.ntmps28
    go_wp2
    go_ret
    exact ⟨by simp [inB, h], rfl⟩
  · have h' : decide (lo ≤ n) = false := by simpa using h
    go_enter Try.func28, Try.ntmps28
    go_wp2
    go_ret
    exact ⟨by simp only [inB, h', Bool.false_and]; rfl, rfl⟩

end Go.Proofs.Yteabfjpajgakiag

/- Leaf contracts of package op. -/
namespace Go.Proofs.Yteabfjpajgakiag
open Go.RowKit

abbrev opV (k key tk n : Int) : Value := .agg #[.int .i64 k, .int .i64 key, .int .i64 tk, .int .i64 n]
theorem is_val (n : Int) (w : World) :
    Calls Try.prog 76 #[.int .i64 n] w fun e w' => e = .returned (.bool (inB n 0 999)) ∧ w = w' := by
  go_enter Try.func76, Try.ntmps76
  go_wp2_with (go_at_call 28; refine (bound_in _ _ _ _).mono ?_; rintro e w' ⟨rfl, rfl⟩)
  go_ret
  exact ⟨rfl, rfl⟩

theorem is_key (n : Int) (w : World) :
    Calls Try.prog 75 #[.int .i64 n] w fun e w' => e = .returned (.bool (inB n 0 3)) ∧ w = w' := by
  go_enter Try.func75, Try.ntmps75
  go_wp2_with (go_at_call 28; refine (bound_in _ _ _ _).mono ?_; rintro e w' ⟨rfl, rfl⟩)
  go_ret
  exact ⟨rfl, rfl⟩

theorem has_to (k key tk n : Int) (w : World) :
    Calls Try.prog 62 #[opV k key tk n] w fun e w' => e = .returned (.bool (k == 3)) ∧ w' = w.alloc (.cells #[.int .i64 k, .int .i64 key, .int .i64 tk, .int .i64 n] 26) := by
  unfold opV
  go_enter Try.func62, Try.ntmps62
  go_wp2
  go_ret
  exact ⟨rfl, rfl⟩

theorem has_n (k key tk n : Int) (w : World) :
    Calls Try.prog 63 #[opV k key tk n] w fun e w' => e = .returned (.bool (k != 4)) ∧ w' = w.alloc (.cells #[.int .i64 k, .int .i64 key, .int .i64 tk, .int .i64 n] 26) := by
  unfold opV
  go_enter Try.func63, Try.ntmps63
  go_wp2
  go_ret
  exact ⟨rfl, rfl⟩

def stepsMap : Obj := .map #[⟨.int .i64 1, .func (.func 70) #[] #[], 0⟩, ⟨.int .i64 2, .func (.func 71) #[] #[], 1⟩, ⟨.int .i64 3, .func (.func 73) #[] #[], 2⟩, ⟨.int .i64 4, .func (.func 74) #[] #[], 3⟩] 4


theorem ck_run (em : Bool) (n : Nat) (c : Int) (w : World) : (Instr.checkKey em (n + 1) 3 (.int .i64 c)).run Try.prog w = .ok () w := by
  simp [Instr.checkKey, run_underlying Try.underlying3]

theorem fk_run (c : Int) (es : List MapEntry) (r : Option (Nat × Value)) (w : World) (hf : Instr.findNow (.int .i64) (.int .i64 c) es 0 = some r) :
    (Instr.findKey 3 (.int .i64 c) es).run Try.prog w = .ok r w := by
  simp [Instr.findKey, run_underlying Try.underlying3, hf]

theorem set_run (w : World) (a b : Obj) (ha : (match a with | .cells .. => true | _ => false) = false) : (setObj w.heap.size b).run Try.prog (w.alloc a) = .ok () (w.alloc b) := by
  simp only [setObj, Sem.run]
  have h1 : (w.alloc a).heap[w.heap.size]? = some a := by simp only [World.alloc, Array.getElem?_push_size]
  rw [h1]
  cases a <;> first | (simp at ha; done) | (simp only [World.alloc, Array.setIfInBounds_push_size] ; done) | skip
  all_goals (simp only [World.alloc]; congr 2; simp [Array.setIfInBounds, Array.set_push]; done)

theorem ins_run (w : World) (es : Array MapEntry) (cl : Nat) (c : Int) (v : Value) (hf : Instr.findNow (.int .i64) (.int .i64 c) es.toList 0 = some none) :
    (Instr.mapUpdate 98 (.map (some w.heap.size)) (.int .i64 c) v).run Try.prog (w.alloc (.map es cl)) = .ok () (w.alloc (.map (es.push ⟨.int .i64 c, v, cl⟩) (cl + 1))) := by
  have h1 : (w.alloc (.map es cl)).heap[w.heap.size]? = some (.map es cl) := by simp only [World.alloc, Array.getElem?_push_size]
  have h2 := run_getObj_map (P := Try.prog) (w.alloc (.map es cl)) w.heap.size es cl h1
  have h3 := ck_run false 9999 c (w.alloc (.map es cl))
  have h4 := fk_run c es.toList none (w.alloc (.map es cl)) hf
  have h5 := set_run w (.map es cl) (.map (es.push ⟨.int .i64 c, v, cl⟩) (cl + 1)) rfl
  unfold Instr.mapUpdate
  simp [run_underlying Try.underlying98, h2, h3, h4, h5]

theorem steps_c (w : World) : Calls Try.prog 60 #[] w fun e w' => e = .returned (.map (some w.heap.size)) ∧ w' = w.alloc stepsMap := by
  have hmm := @run_makeMap Try.prog
  have i1 := ins_run w #[] 0 1 (.func (.func 70) #[] #[]) rfl
  have i2 := ins_run w #[⟨.int .i64 1, .func (.func 70) #[] #[], 0⟩] 1 2 (.func (.func 71) #[] #[]) rfl
  have i3 := ins_run w #[⟨.int .i64 1, .func (.func 70) #[] #[], 0⟩, ⟨.int .i64 2, .func (.func 71) #[] #[], 1⟩] 2 3 (.func (.func 73) #[] #[]) rfl
  have i4 := ins_run w #[⟨.int .i64 1, .func (.func 70) #[] #[], 0⟩, ⟨.int .i64 2, .func (.func 71) #[] #[], 1⟩, ⟨.int .i64 3, .func (.func 73) #[] #[], 2⟩] 3 4 (.func (.func 74) #[] #[]) rfl
  go_enter Try.func60, Try.ntmps60
  go_wp2
  go_ret
  exact ⟨rfl, rfl⟩
end Go.Proofs.Yteabfjpajgakiag

/- Contracts of package op: inBounds, Check. -/
namespace Go.Proofs.Yteabfjpajgakiag
open Go.RowKit

def stepOf (k : Int) : Value := if k == 1 then .func (.func 70) #[] #[] else if k == 2 then .func (.func 71) #[] #[] else if k == 3 then .func (.func 73) #[] #[] else if k == 4 then .func (.func 74) #[] #[] else .nilFunc

theorem look_run (w : World) (r : Nat) (k : Int) (hb : w.heap[r]? = some stepsMap) : (Instr.lookup 98 (.map (some r)) (.int .i64 k) false).run Try.prog w = .ok (stepOf k) w := by
  unfold stepsMap at hb
  have h2 := run_getObj_map (P := Try.prog) w r _ _ hb
  have h3 := ck_run false 9999 k w
  have hz : (zeroValue 97).run Try.prog w = .ok .nilFunc w := by kernel_rfl
  unfold Instr.lookup stepOf
  by_cases e1 : k = 1
  · subst e1
    have h4 := fk_run 1 [⟨.int .i64 1, .func (.func 70) #[] #[], 0⟩, ⟨.int .i64 2, .func (.func 71) #[] #[], 1⟩, ⟨.int .i64 3, .func (.func 73) #[] #[], 2⟩, ⟨.int .i64 4, .func (.func 74) #[] #[], 3⟩] _ w rfl
    simp [run_underlying Try.underlying98, h2, h3, h4]
  by_cases e2 : k = 2
  · subst e2
    have h4 := fk_run 2 [⟨.int .i64 1, .func (.func 70) #[] #[], 0⟩, ⟨.int .i64 2, .func (.func 71) #[] #[], 1⟩, ⟨.int .i64 3, .func (.func 73) #[] #[], 2⟩, ⟨.int .i64 4, .func (.func 74) #[] #[], 3⟩] _ w rfl
    simp [run_underlying Try.underlying98, h2, h3, h4]
  by_cases e3 : k = 3
  · subst e3
    have h4 := fk_run 3 [⟨.int .i64 1, .func (.func 70) #[] #[], 0⟩, ⟨.int .i64 2, .func (.func 71) #[] #[], 1⟩, ⟨.int .i64 3, .func (.func 73) #[] #[], 2⟩, ⟨.int .i64 4, .func (.func 74) #[] #[], 3⟩] _ w rfl
    simp [run_underlying Try.underlying98, h2, h3, h4]
  by_cases e4 : k = 4
  · subst e4
    have h4 := fk_run 4 [⟨.int .i64 1, .func (.func 70) #[] #[], 0⟩, ⟨.int .i64 2, .func (.func 71) #[] #[], 1⟩, ⟨.int .i64 3, .func (.func 73) #[] #[], 2⟩, ⟨.int .i64 4, .func (.func 74) #[] #[], 3⟩] _ w rfl
    simp [run_underlying Try.underlying98, h2, h3, h4]
  have h4 := fk_run k [⟨.int .i64 1, .func (.func 70) #[] #[], 0⟩, ⟨.int .i64 2, .func (.func 71) #[] #[], 1⟩, ⟨.int .i64 3, .func (.func 73) #[] #[], 2⟩, ⟨.int .i64 4, .func (.func 74) #[] #[], 3⟩] none w (by simp only [Instr.findNow, Instr.sameNow, if_true, beq_eq_false_iff_ne.2 e1, beq_eq_false_iff_ne.2 e2, beq_eq_false_iff_ne.2 e3, beq_eq_false_iff_ne.2 e4])
  simp [run_underlying Try.underlying98, h2, h3, h4, hz, e1, e2, e3, e4]

def opIn (k key tk n : Int) : Bool :=
  inB key 0 3 && (!(k == 3) || inB tk 0 3) && (if k == 2 then inB n (-999) 999 else !(k != 4) || inB n 0 999)

theorem in_bounds (k key tk n : Int) (w : World) :
    Calls Try.prog 61 #[opV k key tk n] w fun e w' => e = .returned (.bool (opIn k key tk n)) ∧ Keeps w w' := by
  unfold opV
  go_enter Try.func61, Try.ntmps61
  go_wp2_with (first | (go_at_call 28; refine (bound_in _ _ _ _).mono ?_; rintro e w' ⟨rfl, rfl⟩) | (go_at_call 75; refine (is_key _ _).mono ?_; rintro e w' ⟨rfl, rfl⟩) | (go_at_call 76; refine (is_val _ _).mono ?_; rintro e w' ⟨rfl, rfl⟩) | (go_at_call 62; refine (has_to _ _ _ _ _).mono ?_; rintro e w' ⟨rfl, rfl⟩) | (go_at_call 63; refine (has_n _ _ _ _ _).mono ?_; rintro e w' ⟨rfl, rfl⟩))
  all_goals go_ret
  all_goals refine ⟨?_, by repeat (first | exact Keeps.refl _ | refine Keeps.alloc ?_ _ | refine Keeps.drew ?_)⟩
  all_goals (go_tidy; simp_all [opIn])

theorem heap_at (w : World) (o : Obj) : (w.alloc o).heap[w.heap.size]? = some o := by simp only [World.alloc, Array.getElem?_push_size]

def opErr (k key tk n : Int) : Int :=
  if !(k == 1 || k == 2 || k == 3 || k == 4) then 4 else if !opIn k key tk n then 3 else if (!(k == 3) && tk != 0) || (!(k != 4) && n != 0) then 1 else 0


theorem eql_nil (w : World) : (binOp .eql 97 .nilFunc .nilFunc).run Try.prog w = .ok (.bool true) w := by kernel_rfl
theorem eql_fn (f : Nat) (w : World) : (binOp .eql 97 (.func (.func f) #[] #[]) .nilFunc).run Try.prog w = .ok (.bool false) w := by kernel_rfl
theorem look_two (w : World) (o : Obj) (k : Int) : (Instr.lookup 98 (.map (some (w.heap.size + 1))) (.int .i64 k) false).run Try.prog ((w.alloc o).alloc stepsMap).drew = .ok (stepOf k) ((w.alloc o).alloc stepsMap).drew :=
  look_run _ _ _ (by have := heap_at (w.alloc o) stepsMap; rw [World.size_alloc] at this; exact this)

theorem op_check_bad (k key tk n : Int) (w : World) (h1 : (k == 1) = false) (h2 : (k == 2) = false) (h3 : (k == 3) = false) (h4 : (k == 4) = false) :
    Calls Try.prog 52 #[opV k key tk n] w fun e w' => e = .returned (.int .i64 (opErr k key tk n)) ∧ Keeps w w' := by
  have hl := fun o => look_two w o k
  have hn := eql_nil
  have hs : stepOf k = .nilFunc := by simp only [stepOf, h1, h2, h3, h4, Bool.false_eq_true, if_false]
  unfold opV
  go_enter Try.func52, Try.ntmps52
  go_wp2_with fail
  go_region_with (go_at_call 60; refine (steps_c _).mono ?_; rintro e w' ⟨rfl, rfl⟩)
  all_goals go_wp2_with fail
  all_goals go_ret
  all_goals refine ⟨?_, by repeat (first | exact Keeps.refl _ | refine Keeps.alloc ?_ _ | refine Keeps.drew ?_)⟩
  all_goals (go_tidy; simp_all [opErr])

theorem op_check_good (k key tk n : Int) (f : Nat) (w : World) (hs : stepOf k = .func (.func f) #[] #[]) (hk : (k == 1 || k == 2 || k == 3 || k == 4) = true) :
    Calls Try.prog 52 #[opV k key tk n] w fun e w' => e = .returned (.int .i64 (opErr k key tk n)) ∧ Keeps w w' := by
  have hl := fun o => look_two w o k
  have hn := eql_fn f
  unfold opV
  go_enter Try.func52, Try.ntmps52
  go_wp2_with fail
  go_region_with (go_at_call 60; refine (steps_c _).mono ?_; rintro e w' ⟨rfl, rfl⟩)
  all_goals go_wp2_with fail
  all_goals
    refine (in_bounds k key tk n _).mono ?_
    rintro e w1 ⟨rfl, hb⟩
    have hk1 : Keeps w w1 := (((Keeps.refl _).alloc _).alloc _).drew.trans hb
    obtain ⟨hc, hf⟩ := hb.cells
    have hz := hb.size
    simp only [World.size_drew, World.size_alloc] at hc hf hz
    clear hf
    have hz1 : w.heap.size < w1.heap.size := by omega
    go_wp2_with (first | (go_at_call 62; refine (has_to _ _ _ _ _).mono ?_; rintro e w' ⟨rfl, rfl⟩) | (go_at_call 63; refine (has_n _ _ _ _ _).mono ?_; rintro e w' ⟨rfl, rfl⟩))
    all_goals go_ret
    all_goals refine ⟨?_, by repeat (first | exact hk1 | refine Keeps.alloc ?_ _ | refine Keeps.drew ?_)⟩
    all_goals (go_tidy; clear hb; simp_all [opErr])
    all_goals omega

theorem op_check (k key tk n : Int) (w : World) :
    Calls Try.prog 52 #[opV k key tk n] w fun e w' => e = .returned (.int .i64 (opErr k key tk n)) ∧ Keeps w w' := by
  cases h1 : (k == 1) with
  | true => exact op_check_good k key tk n 70 w (by simp [stepOf, h1]) (by simp [h1])
  | false =>
    cases h2 : (k == 2) with
    | true => exact op_check_good k key tk n 71 w (by simp [stepOf, h1, h2]) (by simp [h2])
    | false =>
      cases h3 : (k == 3) with
      | true => exact op_check_good k key tk n 73 w (by simp [stepOf, h1, h2, h3]) (by simp [h3])
      | false =>
        cases h4 : (k == 4) with
        | true => exact op_check_good k key tk n 74 w (by simp [stepOf, h1, h2, h3, h4]) (by simp [h4])
        | false => exact op_check_bad k key tk n w h1 h2 h3 h4
end Go.Proofs.Yteabfjpajgakiag

set_option linter.unusedSimpArgs false
namespace Go.Proofs.Yteabfjpajgakiag
open Go.RowKit

theorem eqint (d : Nat) (a b : Int) (w : World) : (Op.equalIn (d + 1) 3 (.int .i64 a) (.int .i64 b)).run Try.prog w = .ok (a == b) w := by
  simp [Op.equalIn, run_underlying Try.underlying3]
theorem part3 (a b c d : Int) (w : World) : (part 3 #[.int .i64 a, .int .i64 b, .int .i64 c, .int .i64 d] 0).run Try.prog w = .ok (.int .i64 a) w ∧ (part 3 #[.int .i64 a, .int .i64 b, .int .i64 c, .int .i64 d] 1).run Try.prog w = .ok (.int .i64 b) w ∧ (part 3 #[.int .i64 a, .int .i64 b, .int .i64 c, .int .i64 d] 2).run Try.prog w = .ok (.int .i64 c) w ∧ (part 3 #[.int .i64 a, .int .i64 b, .int .i64 c, .int .i64 d] 3).run Try.prog w = .ok (.int .i64 d) w := ⟨by kernel_rfl, by kernel_rfl, by kernel_rfl, by kernel_rfl⟩
end Go.Proofs.Yteabfjpajgakiag

/- Sessions in memory: what a table reads as. -/
set_option linter.unusedSimpArgs false
set_option linter.unusedVariables false
namespace Go.Proofs.Yteabfjpajgakiag
open Go.RowKit

/-- A session: client, acked, seen, the answers that are kept. -/
structure Ses where
  client : Int
  acked : Int
  seen : Int
  kept : List (Int × Int)

/-- The cells of the answers. -/
def repCells : List (Int × Int) → List Value
  | [] => []
  | (q, v) :: r => .int .i64 q :: .int .i64 v :: repCells r

/-- A slice value whose elements' cells are these (size cells an element, n elements): nil and other empty slices too. -/
def RowAt (w : World) (size : Nat) (v : Value) (n : Nat) (xs : List Value) : Prop :=
  xs.length = n * size ∧ n ≤ maxLen ∧ ((v = .slice none 0 0 ∧ n = 0) ∨ ∃ a cap, v = .slice (some a) n cap ∧ ∀ j u, xs[j]? = some u → w.cell? (a.add j) = some u)

def KeptAt (w : World) (v : Value) (l : List (Int × Int)) : Prop := RowAt w 2 v l.length (repCells l)

/-- The cells of sessions, the slices of answers being these values. -/
def sesCells : List Ses → List Value → List Value
  | s :: r, k :: ks => .int .i64 s.client :: .int .i64 s.acked :: .int .i64 s.seen :: k :: sesCells r ks
  | _, _ => []

/-- The slices read as what is kept. -/
def KeptsAt (w : World) : List Ses → List Value → Prop
  | [], [] => True
  | s :: r, k :: ks => KeptAt w k s.kept ∧ KeptsAt w r ks
  | _, _ => False

def TabAt (w : World) (v : Value) (L : List Ses) : Prop := ∃ ks, KeptsAt w L ks ∧ RowAt w 4 v L.length (sesCells L ks)

theorem RowAt.keep {w w' : World} {size n : Nat} {v : Value} {xs : List Value} (h : RowAt w size v n xs) (hk : Keeps w w') : RowAt w' size v n xs := by
  obtain ⟨h1, h2, h3⟩ := h
  refine ⟨h1, h2, ?_⟩
  rcases h3 with h3 | ⟨a, cap, rfl, h3⟩
  · exact .inl h3
  · refine .inr ⟨a, cap, rfl, fun j u hu => ?_⟩
    have := h3 j u hu
    exact (Below.cell hk (World.block_lt_of_cell? _ _ this)).trans this

theorem spot_none {w : World} {a : Addr} {u : Value} (h : w.cell? a = some u) : a.spot = none := by
  unfold World.cell? at h
  split at h
  · cases hs : a.spot with
    | none => rfl
    | some _ => simp [hs] at h
  · cases h

/-- Where there is an element the address is plain. -/
theorem RowAt.plain {w : World} {size n : Nat} {v : Value} {xs : List Value} (h : RowAt w size v n xs) (hx : 0 < xs.length) :
    ∃ b off cap, v = .slice (some ⟨b, off, none⟩) n cap ∧ ∀ j u, xs[j]? = some u → w.cell? ⟨b, off + j, none⟩ = some u := by
  obtain ⟨h1, h2, h3⟩ := h
  rcases h3 with ⟨_, h3⟩ | ⟨a, cap, rfl, h3⟩
  · subst h3; omega
  · have h0 := h3 0 xs[0] (by rw [List.getElem?_eq_getElem hx])
    have e : a.add 0 = a := rfl
    rw [e] at h0
    have hs := spot_none h0
    obtain ⟨b, off, sp⟩ := a
    simp only at hs
    subst hs
    exact ⟨b, off, cap, rfl, fun j u hu => by have := h3 j u hu; rwa [Addr.add_lit] at this⟩

theorem RowAt.len {w : World} {size n : Nat} {v : Value} {xs : List Value} (h : RowAt w size v n xs) : ∃ a cap, v = .slice a n cap ∧ n ≤ maxLen := by
  obtain ⟨_, h2, h3⟩ := h
  rcases h3 with ⟨rfl, rfl⟩ | ⟨a, cap, rfl, _⟩
  · exact ⟨_, _, rfl, h2⟩
  · exact ⟨_, _, rfl, h2⟩

theorem KeptAt.keep {w w' : World} {v : Value} {l : List (Int × Int)} (h : KeptAt w v l) (hk : Keeps w w') : KeptAt w' v l := RowAt.keep h hk

theorem KeptsAt.keep {w w' : World} (hk : Keeps w w') : ∀ {L : List Ses} {ks : List Value}, KeptsAt w L ks → KeptsAt w' L ks
  | [], [], _ => trivial
  | _ :: _, _ :: _, h => ⟨h.1.keep hk, KeptsAt.keep hk h.2⟩

theorem TabAt.keep {w w' : World} {v : Value} {L : List Ses} (h : TabAt w v L) (hk : Keeps w w') : TabAt w' v L := by
  obtain ⟨ks, h1, h2⟩ := h
  exact ⟨ks, h1.keep hk, h2.keep hk⟩

theorem repCells_len : ∀ l : List (Int × Int), (repCells l).length = l.length * 2
  | [] => rfl
  | (_, _) :: r => by simp [repCells, repCells_len r]; omega

theorem repCells_at : ∀ (l : List (Int × Int)) (k : Nat) (q v : Int), l[k]? = some (q, v) → (repCells l)[2 * k]? = some (.int .i64 q) ∧ (repCells l)[2 * k + 1]? = some (.int .i64 v)
  | [], k, q, v, h => by simp at h
  | (a, b) :: r, 0, q, v, h => by
    simp at h; obtain ⟨rfl, rfl⟩ := h; exact ⟨rfl, rfl⟩
  | (a, b) :: r, k + 1, q, v, h => by
    have := repCells_at r k q v (by simpa using h)
    rw [show 2 * (k + 1) = 2 * k + 1 + 1 from by omega]
    exact ⟨by simpa [repCells] using this.1, by simpa [repCells] using this.2⟩

/-- Answer number k of what is kept, in memory. -/
theorem KeptAt.at {w : World} {v : Value} {l : List (Int × Int)} (h : KeptAt w v l) {k : Nat} (hk : k < l.length) :
    ∃ b off cap, v = .slice (some ⟨b, off, none⟩) l.length cap ∧ l.length ≤ maxLen ∧
      ∀ i (hi : i < l.length), w.cell? ⟨b, off + i * 2, none⟩ = some (.int .i64 (l[i]).1) ∧ w.cell? ⟨b, off + i * 2 + 1, none⟩ = some (.int .i64 (l[i]).2) := by
  obtain ⟨b, off, cap, rfl, h3⟩ := RowAt.plain h (by rw [repCells_len]; omega)
  refine ⟨b, off, cap, rfl, h.2.1, fun i hi => ?_⟩
  have e := repCells_at l i (l[i]).1 (l[i]).2 (by rw [List.getElem?_eq_getElem hi])
  rw [Nat.mul_comm i 2]
  exact ⟨h3 _ _ e.1, h3 _ _ e.2⟩

theorem KeptAt.len {w : World} {v : Value} {l : List (Int × Int)} (h : KeptAt w v l) : ∃ a cap, v = .slice a l.length cap ∧ l.length ≤ maxLen := RowAt.len h

theorem kept_nil (w : World) : KeptAt w (.slice none 0 0) [] := ⟨rfl, by unfold maxLen; simp, .inl ⟨rfl, rfl⟩⟩

/-- The check of what is kept. -/
def keptOk (hi : Int) : Int → List (Int × Int) → Bool
  | _, [] => true
  | lo, (q, v) :: r => inB q lo hi && inB v (-1) 999 && keptOk hi (q + 1) r

def sesErr (s : Ses) : Int :=
  if !(inB s.client 1 5 && inB s.acked 0 60 && inB s.seen 0 999) then 3
  else if !keptOk (min (s.acked + 3) 60) (s.acked + 1) s.kept then 1 else 0

abbrev sesV (s : Ses) (k : Value) : Value := .agg #[.int .i64 s.client, .int .i64 s.acked, .int .i64 s.seen, k]

set_option maxHeartbeats 1000000 in
theorem check_one_range (s : Ses) (kv : Value) (w : World) (h : (inB s.client 1 5 && inB s.acked 0 60 && inB s.seen 0 999) = false) :
    Calls Try.prog 65 #[sesV s kv] w fun e w' => e = .returned (.int .i64 3) ∧ Keeps w w' := by
  go_enter Try.func65, Try.ntmps65
  go_wp2_with (first | (go_at_call 28; refine (bound_in _ _ _ _).mono ?_; rintro e w' ⟨rfl, rfl⟩))
  all_goals first | (go_ret; exact ⟨rfl, (Keeps.refl _).alloc _⟩) | (exfalso; go_tidy; simp_all; done)

theorem inB_iff {n lo hi : Int} : inB n lo hi = true ↔ lo ≤ n ∧ n ≤ hi := by simp [inB]

theorem keptOk_at {hi l : Int} {kept : List (Int × Int)} {k : Nat} (h : k < kept.length) :
    keptOk hi l (kept.drop k) = (inB (kept[k]).1 l hi && inB (kept[k]).2 (-1) 999 && keptOk hi ((kept[k]).1 + 1) (kept.drop (k + 1))) := by
  rw [List.drop_eq_getElem_cons h]; rfl
theorem sesErr_ok {s : Ses} (h1 : inB s.client 1 5 = true) (h2 : inB s.acked 0 60 = true) (h3 : inB s.seen 0 999 = true) (h : keptOk (min (s.acked + 3) 60) (s.acked + 1) s.kept = true) : sesErr s = 0 := by
  simp [sesErr, h1, h2, h3, h]
theorem sesErr_form {s : Ses} (h1 : inB s.client 1 5 = true) (h2 : inB s.acked 0 60 = true) (h3 : inB s.seen 0 999 = true) (h : keptOk (min (s.acked + 3) 60) (s.acked + 1) s.kept = false) : sesErr s = 1 := by
  simp [sesErr, h1, h2, h3, h]
theorem ret_int {k : IntKind} {a b : Int} (h : a = b) : Ending.returned (.int k a) = .returned (.int k b) := by rw [h]

set_option maxHeartbeats 1000000 in
theorem check_one_formA (s : Ses) (kv : Value) (w : World) (hk : KeptAt w kv s.kept) (h1 : inB s.client 1 5 = true) (h2 : inB s.acked 0 60 = true) (h3 : inB s.seen 0 999 = true) (hm : s.acked + 3 ≤ 60) :
    Calls Try.prog 65 #[sesV s kv] w fun e w' => e = .returned (.int .i64 (sesErr s)) ∧ Keeps w w' := by
  have ha := inB_iff.1 h2
  obtain ⟨ha0, ha1⟩ := ha
  obtain ⟨ka, kc, rfl, hlen⟩ := hk.len
  unfold maxLen at hlen
  have HK : Hid (KeptAt w (.slice ka s.kept.length kc) s.kept) := hk
  clear hk
  have hm2 : Hid (min (s.acked + 3) 60 = (s.acked + 3)) := by show min _ _ = _; omega
  go_enter Try.func65, Try.ntmps65
  go_wp2_with (first | (go_at_call 28; refine (bound_in _ _ _ _).mono ?_; rintro e w' ⟨rfl, rfl⟩))
  go_region
  go_wp2_with fail
  go_loopw [3, 33] (fun lo i wr => ∃ (k : Nat) (l : Int), k ≤ s.kept.length ∧ i = .int .i64 k ∧ lo = .int .i64 l ∧ 0 ≤ l ∧ l ≤ 100 ∧ Keeps w wr ∧ Hid (keptOk (min (s.acked + 3) 60) (s.acked + 1) s.kept = keptOk (s.acked + 3) l (s.kept.drop k))) (fun _ i _ => s.kept.length - (intOf i).toNat)
  case atStart => exact ⟨0, _, Nat.zero_le _, rfl, rfl, by omega, by omega, ((Keeps.refl _).alloc _).drew, by show _ = _; rw [hm2.out]; rfl⟩
  case round =>
    obtain ⟨k, l, hk, rfl, rfl, hl0, hl1, hkw, HQ⟩ := hrel
    by_cases hlt : k < s.kept.length
    · obtain ⟨b, off, cap, hv, _, hcell⟩ := (HK.out.keep hkw).at hlt
      have hc := hcell k hlt
      injection hv with hv1 hv2 hv3
      subst hv1
      clear hcell hv2 hv3
      obtain ⟨hc0, hc1⟩ := hc
      have HR : Hid (keptOk (min (s.acked + 3) 60) (s.acked + 1) s.kept = (inB (s.kept[k]).1 l (s.acked + 3) && inB (s.kept[k]).2 (-1) 999 && keptOk (s.acked + 3) ((s.kept[k]).1 + 1) (s.kept.drop (k + 1)))) := HQ.out.trans (keptOk_at hlt)
      generalize (s.kept[k]).1 = q at *
      generalize (s.kept[k]).2 = v at *
      cases hb1 : inB q l (s.acked + 3) with
      | false =>
        have HE : Hid (sesErr s = 1) := sesErr_form h1 h2 h3 (by rw [HR.out, hb1]; rfl)
        go_wp2_with (first | (go_at_call 28; refine (bound_in _ _ _ _).mono ?_; rintro e w' ⟨rfl, rfl⟩))
        go_ret
        exact ⟨ret_int HE.out.symm, hkw.alloc _⟩
      | true =>
        have hbq := inB_iff.1 hb1
        obtain ⟨hbq0, hbq1⟩ := hbq
        cases hb2 : inB v (-1) 999 with
        | false =>
          have HE : Hid (sesErr s = 1) := sesErr_form h1 h2 h3 (by rw [HR.out, hb1, hb2]; rfl)
          go_wp2_with (first | (go_at_call 28; refine (bound_in _ _ _ _).mono ?_; rintro e w' ⟨rfl, rfl⟩))
          go_ret
          exact ⟨ret_int HE.out.symm, hkw.alloc _⟩
        | true =>
          have HN : Hid (keptOk (min (s.acked + 3) 60) (s.acked + 1) s.kept = keptOk (s.acked + 3) (q + 1) (s.kept.drop (k + 1))) := by show _ = _; rw [HR.out, hb1, hb2]; rfl
          clear HR
          go_wp2_with (first | (go_at_call 28; refine (bound_in _ _ _ _).mono ?_; rintro e w' ⟨rfl, rfl⟩))
          go_roundw
          case rel => exact ⟨k + 1, q + 1, by omega, by go_num, rfl, by omega, by omega, hkw.alloc _, HN⟩
          case measure => simp [intOf]; omega
    · have HE : Hid (sesErr s = 0) := sesErr_ok h1 h2 h3 (by rw [HQ.out, List.drop_of_length_le (by omega)]; rfl)
      go_wp2_with fail
      go_ret
      exact ⟨ret_int HE.out.symm, hkw⟩

set_option maxHeartbeats 1000000 in
theorem check_one_formB (s : Ses) (kv : Value) (w : World) (hk : KeptAt w kv s.kept) (h1 : inB s.client 1 5 = true) (h2 : inB s.acked 0 60 = true) (h3 : inB s.seen 0 999 = true) (hm : 60 < s.acked + 3) :
    Calls Try.prog 65 #[sesV s kv] w fun e w' => e = .returned (.int .i64 (sesErr s)) ∧ Keeps w w' := by
  have ha := inB_iff.1 h2
  obtain ⟨ha0, ha1⟩ := ha
  obtain ⟨ka, kc, rfl, hlen⟩ := hk.len
  unfold maxLen at hlen
  have HK : Hid (KeptAt w (.slice ka s.kept.length kc) s.kept) := hk
  clear hk
  have hm2 : Hid (min (s.acked + 3) 60 = 60) := by show min _ _ = _; omega
  go_enter Try.func65, Try.ntmps65
  go_wp2_with (first | (go_at_call 28; refine (bound_in _ _ _ _).mono ?_; rintro e w' ⟨rfl, rfl⟩))
  go_region
  go_wp2_with fail
  go_loopw [3, 33] (fun lo i wr => ∃ (k : Nat) (l : Int), k ≤ s.kept.length ∧ i = .int .i64 k ∧ lo = .int .i64 l ∧ 0 ≤ l ∧ l ≤ 100 ∧ Keeps w wr ∧ Hid (keptOk (min (s.acked + 3) 60) (s.acked + 1) s.kept = keptOk 60 l (s.kept.drop k))) (fun _ i _ => s.kept.length - (intOf i).toNat)
  case atStart => exact ⟨0, _, Nat.zero_le _, rfl, rfl, by omega, by omega, ((Keeps.refl _).alloc _).drew, by show _ = _; rw [hm2.out]; rfl⟩
  case round =>
    obtain ⟨k, l, hk, rfl, rfl, hl0, hl1, hkw, HQ⟩ := hrel
    by_cases hlt : k < s.kept.length
    · obtain ⟨b, off, cap, hv, _, hcell⟩ := (HK.out.keep hkw).at hlt
      have hc := hcell k hlt
      injection hv with hv1 hv2 hv3
      subst hv1
      clear hcell hv2 hv3
      obtain ⟨hc0, hc1⟩ := hc
      have HR : Hid (keptOk (min (s.acked + 3) 60) (s.acked + 1) s.kept = (inB (s.kept[k]).1 l 60 && inB (s.kept[k]).2 (-1) 999 && keptOk 60 ((s.kept[k]).1 + 1) (s.kept.drop (k + 1)))) := HQ.out.trans (keptOk_at hlt)
      generalize (s.kept[k]).1 = q at *
      generalize (s.kept[k]).2 = v at *
      cases hb1 : inB q l 60 with
      | false =>
        have HE : Hid (sesErr s = 1) := sesErr_form h1 h2 h3 (by rw [HR.out, hb1]; rfl)
        go_wp2_with (first | (go_at_call 28; refine (bound_in _ _ _ _).mono ?_; rintro e w' ⟨rfl, rfl⟩))
        go_ret
        exact ⟨ret_int HE.out.symm, hkw.alloc _⟩
      | true =>
        have hbq := inB_iff.1 hb1
        obtain ⟨hbq0, hbq1⟩ := hbq
        cases hb2 : inB v (-1) 999 with
        | false =>
          have HE : Hid (sesErr s = 1) := sesErr_form h1 h2 h3 (by rw [HR.out, hb1, hb2]; rfl)
          go_wp2_with (first | (go_at_call 28; refine (bound_in _ _ _ _).mono ?_; rintro e w' ⟨rfl, rfl⟩))
          go_ret
          exact ⟨ret_int HE.out.symm, hkw.alloc _⟩
        | true =>
          have HN : Hid (keptOk (min (s.acked + 3) 60) (s.acked + 1) s.kept = keptOk 60 (q + 1) (s.kept.drop (k + 1))) := by show _ = _; rw [HR.out, hb1, hb2]; rfl
          clear HR
          go_wp2_with (first | (go_at_call 28; refine (bound_in _ _ _ _).mono ?_; rintro e w' ⟨rfl, rfl⟩))
          go_roundw
          case rel => exact ⟨k + 1, q + 1, by omega, by go_num, rfl, by omega, by omega, hkw.alloc _, HN⟩
          case measure => simp [intOf]; omega
    · have HE : Hid (sesErr s = 0) := sesErr_ok h1 h2 h3 (by rw [HQ.out, List.drop_of_length_le (by omega)]; rfl)
      go_wp2_with fail
      go_ret
      exact ⟨ret_int HE.out.symm, hkw⟩

/-- sess.checkOne. -/
theorem check_one (s : Ses) (kv : Value) (w : World) (hk : KeptAt w kv s.kept) :
    Calls Try.prog 65 #[sesV s kv] w fun e w' => e = .returned (.int .i64 (sesErr s)) ∧ Keeps w w' := by
  cases h : (inB s.client 1 5 && inB s.acked 0 60 && inB s.seen 0 999) with
  | false =>
    rw [show sesErr s = 3 from by simp [sesErr, h]]
    exact check_one_range s kv w h
  | true =>
    simp only [Bool.and_eq_true] at h
    by_cases hm : s.acked + 3 ≤ 60
    · exact check_one_formA s kv w hk h.1.1 h.1.2 h.2 hm
    · exact check_one_formB s kv w hk h.1.1 h.1.2 h.2 (by omega)
end Go.Proofs.Yteabfjpajgakiag

/- Entries: apply.inBounds, apply.Check. -/
set_option linter.unusedSimpArgs false
set_option linter.unusedVariables false
set_option maxRecDepth 10000
namespace Go.Proofs.Yteabfjpajgakiag
open Go.RowKit

structure Ent where
  kind : Int
  time : Int
  client : Int
  seq : Int
  ack : Int
  ok : Int
  okey : Int
  oto : Int
  on : Int

abbrev entV (e : Ent) : Value := .agg #[.int .i64 e.kind, .int .i64 e.time, .int .i64 e.client, .int .i64 e.seq, .int .i64 e.ack, .int .i64 e.ok, .int .i64 e.okey, .int .i64 e.oto, .int .i64 e.on]

theorem eqop (d : Nat) (a0 a1 a2 a3 b0 b1 b2 b3 : Int) (w : World) : (Op.equalIn (d + 2) 26 (.agg #[.int .i64 a0, .int .i64 a1, .int .i64 a2, .int .i64 a3]) (.agg #[.int .i64 b0, .int .i64 b1, .int .i64 b2, .int .i64 b3])).run Try.prog w = .ok (a0 == b0 && (a1 == b1 && (a2 == b2 && a3 == b3))) w := by
  have p := part3 a0 a1 a2 a3
  have q := part3 b0 b1 b2 b3
  rw [run_equalIn_struct w (d + 1) 26 _ _ (by kernel_rfl) (by kernel_rfl)]
  simp [Program.fieldsOf, Try.underlying26, Op.eqFields, p, q, eqint]
  by_cases h0 : a0 = b0
  · by_cases h1 : a1 = b1
    · by_cases h2 : a2 = b2
      · by_cases h3 : a3 = b3
        · simp [h0, h1, h2, h3]
        · simp [h0, h1, h2, h3]
      · simp [h0, h1, h2]
    · simp [h0, h1]
  · simp [h0]
/-- '!=' between two ops. -/
theorem neqop (a0 a1 a2 a3 b0 b1 b2 b3 : Int) (w : World) : (binOp .neq 26 (.agg #[.int .i64 a0, .int .i64 a1, .int .i64 a2, .int .i64 a3]) (.agg #[.int .i64 b0, .int .i64 b1, .int .i64 b2, .int .i64 b3])).run Try.prog w = .ok (.bool (!(a0 == b0 && (a1 == b1 && (a2 == b2 && a3 == b3))))) w := by
  simp only [binOp]
  have := eqop 9998 a0 a1 a2 a3 b0 b1 b2 b3 w
  simp [Op.equal, Op.maxDepth, this]

def entIn (e : Ent) : Bool := inB e.time 0 999 && (inB e.client 1 5 && (e.kind != 2 || (inB e.seq 1 60 && inB e.ack 0 (e.seq - 1))))
def opNone (e : Ent) : Bool := e.ok == 0 && (e.okey == 0 && (e.oto == 0 && e.on == 0))
def entErr (e : Ent) : Int := if inB e.kind 1 3 then (if entIn e then (if e.kind == 2 then opErr e.ok e.okey e.oto e.on else if e.seq == 0 && (e.ack == 0 && opNone e) then 0 else 1) else 3) else 4

set_option maxHeartbeats 1000000 in
theorem ent_in_bounds (e : Ent) (w : World) : Calls Try.prog 51 #[entV e] w fun x w' => x = .returned (.bool (entIn e)) ∧ Keeps w w' := by
  unfold entIn
  cases q1 : inB e.time 0 999 with
  | false =>
    go_enter Try.func51, Try.ntmps51
    go_wp2_with (first | (go_at_call 28; refine (bound_in _ _ _ _).mono ?_; rintro x w' ⟨rfl, rfl⟩))
    go_ret
    exact ⟨rfl, (Keeps.refl _).alloc _⟩
  | true =>
    cases q2 : inB e.client 1 5 with
    | false =>
      go_enter Try.func51, Try.ntmps51
      go_wp2_with (first | (go_at_call 28; refine (bound_in _ _ _ _).mono ?_; rintro x w' ⟨rfl, rfl⟩))
      go_ret
      exact ⟨rfl, (Keeps.refl _).alloc _⟩
    | true =>
      cases q3 : (e.kind != 2) with
      | true =>
        go_enter Try.func51, Try.ntmps51
        go_wp2_with (first | (go_at_call 28; refine (bound_in _ _ _ _).mono ?_; rintro x w' ⟨rfl, rfl⟩))
        go_ret
        exact ⟨rfl, (Keeps.refl _).alloc _⟩
      | false =>
        cases q4 : inB e.seq 1 60 with
        | false =>
          go_enter Try.func51, Try.ntmps51
          go_wp2_with (first | (go_at_call 28; refine (bound_in _ _ _ _).mono ?_; rintro x w' ⟨rfl, rfl⟩))
          go_ret
          exact ⟨rfl, (Keeps.refl _).alloc _⟩
        | true =>
          have q4' : 1 ≤ e.seq ∧ e.seq ≤ 60 := by simpa [inB] using q4
          obtain ⟨q5, q6⟩ := q4'
          go_enter Try.func51, Try.ntmps51
          go_wp2_with (first | (go_at_call 28; refine (bound_in _ _ _ _).mono ?_; rintro x w' ⟨rfl, rfl⟩))
          go_ret
          exact ⟨rfl, (Keeps.refl _).alloc _⟩

set_option maxHeartbeats 1000000 in
theorem ent_check (e : Ent) (w : World) : Calls Try.prog 40 #[entV e] w fun x w' => x = .returned (.int .i64 (entErr e)) ∧ Keeps w w' := by
  have HE : Hid (entErr e = if inB e.kind 1 3 then (if entIn e then (if e.kind == 2 then opErr e.ok e.okey e.oto e.on else if e.seq == 0 && (e.ack == 0 && opNone e) then 0 else 1) else 3) else 4) := rfl
  have HN : Hid (opNone e = (e.ok == 0 && (e.okey == 0 && (e.oto == 0 && e.on == 0)))) := rfl
  have hn := neqop
  cases q1 : inB e.kind 1 3 with
  | false =>
    have HE : Hid (entErr e = 4) := by show _ = _; rw [HE.out, q1]; rfl
    go_enter Try.func40, Try.ntmps40
    go_wp2_with (first | (go_at_call 28; refine (bound_in _ _ _ _).mono ?_; rintro x w' ⟨rfl, rfl⟩))
    go_ret
    exact ⟨ret_int HE.out.symm, (Keeps.refl _).alloc _⟩
  | true =>
    rw [q1] at HE
    go_enter Try.func40, Try.ntmps40
    go_wp2_with (first | (go_at_call 28; refine (bound_in _ _ _ _).mono ?_; rintro x w' ⟨rfl, rfl⟩))
    refine (ent_in_bounds e _).mono ?_
    rintro x w1 ⟨rfl, hb⟩
    have hk1 : Keeps w w1 := ((Keeps.refl _).alloc _).trans hb
    cases q2 : entIn e with
    | false =>
      have HE : Hid (entErr e = 3) := by show _ = _; rw [HE.out, q2]; rfl
      go_wp2_with fail
      go_ret
      exact ⟨ret_int HE.out.symm, hk1⟩
    | true =>
      have x0 : w1.cell? ⟨w.heap.size, 0, none⟩ = some (.int .i64 e.kind) := (Below.cell hb (p := ⟨w.heap.size, 0, none⟩) (by simp)).trans (by simp [go_sem])
      have x3 : w1.cell? ⟨w.heap.size, 3, none⟩ = some (.int .i64 e.seq) := (Below.cell hb (p := ⟨w.heap.size, 3, none⟩) (by simp)).trans (by simp [go_sem])
      have x4 : w1.cell? ⟨w.heap.size, 4, none⟩ = some (.int .i64 e.ack) := (Below.cell hb (p := ⟨w.heap.size, 4, none⟩) (by simp)).trans (by simp [go_sem])
      have x5 : w1.cell? ⟨w.heap.size, 5, none⟩ = some (.int .i64 e.ok) := (Below.cell hb (p := ⟨w.heap.size, 5, none⟩) (by simp)).trans (by simp [go_sem])
      have x6 : w1.cell? ⟨w.heap.size, 6, none⟩ = some (.int .i64 e.okey) := (Below.cell hb (p := ⟨w.heap.size, 6, none⟩) (by simp)).trans (by simp [go_sem])
      have x7 : w1.cell? ⟨w.heap.size, 7, none⟩ = some (.int .i64 e.oto) := (Below.cell hb (p := ⟨w.heap.size, 7, none⟩) (by simp)).trans (by simp [go_sem])
      have x8 : w1.cell? ⟨w.heap.size, 8, none⟩ = some (.int .i64 e.on) := (Below.cell hb (p := ⟨w.heap.size, 8, none⟩) (by simp)).trans (by simp [go_sem])
      have hlt := World.block_lt_of_cell? _ _ x8
      simp only [] at hlt
      clear hb
      cases q3 : (e.kind == 2) with
      | true =>
        have HE : Hid (entErr e = opErr e.ok e.okey e.oto e.on) := by show _ = _; rw [HE.out, q2, q3]; rfl
        go_wp2_with fail
        refine (op_check e.ok e.okey e.oto e.on _).mono ?_
        rintro x w2 ⟨rfl, hb⟩
        have hk2 : Keeps w w2 := hk1.trans hb
        clear hb
        go_wp2_with fail
        go_ret
        exact ⟨ret_int HE.out.symm, hk2⟩
      | false =>
        cases q4 : (e.seq == 0) with
        | false =>
          have q4' : (e.seq != 0) = true := by simp [bne, q4]
          have HE : Hid (entErr e = 1) := by show _ = _; rw [HE.out, q2, q3, q4]; rfl
          go_wp2_with fail
          go_ret
          exact ⟨ret_int HE.out.symm, hk1⟩
        | true =>
          have q4' : (e.seq != 0) = false := by simp [bne, q4]
          cases q5 : (e.ack == 0) with
          | false =>
            have q5' : (e.ack != 0) = true := by simp [bne, q5]
            have HE : Hid (entErr e = 1) := by show _ = _; rw [HE.out, q2, q3, q4, q5]; rfl
            go_wp2_with fail
            go_ret
            exact ⟨ret_int HE.out.symm, hk1⟩
          | true =>
            have q5' : (e.ack != 0) = false := by simp [bne, q5]
            cases q6 : (e.ok == 0 && (e.okey == 0 && (e.oto == 0 && e.on == 0))) with
            | false =>
              have q6' : (!(e.ok == 0 && (e.okey == 0 && (e.oto == 0 && e.on == 0)))) = true := by rw [q6]; rfl
              have HE : Hid (entErr e = 1) := by show _ = _; rw [HE.out, q2, q3, q4, q5, HN.out, q6]; rfl
              go_wp2_with fail
              go_ret
              exact ⟨ret_int HE.out.symm, hk1⟩
            | true =>
              have q6' : (!(e.ok == 0 && (e.okey == 0 && (e.oto == 0 && e.on == 0)))) = false := by rw [q6]; rfl
              have HE : Hid (entErr e = 0) := by show _ = _; rw [HE.out, q2, q3, q4, q5, HN.out, q6]; rfl
              go_wp2_with fail
              go_ret
              exact ⟨ret_int HE.out.symm, hk1⟩
end Go.Proofs.Yteabfjpajgakiag

/- The arguments of a law: an entry. -/
set_option linter.unusedSimpArgs false
set_option linter.unusedVariables false
set_option maxRecDepth 100000
namespace Go.Proofs.Yteabfjpajgakiag
open Go.ChangeShapes Go.WideShapes Go.ChangeAt Go.RowKit Go.Joins

section
variable {H : Type} {enc : TypeId × Value → H} {w : World} {base : Nat} {spare : Nat → Bool} {held : Bool}

end
end Go.Proofs.Yteabfjpajgakiag

/- A region that draws its order, whose operations only read and whose calls leave all that was there as it was. -/
set_option linter.unusedSimpArgs false
set_option linter.unusedVariables false
namespace Go.Proofs.Yteabfjpajgakiag
open Go.RowKit

/-- A world in which all that was there in W0 is as it was. -/
structure After (W0 : World) where
  w : World
  h : Keeps W0 w
theorem After.some (W0 : World) : Nonempty (After W0) := ⟨⟨W0, Keeps.refl _⟩⟩

/-- A region that draws its order, whose operations only read and whose calls leave all as it was: one walk in the order of the text. -/
theorem wp_region_after {P : Program} {id : Nat} {Q : Exit → Act → World → Prop} {a : Act} {w : World} {l : List Oper} (hm : P.follows .mixedOrders = true) (hB : Region.lexB .any l.toArray = true)
    (h : wpQuiet P l.toArray (fun w' => ∃ s : After w, w' = s.w) (fun a' => ∀ w', (∃ s : After w, w' = s.w) → Q .normal a' w') l a) : (Code.region id l.toArray true).wp P Q a w :=
  wp_region_quiet (C := fun w' => ∃ s : After w, w' = s.w) hm hB ⟨⟨w.drew, (Keeps.refl _).drew⟩, rfl⟩ (by simpa using h)

theorem calls_after {P : Program} {W0 : World} {f : FuncId} {args : Array Value} {s : After W0} {v : Value}
    (h : Calls P f args s.w fun e w' => e = .returned v ∧ Keeps s.w w') : Calls P f args s.w fun e w'' => e = .returned v ∧ ∃ s' : After W0, w'' = s'.w :=
  h.mono fun _ w' ⟨he, hk⟩ => ⟨he, ⟨w', s.h.trans hk⟩, rfl⟩

end Go.Proofs.Yteabfjpajgakiag

/- The reference's within. -/
set_option linter.unusedSimpArgs false
set_option linter.unusedVariables false
namespace Go.Proofs.Yteabfjpajgakiag
open Go.RowKit

end Go.Proofs.Yteabfjpajgakiag
