/- OpB, ApA, OpenEnt, StB, StC, StD, SesD, SesE, SesF0, SesH, But. -/
import Derived.Laws.AppendOwnNone
import Derived.Test.YteabfjpajgakiagGreatJ00
import Derived.Test.YteabfjpajgakiagGreatJ01
/- Contracts of package op: inBounds, Check. -/
namespace Go.Proofs.YteabfjpajgakiagGreat
open Go.RowKit

def stepOf (k : Int) : Value := if k == 1 then .func (.func 107) #[] #[] else if k == 2 then .func (.func 108) #[] #[] else if k == 3 then .func (.func 110) #[] #[] else if k == 4 then .func (.func 111) #[] #[] else .nilFunc

theorem look_run (w : World) (r : Nat) (k : Int) (hb : w.heap[r]? = some stepsMap) : (Instr.lookup 137 (.map (some r)) (.int .i64 k) false).run Tryz.prog w = .ok (stepOf k) w := by
  unfold stepsMap at hb
  have h2 := run_getObj_map (P := Tryz.prog) w r _ _ hb
  have h3 := ck_run false 9999 k w
  have hz : (zeroValue 136).run Tryz.prog w = .ok .nilFunc w := by kernel_rfl
  unfold Instr.lookup stepOf
  by_cases e1 : k = 1
  · subst e1
    have h4 := fk_run 1 [⟨.int .i64 1, .func (.func 107) #[] #[], 0⟩, ⟨.int .i64 2, .func (.func 108) #[] #[], 1⟩, ⟨.int .i64 3, .func (.func 110) #[] #[], 2⟩, ⟨.int .i64 4, .func (.func 111) #[] #[], 3⟩] _ w rfl
    simp [run_underlying Tryz.underlying137, h2, h3, h4]
  by_cases e2 : k = 2
  · subst e2
    have h4 := fk_run 2 [⟨.int .i64 1, .func (.func 107) #[] #[], 0⟩, ⟨.int .i64 2, .func (.func 108) #[] #[], 1⟩, ⟨.int .i64 3, .func (.func 110) #[] #[], 2⟩, ⟨.int .i64 4, .func (.func 111) #[] #[], 3⟩] _ w rfl
    simp [run_underlying Tryz.underlying137, h2, h3, h4]
  by_cases e3 : k = 3
  · subst e3
    have h4 := fk_run 3 [⟨.int .i64 1, .func (.func 107) #[] #[], 0⟩, ⟨.int .i64 2, .func (.func 108) #[] #[], 1⟩, ⟨.int .i64 3, .func (.func 110) #[] #[], 2⟩, ⟨.int .i64 4, .func (.func 111) #[] #[], 3⟩] _ w rfl
    simp [run_underlying Tryz.underlying137, h2, h3, h4]
  by_cases e4 : k = 4
  · subst e4
    have h4 := fk_run 4 [⟨.int .i64 1, .func (.func 107) #[] #[], 0⟩, ⟨.int .i64 2, .func (.func 108) #[] #[], 1⟩, ⟨.int .i64 3, .func (.func 110) #[] #[], 2⟩, ⟨.int .i64 4, .func (.func 111) #[] #[], 3⟩] _ w rfl
    simp [run_underlying Tryz.underlying137, h2, h3, h4]
  have h4 := fk_run k [⟨.int .i64 1, .func (.func 107) #[] #[], 0⟩, ⟨.int .i64 2, .func (.func 108) #[] #[], 1⟩, ⟨.int .i64 3, .func (.func 110) #[] #[], 2⟩, ⟨.int .i64 4, .func (.func 111) #[] #[], 3⟩] none w (by simp only [Instr.findNow, Instr.sameNow, if_true, beq_eq_false_iff_ne.2 e1, beq_eq_false_iff_ne.2 e2, beq_eq_false_iff_ne.2 e3, beq_eq_false_iff_ne.2 e4])
  simp [run_underlying Tryz.underlying137, h2, h3, h4, hz, e1, e2, e3, e4]

def opIn (k key tk n : Int) : Bool :=
  inB key 0 3 && (!(k == 3) || inB tk 0 3) && (if k == 2 then inB n (-999) 999 else !(k != 4) || inB n 0 999)

theorem in_bounds (k key tk n : Int) (w : World) :
    Calls Tryz.prog 94 #[opV k key tk n] w fun e w' => e = .returned (.bool (opIn k key tk n)) ∧ Keeps w w' := by
  unfold opV
  go_enter Tryz.func94, Tryz.ntmps94
  go_wp2_with (first | (go_at_call 45; refine (bound_in _ _ _ _).mono ?_; rintro e w' ⟨rfl, rfl⟩) | (go_at_call 112; refine (is_key _ _).mono ?_; rintro e w' ⟨rfl, rfl⟩) | (go_at_call 113; refine (is_val _ _).mono ?_; rintro e w' ⟨rfl, rfl⟩) | (go_at_call 95; refine (has_to _ _ _ _ _).mono ?_; rintro e w' ⟨rfl, rfl⟩) | (go_at_call 96; refine (has_n _ _ _ _ _).mono ?_; rintro e w' ⟨rfl, rfl⟩))
  all_goals go_ret
  all_goals refine ⟨?_, by repeat (first | exact Keeps.refl _ | refine Keeps.alloc ?_ _ | refine Keeps.drew ?_)⟩
  all_goals (go_tidy; simp_all [opIn])

theorem heap_at (w : World) (o : Obj) : (w.alloc o).heap[w.heap.size]? = some o := by simp only [World.alloc, Array.getElem?_push_size]

def opErr (k key tk n : Int) : Int :=
  if !(k == 1 || k == 2 || k == 3 || k == 4) then 4 else if !opIn k key tk n then 3 else if (!(k == 3) && tk != 0) || (!(k != 4) && n != 0) then 1 else 0


theorem eql_nil (w : World) : (binOp .eql 136 .nilFunc .nilFunc).run Tryz.prog w = .ok (.bool true) w := by kernel_rfl
theorem eql_fn (f : Nat) (w : World) : (binOp .eql 136 (.func (.func f) #[] #[]) .nilFunc).run Tryz.prog w = .ok (.bool false) w := by kernel_rfl
theorem look_two (w : World) (o : Obj) (k : Int) : (Instr.lookup 137 (.map (some (w.heap.size + 1))) (.int .i64 k) false).run Tryz.prog ((w.alloc o).alloc stepsMap).drew = .ok (stepOf k) ((w.alloc o).alloc stepsMap).drew :=
  look_run _ _ _ (by have := heap_at (w.alloc o) stepsMap; rw [World.size_alloc] at this; exact this)

theorem op_check_bad (k key tk n : Int) (w : World) (h1 : (k == 1) = false) (h2 : (k == 2) = false) (h3 : (k == 3) = false) (h4 : (k == 4) = false) :
    Calls Tryz.prog 86 #[opV k key tk n] w fun e w' => e = .returned (.int .i64 (opErr k key tk n)) ∧ Keeps w w' := by
  have hl := fun o => look_two w o k
  have hn := eql_nil
  have hs : stepOf k = .nilFunc := by simp only [stepOf, h1, h2, h3, h4, Bool.false_eq_true, if_false]
  unfold opV
  go_enter Tryz.func86, Tryz.ntmps86
  go_wp2_with fail
  go_region_with (go_at_call 93; refine (steps_c _).mono ?_; rintro e w' ⟨rfl, rfl⟩)
  all_goals go_wp2_with fail
  all_goals go_ret
  all_goals refine ⟨?_, by repeat (first | exact Keeps.refl _ | refine Keeps.alloc ?_ _ | refine Keeps.drew ?_)⟩
  all_goals (go_tidy; simp_all [opErr])

theorem op_check_good (k key tk n : Int) (f : Nat) (w : World) (hs : stepOf k = .func (.func f) #[] #[]) (hk : (k == 1 || k == 2 || k == 3 || k == 4) = true) :
    Calls Tryz.prog 86 #[opV k key tk n] w fun e w' => e = .returned (.int .i64 (opErr k key tk n)) ∧ Keeps w w' := by
  have hl := fun o => look_two w o k
  have hn := eql_fn f
  unfold opV
  go_enter Tryz.func86, Tryz.ntmps86
  go_wp2_with fail
  go_region_with (go_at_call 93; refine (steps_c _).mono ?_; rintro e w' ⟨rfl, rfl⟩)
  all_goals go_wp2_with fail
  all_goals
    refine (in_bounds k key tk n _).mono ?_
    rintro e w1 ⟨rfl, hb⟩
    have hk1 : Keeps w w1 := (((Keeps.refl _).alloc _).alloc _).drew.trans hb
    obtain ⟨hc, hf⟩ := hb.cells
    have hz := hb.size
    simp only [World.size_drew, World.size_alloc] at hc hf hz
    clear hf
    have hz1 : w.heap.size < w1.heap.size := by omega
    go_wp2_with (first | (go_at_call 95; refine (has_to _ _ _ _ _).mono ?_; rintro e w' ⟨rfl, rfl⟩) | (go_at_call 96; refine (has_n _ _ _ _ _).mono ?_; rintro e w' ⟨rfl, rfl⟩))
    all_goals go_ret
    all_goals refine ⟨?_, by repeat (first | exact hk1 | refine Keeps.alloc ?_ _ | refine Keeps.drew ?_)⟩
    all_goals (go_tidy; clear hb; simp_all [opErr])
    all_goals omega

theorem op_check (k key tk n : Int) (w : World) :
    Calls Tryz.prog 86 #[opV k key tk n] w fun e w' => e = .returned (.int .i64 (opErr k key tk n)) ∧ Keeps w w' := by
  cases h1 : (k == 1) with
  | true => exact op_check_good k key tk n 107 w (by simp [stepOf, h1]) (by simp [h1])
  | false =>
    cases h2 : (k == 2) with
    | true => exact op_check_good k key tk n 108 w (by simp [stepOf, h1, h2]) (by simp [h2])
    | false =>
      cases h3 : (k == 3) with
      | true => exact op_check_good k key tk n 110 w (by simp [stepOf, h1, h2, h3]) (by simp [h3])
      | false =>
        cases h4 : (k == 4) with
        | true => exact op_check_good k key tk n 111 w (by simp [stepOf, h1, h2, h3, h4]) (by simp [h4])
        | false => exact op_check_bad k key tk n w h1 h2 h3 h4
end Go.Proofs.YteabfjpajgakiagGreat

/- Entries: apply.inBounds, apply.Check. -/
set_option linter.unusedSimpArgs false
set_option linter.unusedVariables false
set_option maxRecDepth 10000
namespace Go.Proofs.YteabfjpajgakiagGreat
open Go.RowKit

structure Ent where
  kind : Int
  time : Int
  client : Int
  seq : Int
  ack : Int
  ok : Int
  okey : Int
  oto : Int
  on : Int

abbrev entV (e : Ent) : Value := .agg #[.int .i64 e.kind, .int .i64 e.time, .int .i64 e.client, .int .i64 e.seq, .int .i64 e.ack, .int .i64 e.ok, .int .i64 e.okey, .int .i64 e.oto, .int .i64 e.on]

theorem eqop (d : Nat) (a0 a1 a2 a3 b0 b1 b2 b3 : Int) (w : World) : (Op.equalIn (d + 2) 33 (.agg #[.int .i64 a0, .int .i64 a1, .int .i64 a2, .int .i64 a3]) (.agg #[.int .i64 b0, .int .i64 b1, .int .i64 b2, .int .i64 b3])).run Tryz.prog w = .ok (a0 == b0 && (a1 == b1 && (a2 == b2 && a3 == b3))) w := by
  have p := part3 a0 a1 a2 a3
  have q := part3 b0 b1 b2 b3
  rw [run_equalIn_struct w (d + 1) 33 _ _ (by kernel_rfl) (by kernel_rfl)]
  simp [Program.fieldsOf, Tryz.underlying33, Op.eqFields, p, q, eqint]
  by_cases h0 : a0 = b0
  · by_cases h1 : a1 = b1
    · by_cases h2 : a2 = b2
      · by_cases h3 : a3 = b3
        · simp [h0, h1, h2, h3]
        · simp [h0, h1, h2, h3]
      · simp [h0, h1, h2]
    · simp [h0, h1]
  · simp [h0]
/-- '!=' between two ops. -/
theorem neqop (a0 a1 a2 a3 b0 b1 b2 b3 : Int) (w : World) : (binOp .neq 33 (.agg #[.int .i64 a0, .int .i64 a1, .int .i64 a2, .int .i64 a3]) (.agg #[.int .i64 b0, .int .i64 b1, .int .i64 b2, .int .i64 b3])).run Tryz.prog w = .ok (.bool (!(a0 == b0 && (a1 == b1 && (a2 == b2 && a3 == b3))))) w := by
  simp only [binOp]
  have := eqop 9998 a0 a1 a2 a3 b0 b1 b2 b3 w
  simp [Op.equal, Op.maxDepth, this]

def entIn (e : Ent) : Bool := inB e.time 0 999 && (inB e.client 1 5 && (e.kind != 2 || (inB e.seq 1 60 && inB e.ack 0 (e.seq - 1))))
def opNone (e : Ent) : Bool := e.ok == 0 && (e.okey == 0 && (e.oto == 0 && e.on == 0))
def entErr (e : Ent) : Int := if inB e.kind 1 3 then (if entIn e then (if e.kind == 2 then opErr e.ok e.okey e.oto e.on else if e.seq == 0 && (e.ack == 0 && opNone e) then 0 else 1) else 3) else 4

set_option maxHeartbeats 1000000 in
theorem ent_in_bounds (e : Ent) (w : World) : Calls Tryz.prog 85 #[entV e] w fun x w' => x = .returned (.bool (entIn e)) ∧ Keeps w w' := by
  unfold entIn
  cases q1 : inB e.time 0 999 with
  | false =>
    go_enter Tryz.func85, Tryz.ntmps85
    go_wp2_with (first | (go_at_call 45; refine (bound_in _ _ _ _).mono ?_; rintro x w' ⟨rfl, rfl⟩))
    go_ret
    exact ⟨rfl, (Keeps.refl _).alloc _⟩
  | true =>
    cases q2 : inB e.client 1 5 with
    | false =>
      go_enter Tryz.func85, Tryz.ntmps85
      go_wp2_with (first | (go_at_call 45; refine (bound_in _ _ _ _).mono ?_; rintro x w' ⟨rfl, rfl⟩))
      go_ret
      exact ⟨rfl, (Keeps.refl _).alloc _⟩
    | true =>
      cases q3 : (e.kind != 2) with
      | true =>
        go_enter Tryz.func85, Tryz.ntmps85
        go_wp2_with (first | (go_at_call 45; refine (bound_in _ _ _ _).mono ?_; rintro x w' ⟨rfl, rfl⟩))
        go_ret
        exact ⟨rfl, (Keeps.refl _).alloc _⟩
      | false =>
        cases q4 : inB e.seq 1 60 with
        | false =>
          go_enter Tryz.func85, Tryz.ntmps85
          go_wp2_with (first | (go_at_call 45; refine (bound_in _ _ _ _).mono ?_; rintro x w' ⟨rfl, rfl⟩))
          go_ret
          exact ⟨rfl, (Keeps.refl _).alloc _⟩
        | true =>
          have q4' : 1 ≤ e.seq ∧ e.seq ≤ 60 := by simpa [inB] using q4
          obtain ⟨q5, q6⟩ := q4'
          go_enter Tryz.func85, Tryz.ntmps85
          go_wp2_with (first | (go_at_call 45; refine (bound_in _ _ _ _).mono ?_; rintro x w' ⟨rfl, rfl⟩))
          go_ret
          exact ⟨rfl, (Keeps.refl _).alloc _⟩

set_option maxHeartbeats 1000000 in
theorem ent_check (e : Ent) (w : World) : Calls Tryz.prog 69 #[entV e] w fun x w' => x = .returned (.int .i64 (entErr e)) ∧ Keeps w w' := by
  have HE : Hid (entErr e = if inB e.kind 1 3 then (if entIn e then (if e.kind == 2 then opErr e.ok e.okey e.oto e.on else if e.seq == 0 && (e.ack == 0 && opNone e) then 0 else 1) else 3) else 4) := rfl
  have HN : Hid (opNone e = (e.ok == 0 && (e.okey == 0 && (e.oto == 0 && e.on == 0)))) := rfl
  have hn := neqop
  cases q1 : inB e.kind 1 3 with
  | false =>
    have HE : Hid (entErr e = 4) := by show _ = _; rw [HE.out, q1]; rfl
    go_enter Tryz.func69, Tryz.ntmps69
    go_wp2_with (first | (go_at_call 45; refine (bound_in _ _ _ _).mono ?_; rintro x w' ⟨rfl, rfl⟩))
    go_ret
    exact ⟨ret_int HE.out.symm, (Keeps.refl _).alloc _⟩
  | true =>
    rw [q1] at HE
    go_enter Tryz.func69, Tryz.ntmps69
    go_wp2_with (first | (go_at_call 45; refine (bound_in _ _ _ _).mono ?_; rintro x w' ⟨rfl, rfl⟩))
    refine (ent_in_bounds e _).mono ?_
    rintro x w1 ⟨rfl, hb⟩
    have hk1 : Keeps w w1 := ((Keeps.refl _).alloc _).trans hb
    cases q2 : entIn e with
    | false =>
      have HE : Hid (entErr e = 3) := by show _ = _; rw [HE.out, q2]; rfl
      go_wp2_with fail
      go_ret
      exact ⟨ret_int HE.out.symm, hk1⟩
    | true =>
      have x0 : w1.cell? ⟨w.heap.size, 0, none⟩ = some (.int .i64 e.kind) := (Below.cell hb (p := ⟨w.heap.size, 0, none⟩) (by simp)).trans (by simp [go_sem])
      have x3 : w1.cell? ⟨w.heap.size, 3, none⟩ = some (.int .i64 e.seq) := (Below.cell hb (p := ⟨w.heap.size, 3, none⟩) (by simp)).trans (by simp [go_sem])
      have x4 : w1.cell? ⟨w.heap.size, 4, none⟩ = some (.int .i64 e.ack) := (Below.cell hb (p := ⟨w.heap.size, 4, none⟩) (by simp)).trans (by simp [go_sem])
      have x5 : w1.cell? ⟨w.heap.size, 5, none⟩ = some (.int .i64 e.ok) := (Below.cell hb (p := ⟨w.heap.size, 5, none⟩) (by simp)).trans (by simp [go_sem])
      have x6 : w1.cell? ⟨w.heap.size, 6, none⟩ = some (.int .i64 e.okey) := (Below.cell hb (p := ⟨w.heap.size, 6, none⟩) (by simp)).trans (by simp [go_sem])
      have x7 : w1.cell? ⟨w.heap.size, 7, none⟩ = some (.int .i64 e.oto) := (Below.cell hb (p := ⟨w.heap.size, 7, none⟩) (by simp)).trans (by simp [go_sem])
      have x8 : w1.cell? ⟨w.heap.size, 8, none⟩ = some (.int .i64 e.on) := (Below.cell hb (p := ⟨w.heap.size, 8, none⟩) (by simp)).trans (by simp [go_sem])
      have hlt := World.block_lt_of_cell? _ _ x8
      simp only [] at hlt
      clear hb
      cases q3 : (e.kind == 2) with
      | true =>
        have HE : Hid (entErr e = opErr e.ok e.okey e.oto e.on) := by show _ = _; rw [HE.out, q2, q3]; rfl
        go_wp2_with fail
        refine (op_check e.ok e.okey e.oto e.on _).mono ?_
        rintro x w2 ⟨rfl, hb⟩
        have hk2 : Keeps w w2 := hk1.trans hb
        clear hb
        go_wp2_with fail
        go_ret
        exact ⟨ret_int HE.out.symm, hk2⟩
      | false =>
        cases q4 : (e.seq == 0) with
        | false =>
          have q4' : (e.seq != 0) = true := by simp [bne, q4]
          have HE : Hid (entErr e = 1) := by show _ = _; rw [HE.out, q2, q3, q4]; rfl
          go_wp2_with fail
          go_ret
          exact ⟨ret_int HE.out.symm, hk1⟩
        | true =>
          have q4' : (e.seq != 0) = false := by simp [bne, q4]
          cases q5 : (e.ack == 0) with
          | false =>
            have q5' : (e.ack != 0) = true := by simp [bne, q5]
            have HE : Hid (entErr e = 1) := by show _ = _; rw [HE.out, q2, q3, q4, q5]; rfl
            go_wp2_with fail
            go_ret
            exact ⟨ret_int HE.out.symm, hk1⟩
          | true =>
            have q5' : (e.ack != 0) = false := by simp [bne, q5]
            cases q6 : (e.ok == 0 && (e.okey == 0 && (e.oto == 0 && e.on == 0))) with
            | false =>
              have q6' : (!(e.ok == 0 && (e.okey == 0 && (e.oto == 0 && e.on == 0)))) = true := by rw [q6]; rfl
              have HE : Hid (entErr e = 1) := by show _ = _; rw [HE.out, q2, q3, q4, q5, HN.out, q6]; rfl
              go_wp2_with fail
              go_ret
              exact ⟨ret_int HE.out.symm, hk1⟩
            | true =>
              have q6' : (!(e.ok == 0 && (e.okey == 0 && (e.oto == 0 && e.on == 0)))) = false := by rw [q6]; rfl
              have HE : Hid (entErr e = 0) := by show _ = _; rw [HE.out, q2, q3, q4, q5, HN.out, q6]; rfl
              go_wp2_with fail
              go_ret
              exact ⟨ret_int HE.out.symm, hk1⟩
end Go.Proofs.YteabfjpajgakiagGreat

/- The arguments of a law: an entry. -/
set_option linter.unusedSimpArgs false
set_option linter.unusedVariables false
set_option maxRecDepth 100000
namespace Go.Proofs.YteabfjpajgakiagGreat
open Go.ChangeShapes Go.WideShapes Go.ChangeAt Go.RowKit Go.Joins

section
variable {H : Type} {enc : TypeId × Value → H} {w : World} {base : Nat} {spare : Nat → Bool} {held : Bool}

theorem cellsOp : Tryz.prog.cellsOf 33 = 4 := by kernel_rfl
theorem cellsEnt : Tryz.prog.cellsOf 35 = 9 := by kernel_rfl

/-- The cells of an entry. -/
theorem ent_cells {n : Nat} {c0 c1 c2 c3 c4 c5 c6 c7 c8 : Value} {y : DataW H × List MemPlace} (h : DataW.trod enc Tryz.prog w base spare held n 35 [c0, c1, c2, c3, c4, c5, c6, c7, c8] = some y) :
    ∃ e : Ent, c0 = .int .i64 e.kind ∧ c1 = .int .i64 e.time ∧ c2 = .int .i64 e.client ∧ c3 = .int .i64 e.seq ∧ c4 = .int .i64 e.ack ∧ c5 = .int .i64 e.ok ∧ c6 = .int .i64 e.okey ∧ c7 = .int .i64 e.oto ∧ c8 = .int .i64 e.on := by
  obtain ⟨xs, m, _, _, _, hlen, hf⟩ := DataW.trod_struct Tryz.underlying35 h
  match xs, hlen with
  | [y0, y1, y2, y3, y4, y5], _ =>
    have g0 := hf 0 _ rfl
    have g1 := hf 1 _ rfl
    have g2 := hf 2 _ rfl
    have g3 := hf 3 _ rfl
    have g4 := hf 4 _ rfl
    have g5 := hf 5 _ rfl
    simp only [cells3, cellsOp, List.drop_zero, List.drop_succ_cons, List.take_succ_cons, List.take_zero, List.getElem?_cons_zero, List.getElem?_cons_succ] at g0 g1 g2 g3 g4 g5
    obtain ⟨a0, rfl⟩ := one_int g0
    obtain ⟨a1, rfl⟩ := one_int g1
    obtain ⟨a2, rfl⟩ := one_int g2
    obtain ⟨a3, rfl⟩ := one_int g3
    obtain ⟨a4, rfl⟩ := one_int g4
    obtain ⟨z0, z1, z2, z3, m', _, _, k0, k1, k2, k3⟩ := trod_struct4 Tryz.underlying33 g5
    simp only [cells3, List.drop_zero, List.drop_succ_cons, List.take_succ_cons, List.take_zero] at k0 k1 k2 k3
    obtain ⟨a5, rfl⟩ := one_int k0
    obtain ⟨a6, rfl⟩ := one_int k1
    obtain ⟨a7, rfl⟩ := one_int k2
    obtain ⟨a8, rfl⟩ := one_int k3
    exact ⟨⟨a0, a1, a2, a3, a4, a5, a6, a7, a8⟩, rfl, rfl, rfl, rfl, rfl, rfl, rfl, rfl, rfl⟩

/-- An entry. -/
theorem open_ent {r : Reach} {b0 : Nat} {v : Value} {d : DataW H} {p : List MemPlace} (hv : Value.okWide Tryz.prog w r b0 35 v) (h : DataW.Trod enc Tryz.prog w base spare held 35 v d p) :
    ∃ e : Ent, v = entV e := by
  obtain ⟨cs, rfl, hsz⟩ := okWide_struct Tryz.underlying35 hv
  rw [cellsEnt] at hsz
  obtain ⟨fuel, hf⟩ := h
  obtain ⟨cl⟩ := cs
  match cl, hsz with
  | [c0, c1, c2, c3, c4, c5, c6, c7, c8], _ =>
    obtain ⟨e, rfl, rfl, rfl, rfl, rfl, rfl, rfl, rfl, rfl⟩ := ent_cells hf
    exact ⟨e, rfl⟩
end
end Go.Proofs.YteabfjpajgakiagGreat

/- States: valsFine. -/
set_option linter.unusedSimpArgs false
set_option linter.unusedVariables false
namespace Go.Proofs.YteabfjpajgakiagGreat
open Go.RowKit

def valsIn (v0 v1 v2 v3 : Int) : Bool := inB v0 0 999 && (inB v1 0 999 && (inB v2 0 999 && inB v3 0 999))

set_option maxHeartbeats 2000000 in
theorem st_vals_fine (v0 v1 v2 v3 : Int) (w : World) :
    Calls Tryz.prog 37 #[.agg #[.int .i64 v0, .int .i64 v1, .int .i64 v2, .int .i64 v3]] w fun e w' => e = .returned (.bool (valsIn v0 v1 v2 v3)) ∧ Keeps w w' := by
  unfold valsIn
  cases q0 : inB v0 0 999 <;> cases q1 : inB v1 0 999 <;> cases q2 : inB v2 0 999 <;> cases q3 : inB v3 0 999 <;>
  · go_enter Tryz.func37, Tryz.ntmps37
    go_wp2_with fail
    refine wp_loop_rounds 5 ?_
    rw [rounds_succ]
    go_wp2_with (first | (go_at_call 32; refine (within_c _ _ _ _).mono ?_; rintro e w' ⟨rfl, rfl⟩) | rw [rounds_succ])
    go_ret
    exact ⟨rfl, (Keeps.refl _).alloc _⟩
end Go.Proofs.YteabfjpajgakiagGreat

/- States: inBounds. -/
set_option linter.unusedSimpArgs false
set_option linter.unusedVariables false
namespace Go.Proofs.YteabfjpajgakiagGreat
open Go.RowKit

theorem idx4 (v0 v1 v2 v3 : Int) (w : World) : (Instr.index 22 (.agg #[.int .i64 v0, .int .i64 v1, .int .i64 v2, .int .i64 v3]) (.int .i64 0)).run Tryz.prog w = .ok (.int .i64 v0) w ∧ (Instr.index 22 (.agg #[.int .i64 v0, .int .i64 v1, .int .i64 v2, .int .i64 v3]) (.int .i64 1)).run Tryz.prog w = .ok (.int .i64 v1) w ∧ (Instr.index 22 (.agg #[.int .i64 v0, .int .i64 v1, .int .i64 v2, .int .i64 v3]) (.int .i64 2)).run Tryz.prog w = .ok (.int .i64 v2) w ∧ (Instr.index 22 (.agg #[.int .i64 v0, .int .i64 v1, .int .i64 v2, .int .i64 v3]) (.int .i64 3)).run Tryz.prog w = .ok (.int .i64 v3) w :=
  ⟨by kernel_rfl, by kernel_rfl, by kernel_rfl, by kernel_rfl⟩

def stIn (s : St) : Bool := valsIn s.v0 s.v1 s.v2 s.v3 && (inB s.at_ 0 50 && inB s.clock 0 999)

set_option maxHeartbeats 4000000 in
theorem st_in_bounds (s : St) (x : Value) (w : World) (h : TabAt w x s.tab) :
    Calls Tryz.prog 67 #[stV s x] w fun e w' => e = .returned (.bool (stIn s)) ∧ Keeps w w' := by
  obtain ⟨a, c, rfl, _⟩ := h.len
  clear h
  obtain ⟨at_, clock, v0, v1, v2, v3, tab⟩ := s
  simp only [stIn, valsIn]
  generalize tab.length = m
  have i0 := fun w => (idx4 v0 v1 v2 v3 w).1
  have i1 := fun w => (idx4 v0 v1 v2 v3 w).2.1
  have i2 := fun w => (idx4 v0 v1 v2 v3 w).2.2.1
  have i3 := fun w => (idx4 v0 v1 v2 v3 w).2.2.2
  cases q0 : inB v0 0 999 <;> cases q1 : inB v1 0 999 <;> cases q2 : inB v2 0 999 <;> cases q3 : inB v3 0 999
  case true.true.true.true =>
    cases q4 : inB at_ 0 50 <;>
    · go_enter Tryz.func67, Tryz.ntmps67
      go_wp2_with fail
      refine wp_loop_rounds 5 ?_
      rw [rounds_succ]
      go_wp2_with (first | (go_at_call 45; refine (bound_in _ _ _ _).mono ?_; rintro e w' ⟨rfl, rfl⟩) | rw [rounds_succ])
      go_ret
      exact ⟨rfl, (Keeps.refl _).alloc _⟩
  all_goals
    go_enter Tryz.func67, Tryz.ntmps67
    go_wp2_with fail
    refine wp_loop_rounds 5 ?_
    rw [rounds_succ]
    go_wp2_with (first | (go_at_call 45; refine (bound_in _ _ _ _).mono ?_; rintro e w' ⟨rfl, rfl⟩) | rw [rounds_succ])
    go_ret
    exact ⟨rfl, (Keeps.refl _).alloc _⟩
end Go.Proofs.YteabfjpajgakiagGreat

/- States: Check and StateError. -/
set_option linter.unusedSimpArgs false
set_option linter.unusedVariables false
set_option maxRecDepth 10000
namespace Go.Proofs.YteabfjpajgakiagGreat
open Go.RowKit

def seenAll (c : Int) : List Ses → Bool
  | [] => true
  | s :: r => inB s.seen (c - 20) c && seenAll c r
theorem seenAll_at {c : Int} {L : List Ses} {k : Nat} (h : k < L.length) : seenAll c (L.drop k) = (inB (L[k]).seen (c - 20) c && seenAll c (L.drop (k + 1))) := by
  rw [List.drop_eq_getElem_cons h]; rfl
def stErr (s : St) : Int := if stIn s then (if tabErr s.tab == 0 then (if seenAll s.clock s.tab then 0 else 1) else tabErr s.tab) else 3

theorem stIn_clock {s : St} (h : stIn s = true) : 0 ≤ s.clock ∧ s.clock ≤ 999 := by
  simp only [stIn, Bool.and_eq_true] at h
  exact inB_iff.1 h.2.2

set_option maxHeartbeats 2000000 in
theorem state_check (s : St) (x : Value) (w : World) (hT : TabAt w x s.tab) :
    Calls Tryz.prog 48 #[stV s x] w fun e w' => e = .returned (.int .i64 (stErr s)) ∧ Keeps w w' := by
  obtain ⟨a, c, rfl, hlen⟩ := hT.len
  unfold maxLen at hlen
  have HT : Hid (TabAt w (.slice a s.tab.length c) s.tab) := hT
  clear hT
  go_enter Tryz.func48, Tryz.ntmps48
  go_wp2_with fail
  refine (st_in_bounds s _ _ (HT.out.keep ((Keeps.refl _).alloc _))).mono ?_
  rintro e w1 ⟨rfl, hb⟩
  have hk1 : Keeps w w1 := ((Keeps.refl _).alloc _).trans hb
  cases hi : stIn s with
  | false =>
    have HE : Hid (stErr s = 3) := by simp [Hid, stErr, hi]
    go_wp2_with fail
    go_ret
    exact ⟨ret_int HE.out.symm, hk1⟩
  | true =>
    obtain ⟨hc0, hc1⟩ := stIn_clock hi
    have x1 : w1.cell? ⟨w.heap.size, 1, none⟩ = some (.int .i64 s.clock) := (Below.cell hb (p := ⟨w.heap.size, 1, none⟩) (by simp)).trans (by simp [go_sem])
    have x6 : w1.cell? ⟨w.heap.size, 6, none⟩ = some (.slice a s.tab.length c) := (Below.cell hb (p := ⟨w.heap.size, 6, none⟩) (by simp)).trans (by simp [go_sem])
    clear hb
    have hlt := World.block_lt_of_cell? _ _ x6
    simp only [] at hlt
    go_wp2_with fail
    refine (sess_check s.tab _ _ (HT.out.keep hk1)).mono ?_
    rintro e w2 ⟨rfl, hb⟩
    have hk2 : Keeps w w2 := hk1.trans hb
    have x1 := cell_kept x1 hb
    have x6 := cell_kept x6 hb
    have hlt := Nat.lt_of_lt_of_le hlt hb.size
    clear hb hk1
    cases he : (tabErr s.tab == 0) with
    | false =>
      have he' : (tabErr s.tab != 0) = true := by simp [bne, he]
      have HE : Hid (stErr s = tabErr s.tab) := by simp [Hid, stErr, hi, he]
      go_wp2_with fail
      go_ret
      exact ⟨ret_int HE.out.symm, hk2⟩
    | true =>
      have he' : (tabErr s.tab != 0) = false := by simp [bne, he]
      have HS : Hid (stErr s = if seenAll s.clock s.tab then 0 else 1) := by simp [Hid, stErr, hi, he]
      clear he hi
      go_wp2_with fail
      go_loopw [18] (fun i wr => ∃ (k : Nat), k ≤ s.tab.length ∧ i = .int .i64 k ∧ Keeps w2 wr ∧ Hid (seenAll s.clock s.tab = seenAll s.clock (s.tab.drop k))) (fun i _ => s.tab.length - (intOf i).toNat)
      case atStart => exact ⟨0, Nat.zero_le _, rfl, Keeps.refl _, rfl⟩
      case round =>
        obtain ⟨k, hk, rfl, hkw, HQ⟩ := hrel
        have x1 := cell_kept x1 hkw
        have hlt := Nat.lt_of_lt_of_le hlt hkw.size
        by_cases hlt2 : k < s.tab.length
        · obtain ⟨b, off, cap', hv, hcell⟩ := (HT.out.keep (hk2.trans hkw)).at hlt2
          injection hv with hv1 hv2 hv3
          subst hv1
          clear hv2 hv3
          obtain ⟨c0, c1, c2, ka, kc, c3, hkv⟩ := hcell k hlt2
          clear hcell hkv
          have HR : Hid (seenAll s.clock s.tab = (inB (s.tab[k]).seen (s.clock - 20) s.clock && seenAll s.clock (s.tab.drop (k + 1)))) := HQ.out.trans (seenAll_at hlt2)
          clear HQ
          generalize s.tab[k] = t at *
          cases hs : inB t.seen (s.clock - 20) s.clock with
          | false =>
            have HE : Hid (stErr s = 1) := by show _ = _; rw [HS.out, HR.out, hs]; rfl
            go_wp2_with (first | (go_at_call 45; refine (bound_in _ _ _ _).mono ?_; rintro e w' ⟨rfl, rfl⟩))
            go_ret
            exact ⟨ret_int HE.out.symm, (hk2.trans hkw).alloc _⟩
          | true =>
            have HN : Hid (seenAll s.clock s.tab = seenAll s.clock (s.tab.drop (k + 1))) := by show _ = _; rw [HR.out, hs]; rfl
            clear HR
            go_wp2_with (first | (go_at_call 45; refine (bound_in _ _ _ _).mono ?_; rintro e w' ⟨rfl, rfl⟩))
            go_roundw
            case rel => exact ⟨k + 1, by omega, by go_num, hkw.alloc _, HN⟩
            case measure => simp [intOf]; omega
        · have HE : Hid (stErr s = 0) := by show _ = _; rw [HS.out, HQ.out, List.drop_of_length_le (by omega)]; rfl
          go_wp2_with fail
          go_ret
          exact ⟨ret_int HE.out.symm, hk2.trans hkw⟩
end Go.Proofs.YteabfjpajgakiagGreat

/- A session of its own memory: sess.twin, the reference's ownSession. -/
set_option linter.unusedSimpArgs false
set_option linter.unusedVariables false
namespace Go.Proofs.YteabfjpajgakiagGreat
open Go.RowKit

theorem infoRep : (Tryz.prog.info? 73).map (fun i => (i.zero, i.size, i.bytes)) = some (some (.agg #[.int .i64 0, .int .i64 0]), 2, 16) := by kernel_rfl
theorem infoSes : (Tryz.prog.info? 71).map (fun i => (i.zero, i.size, i.bytes)) = some (some (.agg #[.int .i64 0, .int .i64 0, .int .i64 0, .slice none 0 0]), 4, 48) := by kernel_rfl

theorem RowAt.of_owns {w : World} {base : Nat} {e : TypeId} {size : Nat} {v : Value} {n : Nat} {xs : List Value} (h : w.ownsRow base e size v n xs) : RowAt w size v n xs := by
  have hc := fun g => h.cells (g := g)
  obtain ⟨h1, h2⟩ := h
  rcases h2 with ⟨rfl, rfl⟩ | ⟨g, cap, cur, rfl, _, _, hnc, hcm, _, _⟩
  · exact ⟨h1, by unfold maxLen; omega, .inl ⟨rfl, rfl⟩⟩
  · exact ⟨h1, Nat.le_trans hnc hcm, .inr ⟨_, cap, rfl, fun j u hu => hc g rfl j u hu⟩⟩

theorem owns_base {w : World} {base base' : Nat} {e : TypeId} {size : Nat} {v : Value} {n : Nat} {xs : List Value} (h : w.ownsRow base e size v n xs) (hb : base' ≤ base) : w.ownsRow base' e size v n xs := by
  obtain ⟨h1, h2⟩ := h
  refine ⟨h1, ?_⟩
  rcases h2 with h2 | ⟨g, cap, cur, hv, hg, r⟩
  · exact .inl h2
  · exact .inr ⟨g, cap, cur, hv, Nat.le_trans hb hg, r⟩

theorem keeps_grown {w w' : World} {v : Value} {a : World} (ha : Keeps a w) (hg : w.grownBy w' v.ownBlock) (hb : ∀ k, v.ownBlock = some k → a.heap.size ≤ k) : Keeps a w' :=
  Below.grown ha hg ha.size hb

/-- 'append(v, x...)', v the call's own, x whatever is read. -/
theorem run_append_read (w : World) (base : Nat) (t ty e : TypeId) (size bytes : Nat) (z : Value) (hinfo : (Tryz.prog.info? e).map (fun i => (i.zero, i.size, i.bytes)) = some (some z, size, bytes))
    (ht : Tryz.prog.underlying t = some (.slice e)) (hzs : z.cells.size = size) (hsz : 0 < size)
    (v : Value) (m : Nat) (ys : List Value) (hown : w.ownsRow base e size v m ys) (x : Value) (n : Nat) (xs : List Value) (hx : RowAt w size x n xs) (h1 : ∀ u ∈ xs, u.oneCell' = true)
    (h63 : m + n ≤ maxLen) (hbytes : (m + n) * bytes ≤ 140737488355328) (hbase : base ≤ w.heap.size) :
    ∃ v' w', (Builtin.append_ #[t, t] ty #[v, x]).run Tryz.prog w = .ok v' w' ∧ w'.ownsRow base e size v' (m + n) (ys ++ xs) ∧ w.grownBy w' v.ownBlock := by
  obtain ⟨i, hi, hz, hs, hb⟩ := info_parts hinfo
  rcases hx.2.2 with ⟨rfl, rfl⟩ | ⟨a, cap, rfl, hc⟩
  · have hx0 : xs = [] := List.eq_nil_of_length_eq_zero (by simpa using hx.1)
    subst hx0
    refine ⟨v, w, run_append_owned_none (P := Tryz.prog) w base t ty e i size ht hi v m ys hown, by simpa using hown, ⟨rfl, rfl, rfl, Nat.le_refl _, fun _ _ _ => rfl⟩⟩
  · obtain ⟨v', w', hr, ho, hg, _⟩ := run_append_own (P := Tryz.prog) w base t ty e i z size bytes ht hi hz hs hb hzs hsz v m ys hown a n cap xs hx.1 hc h1 h63 hbytes hbase
    exact ⟨v', w', hr, ho, hg⟩

/-- An append whose run is known. -/
theorem wpList_append_run {P : Program} {w w' : World} {ops : Array Oper} {rest : List Oper} {o : Oper} {a : Act} {Q : Exit → Act → World → Prop} {v x v' : Value} (hgd : o.guard = none) (s y : Operand) (t : TypeId)
    (ho : o.op = .call { callee := .builtin .append, args := #[s, y], argTypes := #[t, t] }) (hs : a.eval s = v) (hx : a.eval y = x)
    (hr : (Builtin.append_ #[t, t] o.type #[v, x]).run P w = .ok v' w') (h : wpList P ops Q rest (a.put o.dst v') w') : wpList P ops Q (o :: rest) a w := by
  refine wpList_plain hgd fun K hK => ?_
  unfold Oper.wp
  simp [execOp, ho, resolve, invoke, builtin, hs, hx, hr, Result.andThen]
  exact hK _ _ h

theorem repCells_one : ∀ (l : List (Int × Int)), ∀ u ∈ repCells l, u.oneCell' = true
  | [], u, h => by simp [repCells] at h
  | (q, v) :: r, u, h => by
    simp only [repCells, List.mem_cons] at h
    rcases h with rfl | rfl | h
    · rfl
    · rfl
    · exact repCells_one r u h

set_option maxHeartbeats 1000000 in
theorem twin_c (s : Ses) (kv : Value) (w : World) (hk : KeptAt w kv s.kept) (hn : s.kept.length ≤ 3) :
    Calls Tryz.prog 80 #[sesV s kv] w fun e w' => ∃ kv', w'.ownsRow w.heap.size 73 2 kv' s.kept.length (repCells s.kept) ∧ e = .returned (sesV s kv') ∧ Keeps w w' := by
  obtain ⟨ka, kc, rfl, hlen⟩ := hk.len
  have hkW : KeptAt ((w.alloc (.cells #[.int .i64 s.client, .int .i64 s.acked, .int .i64 s.seen, .slice ka s.kept.length kc] 71)).alloc (.cells #[.int .i64 0, .int .i64 0, .int .i64 0, .slice none 0 0] 71)) (.slice ka s.kept.length kc) s.kept := hk.keep (((Keeps.refl _).alloc _).alloc _)
  obtain ⟨v', w', hr, ho, hg⟩ := run_append_read ((w.alloc (.cells #[.int .i64 s.client, .int .i64 s.acked, .int .i64 s.seen, .slice ka s.kept.length kc] 71)).alloc (.cells #[.int .i64 0, .int .i64 0, .int .i64 0, .slice none 0 0] 71)) (w.heap.size + 2) 69 69 73 2 16 _ infoRep Tryz.underlying69 rfl (by decide) (.slice none 0 0) 0 [] (World.ownsRow_nil _ _ _ _) _ _ _ hkW (repCells_one _) (by unfold maxLen; omega) (by omega) (by simp)
  simp only [Nat.zero_add, List.nil_append] at ho
  clear hkW hk
  obtain ⟨va, vc, rfl⟩ : ∃ va vc, v' = .slice va s.kept.length vc := by obtain ⟨x, y, h, _⟩ := (RowAt.of_owns ho).len; exact ⟨x, y, h⟩
  have hkp : Keeps ((w.alloc (.cells #[.int .i64 s.client, .int .i64 s.acked, .int .i64 s.seen, .slice ka s.kept.length kc] 71)).alloc (.cells #[.int .i64 0, .int .i64 0, .int .i64 0, .slice none 0 0] 71)) w' := keeps_grown (Keeps.refl _) hg (fun k h => by cases h)
  have Hr := (show Hid (_ = _) from hr)
  clear hr hg
  obtain ⟨hc, hf⟩ := hkp.cells
  have hz := hkp.size
  simp only [World.size_alloc] at hc hf hz
  have hz1 : w.heap.size < w'.heap.size := by omega
  have hz2 : w.heap.size + 1 < w'.heap.size := by omega
  have hk' : Keeps w w' := (((Keeps.refl _).alloc _).alloc _).trans hkp
  have hq : w'.cell? ⟨w.heap.size, 3, none⟩ = some (.slice ka s.kept.length kc) := by rw [hc _ _ (by omega)]; simp [go_sem]
  have hs := World.cell?_setCell_same w' ⟨w.heap.size, 3, none⟩ (.slice va s.kept.length vc) hq
  clear hq
  go_enter Tryz.func80, Tryz.ntmps80
  go_wp2_with (at_builtin; refine wpList_append_run rfl _ _ _ rfl rfl rfl Hr.out ?_)
  refine bodyPost_ret (v := sesV s (.slice va s.kept.length vc)) ?_ rfl ?_
  · simp [results, Tryz.results80, go_sem, hc]
  · refine ⟨.slice va s.kept.length vc, ?_, rfl, ?_⟩
    · refine owns_base (base := w.heap.size + 2) ?_ (by omega)
      repeat refine ownsRow_setCell_below ?_ (by simp <;> omega) _
      exact ho
    · repeat refine Keeps.set ?_ (by simp <;> omega) _
      exact hk'

set_option maxHeartbeats 1000000 in
theorem own_c (s : Ses) (kv : Value) (w : World) (hk : KeptAt w kv s.kept) (hn : s.kept.length ≤ 3) :
    Calls Tryz.prog 59 #[sesV s kv] w fun e w' => ∃ kv', w'.ownsRow w.heap.size 73 2 kv' s.kept.length (repCells s.kept) ∧ e = .returned (sesV s kv') ∧ Keeps w w' := by
  obtain ⟨ka, kc, rfl, hlen⟩ := hk.len
  have hsz2 : ((w.alloc (.cells #[.int .i64 s.client, .int .i64 s.acked, .int .i64 s.seen, .slice ka s.kept.length kc] 71)).alloc (.cells #[.int .i64 0, .int .i64 0, .int .i64 0, .slice none 0 0] 71)).heap.size = w.heap.size + 1 + 1 := by simp
  have hmade := World.ownsRow_made (base := w.heap.size + 2) (e := 73) (size := 2) ((w.alloc (.cells #[.int .i64 s.client, .int .i64 s.acked, .int .i64 s.seen, .slice ka s.kept.length kc] 71)).alloc (.cells #[.int .i64 0, .int .i64 0, .int .i64 0, .slice none 0 0] 71)) #[] 0 (by simp) (by unfold maxLen; omega) rfl
  rw [hsz2] at hmade
  have hkW := hk.keep ((((Keeps.refl w).alloc (.cells #[.int .i64 s.client, .int .i64 s.acked, .int .i64 s.seen, .slice ka s.kept.length kc] 71)).alloc (.cells #[.int .i64 0, .int .i64 0, .int .i64 0, .slice none 0 0] 71)).alloc (.cells #[] 73))
  obtain ⟨v', w', hr, ho, hg⟩ := run_append_read _ (w.heap.size + 2) 69 69 73 2 16 _ infoRep Tryz.underlying69 rfl (by decide) _ 0 [] hmade _ _ _ hkW (repCells_one _) (by unfold maxLen; omega) (by omega) (by simp)
  simp only [Nat.zero_add, List.nil_append] at ho
  clear hkW hk hmade
  obtain ⟨va, vc, rfl⟩ : ∃ va vc, v' = .slice va s.kept.length vc := by obtain ⟨x, y, h, _⟩ := (RowAt.of_owns ho).len; exact ⟨x, y, h⟩
  have hkp : Keeps ((w.alloc (.cells #[.int .i64 s.client, .int .i64 s.acked, .int .i64 s.seen, .slice ka s.kept.length kc] 71)).alloc (.cells #[.int .i64 0, .int .i64 0, .int .i64 0, .slice none 0 0] 71)) w' :=
    keeps_grown ((Keeps.refl _).alloc _) hg (fun k h => by simp [Value.ownBlock] at h; simp; omega)
  have Hr := (show Hid (_ = _) from hr)
  clear hr hg hsz2
  obtain ⟨hc, hf⟩ := hkp.cells
  have hz := hkp.size
  simp only [World.size_alloc] at hc hf hz
  have hz1 : w.heap.size < w'.heap.size := by omega
  have hz2 : w.heap.size + 1 < w'.heap.size := by omega
  have hk' : Keeps w w' := (((Keeps.refl _).alloc _).alloc _).trans hkp
  have hq : w'.cell? ⟨w.heap.size, 3, none⟩ = some (.slice ka s.kept.length kc) := by rw [hc _ _ (by omega)]; simp [go_sem]
  have hs := World.cell?_setCell_same w' ⟨w.heap.size, 3, none⟩ (.slice va s.kept.length vc) hq
  clear hq
  go_enter Tryz.func59, Tryz.ntmps59
  go_wp2_with (at_builtin; refine wpList_append_run rfl _ _ _ rfl rfl rfl Hr.out ?_)
  refine bodyPost_ret (v := sesV s (.slice va s.kept.length vc)) ?_ rfl ?_
  · simp [results, Tryz.results59, go_sem, hc]
  · refine ⟨.slice va s.kept.length vc, ?_, rfl, ?_⟩
    · refine owns_base (base := w.heap.size + 2) ?_ (by omega)
      repeat refine ownsRow_setCell_below ?_ (by simp <;> omega) _
      exact ho
    · repeat refine Keeps.set ?_ (by simp <;> omega) _
      exact hk'
end Go.Proofs.YteabfjpajgakiagGreat

/- sess.Find and the reference's FindOf. -/
set_option linter.unusedSimpArgs false
set_option linter.unusedVariables false
namespace Go.Proofs.YteabfjpajgakiagGreat
open Go.RowKit

theorem keptOk_len (hi : Int) : ∀ (l : List (Int × Int)) (lo : Int), keptOk hi lo l = true → (l.length : Int) ≤ max 0 (hi + 1 - lo)
  | [], lo, _ => by simp; omega
  | (q, v) :: r, lo, h => by
    simp only [keptOk, Bool.and_eq_true] at h
    have h1 := inB_iff.1 h.1.1
    have := keptOk_len hi r (q + 1) h.2
    simp only [List.length_cons]
    omega

/-- What a right session has. -/
theorem ses_right {s : Ses} (h : sesErr s = 0) : inB s.client 1 5 = true ∧ inB s.acked 0 60 = true ∧ inB s.seen 0 999 = true ∧ keptOk (min (s.acked + 3) 60) (s.acked + 1) s.kept = true := by
  unfold sesErr at h
  split at h
  · cases h
  · rename_i h1
    split at h
    · cases h
    · rename_i h2
      simp only [Bool.not_eq_true', Bool.and_eq_false_iff, not_or, Bool.not_eq_false] at h1 h2
      exact ⟨h1.1.1, h1.1.2, h1.2, h2⟩
theorem kept_le {s : Ses} (h : sesErr s = 0) : s.kept.length ≤ 3 := by
  have := keptOk_len _ _ _ (ses_right h).2.2.2
  omega

theorem firstErr_zero : ∀ {L : List Ses}, firstErr L = 0 → ∀ s ∈ L, sesErr s = 0
  | [], _, s, hs => by cases hs
  | a :: r, h, s, hs => by
    unfold firstErr at h
    cases e : (sesErr a == 0) with
    | false => rw [e] at h; simp at h; simp [h] at e
    | true =>
      rw [e] at h
      simp only [if_true] at h
      rcases List.mem_cons.1 hs with rfl | hs
      · simpa using e
      · exact firstErr_zero h s hs

/-- What a right table has. -/
theorem tab_right {L : List Ses} (h : tabErr L = 0) : L.length ≤ 3 ∧ (∀ s ∈ L, sesErr s = 0) ∧ rising L = true := by
  unfold tabErr at h
  split at h
  · cases h
  · rename_i h3
    split at h
    · rename_i hf
      split at h
      · rename_i hr
        exact ⟨by omega, firstErr_zero (by simpa using hf), hr⟩
      · cases h
    · rename_i hf
      simp only [beq_iff_eq] at hf
      exact absurd h hf

def zeroSes : Ses := ⟨0, 0, 0, []⟩
def findSes (L : List Ses) (c : Int) : Option Ses := L.find? (fun s => s.client == c)
theorem findSes_at {L : List Ses} {c : Int} {k : Nat} (h : k < L.length) : findSes (L.drop k) c = if (L[k]).client == c then some (L[k]) else findSes (L.drop (k + 1)) c := by
  rw [List.drop_eq_getElem_cons h]
  simp only [findSes, List.find?_cons]
  cases ((L[k]).client == c) <;> rfl


end Go.Proofs.YteabfjpajgakiagGreat

/- The reference's find and FindOf. -/
set_option linter.unusedSimpArgs false
set_option linter.unusedVariables false
namespace Go.Proofs.YteabfjpajgakiagGreat
open Go.RowKit

set_option maxHeartbeats 1000000 in
theorem find_ix (L : List Ses) (v : Value) (c : Int) (w : World) (hT : TabAt w v L) :
    Calls Tryz.prog 75 #[v, .int .i64 c] w fun e w' => ∃ r : Int, e = .returned (.int .i64 r) ∧ w = w' ∧ ((r = -1 ∧ findSes L c = none) ∨ ∃ (k : Nat) (h : k < L.length), r = k ∧ findSes L c = some (L[k])) := by
  obtain ⟨a, cap, rfl, hlen⟩ := hT.len
  unfold maxLen at hlen
  have HT : Hid (TabAt w (.slice a L.length cap) L) := hT
  clear hT
  go_enter Tryz.func75, Tryz.ntmps75
  go_wp2_with fail
  go_loop [5] (fun i => ∃ (k : Nat), k ≤ L.length ∧ i = .int .i64 k ∧ Hid (findSes L c = findSes (L.drop k) c)) (fun i => L.length - (intOf i).toNat)
  case atStart => exact ⟨0, Nat.zero_le _, rfl, rfl⟩
  case round =>
    obtain ⟨k, hk, rfl, HQ⟩ := hrel
    by_cases hlt : k < L.length
    · obtain ⟨b, off, cap', hv, hcell⟩ := HT.out.at hlt
      injection hv with hv1 hv2 hv3
      subst hv1
      clear hv2 hv3
      obtain ⟨c0, _, _, _, _, _, _⟩ := hcell k hlt
      clear hcell
      have HR : Hid (findSes L c = if (L[k]).client == c then some (L[k]) else findSes (L.drop (k + 1)) c) := HQ.out.trans (findSes_at hlt)
      clear HQ
      cases hq : ((L[k]).client == c) with
      | true =>
        have HN : Hid (findSes L c = some (L[k])) := by show _ = _; rw [HR.out, hq]; rfl
        go_wp2_with fail
        go_ret
        first | exact ⟨k, rfl, rfl, .inr ⟨k, hlt, rfl, HN.out⟩⟩ | exact ⟨k, rfl, rfl, .inr ⟨k, rfl, hlt, HN.out⟩⟩
      | false =>
        have HN : Hid (findSes L c = findSes (L.drop (k + 1)) c) := by show _ = _; rw [HR.out, hq]; rfl
        go_wp2_with fail
        go_round
        case rel => exact ⟨k + 1, by omega, by go_num, HN⟩
        case measure => simp [intOf]; omega
    · have HN : Hid (findSes L c = none) := HQ.out.trans (by rw [List.drop_of_length_le (by omega)]; rfl)
      go_wp2_with fail
      go_ret
      exact ⟨-1, rfl, rfl, .inl ⟨rfl, HN.out⟩⟩
end Go.Proofs.YteabfjpajgakiagGreat

/- sess.those: the sessions that are wanted, in memory of their own. -/
set_option linter.unusedSimpArgs false
set_option linter.unusedVariables false
namespace Go.Proofs.YteabfjpajgakiagGreat
open Go.RowKit

/-- The answers that are kept lie in rows of the call's own. -/
def KeptsOwn (base : Nat) (w : World) : List Ses → List Value → Prop
  | [], [] => True
  | s :: r, k :: ks => w.ownsRow base 73 2 k s.kept.length (repCells s.kept) ∧ KeptsOwn base w r ks
  | _, _ => False
/-- A table of the call's own. -/
def OwnTab (base : Nat) (w : World) (v : Value) (L : List Ses) : Prop := ∃ ks, KeptsOwn base w L ks ∧ w.ownsRow base 71 4 v L.length (sesCells L ks)

theorem owns_apart {w : World} {base base' : Nat} {e e' : TypeId} {size size' : Nat} {v v' : Value} {n n' : Nat} {xs xs' : List Value} (h : w.ownsRow base e size v n xs) (h' : w.ownsRow base' e' size' v' n' xs') (hne : e ≠ e') : v.ownBlock = none ∨ v.ownBlock ≠ v'.ownBlock := by
  rcases h.2 with ⟨rfl, _⟩ | ⟨g, cap, cur, rfl, _, hg, _⟩
  · exact .inl rfl
  · rcases h'.2 with ⟨rfl, _⟩ | ⟨g', cap', cur', rfl, _, hg', _⟩
    · right; simp [Value.ownBlock]
    · right
      simp only [Value.ownBlock]
      intro e1
      injection e1 with e1
      subst e1
      rw [hg] at hg'
      simp at hg'
      exact hne hg'.2

theorem KeptsOwn.kept {base : Nat} {w w' : World} {row : Value} {m size : Nat} {ys : List Value} (hrow : w.ownsRow base 71 size row m ys) (hg : w.grownBy w' row.ownBlock) : ∀ {L : List Ses} {ks : List Value}, KeptsOwn base w L ks → KeptsOwn base w' L ks
  | [], [], _ => trivial
  | _ :: _, _ :: _, h => ⟨h.1.kept hg (owns_apart h.1 hrow (by decide)), KeptsOwn.kept hrow hg h.2⟩

theorem owns_keep {w w' : World} {base : Nat} {e : TypeId} {size : Nat} {v : Value} {n : Nat} {xs : List Value} (h : w.ownsRow base e size v n xs) (hk : Keeps w w') : w'.ownsRow base e size v n xs := by
  refine h.kept (row := none) ⟨hk.os, hk.tape, hk.output, hk.size, fun k hk' _ => hk.block k hk'⟩ ?_
  cases hv : v.ownBlock <;> simp

theorem KeptsOwn.keep {base : Nat} {w w' : World} (hk : Keeps w w') : ∀ {L : List Ses} {ks : List Value}, KeptsOwn base w L ks → KeptsOwn base w' L ks
  | [], [], _ => trivial
  | _ :: _, _ :: _, h => ⟨owns_keep h.1 hk, KeptsOwn.keep hk h.2⟩
theorem OwnTab.keep {base : Nat} {w w' : World} {v : Value} {L : List Ses} (h : OwnTab base w v L) (hk : Keeps w w') : OwnTab base w' v L := by
  obtain ⟨ks, h1, h2⟩ := h
  exact ⟨ks, h1.keep hk, owns_keep h2 hk⟩
theorem KeptsOwn.at {base : Nat} {w : World} : ∀ {L : List Ses} {ks : List Value}, KeptsOwn base w L ks → KeptsAt w L ks
  | [], [], _ => trivial
  | _ :: _, _ :: _, h => ⟨RowAt.of_owns h.1, KeptsOwn.at h.2⟩
theorem OwnTab.tab {base : Nat} {w : World} {v : Value} {L : List Ses} (h : OwnTab base w v L) : TabAt w v L := by
  obtain ⟨ks, h1, h2⟩ := h
  exact ⟨ks, h1.at, RowAt.of_owns h2⟩
theorem KeptsOwn.base {base base' : Nat} {w : World} (hb : base' ≤ base) : ∀ {L : List Ses} {ks : List Value}, KeptsOwn base w L ks → KeptsOwn base' w L ks
  | [], [], _ => trivial
  | _ :: _, _ :: _, h => ⟨owns_base h.1 hb, KeptsOwn.base hb h.2⟩
theorem OwnTab.base {base base' : Nat} {w : World} {v : Value} {L : List Ses} (h : OwnTab base w v L) (hb : base' ≤ base) : OwnTab base' w v L := by
  obtain ⟨ks, h1, h2⟩ := h
  exact ⟨ks, h1.base hb, owns_base h2 hb⟩
theorem OwnTab.nil (base : Nat) (w : World) : OwnTab base w (.slice none 0 0) [] := ⟨[], trivial, World.ownsRow_nil _ _ _ _⟩

theorem sesCells_append : ∀ (L M : List Ses) (ks ms : List Value), ks.length = L.length → sesCells (L ++ M) (ks ++ ms) = sesCells L ks ++ sesCells M ms
  | [], M, [], ms, _ => rfl
  | [], M, _ :: _, ms, h => by simp at h
  | _ :: _, M, [], ms, h => by simp at h
  | s :: L, M, k :: ks, ms, h => by simp [sesCells, sesCells_append L M ks ms (by simpa using h)]
theorem KeptsOwn.append {base : Nat} {w : World} : ∀ {L M : List Ses} {ks ms : List Value}, KeptsOwn base w L ks → KeptsOwn base w M ms → KeptsOwn base w (L ++ M) (ks ++ ms)
  | [], _, [], _, _, h => h
  | _ :: _, _, _ :: _, _, h, h' => ⟨h.1, KeptsOwn.append h.2 h'⟩
theorem KeptsOwn.len {base : Nat} {w : World} {L : List Ses} {ks : List Value} (h : KeptsOwn base w L ks) : ks.length = L.length := h.at.len

theorem sesCells_one (L : List Ses) : ∀ (ks : List Value), (∀ k ∈ ks, k.oneCell' = true) → ∀ u ∈ sesCells L ks, u.oneCell' = true := by
  induction L with
  | nil => intro ks _ u h; simp [sesCells] at h
  | cons s r ih =>
    intro ks hk u h
    cases ks with
    | nil => simp [sesCells] at h
    | cons k ks =>
      simp only [sesCells, List.mem_cons] at h
      rcases h with rfl | rfl | rfl | rfl | h
      · rfl
      · rfl
      · rfl
      · exact hk _ (List.mem_cons_self ..)
      · exact ih ks (fun k' h' => hk k' (List.mem_cons_of_mem _ h')) u h
theorem KeptsAt.one {w : World} : ∀ {L : List Ses} {ks : List Value}, KeptsAt w L ks → ∀ k ∈ ks, k.oneCell' = true
  | [], [], _, k, h => by cases h
  | _ :: _, k0 :: ks, h, k, hm => by
    rcases List.mem_cons.1 hm with rfl | hm
    · obtain ⟨a, cap, rfl, _⟩ := h.1.len; rfl
    · exact KeptsAt.one h.2 k hm

/-- 'append(out, ts...)', out the call's own, ts a table of the call's own. -/
theorem run_append_tab (w : World) (base : Nat) (v : Value) (L : List Ses) (h : OwnTab base w v L) (x : Value) (M : List Ses) (ms : List Value) (hM : KeptsOwn base w M ms) (hx : RowAt w 4 x M.length (sesCells M ms))
    (hlen : L.length + M.length ≤ 100) (hbase : base ≤ w.heap.size) :
    ∃ v' w', (Builtin.append_ #[23, 23] 23 #[v, x]).run Tryz.prog w = .ok v' w' ∧ OwnTab base w' v' (L ++ M) ∧ w.grownBy w' v.ownBlock ∧ (∀ k, v.ownBlock = some k → base ≤ k) := by
  obtain ⟨ks, h1, h2⟩ := h
  obtain ⟨v', w', hr, ho, hg⟩ := run_append_read w base 23 23 71 4 48 _ infoSes Tryz.underlying23 rfl (by decide) v L.length _ h2 x M.length _ hx (sesCells_one M ms hM.at.one) (by unfold maxLen; omega) (by omega) hbase
  refine ⟨v', w', hr, ⟨ks ++ ms, (h1.kept h2 hg).append (hM.kept h2 hg), ?_⟩, hg, fun k hk => (h2.lt k hk).1⟩
  rw [sesCells_append _ _ _ _ h1.len, List.length_append]
  exact ho

/-- A row that has just been laid, with one session in it. -/
theorem row_one (w : World) (s : Ses) (k : Value) : RowAt (w.alloc (.cells #[.int .i64 s.client, .int .i64 s.acked, .int .i64 s.seen, k] 71)) 4 (.slice (some ⟨w.heap.size, 0, none⟩) 1 1) [s].length (sesCells [s] [k]) := by
  refine ⟨rfl, by unfold maxLen; simp, .inr ⟨⟨w.heap.size, 0, none⟩, 1, rfl, fun j u hu => ?_⟩⟩
  rw [Addr.add_lit, Nat.zero_add, World.cell?_alloc_new]
  simpa [sesCells] using hu

theorem filter_take {p : Ses → Bool} {L : List Ses} {k : Nat} (h : k < L.length) : (L.take (k + 1)).filter p = (L.take k).filter p ++ (if p (L[k]) then [L[k]] else []) := by
  rw [List.take_succ_eq_append_getElem h, List.filter_append]
  cases hp : p (L[k]) <;> simp [hp]

set_option maxHeartbeats 2000000 in
theorem those_c (f : Nat) (cv : Value) (p : Ses → Bool) (L : List Ses) (v : Value) (w : World) (hT : TabAt w v L) (h3 : L.length ≤ 3) (hk3 : ∀ s ∈ L, s.kept.length ≤ 3)
    (hcall : ∀ args W, (callFunc f args).run Tryz.prog W = .ok (.enter f args) W)
    (hcl : Hid (∀ (W : World) (s : Ses) (kv : Value), Keeps w W → KeptAt W kv s.kept → Calls Tryz.prog f #[sesV s kv, cv] W fun e w' => e = .returned (.bool (p s)) ∧ Keeps W w')) :
    Calls Tryz.prog 99 #[v, .func (.func f) #[] #[cv]] w fun e w' => ∃ v', OwnTab w.heap.size w' v' (L.filter p) ∧ e = .returned v' ∧ Keeps w w' := by
  obtain ⟨a, cap, rfl, hlen⟩ := hT.len
  unfold maxLen at hlen
  have HT : Hid (TabAt w (.slice a L.length cap) L) := hT
  have HK3 : Hid (∀ s ∈ L, s.kept.length ≤ 3) := hk3
  clear hT hk3
  go_enter Tryz.func99, Tryz.ntmps99
  go_wp2_with fail
  go_loopw [5, 10] (fun o i wr => ∃ (k : Nat), k ≤ L.length ∧ i = .int .i64 k ∧ Keeps w wr ∧ Hid (OwnTab w.heap.size wr o ((L.take k).filter p))) (fun _ i _ => L.length - (intOf i).toNat)
  case atStart => exact ⟨0, Nat.zero_le _, rfl, Keeps.refl _, OwnTab.nil _ _⟩
  case round =>
    obtain ⟨k, hk, rfl, hkw, HO⟩ := hrel
    by_cases hlt : k < L.length
    · obtain ⟨b, off, cap', hv, hcell⟩ := (HT.out.keep hkw).at hlt
      injection hv with hv1 hv2 hv3
      subst hv1
      clear hv2 hv3
      obtain ⟨c0, c1, c2, ka, kc, c3, hkv⟩ := hcell k hlt
      clear hcell
      have HKV : Hid (KeptAt wr (.slice ka (L[k]).kept.length kc) (L[k]).kept) := hkv
      clear hkv
      have HF : Hid ((L.take (k + 1)).filter p = (L.take k).filter p ++ (if p (L[k]) then [L[k]] else [])) := filter_take hlt
      have hn3 : (L[k]).kept.length ≤ 3 := HK3.out _ (List.getElem_mem hlt)
      have hfl : ((L.take k).filter p).length ≤ 3 := Nat.le_trans (List.length_filter_le _ _) (by simp; omega)
      generalize L[k] = s at *
      generalize hO : (L.take k).filter p = O at *
      go_wp2_with fail
      refine (hcl.out _ s _ (hkw.alloc _) (HKV.out.keep ((Keeps.refl _).alloc _))).mono ?_
      rintro e w1 ⟨rfl, hb1⟩
      obtain ⟨hc1, hf1⟩ := hb1.cells
      have hz1 := hb1.size
      simp only [World.size_alloc] at hc1 hf1 hz1
      have hz1' : wr.heap.size < w1.heap.size := by omega
      have hk1 : Keeps wr w1 := ((Keeps.refl _).alloc _).trans hb1
      clear hb1
      cases hp : p s with
      | false =>
        have HO1 : Hid (OwnTab w.heap.size w1 u5 ((L.take (k + 1)).filter p)) := by show OwnTab _ _ _ _; rw [HF.out, hp]; simpa using HO.out.keep hk1
        go_wp2_with fail
        go_roundw
        case rel => exact ⟨k + 1, by omega, by go_num, hkw.trans hk1, HO1⟩
        case measure => simp [intOf]; omega
      | true =>
        go_wp2_with fail
        refine (twin_c s _ _ (HKV.out.keep hk1) hn3).mono ?_
        rintro e w2 ⟨kv', ho, rfl, hb2⟩
        obtain ⟨va, vc, rfl⟩ : ∃ va vc, kv' = .slice va s.kept.length vc := by obtain ⟨x, y, h, _⟩ := (RowAt.of_owns ho).len; exact ⟨x, y, h⟩
        have hb12 : w.heap.size ≤ w1.heap.size := Nat.le_trans hkw.size hk1.size
        have hk2 : Keeps wr w2 := hk1.trans hb2
        have hM : KeptsOwn w.heap.size (w2.alloc (.cells #[.int .i64 s.client, .int .i64 s.acked, .int .i64 s.seen, .slice va s.kept.length vc] 71)) [s] [.slice va s.kept.length vc] := ⟨owns_keep (owns_base ho hb12) ((Keeps.refl _).alloc _), trivial⟩
        obtain ⟨v', w', hr, hO', hg, hbk⟩ := run_append_tab (w2.alloc (.cells #[.int .i64 s.client, .int .i64 s.acked, .int .i64 s.seen, .slice va s.kept.length vc] 71)) w.heap.size u5 O ((HO.out.keep hk2).keep ((Keeps.refl _).alloc _)) _ [s] _ hM (row_one w2 s _) (by simp; omega) (by simp; have := hkw.size; have := hk2.size; omega)
        have hk' : Keeps w w' := keeps_grown ((hkw.trans hk2).alloc _) hg hbk
        have Hr := (show Hid (_ = _) from hr)
        have HO1 : Hid (OwnTab w.heap.size w' v' ((L.take (k + 1)).filter p)) := by show OwnTab _ _ _ _; rw [HF.out, hp]; exact hO'
        clear hr hM hO' hg hbk ho hb2 HO HF HKV
        go_wp2_with (at_builtin; refine wpList_append_run rfl _ _ _ rfl rfl rfl Hr.out ?_)
        go_roundw
        case rel => exact ⟨k + 1, by omega, by go_num, hk', HO1⟩
        case measure => simp [intOf]; omega
    · have HO1 : Hid (OwnTab w.heap.size wr u5 (L.filter p)) := by
        have := HO.out
        rw [List.take_of_length_le (by omega)] at this
        exact this
      go_wp2_with fail
      go_ret
      exact ⟨u5, HO1.out, rfl, hkw⟩
end Go.Proofs.YteabfjpajgakiagGreat

/- All that was there is as it was, but for one block. -/
set_option linter.unusedSimpArgs false
set_option linter.unusedVariables false
namespace Go.Proofs.YteabfjpajgakiagGreat
open Go.RowKit

/-- What was there is as it was, but for block b. -/
structure But (b : Nat) (a w : World) : Prop where
  os : w.os = a.os
  tape : w.tape = a.tape
  output : w.output = a.output
  size : a.heap.size ≤ w.heap.size
  block : ∀ k, k < a.heap.size → k ≠ b → w.heap[k]? = a.heap[k]?

theorem But.refl (b : Nat) (w : World) : But b w w := ⟨rfl, rfl, rfl, Nat.le_refl _, fun _ _ _ => rfl⟩
theorem But.trans {b : Nat} {x y z : World} (h : But b x y) (k : But b y z) : But b x z :=
  ⟨k.os.trans h.os, k.tape.trans h.tape, k.output.trans h.output, Nat.le_trans h.size k.size, fun i hi hb => (k.block i (Nat.lt_of_lt_of_le hi h.size) hb).trans (h.block i hi hb)⟩
theorem But.of {b : Nat} {x y : World} (h : Keeps x y) : But b x y := ⟨h.os, h.tape, h.output, h.size, fun k hk _ => h.block k hk⟩
theorem But.keeps {b : Nat} {x y z : World} (h : But b x y) (k : Keeps y z) : But b x z := h.trans (But.of k)
theorem But.set {b : Nat} {x y : World} (h : But b x y) (i : Nat) (u : Value) : But b x (y.setCell ⟨b, i, none⟩ u) :=
  h.trans ⟨rfl, rfl, rfl, by simp [World.setCell], fun k _ hk => Below.heap_setCell _ _ _ _ hk⟩
/-- Where the block is younger than all that was there. -/
theorem But.to {b : Nat} {a x y : World} (ha : Keeps a x) (hb : a.heap.size ≤ b) (h : But b x y) : Keeps a y :=
  Below.trans ha (⟨h.os, h.tape, h.output, h.size, fun k hk => h.block k (Nat.lt_of_lt_of_le hk ha.size) (by omega)⟩ : Below a.heap.size x y)
theorem But.cell {b : Nat} {x y : World} (h : But b x y) {p : Addr} (hp : p.block < x.heap.size) (hb : p.block ≠ b) : y.cell? p = x.cell? p := World.cell?_of_block (w := x) (h.block p.block hp hb)
theorem But.frozen {b : Nat} {x y : World} (h : But b x y) {p : Addr} (hp : p.block < x.heap.size) (hb : p.block ≠ b) : y.frozen? p = x.frozen? p := World.frozen?_of_block (w := x) (h.block p.block hp hb)
theorem But.at {b : Nat} {x y : World} (h : But b x y) {p : Addr} {u : Value} (hu : x.cell? p = some u) (hb : p.block ≠ b) : y.cell? p = some u := (h.cell (World.block_lt_of_cell? _ _ hu) hb).trans hu

/-- It lies apart from block b. -/
def KeptFar (b : Nat) (w : World) (v : Value) (l : List (Int × Int)) : Prop := ∀ w', But b w w' → KeptAt w' v l
def TabFar (b : Nat) (w : World) (v : Value) (L : List Ses) : Prop := ∀ w', But b w w' → TabAt w' v L
theorem KeptFar.kept {b : Nat} {w : World} {v : Value} {l : List (Int × Int)} (h : KeptFar b w v l) : KeptAt w v l := h w (But.refl _ _)
theorem TabFar.tab {b : Nat} {w : World} {v : Value} {L : List Ses} (h : TabFar b w v L) : TabAt w v L := h w (But.refl _ _)
theorem KeptFar.go {b : Nat} {w w' : World} {v : Value} {l : List (Int × Int)} (h : KeptFar b w v l) (k : But b w w') : KeptFar b w' v l := fun _ h' => h _ (k.trans h')
theorem TabFar.go {b : Nat} {w w' : World} {v : Value} {L : List Ses} (h : TabFar b w v L) (k : But b w w') : TabFar b w' v L := fun _ h' => h _ (k.trans h')

/-- What was there ahead of the block. -/
theorem KeptAt.far {b : Nat} {w w' : World} {v : Value} {l : List (Int × Int)} (h : KeptAt w v l) (hk : Keeps w w') (hb : w.heap.size ≤ b) : KeptFar b w' v l := fun _ h' => h.keep (But.to hk hb h')
theorem TabAt.far {b : Nat} {w w' : World} {v : Value} {L : List Ses} (h : TabAt w v L) (hk : Keeps w w') (hb : w.heap.size ≤ b) : TabFar b w' v L := fun _ h' => h.keep (But.to hk hb h')

theorem owns_far {b base : Nat} {w w' : World} {e : TypeId} {size : Nat} {v : Value} {n : Nat} {xs : List Value} (h : w.ownsRow base e size v n xs) (hb : b < base) (hk : But b w w') : w'.ownsRow base e size v n xs := by
  refine h.kept (row := some b) ⟨hk.os, hk.tape, hk.output, hk.size, fun k hk' hne => hk.block k hk' (fun e => hne (by rw [e]))⟩ ?_
  rcases h.2 with ⟨rfl, _⟩ | ⟨g, cap, cur, rfl, hg, _⟩
  · exact .inl rfl
  · right
    simp only [Value.ownBlock, ne_eq, Option.some.injEq]
    omega
theorem KeptsOwn.far {b base : Nat} {w w' : World} (hb : b < base) (hk : But b w w') : ∀ {L : List Ses} {ks : List Value}, KeptsOwn base w L ks → KeptsOwn base w' L ks
  | [], [], _ => trivial
  | _ :: _, _ :: _, h => ⟨owns_far h.1 hb hk, KeptsOwn.far hb hk h.2⟩
theorem OwnTab.but {b base : Nat} {w w' : World} {v : Value} {L : List Ses} (h : OwnTab base w v L) (hb : b < base) (hk : But b w w') : OwnTab base w' v L := by
  obtain ⟨ks, h1, h2⟩ := h
  exact ⟨ks, h1.far hb hk, owns_far h2 hb hk⟩
/-- What is the call's own lies apart from what was there. -/
theorem OwnTab.far {b base : Nat} {w : World} {v : Value} {L : List Ses} (h : OwnTab base w v L) (hb : b < base) : TabFar b w v L := fun _ hk => (h.but hb hk).tab
end Go.Proofs.YteabfjpajgakiagGreat
