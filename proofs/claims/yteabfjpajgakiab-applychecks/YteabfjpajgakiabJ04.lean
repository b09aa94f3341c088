/- OpB, ApA, OpenEnt, SesI, SesJ, SesK, SesL. -/
import Derived.Test.YteabfjpajgakiabJ00
import Derived.Test.YteabfjpajgakiabJ01
import Derived.Test.YteabfjpajgakiabJ02
import Derived.Test.YteabfjpajgakiabJ03
/- Contracts of package op: inBounds, Check. -/
namespace Go.Proofs.Yteabfjpajgakiab
open Go.RowKit

def stepOf (k : Int) : Value := if k == 1 then .func (.func 62) #[] #[] else if k == 2 then .func (.func 63) #[] #[] else if k == 3 then .func (.func 65) #[] #[] else if k == 4 then .func (.func 66) #[] #[] else .nilFunc

theorem look_run (w : World) (r : Nat) (k : Int) (hb : w.heap[r]? = some stepsMap) : (Instr.lookup 71 (.map (some r)) (.int .i64 k) false).run Try.prog w = .ok (stepOf k) w := by
  unfold stepsMap at hb
  have h2 := run_getObj_map (P := Try.prog) w r _ _ hb
  have h3 := ck_run false 9999 k w
  have hz : (zeroValue 70).run Try.prog w = .ok .nilFunc w := by kernel_rfl
  unfold Instr.lookup stepOf
  by_cases e1 : k = 1
  · subst e1
    have h4 := fk_run 1 [⟨.int .i64 1, .func (.func 62) #[] #[], 0⟩, ⟨.int .i64 2, .func (.func 63) #[] #[], 1⟩, ⟨.int .i64 3, .func (.func 65) #[] #[], 2⟩, ⟨.int .i64 4, .func (.func 66) #[] #[], 3⟩] _ w rfl
    simp [run_underlying Try.underlying71, h2, h3, h4]
  by_cases e2 : k = 2
  · subst e2
    have h4 := fk_run 2 [⟨.int .i64 1, .func (.func 62) #[] #[], 0⟩, ⟨.int .i64 2, .func (.func 63) #[] #[], 1⟩, ⟨.int .i64 3, .func (.func 65) #[] #[], 2⟩, ⟨.int .i64 4, .func (.func 66) #[] #[], 3⟩] _ w rfl
    simp [run_underlying Try.underlying71, h2, h3, h4]
  by_cases e3 : k = 3
  · subst e3
    have h4 := fk_run 3 [⟨.int .i64 1, .func (.func 62) #[] #[], 0⟩, ⟨.int .i64 2, .func (.func 63) #[] #[], 1⟩, ⟨.int .i64 3, .func (.func 65) #[] #[], 2⟩, ⟨.int .i64 4, .func (.func 66) #[] #[], 3⟩] _ w rfl
    simp [run_underlying Try.underlying71, h2, h3, h4]
  by_cases e4 : k = 4
  · subst e4
    have h4 := fk_run 4 [⟨.int .i64 1, .func (.func 62) #[] #[], 0⟩, ⟨.int .i64 2, .func (.func 63) #[] #[], 1⟩, ⟨.int .i64 3, .func (.func 65) #[] #[], 2⟩, ⟨.int .i64 4, .func (.func 66) #[] #[], 3⟩] _ w rfl
    simp [run_underlying Try.underlying71, h2, h3, h4]
  have h4 := fk_run k [⟨.int .i64 1, .func (.func 62) #[] #[], 0⟩, ⟨.int .i64 2, .func (.func 63) #[] #[], 1⟩, ⟨.int .i64 3, .func (.func 65) #[] #[], 2⟩, ⟨.int .i64 4, .func (.func 66) #[] #[], 3⟩] none w (by simp only [Instr.findNow, Instr.sameNow, if_true, beq_eq_false_iff_ne.2 e1, beq_eq_false_iff_ne.2 e2, beq_eq_false_iff_ne.2 e3, beq_eq_false_iff_ne.2 e4])
  simp [run_underlying Try.underlying71, h2, h3, h4, hz, e1, e2, e3, e4]

def opIn (k key tk n : Int) : Bool :=
  inB key 0 3 && (!(k == 3) || inB tk 0 3) && (if k == 2 then inB n (-999) 999 else !(k != 4) || inB n 0 999)

theorem in_bounds (k key tk n : Int) (w : World) :
    Calls Try.prog 50 #[opV k key tk n] w fun e w' => e = .returned (.bool (opIn k key tk n)) ∧ Keeps w w' := by
  unfold opV
  go_enter Try.func50, Try.ntmps50
  go_wp2_with (first | (go_at_call 26; refine (bound_in _ _ _ _).mono ?_; rintro e w' ⟨rfl, rfl⟩) | (go_at_call 67; refine (is_key _ _).mono ?_; rintro e w' ⟨rfl, rfl⟩) | (go_at_call 43; refine (is_val _ _).mono ?_; rintro e w' ⟨rfl, rfl⟩) | (go_at_call 51; refine (has_to _ _ _ _ _).mono ?_; rintro e w' ⟨rfl, rfl⟩) | (go_at_call 52; refine (has_n _ _ _ _ _).mono ?_; rintro e w' ⟨rfl, rfl⟩))
  all_goals go_ret
  all_goals refine ⟨?_, by repeat (first | exact Keeps.refl _ | refine Keeps.alloc ?_ _ | refine Keeps.drew ?_)⟩
  all_goals (go_tidy; simp_all [opIn])

theorem heap_at (w : World) (o : Obj) : (w.alloc o).heap[w.heap.size]? = some o := by simp only [World.alloc, Array.getElem?_push_size]

def opErr (k key tk n : Int) : Int :=
  if !(k == 1 || k == 2 || k == 3 || k == 4) then 4 else if !opIn k key tk n then 3 else if (!(k == 3) && tk != 0) || (!(k != 4) && n != 0) then 1 else 0


theorem eql_nil (w : World) : (binOp .eql 70 .nilFunc .nilFunc).run Try.prog w = .ok (.bool true) w := by kernel_rfl
theorem eql_fn (f : Nat) (w : World) : (binOp .eql 70 (.func (.func f) #[] #[]) .nilFunc).run Try.prog w = .ok (.bool false) w := by kernel_rfl
theorem look_two (w : World) (o : Obj) (k : Int) : (Instr.lookup 71 (.map (some (w.heap.size + 1))) (.int .i64 k) false).run Try.prog ((w.alloc o).alloc stepsMap).drew = .ok (stepOf k) ((w.alloc o).alloc stepsMap).drew :=
  look_run _ _ _ (by have := heap_at (w.alloc o) stepsMap; rw [World.size_alloc] at this; exact this)

theorem op_check_bad (k key tk n : Int) (w : World) (h1 : (k == 1) = false) (h2 : (k == 2) = false) (h3 : (k == 3) = false) (h4 : (k == 4) = false) :
    Calls Try.prog 36 #[opV k key tk n] w fun e w' => e = .returned (.int .i64 (opErr k key tk n)) ∧ Keeps w w' := by
  have hl := fun o => look_two w o k
  have hn := eql_nil
  have hs : stepOf k = .nilFunc := by simp only [stepOf, h1, h2, h3, h4, Bool.false_eq_true, if_false]
  unfold opV
  go_enter Try.func36, Try.ntmps36
  go_wp2_with fail
  go_region_with (go_at_call 44; refine (steps_c _).mono ?_; rintro e w' ⟨rfl, rfl⟩)
  all_goals go_wp2_with fail
  all_goals go_ret
  all_goals refine ⟨?_, by repeat (first | exact Keeps.refl _ | refine Keeps.alloc ?_ _ | refine Keeps.drew ?_)⟩
  all_goals (go_tidy; simp_all [opErr])

theorem op_check_good (k key tk n : Int) (f : Nat) (w : World) (hs : stepOf k = .func (.func f) #[] #[]) (hk : (k == 1 || k == 2 || k == 3 || k == 4) = true) :
    Calls Try.prog 36 #[opV k key tk n] w fun e w' => e = .returned (.int .i64 (opErr k key tk n)) ∧ Keeps w w' := by
  have hl := fun o => look_two w o k
  have hn := eql_fn f
  unfold opV
  go_enter Try.func36, Try.ntmps36
  go_wp2_with fail
  go_region_with (go_at_call 44; refine (steps_c _).mono ?_; rintro e w' ⟨rfl, rfl⟩)
  all_goals go_wp2_with fail
  all_goals
    refine (in_bounds k key tk n _).mono ?_
    rintro e w1 ⟨rfl, hb⟩
    have hk1 : Keeps w w1 := (((Keeps.refl _).alloc _).alloc _).drew.trans hb
    obtain ⟨hc, hf⟩ := hb.cells
    have hz := hb.size
    simp only [World.size_drew, World.size_alloc] at hc hf hz
    clear hf
    have hz1 : w.heap.size < w1.heap.size := by omega
    go_wp2_with (first | (go_at_call 51; refine (has_to _ _ _ _ _).mono ?_; rintro e w' ⟨rfl, rfl⟩) | (go_at_call 52; refine (has_n _ _ _ _ _).mono ?_; rintro e w' ⟨rfl, rfl⟩))
    all_goals go_ret
    all_goals refine ⟨?_, by repeat (first | exact hk1 | refine Keeps.alloc ?_ _ | refine Keeps.drew ?_)⟩
    all_goals (go_tidy; clear hb; simp_all [opErr])
    all_goals omega

theorem op_check (k key tk n : Int) (w : World) :
    Calls Try.prog 36 #[opV k key tk n] w fun e w' => e = .returned (.int .i64 (opErr k key tk n)) ∧ Keeps w w' := by
  cases h1 : (k == 1) with
  | true => exact op_check_good k key tk n 62 w (by simp [stepOf, h1]) (by simp [h1])
  | false =>
    cases h2 : (k == 2) with
    | true => exact op_check_good k key tk n 63 w (by simp [stepOf, h1, h2]) (by simp [h2])
    | false =>
      cases h3 : (k == 3) with
      | true => exact op_check_good k key tk n 65 w (by simp [stepOf, h1, h2, h3]) (by simp [h3])
      | false =>
        cases h4 : (k == 4) with
        | true => exact op_check_good k key tk n 66 w (by simp [stepOf, h1, h2, h3, h4]) (by simp [h4])
        | false => exact op_check_bad k key tk n w h1 h2 h3 h4
end Go.Proofs.Yteabfjpajgakiab

/- Entries: apply.inBounds, apply.Check. -/
set_option linter.unusedSimpArgs false
set_option linter.unusedVariables false
set_option maxRecDepth 10000
namespace Go.Proofs.Yteabfjpajgakiab
open Go.RowKit

structure Ent where
  kind : Int
  time : Int
  client : Int
  seq : Int
  ack : Int
  ok : Int
  okey : Int
  oto : Int
  on : Int

abbrev entV (e : Ent) : Value := .agg #[.int .i64 e.kind, .int .i64 e.time, .int .i64 e.client, .int .i64 e.seq, .int .i64 e.ack, .int .i64 e.ok, .int .i64 e.okey, .int .i64 e.oto, .int .i64 e.on]

theorem eqop (d : Nat) (a0 a1 a2 a3 b0 b1 b2 b3 : Int) (w : World) : (Op.equalIn (d + 2) 31 (.agg #[.int .i64 a0, .int .i64 a1, .int .i64 a2, .int .i64 a3]) (.agg #[.int .i64 b0, .int .i64 b1, .int .i64 b2, .int .i64 b3])).run Try.prog w = .ok (a0 == b0 && (a1 == b1 && (a2 == b2 && a3 == b3))) w := by
  have p := part3 a0 a1 a2 a3
  have q := part3 b0 b1 b2 b3
  rw [run_equalIn_struct w (d + 1) 31 _ _ (by kernel_rfl) (by kernel_rfl)]
  simp [Program.fieldsOf, Try.underlying31, Op.eqFields, p, q, eqint]
  by_cases h0 : a0 = b0
  · by_cases h1 : a1 = b1
    · by_cases h2 : a2 = b2
      · by_cases h3 : a3 = b3
        · simp [h0, h1, h2, h3]
        · simp [h0, h1, h2, h3]
      · simp [h0, h1, h2]
    · simp [h0, h1]
  · simp [h0]
/-- '!=' between two ops. -/
theorem neqop (a0 a1 a2 a3 b0 b1 b2 b3 : Int) (w : World) : (binOp .neq 31 (.agg #[.int .i64 a0, .int .i64 a1, .int .i64 a2, .int .i64 a3]) (.agg #[.int .i64 b0, .int .i64 b1, .int .i64 b2, .int .i64 b3])).run Try.prog w = .ok (.bool (!(a0 == b0 && (a1 == b1 && (a2 == b2 && a3 == b3))))) w := by
  simp only [binOp]
  have := eqop 9998 a0 a1 a2 a3 b0 b1 b2 b3 w
  simp [Op.equal, Op.maxDepth, this]

def entIn (e : Ent) : Bool := inB e.time 0 999 && (inB e.client 1 5 && (e.kind != 2 || (inB e.seq 1 60 && inB e.ack 0 (e.seq - 1))))
def opNone (e : Ent) : Bool := e.ok == 0 && (e.okey == 0 && (e.oto == 0 && e.on == 0))
def entErr (e : Ent) : Int := if inB e.kind 1 3 then (if entIn e then (if e.kind == 2 then opErr e.ok e.okey e.oto e.on else if e.seq == 0 && (e.ack == 0 && opNone e) then 0 else 1) else 3) else 4

set_option maxHeartbeats 1000000 in
theorem ent_in_bounds (e : Ent) (w : World) : Calls Try.prog 35 #[entV e] w fun x w' => x = .returned (.bool (entIn e)) ∧ Keeps w w' := by
  unfold entIn
  cases q1 : inB e.time 0 999 with
  | false =>
    go_enter Try.func35, Try.ntmps35
    go_wp2_with (first | (go_at_call 26; refine (bound_in _ _ _ _).mono ?_; rintro x w' ⟨rfl, rfl⟩))
    go_ret
    exact ⟨rfl, (Keeps.refl _).alloc _⟩
  | true =>
    cases q2 : inB e.client 1 5 with
    | false =>
      go_enter Try.func35, Try.ntmps35
      go_wp2_with (first | (go_at_call 26; refine (bound_in _ _ _ _).mono ?_; rintro x w' ⟨rfl, rfl⟩))
      go_ret
      exact ⟨rfl, (Keeps.refl _).alloc _⟩
    | true =>
      cases q3 : (e.kind != 2) with
      | true =>
        go_enter Try.func35, Try.ntmps35
        go_wp2_with (first | (go_at_call 26; refine (bound_in _ _ _ _).mono ?_; rintro x w' ⟨rfl, rfl⟩))
        go_ret
        exact ⟨rfl, (Keeps.refl _).alloc _⟩
      | false =>
        cases q4 : inB e.seq 1 60 with
        | false =>
          go_enter Try.func35, Try.ntmps35
          go_wp2_with (first | (go_at_call 26; refine (bound_in _ _ _ _).mono ?_; rintro x w' ⟨rfl, rfl⟩))
          go_ret
          exact ⟨rfl, (Keeps.refl _).alloc _⟩
        | true =>
          have q4' : 1 ≤ e.seq ∧ e.seq ≤ 60 := by simpa [inB] using q4
          obtain ⟨q5, q6⟩ := q4'
          go_enter Try.func35, Try.ntmps35
          go_wp2_with (first | (go_at_call 26; refine (bound_in _ _ _ _).mono ?_; rintro x w' ⟨rfl, rfl⟩))
          go_ret
          exact ⟨rfl, (Keeps.refl _).alloc _⟩

set_option maxHeartbeats 1000000 in
theorem ent_check (e : Ent) (w : World) : Calls Try.prog 15 #[entV e] w fun x w' => x = .returned (.int .i64 (entErr e)) ∧ Keeps w w' := by
  have HE : Hid (entErr e = if inB e.kind 1 3 then (if entIn e then (if e.kind == 2 then opErr e.ok e.okey e.oto e.on else if e.seq == 0 && (e.ack == 0 && opNone e) then 0 else 1) else 3) else 4) := rfl
  have HN : Hid (opNone e = (e.ok == 0 && (e.okey == 0 && (e.oto == 0 && e.on == 0)))) := rfl
  have hn := neqop
  cases q1 : inB e.kind 1 3 with
  | false =>
    have HE : Hid (entErr e = 4) := by show _ = _; rw [HE.out, q1]; rfl
    go_enter Try.func15, Try.ntmps15
    go_wp2_with (first | (go_at_call 26; refine (bound_in _ _ _ _).mono ?_; rintro x w' ⟨rfl, rfl⟩))
    go_ret
    exact ⟨ret_int HE.out.symm, (Keeps.refl _).alloc _⟩
  | true =>
    rw [q1] at HE
    go_enter Try.func15, Try.ntmps15
    go_wp2_with (first | (go_at_call 26; refine (bound_in _ _ _ _).mono ?_; rintro x w' ⟨rfl, rfl⟩))
    refine (ent_in_bounds e _).mono ?_
    rintro x w1 ⟨rfl, hb⟩
    have hk1 : Keeps w w1 := ((Keeps.refl _).alloc _).trans hb
    cases q2 : entIn e with
    | false =>
      have HE : Hid (entErr e = 3) := by show _ = _; rw [HE.out, q2]; rfl
      go_wp2_with fail
      go_ret
      exact ⟨ret_int HE.out.symm, hk1⟩
    | true =>
      have x0 : w1.cell? ⟨w.heap.size, 0, none⟩ = some (.int .i64 e.kind) := (Below.cell hb (p := ⟨w.heap.size, 0, none⟩) (by simp)).trans (by simp [go_sem])
      have x3 : w1.cell? ⟨w.heap.size, 3, none⟩ = some (.int .i64 e.seq) := (Below.cell hb (p := ⟨w.heap.size, 3, none⟩) (by simp)).trans (by simp [go_sem])
      have x4 : w1.cell? ⟨w.heap.size, 4, none⟩ = some (.int .i64 e.ack) := (Below.cell hb (p := ⟨w.heap.size, 4, none⟩) (by simp)).trans (by simp [go_sem])
      have x5 : w1.cell? ⟨w.heap.size, 5, none⟩ = some (.int .i64 e.ok) := (Below.cell hb (p := ⟨w.heap.size, 5, none⟩) (by simp)).trans (by simp [go_sem])
      have x6 : w1.cell? ⟨w.heap.size, 6, none⟩ = some (.int .i64 e.okey) := (Below.cell hb (p := ⟨w.heap.size, 6, none⟩) (by simp)).trans (by simp [go_sem])
      have x7 : w1.cell? ⟨w.heap.size, 7, none⟩ = some (.int .i64 e.oto) := (Below.cell hb (p := ⟨w.heap.size, 7, none⟩) (by simp)).trans (by simp [go_sem])
      have x8 : w1.cell? ⟨w.heap.size, 8, none⟩ = some (.int .i64 e.on) := (Below.cell hb (p := ⟨w.heap.size, 8, none⟩) (by simp)).trans (by simp [go_sem])
      have hlt := World.block_lt_of_cell? _ _ x8
      simp only [] at hlt
      clear hb
      cases q3 : (e.kind == 2) with
      | true =>
        have HE : Hid (entErr e = opErr e.ok e.okey e.oto e.on) := by show _ = _; rw [HE.out, q2, q3]; rfl
        go_wp2_with fail
        refine (op_check e.ok e.okey e.oto e.on _).mono ?_
        rintro x w2 ⟨rfl, hb⟩
        have hk2 : Keeps w w2 := hk1.trans hb
        clear hb
        go_wp2_with fail
        go_ret
        exact ⟨ret_int HE.out.symm, hk2⟩
      | false =>
        cases q4 : (e.seq == 0) with
        | false =>
          have q4' : (e.seq != 0) = true := by simp [bne, q4]
          have HE : Hid (entErr e = 1) := by show _ = _; rw [HE.out, q2, q3, q4]; rfl
          go_wp2_with fail
          go_ret
          exact ⟨ret_int HE.out.symm, hk1⟩
        | true =>
          have q4' : (e.seq != 0) = false := by simp [bne, q4]
          cases q5 : (e.ack == 0) with
          | false =>
            have q5' : (e.ack != 0) = true := by simp [bne, q5]
            have HE : Hid (entErr e = 1) := by show _ = _; rw [HE.out, q2, q3, q4, q5]; rfl
            go_wp2_with fail
            go_ret
            exact ⟨ret_int HE.out.symm, hk1⟩
          | true =>
            have q5' : (e.ack != 0) = false := by simp [bne, q5]
            cases q6 : (e.ok == 0 && (e.okey == 0 && (e.oto == 0 && e.on == 0))) with
            | false =>
              have q6' : (!(e.ok == 0 && (e.okey == 0 && (e.oto == 0 && e.on == 0)))) = true := by rw [q6]; rfl
              have HE : Hid (entErr e = 1) := by show _ = _; rw [HE.out, q2, q3, q4, q5, HN.out, q6]; rfl
              go_wp2_with fail
              go_ret
              exact ⟨ret_int HE.out.symm, hk1⟩
            | true =>
              have q6' : (!(e.ok == 0 && (e.okey == 0 && (e.oto == 0 && e.on == 0)))) = false := by rw [q6]; rfl
              have HE : Hid (entErr e = 0) := by show _ = _; rw [HE.out, q2, q3, q4, q5, HN.out, q6]; rfl
              go_wp2_with fail
              go_ret
              exact ⟨ret_int HE.out.symm, hk1⟩
end Go.Proofs.Yteabfjpajgakiab

/- The arguments of a law: an entry. -/
set_option linter.unusedSimpArgs false
set_option linter.unusedVariables false
set_option maxRecDepth 100000
namespace Go.Proofs.Yteabfjpajgakiab
open Go.ChangeShapes Go.WideShapes Go.ChangeAt Go.RowKit Go.Joins

section
variable {H : Type} {enc : TypeId × Value → H} {w : World} {base : Nat} {spare : Nat → Bool} {held : Bool}

theorem cellsOp : Try.prog.cellsOf 31 = 4 := by kernel_rfl
theorem cellsEnt : Try.prog.cellsOf 33 = 9 := by kernel_rfl

/-- The cells of an entry. -/
theorem ent_cells {n : Nat} {c0 c1 c2 c3 c4 c5 c6 c7 c8 : Value} {y : DataW H × List MemPlace} (h : DataW.trod enc Try.prog w base spare held n 33 [c0, c1, c2, c3, c4, c5, c6, c7, c8] = some y) :
    ∃ e : Ent, c0 = .int .i64 e.kind ∧ c1 = .int .i64 e.time ∧ c2 = .int .i64 e.client ∧ c3 = .int .i64 e.seq ∧ c4 = .int .i64 e.ack ∧ c5 = .int .i64 e.ok ∧ c6 = .int .i64 e.okey ∧ c7 = .int .i64 e.oto ∧ c8 = .int .i64 e.on := by
  obtain ⟨xs, m, _, _, _, hlen, hf⟩ := DataW.trod_struct Try.underlying33 h
  match xs, hlen with
  | [y0, y1, y2, y3, y4, y5], _ =>
    have g0 := hf 0 _ rfl
    have g1 := hf 1 _ rfl
    have g2 := hf 2 _ rfl
    have g3 := hf 3 _ rfl
    have g4 := hf 4 _ rfl
    have g5 := hf 5 _ rfl
    simp only [cells3, cellsOp, List.drop_zero, List.drop_succ_cons, List.take_succ_cons, List.take_zero, List.getElem?_cons_zero, List.getElem?_cons_succ] at g0 g1 g2 g3 g4 g5
    obtain ⟨a0, rfl⟩ := one_int g0
    obtain ⟨a1, rfl⟩ := one_int g1
    obtain ⟨a2, rfl⟩ := one_int g2
    obtain ⟨a3, rfl⟩ := one_int g3
    obtain ⟨a4, rfl⟩ := one_int g4
    obtain ⟨z0, z1, z2, z3, m', _, _, k0, k1, k2, k3⟩ := trod_struct4 Try.underlying31 g5
    simp only [cells3, List.drop_zero, List.drop_succ_cons, List.take_succ_cons, List.take_zero] at k0 k1 k2 k3
    obtain ⟨a5, rfl⟩ := one_int k0
    obtain ⟨a6, rfl⟩ := one_int k1
    obtain ⟨a7, rfl⟩ := one_int k2
    obtain ⟨a8, rfl⟩ := one_int k3
    exact ⟨⟨a0, a1, a2, a3, a4, a5, a6, a7, a8⟩, rfl, rfl, rfl, rfl, rfl, rfl, rfl, rfl, rfl⟩

/-- An entry. -/
theorem open_ent {r : Reach} {b0 : Nat} {v : Value} {d : DataW H} {p : List MemPlace} (hv : Value.okWide Try.prog w r b0 33 v) (h : DataW.Trod enc Try.prog w base spare held 33 v d p) :
    ∃ e : Ent, v = entV e := by
  obtain ⟨cs, rfl, hsz⟩ := okWide_struct Try.underlying33 hv
  rw [cellsEnt] at hsz
  obtain ⟨fuel, hf⟩ := h
  obtain ⟨cl⟩ := cs
  match cl, hsz with
  | [c0, c1, c2, c3, c4, c5, c6, c7, c8], _ =>
    obtain ⟨e, rfl, rfl, rfl, rfl, rfl, rfl, rfl, rfl, rfl⟩ := ent_cells hf
    exact ⟨e, rfl⟩
end
end Go.Proofs.Yteabfjpajgakiab

/- sess.Drop, sess.Fresh, sess.Put. -/
set_option linter.unusedSimpArgs false
set_option linter.unusedVariables false
namespace Go.Proofs.Yteabfjpajgakiab
open Go.RowKit

theorem fn44 (args : Array Value) (W : World) : (callFunc 78 args).run Try.prog W = .ok (.enter 78 args) W := by kernel_rfl
theorem fn45 (args : Array Value) (W : World) : (callFunc 79 args).run Try.prog W = .ok (.enter 79 args) W := by kernel_rfl
theorem fn46 (args : Array Value) (W : World) : (callFunc 80 args).run Try.prog W = .ok (.enter 80 args) W := by kernel_rfl
theorem fn49 (args : Array Value) (W : World) : (callFunc 69 args).run Try.prog W = .ok (.enter 69 args) W := by kernel_rfl

theorem less_c (b : Nat) (c : Int) (s : Ses) (kv : Value) (W : World) (hb : W.cell? ⟨b, 0, none⟩ = some (.int .i64 c)) (hk : KeptAt W kv s.kept) :
    Calls Try.prog 78 #[sesV s kv, .pointer (some ⟨b, 0, none⟩)] W fun e w' => e = .returned (.bool (decide (s.client < c))) ∧ Keeps W w' := by
  obtain ⟨ka, kc, rfl, _⟩ := hk.len
  clear hk
  have hlt := World.block_lt_of_cell? _ _ hb
  simp only [] at hlt
  go_enter Try.func78, Try.ntmps78
  go_wp2_with fail
  go_ret
  exact ⟨rfl, (Keeps.refl _).alloc _⟩
theorem more_than_c (b : Nat) (c : Int) (s : Ses) (kv : Value) (W : World) (hb : W.cell? ⟨b, 0, none⟩ = some (.int .i64 c)) (hk : KeptAt W kv s.kept) :
    Calls Try.prog 79 #[sesV s kv, .pointer (some ⟨b, 0, none⟩)] W fun e w' => e = .returned (.bool (decide (c < s.client))) ∧ Keeps W w' := by
  obtain ⟨ka, kc, rfl, _⟩ := hk.len
  clear hk
  have hlt := World.block_lt_of_cell? _ _ hb
  simp only [] at hlt
  go_enter Try.func79, Try.ntmps79
  go_wp2_with fail
  go_ret
  exact ⟨rfl, (Keeps.refl _).alloc _⟩
theorem other_c (b : Nat) (c : Int) (s : Ses) (kv : Value) (W : World) (hb : W.cell? ⟨b, 0, none⟩ = some (.int .i64 c)) (hk : KeptAt W kv s.kept) :
    Calls Try.prog 80 #[sesV s kv, .pointer (some ⟨b, 0, none⟩)] W fun e w' => e = .returned (.bool (s.client != c)) ∧ Keeps W w' := by
  obtain ⟨ka, kc, rfl, _⟩ := hk.len
  clear hk
  have hlt := World.block_lt_of_cell? _ _ hb
  simp only [] at hlt
  go_enter Try.func80, Try.ntmps80
  go_wp2_with fail
  go_ret
  exact ⟨rfl, (Keeps.refl _).alloc _⟩
theorem young_c (b : Nat) (c : Int) (s : Ses) (kv : Value) (W : World) (hb : W.cell? ⟨b, 0, none⟩ = some (.int .i64 c)) (h0 : 0 ≤ c) (h1 : c ≤ 999) (hk : KeptAt W kv s.kept) :
    Calls Try.prog 69 #[sesV s kv, .pointer (some ⟨b, 0, none⟩)] W fun e w' => e = .returned (.bool (decide (c - 20 ≤ s.seen))) ∧ Keeps W w' := by
  obtain ⟨ka, kc, rfl, _⟩ := hk.len
  clear hk
  have hlt := World.block_lt_of_cell? _ _ hb
  simp only [] at hlt
  go_enter Try.func69, Try.ntmps69
  go_wp2_with fail
  go_ret
  exact ⟨rfl, (Keeps.refl _).alloc _⟩

/-- Drop's answer. -/
def dropErr (L : List Ses) (c : Int) : Int := if tabErr L == 0 then (if (L.filter (fun s => s.client != c)).length == L.length then 5 else 0) else tabErr L
def dropTab (L : List Ses) (c : Int) : List Ses := if dropErr L c == 0 then L.filter (fun s => s.client != c) else []
/-- Fresh's answer. -/
def freshTab (L : List Ses) (c : Int) : List Ses := L.filter (fun s => decide (c - 20 ≤ s.seen))
def freshErr (L : List Ses) (c : Int) : Int := if tabErr L == 0 then (if inB c 0 999 then 0 else 3) else tabErr L
def frTab (L : List Ses) (c : Int) : List Ses := if freshErr L c == 0 then freshTab L c else []

theorem box_int (w : World) (c : Int) : (w.alloc (.cells #[.int .i64 c] 3)).cell? ⟨w.heap.size, 0, none⟩ = some (.int .i64 c) := by simp
theorem cell_keep {W W' : World} {a : Addr} {u : Value} (h : W.cell? a = some u) (hk : Keeps W W') : W'.cell? a = some u := (Below.cell hk (World.block_lt_of_cell? _ _ h)).trans h

set_option maxHeartbeats 1000000 in
theorem sess_drop (L : List Ses) (v : Value) (c : Int) (w : World) (hT : TabAt w v L) :
    Calls Try.prog 72 #[v, .int .i64 c] w fun e w' => ∃ v', OwnTab w.heap.size w' v' (dropTab L c) ∧ e = .returned (.tuple #[v', .int .i64 (dropErr L c)]) ∧ Keeps w w' := by
  obtain ⟨a, cap, rfl, hlen⟩ := hT.len
  unfold maxLen at hlen
  have hT0 := hT.keep ((Keeps.refl w).alloc (.cells #[.int .i64 c] 3))
  have HT : Hid (TabAt (w.alloc (.cells #[.int .i64 c] 3)) (.slice a L.length cap) L) := hT0
  clear hT hT0
  go_enter Try.func72, Try.ntmps72
  go_wp2_with fail
  refine (sess_check L _ _ HT.out).mono ?_
  rintro e w1 ⟨rfl, hb⟩
  have HB : Hid (Keeps (w.alloc (.cells #[.int .i64 c] 3)) w1) := hb
  have hk1 : Keeps w w1 := ((Keeps.refl _).alloc _).trans hb
  clear hb
  cases he : (tabErr L == 0) with
  | false =>
    have he' : (tabErr L != 0) = true := by simp [bne, he]
    have HE : Hid (dropErr L c = tabErr L ∧ dropTab L c = []) := by
      have h1 : dropErr L c = tabErr L := by simp [dropErr, he]
      exact ⟨h1, by simp [dropTab, h1, he]⟩
    go_wp2_with fail
    go_ret2
    exact ⟨.slice none 0 0, by rw [HE.out.2]; exact OwnTab.nil _ _, by rw [HE.out.1]; rfl, hk1⟩
  | true =>
    have he' : (tabErr L != 0) = false := by simp [bne, he]
    have he0 : tabErr L = 0 := by simpa using he
    have hR := tab_right he0
    go_wp2_with fail
    refine (those_c 80 (.pointer (some ⟨w.heap.size, 0, none⟩)) (fun s => s.client != c) L _ _ (HT.out.keep HB.out) hR.1 (fun s hs => kept_le (hR.2.1 s hs)) fn46 ?_).mono ?_
    · exact fun W s kv hW hk => other_c _ c s kv W (cell_keep (cell_keep (box_int w c) HB.out) hW) hk
    rintro e w2 ⟨v', ho, rfl, hb2⟩
    obtain ⟨va, vc, rfl, _⟩ := ho.tab.len
    have HO : Hid (OwnTab w1.heap.size w2 (.slice va (L.filter (fun s => s.client != c)).length vc) (L.filter (fun s => s.client != c))) := ho
    have hk2 : Keeps w w2 := hk1.trans hb2
    have hbs : w.heap.size ≤ w1.heap.size := hk1.size
    have hfl : (L.filter (fun s => s.client != c)).length ≤ L.length := List.length_filter_le _ _
    clear ho hb2 hR
    generalize hn : (L.filter (fun s => s.client != c)).length = n at *
    cases hq : (n == L.length) with
    | true =>
      have hq' : ((n : Int) == (L.length : Int)) = true := by simp at hq ⊢; omega
      have HE : Hid (dropErr L c = 5 ∧ dropTab L c = []) := by
        have h1 : dropErr L c = 5 := by simp [dropErr, he, hn, hq]
        exact ⟨h1, by simp [dropTab, h1]⟩
      clear hq hn
      go_wp2_with fail
      go_ret2
      exact ⟨.slice none 0 0, by rw [HE.out.2]; exact OwnTab.nil _ _, by rw [HE.out.1]; rfl, hk2⟩
    | false =>
      have hq' : ((n : Int) == (L.length : Int)) = false := by simp at hq ⊢; omega
      have HE : Hid (dropErr L c = 0 ∧ dropTab L c = L.filter (fun s => s.client != c)) := by
        have h1 : dropErr L c = 0 := by simp [dropErr, he, hn, hq]
        exact ⟨h1, by simp [dropTab, h1]⟩
      clear hq hn
      go_wp2_with fail
      go_ret2
      exact ⟨_, by rw [HE.out.2]; exact HO.out.base hbs, by rw [HE.out.1]; rfl, hk2⟩

set_option maxHeartbeats 1000000 in
theorem sess_fresh (L : List Ses) (v : Value) (c : Int) (w : World) (hT : TabAt w v L) :
    Calls Try.prog 53 #[v, .int .i64 c] w fun e w' => ∃ v', OwnTab w.heap.size w' v' (frTab L c) ∧ e = .returned (.tuple #[v', .int .i64 (freshErr L c)]) ∧ Keeps w w' := by
  obtain ⟨a, cap, rfl, hlen⟩ := hT.len
  unfold maxLen at hlen
  have hT0 := hT.keep ((Keeps.refl w).alloc (.cells #[.int .i64 c] 3))
  have HT : Hid (TabAt (w.alloc (.cells #[.int .i64 c] 3)) (.slice a L.length cap) L) := hT0
  clear hT hT0
  go_enter Try.func53, Try.ntmps53
  go_wp2_with fail
  refine (sess_check L _ _ HT.out).mono ?_
  rintro e w1 ⟨rfl, hb⟩
  have HB : Hid (Keeps (w.alloc (.cells #[.int .i64 c] 3)) w1) := hb
  have hk1 : Keeps w w1 := ((Keeps.refl _).alloc _).trans hb
  have hcc := cell_keep (box_int w c) hb
  clear hb
  cases he : (tabErr L == 0) with
  | false =>
    have he' : (tabErr L != 0) = true := by simp [bne, he]
    have HE : Hid (freshErr L c = tabErr L ∧ frTab L c = []) := by
      have h1 : freshErr L c = tabErr L := by simp [freshErr, he]
      exact ⟨h1, by simp [frTab, h1, he]⟩
    go_wp2_with fail
    go_ret2
    exact ⟨.slice none 0 0, by rw [HE.out.2]; exact OwnTab.nil _ _, by rw [HE.out.1]; rfl, hk1⟩
  | true =>
    have he' : (tabErr L != 0) = false := by simp [bne, he]
    have he0 : tabErr L = 0 := by simpa using he
    have hR := tab_right he0
    cases hi : inB c 0 999 with
    | false =>
      have HE : Hid (freshErr L c = 3 ∧ frTab L c = []) := by
        have h1 : freshErr L c = 3 := by simp [freshErr, he, hi]
        exact ⟨h1, by simp [frTab, h1]⟩
      clear hR
      go_wp2_with (first | (go_at_call 26; refine (bound_in _ _ _ _).mono ?_; rintro e w' ⟨rfl, rfl⟩))
      go_ret2
      exact ⟨.slice none 0 0, by rw [HE.out.2]; exact OwnTab.nil _ _, by rw [HE.out.1]; rfl, hk1⟩
    | true =>
      have HE : Hid (freshErr L c = 0 ∧ frTab L c = freshTab L c) := by
        have h1 : freshErr L c = 0 := by simp [freshErr, he, hi]
        exact ⟨h1, by simp [frTab, h1]⟩
      have hcb := inB_iff.1 hi
      go_wp2_with (first | (go_at_call 26; refine (bound_in _ _ _ _).mono ?_; rintro e w' ⟨rfl, rfl⟩))
      refine (those_c 69 (.pointer (some ⟨w.heap.size, 0, none⟩)) (fun s => decide (c - 20 ≤ s.seen)) L _ _ (HT.out.keep HB.out) hR.1 (fun s hs => kept_le (hR.2.1 s hs)) fn49 ?_).mono ?_
      · exact fun W s kv hW hk => young_c _ c s kv W (cell_keep (cell_keep (box_int w c) HB.out) hW) hcb.1 hcb.2 hk
      rintro e w2 ⟨v', ho, rfl, hb2⟩
      have HO : Hid (OwnTab w1.heap.size w2 v' (freshTab L c)) := ho
      have hk2 : Keeps w w2 := hk1.trans hb2
      have hbs : w.heap.size ≤ w1.heap.size := hk1.size
      clear ho hb2 hR
      go_wp2_with fail
      go_ret2
      exact ⟨_, by rw [HE.out.2]; exact HO.out.base hbs, by rw [HE.out.1]; rfl, hk2⟩
end Go.Proofs.Yteabfjpajgakiab

/- sess.Put. -/
set_option linter.unusedSimpArgs false
set_option linter.unusedVariables false
set_option maxRecDepth 10000
namespace Go.Proofs.Yteabfjpajgakiab
open Go.RowKit

def putList (L : List Ses) (s : Ses) : List Ses := L.filter (fun o => decide (o.client < s.client)) ++ [s] ++ L.filter (fun o => decide (s.client < o.client))
/-- Put's answer. -/
def putErr (L : List Ses) (s : Ses) : Int :=
  if tabErr L == 0 then (if sesErr s == 0 then (if 3 < (putList L s).length then 2 else 0) else sesErr s) else tabErr L
def putTab (L : List Ses) (s : Ses) : List Ses := if putErr L s == 0 then putList L s else []

theorem box_ses (w : World) (s : Ses) (k : Value) : (w.alloc (.cells #[.int .i64 s.client, .int .i64 s.acked, .int .i64 s.seen, k] 48)).cell? ⟨w.heap.size, 0, none⟩ = some (.int .i64 s.client) := by simp

set_option maxHeartbeats 1000000 in
theorem sess_put_err (L : List Ses) (v : Value) (s : Ses) (kv : Value) (w : World) (hT : TabAt w v L) (hK : KeptAt w kv s.kept) (hne : ((tabErr L == 0) && (sesErr s == 0)) = false) :
    Calls Try.prog 71 #[v, sesV s kv] w fun e w' => ∃ v', OwnTab w.heap.size w' v' (putTab L s) ∧ e = .returned (.tuple #[v', .int .i64 (putErr L s)]) ∧ Keeps w w' := by
  obtain ⟨a, cap, rfl, hlen⟩ := hT.len
  obtain ⟨ka, kc, rfl, _⟩ := hK.len
  unfold maxLen at hlen
  have HT : Hid (TabAt (w.alloc (.cells #[.int .i64 s.client, .int .i64 s.acked, .int .i64 s.seen, .slice ka s.kept.length kc] 48)) (.slice a L.length cap) L) := hT.keep ((Keeps.refl w).alloc _)
  have HK : Hid (KeptAt (w.alloc (.cells #[.int .i64 s.client, .int .i64 s.acked, .int .i64 s.seen, .slice ka s.kept.length kc] 48)) (.slice ka s.kept.length kc) s.kept) := hK.keep ((Keeps.refl w).alloc _)
  clear hT hK
  go_enter Try.func71, Try.ntmps71
  go_wp2_with fail
  refine (sess_check L _ _ HT.out).mono ?_
  rintro e w1 ⟨rfl, hb⟩
  have HB : Hid (Keeps (w.alloc (.cells #[.int .i64 s.client, .int .i64 s.acked, .int .i64 s.seen, .slice ka s.kept.length kc] 48)) w1) := hb
  have hk1 : Keeps w w1 := ((Keeps.refl _).alloc _).trans hb
  obtain ⟨hc, hf⟩ := hb.cells
  have hz := hb.size
  simp only [World.size_alloc] at hc hf hz
  have hz1 : w.heap.size < w1.heap.size := by omega
  clear hb
  cases he : (tabErr L == 0) with
  | false =>
    have he' : (tabErr L != 0) = true := by simp [bne, he]
    have HE : Hid (putErr L s = tabErr L ∧ putTab L s = []) := by
      have h1 : putErr L s = tabErr L := by simp [putErr, he]
      exact ⟨h1, by simp [putTab, h1, he]⟩
    go_wp2_with fail
    go_ret2
    exact ⟨.slice none 0 0, by rw [HE.out.2]; exact OwnTab.nil _ _, by rw [HE.out.1]; rfl, hk1⟩
  | true =>
    have he' : (tabErr L != 0) = false := by simp [bne, he]
    have hs : (sesErr s == 0) = false := by simpa [he] using hne
    have hs' : (sesErr s != 0) = true := by simp [bne, hs]
    have HE : Hid (putErr L s = sesErr s ∧ putTab L s = []) := by
      have h1 : putErr L s = sesErr s := by simp [putErr, he, hs]
      exact ⟨h1, by simp [putTab, h1, hs]⟩
    go_wp2_with fail
    refine (check_one s _ _ (HK.out.keep HB.out)).mono ?_
    rintro e w2 ⟨rfl, hb2⟩
    have hk2 : Keeps w w2 := hk1.trans hb2
    clear hb2
    go_wp2_with fail
    go_ret2
    exact ⟨.slice none 0 0, by rw [HE.out.2]; exact OwnTab.nil _ _, by rw [HE.out.1]; rfl, hk2⟩

set_option maxHeartbeats 2000000 in
theorem sess_put_ok (L : List Ses) (v : Value) (s : Ses) (kv : Value) (w : World) (hT : TabAt w v L) (hK : KeptAt w kv s.kept) (he : (tabErr L == 0) = true) (hs : (sesErr s == 0) = true) :
    Calls Try.prog 71 #[v, sesV s kv] w fun e w' => ∃ v', OwnTab w.heap.size w' v' (putTab L s) ∧ e = .returned (.tuple #[v', .int .i64 (putErr L s)]) ∧ Keeps w w' := by
  obtain ⟨a, cap, rfl, hlen⟩ := hT.len
  obtain ⟨ka, kc, rfl, _⟩ := hK.len
  unfold maxLen at hlen
  have HT : Hid (TabAt (w.alloc (.cells #[.int .i64 s.client, .int .i64 s.acked, .int .i64 s.seen, .slice ka s.kept.length kc] 48)) (.slice a L.length cap) L) := hT.keep ((Keeps.refl w).alloc _)
  have HK : Hid (KeptAt (w.alloc (.cells #[.int .i64 s.client, .int .i64 s.acked, .int .i64 s.seen, .slice ka s.kept.length kc] 48)) (.slice ka s.kept.length kc) s.kept) := hK.keep ((Keeps.refl w).alloc _)
  clear hT hK
  have he' : (tabErr L != 0) = false := by simp [bne, he]
  have hs' : (sesErr s != 0) = false := by simp [bne, hs]
  have HR : Hid (L.length ≤ 3 ∧ (∀ s ∈ L, sesErr s = 0) ∧ rising L = true) := tab_right (by simpa using he)
  have hn3 : s.kept.length ≤ 3 := kept_le (by simpa using hs)
  have HL : Hid (L.length ≤ 3) := HR.out.1
  go_enter Try.func71, Try.ntmps71
  go_wp2_with fail
  refine (sess_check L _ _ HT.out).mono ?_
  rintro e w1 ⟨rfl, hb⟩
  have HB : Hid (Keeps (w.alloc (.cells #[.int .i64 s.client, .int .i64 s.acked, .int .i64 s.seen, .slice ka s.kept.length kc] 48)) w1) := hb
  obtain ⟨hc, hf⟩ := hb.cells
  have hz := hb.size
  simp only [World.size_alloc] at hc hf hz
  clear hb hf
  go_wp2_with fail
  refine (check_one s _ _ (HK.out.keep HB.out)).mono ?_
  rintro e w2 ⟨rfl, hb2⟩
  have HB2 : Hid (Keeps (w.alloc (.cells #[.int .i64 s.client, .int .i64 s.acked, .int .i64 s.seen, .slice ka s.kept.length kc] 48)) w2) := HB.out.trans hb2
  clear hb2 hc hz HB
  go_wp2_with fail
  refine (those_c 78 (.pointer (some ⟨w.heap.size, 0, none⟩)) (fun o => decide (o.client < s.client)) L _ _ (HT.out.keep HB2.out) HR.out.1 (fun s hs => kept_le (HR.out.2.1 s hs)) fn44 ?_).mono ?_
  · exact fun W o kv hW hk => less_c _ _ o kv W (cell_keep (cell_keep (box_ses w s _) HB2.out) hW) hk
  rintro e w3 ⟨v3, ho3, rfl, hb3⟩
  have HB3 : Hid (Keeps (w.alloc (.cells #[.int .i64 s.client, .int .i64 s.acked, .int .i64 s.seen, .slice ka s.kept.length kc] 48)) w3) := HB2.out.trans hb3
  have HO3 : Hid (OwnTab (w.heap.size + 1) w3 v3 (L.filter (fun o => decide (o.client < s.client)))) := ho3.base (by have := HB2.out.size; simpa using this)
  clear ho3 hb3 HB2
  obtain ⟨hc, hf⟩ := HB3.out.cells
  simp only [World.size_alloc] at hc hf
  clear hf
  go_wp2_with fail
  refine (twin_c s _ _ (HK.out.keep HB3.out) hn3).mono ?_
  rintro e w4 ⟨kv', ho, rfl, hb4⟩
  obtain ⟨va, vc, rfl⟩ : ∃ va vc, kv' = .slice va s.kept.length vc := by obtain ⟨x, y, h, _⟩ := (RowAt.of_owns ho).len; exact ⟨x, y, h⟩
  have HB4 : Hid (Keeps (w.alloc (.cells #[.int .i64 s.client, .int .i64 s.acked, .int .i64 s.seen, .slice ka s.kept.length kc] 48)) w4) := HB3.out.trans hb4
  have hw3 : w.heap.size + 1 ≤ w3.heap.size := by have := HB3.out.size; simpa using this
  have hw4 : w.heap.size + 1 ≤ w4.heap.size := by have := HB4.out.size; simpa using this
  have hM : KeptsOwn (w.heap.size + 1) (w4.alloc (.cells #[.int .i64 s.client, .int .i64 s.acked, .int .i64 s.seen, .slice va s.kept.length vc] 48)) [s] [.slice va s.kept.length vc] := ⟨owns_keep (owns_base ho hw3) ((Keeps.refl _).alloc _), trivial⟩
  have hl1 : (L.filter (fun o => decide (o.client < s.client))).length ≤ 3 := Nat.le_trans (List.length_filter_le _ _) HL.out
  have hl2 : (L.filter (fun o => decide (s.client < o.client))).length ≤ 3 := Nat.le_trans (List.length_filter_le _ _) HL.out
  obtain ⟨v5, w5, hr, hO5, hg, hbk⟩ := run_append_tab (w4.alloc (.cells #[.int .i64 s.client, .int .i64 s.acked, .int .i64 s.seen, .slice va s.kept.length vc] 48)) (w.heap.size + 1) v3 _ ((HO3.out.keep hb4).keep ((Keeps.refl _).alloc _)) _ [s] _ hM (row_one w4 s _) (by simp; omega) (by simp; omega)
  have hkb : Keeps (w.alloc (.cells #[.int .i64 s.client, .int .i64 s.acked, .int .i64 s.seen, .slice ka s.kept.length kc] 48)) w4 := HB4.out
  have HB5 : Hid (Keeps (w.alloc (.cells #[.int .i64 s.client, .int .i64 s.acked, .int .i64 s.seen, .slice ka s.kept.length kc] 48)) w5) := keeps_grown (HB4.out.alloc _) hg (by simpa using hbk)
  have Hr := (show Hid (_ = _) from hr)
  have HO5 : Hid (OwnTab (w.heap.size + 1) w5 v5 (L.filter (fun o => decide (o.client < s.client)) ++ [s])) := hO5
  clear hr hM hO5 hg hbk ho hb4 hkb hc HB4 HO3 HB3
  go_wp2_with (at_builtin; refine wpList_append_run rfl _ _ _ rfl rfl rfl Hr.out ?_)
  refine (those_c 79 (.pointer (some ⟨w.heap.size, 0, none⟩)) (fun o => decide (s.client < o.client)) L _ _ (HT.out.keep HB5.out) HR.out.1 (fun s hs => kept_le (HR.out.2.1 s hs)) fn45 ?_).mono ?_
  · exact fun W o kv hW hk => more_than_c _ _ o kv W (cell_keep (cell_keep (box_ses w s _) HB5.out) hW) hk
  rintro e w6 ⟨v6, ho6, rfl, hb6⟩
  have hw5 : w.heap.size + 1 ≤ w5.heap.size := by have := HB5.out.size; simpa using this
  have HB6 : Hid (Keeps (w.alloc (.cells #[.int .i64 s.client, .int .i64 s.acked, .int .i64 s.seen, .slice ka s.kept.length kc] 48)) w6) := HB5.out.trans hb6
  have hw6 : w.heap.size + 1 ≤ w6.heap.size := by have := HB6.out.size; simpa using this
  obtain ⟨ms, hm1, hm2⟩ := ho6.base hw5
  obtain ⟨v7, w7, hr, hO7, hg, hbk⟩ := run_append_tab w6 (w.heap.size + 1) v5 _ (HO5.out.keep hb6) v6 _ ms hm1 (RowAt.of_owns hm2) (by simp; omega) hw6
  have hk7 : Keeps w w7 := ((Keeps.refl w).alloc _).trans (keeps_grown HB6.out hg (by simpa using hbk))
  have hO7' : OwnTab w.heap.size w7 v7 (putList L s) := hO7.base (by omega)
  obtain ⟨va7, vc7, hv7, _⟩ := hO7'.tab.len
  subst hv7
  have Hr2 := (show Hid (_ = _) from hr)
  have HO7 : Hid (OwnTab w.heap.size w7 (.slice va7 (putList L s).length vc7) (putList L s)) := hO7'
  have hpl : (putList L s).length ≤ 7 := by simp only [putList, List.length_append, List.length_cons, List.length_nil]; omega
  clear hr hm1 hm2 hg hbk ho6 hb6 hO7 hO7' HO5 HB5 HB6
  cases hq : decide (3 < (putList L s).length) with
  | true =>
    have hq1 : 3 < (putList L s).length := by simpa using hq
    have HE : Hid (putErr L s = 2 ∧ putTab L s = []) := by
      have h1 : putErr L s = 2 := by simp [putErr, he, hs, hq1]
      exact ⟨h1, by simp [putTab, h1]⟩
    generalize (putList L s).length = n at *
    go_wp2_with (at_builtin; refine wpList_append_run rfl _ _ _ rfl rfl rfl Hr2.out ?_)
    go_ret2
    exact ⟨.slice none 0 0, by rw [HE.out.2]; exact OwnTab.nil _ _, by rw [HE.out.1]; rfl, hk7⟩
  | false =>
    have hq1 : ¬ 3 < (putList L s).length := by simpa using hq
    have HE : Hid (putErr L s = 0 ∧ putTab L s = putList L s) := by
      have h1 : putErr L s = 0 := by simp [putErr, he, hs, hq1]
      exact ⟨h1, by simp [putTab, h1]⟩
    go_wp2_with (at_builtin; refine wpList_append_run rfl _ _ _ rfl rfl rfl Hr2.out ?_)
    go_ret2
    exact ⟨_, by rw [HE.out.2]; exact HO7.out, by rw [HE.out.1]; rfl, hk7⟩

/-- sess.Put. -/
theorem sess_put (L : List Ses) (v : Value) (s : Ses) (kv : Value) (w : World) (hT : TabAt w v L) (hK : KeptAt w kv s.kept) :
    Calls Try.prog 71 #[v, sesV s kv] w fun e w' => ∃ v', OwnTab w.heap.size w' v' (putTab L s) ∧ e = .returned (.tuple #[v', .int .i64 (putErr L s)]) ∧ Keeps w w' := by
  cases h : ((tabErr L == 0) && (sesErr s == 0)) with
  | false => exact sess_put_err L v s kv w hT hK h
  | true =>
    simp only [Bool.and_eq_true] at h
    exact sess_put_ok L v s kv w hT hK h.1 h.2
end Go.Proofs.Yteabfjpajgakiab

/- The reference's without, fresh, DropOf, FreshOf. -/
set_option linter.unusedSimpArgs false
set_option linter.unusedVariables false
set_option maxRecDepth 10000
namespace Go.Proofs.Yteabfjpajgakiab
open Go.RowKit

set_option maxHeartbeats 2000000 in
theorem without_c (L : List Ses) (v : Value) (c : Int) (w : World) (hT : TabAt w v L) (h3 : L.length ≤ 3) (hk3 : ∀ s ∈ L, s.kept.length ≤ 3) :
    Calls Try.prog 60 #[v, .int .i64 c] w fun e w' => ∃ v', OwnTab w.heap.size w' v' (L.filter (fun s : Ses => s.client != c)) ∧ e = .returned v' ∧ Keeps w w' := by
  obtain ⟨a, cap, rfl, hlen⟩ := hT.len
  unfold maxLen at hlen
  have HT : Hid (TabAt w (.slice a L.length cap) L) := hT
  have HK3 : Hid (∀ s ∈ L, s.kept.length ≤ 3) := hk3
  clear hT hk3
  generalize hpd : (((fun s : Ses => s.client != c)) : Ses → Bool) = p
  have HPD : Hid (∀ s : Ses, p s = (s.client != c)) := by subst hpd; exact fun s => rfl
  clear hpd
  go_enter Try.func60, Try.ntmps60
  go_wp2_with fail
  go_loopw [5, 6] (fun o i wr => ∃ (k : Nat), k ≤ L.length ∧ i = .int .i64 k ∧ Keeps w wr ∧ Hid (OwnTab w.heap.size wr o ((L.take k).filter p))) (fun _ i _ => L.length - (intOf i).toNat)
  case atStart => exact ⟨0, Nat.zero_le _, rfl, Keeps.refl _, OwnTab.nil _ _⟩
  case round =>
    obtain ⟨k, hk, rfl, hkw, HO⟩ := hrel
    by_cases hlt : k < L.length
    · obtain ⟨b, off, cap', hv, hcell⟩ := (HT.out.keep hkw).at hlt
      injection hv with hv1 hv2 hv3
      subst hv1
      clear hv2 hv3
      obtain ⟨c0, c1, c2, ka, kc, c3, hkv⟩ := hcell k hlt
      clear hcell
      have HKV : Hid (KeptAt wr (.slice ka (L[k]).kept.length kc) (L[k]).kept) := hkv
      clear hkv
      have HF : Hid ((L.take (k + 1)).filter p = (L.take k).filter p ++ (if p (L[k]) then [L[k]] else [])) := filter_take hlt
      have hn3 : (L[k]).kept.length ≤ 3 := HK3.out _ (List.getElem_mem hlt)
      have hfl : ((L.take k).filter p).length ≤ 3 := Nat.le_trans (List.length_filter_le _ _) (by simp; omega)
      generalize L[k] = s at *
      generalize hO : (L.take k).filter p = O at *
      have hps := HPD.out s
      cases hp : p s with
      | false =>
        rw [hp] at hps
        have hps' := hps.symm
        clear hps
        have HO1 : Hid (OwnTab w.heap.size wr u5 ((L.take (k + 1)).filter p)) := by show OwnTab _ _ _ _; rw [HF.out, hp]; simpa using HO.out
        go_wp2_with fail
        go_roundw
        case rel => exact ⟨k + 1, by omega, by go_num, hkw, HO1⟩
        case measure => simp [intOf]; omega
      | true =>
        rw [hp] at hps
        have hps' := hps.symm
        clear hps
        go_wp2_with fail
        refine (own_c s _ _ HKV.out hn3).mono ?_
        rintro e w2 ⟨kv', ho, rfl, hb2⟩
        obtain ⟨va, vc, rfl⟩ : ∃ va vc, kv' = .slice va s.kept.length vc := by obtain ⟨x, y, h, _⟩ := (RowAt.of_owns ho).len; exact ⟨x, y, h⟩
        have hM : KeptsOwn w.heap.size (w2.alloc (.cells #[.int .i64 s.client, .int .i64 s.acked, .int .i64 s.seen, .slice va s.kept.length vc] 48)) [s] [.slice va s.kept.length vc] := ⟨owns_keep (owns_base ho hkw.size) ((Keeps.refl _).alloc _), trivial⟩
        obtain ⟨v', w', hr, hO', hg, hbk⟩ := run_append_tab (w2.alloc (.cells #[.int .i64 s.client, .int .i64 s.acked, .int .i64 s.seen, .slice va s.kept.length vc] 48)) w.heap.size u5 O ((HO.out.keep hb2).keep ((Keeps.refl _).alloc _)) _ [s] _ hM (row_one w2 s _) (by simp; omega) (by simp; have := hkw.size; have := hb2.size; omega)
        have hk' : Keeps w w' := keeps_grown ((hkw.trans hb2).alloc _) hg hbk
        have Hr := (show Hid (_ = _) from hr)
        have HO1 : Hid (OwnTab w.heap.size w' v' ((L.take (k + 1)).filter p)) := by show OwnTab _ _ _ _; rw [HF.out, hp]; exact hO'
        clear hr hM hO' hg hbk ho hb2 HO HF HKV
        go_wp2_with (at_builtin; refine wpList_append_run rfl _ _ _ rfl rfl rfl Hr.out ?_)
        go_roundw
        case rel => exact ⟨k + 1, by omega, by go_num, hk', HO1⟩
        case measure => simp [intOf]; omega
    · have HO1 : Hid (OwnTab w.heap.size wr u5 (L.filter p)) := by
        have := HO.out
        rw [List.take_of_length_le (by omega)] at this
        exact this
      go_wp2_with fail
      go_ret
      exact ⟨u5, HO1.out, rfl, hkw⟩

set_option maxHeartbeats 2000000 in
theorem fresh_c (L : List Ses) (v : Value) (c : Int) (w : World) (hT : TabAt w v L) (h3 : L.length ≤ 3) (hk3 : ∀ s ∈ L, s.kept.length ≤ 3) (hc0 : 0 ≤ c) (hc1 : c ≤ 999) :
    Calls Try.prog 57 #[v, .int .i64 c] w fun e w' => ∃ v', OwnTab w.heap.size w' v' (L.filter (fun s : Ses => decide (c - 20 ≤ s.seen))) ∧ e = .returned v' ∧ Keeps w w' := by
  obtain ⟨a, cap, rfl, hlen⟩ := hT.len
  unfold maxLen at hlen
  have HT : Hid (TabAt w (.slice a L.length cap) L) := hT
  have HK3 : Hid (∀ s ∈ L, s.kept.length ≤ 3) := hk3
  clear hT hk3
  generalize hpd : (((fun s : Ses => decide (c - 20 ≤ s.seen))) : Ses → Bool) = p
  have HPD : Hid (∀ s : Ses, p s = decide (c - 20 ≤ s.seen)) := by subst hpd; exact fun s => rfl
  clear hpd
  go_enter Try.func57, Try.ntmps57
  go_wp2_with fail
  go_loopw [5, 6] (fun o i wr => ∃ (k : Nat), k ≤ L.length ∧ i = .int .i64 k ∧ Keeps w wr ∧ Hid (OwnTab w.heap.size wr o ((L.take k).filter p))) (fun _ i _ => L.length - (intOf i).toNat)
  case atStart => exact ⟨0, Nat.zero_le _, rfl, Keeps.refl _, OwnTab.nil _ _⟩
  case round =>
    obtain ⟨k, hk, rfl, hkw, HO⟩ := hrel
    by_cases hlt : k < L.length
    · obtain ⟨b, off, cap', hv, hcell⟩ := (HT.out.keep hkw).at hlt
      injection hv with hv1 hv2 hv3
      subst hv1
      clear hv2 hv3
      obtain ⟨c0, c1, c2, ka, kc, c3, hkv⟩ := hcell k hlt
      clear hcell
      have HKV : Hid (KeptAt wr (.slice ka (L[k]).kept.length kc) (L[k]).kept) := hkv
      clear hkv
      have HF : Hid ((L.take (k + 1)).filter p = (L.take k).filter p ++ (if p (L[k]) then [L[k]] else [])) := filter_take hlt
      have hn3 : (L[k]).kept.length ≤ 3 := HK3.out _ (List.getElem_mem hlt)
      have hfl : ((L.take k).filter p).length ≤ 3 := Nat.le_trans (List.length_filter_le _ _) (by simp; omega)
      generalize L[k] = s at *
      generalize hO : (L.take k).filter p = O at *
      have hps := HPD.out s
      cases hp : p s with
      | false =>
        rw [hp] at hps
        have hps' := hps.symm
        clear hps
        have HO1 : Hid (OwnTab w.heap.size wr u5 ((L.take (k + 1)).filter p)) := by show OwnTab _ _ _ _; rw [HF.out, hp]; simpa using HO.out
        go_wp2_with fail
        go_roundw
        case rel => exact ⟨k + 1, by omega, by go_num, hkw, HO1⟩
        case measure => simp [intOf]; omega
      | true =>
        rw [hp] at hps
        have hps' := hps.symm
        clear hps
        go_wp2_with fail
        refine (own_c s _ _ HKV.out hn3).mono ?_
        rintro e w2 ⟨kv', ho, rfl, hb2⟩
        obtain ⟨va, vc, rfl⟩ : ∃ va vc, kv' = .slice va s.kept.length vc := by obtain ⟨x, y, h, _⟩ := (RowAt.of_owns ho).len; exact ⟨x, y, h⟩
        have hM : KeptsOwn w.heap.size (w2.alloc (.cells #[.int .i64 s.client, .int .i64 s.acked, .int .i64 s.seen, .slice va s.kept.length vc] 48)) [s] [.slice va s.kept.length vc] := ⟨owns_keep (owns_base ho hkw.size) ((Keeps.refl _).alloc _), trivial⟩
        obtain ⟨v', w', hr, hO', hg, hbk⟩ := run_append_tab (w2.alloc (.cells #[.int .i64 s.client, .int .i64 s.acked, .int .i64 s.seen, .slice va s.kept.length vc] 48)) w.heap.size u5 O ((HO.out.keep hb2).keep ((Keeps.refl _).alloc _)) _ [s] _ hM (row_one w2 s _) (by simp; omega) (by simp; have := hkw.size; have := hb2.size; omega)
        have hk' : Keeps w w' := keeps_grown ((hkw.trans hb2).alloc _) hg hbk
        have Hr := (show Hid (_ = _) from hr)
        have HO1 : Hid (OwnTab w.heap.size w' v' ((L.take (k + 1)).filter p)) := by show OwnTab _ _ _ _; rw [HF.out, hp]; exact hO'
        clear hr hM hO' hg hbk ho hb2 HO HF HKV
        go_wp2_with (at_builtin; refine wpList_append_run rfl _ _ _ rfl rfl rfl Hr.out ?_)
        go_roundw
        case rel => exact ⟨k + 1, by omega, by go_num, hk', HO1⟩
        case measure => simp [intOf]; omega
    · have HO1 : Hid (OwnTab w.heap.size wr u5 (L.filter p)) := by
        have := HO.out
        rw [List.take_of_length_le (by omega)] at this
        exact this
      go_wp2_with fail
      go_ret
      exact ⟨u5, HO1.out, rfl, hkw⟩

theorem drop_none {L : List Ses} {c : Int} : findSes L c = none ↔ (L.filter (fun s => s.client != c)).length = L.length := by
  rw [List.length_filter_eq_length_iff]
  simp [findSes]
end Go.Proofs.Yteabfjpajgakiab

/- The reference's PutOf. -/
set_option linter.unusedSimpArgs false
set_option linter.unusedVariables false
set_option maxRecDepth 10000
namespace Go.Proofs.Yteabfjpajgakiab
open Go.RowKit

/-- As the reference puts. -/
def insAux (s : Ses) : Bool → List Ses → List Ses
  | d, [] => if d then [] else [s]
  | d, o :: r => (if !d && decide (s.client ≤ o.client) then [s] else []) ++ ((if o.client != s.client then [o] else []) ++ insAux s (d || decide (s.client ≤ o.client)) r)

/-- The cells of a table at a known address. -/
theorem TabAt.cells {w : World} {b off cap : Nat} {L : List Ses} (h : TabAt w (.slice (some ⟨b, off, none⟩) L.length cap) L) (i : Nat) (hi : i < L.length) (o : Ses) (ho : L[i] = o) :
    w.cell? ⟨b, off + i * 4, none⟩ = some (.int .i64 o.client) ∧ w.cell? ⟨b, off + i * 4 + 1, none⟩ = some (.int .i64 o.acked) ∧
        w.cell? ⟨b, off + i * 4 + 2, none⟩ = some (.int .i64 o.seen) ∧ ∃ ka kc, w.cell? ⟨b, off + i * 4 + 3, none⟩ = some (.slice ka o.kept.length kc) ∧ KeptAt w (.slice ka o.kept.length kc) o.kept := by
  obtain ⟨b', off', cap', hv, hcell⟩ := h.at hi
  injection hv with h1 _ _
  injection h1 with h1
  injection h1 with h1 h2 _
  subst h1 h2 ho
  exact hcell i hi

theorem insAux_at (s : Ses) (d : Bool) {L : List Ses} {k : Nat} (h : k < L.length) :
    insAux s d (L.drop k) = (if !d && decide (s.client ≤ (L[k]).client) then [s] else []) ++ ((if (L[k]).client != s.client then [L[k]] else []) ++ insAux s (d || decide (s.client ≤ (L[k]).client)) (L.drop (k + 1))) := by
  rw [List.drop_eq_getElem_cons h]; rfl

theorem rising_lt : ∀ {r : List Ses} {o : Ses}, rising (o :: r) = true → ∀ x ∈ r, o.client < x.client
  | [], _, _, x, hx => by cases hx
  | a :: r, o, h, x, hx => by
    simp only [rising, Bool.and_eq_true, decide_eq_true_eq] at h
    rcases List.mem_cons.1 hx with rfl | hx
    · exact h.1
    · exact Int.lt_trans h.1 (rising_lt h.2 x hx)
theorem rising_tail {r : List Ses} {o : Ses} (h : rising (o :: r) = true) : rising r = true := by
  cases r with
  | nil => rfl
  | cons a r => simp only [rising, Bool.and_eq_true] at h; exact h.2

theorem insAux_true (s : Ses) : ∀ (L : List Ses), insAux s true L = L.filter (fun o => o.client != s.client)
  | [] => rfl
  | o :: r => by
    simp only [insAux, Bool.not_true, Bool.false_and, Bool.true_or, insAux_true s r, List.filter_cons]
    cases (o.client != s.client) <;> simp

theorem insAux_put (s : Ses) : ∀ (L : List Ses), rising L = true → insAux s false L = putList L s
  | [], _ => rfl
  | o :: r, h => by
    have ih := insAux_put s r (rising_tail h)
    have hlt := rising_lt h
    by_cases hle : s.client ≤ o.client
    · have e1 : (o :: r).filter (fun x => decide (x.client < s.client)) = [] := by
        rw [List.filter_eq_nil_iff]
        intro x hx
        rcases List.mem_cons.1 hx with rfl | hx
        · simp; omega
        · have := hlt x hx; simp; omega
      have e2 : r.filter (fun x => x.client != s.client) = r.filter (fun x => decide (s.client < x.client)) := by
        apply List.filter_congr
        intro x hx
        have := hlt x hx
        rw [Bool.eq_iff_iff]; simp; omega
      have e3 : (o.client != s.client) = decide (s.client < o.client) := by rw [Bool.eq_iff_iff]; simp; omega
      unfold putList
      rw [e1]
      simp only [insAux, hle, decide_true, Bool.not_false, Bool.and_self, if_true, Bool.or_true, insAux_true, e2, e3, List.filter_cons]
      cases decide (s.client < o.client) <;> simp
    · have h1 : decide (s.client ≤ o.client) = false := by simp; omega
      have h2 : (o.client != s.client) = true := by simp; omega
      have h3 : decide (o.client < s.client) = true := by simp; omega
      have h4 : decide (s.client < o.client) = false := by simp; omega
      simp only [insAux, h1, h2, Bool.not_false, Bool.and_false, Bool.or_self, if_true, Bool.false_eq_true, if_false, List.nil_append, ih]
      simp [putList, List.filter_cons, h3, h4]

set_option maxHeartbeats 1000000 in
theorem put_of_err (L : List Ses) (v : Value) (s : Ses) (kv : Value) (w : World) (hT : TabAt w v L) (hK : KeptAt w kv s.kept) (hne : ((tabErr L == 0) && (sesErr s == 0)) = false) :
    Calls Try.prog 59 #[v, sesV s kv] w fun e w' => ∃ v', OwnTab w.heap.size w' v' (putTab L s) ∧ e = .returned (.tuple #[v', .int .i64 (putErr L s)]) ∧ Keeps w w' := by
  obtain ⟨a, cap, rfl, hlen⟩ := hT.len
  obtain ⟨ka, kc, rfl, _⟩ := hK.len
  unfold maxLen at hlen
  have HT : Hid (TabAt (w.alloc (.cells #[.int .i64 s.client, .int .i64 s.acked, .int .i64 s.seen, .slice ka s.kept.length kc] 48)) (.slice a L.length cap) L) := hT.keep ((Keeps.refl w).alloc _)
  have HK : Hid (KeptAt (w.alloc (.cells #[.int .i64 s.client, .int .i64 s.acked, .int .i64 s.seen, .slice ka s.kept.length kc] 48)) (.slice ka s.kept.length kc) s.kept) := hK.keep ((Keeps.refl w).alloc _)
  clear hT hK
  go_enter Try.func59, Try.ntmps59
  go_wp2_with fail
  refine (table_error L _ _ HT.out).mono ?_
  rintro e w1 ⟨rfl, hb⟩
  have HB : Hid (Keeps (w.alloc (.cells #[.int .i64 s.client, .int .i64 s.acked, .int .i64 s.seen, .slice ka s.kept.length kc] 48)) w1) := hb
  have hk1 : Keeps w w1 := ((Keeps.refl _).alloc _).trans hb
  obtain ⟨hc, hf⟩ := hb.cells
  have hz := hb.size
  simp only [World.size_alloc] at hc hf hz
  have hz1 : w.heap.size < w1.heap.size := by omega
  clear hb
  cases he : (tabErr L == 0) with
  | false =>
    have he' : (tabErr L != 0) = true := by simp [bne, he]
    have HE : Hid (putErr L s = tabErr L ∧ putTab L s = []) := by
      have h1 : putErr L s = tabErr L := by simp [putErr, he]
      exact ⟨h1, by simp [putTab, h1, he]⟩
    go_wp2_with fail
    go_ret2
    exact ⟨.slice none 0 0, by rw [HE.out.2]; exact OwnTab.nil _ _, by rw [HE.out.1]; rfl, hk1⟩
  | true =>
    have he' : (tabErr L != 0) = false := by simp [bne, he]
    have hs : (sesErr s == 0) = false := by simpa [he] using hne
    have hs' : (sesErr s != 0) = true := by simp [bne, hs]
    have HE : Hid (putErr L s = sesErr s ∧ putTab L s = []) := by
      have h1 : putErr L s = sesErr s := by simp [putErr, he, hs]
      exact ⟨h1, by simp [putTab, h1, hs]⟩
    go_wp2_with fail
    refine (one_error s _ _ (HK.out.keep HB.out)).mono ?_
    rintro e w2 ⟨rfl, hb2⟩
    have hk2 : Keeps w w2 := hk1.trans hb2
    clear hb2
    go_wp2_with fail
    go_ret2
    exact ⟨.slice none 0 0, by rw [HE.out.2]; exact OwnTab.nil _ _, by rw [HE.out.1]; rfl, hk2⟩


set_option maxHeartbeats 4000000 in
theorem put_of_ok (L : List Ses) (v : Value) (s : Ses) (kv : Value) (w : World) (hT : TabAt w v L) (hK : KeptAt w kv s.kept) (he : (tabErr L == 0) = true) (hs : (sesErr s == 0) = true) :
    Calls Try.prog 59 #[v, sesV s kv] w fun e w' => ∃ v', OwnTab w.heap.size w' v' (putTab L s) ∧ e = .returned (.tuple #[v', .int .i64 (putErr L s)]) ∧ Keeps w w' := by
  obtain ⟨a, cap, rfl, hlen⟩ := hT.len
  obtain ⟨ka, kc, rfl, _⟩ := hK.len
  unfold maxLen at hlen
  have HT : Hid (TabAt (w.alloc (.cells #[.int .i64 s.client, .int .i64 s.acked, .int .i64 s.seen, .slice ka s.kept.length kc] 48)) (.slice a L.length cap) L) := hT.keep ((Keeps.refl w).alloc _)
  have HK : Hid (KeptAt (w.alloc (.cells #[.int .i64 s.client, .int .i64 s.acked, .int .i64 s.seen, .slice ka s.kept.length kc] 48)) (.slice ka s.kept.length kc) s.kept) := hK.keep ((Keeps.refl w).alloc _)
  clear hT hK
  have he' : (tabErr L != 0) = false := by simp [bne, he]
  have hs' : (sesErr s != 0) = false := by simp [bne, hs]
  have HR : Hid (L.length ≤ 3 ∧ (∀ s ∈ L, sesErr s = 0) ∧ rising L = true) := tab_right (by simpa using he)
  have HP : Hid (insAux s false L = putList L s) := insAux_put s L HR.out.2.2
  have hn3 : s.kept.length ≤ 3 := kept_le (by simpa using hs)
  have hL3 : L.length ≤ 3 := HR.out.1
  go_enter Try.func59, Try.ntmps59
  go_wp2_with fail
  refine (table_error L _ _ HT.out).mono ?_
  rintro e w1 ⟨rfl, hb⟩
  have HB : Hid (Keeps (w.alloc (.cells #[.int .i64 s.client, .int .i64 s.acked, .int .i64 s.seen, .slice ka s.kept.length kc] 48)) w1) := hb
  have g0 : (w1).cell? ⟨w.heap.size, 0, none⟩ = some (.int .i64 s.client) := cell_keep (box_ses w s _) hb
  have g1 : (w1).cell? ⟨w.heap.size, 1, none⟩ = some (.int .i64 s.acked) := cell_keep (by simp) hb
  have g2 : (w1).cell? ⟨w.heap.size, 2, none⟩ = some (.int .i64 s.seen) := cell_keep (by simp) hb
  have g3 : (w1).cell? ⟨w.heap.size, 3, none⟩ = some (.slice ka s.kept.length kc) := cell_keep (by simp) hb
  clear hb
  go_wp2_with fail
  clear g0 g1 g2 g3
  refine (one_error s _ _ (HK.out.keep HB.out)).mono ?_
  rintro e w2 ⟨rfl, hb2⟩
  have HB2 : Hid (Keeps (w.alloc (.cells #[.int .i64 s.client, .int .i64 s.acked, .int .i64 s.seen, .slice ka s.kept.length kc] 48)) w2) := HB.out.trans hb2
  clear hb2 HB
  go_wp2_with fail
  go_loopw [8, 9, 10] (fun o dn i wr => ∃ (k : Nat) (d : Bool) (O : List Ses), k ≤ L.length ∧ i = .int .i64 k ∧ dn = .bool d ∧ O.length ≤ 2 * k ∧ Hid (Keeps (w.alloc (.cells #[.int .i64 s.client, .int .i64 s.acked, .int .i64 s.seen, .slice ka s.kept.length kc] 48)) wr) ∧ Hid (OwnTab (w.heap.size + 1) wr o O) ∧ Hid (insAux s false L = O ++ insAux s d (L.drop k))) (fun _ _ i _ => L.length - (intOf i).toNat)
  case atStart => exact ⟨0, false, [], Nat.zero_le _, rfl, rfl, Nat.zero_le _, HB2, OwnTab.nil _ _, rfl⟩
  case round =>
    obtain ⟨k, d, O, hk, rfl, rfl, hOl, HBr, HO, HQ⟩ := hrel
    clear HB2
    have g0 : (wr).cell? ⟨w.heap.size, 0, none⟩ = some (.int .i64 s.client) := cell_keep (box_ses w s _) HBr.out
    have g1 : (wr).cell? ⟨w.heap.size, 1, none⟩ = some (.int .i64 s.acked) := cell_keep (by simp) HBr.out
    have g2 : (wr).cell? ⟨w.heap.size, 2, none⟩ = some (.int .i64 s.seen) := cell_keep (by simp) HBr.out
    have g3 : (wr).cell? ⟨w.heap.size, 3, none⟩ = some (.slice ka s.kept.length kc) := cell_keep (by simp) HBr.out
    by_cases hlt : k < L.length
    · obtain ⟨b, off, cap', hv, hcell⟩ := (HT.out.keep HBr.out).at hlt
      injection hv with hv1 hv2 hv3
      subst hv1
      clear hv2 hv3 hcell
      have ho3 : (L[k]).kept.length ≤ 3 := kept_le (HR.out.2.1 _ (List.getElem_mem hlt))
      have HS : Hid (insAux s false L = O ++ ((if !d && decide (s.client ≤ (L[k]).client) then [s] else []) ++ ((if (L[k]).client != s.client then [L[k]] else []) ++ insAux s (d || decide (s.client ≤ (L[k]).client)) (L.drop (k + 1))))) := by show _ = _; rw [HQ.out, insAux_at s d hlt]
      generalize hoe : L[k] = o at *
      have HOE : Hid (L[k] = o) := hoe
      clear hoe HQ
      obtain ⟨c0, c1, c2, oa, oc, c3, hkv⟩ := TabAt.cells (HT.out.keep HBr.out) k hlt o HOE.out
      have HKV : Hid (KeptAt wr (.slice oa o.kept.length oc) o.kept) := hkv
      clear hkv
      have hxb : w.heap.size < wr.heap.size := World.block_lt_of_cell? _ _ g0
      have hcb : b < wr.heap.size := World.block_lt_of_cell? _ _ c0
      cases hd : d with
      | true =>
        subst hd
        cases hn : (o.client != s.client) with
        | true =>
          have HN : Hid (insAux s false L = (O ++ [o]) ++ insAux s true (L.drop (k + 1))) := by show _ = _; rw [HS.out, hn]; simp
          clear HS
          go_wp2_with fail
          go_quiet (fail)
          go_wp2_with fail
          go_quiet (fail)
          go_wp2_with fail
          refine (own_c o _ _ (HKV.out.keep ((Keeps.refl _).drewN _)) ho3).mono ?_
          rintro e y3 ⟨kv3, ho, rfl, hb⟩
          obtain ⟨va3, vc3, rfl⟩ : ∃ va vc, kv3 = .slice va o.kept.length vc := by obtain ⟨x, y, h, _⟩ := (RowAt.of_owns ho).len; exact ⟨x, y, h⟩
          have HY3 : Hid (Keeps (w.alloc (.cells #[.int .i64 s.client, .int .i64 s.acked, .int .i64 s.seen, .slice ka s.kept.length kc] 48)) y3) := (HBr.out.drewN _).trans hb
          have hm2 : w.heap.size + 1 ≤ y3.heap.size := by have := HY3.out.size; simpa using this
          have ho' := owns_base (base' := w.heap.size + 1) ho (by have := HBr.out.size; simp at this ⊢; omega)
          have hM : KeptsOwn (w.heap.size + 1) (y3.alloc (.cells #[.int .i64 o.client, .int .i64 o.acked, .int .i64 o.seen, .slice va3 o.kept.length vc3] 48)) [o] [.slice va3 o.kept.length vc3] := ⟨owns_keep ho' ((Keeps.refl _).alloc _), trivial⟩
          obtain ⟨v3, w3, hr, hO', hg, hbk⟩ := run_append_tab (y3.alloc (.cells #[.int .i64 o.client, .int .i64 o.acked, .int .i64 o.seen, .slice va3 o.kept.length vc3] 48)) (w.heap.size + 1) _ (O) (((HO.out.keep ((Keeps.refl _).drewN _)).keep hb).keep ((Keeps.refl _).alloc _)) _ [o] _ hM (row_one y3 o _) (by simp; omega) (by simp; omega)
          obtain ⟨xa3, n3, xc3, hxv, hxn⟩ : ∃ xa n xc, v3 = .slice xa n xc ∧ n = (O ++ [o]).length := by obtain ⟨p, q, h, _⟩ := hO'.tab.len; exact ⟨p, _, q, h, rfl⟩
          subst hxv
          have HX3 : Hid (n3 = (O ++ [o]).length) := hxn
          have hx3 : n3 ≤ 9 := by rw [hxn]; simp; omega
          clear hxn
          have HB3 : Hid (Keeps (w.alloc (.cells #[.int .i64 s.client, .int .i64 s.acked, .int .i64 s.seen, .slice ka s.kept.length kc] 48)) w3) := keeps_grown (HY3.out.alloc _) hg (by simpa using hbk)
          have Hr3 := (show Hid (_ = _) from hr)
          have HO3 : Hid (OwnTab (w.heap.size + 1) w3 _ (O ++ [o])) := hO'
          clear hr hM hO' hg hbk ho ho' hb hm2 HY3
          go_wp2_with (at_builtin; refine wpList_append_run rfl _ _ _ rfl rfl rfl Hr3.out ?_)
          go_roundw
          case rel => exact ⟨k + 1, true, O ++ [o], by omega, by go_num, rfl, by first | omega | (simp; omega), HB3, HO3, HN⟩
          case measure => simp [intOf]; omega
        | false =>
          have HN : Hid (insAux s false L = O ++ insAux s true (L.drop (k + 1))) := by show _ = _; rw [HS.out, hn]; simp
          clear HS
          go_wp2_with fail
          go_quiet (fail)
          go_wp2_with fail
          go_quiet (fail)
          go_wp2_with fail
          go_roundw
          case rel => exact ⟨k + 1, true, O, by omega, by go_num, rfl, by first | omega | (simp; omega), HBr.out.drewN _, HO.out.keep ((Keeps.refl _).drewN _), HN⟩
          case measure => simp [intOf]; omega
      | false =>
        subst hd
        cases hle : decide (s.client ≤ o.client) with
        | false =>
          have hn : (o.client != s.client) = true := by simp at hle ⊢; omega
          have HN : Hid (insAux s false L = (O ++ [o]) ++ insAux s false (L.drop (k + 1))) := by show _ = _; rw [HS.out, hn, hle]; simp
          clear HS
          go_wp2_with fail
          go_quiet (fail)
          go_wp2_with fail
          go_quiet (fail)
          go_wp2_with fail
          refine (own_c o _ _ (HKV.out.keep ((Keeps.refl _).drewN _)) ho3).mono ?_
          rintro e y3 ⟨kv3, ho, rfl, hb⟩
          obtain ⟨va3, vc3, rfl⟩ : ∃ va vc, kv3 = .slice va o.kept.length vc := by obtain ⟨x, y, h, _⟩ := (RowAt.of_owns ho).len; exact ⟨x, y, h⟩
          have HY3 : Hid (Keeps (w.alloc (.cells #[.int .i64 s.client, .int .i64 s.acked, .int .i64 s.seen, .slice ka s.kept.length kc] 48)) y3) := (HBr.out.drewN _).trans hb
          have hm2 : w.heap.size + 1 ≤ y3.heap.size := by have := HY3.out.size; simpa using this
          have ho' := owns_base (base' := w.heap.size + 1) ho (by have := HBr.out.size; simp at this ⊢; omega)
          have hM : KeptsOwn (w.heap.size + 1) (y3.alloc (.cells #[.int .i64 o.client, .int .i64 o.acked, .int .i64 o.seen, .slice va3 o.kept.length vc3] 48)) [o] [.slice va3 o.kept.length vc3] := ⟨owns_keep ho' ((Keeps.refl _).alloc _), trivial⟩
          obtain ⟨v3, w3, hr, hO', hg, hbk⟩ := run_append_tab (y3.alloc (.cells #[.int .i64 o.client, .int .i64 o.acked, .int .i64 o.seen, .slice va3 o.kept.length vc3] 48)) (w.heap.size + 1) _ (O) (((HO.out.keep ((Keeps.refl _).drewN _)).keep hb).keep ((Keeps.refl _).alloc _)) _ [o] _ hM (row_one y3 o _) (by simp; omega) (by simp; omega)
          obtain ⟨xa3, n3, xc3, hxv, hxn⟩ : ∃ xa n xc, v3 = .slice xa n xc ∧ n = (O ++ [o]).length := by obtain ⟨p, q, h, _⟩ := hO'.tab.len; exact ⟨p, _, q, h, rfl⟩
          subst hxv
          have HX3 : Hid (n3 = (O ++ [o]).length) := hxn
          have hx3 : n3 ≤ 9 := by rw [hxn]; simp; omega
          clear hxn
          have HB3 : Hid (Keeps (w.alloc (.cells #[.int .i64 s.client, .int .i64 s.acked, .int .i64 s.seen, .slice ka s.kept.length kc] 48)) w3) := keeps_grown (HY3.out.alloc _) hg (by simpa using hbk)
          have Hr3 := (show Hid (_ = _) from hr)
          have HO3 : Hid (OwnTab (w.heap.size + 1) w3 _ (O ++ [o])) := hO'
          clear hr hM hO' hg hbk ho ho' hb hm2 HY3
          go_wp2_with (at_builtin; refine wpList_append_run rfl _ _ _ rfl rfl rfl Hr3.out ?_)
          go_roundw
          case rel => exact ⟨k + 1, false, O ++ [o], by omega, by go_num, rfl, by first | omega | (simp; omega), HB3, HO3, HN⟩
          case measure => simp [intOf]; omega
        | true =>
          go_wp2_with fail
          go_quiet (fail)
          go_wp2_with fail
          refine (own_c s _ _ ((HK.out.keep HBr.out).keep ((Keeps.refl _).drewN _)) hn3).mono ?_
          rintro e y3 ⟨kv3, ho, rfl, hb⟩
          obtain ⟨va3, vc3, rfl⟩ : ∃ va vc, kv3 = .slice va s.kept.length vc := by obtain ⟨x, y, h, _⟩ := (RowAt.of_owns ho).len; exact ⟨x, y, h⟩
          have HY3 : Hid (Keeps (w.alloc (.cells #[.int .i64 s.client, .int .i64 s.acked, .int .i64 s.seen, .slice ka s.kept.length kc] 48)) y3) := (HBr.out.drewN _).trans hb
          have hm2 : w.heap.size + 1 ≤ y3.heap.size := by have := HY3.out.size; simpa using this
          have ho' := owns_base (base' := w.heap.size + 1) ho (by have := HBr.out.size; simp at this ⊢; omega)
          have hM : KeptsOwn (w.heap.size + 1) (y3.alloc (.cells #[.int .i64 s.client, .int .i64 s.acked, .int .i64 s.seen, .slice va3 s.kept.length vc3] 48)) [s] [.slice va3 s.kept.length vc3] := ⟨owns_keep ho' ((Keeps.refl _).alloc _), trivial⟩
          obtain ⟨v3, w3, hr, hO', hg, hbk⟩ := run_append_tab (y3.alloc (.cells #[.int .i64 s.client, .int .i64 s.acked, .int .i64 s.seen, .slice va3 s.kept.length vc3] 48)) (w.heap.size + 1) _ (O) (((HO.out.keep ((Keeps.refl _).drewN _)).keep hb).keep ((Keeps.refl _).alloc _)) _ [s] _ hM (row_one y3 s _) (by simp; omega) (by simp; omega)
          obtain ⟨xa3, n3, xc3, hxv, hxn⟩ : ∃ xa n xc, v3 = .slice xa n xc ∧ n = (O ++ [s]).length := by obtain ⟨p, q, h, _⟩ := hO'.tab.len; exact ⟨p, _, q, h, rfl⟩
          subst hxv
          have HX3 : Hid (n3 = (O ++ [s]).length) := hxn
          have hx3 : n3 ≤ 9 := by rw [hxn]; simp; omega
          clear hxn
          have HB3 : Hid (Keeps (w.alloc (.cells #[.int .i64 s.client, .int .i64 s.acked, .int .i64 s.seen, .slice ka s.kept.length kc] 48)) w3) := keeps_grown (HY3.out.alloc _) hg (by simpa using hbk)
          have Hr3 := (show Hid (_ = _) from hr)
          have HO3 : Hid (OwnTab (w.heap.size + 1) w3 _ (O ++ [s])) := hO'
          clear hr hM hO' hg hbk ho ho' hb hm2 HY3
          go_wp2_with (at_builtin; refine wpList_append_run rfl _ _ _ rfl rfl rfl Hr3.out ?_)
          clear g0 g1 g2 g3 c0 c1 c2 c3 HKV hxb hcb oa oc
          have g0 : (w3).cell? ⟨w.heap.size, 0, none⟩ = some (.int .i64 s.client) := cell_keep (box_ses w s _) HB3.out
          have g1 : (w3).cell? ⟨w.heap.size, 1, none⟩ = some (.int .i64 s.acked) := cell_keep (by simp) HB3.out
          have g2 : (w3).cell? ⟨w.heap.size, 2, none⟩ = some (.int .i64 s.seen) := cell_keep (by simp) HB3.out
          have g3 : (w3).cell? ⟨w.heap.size, 3, none⟩ = some (.slice ka s.kept.length kc) := cell_keep (by simp) HB3.out
          obtain ⟨c0, c1, c2, oa, oc, c3, hkv⟩ := TabAt.cells (HT.out.keep HB3.out) k hlt o HOE.out
          have HKV : Hid (KeptAt w3 (.slice oa o.kept.length oc) o.kept) := hkv
          clear hkv
          have hxb : w.heap.size < w3.heap.size := World.block_lt_of_cell? _ _ g0
          have hcb : b < w3.heap.size := World.block_lt_of_cell? _ _ c0
          cases hn : (o.client != s.client) with
          | true =>
            have HN : Hid (insAux s false L = (O ++ [s] ++ [o]) ++ insAux s true (L.drop (k + 1))) := by show _ = _; rw [HS.out, hn, hle]; simp
            clear HS
            go_quiet (fail)
            go_wp2_with fail
            refine (own_c o _ _ (HKV.out.keep ((Keeps.refl _).drewN _)) ho3).mono ?_
            rintro e y4 ⟨kv4, ho, rfl, hb⟩
            obtain ⟨va4, vc4, rfl⟩ : ∃ va vc, kv4 = .slice va o.kept.length vc := by obtain ⟨x, y, h, _⟩ := (RowAt.of_owns ho).len; exact ⟨x, y, h⟩
            have HY4 : Hid (Keeps (w.alloc (.cells #[.int .i64 s.client, .int .i64 s.acked, .int .i64 s.seen, .slice ka s.kept.length kc] 48)) y4) := (HB3.out.drewN _).trans hb
            have hm2 : w.heap.size + 1 ≤ y4.heap.size := by have := HY4.out.size; simpa using this
            have ho' := owns_base (base' := w.heap.size + 1) ho (by have := HB3.out.size; simp at this ⊢; omega)
            have hM : KeptsOwn (w.heap.size + 1) (y4.alloc (.cells #[.int .i64 o.client, .int .i64 o.acked, .int .i64 o.seen, .slice va4 o.kept.length vc4] 48)) [o] [.slice va4 o.kept.length vc4] := ⟨owns_keep ho' ((Keeps.refl _).alloc _), trivial⟩
            obtain ⟨v4, w4, hr, hO', hg, hbk⟩ := run_append_tab (y4.alloc (.cells #[.int .i64 o.client, .int .i64 o.acked, .int .i64 o.seen, .slice va4 o.kept.length vc4] 48)) (w.heap.size + 1) _ (O ++ [s]) (((HO3.out.keep ((Keeps.refl _).drewN _)).keep hb).keep ((Keeps.refl _).alloc _)) _ [o] _ hM (row_one y4 o _) (by simp; omega) (by simp; omega)
            obtain ⟨xa4, n4, xc4, hxv, hxn⟩ : ∃ xa n xc, v4 = .slice xa n xc ∧ n = (O ++ [s] ++ [o]).length := by obtain ⟨p, q, h, _⟩ := hO'.tab.len; exact ⟨p, _, q, h, rfl⟩
            subst hxv
            have HX4 : Hid (n4 = (O ++ [s] ++ [o]).length) := hxn
            have hx4 : n4 ≤ 9 := by rw [hxn]; simp; omega
            clear hxn
            have HB4 : Hid (Keeps (w.alloc (.cells #[.int .i64 s.client, .int .i64 s.acked, .int .i64 s.seen, .slice ka s.kept.length kc] 48)) w4) := keeps_grown (HY4.out.alloc _) hg (by simpa using hbk)
            have Hr4 := (show Hid (_ = _) from hr)
            have HO4 : Hid (OwnTab (w.heap.size + 1) w4 _ (O ++ [s] ++ [o])) := hO'
            clear hr hM hO' hg hbk ho ho' hb hm2 HY4
            go_wp2_with (at_builtin; refine wpList_append_run rfl _ _ _ rfl rfl rfl Hr4.out ?_)
            go_roundw
            case rel => exact ⟨k + 1, true, O ++ [s] ++ [o], by omega, by go_num, rfl, by first | omega | (simp; omega), HB4, HO4, HN⟩
            case measure => simp [intOf]; omega
          | false =>
            have HN : Hid (insAux s false L = (O ++ [s]) ++ insAux s true (L.drop (k + 1))) := by show _ = _; rw [HS.out, hn, hle]; simp
            clear HS
            go_quiet (fail)
            go_wp2_with fail
            go_roundw
            case rel => exact ⟨k + 1, true, O ++ [s], by omega, by go_num, rfl, by first | omega | (simp; omega), HB3.out.drewN _, HO3.out.keep ((Keeps.refl _).drewN _), HN⟩
            case measure => simp [intOf]; omega
    · cases hd : d with
      | true =>
        subst hd
        have HFIN : Hid (insAux s false L = O) := by show _ = _; rw [HQ.out, List.drop_of_length_le (by omega)]; simp [insAux]
        clear HQ
        obtain ⟨fa, nF, fc, hfv, hfn⟩ : ∃ fa n fc, u8 = .slice fa n fc ∧ n = (O).length := by obtain ⟨p, q, h, _⟩ := HO.out.tab.len; exact ⟨p, _, q, h, rfl⟩
        subst hfv
        have HNF : Hid (nF = (O).length) := hfn
        have hfl : nF ≤ 9 := by omega
        clear hfn
        have HOF : Hid (OwnTab w.heap.size _ _ (O)) := HO.out.base (by omega)
        have hkF := ((Keeps.refl w).alloc _).trans HBr.out
        have HPL : Hid (putList L s = O) := HP.out.symm.trans HFIN.out
        cases hq : decide (3 < nF) with
        | true =>
          have hq1 : 3 < nF := by simpa using hq
          have HE : Hid (putErr L s = 2 ∧ putTab L s = []) := by
            have h1 : putErr L s = 2 := by
              have h2 : 3 < (putList L s).length := by rw [HPL.out, ← HNF.out]; exact hq1
              simp only [putErr, he, hs, if_true, h2]
            exact ⟨h1, by simp [putTab, h1]⟩
          go_wp2_with fail
          go_ret2
          exact ⟨.slice none 0 0, by rw [HE.out.2]; exact OwnTab.nil _ _, by rw [HE.out.1]; rfl, hkF⟩
        | false =>
          have hq1 : ¬ 3 < nF := by simpa using hq
          have HE : Hid (putErr L s = 0 ∧ putTab L s = O) := by
            have h1 : putErr L s = 0 := by
              have h2 : ¬ 3 < (putList L s).length := by rw [HPL.out, ← HNF.out]; exact hq1
              simp only [putErr, he, hs, if_true, h2, if_false]
            exact ⟨h1, by simp [putTab, h1, HPL.out]⟩
          go_wp2_with fail
          go_ret2
          exact ⟨_, by rw [HE.out.2]; exact HOF.out, by rw [HE.out.1]; rfl, hkF⟩
      | false =>
        subst hd
        have HFIN : Hid (insAux s false L = O ++ [s]) := by show _ = _; rw [HQ.out, List.drop_of_length_le (by omega)]; rfl
        clear HQ
        go_wp2_with fail
        refine (own_c s _ _ (HK.out.keep HBr.out) hn3).mono ?_
        rintro e y3 ⟨kv3, ho, rfl, hb⟩
        obtain ⟨va3, vc3, rfl⟩ : ∃ va vc, kv3 = .slice va s.kept.length vc := by obtain ⟨x, y, h, _⟩ := (RowAt.of_owns ho).len; exact ⟨x, y, h⟩
        have HY3 : Hid (Keeps (w.alloc (.cells #[.int .i64 s.client, .int .i64 s.acked, .int .i64 s.seen, .slice ka s.kept.length kc] 48)) y3) := (HBr.out).trans hb
        have hm2 : w.heap.size + 1 ≤ y3.heap.size := by have := HY3.out.size; simpa using this
        have ho' := owns_base (base' := w.heap.size + 1) ho (by have := HBr.out.size; simp at this ⊢; omega)
        have hM : KeptsOwn (w.heap.size + 1) (y3.alloc (.cells #[.int .i64 s.client, .int .i64 s.acked, .int .i64 s.seen, .slice va3 s.kept.length vc3] 48)) [s] [.slice va3 s.kept.length vc3] := ⟨owns_keep ho' ((Keeps.refl _).alloc _), trivial⟩
        obtain ⟨v3, w3, hr, hO', hg, hbk⟩ := run_append_tab (y3.alloc (.cells #[.int .i64 s.client, .int .i64 s.acked, .int .i64 s.seen, .slice va3 s.kept.length vc3] 48)) (w.heap.size + 1) _ (O) (((HO.out).keep hb).keep ((Keeps.refl _).alloc _)) _ [s] _ hM (row_one y3 s _) (by simp; omega) (by simp; omega)
        obtain ⟨xa3, n3, xc3, hxv, hxn⟩ : ∃ xa n xc, v3 = .slice xa n xc ∧ n = (O ++ [s]).length := by obtain ⟨p, q, h, _⟩ := hO'.tab.len; exact ⟨p, _, q, h, rfl⟩
        subst hxv
        have HX3 : Hid (n3 = (O ++ [s]).length) := hxn
        have hx3 : n3 ≤ 9 := by rw [hxn]; simp; omega
        clear hxn
        have HB3 : Hid (Keeps (w.alloc (.cells #[.int .i64 s.client, .int .i64 s.acked, .int .i64 s.seen, .slice ka s.kept.length kc] 48)) w3) := keeps_grown (HY3.out.alloc _) hg (by simpa using hbk)
        have Hr3 := (show Hid (_ = _) from hr)
        have HO3 : Hid (OwnTab (w.heap.size + 1) w3 _ (O ++ [s])) := hO'
        clear hr hM hO' hg hbk ho ho' hb hm2 HY3
        have HNF := HX3
        have HOF : Hid (OwnTab w.heap.size _ _ (O ++ [s])) := HO3.out.base (by omega)
        have hkF := ((Keeps.refl w).alloc _).trans HB3.out
        have HPL : Hid (putList L s = O ++ [s]) := HP.out.symm.trans HFIN.out
        cases hq : decide (3 < n3) with
        | true =>
          have hq1 : 3 < n3 := by simpa using hq
          have HE : Hid (putErr L s = 2 ∧ putTab L s = []) := by
            have h1 : putErr L s = 2 := by
              have h2 : 3 < (putList L s).length := by rw [HPL.out, ← HNF.out]; exact hq1
              simp only [putErr, he, hs, if_true, h2]
            exact ⟨h1, by simp [putTab, h1]⟩
          go_wp2_with (at_builtin; refine wpList_append_run rfl _ _ _ rfl rfl rfl Hr3.out ?_)
          go_ret2
          exact ⟨.slice none 0 0, by rw [HE.out.2]; exact OwnTab.nil _ _, by rw [HE.out.1]; rfl, hkF⟩
        | false =>
          have hq1 : ¬ 3 < n3 := by simpa using hq
          have HE : Hid (putErr L s = 0 ∧ putTab L s = O ++ [s]) := by
            have h1 : putErr L s = 0 := by
              have h2 : ¬ 3 < (putList L s).length := by rw [HPL.out, ← HNF.out]; exact hq1
              simp only [putErr, he, hs, if_true, h2, if_false]
            exact ⟨h1, by simp [putTab, h1, HPL.out]⟩
          go_wp2_with (at_builtin; refine wpList_append_run rfl _ _ _ rfl rfl rfl Hr3.out ?_)
          go_ret2
          exact ⟨_, by rw [HE.out.2]; exact HOF.out, by rw [HE.out.1]; rfl, hkF⟩

/-- The reference's PutOf. -/
theorem put_of (L : List Ses) (v : Value) (s : Ses) (kv : Value) (w : World) (hT : TabAt w v L) (hK : KeptAt w kv s.kept) :
    Calls Try.prog 59 #[v, sesV s kv] w fun e w' => ∃ v', OwnTab w.heap.size w' v' (putTab L s) ∧ e = .returned (.tuple #[v', .int .i64 (putErr L s)]) ∧ Keeps w w' := by
  cases h : ((tabErr L == 0) && (sesErr s == 0)) with
  | false => exact put_of_err L v s kv w hT hK h
  | true =>
    simp only [Bool.and_eq_true] at h
    exact put_of_ok L v s kv w hT hK h.1 h.2
end Go.Proofs.Yteabfjpajgakiab
