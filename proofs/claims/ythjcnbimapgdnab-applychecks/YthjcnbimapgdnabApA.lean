/- Entries: apply.inBounds, apply.Check. -/
import Derived.Test.YthjcnbimapgdnabOpB
import Derived.Test.YthjcnbimapgdnabEq
import Derived.Test.YthjcnbimapgdnabSesA
set_option linter.unusedSimpArgs false
set_option linter.unusedVariables false
set_option maxRecDepth 10000
namespace Go.Proofs.Ythjcnbimapgdnab
open Go.RowKit

structure Ent where
  kind : Int
  time : Int
  client : Int
  seq : Int
  ack : Int
  ok : Int
  okey : Int
  oto : Int
  on : Int

abbrev entV (e : Ent) : Value := .agg #[.int .i64 e.kind, .int .i64 e.time, .int .i64 e.client, .int .i64 e.seq, .int .i64 e.ack, .int .i64 e.ok, .int .i64 e.okey, .int .i64 e.oto, .int .i64 e.on]

theorem eqop (d : Nat) (a0 a1 a2 a3 b0 b1 b2 b3 : Int) (w : World) : (Op.equalIn (d + 2) 31 (.agg #[.int .i64 a0, .int .i64 a1, .int .i64 a2, .int .i64 a3]) (.agg #[.int .i64 b0, .int .i64 b1, .int .i64 b2, .int .i64 b3])).run Try.prog w = .ok (a0 == b0 && (a1 == b1 && (a2 == b2 && a3 == b3))) w := by
  have p := part3 a0 a1 a2 a3
  have q := part3 b0 b1 b2 b3
  rw [run_equalIn_struct w (d + 1) 31 _ _ (by kernel_rfl) (by kernel_rfl)]
  simp [Program.fieldsOf, Try.underlying31, Op.eqFields, p, q, eqint]
  by_cases h0 : a0 = b0
  · by_cases h1 : a1 = b1
    · by_cases h2 : a2 = b2
      · by_cases h3 : a3 = b3
        · simp [h0, h1, h2, h3]
        · simp [h0, h1, h2, h3]
      · simp [h0, h1, h2]
    · simp [h0, h1]
  · simp [h0]
/-- '!=' between two ops. -/
theorem neqop (a0 a1 a2 a3 b0 b1 b2 b3 : Int) (w : World) : (binOp .neq 31 (.agg #[.int .i64 a0, .int .i64 a1, .int .i64 a2, .int .i64 a3]) (.agg #[.int .i64 b0, .int .i64 b1, .int .i64 b2, .int .i64 b3])).run Try.prog w = .ok (.bool (!(a0 == b0 && (a1 == b1 && (a2 == b2 && a3 == b3))))) w := by
  simp only [binOp]
  have := eqop 9998 a0 a1 a2 a3 b0 b1 b2 b3 w
  simp [Op.equal, Op.maxDepth, this]

def entIn (e : Ent) : Bool := inB e.time 0 999 && (inB e.client 1 5 && (e.kind != 2 || (inB e.seq 1 60 && inB e.ack 0 (e.seq - 1))))
def opNone (e : Ent) : Bool := e.ok == 0 && (e.okey == 0 && (e.oto == 0 && e.on == 0))
def entErr (e : Ent) : Int := if inB e.kind 1 3 then (if entIn e then (if e.kind == 2 then opErr e.ok e.okey e.oto e.on else if e.seq == 0 && (e.ack == 0 && opNone e) then 0 else 1) else 3) else 4

set_option maxHeartbeats 1000000 in
theorem ent_in_bounds (e : Ent) (w : World) : Calls Try.prog 35 #[entV e] w fun x w' => x = .returned (.bool (entIn e)) ∧ Keeps w w' := by
  unfold entIn
  cases q1 : inB e.time 0 999 with
  | false =>
    go_enter Try.func35, Try.ntmps35
    go_wp2_with (first | (go_at_call 26; refine (bound_in _ _ _ _).mono ?_; rintro x w' ⟨rfl, rfl⟩))
    go_ret
    exact ⟨rfl, (Keeps.refl _).alloc _⟩
  | true =>
    cases q2 : inB e.client 1 5 with
    | false =>
      go_enter Try.func35, Try.ntmps35
      go_wp2_with (first | (go_at_call 26; refine (bound_in _ _ _ _).mono ?_; rintro x w' ⟨rfl, rfl⟩))
      go_ret
      exact ⟨rfl, (Keeps.refl _).alloc _⟩
    | true =>
      cases q3 : (e.kind != 2) with
      | true =>
        go_enter Try.func35, Try.ntmps35
        go_wp2_with (first | (go_at_call 26; refine (bound_in _ _ _ _).mono ?_; rintro x w' ⟨rfl, rfl⟩))
        go_ret
        exact ⟨rfl, (Keeps.refl _).alloc _⟩
      | false =>
        cases q4 : inB e.seq 1 60 with
        | false =>
          go_enter Try.func35, Try.ntmps35
          go_wp2_with (first | (go_at_call 26; refine (bound_in _ _ _ _).mono ?_; rintro x w' ⟨rfl, rfl⟩))
          go_ret
          exact ⟨rfl, (Keeps.refl _).alloc _⟩
        | true =>
          have q4' : 1 ≤ e.seq ∧ e.seq ≤ 60 := by simpa [inB] using q4
          obtain ⟨q5, q6⟩ := q4'
          go_enter Try.func35, Try.ntmps35
          go_wp2_with (first | (go_at_call 26; refine (bound_in _ _ _ _).mono ?_; rintro x w' ⟨rfl, rfl⟩))
          go_ret
          exact ⟨rfl, (Keeps.refl _).alloc _⟩

set_option maxHeartbeats 1000000 in
theorem ent_check (e : Ent) (w : World) : Calls Try.prog 15 #[entV e] w fun x w' => x = .returned (.int .i64 (entErr e)) ∧ Keeps w w' := by
  have HE : Hid (entErr e = if inB e.kind 1 3 then (if entIn e then (if e.kind == 2 then opErr e.ok e.okey e.oto e.on else if e.seq == 0 && (e.ack == 0 && opNone e) then 0 else 1) else 3) else 4) := rfl
  have HN : Hid (opNone e = (e.ok == 0 && (e.okey == 0 && (e.oto == 0 && e.on == 0)))) := rfl
  have hn := neqop
  cases q1 : inB e.kind 1 3 with
  | false =>
    have HE : Hid (entErr e = 4) := by show _ = _; rw [HE.out, q1]; rfl
    go_enter Try.func15, Try.ntmps15
    go_wp2_with (first | (go_at_call 26; refine (bound_in _ _ _ _).mono ?_; rintro x w' ⟨rfl, rfl⟩))
    go_ret
    exact ⟨ret_int HE.out.symm, (Keeps.refl _).alloc _⟩
  | true =>
    rw [q1] at HE
    go_enter Try.func15, Try.ntmps15
    go_wp2_with (first | (go_at_call 26; refine (bound_in _ _ _ _).mono ?_; rintro x w' ⟨rfl, rfl⟩))
    refine (ent_in_bounds e _).mono ?_
    rintro x w1 ⟨rfl, hb⟩
    have hk1 : Keeps w w1 := ((Keeps.refl _).alloc _).trans hb
    cases q2 : entIn e with
    | false =>
      have HE : Hid (entErr e = 3) := by show _ = _; rw [HE.out, q2]; rfl
      go_wp2_with fail
      go_ret
      exact ⟨ret_int HE.out.symm, hk1⟩
    | true =>
      have x0 : w1.cell? ⟨w.heap.size, 0, none⟩ = some (.int .i64 e.kind) := (Below.cell hb (p := ⟨w.heap.size, 0, none⟩) (by simp)).trans (by simp [go_sem])
      have x3 : w1.cell? ⟨w.heap.size, 3, none⟩ = some (.int .i64 e.seq) := (Below.cell hb (p := ⟨w.heap.size, 3, none⟩) (by simp)).trans (by simp [go_sem])
      have x4 : w1.cell? ⟨w.heap.size, 4, none⟩ = some (.int .i64 e.ack) := (Below.cell hb (p := ⟨w.heap.size, 4, none⟩) (by simp)).trans (by simp [go_sem])
      have x5 : w1.cell? ⟨w.heap.size, 5, none⟩ = some (.int .i64 e.ok) := (Below.cell hb (p := ⟨w.heap.size, 5, none⟩) (by simp)).trans (by simp [go_sem])
      have x6 : w1.cell? ⟨w.heap.size, 6, none⟩ = some (.int .i64 e.okey) := (Below.cell hb (p := ⟨w.heap.size, 6, none⟩) (by simp)).trans (by simp [go_sem])
      have x7 : w1.cell? ⟨w.heap.size, 7, none⟩ = some (.int .i64 e.oto) := (Below.cell hb (p := ⟨w.heap.size, 7, none⟩) (by simp)).trans (by simp [go_sem])
      have x8 : w1.cell? ⟨w.heap.size, 8, none⟩ = some (.int .i64 e.on) := (Below.cell hb (p := ⟨w.heap.size, 8, none⟩) (by simp)).trans (by simp [go_sem])
      have hlt := World.block_lt_of_cell? _ _ x8
      simp only [] at hlt
      clear hb
      cases q3 : (e.kind == 2) with
      | true =>
        have HE : Hid (entErr e = opErr e.ok e.okey e.oto e.on) := by show _ = _; rw [HE.out, q2, q3]; rfl
        go_wp2_with fail
        refine (op_check e.ok e.okey e.oto e.on _).mono ?_
        rintro x w2 ⟨rfl, hb⟩
        have hk2 : Keeps w w2 := hk1.trans hb
        clear hb
        go_wp2_with fail
        go_ret
        exact ⟨ret_int HE.out.symm, hk2⟩
      | false =>
        cases q4 : (e.seq == 0) with
        | false =>
          have q4' : (e.seq != 0) = true := by simp [bne, q4]
          have HE : Hid (entErr e = 1) := by show _ = _; rw [HE.out, q2, q3, q4]; rfl
          go_wp2_with fail
          go_ret
          exact ⟨ret_int HE.out.symm, hk1⟩
        | true =>
          have q4' : (e.seq != 0) = false := by simp [bne, q4]
          cases q5 : (e.ack == 0) with
          | false =>
            have q5' : (e.ack != 0) = true := by simp [bne, q5]
            have HE : Hid (entErr e = 1) := by show _ = _; rw [HE.out, q2, q3, q4, q5]; rfl
            go_wp2_with fail
            go_ret
            exact ⟨ret_int HE.out.symm, hk1⟩
          | true =>
            have q5' : (e.ack != 0) = false := by simp [bne, q5]
            cases q6 : (e.ok == 0 && (e.okey == 0 && (e.oto == 0 && e.on == 0))) with
            | false =>
              have q6' : (!(e.ok == 0 && (e.okey == 0 && (e.oto == 0 && e.on == 0)))) = true := by rw [q6]; rfl
              have HE : Hid (entErr e = 1) := by show _ = _; rw [HE.out, q2, q3, q4, q5, HN.out, q6]; rfl
              go_wp2_with fail
              go_ret
              exact ⟨ret_int HE.out.symm, hk1⟩
            | true =>
              have q6' : (!(e.ok == 0 && (e.okey == 0 && (e.oto == 0 && e.on == 0)))) = false := by rw [q6]; rfl
              have HE : Hid (entErr e = 0) := by show _ = _; rw [HE.out, q2, q3, q4, q5, HN.out, q6]; rfl
              go_wp2_with fail
              go_ret
              exact ⟨ret_int HE.out.symm, hk1⟩
end Go.Proofs.Ythjcnbimapgdnab
