/- The reference's EntryError; the walk of ApplyChecks. -/
import Derived.Test.YthjcnbimapgdnabApK
import Derived.Test.YthjcnbimapgdnabRefA
set_option linter.unusedSimpArgs false
set_option linter.unusedVariables false
set_option maxRecDepth 10000
namespace Go.Proofs.Ythjcnbimapgdnab
open Go.RowKit

set_option maxHeartbeats 4000000 in
theorem entry_error (e : Ent) (w : World) : Calls Try.prog 16 #[entV e] w fun x w' => x = .returned (.int .i64 (entErr e)) ∧ Keeps w w' := by
  have HE : Hid (entErr e = if inB e.kind 1 3 then (if entIn e then (if e.kind == 2 then opErr e.ok e.okey e.oto e.on else if e.seq == 0 && (e.ack == 0 && opNone e) then 0 else 1) else 3) else 4) := rfl
  have HI : Hid (entIn e = (inB e.time 0 999 && (inB e.client 1 5 && (e.kind != 2 || (inB e.seq 1 60 && inB e.ack 0 (e.seq - 1)))))) := rfl
  have HN : Hid (opNone e = (e.ok == 0 && (e.okey == 0 && (e.oto == 0 && e.on == 0)))) := rfl
  have hn := neqop
  cases q1 : inB e.kind 1 3 with
  | false =>
    have HE : Hid (entErr e = 4) := by show _ = _; rw [HE.out, q1]; rfl
    go_enter Try.func16, Try.ntmps16
    go_wp2_with (first | (go_at_call 27; refine (within_c _ _ _ _).mono ?_; rintro x w' ⟨rfl, rfl⟩))
    go_ret
    exact ⟨ret_int HE.out.symm, (Keeps.refl _).alloc _⟩
  | true =>
    rw [q1] at HE
    cases qt : inB e.time 0 999 with
    | false =>
      have HF : Hid (entErr e = 3) := by show _ = _; rw [HE.out, HI.out, qt]; rfl
      go_enter Try.func16, Try.ntmps16
      go_wp2_with (first | (go_at_call 27; refine (within_c _ _ _ _).mono ?_; rintro x w' ⟨rfl, rfl⟩))
      go_ret
      exact ⟨ret_int HF.out.symm, (Keeps.refl _).alloc _⟩
    | true =>
      cases qc : inB e.client 1 5 with
      | false =>
        have HF : Hid (entErr e = 3) := by show _ = _; rw [HE.out, HI.out, qt, qc]; rfl
        go_enter Try.func16, Try.ntmps16
        go_wp2_with (first | (go_at_call 27; refine (within_c _ _ _ _).mono ?_; rintro x w' ⟨rfl, rfl⟩))
        go_ret
        exact ⟨ret_int HF.out.symm, (Keeps.refl _).alloc _⟩
      | true =>
        cases q3 : (e.kind == 2) with
        | false =>
          have q3' : (e.kind != 2) = true := by simp [bne, q3]
          have HEE : Hid (entErr e = if e.seq == 0 && (e.ack == 0 && opNone e) then 0 else 1) := by show _ = _; rw [HE.out, HI.out, qt, qc, q3', q3]; rfl
          cases q4 : (e.seq == 0) with
          | false =>
            have q4' : (e.seq != 0) = true := by simp [bne, q4]
            have HF : Hid (entErr e = 1) := by show _ = _; rw [HEE.out, q4]; rfl
            go_enter Try.func16, Try.ntmps16
            go_wp2_with (first | (go_at_call 27; refine (within_c _ _ _ _).mono ?_; rintro x w' ⟨rfl, rfl⟩))
            go_ret
            exact ⟨ret_int HF.out.symm, (Keeps.refl _).alloc _⟩
          | true =>
            have q4' : (e.seq != 0) = false := by simp [bne, q4]
            cases q5 : (e.ack == 0) with
            | false =>
              have q5' : (e.ack != 0) = true := by simp [bne, q5]
              have HF : Hid (entErr e = 1) := by show _ = _; rw [HEE.out, q4, q5]; rfl
              go_enter Try.func16, Try.ntmps16
              go_wp2_with (first | (go_at_call 27; refine (within_c _ _ _ _).mono ?_; rintro x w' ⟨rfl, rfl⟩))
              go_ret
              exact ⟨ret_int HF.out.symm, (Keeps.refl _).alloc _⟩
            | true =>
              have q5' : (e.ack != 0) = false := by simp [bne, q5]
              cases q6 : (e.ok == 0 && (e.okey == 0 && (e.oto == 0 && e.on == 0))) with
              | false =>
                have q6' : (!(e.ok == 0 && (e.okey == 0 && (e.oto == 0 && e.on == 0)))) = true := by rw [q6]; rfl
                have HF : Hid (entErr e = 1) := by show _ = _; rw [HEE.out, q4, q5, HN.out, q6]; rfl
                go_enter Try.func16, Try.ntmps16
                go_wp2_with (first | (go_at_call 27; refine (within_c _ _ _ _).mono ?_; rintro x w' ⟨rfl, rfl⟩))
                go_ret
                exact ⟨ret_int HF.out.symm, (Keeps.refl _).alloc _⟩
              | true =>
                have q6' : (!(e.ok == 0 && (e.okey == 0 && (e.oto == 0 && e.on == 0)))) = false := by rw [q6]; rfl
                have HF : Hid (entErr e = 0) := by show _ = _; rw [HEE.out, q4, q5, HN.out, q6]; rfl
                go_enter Try.func16, Try.ntmps16
                go_wp2_with (first | (go_at_call 27; refine (within_c _ _ _ _).mono ?_; rintro x w' ⟨rfl, rfl⟩))
                go_ret
                exact ⟨ret_int HF.out.symm, (Keeps.refl _).alloc _⟩
        | true =>
          have q3' : (e.kind != 2) = false := by simp [bne, q3]
          cases qs : inB e.seq 1 60 with
          | false =>
            have HF : Hid (entErr e = 3) := by show _ = _; rw [HE.out, HI.out, qt, qc, q3', qs]; rfl
            go_enter Try.func16, Try.ntmps16
            go_wp2_with (first | (go_at_call 27; refine (within_c _ _ _ _).mono ?_; rintro x w' ⟨rfl, rfl⟩))
            go_ret
            exact ⟨ret_int HF.out.symm, (Keeps.refl _).alloc _⟩
          | true =>
            have qs' := inB_iff.1 qs
            obtain ⟨qs1, qs2⟩ := qs'
            cases qa : inB e.ack 0 (e.seq - 1) with
            | false =>
              have HF : Hid (entErr e = 3) := by show _ = _; rw [HE.out, HI.out, qt, qc, q3', qs, qa]; rfl
              go_enter Try.func16, Try.ntmps16
              go_wp2_with (first | (go_at_call 27; refine (within_c _ _ _ _).mono ?_; rintro x w' ⟨rfl, rfl⟩))
              go_ret
              exact ⟨ret_int HF.out.symm, (Keeps.refl _).alloc _⟩
            | true =>
              have HF : Hid (entErr e = opErr e.ok e.okey e.oto e.on) := by show _ = _; rw [HE.out, HI.out, qt, qc, q3', qs, qa, q3]; rfl
              go_enter Try.func16, Try.ntmps16
              go_wp2_with (first | (go_at_call 27; refine (within_c _ _ _ _).mono ?_; rintro x w' ⟨rfl, rfl⟩) | (go_at_call 37; refine (op_error e.ok e.okey e.oto e.on _).mono ?_; rintro x w2 ⟨rfl, hb⟩))
              go_ret
              exact ⟨ret_int HF.out.symm, ((Keeps.refl _).alloc _).trans hb⟩

set_option maxHeartbeats 2000000 in
theorem checks_law (e : Ent) (w : World) : Calls Try.prog 4 #[entV e] w fun x w' => x = .returned (.bool true) ∧ Keeps w w' := by
  go_enter Try.func4, Try.ntmps4
  go_wp2_with fail
  obtain ⟨W1, hW1⟩ : ∃ W1, W1 = w.alloc (.cells #[.int .i64 e.kind, .int .i64 e.time, .int .i64 e.client, .int .i64 e.seq, .int .i64 e.ack, .int .i64 e.ok, .int .i64 e.okey, .int .i64 e.oto, .int .i64 e.on] 33) := ⟨_, rfl⟩
  have k1 : Keeps w W1 := by rw [hW1]; exact (Keeps.refl _).alloc _
  have E1 : EntBox w.heap.size e W1 := by rw [hW1]; exact EntBox.new w e 33
  rw [← hW1]
  clear hW1
  have hne := After.some W1
  have x0 := fun t : After W1 => (E1.keep t.h).c0
  have x1 := fun t : After W1 => (E1.keep t.h).c1
  have x2 := fun t : After W1 => (E1.keep t.h).c2
  have x3 := fun t : After W1 => (E1.keep t.h).c3
  have x4 := fun t : After W1 => (E1.keep t.h).c4
  have x5 := fun t : After W1 => (E1.keep t.h).c5
  have x6 := fun t : After W1 => (E1.keep t.h).c6
  have x7 := fun t : After W1 => (E1.keep t.h).c7
  have x8 := fun t : After W1 => (E1.keep t.h).c8
  have C1 : Hid (∀ W, Calls Try.prog 15 #[entV e] W fun x w' => x = .returned (.int .i64 (entErr e)) ∧ Keeps W w') := fun W => ent_check e W
  have C2 : Hid (∀ W, Calls Try.prog 16 #[entV e] W fun x w' => x = .returned (.int .i64 (entErr e)) ∧ Keeps W w') := fun W => entry_error e W
  generalize entErr e = er at *
  refine wp_region_after (by kernel_rfl) (by kernel_rfl) ?_
  repeat (first | go_big_quiet_skip | (go_big_quiet_want; go_big_quiet_op; first | go_big_quiet_on | (apply Exists.intro; refine ⟨fun _ => ?_, ?_⟩; (first | (go_at_call 14; exact calls_after (apply_begun _)) | (go_at_call 15; exact calls_after (C1.out _)) | (go_at_call 16; exact calls_after (C2.out _))); go_big_quiet_on)))
  refine wpQuiet_nil ?_
  rintro _ ⟨r, rfl⟩
  go_wp2_with fail
  go_ret
  exact ⟨rfl, k1.trans r.h⟩
end Go.Proofs.Ythjcnbimapgdnab
