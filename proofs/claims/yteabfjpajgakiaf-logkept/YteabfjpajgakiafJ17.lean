/- ApR, EnE, StE, FoK, EqE, PaD, StF. -/
import Derived.Test.YteabfjpajgakiafJ00
import Derived.Test.YteabfjpajgakiafJ02
import Derived.Test.YteabfjpajgakiafJ05
import Derived.Test.YteabfjpajgakiafJ13
import Derived.Test.YteabfjpajgakiafJ15
import Derived.Test.YteabfjpajgakiafJ16
/- The reference's OwnState, and applied. -/
set_option linter.unusedSimpArgs false
set_option linter.unusedVariables false
set_option maxRecDepth 10000
namespace Go.Proofs.Yteabfjpajgakiaf
open Go.RowKit

end Go.Proofs.Yteabfjpajgakiaf

/- The reference's EntryError. -/
set_option linter.unusedSimpArgs false
set_option linter.unusedVariables false
set_option maxRecDepth 10000
namespace Go.Proofs.Yteabfjpajgakiaf
open Go.RowKit

set_option maxHeartbeats 4000000 in
theorem entry_error (e : Ent) (w : World) : Calls Try.prog 16 #[entV e] w fun x w' => x = .returned (.int .i64 (entErr e)) ∧ Keeps w w' := by
  have HE : Hid (entErr e = if inB e.kind 1 3 then (if entIn e then (if e.kind == 2 then opErr e.ok e.okey e.oto e.on else if e.seq == 0 && (e.ack == 0 && opNone e) then 0 else 1) else 3) else 4) := rfl
  have HI : Hid (entIn e = (inB e.time 0 999 && (inB e.client 1 5 && (e.kind != 2 || (inB e.seq 1 60 && inB e.ack 0 (e.seq - 1)))))) := rfl
  have HN : Hid (opNone e = (e.ok == 0 && (e.okey == 0 && (e.oto == 0 && e.on == 0)))) := rfl
  have hn := neqop
  cases q1 : inB e.kind 1 3 with
  | false =>
    have HE : Hid (entErr e = 4) := by show _ = _; rw [HE.out, q1]; rfl
    go_enter Try.func16, Try.ntmps16
    go_wp2_with (first | (go_at_call 37; refine (within_c _ _ _ _).mono ?_; rintro x w' ⟨rfl, rfl⟩))
    go_ret
    exact ⟨ret_int HE.out.symm, (Keeps.refl _).alloc _⟩
  | true =>
    rw [q1] at HE
    cases qt : inB e.time 0 999 with
    | false =>
      have HF : Hid (entErr e = 3) := by show _ = _; rw [HE.out, HI.out, qt]; rfl
      go_enter Try.func16, Try.ntmps16
      go_wp2_with (first | (go_at_call 37; refine (within_c _ _ _ _).mono ?_; rintro x w' ⟨rfl, rfl⟩))
      go_ret
      exact ⟨ret_int HF.out.symm, (Keeps.refl _).alloc _⟩
    | true =>
      cases qc : inB e.client 1 5 with
      | false =>
        have HF : Hid (entErr e = 3) := by show _ = _; rw [HE.out, HI.out, qt, qc]; rfl
        go_enter Try.func16, Try.ntmps16
        go_wp2_with (first | (go_at_call 37; refine (within_c _ _ _ _).mono ?_; rintro x w' ⟨rfl, rfl⟩))
        go_ret
        exact ⟨ret_int HF.out.symm, (Keeps.refl _).alloc _⟩
      | true =>
        cases q3 : (e.kind == 2) with
        | false =>
          have q3' : (e.kind != 2) = true := by simp [bne, q3]
          have HEE : Hid (entErr e = if e.seq == 0 && (e.ack == 0 && opNone e) then 0 else 1) := by show _ = _; rw [HE.out, HI.out, qt, qc, q3', q3]; rfl
          cases q4 : (e.seq == 0) with
          | false =>
            have q4' : (e.seq != 0) = true := by simp [bne, q4]
            have HF : Hid (entErr e = 1) := by show _ = _; rw [HEE.out, q4]; rfl
            go_enter Try.func16, Try.ntmps16
            go_wp2_with (first | (go_at_call 37; refine (within_c _ _ _ _).mono ?_; rintro x w' ⟨rfl, rfl⟩))
            go_ret
            exact ⟨ret_int HF.out.symm, (Keeps.refl _).alloc _⟩
          | true =>
            have q4' : (e.seq != 0) = false := by simp [bne, q4]
            cases q5 : (e.ack == 0) with
            | false =>
              have q5' : (e.ack != 0) = true := by simp [bne, q5]
              have HF : Hid (entErr e = 1) := by show _ = _; rw [HEE.out, q4, q5]; rfl
              go_enter Try.func16, Try.ntmps16
              go_wp2_with (first | (go_at_call 37; refine (within_c _ _ _ _).mono ?_; rintro x w' ⟨rfl, rfl⟩))
              go_ret
              exact ⟨ret_int HF.out.symm, (Keeps.refl _).alloc _⟩
            | true =>
              have q5' : (e.ack != 0) = false := by simp [bne, q5]
              cases q6 : (e.ok == 0 && (e.okey == 0 && (e.oto == 0 && e.on == 0))) with
              | false =>
                have q6' : (!(e.ok == 0 && (e.okey == 0 && (e.oto == 0 && e.on == 0)))) = true := by rw [q6]; rfl
                have HF : Hid (entErr e = 1) := by show _ = _; rw [HEE.out, q4, q5, HN.out, q6]; rfl
                go_enter Try.func16, Try.ntmps16
                go_wp2_with (first | (go_at_call 37; refine (within_c _ _ _ _).mono ?_; rintro x w' ⟨rfl, rfl⟩))
                go_ret
                exact ⟨ret_int HF.out.symm, (Keeps.refl _).alloc _⟩
              | true =>
                have q6' : (!(e.ok == 0 && (e.okey == 0 && (e.oto == 0 && e.on == 0)))) = false := by rw [q6]; rfl
                have HF : Hid (entErr e = 0) := by show _ = _; rw [HEE.out, q4, q5, HN.out, q6]; rfl
                go_enter Try.func16, Try.ntmps16
                go_wp2_with (first | (go_at_call 37; refine (within_c _ _ _ _).mono ?_; rintro x w' ⟨rfl, rfl⟩))
                go_ret
                exact ⟨ret_int HF.out.symm, (Keeps.refl _).alloc _⟩
        | true =>
          have q3' : (e.kind != 2) = false := by simp [bne, q3]
          cases qs : inB e.seq 1 60 with
          | false =>
            have HF : Hid (entErr e = 3) := by show _ = _; rw [HE.out, HI.out, qt, qc, q3', qs]; rfl
            go_enter Try.func16, Try.ntmps16
            go_wp2_with (first | (go_at_call 37; refine (within_c _ _ _ _).mono ?_; rintro x w' ⟨rfl, rfl⟩))
            go_ret
            exact ⟨ret_int HF.out.symm, (Keeps.refl _).alloc _⟩
          | true =>
            have qs' := inB_iff.1 qs
            obtain ⟨qs1, qs2⟩ := qs'
            cases qa : inB e.ack 0 (e.seq - 1) with
            | false =>
              have HF : Hid (entErr e = 3) := by show _ = _; rw [HE.out, HI.out, qt, qc, q3', qs, qa]; rfl
              go_enter Try.func16, Try.ntmps16
              go_wp2_with (first | (go_at_call 37; refine (within_c _ _ _ _).mono ?_; rintro x w' ⟨rfl, rfl⟩))
              go_ret
              exact ⟨ret_int HF.out.symm, (Keeps.refl _).alloc _⟩
            | true =>
              have HF : Hid (entErr e = opErr e.ok e.okey e.oto e.on) := by show _ = _; rw [HE.out, HI.out, qt, qc, q3', qs, qa, q3]; rfl
              go_enter Try.func16, Try.ntmps16
              go_wp2_with (first | (go_at_call 37; refine (within_c _ _ _ _).mono ?_; rintro x w' ⟨rfl, rfl⟩) | (go_at_call 38; refine (op_error e.ok e.okey e.oto e.on _).mono ?_; rintro x w2 ⟨rfl, hb⟩))
              go_ret
              exact ⟨ret_int HF.out.symm, ((Keeps.refl _).alloc _).trans hb⟩

end Go.Proofs.Yteabfjpajgakiaf

/- States: the reference's StateError. -/
set_option linter.unusedSimpArgs false
set_option linter.unusedVariables false
set_option maxRecDepth 10000
namespace Go.Proofs.Yteabfjpajgakiaf
open Go.RowKit

end Go.Proofs.Yteabfjpajgakiaf

/- The reference's ListError, folded, FoldOf. -/
set_option linter.unusedSimpArgs false
set_option linter.unusedVariables false
set_option maxRecDepth 10000
namespace Go.Proofs.Yteabfjpajgakiaf
open Go.RowKit

end Go.Proofs.Yteabfjpajgakiaf

/- Entries, the same or not. -/
set_option linter.unusedSimpArgs false
set_option linter.unusedVariables false
set_option maxRecDepth 10000
namespace Go.Proofs.Yteabfjpajgakiaf
open Go.RowKit

def sameEnt (a b : Ent) : Bool := a.kind == b.kind && (a.time == b.time && (a.client == b.client && (a.seq == b.seq && (a.ack == b.ack && (a.ok == b.ok && (a.okey == b.okey && (a.oto == b.oto && a.on == b.on)))))))
theorem sameEnt_self (a : Ent) : sameEnt a a = true := by simp [sameEnt]
theorem partE (a0 a1 a2 a3 a4 a5 a6 a7 a8 : Int) (w : World) : (part 3 #[.int .i64 a0, .int .i64 a1, .int .i64 a2, .int .i64 a3, .int .i64 a4, .int .i64 a5, .int .i64 a6, .int .i64 a7, .int .i64 a8] 0).run Try.prog w = .ok (.int .i64 a0) w ∧ (part 3 #[.int .i64 a0, .int .i64 a1, .int .i64 a2, .int .i64 a3, .int .i64 a4, .int .i64 a5, .int .i64 a6, .int .i64 a7, .int .i64 a8] 1).run Try.prog w = .ok (.int .i64 a1) w ∧ (part 3 #[.int .i64 a0, .int .i64 a1, .int .i64 a2, .int .i64 a3, .int .i64 a4, .int .i64 a5, .int .i64 a6, .int .i64 a7, .int .i64 a8] 2).run Try.prog w = .ok (.int .i64 a2) w ∧ (part 3 #[.int .i64 a0, .int .i64 a1, .int .i64 a2, .int .i64 a3, .int .i64 a4, .int .i64 a5, .int .i64 a6, .int .i64 a7, .int .i64 a8] 3).run Try.prog w = .ok (.int .i64 a3) w ∧ (part 3 #[.int .i64 a0, .int .i64 a1, .int .i64 a2, .int .i64 a3, .int .i64 a4, .int .i64 a5, .int .i64 a6, .int .i64 a7, .int .i64 a8] 4).run Try.prog w = .ok (.int .i64 a4) w ∧ (part 33 #[.int .i64 a0, .int .i64 a1, .int .i64 a2, .int .i64 a3, .int .i64 a4, .int .i64 a5, .int .i64 a6, .int .i64 a7, .int .i64 a8] 5).run Try.prog w = .ok (.agg #[.int .i64 a5, .int .i64 a6, .int .i64 a7, .int .i64 a8]) w := ⟨by kernel_rfl, by kernel_rfl, by kernel_rfl, by kernel_rfl, by kernel_rfl, by kernel_rfl⟩

theorem eqent (d : Nat) (a b : Ent) (w : World) : (Op.equalIn (d + 3) 35 (entV a) (entV b)).run Try.prog w = .ok (sameEnt a b) w := by
  have p := partE a.kind a.time a.client a.seq a.ack a.ok a.okey a.oto a.on
  have q := partE b.kind b.time b.client b.seq b.ack b.ok b.okey b.oto b.on
  have ho := eqop d a.ok a.okey a.oto a.on b.ok b.okey b.oto b.on
  rw [run_equalIn_struct w (d + 2) 35 _ _ (by kernel_rfl) (by kernel_rfl)]
  simp [Program.fieldsOf, Try.underlying35, Op.eqFields, p, q, eqint, ho]
  unfold sameEnt
  by_cases h0 : a.kind = b.kind
  · by_cases h1 : a.time = b.time
    · by_cases h2 : a.client = b.client
      · by_cases h3 : a.seq = b.seq
        · by_cases h4 : a.ack = b.ack
          · cases h5 : (a.ok == b.ok && (a.okey == b.okey && (a.oto == b.oto && a.on == b.on))) <;> simp_all
          · simp [h0, h1, h2, h3, h4]
        · simp [h0, h1, h2, h3]
      · simp [h0, h1, h2]
    · simp [h0, h1]
  · simp [h0]
theorem neqent (a b : Ent) (w : World) : (binOp .neq 35 (entV a) (entV b)).run Try.prog w = .ok (.bool (!sameEnt a b)) w := by
  simp only [binOp]
  have := eqent 9997 a b w
  simp only [entV] at this
  simp [Op.equal, Op.maxDepth, this]
end Go.Proofs.Yteabfjpajgakiaf

/- The reference's SameEntries, SameLogs, LogError, EndOf, CutOf. -/
set_option linter.unusedSimpArgs false
set_option linter.unusedVariables false
set_option maxRecDepth 10000
namespace Go.Proofs.Yteabfjpajgakiaf
open Go.RowKit

def sameEnts : List Ent → List Ent → Bool
  | [], [] => true
  | a :: r, b :: r' => (sameEnt a b) && sameEnts r r'
  | _, _ => false
theorem sameEnts_len : ∀ {l m : List Ent}, l.length ≠ m.length → sameEnts l m = false
  | [], [], h => absurd rfl h
  | [], _ :: _, _ => rfl
  | _ :: _, [], _ => rfl
  | a :: r, b :: r', h => by
    have := sameEnts_len (l := r) (m := r') (by simpa using h)
    simp only [sameEnts, this, Bool.and_false]
theorem sameEnts_self : ∀ (l : List Ent), sameEnts l l = true
  | [] => rfl
  | a :: r => by simp [sameEnts, sameEnts_self r, sameEnt_self]
theorem sameEnts_at {l m : List Ent} {k : Nat} (hl : k < l.length) (hm : k < m.length) : sameEnts (l.drop k) (m.drop k) = ((fun (a b : Ent) => (sameEnt a b)) l[k] m[k] && sameEnts (l.drop (k + 1)) (m.drop (k + 1))) := by
  rw [List.drop_eq_getElem_cons hl, List.drop_eq_getElem_cons hm]
  rfl

set_option maxHeartbeats 2000000 in
theorem sameEnts_c (l m : List Ent) (x y : Value) (w : World) (hx : EntsAt w x l) (hy : EntsAt w y m) : Calls Try.prog 21 #[x, y] w fun e w' => e = .returned (.bool (sameEnts l m)) ∧ Keeps w w' := by
  obtain ⟨xa, xc, rfl, hlen⟩ := RowAt.len hx
  obtain ⟨ya, yc, rfl, hlem⟩ := RowAt.len hy
  unfold maxLen at hlen hlem
  have HX : Hid (EntsAt w (.slice xa l.length xc) l) := hx
  have HY : Hid (EntsAt w (.slice ya m.length yc) m) := hy
  clear hx hy
  by_cases hll : l.length = m.length
  · rw [← hll] at HY ⊢
    have HLL : Hid (l.length = m.length) := hll
    clear hll hlem
    go_enter Try.func21, Try.ntmps21
    go_wp2_with fail
    go_loopw [5] (fun i wr => ∃ (k : Nat), k ≤ l.length ∧ i = .int .i64 k ∧ Hid (Keeps w wr) ∧ Hid (sameEnts l m = sameEnts (l.drop k) (m.drop k))) (fun i _ => l.length - (intOf i).toNat)
    case atStart => exact ⟨0, Nat.zero_le _, rfl, Keeps.refl _, rfl⟩
    case round =>
      obtain ⟨k, hk, rfl, HK, HQ⟩ := hrel
      by_cases hlt : k < l.length
      · have hlt2 : k < m.length := by have := HLL.out; omega
        obtain ⟨b1, o1, p1, hv1, c0, c1, c2, c3, c4, c5, c6, c7, c8⟩ := (HX.out.keep HK.out).at hlt
        obtain ⟨b2, o2, p2, hv2, d0, d1, d2, d3, d4, d5, d6, d7, d8⟩ := (HY.out.keep HK.out).at hlt2
        injection hv1 with hv1 ea eb
        injection hv2 with hv2 ec ed
        subst hv1 hv2
        clear ea eb ec ed
        have HR : Hid (sameEnts l m = ((fun (a b : Ent) => (sameEnt a b)) l[k] m[k] && sameEnts (l.drop (k + 1)) (m.drop (k + 1)))) := HQ.out.trans (sameEnts_at hlt hlt2)
        clear HQ
        generalize l[k] = a at *
        generalize m[k] = b at *
        clear hlt2
        cases hq : ((sameEnt a b)) with
        | true =>
          have hq' : (!sameEnt a b) = false := by rw [hq]; rfl
          have hn : ∀ w, (binOp .neq 35 (.agg #[.int .i64 a.kind, .int .i64 a.time, .int .i64 a.client, .int .i64 a.seq, .int .i64 a.ack, .int .i64 a.ok, .int .i64 a.okey, .int .i64 a.oto, .int .i64 a.on]) (.agg #[.int .i64 b.kind, .int .i64 b.time, .int .i64 b.client, .int .i64 b.seq, .int .i64 b.ack, .int .i64 b.ok, .int .i64 b.okey, .int .i64 b.oto, .int .i64 b.on])).run Try.prog w = .ok (.bool (!sameEnt a b)) w := fun w => neqent a b w
          have HN : Hid (sameEnts l m = sameEnts (l.drop (k + 1)) (m.drop (k + 1))) := by show _ = _; rw [HR.out]; simp only [hq, Bool.true_and]
          go_wp2_with fail
          go_quiet (fail)
          go_wp2_with fail
          go_roundw
          case rel => exact ⟨k + 1, by omega, by go_num, HK.out.drewN _, HN⟩
          case measure => simp [intOf]; omega
        | false =>
          have hq' : (!sameEnt a b) = true := by rw [hq]; rfl
          have hn : ∀ w, (binOp .neq 35 (.agg #[.int .i64 a.kind, .int .i64 a.time, .int .i64 a.client, .int .i64 a.seq, .int .i64 a.ack, .int .i64 a.ok, .int .i64 a.okey, .int .i64 a.oto, .int .i64 a.on]) (.agg #[.int .i64 b.kind, .int .i64 b.time, .int .i64 b.client, .int .i64 b.seq, .int .i64 b.ack, .int .i64 b.ok, .int .i64 b.okey, .int .i64 b.oto, .int .i64 b.on])).run Try.prog w = .ok (.bool (!sameEnt a b)) w := fun w => neqent a b w
          have HN : Hid (sameEnts l m = false) := by show _ = _; rw [HR.out]; simp only [hq, Bool.false_and]
          go_wp2_with fail
          go_quiet (fail)
          go_wp2_with fail
          go_ret
          rw [HN.out]
          exact ⟨rfl, HK.out.drewN _⟩
      · have HN : Hid (sameEnts l m = true) := by show _ = _; rw [HQ.out, List.drop_of_length_le (by omega), List.drop_of_length_le (by have := HLL.out; omega)]; rfl
        go_wp2_with fail
        go_ret
        rw [HN.out]
        exact ⟨rfl, HK.out⟩
  · have HN : Hid (sameEnts l m = false) := sameEnts_len hll
    go_enter Try.func21, Try.ntmps21
    go_wp2_with fail
    go_ret
    rw [HN.out]
    exact ⟨rfl, Keeps.refl _⟩

end Go.Proofs.Yteabfjpajgakiaf

/- States: Same, with slices.Equal and slices.EqualFunc. -/
set_option linter.unusedSimpArgs false
set_option linter.unusedVariables false
set_option maxRecDepth 10000
namespace Go.Proofs.Yteabfjpajgakiaf
open Go.RowKit

end Go.Proofs.Yteabfjpajgakiaf
