/- The reference's oneError. -/
import Derived.Test.YteabfjpajgakiaaSesA
import Derived.Test.YteabfjpajgakiaaAft
import Derived.Test.YteabfjpajgakiaaRefW
set_option linter.unusedSimpArgs false
set_option linter.unusedVariables false
namespace Go.Proofs.Yteabfjpajgakiaa
open Go.RowKit

/-- The check of what is kept, as the reference has it. -/
def refOk (lo hi : Int) : Option Int → List (Int × Int) → Bool
  | _, [] => true
  | p, (q, v) :: r => inB q lo hi && inB v (-1) 999 && (match p with | none => true | some x => decide (x < q)) && refOk lo hi (some q) r

theorem refOk_some (lo hi : Int) : ∀ (l : List (Int × Int)) (p : Int), lo ≤ p + 1 → keptOk hi (p + 1) l = refOk lo hi (some p) l
  | [], _, _ => rfl
  | (q, v) :: r, p, h => by
    simp only [keptOk, refOk]
    by_cases hq : p + 1 ≤ q
    · rw [refOk_some lo hi r q (by omega)]
      have e : inB q (p + 1) hi = (inB q lo hi && decide (p < q)) := by
        rw [Bool.eq_iff_iff]; simp [inB]; omega
      rw [e]
      cases inB q lo hi <;> cases decide (p < q) <;> cases inB v (-1) 999 <;> simp
    · have e1 : inB q (p + 1) hi = false := by simp [inB]; omega
      have e2 : decide (p < q) = false := by simp; omega
      simp [e1, e2]

theorem refOk_none (lo hi : Int) (l : List (Int × Int)) : keptOk hi lo l = refOk lo hi none l := by
  cases l with
  | nil => rfl
  | cons x r =>
    obtain ⟨q, v⟩ := x
    simp only [keptOk, refOk]
    by_cases hq : lo ≤ q
    · rw [refOk_some lo hi r q (by omega)]; simp
    · have e1 : inB q lo hi = false := by simp [inB]; omega
      simp [e1]

/-- The number ahead of place k. -/
def prevOf (l : List (Int × Int)) : Nat → Option Int
  | 0 => none
  | j + 1 => (l[j]?).map (·.1)

theorem refOk_at {lo hi : Int} {p : Option Int} {kept : List (Int × Int)} {k : Nat} (h : k < kept.length) :
    refOk lo hi p (kept.drop k) = (inB (kept[k]).1 lo hi && inB (kept[k]).2 (-1) 999 && (match p with | none => true | some x => decide (x < (kept[k]).1)) && refOk lo hi (prevOf kept (k + 1)) (kept.drop (k + 1))) := by
  rw [List.drop_eq_getElem_cons h]
  simp [refOk, prevOf, h]

set_option maxHeartbeats 1000000 in
theorem one_error_range (s : Ses) (kv : Value) (w : World) (h : (inB s.client 1 5 && inB s.acked 0 60 && inB s.seen 0 999) = false) :
    Calls Try.prog 41 #[sesV s kv] w fun e w' => e = .returned (.int .i64 3) ∧ Keeps w w' := by
  go_enter Try.func41, Try.ntmps41
  go_wp2_with (first | (go_at_call 35; refine (within_c _ _ _ _).mono ?_; rintro e w' ⟨rfl, rfl⟩))
  all_goals first | (go_ret; exact ⟨rfl, (Keeps.refl _).alloc _⟩) | (exfalso; go_tidy; simp_all; done)
set_option maxHeartbeats 2000000 in
theorem one_error_formA (s : Ses) (kv : Value) (w : World) (hk : KeptAt w kv s.kept) (h1 : inB s.client 1 5 = true) (h2 : inB s.acked 0 60 = true) (h3 : inB s.seen 0 999 = true) (hm : 0 ≤ s.acked) :
    Calls Try.prog 41 #[sesV s kv] w fun e w' => e = .returned (.int .i64 (sesErr s)) ∧ Keeps w w' := by
  have ha := inB_iff.1 h2
  obtain ⟨ha0, ha1⟩ := ha
  obtain ⟨ka, kc, rfl, hlen⟩ := hk.len
  unfold maxLen at hlen
  have HK : Hid (KeptAt w (.slice ka s.kept.length kc) s.kept) := hk
  clear hk
  have hm2 : Hid (min (s.acked + 3) 60 = (if s.acked + 3 < 60 then s.acked + 3 else 60)) := by show min _ _ = _; split <;> omega
  have HZ : Hid (keptOk (min (s.acked + 3) 60) (s.acked + 1) s.kept = refOk (s.acked + 1) (if s.acked + 3 < 60 then s.acked + 3 else 60) none s.kept) := by show _ = _; rw [hm2.out]; exact refOk_none _ _ _
  go_enter Try.func41, Try.ntmps41
  go_wp2_with (first | (go_at_call 35; refine (within_c _ _ _ _).mono ?_; rintro e w' ⟨rfl, rfl⟩))
  go_loopw [3] (fun i wr => ∃ (k : Nat), k ≤ s.kept.length ∧ i = .int .i64 k ∧ Keeps (w.alloc (.cells #[.int .i64 s.client, .int .i64 s.acked, .int .i64 s.seen, .slice ka s.kept.length kc] 34)) wr ∧ Hid (keptOk (min (s.acked + 3) 60) (s.acked + 1) s.kept = refOk (s.acked + 1) (if s.acked + 3 < 60 then s.acked + 3 else 60) (prevOf s.kept k) (s.kept.drop k))) (fun i _ => s.kept.length - (intOf i).toNat)
  case atStart => exact ⟨0, Nat.zero_le _, rfl, Keeps.refl _, HZ⟩
  case round =>
    obtain ⟨k, hk, rfl, hkW, HQ⟩ := hrel
    clear HZ
    have hkw : Keeps w wr := ((Keeps.refl _).alloc _).trans hkW
    have hxb : w.heap.size < wr.heap.size := by have := hkW.size; simp at this; omega
    have x1 : wr.cell? ⟨w.heap.size, 1, none⟩ = some (.int .i64 s.acked) := (Below.cell hkW (p := ⟨w.heap.size, 1, none⟩) (by simp)).trans (by simp)
    have x3 : wr.cell? ⟨w.heap.size, 3, none⟩ = some (.slice ka s.kept.length kc) := (Below.cell hkW (p := ⟨w.heap.size, 3, none⟩) (by simp)).trans (by simp)
    by_cases hlt : k < s.kept.length
    · obtain ⟨b, off, cap, hv, _, hcell⟩ := (HK.out.keep hkw).at hlt
      injection hv with hv1 hv2 hv3
      subst hv1
      clear hv2 hv3
      have HC : Hid (∀ i (hi : i < s.kept.length), wr.cell? ⟨b, off + i * 2, none⟩ = some (.int .i64 (s.kept[i]).1) ∧ wr.cell? ⟨b, off + i * 2 + 1, none⟩ = some (.int .i64 (s.kept[i]).2)) := hcell
      clear hcell
      have hc0 := (HC.out k hlt).1
      have hc1 := (HC.out k hlt).2
      have HR : Hid (keptOk (min (s.acked + 3) 60) (s.acked + 1) s.kept = (inB (s.kept[k]).1 (s.acked + 1) (if s.acked + 3 < 60 then s.acked + 3 else 60) && inB (s.kept[k]).2 (-1) 999 && (match prevOf s.kept k with | none => true | some x => decide (x < (s.kept[k]).1)) && refOk (s.acked + 1) (if s.acked + 3 < 60 then s.acked + 3 else 60) (prevOf s.kept (k + 1)) (s.kept.drop (k + 1)))) := HQ.out.trans (refOk_at hlt)
      clear HQ
      have hne := After.some wr
      have y1 := fun t : After wr => (Below.cell t.h (p := ⟨w.heap.size, 1, none⟩) hxb).trans x1
      have y3 := fun t : After wr => (Below.cell t.h (p := ⟨w.heap.size, 3, none⟩) hxb).trans x3
      have z0 := fun t : After wr => (Below.cell t.h (p := ⟨b, off + k * 2, none⟩) (World.block_lt_of_cell? _ _ hc0)).trans hc0
      have z1 := fun t : After wr => (Below.cell t.h (p := ⟨b, off + k * 2 + 1, none⟩) (World.block_lt_of_cell? _ _ hc1)).trans hc1
      generalize hgq : (s.kept[k]).1 = q at *
      generalize hgv : (s.kept[k]).2 = v at *
      have Hgq : Hid ((s.kept[k]).1 = q) := hgq
      clear hgq hgv
      cases hb1 : inB q (s.acked + 1) (if s.acked + 3 < 60 then s.acked + 3 else 60) with
      | false =>
        have HE : Hid (sesErr s = 1) := sesErr_form h1 h2 h3 (by rw [HR.out, hb1]; rfl)
        clear HR HC
        go_wp2_with fail
        refine wp_region_after (by kernel_rfl) (by kernel_rfl) ?_
        repeat (first | go_big_quiet_skip | (go_big_quiet_want; go_big_quiet_op; first | go_big_quiet_on | (apply Exists.intro; refine ⟨fun _ => ?_, ?_⟩; (go_at_call 35; first | exact calls_after_eq (within_c _ _ _ _) (congrArg Value.bool hb1) | exact calls_after_eq (within_c _ _ _ _) (congrArg Value.bool hb2)); go_big_quiet_on)))
        refine wpQuiet_nil ?_
        rintro _ ⟨t, rfl⟩
        generalize (if s.acked + 3 < 60 then s.acked + 3 else 60) = hiX
        go_wp2_with fail
        go_ret
        exact ⟨ret_int HE.out.symm, hkw.trans t.h⟩
      | true =>
        cases hb2 : inB v (-1) 999 with
        | false =>
          have HE : Hid (sesErr s = 1) := sesErr_form h1 h2 h3 (by rw [HR.out, hb1, hb2]; rfl)
          clear HR HC
          go_wp2_with fail
          refine wp_region_after (by kernel_rfl) (by kernel_rfl) ?_
          repeat (first | go_big_quiet_skip | (go_big_quiet_want; go_big_quiet_op; first | go_big_quiet_on | (apply Exists.intro; refine ⟨fun _ => ?_, ?_⟩; (go_at_call 35; first | exact calls_after_eq (within_c _ _ _ _) (congrArg Value.bool hb1) | exact calls_after_eq (within_c _ _ _ _) (congrArg Value.bool hb2)); go_big_quiet_on)))
          refine wpQuiet_nil ?_
          rintro _ ⟨t, rfl⟩
          generalize (if s.acked + 3 < 60 then s.acked + 3 else 60) = hiX
          go_wp2_with fail
          go_ret
          exact ⟨ret_int HE.out.symm, hkw.trans t.h⟩
        | true =>
          cases k with
          | zero =>
            simp only [Nat.zero_mul, Nat.add_zero] at z0 z1 hc0 hc1
            have HN : Hid (keptOk (min (s.acked + 3) 60) (s.acked + 1) s.kept = refOk (s.acked + 1) (if s.acked + 3 < 60 then s.acked + 3 else 60) (prevOf s.kept (0 + 1)) (s.kept.drop (0 + 1))) := by show _ = _; rw [HR.out, hb1, hb2]; rfl
            clear HR HC
            go_wp2_with fail
            refine wp_region_after (by kernel_rfl) (by kernel_rfl) ?_
            repeat (first | go_big_quiet_skip | (go_big_quiet_want; go_big_quiet_op; first | go_big_quiet_on | (apply Exists.intro; refine ⟨fun _ => ?_, ?_⟩; (go_at_call 35; first | exact calls_after_eq (within_c _ _ _ _) (congrArg Value.bool hb1) | exact calls_after_eq (within_c _ _ _ _) (congrArg Value.bool hb2)); go_big_quiet_on)))
            refine wpQuiet_nil ?_
            rintro _ ⟨t, rfl⟩
            generalize (if s.acked + 3 < 60 then s.acked + 3 else 60) = hiX
            go_wp2_with fail
            go_roundw
            case rel => exact ⟨0 + 1, by omega, by go_num, hkW.trans t.h, HN⟩
            case measure => simp [intOf]; omega
          | succ j =>
            have hj : j < s.kept.length := by omega
            have hp0 := (HC.out j hj).1
            have zp := fun t : After wr => (Below.cell t.h (p := ⟨b, off + j * 2, none⟩) (World.block_lt_of_cell? _ _ hp0)).trans hp0
            have hpv : prevOf s.kept (j + 1) = some (s.kept[j]).1 := by simp [prevOf, hj]
            rw [hpv] at HR
            generalize (s.kept[j]).1 = p at *
            cases hb3 : decide (p < q) with
            | false =>
              have hb4 : decide (q ≤ p) = true := by simp at hb3 ⊢; omega
              have HE : Hid (sesErr s = 1) := sesErr_form h1 h2 h3 (by rw [HR.out, hb1, hb2]; simp [hb3])
              clear HR HC hpv hb3
              go_wp2_with fail
              refine wp_region_after (by kernel_rfl) (by kernel_rfl) ?_
              repeat (first | go_big_quiet_skip | (go_big_quiet_want; go_big_quiet_op; first | go_big_quiet_on | (apply Exists.intro; refine ⟨fun _ => ?_, ?_⟩; (go_at_call 35; first | exact calls_after_eq (within_c _ _ _ _) (congrArg Value.bool hb1) | exact calls_after_eq (within_c _ _ _ _) (congrArg Value.bool hb2)); go_big_quiet_on)))
              refine wpQuiet_nil ?_
              rintro _ ⟨t, rfl⟩
              generalize (if s.acked + 3 < 60 then s.acked + 3 else 60) = hiX
              go_wp2_with fail
              go_ret
              exact ⟨ret_int HE.out.symm, hkw.trans t.h⟩
            | true =>
              have hb4 : decide (q ≤ p) = false := by simp at hb3 ⊢; omega
              have HN : Hid (keptOk (min (s.acked + 3) 60) (s.acked + 1) s.kept = refOk (s.acked + 1) (if s.acked + 3 < 60 then s.acked + 3 else 60) (prevOf s.kept (j + 1 + 1)) (s.kept.drop (j + 1 + 1))) := by show _ = _; rw [HR.out, hb1, hb2]; simp [hb3]
              clear HR HC hpv hb3
              go_wp2_with fail
              refine wp_region_after (by kernel_rfl) (by kernel_rfl) ?_
              repeat (first | go_big_quiet_skip | (go_big_quiet_want; go_big_quiet_op; first | go_big_quiet_on | (apply Exists.intro; refine ⟨fun _ => ?_, ?_⟩; (go_at_call 35; first | exact calls_after_eq (within_c _ _ _ _) (congrArg Value.bool hb1) | exact calls_after_eq (within_c _ _ _ _) (congrArg Value.bool hb2)); go_big_quiet_on)))
              refine wpQuiet_nil ?_
              rintro _ ⟨t, rfl⟩
              generalize (if s.acked + 3 < 60 then s.acked + 3 else 60) = hiX
              go_wp2_with fail
              go_roundw
              case rel => exact ⟨j + 1 + 1, by omega, by go_num, hkW.trans t.h, HN⟩
              case measure => simp [intOf]; omega
    · have HE : Hid (sesErr s = 0) := sesErr_ok h1 h2 h3 (by rw [HQ.out, List.drop_of_length_le (by omega)]; rfl)
      go_wp2_with fail
      go_ret
      exact ⟨ret_int HE.out.symm, hkw⟩

/-- The reference's oneError. -/
theorem one_error (s : Ses) (kv : Value) (w : World) (hk : KeptAt w kv s.kept) :
    Calls Try.prog 41 #[sesV s kv] w fun e w' => e = .returned (.int .i64 (sesErr s)) ∧ Keeps w w' := by
  cases h : (inB s.client 1 5 && inB s.acked 0 60 && inB s.seen 0 999) with
  | false =>
    rw [show sesErr s = 3 from by simp [sesErr, h]]
    exact one_error_range s kv w h
  | true =>
    simp only [Bool.and_eq_true] at h
    exact one_error_formA s kv w hk h.1.1 h.1.2 h.2 (inB_iff.1 h.1.2).1
end Go.Proofs.Yteabfjpajgakiaa
