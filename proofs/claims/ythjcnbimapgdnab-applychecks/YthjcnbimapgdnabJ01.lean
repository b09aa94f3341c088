/- SesB, SesC, SesR, SesG, StA. -/
import Derived.Test.YthjcnbimapgdnabJ00
/- The reference's oneError. -/
set_option linter.unusedSimpArgs false
set_option linter.unusedVariables false
namespace Go.Proofs.Ythjcnbimapgdnab
open Go.RowKit

/-- The check of what is kept, as the reference has it. -/
def refOk (lo hi : Int) : Option Int → List (Int × Int) → Bool
  | _, [] => true
  | p, (q, v) :: r => inB q lo hi && inB v (-1) 999 && (match p with | none => true | some x => decide (x < q)) && refOk lo hi (some q) r

theorem refOk_some (lo hi : Int) : ∀ (l : List (Int × Int)) (p : Int), lo ≤ p + 1 → keptOk hi (p + 1) l = refOk lo hi (some p) l
  | [], _, _ => rfl
  | (q, v) :: r, p, h => by
    simp only [keptOk, refOk]
    by_cases hq : p + 1 ≤ q
    · rw [refOk_some lo hi r q (by omega)]
      have e : inB q (p + 1) hi = (inB q lo hi && decide (p < q)) := by
        rw [Bool.eq_iff_iff]; simp [inB]; omega
      rw [e]
      cases inB q lo hi <;> cases decide (p < q) <;> cases inB v (-1) 999 <;> simp
    · have e1 : inB q (p + 1) hi = false := by simp [inB]; omega
      have e2 : decide (p < q) = false := by simp; omega
      simp [e1, e2]

theorem refOk_none (lo hi : Int) (l : List (Int × Int)) : keptOk hi lo l = refOk lo hi none l := by
  cases l with
  | nil => rfl
  | cons x r =>
    obtain ⟨q, v⟩ := x
    simp only [keptOk, refOk]
    by_cases hq : lo ≤ q
    · rw [refOk_some lo hi r q (by omega)]; simp
    · have e1 : inB q lo hi = false := by simp [inB]; omega
      simp [e1]

/-- The number ahead of place k. -/
def prevOf (l : List (Int × Int)) : Nat → Option Int
  | 0 => none
  | j + 1 => (l[j]?).map (·.1)

theorem refOk_at {lo hi : Int} {p : Option Int} {kept : List (Int × Int)} {k : Nat} (h : k < kept.length) :
    refOk lo hi p (kept.drop k) = (inB (kept[k]).1 lo hi && inB (kept[k]).2 (-1) 999 && (match p with | none => true | some x => decide (x < (kept[k]).1)) && refOk lo hi (prevOf kept (k + 1)) (kept.drop (k + 1))) := by
  rw [List.drop_eq_getElem_cons h]
  simp [refOk, prevOf, h]

set_option maxHeartbeats 1000000 in
theorem one_error_range (s : Ses) (kv : Value) (w : World) (h : (inB s.client 1 5 && inB s.acked 0 60 && inB s.seen 0 999) = false) :
    Calls Try.prog 48 #[sesV s kv] w fun e w' => e = .returned (.int .i64 3) ∧ Keeps w w' := by
  go_enter Try.func48, Try.ntmps48
  go_wp2_with (first | (go_at_call 27; refine (within_c _ _ _ _).mono ?_; rintro e w' ⟨rfl, rfl⟩))
  all_goals first | (go_ret; exact ⟨rfl, (Keeps.refl _).alloc _⟩) | (exfalso; go_tidy; simp_all; done)
set_option maxHeartbeats 2000000 in
theorem one_error_formA (s : Ses) (kv : Value) (w : World) (hk : KeptAt w kv s.kept) (h1 : inB s.client 1 5 = true) (h2 : inB s.acked 0 60 = true) (h3 : inB s.seen 0 999 = true) (hm : 0 ≤ s.acked) :
    Calls Try.prog 48 #[sesV s kv] w fun e w' => e = .returned (.int .i64 (sesErr s)) ∧ Keeps w w' := by
  have ha := inB_iff.1 h2
  obtain ⟨ha0, ha1⟩ := ha
  obtain ⟨ka, kc, rfl, hlen⟩ := hk.len
  unfold maxLen at hlen
  have HK : Hid (KeptAt w (.slice ka s.kept.length kc) s.kept) := hk
  clear hk
  have hm2 : Hid (min (s.acked + 3) 60 = (if s.acked + 3 < 60 then s.acked + 3 else 60)) := by show min _ _ = _; split <;> omega
  have HZ : Hid (keptOk (min (s.acked + 3) 60) (s.acked + 1) s.kept = refOk (s.acked + 1) (if s.acked + 3 < 60 then s.acked + 3 else 60) none s.kept) := by show _ = _; rw [hm2.out]; exact refOk_none _ _ _
  go_enter Try.func48, Try.ntmps48
  go_wp2_with (first | (go_at_call 27; refine (within_c _ _ _ _).mono ?_; rintro e w' ⟨rfl, rfl⟩))
  go_loopw [3] (fun i wr => ∃ (k : Nat), k ≤ s.kept.length ∧ i = .int .i64 k ∧ Keeps (w.alloc (.cells #[.int .i64 s.client, .int .i64 s.acked, .int .i64 s.seen, .slice ka s.kept.length kc] 48)) wr ∧ Hid (keptOk (min (s.acked + 3) 60) (s.acked + 1) s.kept = refOk (s.acked + 1) (if s.acked + 3 < 60 then s.acked + 3 else 60) (prevOf s.kept k) (s.kept.drop k))) (fun i _ => s.kept.length - (intOf i).toNat)
  case atStart => exact ⟨0, Nat.zero_le _, rfl, Keeps.refl _, HZ⟩
  case round =>
    obtain ⟨k, hk, rfl, hkW, HQ⟩ := hrel
    clear HZ
    have hkw : Keeps w wr := ((Keeps.refl _).alloc _).trans hkW
    have hxb : w.heap.size < wr.heap.size := by have := hkW.size; simp at this; omega
    have x1 : wr.cell? ⟨w.heap.size, 1, none⟩ = some (.int .i64 s.acked) := (Below.cell hkW (p := ⟨w.heap.size, 1, none⟩) (by simp)).trans (by simp)
    have x3 : wr.cell? ⟨w.heap.size, 3, none⟩ = some (.slice ka s.kept.length kc) := (Below.cell hkW (p := ⟨w.heap.size, 3, none⟩) (by simp)).trans (by simp)
    by_cases hlt : k < s.kept.length
    · obtain ⟨b, off, cap, hv, _, hcell⟩ := (HK.out.keep hkw).at hlt
      injection hv with hv1 hv2 hv3
      subst hv1
      clear hv2 hv3
      have HC : Hid (∀ i (hi : i < s.kept.length), wr.cell? ⟨b, off + i * 2, none⟩ = some (.int .i64 (s.kept[i]).1) ∧ wr.cell? ⟨b, off + i * 2 + 1, none⟩ = some (.int .i64 (s.kept[i]).2)) := hcell
      clear hcell
      have hc0 := (HC.out k hlt).1
      have hc1 := (HC.out k hlt).2
      have HR : Hid (keptOk (min (s.acked + 3) 60) (s.acked + 1) s.kept = (inB (s.kept[k]).1 (s.acked + 1) (if s.acked + 3 < 60 then s.acked + 3 else 60) && inB (s.kept[k]).2 (-1) 999 && (match prevOf s.kept k with | none => true | some x => decide (x < (s.kept[k]).1)) && refOk (s.acked + 1) (if s.acked + 3 < 60 then s.acked + 3 else 60) (prevOf s.kept (k + 1)) (s.kept.drop (k + 1)))) := HQ.out.trans (refOk_at hlt)
      clear HQ
      have hne := After.some wr
      have y1 := fun t : After wr => (Below.cell t.h (p := ⟨w.heap.size, 1, none⟩) hxb).trans x1
      have y3 := fun t : After wr => (Below.cell t.h (p := ⟨w.heap.size, 3, none⟩) hxb).trans x3
      have z0 := fun t : After wr => (Below.cell t.h (p := ⟨b, off + k * 2, none⟩) (World.block_lt_of_cell? _ _ hc0)).trans hc0
      have z1 := fun t : After wr => (Below.cell t.h (p := ⟨b, off + k * 2 + 1, none⟩) (World.block_lt_of_cell? _ _ hc1)).trans hc1
      generalize hgq : (s.kept[k]).1 = q at *
      generalize hgv : (s.kept[k]).2 = v at *
      have Hgq : Hid ((s.kept[k]).1 = q) := hgq
      clear hgq hgv
      cases hb1 : inB q (s.acked + 1) (if s.acked + 3 < 60 then s.acked + 3 else 60) with
      | false =>
        have HE : Hid (sesErr s = 1) := sesErr_form h1 h2 h3 (by rw [HR.out, hb1]; rfl)
        clear HR HC
        go_wp2_with fail
        refine wp_region_after (by kernel_rfl) (by kernel_rfl) ?_
        repeat (first | go_big_quiet_skip | (go_big_quiet_want; go_big_quiet_op; first | go_big_quiet_on | (apply Exists.intro; refine ⟨fun _ => ?_, ?_⟩; (go_at_call 27; first | exact calls_after_eq (within_c _ _ _ _) (congrArg Value.bool hb1) | exact calls_after_eq (within_c _ _ _ _) (congrArg Value.bool hb2)); go_big_quiet_on)))
        refine wpQuiet_nil ?_
        rintro _ ⟨t, rfl⟩
        generalize (if s.acked + 3 < 60 then s.acked + 3 else 60) = hiX
        go_wp2_with fail
        go_ret
        exact ⟨ret_int HE.out.symm, hkw.trans t.h⟩
      | true =>
        cases hb2 : inB v (-1) 999 with
        | false =>
          have HE : Hid (sesErr s = 1) := sesErr_form h1 h2 h3 (by rw [HR.out, hb1, hb2]; rfl)
          clear HR HC
          go_wp2_with fail
          refine wp_region_after (by kernel_rfl) (by kernel_rfl) ?_
          repeat (first | go_big_quiet_skip | (go_big_quiet_want; go_big_quiet_op; first | go_big_quiet_on | (apply Exists.intro; refine ⟨fun _ => ?_, ?_⟩; (go_at_call 27; first | exact calls_after_eq (within_c _ _ _ _) (congrArg Value.bool hb1) | exact calls_after_eq (within_c _ _ _ _) (congrArg Value.bool hb2)); go_big_quiet_on)))
          refine wpQuiet_nil ?_
          rintro _ ⟨t, rfl⟩
          generalize (if s.acked + 3 < 60 then s.acked + 3 else 60) = hiX
          go_wp2_with fail
          go_ret
          exact ⟨ret_int HE.out.symm, hkw.trans t.h⟩
        | true =>
          cases k with
          | zero =>
            simp only [Nat.zero_mul, Nat.add_zero] at z0 z1 hc0 hc1
            have HN : Hid (keptOk (min (s.acked + 3) 60) (s.acked + 1) s.kept = refOk (s.acked + 1) (if s.acked + 3 < 60 then s.acked + 3 else 60) (prevOf s.kept (0 + 1)) (s.kept.drop (0 + 1))) := by show _ = _; rw [HR.out, hb1, hb2]; rfl
            clear HR HC
            go_wp2_with fail
            refine wp_region_after (by kernel_rfl) (by kernel_rfl) ?_
            repeat (first | go_big_quiet_skip | (go_big_quiet_want; go_big_quiet_op; first | go_big_quiet_on | (apply Exists.intro; refine ⟨fun _ => ?_, ?_⟩; (go_at_call 27; first | exact calls_after_eq (within_c _ _ _ _) (congrArg Value.bool hb1) | exact calls_after_eq (within_c _ _ _ _) (congrArg Value.bool hb2)); go_big_quiet_on)))
            refine wpQuiet_nil ?_
            rintro _ ⟨t, rfl⟩
            generalize (if s.acked + 3 < 60 then s.acked + 3 else 60) = hiX
            go_wp2_with fail
            go_roundw
            case rel => exact ⟨0 + 1, by omega, by go_num, hkW.trans t.h, HN⟩
            case measure => simp [intOf]; omega
          | succ j =>
            have hj : j < s.kept.length := by omega
            have hp0 := (HC.out j hj).1
            have zp := fun t : After wr => (Below.cell t.h (p := ⟨b, off + j * 2, none⟩) (World.block_lt_of_cell? _ _ hp0)).trans hp0
            have hpv : prevOf s.kept (j + 1) = some (s.kept[j]).1 := by simp [prevOf, hj]
            rw [hpv] at HR
            generalize (s.kept[j]).1 = p at *
            cases hb3 : decide (p < q) with
            | false =>
              have hb4 : decide (q ≤ p) = true := by simp at hb3 ⊢; omega
              have HE : Hid (sesErr s = 1) := sesErr_form h1 h2 h3 (by rw [HR.out, hb1, hb2]; simp [hb3])
              clear HR HC hpv hb3
              go_wp2_with fail
              refine wp_region_after (by kernel_rfl) (by kernel_rfl) ?_
              repeat (first | go_big_quiet_skip | (go_big_quiet_want; go_big_quiet_op; first | go_big_quiet_on | (apply Exists.intro; refine ⟨fun _ => ?_, ?_⟩; (go_at_call 27; first | exact calls_after_eq (within_c _ _ _ _) (congrArg Value.bool hb1) | exact calls_after_eq (within_c _ _ _ _) (congrArg Value.bool hb2)); go_big_quiet_on)))
              refine wpQuiet_nil ?_
              rintro _ ⟨t, rfl⟩
              generalize (if s.acked + 3 < 60 then s.acked + 3 else 60) = hiX
              go_wp2_with fail
              go_ret
              exact ⟨ret_int HE.out.symm, hkw.trans t.h⟩
            | true =>
              have hb4 : decide (q ≤ p) = false := by simp at hb3 ⊢; omega
              have HN : Hid (keptOk (min (s.acked + 3) 60) (s.acked + 1) s.kept = refOk (s.acked + 1) (if s.acked + 3 < 60 then s.acked + 3 else 60) (prevOf s.kept (j + 1 + 1)) (s.kept.drop (j + 1 + 1))) := by show _ = _; rw [HR.out, hb1, hb2]; simp [hb3]
              clear HR HC hpv hb3
              go_wp2_with fail
              refine wp_region_after (by kernel_rfl) (by kernel_rfl) ?_
              repeat (first | go_big_quiet_skip | (go_big_quiet_want; go_big_quiet_op; first | go_big_quiet_on | (apply Exists.intro; refine ⟨fun _ => ?_, ?_⟩; (go_at_call 27; first | exact calls_after_eq (within_c _ _ _ _) (congrArg Value.bool hb1) | exact calls_after_eq (within_c _ _ _ _) (congrArg Value.bool hb2)); go_big_quiet_on)))
              refine wpQuiet_nil ?_
              rintro _ ⟨t, rfl⟩
              generalize (if s.acked + 3 < 60 then s.acked + 3 else 60) = hiX
              go_wp2_with fail
              go_roundw
              case rel => exact ⟨j + 1 + 1, by omega, by go_num, hkW.trans t.h, HN⟩
              case measure => simp [intOf]; omega
    · have HE : Hid (sesErr s = 0) := sesErr_ok h1 h2 h3 (by rw [HQ.out, List.drop_of_length_le (by omega)]; rfl)
      go_wp2_with fail
      go_ret
      exact ⟨ret_int HE.out.symm, hkw⟩

/-- The reference's oneError. -/
theorem one_error (s : Ses) (kv : Value) (w : World) (hk : KeptAt w kv s.kept) :
    Calls Try.prog 48 #[sesV s kv] w fun e w' => e = .returned (.int .i64 (sesErr s)) ∧ Keeps w w' := by
  cases h : (inB s.client 1 5 && inB s.acked 0 60 && inB s.seen 0 999) with
  | false =>
    rw [show sesErr s = 3 from by simp [sesErr, h]]
    exact one_error_range s kv w h
  | true =>
    simp only [Bool.and_eq_true] at h
    exact one_error_formA s kv w hk h.1.1 h.1.2 h.2 (inB_iff.1 h.1.2).1
end Go.Proofs.Ythjcnbimapgdnab

/- sess.Check and the reference's TableError. -/
set_option linter.unusedSimpArgs false
set_option linter.unusedVariables false
namespace Go.Proofs.Ythjcnbimapgdnab
open Go.RowKit

theorem KeptsAt.len {w : World} : ∀ {L : List Ses} {ks : List Value}, KeptsAt w L ks → ks.length = L.length
  | [], [], _ => rfl
  | _ :: r, _ :: ks, h => by simp [KeptsAt.len h.2]

theorem KeptsAt.at {w : World} : ∀ {L : List Ses} {ks : List Value} (h : KeptsAt w L ks) (i : Nat) (hi : i < L.length) (hi' : i < ks.length), KeptAt w (ks[i]) (L[i]).kept
  | _ :: _, _ :: _, h, 0, _, _ => h.1
  | _ :: _, _ :: _, h, i + 1, hi, hi' => KeptsAt.at h.2 i (by simpa using hi) (by simpa using hi')

theorem sesCells_at : ∀ (L : List Ses) (ks : List Value) (i : Nat) (h : i < L.length) (h' : i < ks.length),
    (sesCells L ks)[4 * i]? = some (.int .i64 (L[i]).client) ∧ (sesCells L ks)[4 * i + 1]? = some (.int .i64 (L[i]).acked) ∧ (sesCells L ks)[4 * i + 2]? = some (.int .i64 (L[i]).seen) ∧ (sesCells L ks)[4 * i + 3]? = some (ks[i])
  | s :: r, k :: ks, 0, _, _ => ⟨rfl, rfl, rfl, rfl⟩
  | s :: r, k :: ks, i + 1, h, h' => by
    have := sesCells_at r ks i (by simpa using h) (by simpa using h')
    rw [show 4 * (i + 1) = 4 * i + 1 + 1 + 1 + 1 from by omega]
    exact ⟨by simpa [sesCells] using this.1, by simpa [sesCells] using this.2.1, by simpa [sesCells] using this.2.2.1, by simpa [sesCells] using this.2.2.2⟩

/-- The sessions of a table, in memory. -/
theorem TabAt.at {w : World} {v : Value} {L : List Ses} (h : TabAt w v L) {k : Nat} (hk : k < L.length) :
    ∃ b off cap, v = .slice (some ⟨b, off, none⟩) L.length cap ∧
      ∀ i (hi : i < L.length), w.cell? ⟨b, off + i * 4, none⟩ = some (.int .i64 (L[i]).client) ∧ w.cell? ⟨b, off + i * 4 + 1, none⟩ = some (.int .i64 (L[i]).acked) ∧
        w.cell? ⟨b, off + i * 4 + 2, none⟩ = some (.int .i64 (L[i]).seen) ∧ ∃ ka kc, w.cell? ⟨b, off + i * 4 + 3, none⟩ = some (.slice ka (L[i]).kept.length kc) ∧ KeptAt w (.slice ka (L[i]).kept.length kc) (L[i]).kept := by
  obtain ⟨ks, hks, hrow⟩ := h
  have hlen := hks.len
  obtain ⟨b, off, cap, rfl, h3⟩ := hrow.plain (by rw [hrow.1]; omega)
  refine ⟨b, off, cap, rfl, fun i hi => ?_⟩
  have hi' : i < ks.length := by rw [hlen]; exact hi
  have e := sesCells_at L ks i hi hi'
  rw [Nat.mul_comm i 4]
  have hk := hks.at i hi hi'
  obtain ⟨ka, kc, hkv, _⟩ := hk.len
  exact ⟨h3 _ _ e.1, h3 _ _ e.2.1, h3 _ _ e.2.2.1, ka, kc, hkv ▸ h3 _ _ e.2.2.2, hkv ▸ hk⟩

theorem TabAt.len {w : World} {v : Value} {L : List Ses} (h : TabAt w v L) : ∃ a cap, v = .slice a L.length cap ∧ L.length ≤ maxLen := by
  obtain ⟨ks, _, h⟩ := h
  exact h.len

def firstErr : List Ses → Int
  | [] => 0
  | s :: r => if sesErr s == 0 then firstErr r else sesErr s
def rising : List Ses → Bool
  | a :: b :: r => decide (a.client < b.client) && rising (b :: r)
  | _ => true
def tabErr (L : List Ses) : Int := if 3 < L.length then 2 else if firstErr L == 0 then (if rising L then 0 else 1) else firstErr L

theorem firstErr_at {L : List Ses} {k : Nat} (h : k < L.length) : firstErr (L.drop k) = if sesErr (L[k]) == 0 then firstErr (L.drop (k + 1)) else sesErr (L[k]) := by
  rw [List.drop_eq_getElem_cons h]; rfl
theorem rising_at {L : List Ses} {k : Nat} (h : k + 1 < L.length) : rising (L.drop k) = (decide ((L[k]).client < (L[k + 1]).client) && rising (L.drop (k + 1))) := by
  rw [List.drop_eq_getElem_cons (show k < L.length from by omega), List.drop_eq_getElem_cons h]; rfl
theorem rising_end {L : List Ses} {k : Nat} (h : L.length ≤ k + 1) : rising (L.drop k) = true := by
  by_cases hk : k < L.length
  · rw [List.drop_eq_getElem_cons hk, List.drop_of_length_le (by omega)]; rfl
  · rw [List.drop_of_length_le (by omega)]; rfl

set_option maxHeartbeats 2000000 in
theorem sess_check (L : List Ses) (v : Value) (w : World) (hT : TabAt w v L) :
    Calls Try.prog 25 #[v] w fun e w' => e = .returned (.int .i64 (tabErr L)) ∧ Keeps w w' := by
  obtain ⟨a, cap, rfl, hlen⟩ := hT.len
  unfold maxLen at hlen
  have HT : Hid (TabAt w (.slice a L.length cap) L) := hT
  clear hT
  by_cases h3 : 3 < L.length
  · have HE : Hid (tabErr L = 2) := by simp [Hid, tabErr, h3]
    go_enter Try.func25, Try.ntmps25
    go_wp2_with fail
    go_ret
    exact ⟨ret_int HE.out.symm, Keeps.refl _⟩
  · go_enter Try.func25, Try.ntmps25
    go_wp2_with fail
    go_loopw [12] (fun i wr => ∃ (k : Nat), k ≤ L.length ∧ i = .int .i64 k ∧ Keeps w wr ∧ Hid (firstErr L = firstErr (L.drop k))) (fun i _ => L.length - (intOf i).toNat)
    case atStart => exact ⟨0, Nat.zero_le _, rfl, Keeps.refl _, rfl⟩
    case round =>
      obtain ⟨k, hk, rfl, hkw, HQ⟩ := hrel
      by_cases hlt : k < L.length
      · obtain ⟨b, off, cap', hv, hcell⟩ := (HT.out.keep hkw).at hlt
        injection hv with hv1 hv2 hv3
        subst hv1
        clear hv2 hv3
        obtain ⟨c0, c1, c2, ka, kc, c3, hkv⟩ := hcell k hlt
        clear hcell
        have HKV : Hid (KeptAt wr (.slice ka (L[k]).kept.length kc) (L[k]).kept) := hkv
        clear hkv
        have HR : Hid (firstErr L = if sesErr (L[k]) == 0 then firstErr (L.drop (k + 1)) else sesErr (L[k])) := HQ.out.trans (firstErr_at hlt)
        clear HQ
        generalize L[k] = s at *
        go_wp2_with fail
        refine (check_one s _ _ (HKV.out.keep ((Keeps.refl _).alloc _))).mono ?_
        rintro e w1 ⟨rfl, hb⟩
        have hk1 : Keeps w w1 := (hkw.alloc _).trans hb
        cases he : (sesErr s == 0) with
        | false =>
          have he' : (sesErr s != 0) = true := by simp [bne, he]
          have HE : Hid (tabErr L = sesErr s) := by
            have hne : (firstErr L == 0) = false := by rw [HR.out]; simp [he]
            show _ = _
            simp only [tabErr, h3, if_false, hne, Bool.false_eq_true]
            rw [HR.out]; simp [he]
          go_wp2_with fail
          go_ret
          exact ⟨ret_int HE.out.symm, hk1⟩
        | true =>
          have he' : (sesErr s != 0) = false := by simp [bne, he]
          have HN : Hid (firstErr L = firstErr (L.drop (k + 1))) := by show _ = _; rw [HR.out]; simp [he]
          clear HR
          go_wp2_with fail
          go_roundw
          case rel => exact ⟨k + 1, by omega, by go_num, hk1, HN⟩
          case measure => simp [intOf]; omega
      · have HF : Hid (firstErr L = 0) := HQ.out.trans (by rw [List.drop_of_length_le (by omega)]; rfl)
        go_wp2_with fail
        go_loopw [6] (fun i wr2 => ∃ (j : Nat), (j = 0 ∨ j + 1 ≤ L.length) ∧ i = .int .i64 (j + 1 : Nat) ∧ Keeps w wr2 ∧ Hid (rising L = rising (L.drop j))) (fun i _ => L.length + 1 - (intOf i).toNat)
        case atStart => exact ⟨0, .inl rfl, rfl, hkw, rfl⟩
        case round =>
          obtain ⟨j, hj, rfl, hkw2, HQ2⟩ := hrel
          by_cases hlt2 : j + 1 < L.length
          · obtain ⟨b, off, cap', hv, hcell⟩ := (HT.out.keep hkw2).at hlt2
            injection hv with hv1 hv2 hv3
            subst hv1
            clear hv2 hv3
            have c0 := (hcell j (by omega)).1
            have c1 := (hcell (j + 1) hlt2).1
            clear hcell
            have HR2 : Hid (rising L = (decide ((L[j]).client < (L[j + 1]).client) && rising (L.drop (j + 1)))) := HQ2.out.trans (rising_at hlt2)
            clear HQ2
            generalize (L[j]).client = x at *
            generalize (L[j + 1]).client = y at *
            cases hd : decide (x < y) with
            | false =>
              have hd' : decide (y ≤ x) = true := by simp at hd ⊢; omega
              have HE : Hid (tabErr L = 1) := by
                show _ = _
                have hr : rising L = false := by rw [HR2.out, hd]; rfl
                simp [tabErr, h3, HF.out, hr]
              clear HR2 hd
              go_wp2_with fail
              go_quiet (fail)
              go_wp2_with fail
              go_ret
              exact ⟨ret_int HE.out.symm, hkw2.drewN _⟩
            | true =>
              have hd' : decide (y ≤ x) = false := by simp at hd ⊢; omega
              have HN : Hid (rising L = rising (L.drop (j + 1))) := by show _ = _; rw [HR2.out, hd]; rfl
              clear HR2 hd
              go_wp2_with fail
              go_quiet (fail)
              go_wp2_with fail
              go_roundw
              case rel => exact ⟨j + 1, by omega, by go_num, hkw2.drewN _, HN⟩
              case measure => simp [intOf]; omega
          · have HE : Hid (tabErr L = 0) := by
              show _ = _
              have hr : rising L = true := by rw [HQ2.out]; exact rising_end (by omega)
              simp [tabErr, h3, HF.out, hr]
            go_wp2_with fail
            go_ret
            exact ⟨ret_int HE.out.symm, hkw2⟩

set_option maxHeartbeats 2000000 in
theorem table_error (L : List Ses) (v : Value) (w : World) (hT : TabAt w v L) :
    Calls Try.prog 29 #[v] w fun e w' => e = .returned (.int .i64 (tabErr L)) ∧ Keeps w w' := by
  obtain ⟨a, cap, rfl, hlen⟩ := hT.len
  unfold maxLen at hlen
  have HT : Hid (TabAt w (.slice a L.length cap) L) := hT
  clear hT
  by_cases h3 : 3 < L.length
  · have HE : Hid (tabErr L = 2) := by simp [Hid, tabErr, h3]
    go_enter Try.func29, Try.ntmps29
    go_wp2_with fail
    go_ret
    exact ⟨ret_int HE.out.symm, Keeps.refl _⟩
  · go_enter Try.func29, Try.ntmps29
    go_wp2_with fail
    go_loopw [3] (fun i wr => ∃ (k : Nat), k ≤ L.length ∧ i = .int .i64 k ∧ Keeps w wr ∧ Hid (firstErr L = firstErr (L.drop k))) (fun i _ => L.length - (intOf i).toNat)
    case atStart => exact ⟨0, Nat.zero_le _, rfl, Keeps.refl _, rfl⟩
    case round =>
      obtain ⟨k, hk, rfl, hkw, HQ⟩ := hrel
      by_cases hlt : k < L.length
      · obtain ⟨b, off, cap', hv, hcell⟩ := (HT.out.keep hkw).at hlt
        injection hv with hv1 hv2 hv3
        subst hv1
        clear hv2 hv3
        obtain ⟨c0, c1, c2, ka, kc, c3, hkv⟩ := hcell k hlt
        clear hcell
        have HKV : Hid (KeptAt wr (.slice ka (L[k]).kept.length kc) (L[k]).kept) := hkv
        clear hkv
        have HR : Hid (firstErr L = if sesErr (L[k]) == 0 then firstErr (L.drop (k + 1)) else sesErr (L[k])) := HQ.out.trans (firstErr_at hlt)
        clear HQ
        generalize L[k] = s at *
        go_wp2_with fail
        refine (one_error s _ _ HKV.out).mono ?_
        rintro e w1 ⟨rfl, hb⟩
        have hk1 : Keeps w w1 := hkw.trans hb
        cases he : (sesErr s == 0) with
        | false =>
          have he' : (sesErr s != 0) = true := by simp [bne, he]
          have HE : Hid (tabErr L = sesErr s) := by
            have hne : (firstErr L == 0) = false := by rw [HR.out]; simp [he]
            show _ = _
            simp only [tabErr, h3, if_false, hne, Bool.false_eq_true]
            rw [HR.out]; simp [he]
          go_wp2_with fail
          go_ret
          exact ⟨ret_int HE.out.symm, hk1⟩
        | true =>
          have he' : (sesErr s != 0) = false := by simp [bne, he]
          have HN : Hid (firstErr L = firstErr (L.drop (k + 1))) := by show _ = _; rw [HR.out]; simp [he]
          clear HR
          go_wp2_with fail
          go_roundw
          case rel => exact ⟨k + 1, by omega, by go_num, hk1, HN⟩
          case measure => simp [intOf]; omega
      · have HF : Hid (firstErr L = 0) := HQ.out.trans (by rw [List.drop_of_length_le (by omega)]; rfl)
        go_wp2_with fail
        go_loopw [5] (fun i wr2 => ∃ (j : Nat), (j = 0 ∨ j + 1 ≤ L.length) ∧ i = .int .i64 (j + 1 : Nat) ∧ Keeps w wr2 ∧ Hid (rising L = rising (L.drop j))) (fun i _ => L.length + 1 - (intOf i).toNat)
        case atStart => exact ⟨0, .inl rfl, rfl, hkw, rfl⟩
        case round =>
          obtain ⟨j, hj, rfl, hkw2, HQ2⟩ := hrel
          by_cases hlt2 : j + 1 < L.length
          · obtain ⟨b, off, cap', hv, hcell⟩ := (HT.out.keep hkw2).at hlt2
            injection hv with hv1 hv2 hv3
            subst hv1
            clear hv2 hv3
            have c0 := (hcell j (by omega)).1
            have c1 := (hcell (j + 1) hlt2).1
            clear hcell
            have HR2 : Hid (rising L = (decide ((L[j]).client < (L[j + 1]).client) && rising (L.drop (j + 1)))) := HQ2.out.trans (rising_at hlt2)
            clear HQ2
            generalize (L[j]).client = x at *
            generalize (L[j + 1]).client = y at *
            cases hd : decide (x < y) with
            | false =>
              have hd' : decide (y ≤ x) = true := by simp at hd ⊢; omega
              have HE : Hid (tabErr L = 1) := by
                show _ = _
                have hr : rising L = false := by rw [HR2.out, hd]; rfl
                simp [tabErr, h3, HF.out, hr]
              clear HR2 hd
              go_wp2_with fail
              go_quiet (fail)
              go_wp2_with fail
              go_ret
              exact ⟨ret_int HE.out.symm, hkw2.drewN _⟩
            | true =>
              have hd' : decide (y ≤ x) = false := by simp at hd ⊢; omega
              have HN : Hid (rising L = rising (L.drop (j + 1))) := by show _ = _; rw [HR2.out, hd]; rfl
              clear HR2 hd
              go_wp2_with fail
              go_quiet (fail)
              go_wp2_with fail
              go_roundw
              case rel => exact ⟨j + 1, by omega, by go_num, hkw2.drewN _, HN⟩
              case measure => simp [intOf]; omega
          · have HE : Hid (tabErr L = 0) := by
              show _ = _
              have hr : rising L = true := by rw [HQ2.out]; exact rising_end (by omega)
              simp [tabErr, h3, HF.out, hr]
            go_wp2_with fail
            go_ret
            exact ⟨ret_int HE.out.symm, hkw2⟩
end Go.Proofs.Ythjcnbimapgdnab

/- A table just laid; the law's row. -/
set_option linter.unusedSimpArgs false
set_option linter.unusedVariables false
namespace Go.Proofs.Ythjcnbimapgdnab
open Go.RowKit

/-- A table in a row that has just been laid. -/
theorem tab_new (w : World) (L : List Ses) (ks : List Value) (h : KeptsAt w L ks) (hl : L.length ≤ 100) (cs : Array Value) (hcs : cs = (sesCells L ks).toArray) (hlen : (sesCells L ks).length = L.length * 4) :
    TabAt (w.alloc (.cells cs 48)) (.slice (some ⟨w.heap.size, 0, none⟩) L.length L.length) L := by
  subst hcs
  refine ⟨ks, h.keep ((Keeps.refl _).alloc _), hlen, by unfold maxLen; omega, .inr ⟨_, _, rfl, fun j u hu => ?_⟩⟩
  rw [Addr.add_lit, Nat.zero_add, World.cell?_alloc_new]
  simpa using hu

theorem kept_one (w : World) (q v : Int) : KeptAt (w.alloc (.cells #[.int .i64 q, .int .i64 v] 78)) (.slice (some ⟨w.heap.size, 0, none⟩) 1 1) [(q, v)] := by
  refine ⟨rfl, by unfold maxLen; simp, .inr ⟨_, _, rfl, fun j u hu => ?_⟩⟩
  rw [Addr.add_lit, Nat.zero_add]
  match j, hu with
  | 0, hu => simp [repCells] at hu; subst hu; simp [go_sem]
  | 1, hu => simp [repCells] at hu; subst hu; simp [go_sem]

abbrev rowS (c : Int) : Ses := ⟨c, 2, 9, [(3, 7), (5, -1)]⟩

theorem row_c (c : Int) (w : World) : Calls Try.prog 46 #[.int .i64 c] w fun e w' => ∃ ka kc, KeptAt w' (.slice ka 2 kc) [(3, 7), (5, -1)] ∧ e = .returned (sesV (rowS c) (.slice ka 2 kc)) ∧ Keeps w w' := by
  go_enter Try.func46, Try.ntmps46
  go_wp2_with fail
  refine bodyPost_ret (v := sesV (rowS c) (.slice (some ⟨w.heap.size + 1, 0, none⟩) 2 2)) ?_ rfl ?_
  · simp [results, Try.results46, go_sem]
  · refine ⟨some ⟨w.heap.size + 1, 0, none⟩, 2, ?_, rfl, ?_⟩
    · refine ⟨rfl, by unfold maxLen; simp, .inr ⟨_, _, rfl, fun j u hu => ?_⟩⟩
      rw [Addr.add_lit, Nat.zero_add]
      match j, hu with
      | 0, hu => simp [repCells] at hu; subst hu; simp [go_sem]
      | 1, hu => simp [repCells] at hu; subst hu; simp [go_sem]
      | 2, hu => simp [repCells] at hu; subst hu; simp [go_sem]
      | 3, hu => simp [repCells] at hu; subst hu; simp [go_sem]
    · exact ((Keeps.refl _).alloc _).alloc _

end Go.Proofs.Ythjcnbimapgdnab

/- The reference's sameSessions, SameSession, SameTables. -/
set_option linter.unusedSimpArgs false
set_option linter.unusedVariables false
namespace Go.Proofs.Ythjcnbimapgdnab
open Go.RowKit

def sameKept : List (Int × Int) → List (Int × Int) → Bool
  | [], [] => true
  | (q, v) :: r, (q', v') :: r' => (q == q' && v == v') && sameKept r r'
  | _, _ => false
def sameSes (s t : Ses) : Bool := s.client == t.client && (s.acked == t.acked && (s.seen == t.seen && sameKept s.kept t.kept))

theorem sameKept_len : ∀ {l m : List (Int × Int)}, l.length ≠ m.length → sameKept l m = false
  | [], [], h => absurd rfl h
  | [], _ :: _, _ => rfl
  | _ :: _, [], _ => rfl
  | (_, _) :: r, (_, _) :: r', h => by simp [sameKept, sameKept_len (l := r) (m := r') (by simpa using h)]
theorem sameKept_at {l m : List (Int × Int)} {k : Nat} (h : k < l.length) (h' : k < m.length) :
    sameKept (l.drop k) (m.drop k) = (((l[k]).1 == (m[k]).1 && (l[k]).2 == (m[k]).2) && sameKept (l.drop (k + 1)) (m.drop (k + 1))) := by
  rw [List.drop_eq_getElem_cons h, List.drop_eq_getElem_cons h']; rfl
theorem sameKept_iff : ∀ {l m : List (Int × Int)}, sameKept l m = true ↔ l = m
  | [], [] => by simp [sameKept]
  | [], _ :: _ => by simp [sameKept]
  | _ :: _, [] => by simp [sameKept]
  | (q, v) :: r, (q', v') :: r' => by simp [sameKept, sameKept_iff (l := r) (m := r')]
theorem sameSes_iff {s t : Ses} : sameSes s t = true ↔ s = t := by
  obtain ⟨a, b, c, d⟩ := s
  obtain ⟨a', b', c', d'⟩ := t
  simp [sameSes, sameKept_iff]

set_option maxHeartbeats 2000000 in
theorem same_sessions_no (s t : Ses) (kv kv' : Value) (w : World) (h1 : KeptAt w kv s.kept) (h2 : KeptAt w kv' t.kept)
    (hne : (s.client == t.client && (s.acked == t.acked && (s.seen == t.seen && s.kept.length == t.kept.length))) = false) :
    Calls Try.prog 45 #[sesV s kv, sesV t kv'] w fun e w' => e = .returned (.bool (sameSes s t)) ∧ Keeps w w' := by
  obtain ⟨a, cap, rfl, hlen⟩ := h1.len
  obtain ⟨a', cap', rfl, hlen'⟩ := h2.len
  unfold maxLen at hlen hlen'
  clear h1 h2
  have HE : Hid (sameSes s t = false) := by
    show _ = _
    simp only [Bool.and_eq_false_iff] at hne
    unfold sameSes
    rcases hne with h | h | h | h
    · simp [h]
    · simp [h]
    · simp [h]
    · simp [sameKept_len (by simpa using h)]
  cases q1 : (s.client == t.client) with
  | false =>
    have q1' : (s.client != t.client) = true := by simp [bne, q1]
    go_enter Try.func45, Try.ntmps45
    go_wp2_with fail
    go_ret
    exact ⟨by rw [HE.out]; rfl, ((Keeps.refl _).alloc _).alloc _⟩
  | true =>
    have q1' : (s.client != t.client) = false := by simp [bne, q1]
    cases q2 : (s.acked == t.acked) with
    | false =>
      have q2' : (s.acked != t.acked) = true := by simp [bne, q2]
      go_enter Try.func45, Try.ntmps45
      go_wp2_with fail
      go_ret
      exact ⟨by rw [HE.out]; rfl, ((Keeps.refl _).alloc _).alloc _⟩
    | true =>
      have q2' : (s.acked != t.acked) = false := by simp [bne, q2]
      cases q3 : (s.seen == t.seen) with
      | false =>
        have q3' : (s.seen != t.seen) = true := by simp [bne, q3]
        go_enter Try.func45, Try.ntmps45
        go_wp2_with fail
        go_ret
        exact ⟨by rw [HE.out]; rfl, ((Keeps.refl _).alloc _).alloc _⟩
      | true =>
        have q3' : (s.seen != t.seen) = false := by simp [bne, q3]
        have q4 : (s.kept.length == t.kept.length) = false := by simpa [q1, q2, q3] using hne
        have q4' : ((s.kept.length : Int) != (t.kept.length : Int)) = true := by simp at q4 ⊢; omega
        clear hne q4
        go_enter Try.func45, Try.ntmps45
        go_wp2_with fail
        go_ret
        exact ⟨by rw [HE.out]; rfl, ((Keeps.refl _).alloc _).alloc _⟩

set_option maxHeartbeats 2000000 in
theorem same_sessions_yes (s t : Ses) (kv kv' : Value) (w : World) (h1 : KeptAt w kv s.kept) (h2 : KeptAt w kv' t.kept)
    (hc1 : s.client = t.client) (hc2 : s.acked = t.acked) (hc3 : s.seen = t.seen) (hc4 : s.kept.length = t.kept.length) :
    Calls Try.prog 45 #[sesV s kv, sesV t kv'] w fun e w' => e = .returned (.bool (sameSes s t)) ∧ Keeps w w' := by
  obtain ⟨a, cap, rfl, hlen⟩ := h1.len
  obtain ⟨a', cap', rfl, hlen'⟩ := h2.len
  unfold maxLen at hlen hlen'
  have HS : Hid (sameSes s t = sameKept s.kept t.kept) := by simp [Hid, sameSes, hc1, hc2, hc3]
  have HL : Hid (s.kept.length = t.kept.length) := hc4
  have H1 : Hid (KeptAt w (.slice a s.kept.length cap) s.kept) := h1
  have H2 : Hid (KeptAt w (.slice a' t.kept.length cap') t.kept) := h2
  have q1' : (s.client != t.client) = false := by simp [hc1]
  have q2' : (s.acked != t.acked) = false := by simp [hc2]
  have q3' : (s.seen != t.seen) = false := by simp [hc3]
  have q4' : ((s.kept.length : Int) != (t.kept.length : Int)) = false := by simp [hc4]
  clear h1 h2 hc1 hc2 hc3 hc4
  go_enter Try.func45, Try.ntmps45
  go_wp2_with fail
  go_loopw [5] (fun i wr => ∃ (k : Nat), k ≤ s.kept.length ∧ i = .int .i64 k ∧ Keeps ((w.alloc (.cells #[.int .i64 s.client, .int .i64 s.acked, .int .i64 s.seen, .slice a s.kept.length cap] 48)).alloc (.cells #[.int .i64 t.client, .int .i64 t.acked, .int .i64 t.seen, .slice a' t.kept.length cap'] 48)) wr ∧ Hid (sameSes s t = sameKept (s.kept.drop k) (t.kept.drop k))) (fun i _ => s.kept.length - (intOf i).toNat)
  case atStart => exact ⟨0, Nat.zero_le _, rfl, Keeps.refl _, HS⟩
  case round =>
    obtain ⟨k, hk, rfl, hkW, HQ⟩ := hrel
    clear HS
    have hkw : Keeps w wr := (((Keeps.refl _).alloc _).alloc _).trans hkW
    have hxb : w.heap.size + 1 < wr.heap.size := by have := hkW.size; simp at this; omega
    have x3 : wr.cell? ⟨w.heap.size, 3, none⟩ = some (.slice a s.kept.length cap) := (Below.cell hkW (p := ⟨w.heap.size, 3, none⟩) (by simp <;> omega)).trans (by simp [go_sem])
    have y3 : wr.cell? ⟨w.heap.size + 1, 3, none⟩ = some (.slice a' t.kept.length cap') := (Below.cell hkW (p := ⟨w.heap.size + 1, 3, none⟩) (by simp)).trans (by simp [go_sem])
    by_cases hlt : k < s.kept.length
    · have hlt' : k < t.kept.length := by rw [← HL.out]; exact hlt
      obtain ⟨b, off, cp, hv, _, hcell⟩ := (H1.out.keep hkw).at hlt
      injection hv with hv1 hv2 hv3
      subst hv1
      clear hv2 hv3
      obtain ⟨b', off', cp', hv, _, hcell'⟩ := (H2.out.keep hkw).at hlt'
      injection hv with hv1 hv2 hv3
      subst hv1
      clear hv2 hv3
      obtain ⟨c0, c1⟩ := hcell k hlt
      obtain ⟨d0, d1⟩ := hcell' k hlt'
      clear hcell hcell'
      have HR : Hid (sameSes s t = ((((s.kept[k]).1 == (t.kept[k]).1 && (s.kept[k]).2 == (t.kept[k]).2)) && sameKept (s.kept.drop (k + 1)) (t.kept.drop (k + 1)))) := HQ.out.trans (sameKept_at hlt hlt')
      clear HQ
      generalize (s.kept[k]).1 = q at *
      generalize (s.kept[k]).2 = v at *
      generalize (t.kept[k]).1 = q' at *
      generalize (t.kept[k]).2 = v' at *
      have hn := neq61
      cases hb : (q == q' && v == v') with
      | false =>
        have HE : Hid (sameSes s t = false) := by show _ = _; rw [HR.out, hb]; rfl
        have hb' : (!(q == q' && v == v')) = true := by rw [hb]; rfl
        go_wp2_with fail
        go_quiet (fail)
        go_wp2_with fail
        all_goals go_ret
        all_goals exact ⟨by rw [HE.out]; rfl, hkw.drewN _⟩
      | true =>
        have HN : Hid (sameSes s t = sameKept (s.kept.drop (k + 1)) (t.kept.drop (k + 1))) := by show _ = _; rw [HR.out, hb]; rfl
        have hb' : (!(q == q' && v == v')) = false := by rw [hb]; rfl
        go_wp2_with fail
        go_quiet (fail)
        go_wp2_with fail
        go_roundw
        case rel => exact ⟨k + 1, by omega, by go_num, hkW.drewN _, HN⟩
        case measure => simp [intOf]; omega
    · have HE : Hid (sameSes s t = true) := HQ.out.trans (by rw [List.drop_of_length_le (by omega), List.drop_of_length_le (by rw [← HL.out]; omega)]; rfl)
      go_wp2_with fail
      go_ret
      exact ⟨by rw [HE.out]; rfl, hkw⟩

theorem same_sessions (s t : Ses) (kv kv' : Value) (w : World) (h1 : KeptAt w kv s.kept) (h2 : KeptAt w kv' t.kept) :
    Calls Try.prog 45 #[sesV s kv, sesV t kv'] w fun e w' => e = .returned (.bool (sameSes s t)) ∧ Keeps w w' := by
  cases h : (s.client == t.client && (s.acked == t.acked && (s.seen == t.seen && s.kept.length == t.kept.length))) with
  | false => exact same_sessions_no s t kv kv' w h1 h2 h
  | true =>
    simp only [Bool.and_eq_true, beq_iff_eq] at h
    exact same_sessions_yes s t kv kv' w h1 h2 h.1 h.2.1 h.2.2.1 h.2.2.2

def sameTab : List Ses → List Ses → Bool
  | [], [] => true
  | s :: r, t :: r' => sameSes s t && sameTab r r'
  | _, _ => false
theorem sameTab_len : ∀ {l m : List Ses}, l.length ≠ m.length → sameTab l m = false
  | [], [], h => absurd rfl h
  | [], _ :: _, _ => rfl
  | _ :: _, [], _ => rfl
  | _ :: r, _ :: r', h => by simp [sameTab, sameTab_len (l := r) (m := r') (by simpa using h)]
theorem sameTab_at {l m : List Ses} {k : Nat} (h : k < l.length) (h' : k < m.length) : sameTab (l.drop k) (m.drop k) = (sameSes (l[k]) (m[k]) && sameTab (l.drop (k + 1)) (m.drop (k + 1))) := by
  rw [List.drop_eq_getElem_cons h, List.drop_eq_getElem_cons h']; rfl
theorem sameTab_iff : ∀ {l m : List Ses}, sameTab l m = true ↔ l = m
  | [], [] => by simp [sameTab]
  | [], _ :: _ => by simp [sameTab]
  | _ :: _, [] => by simp [sameTab]
  | _ :: r, _ :: r' => by simp [sameTab, sameTab_iff (l := r) (m := r'), sameSes_iff]

set_option maxHeartbeats 2000000 in
theorem same_tables (L M : List Ses) (v v' : Value) (w : World) (h1 : TabAt w v L) (h2 : TabAt w v' M) :
    Calls Try.prog 21 #[v, v'] w fun e w' => e = .returned (.bool (sameTab L M)) ∧ Keeps w w' := by
  obtain ⟨a, cap, rfl, hlen⟩ := h1.len
  obtain ⟨a', cap', rfl, hlen'⟩ := h2.len
  unfold maxLen at hlen hlen'
  have H1 : Hid (TabAt w (.slice a L.length cap) L) := h1
  have H2 : Hid (TabAt w (.slice a' M.length cap') M) := h2
  clear h1 h2
  by_cases hl : L.length = M.length
  case neg =>
    have q : ((L.length : Int) != (M.length : Int)) = true := by simp; omega
    have HE : Hid (sameTab L M = false) := sameTab_len hl
    clear hl
    go_enter Try.func21, Try.ntmps21
    go_wp2_with fail
    go_ret
    exact ⟨by rw [HE.out]; rfl, Keeps.refl _⟩
  case pos =>
    have q : ((L.length : Int) != (M.length : Int)) = false := by simp [hl]
    have HL : Hid (L.length = M.length) := hl
    clear hl
    go_enter Try.func21, Try.ntmps21
    go_wp2_with fail
    go_loopw [5] (fun i wr => ∃ (k : Nat), k ≤ L.length ∧ i = .int .i64 k ∧ Keeps w wr ∧ Hid (sameTab L M = sameTab (L.drop k) (M.drop k))) (fun i _ => L.length - (intOf i).toNat)
    case atStart => exact ⟨0, Nat.zero_le _, rfl, Keeps.refl _, rfl⟩
    case round =>
      obtain ⟨k, hk, rfl, hkw, HQ⟩ := hrel
      by_cases hlt : k < L.length
      · have hlt' : k < M.length := by rw [← HL.out]; exact hlt
        obtain ⟨b, off, cp, hv, hcell⟩ := (H1.out.keep hkw).at hlt
        injection hv with hv1 hv2 hv3
        subst hv1
        clear hv2 hv3
        obtain ⟨b', off', cp', hv, hcell'⟩ := (H2.out.keep hkw).at hlt'
        injection hv with hv1 hv2 hv3
        subst hv1
        clear hv2 hv3
        obtain ⟨c0, c1, c2, ka, kc, c3, hkv⟩ := hcell k hlt
        obtain ⟨d0, d1, d2, ka', kc', d3, hkv'⟩ := hcell' k hlt'
        clear hcell hcell'
        have HK1 : Hid (KeptAt wr (.slice ka (L[k]).kept.length kc) (L[k]).kept) := hkv
        have HK2 : Hid (KeptAt wr (.slice ka' (M[k]).kept.length kc') (M[k]).kept) := hkv'
        clear hkv hkv'
        have HR : Hid (sameTab L M = (sameSes (L[k]) (M[k]) && sameTab (L.drop (k + 1)) (M.drop (k + 1)))) := HQ.out.trans (sameTab_at hlt hlt')
        clear HQ
        generalize L[k] = s at *
        generalize M[k] = t at *
        have hne := After.some wr
        have e0 := fun x : After wr => (Below.cell x.h (p := ⟨b, off + k * 4, none⟩) (World.block_lt_of_cell? _ _ c0)).trans c0
        have e1 := fun x : After wr => (Below.cell x.h (p := ⟨b, off + k * 4 + 1, none⟩) (World.block_lt_of_cell? _ _ c1)).trans c1
        have e2 := fun x : After wr => (Below.cell x.h (p := ⟨b, off + k * 4 + 2, none⟩) (World.block_lt_of_cell? _ _ c2)).trans c2
        have e3 := fun x : After wr => (Below.cell x.h (p := ⟨b, off + k * 4 + 3, none⟩) (World.block_lt_of_cell? _ _ c3)).trans c3
        have f0 := fun x : After wr => (Below.cell x.h (p := ⟨b', off' + k * 4, none⟩) (World.block_lt_of_cell? _ _ d0)).trans d0
        have f1 := fun x : After wr => (Below.cell x.h (p := ⟨b', off' + k * 4 + 1, none⟩) (World.block_lt_of_cell? _ _ d1)).trans d1
        have f2 := fun x : After wr => (Below.cell x.h (p := ⟨b', off' + k * 4 + 2, none⟩) (World.block_lt_of_cell? _ _ d2)).trans d2
        have f3 := fun x : After wr => (Below.cell x.h (p := ⟨b', off' + k * 4 + 3, none⟩) (World.block_lt_of_cell? _ _ d3)).trans d3
        clear c0 c1 c2 c3 d0 d1 d2 d3
        cases hb : sameSes s t with
        | false =>
          have HE : Hid (sameTab L M = false) := by show _ = _; rw [HR.out, hb]; rfl
          go_wp2_with fail
          refine wp_region_after (by kernel_rfl) (by kernel_rfl) ?_
          repeat (first | go_big_quiet_skip | (go_big_quiet_want; go_big_quiet_op; first | go_big_quiet_on | (apply Exists.intro; refine ⟨fun _ => ?_, ?_⟩; (go_at_call 45; exact calls_after_keq (same_sessions s t _ _ _ (HK1.out.keep (After.h _)) (HK2.out.keep (After.h _))) (congrArg Value.bool hb)); go_big_quiet_on)))
          refine wpQuiet_nil ?_
          rintro _ ⟨x, rfl⟩
          go_wp2_with fail
          go_ret
          exact ⟨by rw [HE.out]; rfl, hkw.trans x.h⟩
        | true =>
          have HN : Hid (sameTab L M = sameTab (L.drop (k + 1)) (M.drop (k + 1))) := by show _ = _; rw [HR.out, hb]; rfl
          go_wp2_with fail
          refine wp_region_after (by kernel_rfl) (by kernel_rfl) ?_
          repeat (first | go_big_quiet_skip | (go_big_quiet_want; go_big_quiet_op; first | go_big_quiet_on | (apply Exists.intro; refine ⟨fun _ => ?_, ?_⟩; (go_at_call 45; exact calls_after_keq (same_sessions s t _ _ _ (HK1.out.keep (After.h _)) (HK2.out.keep (After.h _))) (congrArg Value.bool hb)); go_big_quiet_on)))
          refine wpQuiet_nil ?_
          rintro _ ⟨x, rfl⟩
          go_wp2_with fail
          go_roundw
          case rel => exact ⟨k + 1, by omega, by go_num, hkw.trans x.h, HN⟩
          case measure => simp [intOf]; omega
      · have HE : Hid (sameTab L M = true) := HQ.out.trans (by rw [List.drop_of_length_le (by omega), List.drop_of_length_le (by rw [← HL.out]; omega)]; rfl)
        go_wp2_with fail
        go_ret
        exact ⟨by rw [HE.out]; rfl, hkw⟩
end Go.Proofs.Ythjcnbimapgdnab

/- States: what is laid, SameOf. -/
set_option linter.unusedSimpArgs false
set_option linter.unusedVariables false
namespace Go.Proofs.Ythjcnbimapgdnab
open Go.RowKit

theorem cell_kept {W W' : World} {a : Addr} {u : Value} (h : W.cell? a = some u) (hk : Keeps W W') : W'.cell? a = some u := (Below.cell hk (World.block_lt_of_cell? _ _ h)).trans h

structure St where
  at_ : Int
  clock : Int
  v0 : Int
  v1 : Int
  v2 : Int
  v3 : Int
  tab : List Ses

abbrev stV (s : St) (t : Value) : Value := .agg #[.int .i64 s.at_, .int .i64 s.clock, .int .i64 s.v0, .int .i64 s.v1, .int .i64 s.v2, .int .i64 s.v3, t]

def sameVals (s t : St) : Bool := s.v0 == t.v0 && (s.v1 == t.v1 && (s.v2 == t.v2 && s.v3 == t.v3))
def sameSt (s t : St) : Bool := s.at_ == t.at_ && (s.clock == t.clock && (sameVals s t && sameTab s.tab t.tab))

set_option maxHeartbeats 2000000 in
theorem same_of_no (s t : St) (x y : Value) (w : World) (h1 : TabAt w x s.tab) (h2 : TabAt w y t.tab) (hne : (s.at_ == t.at_ && (s.clock == t.clock && sameVals s t)) = false) :
    Calls Try.prog 13 #[stV s x, stV t y] w fun e w' => e = .returned (.bool (sameSt s t)) ∧ Keeps w w' := by
  obtain ⟨a, c, rfl, _⟩ := h1.len
  obtain ⟨a', c', rfl, _⟩ := h2.len
  have HE : Hid (sameSt s t = false) := by
    show _ = _
    simp only [Bool.and_eq_false_iff] at hne
    unfold sameSt
    rcases hne with h | h | h
    · simp [h]
    · simp [h]
    · simp [h]
  clear h1 h2
  rw [HE.out]
  have he := eql22
  unfold sameVals at hne
  go_enter Try.func13, Try.ntmps13
  cases q1 : (s.at_ == t.at_) with
  | false =>
    go_wp2_with fail
    go_ret
    exact ⟨rfl, ((Keeps.refl _).alloc _).alloc _⟩
  | true =>
    cases q2 : (s.clock == t.clock) with
    | false =>
      go_wp2_with fail
      go_ret
      exact ⟨rfl, ((Keeps.refl _).alloc _).alloc _⟩
    | true =>
      simp only [q1, q2, Bool.true_and] at hne
      go_wp2_with fail
      go_ret
      exact ⟨rfl, ((Keeps.refl _).alloc _).alloc _⟩

set_option maxHeartbeats 2000000 in
theorem same_of_yes (s t : St) (x y : Value) (w : World) (h1 : TabAt w x s.tab) (h2 : TabAt w y t.tab) (hc1 : (s.at_ == t.at_) = true) (hc2 : (s.clock == t.clock) = true) (hc3 : sameVals s t = true) :
    Calls Try.prog 13 #[stV s x, stV t y] w fun e w' => e = .returned (.bool (sameSt s t)) ∧ Keeps w w' := by
  obtain ⟨a, c, rfl, _⟩ := h1.len
  obtain ⟨a', c', rfl, _⟩ := h2.len
  have HE : Hid (sameSt s t = sameTab s.tab t.tab) := by
    show _ = _
    unfold sameSt
    rw [hc1, hc2, hc3]
    rfl
  rw [HE.out]
  have P := same_tables s.tab t.tab _ _ _ (h1.keep (((Keeps.refl w).alloc (.cells #[.int .i64 s.at_, .int .i64 s.clock, .int .i64 s.v0, .int .i64 s.v1, .int .i64 s.v2, .int .i64 s.v3, .slice a s.tab.length c] 25)).alloc (.cells #[.int .i64 t.at_, .int .i64 t.clock, .int .i64 t.v0, .int .i64 t.v1, .int .i64 t.v2, .int .i64 t.v3, .slice a' t.tab.length c'] 25))) (h2.keep (((Keeps.refl w).alloc _).alloc _))
  have HP : Hid (Calls _ _ _ _ _) := P
  clear P h1 h2
  have he := eql22
  unfold sameVals at hc3
  generalize sameTab s.tab t.tab = r at HP HE
  go_enter Try.func13, Try.ntmps13
  go_wp2_with fail
  refine HP.out.mono ?_
  rintro e w1 ⟨rfl, hb⟩
  clear HP
  go_wp2_with fail
  go_ret
  exact ⟨rfl, (((Keeps.refl _).alloc _).alloc _).trans hb⟩

theorem same_of (s t : St) (x y : Value) (w : World) (h1 : TabAt w x s.tab) (h2 : TabAt w y t.tab) :
    Calls Try.prog 13 #[stV s x, stV t y] w fun e w' => e = .returned (.bool (sameSt s t)) ∧ Keeps w w' := by
  cases h : (s.at_ == t.at_ && (s.clock == t.clock && sameVals s t)) with
  | false => exact same_of_no s t x y w h1 h2 h
  | true =>
    simp only [Bool.and_eq_true] at h
    exact same_of_yes s t x y w h1 h2 h.1 h.2.1 h.2.2
end Go.Proofs.Ythjcnbimapgdnab
