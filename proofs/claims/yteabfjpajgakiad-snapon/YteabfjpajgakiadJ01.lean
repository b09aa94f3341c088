/- SesB, SesC, OpenSes, SesR, SesG. -/
import Derived.Deep.SlicePairs
import Derived.Test.YteabfjpajgakiadJ00
/- The reference's oneError. -/
set_option linter.unusedSimpArgs false
set_option linter.unusedVariables false
namespace Go.Proofs.Yteabfjpajgakiad
open Go.RowKit

end Go.Proofs.Yteabfjpajgakiad

/- sess.Check and the reference's TableError. -/
set_option linter.unusedSimpArgs false
set_option linter.unusedVariables false
namespace Go.Proofs.Yteabfjpajgakiad
open Go.RowKit

theorem KeptsAt.len {w : World} : ∀ {L : List Ses} {ks : List Value}, KeptsAt w L ks → ks.length = L.length
  | [], [], _ => rfl
  | _ :: r, _ :: ks, h => by simp [KeptsAt.len h.2]

theorem KeptsAt.at {w : World} : ∀ {L : List Ses} {ks : List Value} (h : KeptsAt w L ks) (i : Nat) (hi : i < L.length) (hi' : i < ks.length), KeptAt w (ks[i]) (L[i]).kept
  | _ :: _, _ :: _, h, 0, _, _ => h.1
  | _ :: _, _ :: _, h, i + 1, hi, hi' => KeptsAt.at h.2 i (by simpa using hi) (by simpa using hi')

theorem sesCells_at : ∀ (L : List Ses) (ks : List Value) (i : Nat) (h : i < L.length) (h' : i < ks.length),
    (sesCells L ks)[4 * i]? = some (.int .i64 (L[i]).client) ∧ (sesCells L ks)[4 * i + 1]? = some (.int .i64 (L[i]).acked) ∧ (sesCells L ks)[4 * i + 2]? = some (.int .i64 (L[i]).seen) ∧ (sesCells L ks)[4 * i + 3]? = some (ks[i])
  | s :: r, k :: ks, 0, _, _ => ⟨rfl, rfl, rfl, rfl⟩
  | s :: r, k :: ks, i + 1, h, h' => by
    have := sesCells_at r ks i (by simpa using h) (by simpa using h')
    rw [show 4 * (i + 1) = 4 * i + 1 + 1 + 1 + 1 from by omega]
    exact ⟨by simpa [sesCells] using this.1, by simpa [sesCells] using this.2.1, by simpa [sesCells] using this.2.2.1, by simpa [sesCells] using this.2.2.2⟩

/-- The sessions of a table, in memory. -/
theorem TabAt.at {w : World} {v : Value} {L : List Ses} (h : TabAt w v L) {k : Nat} (hk : k < L.length) :
    ∃ b off cap, v = .slice (some ⟨b, off, none⟩) L.length cap ∧
      ∀ i (hi : i < L.length), w.cell? ⟨b, off + i * 4, none⟩ = some (.int .i64 (L[i]).client) ∧ w.cell? ⟨b, off + i * 4 + 1, none⟩ = some (.int .i64 (L[i]).acked) ∧
        w.cell? ⟨b, off + i * 4 + 2, none⟩ = some (.int .i64 (L[i]).seen) ∧ ∃ ka kc, w.cell? ⟨b, off + i * 4 + 3, none⟩ = some (.slice ka (L[i]).kept.length kc) ∧ KeptAt w (.slice ka (L[i]).kept.length kc) (L[i]).kept := by
  obtain ⟨ks, hks, hrow⟩ := h
  have hlen := hks.len
  obtain ⟨b, off, cap, rfl, h3⟩ := hrow.plain (by rw [hrow.1]; omega)
  refine ⟨b, off, cap, rfl, fun i hi => ?_⟩
  have hi' : i < ks.length := by rw [hlen]; exact hi
  have e := sesCells_at L ks i hi hi'
  rw [Nat.mul_comm i 4]
  have hk := hks.at i hi hi'
  obtain ⟨ka, kc, hkv, _⟩ := hk.len
  exact ⟨h3 _ _ e.1, h3 _ _ e.2.1, h3 _ _ e.2.2.1, ka, kc, hkv ▸ h3 _ _ e.2.2.2, hkv ▸ hk⟩

theorem TabAt.len {w : World} {v : Value} {L : List Ses} (h : TabAt w v L) : ∃ a cap, v = .slice a L.length cap ∧ L.length ≤ maxLen := by
  obtain ⟨ks, _, h⟩ := h
  exact h.len

def firstErr : List Ses → Int
  | [] => 0
  | s :: r => if sesErr s == 0 then firstErr r else sesErr s
def rising : List Ses → Bool
  | a :: b :: r => decide (a.client < b.client) && rising (b :: r)
  | _ => true
def tabErr (L : List Ses) : Int := if 3 < L.length then 2 else if firstErr L == 0 then (if rising L then 0 else 1) else firstErr L

theorem firstErr_at {L : List Ses} {k : Nat} (h : k < L.length) : firstErr (L.drop k) = if sesErr (L[k]) == 0 then firstErr (L.drop (k + 1)) else sesErr (L[k]) := by
  rw [List.drop_eq_getElem_cons h]; rfl
theorem rising_at {L : List Ses} {k : Nat} (h : k + 1 < L.length) : rising (L.drop k) = (decide ((L[k]).client < (L[k + 1]).client) && rising (L.drop (k + 1))) := by
  rw [List.drop_eq_getElem_cons (show k < L.length from by omega), List.drop_eq_getElem_cons h]; rfl
theorem rising_end {L : List Ses} {k : Nat} (h : L.length ≤ k + 1) : rising (L.drop k) = true := by
  by_cases hk : k < L.length
  · rw [List.drop_eq_getElem_cons hk, List.drop_of_length_le (by omega)]; rfl
  · rw [List.drop_of_length_le (by omega)]; rfl

set_option maxHeartbeats 2000000 in
theorem sess_check (L : List Ses) (v : Value) (w : World) (hT : TabAt w v L) :
    Calls Try.prog 60 #[v] w fun e w' => e = .returned (.int .i64 (tabErr L)) ∧ Keeps w w' := by
  obtain ⟨a, cap, rfl, hlen⟩ := hT.len
  unfold maxLen at hlen
  have HT : Hid (TabAt w (.slice a L.length cap) L) := hT
  clear hT
  by_cases h3 : 3 < L.length
  · have HE : Hid (tabErr L = 2) := by simp [Hid, tabErr, h3]
    go_enter Try.func60, Try.ntmps60
    go_wp2_with fail
    go_ret
    exact ⟨ret_int HE.out.symm, Keeps.refl _⟩
  · go_enter Try.func60, Try.ntmps60
    go_wp2_with fail
    go_loopw [12] (fun i wr => ∃ (k : Nat), k ≤ L.length ∧ i = .int .i64 k ∧ Keeps w wr ∧ Hid (firstErr L = firstErr (L.drop k))) (fun i _ => L.length - (intOf i).toNat)
    case atStart => exact ⟨0, Nat.zero_le _, rfl, Keeps.refl _, rfl⟩
    case round =>
      obtain ⟨k, hk, rfl, hkw, HQ⟩ := hrel
      by_cases hlt : k < L.length
      · obtain ⟨b, off, cap', hv, hcell⟩ := (HT.out.keep hkw).at hlt
        injection hv with hv1 hv2 hv3
        subst hv1
        clear hv2 hv3
        obtain ⟨c0, c1, c2, ka, kc, c3, hkv⟩ := hcell k hlt
        clear hcell
        have HKV : Hid (KeptAt wr (.slice ka (L[k]).kept.length kc) (L[k]).kept) := hkv
        clear hkv
        have HR : Hid (firstErr L = if sesErr (L[k]) == 0 then firstErr (L.drop (k + 1)) else sesErr (L[k])) := HQ.out.trans (firstErr_at hlt)
        clear HQ
        generalize L[k] = s at *
        go_wp2_with fail
        refine (check_one s _ _ (HKV.out.keep ((Keeps.refl _).alloc _))).mono ?_
        rintro e w1 ⟨rfl, hb⟩
        have hk1 : Keeps w w1 := (hkw.alloc _).trans hb
        cases he : (sesErr s == 0) with
        | false =>
          have he' : (sesErr s != 0) = true := by simp [bne, he]
          have HE : Hid (tabErr L = sesErr s) := by
            have hne : (firstErr L == 0) = false := by rw [HR.out]; simp [he]
            show _ = _
            simp only [tabErr, h3, if_false, hne, Bool.false_eq_true]
            rw [HR.out]; simp [he]
          go_wp2_with fail
          go_ret
          exact ⟨ret_int HE.out.symm, hk1⟩
        | true =>
          have he' : (sesErr s != 0) = false := by simp [bne, he]
          have HN : Hid (firstErr L = firstErr (L.drop (k + 1))) := by show _ = _; rw [HR.out]; simp [he]
          clear HR
          go_wp2_with fail
          go_roundw
          case rel => exact ⟨k + 1, by omega, by go_num, hk1, HN⟩
          case measure => simp [intOf]; omega
      · have HF : Hid (firstErr L = 0) := HQ.out.trans (by rw [List.drop_of_length_le (by omega)]; rfl)
        go_wp2_with fail
        go_loopw [6] (fun i wr2 => ∃ (j : Nat), (j = 0 ∨ j + 1 ≤ L.length) ∧ i = .int .i64 (j + 1 : Nat) ∧ Keeps w wr2 ∧ Hid (rising L = rising (L.drop j))) (fun i _ => L.length + 1 - (intOf i).toNat)
        case atStart => exact ⟨0, .inl rfl, rfl, hkw, rfl⟩
        case round =>
          obtain ⟨j, hj, rfl, hkw2, HQ2⟩ := hrel
          by_cases hlt2 : j + 1 < L.length
          · obtain ⟨b, off, cap', hv, hcell⟩ := (HT.out.keep hkw2).at hlt2
            injection hv with hv1 hv2 hv3
            subst hv1
            clear hv2 hv3
            have c0 := (hcell j (by omega)).1
            have c1 := (hcell (j + 1) hlt2).1
            clear hcell
            have HR2 : Hid (rising L = (decide ((L[j]).client < (L[j + 1]).client) && rising (L.drop (j + 1)))) := HQ2.out.trans (rising_at hlt2)
            clear HQ2
            generalize (L[j]).client = x at *
            generalize (L[j + 1]).client = y at *
            cases hd : decide (x < y) with
            | false =>
              have hd' : decide (y ≤ x) = true := by simp at hd ⊢; omega
              have HE : Hid (tabErr L = 1) := by
                show _ = _
                have hr : rising L = false := by rw [HR2.out, hd]; rfl
                simp [tabErr, h3, HF.out, hr]
              clear HR2 hd
              go_wp2_with fail
              go_quiet (fail)
              go_wp2_with fail
              go_ret
              exact ⟨ret_int HE.out.symm, hkw2.drewN _⟩
            | true =>
              have hd' : decide (y ≤ x) = false := by simp at hd ⊢; omega
              have HN : Hid (rising L = rising (L.drop (j + 1))) := by show _ = _; rw [HR2.out, hd]; rfl
              clear HR2 hd
              go_wp2_with fail
              go_quiet (fail)
              go_wp2_with fail
              go_roundw
              case rel => exact ⟨j + 1, by omega, by go_num, hkw2.drewN _, HN⟩
              case measure => simp [intOf]; omega
          · have HE : Hid (tabErr L = 0) := by
              show _ = _
              have hr : rising L = true := by rw [HQ2.out]; exact rising_end (by omega)
              simp [tabErr, h3, HF.out, hr]
            go_wp2_with fail
            go_ret
            exact ⟨ret_int HE.out.symm, hkw2⟩

end Go.Proofs.Yteabfjpajgakiad

/- The arguments of a law: a table of sessions, a session. -/
set_option linter.unusedSimpArgs false
set_option linter.unusedVariables false
set_option maxRecDepth 100000
namespace Go.Proofs.Yteabfjpajgakiad
open Go.ChangeShapes Go.WideShapes Go.ChangeAt Go.RowKit Go.Joins Go.Deep

section
variable {H : Type} {enc : TypeId × Value → H} {w : World} {base : Nat} {spare : Nat → Bool} {held : Bool}

instance : Inhabited Ses := ⟨⟨0, 0, 0, []⟩⟩

end

end Go.Proofs.Yteabfjpajgakiad

/- A table just laid; the law's row. -/
set_option linter.unusedSimpArgs false
set_option linter.unusedVariables false
namespace Go.Proofs.Yteabfjpajgakiad
open Go.RowKit

abbrev rowS (c : Int) : Ses := ⟨c, 2, 9, [(3, 7), (5, -1)]⟩

end Go.Proofs.Yteabfjpajgakiad

/- The reference's sameSessions, SameSession, SameTables. -/
set_option linter.unusedSimpArgs false
set_option linter.unusedVariables false
namespace Go.Proofs.Yteabfjpajgakiad
open Go.RowKit

def sameKept : List (Int × Int) → List (Int × Int) → Bool
  | [], [] => true
  | (q, v) :: r, (q', v') :: r' => (q == q' && v == v') && sameKept r r'
  | _, _ => false
def sameSes (s t : Ses) : Bool := s.client == t.client && (s.acked == t.acked && (s.seen == t.seen && sameKept s.kept t.kept))

theorem sameKept_len : ∀ {l m : List (Int × Int)}, l.length ≠ m.length → sameKept l m = false
  | [], [], h => absurd rfl h
  | [], _ :: _, _ => rfl
  | _ :: _, [], _ => rfl
  | (_, _) :: r, (_, _) :: r', h => by simp [sameKept, sameKept_len (l := r) (m := r') (by simpa using h)]
theorem sameKept_at {l m : List (Int × Int)} {k : Nat} (h : k < l.length) (h' : k < m.length) :
    sameKept (l.drop k) (m.drop k) = (((l[k]).1 == (m[k]).1 && (l[k]).2 == (m[k]).2) && sameKept (l.drop (k + 1)) (m.drop (k + 1))) := by
  rw [List.drop_eq_getElem_cons h, List.drop_eq_getElem_cons h']; rfl
set_option maxHeartbeats 2000000 in
theorem same_sessions_no (s t : Ses) (kv kv' : Value) (w : World) (h1 : KeptAt w kv s.kept) (h2 : KeptAt w kv' t.kept)
    (hne : (s.client == t.client && (s.acked == t.acked && (s.seen == t.seen && s.kept.length == t.kept.length))) = false) :
    Calls Try.prog 65 #[sesV s kv, sesV t kv'] w fun e w' => e = .returned (.bool (sameSes s t)) ∧ Keeps w w' := by
  obtain ⟨a, cap, rfl, hlen⟩ := h1.len
  obtain ⟨a', cap', rfl, hlen'⟩ := h2.len
  unfold maxLen at hlen hlen'
  clear h1 h2
  have HE : Hid (sameSes s t = false) := by
    show _ = _
    simp only [Bool.and_eq_false_iff] at hne
    unfold sameSes
    rcases hne with h | h | h | h
    · simp [h]
    · simp [h]
    · simp [h]
    · simp [sameKept_len (by simpa using h)]
  cases q1 : (s.client == t.client) with
  | false =>
    have q1' : (s.client != t.client) = true := by simp [bne, q1]
    go_enter Try.func65, Try.ntmps65
    go_wp2_with fail
    go_ret
    exact ⟨by rw [HE.out]; rfl, ((Keeps.refl _).alloc _).alloc _⟩
  | true =>
    have q1' : (s.client != t.client) = false := by simp [bne, q1]
    cases q2 : (s.acked == t.acked) with
    | false =>
      have q2' : (s.acked != t.acked) = true := by simp [bne, q2]
      go_enter Try.func65, Try.ntmps65
      go_wp2_with fail
      go_ret
      exact ⟨by rw [HE.out]; rfl, ((Keeps.refl _).alloc _).alloc _⟩
    | true =>
      have q2' : (s.acked != t.acked) = false := by simp [bne, q2]
      cases q3 : (s.seen == t.seen) with
      | false =>
        have q3' : (s.seen != t.seen) = true := by simp [bne, q3]
        go_enter Try.func65, Try.ntmps65
        go_wp2_with fail
        go_ret
        exact ⟨by rw [HE.out]; rfl, ((Keeps.refl _).alloc _).alloc _⟩
      | true =>
        have q3' : (s.seen != t.seen) = false := by simp [bne, q3]
        have q4 : (s.kept.length == t.kept.length) = false := by simpa [q1, q2, q3] using hne
        have q4' : ((s.kept.length : Int) != (t.kept.length : Int)) = true := by simp at q4 ⊢; omega
        clear hne q4
        go_enter Try.func65, Try.ntmps65
        go_wp2_with fail
        go_ret
        exact ⟨by rw [HE.out]; rfl, ((Keeps.refl _).alloc _).alloc _⟩

set_option maxHeartbeats 2000000 in
theorem same_sessions_yes (s t : Ses) (kv kv' : Value) (w : World) (h1 : KeptAt w kv s.kept) (h2 : KeptAt w kv' t.kept)
    (hc1 : s.client = t.client) (hc2 : s.acked = t.acked) (hc3 : s.seen = t.seen) (hc4 : s.kept.length = t.kept.length) :
    Calls Try.prog 65 #[sesV s kv, sesV t kv'] w fun e w' => e = .returned (.bool (sameSes s t)) ∧ Keeps w w' := by
  obtain ⟨a, cap, rfl, hlen⟩ := h1.len
  obtain ⟨a', cap', rfl, hlen'⟩ := h2.len
  unfold maxLen at hlen hlen'
  have HS : Hid (sameSes s t = sameKept s.kept t.kept) := by simp [Hid, sameSes, hc1, hc2, hc3]
  have HL : Hid (s.kept.length = t.kept.length) := hc4
  have H1 : Hid (KeptAt w (.slice a s.kept.length cap) s.kept) := h1
  have H2 : Hid (KeptAt w (.slice a' t.kept.length cap') t.kept) := h2
  have q1' : (s.client != t.client) = false := by simp [hc1]
  have q2' : (s.acked != t.acked) = false := by simp [hc2]
  have q3' : (s.seen != t.seen) = false := by simp [hc3]
  have q4' : ((s.kept.length : Int) != (t.kept.length : Int)) = false := by simp [hc4]
  clear h1 h2 hc1 hc2 hc3 hc4
  go_enter Try.func65, Try.ntmps65
  go_wp2_with fail
  go_loopw [5] (fun i wr => ∃ (k : Nat), k ≤ s.kept.length ∧ i = .int .i64 k ∧ Keeps ((w.alloc (.cells #[.int .i64 s.client, .int .i64 s.acked, .int .i64 s.seen, .slice a s.kept.length cap] 59)).alloc (.cells #[.int .i64 t.client, .int .i64 t.acked, .int .i64 t.seen, .slice a' t.kept.length cap'] 59)) wr ∧ Hid (sameSes s t = sameKept (s.kept.drop k) (t.kept.drop k))) (fun i _ => s.kept.length - (intOf i).toNat)
  case atStart => exact ⟨0, Nat.zero_le _, rfl, Keeps.refl _, HS⟩
  case round =>
    obtain ⟨k, hk, rfl, hkW, HQ⟩ := hrel
    clear HS
    have hkw : Keeps w wr := (((Keeps.refl _).alloc _).alloc _).trans hkW
    have hxb : w.heap.size + 1 < wr.heap.size := by have := hkW.size; simp at this; omega
    have x3 : wr.cell? ⟨w.heap.size, 3, none⟩ = some (.slice a s.kept.length cap) := (Below.cell hkW (p := ⟨w.heap.size, 3, none⟩) (by simp <;> omega)).trans (by simp [go_sem])
    have y3 : wr.cell? ⟨w.heap.size + 1, 3, none⟩ = some (.slice a' t.kept.length cap') := (Below.cell hkW (p := ⟨w.heap.size + 1, 3, none⟩) (by simp)).trans (by simp [go_sem])
    by_cases hlt : k < s.kept.length
    · have hlt' : k < t.kept.length := by rw [← HL.out]; exact hlt
      obtain ⟨b, off, cp, hv, _, hcell⟩ := (H1.out.keep hkw).at hlt
      injection hv with hv1 hv2 hv3
      subst hv1
      clear hv2 hv3
      obtain ⟨b', off', cp', hv, _, hcell'⟩ := (H2.out.keep hkw).at hlt'
      injection hv with hv1 hv2 hv3
      subst hv1
      clear hv2 hv3
      obtain ⟨c0, c1⟩ := hcell k hlt
      obtain ⟨d0, d1⟩ := hcell' k hlt'
      clear hcell hcell'
      have HR : Hid (sameSes s t = ((((s.kept[k]).1 == (t.kept[k]).1 && (s.kept[k]).2 == (t.kept[k]).2)) && sameKept (s.kept.drop (k + 1)) (t.kept.drop (k + 1)))) := HQ.out.trans (sameKept_at hlt hlt')
      clear HQ
      generalize (s.kept[k]).1 = q at *
      generalize (s.kept[k]).2 = v at *
      generalize (t.kept[k]).1 = q' at *
      generalize (t.kept[k]).2 = v' at *
      have hn := neq61
      cases hb : (q == q' && v == v') with
      | false =>
        have HE : Hid (sameSes s t = false) := by show _ = _; rw [HR.out, hb]; rfl
        have hb' : (!(q == q' && v == v')) = true := by rw [hb]; rfl
        go_wp2_with fail
        go_quiet (fail)
        go_wp2_with fail
        all_goals go_ret
        all_goals exact ⟨by rw [HE.out]; rfl, hkw.drewN _⟩
      | true =>
        have HN : Hid (sameSes s t = sameKept (s.kept.drop (k + 1)) (t.kept.drop (k + 1))) := by show _ = _; rw [HR.out, hb]; rfl
        have hb' : (!(q == q' && v == v')) = false := by rw [hb]; rfl
        go_wp2_with fail
        go_quiet (fail)
        go_wp2_with fail
        go_roundw
        case rel => exact ⟨k + 1, by omega, by go_num, hkW.drewN _, HN⟩
        case measure => simp [intOf]; omega
    · have HE : Hid (sameSes s t = true) := HQ.out.trans (by rw [List.drop_of_length_le (by omega), List.drop_of_length_le (by rw [← HL.out]; omega)]; rfl)
      go_wp2_with fail
      go_ret
      exact ⟨by rw [HE.out]; rfl, hkw⟩

theorem same_sessions (s t : Ses) (kv kv' : Value) (w : World) (h1 : KeptAt w kv s.kept) (h2 : KeptAt w kv' t.kept) :
    Calls Try.prog 65 #[sesV s kv, sesV t kv'] w fun e w' => e = .returned (.bool (sameSes s t)) ∧ Keeps w w' := by
  cases h : (s.client == t.client && (s.acked == t.acked && (s.seen == t.seen && s.kept.length == t.kept.length))) with
  | false => exact same_sessions_no s t kv kv' w h1 h2 h
  | true =>
    simp only [Bool.and_eq_true, beq_iff_eq] at h
    exact same_sessions_yes s t kv kv' w h1 h2 h.1 h.2.1 h.2.2.1 h.2.2.2

def sameTab : List Ses → List Ses → Bool
  | [], [] => true
  | s :: r, t :: r' => sameSes s t && sameTab r r'
  | _, _ => false
theorem sameTab_len : ∀ {l m : List Ses}, l.length ≠ m.length → sameTab l m = false
  | [], [], h => absurd rfl h
  | [], _ :: _, _ => rfl
  | _ :: _, [], _ => rfl
  | _ :: r, _ :: r', h => by simp [sameTab, sameTab_len (l := r) (m := r') (by simpa using h)]
theorem sameTab_at {l m : List Ses} {k : Nat} (h : k < l.length) (h' : k < m.length) : sameTab (l.drop k) (m.drop k) = (sameSes (l[k]) (m[k]) && sameTab (l.drop (k + 1)) (m.drop (k + 1))) := by
  rw [List.drop_eq_getElem_cons h, List.drop_eq_getElem_cons h']; rfl
set_option maxHeartbeats 2000000 in
theorem same_tables (L M : List Ses) (v v' : Value) (w : World) (h1 : TabAt w v L) (h2 : TabAt w v' M) :
    Calls Try.prog 39 #[v, v'] w fun e w' => e = .returned (.bool (sameTab L M)) ∧ Keeps w w' := by
  obtain ⟨a, cap, rfl, hlen⟩ := h1.len
  obtain ⟨a', cap', rfl, hlen'⟩ := h2.len
  unfold maxLen at hlen hlen'
  have H1 : Hid (TabAt w (.slice a L.length cap) L) := h1
  have H2 : Hid (TabAt w (.slice a' M.length cap') M) := h2
  clear h1 h2
  by_cases hl : L.length = M.length
  case neg =>
    have q : ((L.length : Int) != (M.length : Int)) = true := by simp; omega
    have HE : Hid (sameTab L M = false) := sameTab_len hl
    clear hl
    go_enter Try.func39, Try.ntmps39
    go_wp2_with fail
    go_ret
    exact ⟨by rw [HE.out]; rfl, Keeps.refl _⟩
  case pos =>
    have q : ((L.length : Int) != (M.length : Int)) = false := by simp [hl]
    have HL : Hid (L.length = M.length) := hl
    clear hl
    go_enter Try.func39, Try.ntmps39
    go_wp2_with fail
    go_loopw [5] (fun i wr => ∃ (k : Nat), k ≤ L.length ∧ i = .int .i64 k ∧ Keeps w wr ∧ Hid (sameTab L M = sameTab (L.drop k) (M.drop k))) (fun i _ => L.length - (intOf i).toNat)
    case atStart => exact ⟨0, Nat.zero_le _, rfl, Keeps.refl _, rfl⟩
    case round =>
      obtain ⟨k, hk, rfl, hkw, HQ⟩ := hrel
      by_cases hlt : k < L.length
      · have hlt' : k < M.length := by rw [← HL.out]; exact hlt
        obtain ⟨b, off, cp, hv, hcell⟩ := (H1.out.keep hkw).at hlt
        injection hv with hv1 hv2 hv3
        subst hv1
        clear hv2 hv3
        obtain ⟨b', off', cp', hv, hcell'⟩ := (H2.out.keep hkw).at hlt'
        injection hv with hv1 hv2 hv3
        subst hv1
        clear hv2 hv3
        obtain ⟨c0, c1, c2, ka, kc, c3, hkv⟩ := hcell k hlt
        obtain ⟨d0, d1, d2, ka', kc', d3, hkv'⟩ := hcell' k hlt'
        clear hcell hcell'
        have HK1 : Hid (KeptAt wr (.slice ka (L[k]).kept.length kc) (L[k]).kept) := hkv
        have HK2 : Hid (KeptAt wr (.slice ka' (M[k]).kept.length kc') (M[k]).kept) := hkv'
        clear hkv hkv'
        have HR : Hid (sameTab L M = (sameSes (L[k]) (M[k]) && sameTab (L.drop (k + 1)) (M.drop (k + 1)))) := HQ.out.trans (sameTab_at hlt hlt')
        clear HQ
        generalize L[k] = s at *
        generalize M[k] = t at *
        have hne := After.some wr
        have e0 := fun x : After wr => (Below.cell x.h (p := ⟨b, off + k * 4, none⟩) (World.block_lt_of_cell? _ _ c0)).trans c0
        have e1 := fun x : After wr => (Below.cell x.h (p := ⟨b, off + k * 4 + 1, none⟩) (World.block_lt_of_cell? _ _ c1)).trans c1
        have e2 := fun x : After wr => (Below.cell x.h (p := ⟨b, off + k * 4 + 2, none⟩) (World.block_lt_of_cell? _ _ c2)).trans c2
        have e3 := fun x : After wr => (Below.cell x.h (p := ⟨b, off + k * 4 + 3, none⟩) (World.block_lt_of_cell? _ _ c3)).trans c3
        have f0 := fun x : After wr => (Below.cell x.h (p := ⟨b', off' + k * 4, none⟩) (World.block_lt_of_cell? _ _ d0)).trans d0
        have f1 := fun x : After wr => (Below.cell x.h (p := ⟨b', off' + k * 4 + 1, none⟩) (World.block_lt_of_cell? _ _ d1)).trans d1
        have f2 := fun x : After wr => (Below.cell x.h (p := ⟨b', off' + k * 4 + 2, none⟩) (World.block_lt_of_cell? _ _ d2)).trans d2
        have f3 := fun x : After wr => (Below.cell x.h (p := ⟨b', off' + k * 4 + 3, none⟩) (World.block_lt_of_cell? _ _ d3)).trans d3
        clear c0 c1 c2 c3 d0 d1 d2 d3
        cases hb : sameSes s t with
        | false =>
          have HE : Hid (sameTab L M = false) := by show _ = _; rw [HR.out, hb]; rfl
          go_wp2_with fail
          refine wp_region_after (by kernel_rfl) (by kernel_rfl) ?_
          repeat (first | go_big_quiet_skip | (go_big_quiet_want; go_big_quiet_op; first | go_big_quiet_on | (apply Exists.intro; refine ⟨fun _ => ?_, ?_⟩; (go_at_call 65; exact calls_after_keq (same_sessions s t _ _ _ (HK1.out.keep (After.h _)) (HK2.out.keep (After.h _))) (congrArg Value.bool hb)); go_big_quiet_on)))
          refine wpQuiet_nil ?_
          rintro _ ⟨x, rfl⟩
          go_wp2_with fail
          go_ret
          exact ⟨by rw [HE.out]; rfl, hkw.trans x.h⟩
        | true =>
          have HN : Hid (sameTab L M = sameTab (L.drop (k + 1)) (M.drop (k + 1))) := by show _ = _; rw [HR.out, hb]; rfl
          go_wp2_with fail
          refine wp_region_after (by kernel_rfl) (by kernel_rfl) ?_
          repeat (first | go_big_quiet_skip | (go_big_quiet_want; go_big_quiet_op; first | go_big_quiet_on | (apply Exists.intro; refine ⟨fun _ => ?_, ?_⟩; (go_at_call 65; exact calls_after_keq (same_sessions s t _ _ _ (HK1.out.keep (After.h _)) (HK2.out.keep (After.h _))) (congrArg Value.bool hb)); go_big_quiet_on)))
          refine wpQuiet_nil ?_
          rintro _ ⟨x, rfl⟩
          go_wp2_with fail
          go_roundw
          case rel => exact ⟨k + 1, by omega, by go_num, hkw.trans x.h, HN⟩
          case measure => simp [intOf]; omega
      · have HE : Hid (sameTab L M = true) := HQ.out.trans (by rw [List.drop_of_length_le (by omega), List.drop_of_length_le (by rw [← HL.out]; omega)]; rfl)
        go_wp2_with fail
        go_ret
        exact ⟨by rw [HE.out]; rfl, hkw⟩
end Go.Proofs.Yteabfjpajgakiad
