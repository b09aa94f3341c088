/- The reference's sameSessions, SameSession, SameTables. -/
import Derived.Test.YteabfjpajgakiaaSesC
import Derived.Test.YteabfjpajgakiaaEq
set_option linter.unusedSimpArgs false
set_option linter.unusedVariables false
namespace Go.Proofs.Yteabfjpajgakiaa
open Go.RowKit

def sameKept : List (Int × Int) → List (Int × Int) → Bool
  | [], [] => true
  | (q, v) :: r, (q', v') :: r' => (q == q' && v == v') && sameKept r r'
  | _, _ => false
def sameSes (s t : Ses) : Bool := s.client == t.client && (s.acked == t.acked && (s.seen == t.seen && sameKept s.kept t.kept))

theorem sameKept_len : ∀ {l m : List (Int × Int)}, l.length ≠ m.length → sameKept l m = false
  | [], [], h => absurd rfl h
  | [], _ :: _, _ => rfl
  | _ :: _, [], _ => rfl
  | (_, _) :: r, (_, _) :: r', h => by simp [sameKept, sameKept_len (l := r) (m := r') (by simpa using h)]
theorem sameKept_at {l m : List (Int × Int)} {k : Nat} (h : k < l.length) (h' : k < m.length) :
    sameKept (l.drop k) (m.drop k) = (((l[k]).1 == (m[k]).1 && (l[k]).2 == (m[k]).2) && sameKept (l.drop (k + 1)) (m.drop (k + 1))) := by
  rw [List.drop_eq_getElem_cons h, List.drop_eq_getElem_cons h']; rfl
theorem sameKept_iff : ∀ {l m : List (Int × Int)}, sameKept l m = true ↔ l = m
  | [], [] => by simp [sameKept]
  | [], _ :: _ => by simp [sameKept]
  | _ :: _, [] => by simp [sameKept]
  | (q, v) :: r, (q', v') :: r' => by simp [sameKept, sameKept_iff (l := r) (m := r')]
theorem sameSes_iff {s t : Ses} : sameSes s t = true ↔ s = t := by
  obtain ⟨a, b, c, d⟩ := s
  obtain ⟨a', b', c', d'⟩ := t
  simp [sameSes, sameKept_iff]

set_option maxHeartbeats 2000000 in
theorem same_sessions_no (s t : Ses) (kv kv' : Value) (w : World) (h1 : KeptAt w kv s.kept) (h2 : KeptAt w kv' t.kept)
    (hne : (s.client == t.client && (s.acked == t.acked && (s.seen == t.seen && s.kept.length == t.kept.length))) = false) :
    Calls Try.prog 42 #[sesV s kv, sesV t kv'] w fun e w' => e = .returned (.bool (sameSes s t)) ∧ Keeps w w' := by
  obtain ⟨a, cap, rfl, hlen⟩ := h1.len
  obtain ⟨a', cap', rfl, hlen'⟩ := h2.len
  unfold maxLen at hlen hlen'
  clear h1 h2
  have HE : Hid (sameSes s t = false) := by
    show _ = _
    simp only [Bool.and_eq_false_iff] at hne
    unfold sameSes
    rcases hne with h | h | h | h
    · simp [h]
    · simp [h]
    · simp [h]
    · simp [sameKept_len (by simpa using h)]
  cases q1 : (s.client == t.client) with
  | false =>
    have q1' : (s.client != t.client) = true := by simp [bne, q1]
    go_enter Try.func42, Try.ntmps42
    go_wp2_with fail
    go_ret
    exact ⟨by rw [HE.out]; rfl, ((Keeps.refl _).alloc _).alloc _⟩
  | true =>
    have q1' : (s.client != t.client) = false := by simp [bne, q1]
    cases q2 : (s.acked == t.acked) with
    | false =>
      have q2' : (s.acked != t.acked) = true := by simp [bne, q2]
      go_enter Try.func42, Try.ntmps42
      go_wp2_with fail
      go_ret
      exact ⟨by rw [HE.out]; rfl, ((Keeps.refl _).alloc _).alloc _⟩
    | true =>
      have q2' : (s.acked != t.acked) = false := by simp [bne, q2]
      cases q3 : (s.seen == t.seen) with
      | false =>
        have q3' : (s.seen != t.seen) = true := by simp [bne, q3]
        go_enter Try.func42, Try.ntmps42
        go_wp2_with fail
        go_ret
        exact ⟨by rw [HE.out]; rfl, ((Keeps.refl _).alloc _).alloc _⟩
      | true =>
        have q3' : (s.seen != t.seen) = false := by simp [bne, q3]
        have q4 : (s.kept.length == t.kept.length) = false := by simpa [q1, q2, q3] using hne
        have q4' : ((s.kept.length : Int) != (t.kept.length : Int)) = true := by simp at q4 ⊢; omega
        clear hne q4
        go_enter Try.func42, Try.ntmps42
        go_wp2_with fail
        go_ret
        exact ⟨by rw [HE.out]; rfl, ((Keeps.refl _).alloc _).alloc _⟩

set_option maxHeartbeats 2000000 in
theorem same_sessions_yes (s t : Ses) (kv kv' : Value) (w : World) (h1 : KeptAt w kv s.kept) (h2 : KeptAt w kv' t.kept)
    (hc1 : s.client = t.client) (hc2 : s.acked = t.acked) (hc3 : s.seen = t.seen) (hc4 : s.kept.length = t.kept.length) :
    Calls Try.prog 42 #[sesV s kv, sesV t kv'] w fun e w' => e = .returned (.bool (sameSes s t)) ∧ Keeps w w' := by
  obtain ⟨a, cap, rfl, hlen⟩ := h1.len
  obtain ⟨a', cap', rfl, hlen'⟩ := h2.len
  unfold maxLen at hlen hlen'
  have HS : Hid (sameSes s t = sameKept s.kept t.kept) := by simp [Hid, sameSes, hc1, hc2, hc3]
  have HL : Hid (s.kept.length = t.kept.length) := hc4
  have H1 : Hid (KeptAt w (.slice a s.kept.length cap) s.kept) := h1
  have H2 : Hid (KeptAt w (.slice a' t.kept.length cap') t.kept) := h2
  have q1' : (s.client != t.client) = false := by simp [hc1]
  have q2' : (s.acked != t.acked) = false := by simp [hc2]
  have q3' : (s.seen != t.seen) = false := by simp [hc3]
  have q4' : ((s.kept.length : Int) != (t.kept.length : Int)) = false := by simp [hc4]
  clear h1 h2 hc1 hc2 hc3 hc4
  go_enter Try.func42, Try.ntmps42
  go_wp2_with fail
  go_loopw [5] (fun i wr => ∃ (k : Nat), k ≤ s.kept.length ∧ i = .int .i64 k ∧ Keeps ((w.alloc (.cells #[.int .i64 s.client, .int .i64 s.acked, .int .i64 s.seen, .slice a s.kept.length cap] 34)).alloc (.cells #[.int .i64 t.client, .int .i64 t.acked, .int .i64 t.seen, .slice a' t.kept.length cap'] 34)) wr ∧ Hid (sameSes s t = sameKept (s.kept.drop k) (t.kept.drop k))) (fun i _ => s.kept.length - (intOf i).toNat)
  case atStart => exact ⟨0, Nat.zero_le _, rfl, Keeps.refl _, HS⟩
  case round =>
    obtain ⟨k, hk, rfl, hkW, HQ⟩ := hrel
    clear HS
    have hkw : Keeps w wr := (((Keeps.refl _).alloc _).alloc _).trans hkW
    have hxb : w.heap.size + 1 < wr.heap.size := by have := hkW.size; simp at this; omega
    have x3 : wr.cell? ⟨w.heap.size, 3, none⟩ = some (.slice a s.kept.length cap) := (Below.cell hkW (p := ⟨w.heap.size, 3, none⟩) (by simp <;> omega)).trans (by simp [go_sem])
    have y3 : wr.cell? ⟨w.heap.size + 1, 3, none⟩ = some (.slice a' t.kept.length cap') := (Below.cell hkW (p := ⟨w.heap.size + 1, 3, none⟩) (by simp)).trans (by simp [go_sem])
    by_cases hlt : k < s.kept.length
    · have hlt' : k < t.kept.length := by rw [← HL.out]; exact hlt
      obtain ⟨b, off, cp, hv, _, hcell⟩ := (H1.out.keep hkw).at hlt
      injection hv with hv1 hv2 hv3
      subst hv1
      clear hv2 hv3
      obtain ⟨b', off', cp', hv, _, hcell'⟩ := (H2.out.keep hkw).at hlt'
      injection hv with hv1 hv2 hv3
      subst hv1
      clear hv2 hv3
      obtain ⟨c0, c1⟩ := hcell k hlt
      obtain ⟨d0, d1⟩ := hcell' k hlt'
      clear hcell hcell'
      have HR : Hid (sameSes s t = ((((s.kept[k]).1 == (t.kept[k]).1 && (s.kept[k]).2 == (t.kept[k]).2)) && sameKept (s.kept.drop (k + 1)) (t.kept.drop (k + 1)))) := HQ.out.trans (sameKept_at hlt hlt')
      clear HQ
      generalize (s.kept[k]).1 = q at *
      generalize (s.kept[k]).2 = v at *
      generalize (t.kept[k]).1 = q' at *
      generalize (t.kept[k]).2 = v' at *
      have hn := neq61
      cases hb : (q == q' && v == v') with
      | false =>
        have HE : Hid (sameSes s t = false) := by show _ = _; rw [HR.out, hb]; rfl
        have hb' : (!(q == q' && v == v')) = true := by rw [hb]; rfl
        go_wp2_with fail
        go_quiet (fail)
        go_wp2_with fail
        all_goals go_ret
        all_goals exact ⟨by rw [HE.out]; rfl, hkw.drewN _⟩
      | true =>
        have HN : Hid (sameSes s t = sameKept (s.kept.drop (k + 1)) (t.kept.drop (k + 1))) := by show _ = _; rw [HR.out, hb]; rfl
        have hb' : (!(q == q' && v == v')) = false := by rw [hb]; rfl
        go_wp2_with fail
        go_quiet (fail)
        go_wp2_with fail
        go_roundw
        case rel => exact ⟨k + 1, by omega, by go_num, hkW.drewN _, HN⟩
        case measure => simp [intOf]; omega
    · have HE : Hid (sameSes s t = true) := HQ.out.trans (by rw [List.drop_of_length_le (by omega), List.drop_of_length_le (by rw [← HL.out]; omega)]; rfl)
      go_wp2_with fail
      go_ret
      exact ⟨by rw [HE.out]; rfl, hkw⟩

theorem same_sessions (s t : Ses) (kv kv' : Value) (w : World) (h1 : KeptAt w kv s.kept) (h2 : KeptAt w kv' t.kept) :
    Calls Try.prog 42 #[sesV s kv, sesV t kv'] w fun e w' => e = .returned (.bool (sameSes s t)) ∧ Keeps w w' := by
  cases h : (s.client == t.client && (s.acked == t.acked && (s.seen == t.seen && s.kept.length == t.kept.length))) with
  | false => exact same_sessions_no s t kv kv' w h1 h2 h
  | true =>
    simp only [Bool.and_eq_true, beq_iff_eq] at h
    exact same_sessions_yes s t kv kv' w h1 h2 h.1 h.2.1 h.2.2.1 h.2.2.2

def sameTab : List Ses → List Ses → Bool
  | [], [] => true
  | s :: r, t :: r' => sameSes s t && sameTab r r'
  | _, _ => false
theorem sameTab_len : ∀ {l m : List Ses}, l.length ≠ m.length → sameTab l m = false
  | [], [], h => absurd rfl h
  | [], _ :: _, _ => rfl
  | _ :: _, [], _ => rfl
  | _ :: r, _ :: r', h => by simp [sameTab, sameTab_len (l := r) (m := r') (by simpa using h)]
theorem sameTab_at {l m : List Ses} {k : Nat} (h : k < l.length) (h' : k < m.length) : sameTab (l.drop k) (m.drop k) = (sameSes (l[k]) (m[k]) && sameTab (l.drop (k + 1)) (m.drop (k + 1))) := by
  rw [List.drop_eq_getElem_cons h, List.drop_eq_getElem_cons h']; rfl
theorem sameTab_iff : ∀ {l m : List Ses}, sameTab l m = true ↔ l = m
  | [], [] => by simp [sameTab]
  | [], _ :: _ => by simp [sameTab]
  | _ :: _, [] => by simp [sameTab]
  | _ :: r, _ :: r' => by simp [sameTab, sameTab_iff (l := r) (m := r'), sameSes_iff]

set_option maxHeartbeats 2000000 in
theorem same_tables (L M : List Ses) (v v' : Value) (w : World) (h1 : TabAt w v L) (h2 : TabAt w v' M) :
    Calls Try.prog 24 #[v, v'] w fun e w' => e = .returned (.bool (sameTab L M)) ∧ Keeps w w' := by
  obtain ⟨a, cap, rfl, hlen⟩ := h1.len
  obtain ⟨a', cap', rfl, hlen'⟩ := h2.len
  unfold maxLen at hlen hlen'
  have H1 : Hid (TabAt w (.slice a L.length cap) L) := h1
  have H2 : Hid (TabAt w (.slice a' M.length cap') M) := h2
  clear h1 h2
  by_cases hl : L.length = M.length
  case neg =>
    have q : ((L.length : Int) != (M.length : Int)) = true := by simp; omega
    have HE : Hid (sameTab L M = false) := sameTab_len hl
    clear hl
    go_enter Try.func24, Try.ntmps24
    go_wp2_with fail
    go_ret
    exact ⟨by rw [HE.out]; rfl, Keeps.refl _⟩
  case pos =>
    have q : ((L.length : Int) != (M.length : Int)) = false := by simp [hl]
    have HL : Hid (L.length = M.length) := hl
    clear hl
    go_enter Try.func24, Try.ntmps24
    go_wp2_with fail
    go_loopw [5] (fun i wr => ∃ (k : Nat), k ≤ L.length ∧ i = .int .i64 k ∧ Keeps w wr ∧ Hid (sameTab L M = sameTab (L.drop k) (M.drop k))) (fun i _ => L.length - (intOf i).toNat)
    case atStart => exact ⟨0, Nat.zero_le _, rfl, Keeps.refl _, rfl⟩
    case round =>
      obtain ⟨k, hk, rfl, hkw, HQ⟩ := hrel
      by_cases hlt : k < L.length
      · have hlt' : k < M.length := by rw [← HL.out]; exact hlt
        obtain ⟨b, off, cp, hv, hcell⟩ := (H1.out.keep hkw).at hlt
        injection hv with hv1 hv2 hv3
        subst hv1
        clear hv2 hv3
        obtain ⟨b', off', cp', hv, hcell'⟩ := (H2.out.keep hkw).at hlt'
        injection hv with hv1 hv2 hv3
        subst hv1
        clear hv2 hv3
        obtain ⟨c0, c1, c2, ka, kc, c3, hkv⟩ := hcell k hlt
        obtain ⟨d0, d1, d2, ka', kc', d3, hkv'⟩ := hcell' k hlt'
        clear hcell hcell'
        have HK1 : Hid (KeptAt wr (.slice ka (L[k]).kept.length kc) (L[k]).kept) := hkv
        have HK2 : Hid (KeptAt wr (.slice ka' (M[k]).kept.length kc') (M[k]).kept) := hkv'
        clear hkv hkv'
        have HR : Hid (sameTab L M = (sameSes (L[k]) (M[k]) && sameTab (L.drop (k + 1)) (M.drop (k + 1)))) := HQ.out.trans (sameTab_at hlt hlt')
        clear HQ
        generalize L[k] = s at *
        generalize M[k] = t at *
        have hne := After.some wr
        have e0 := fun x : After wr => (Below.cell x.h (p := ⟨b, off + k * 4, none⟩) (World.block_lt_of_cell? _ _ c0)).trans c0
        have e1 := fun x : After wr => (Below.cell x.h (p := ⟨b, off + k * 4 + 1, none⟩) (World.block_lt_of_cell? _ _ c1)).trans c1
        have e2 := fun x : After wr => (Below.cell x.h (p := ⟨b, off + k * 4 + 2, none⟩) (World.block_lt_of_cell? _ _ c2)).trans c2
        have e3 := fun x : After wr => (Below.cell x.h (p := ⟨b, off + k * 4 + 3, none⟩) (World.block_lt_of_cell? _ _ c3)).trans c3
        have f0 := fun x : After wr => (Below.cell x.h (p := ⟨b', off' + k * 4, none⟩) (World.block_lt_of_cell? _ _ d0)).trans d0
        have f1 := fun x : After wr => (Below.cell x.h (p := ⟨b', off' + k * 4 + 1, none⟩) (World.block_lt_of_cell? _ _ d1)).trans d1
        have f2 := fun x : After wr => (Below.cell x.h (p := ⟨b', off' + k * 4 + 2, none⟩) (World.block_lt_of_cell? _ _ d2)).trans d2
        have f3 := fun x : After wr => (Below.cell x.h (p := ⟨b', off' + k * 4 + 3, none⟩) (World.block_lt_of_cell? _ _ d3)).trans d3
        clear c0 c1 c2 c3 d0 d1 d2 d3
        cases hb : sameSes s t with
        | false =>
          have HE : Hid (sameTab L M = false) := by show _ = _; rw [HR.out, hb]; rfl
          go_wp2_with fail
          refine wp_region_after (by kernel_rfl) (by kernel_rfl) ?_
          repeat (first | go_big_quiet_skip | (go_big_quiet_want; go_big_quiet_op; first | go_big_quiet_on | (apply Exists.intro; refine ⟨fun _ => ?_, ?_⟩; (go_at_call 42; exact calls_after_keq (same_sessions s t _ _ _ (HK1.out.keep (After.h _)) (HK2.out.keep (After.h _))) (congrArg Value.bool hb)); go_big_quiet_on)))
          refine wpQuiet_nil ?_
          rintro _ ⟨x, rfl⟩
          go_wp2_with fail
          go_ret
          exact ⟨by rw [HE.out]; rfl, hkw.trans x.h⟩
        | true =>
          have HN : Hid (sameTab L M = sameTab (L.drop (k + 1)) (M.drop (k + 1))) := by show _ = _; rw [HR.out, hb]; rfl
          go_wp2_with fail
          refine wp_region_after (by kernel_rfl) (by kernel_rfl) ?_
          repeat (first | go_big_quiet_skip | (go_big_quiet_want; go_big_quiet_op; first | go_big_quiet_on | (apply Exists.intro; refine ⟨fun _ => ?_, ?_⟩; (go_at_call 42; exact calls_after_keq (same_sessions s t _ _ _ (HK1.out.keep (After.h _)) (HK2.out.keep (After.h _))) (congrArg Value.bool hb)); go_big_quiet_on)))
          refine wpQuiet_nil ?_
          rintro _ ⟨x, rfl⟩
          go_wp2_with fail
          go_roundw
          case rel => exact ⟨k + 1, by omega, by go_num, hkw.trans x.h, HN⟩
          case measure => simp [intOf]; omega
      · have HE : Hid (sameTab L M = true) := HQ.out.trans (by rw [List.drop_of_length_le (by omega), List.drop_of_length_le (by rw [← HL.out]; omega)]; rfl)
        go_wp2_with fail
        go_ret
        exact ⟨by rw [HE.out]; rfl, hkw⟩
end Go.Proofs.Yteabfjpajgakiaa
