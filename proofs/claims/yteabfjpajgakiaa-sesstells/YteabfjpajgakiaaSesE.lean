/- sess.Find and the reference's FindOf. -/
import Derived.Test.YteabfjpajgakiaaSesD
set_option linter.unusedSimpArgs false
set_option linter.unusedVariables false
namespace Go.Proofs.Yteabfjpajgakiaa
open Go.RowKit

theorem keptOk_len (hi : Int) : ∀ (l : List (Int × Int)) (lo : Int), keptOk hi lo l = true → (l.length : Int) ≤ max 0 (hi + 1 - lo)
  | [], lo, _ => by simp; omega
  | (q, v) :: r, lo, h => by
    simp only [keptOk, Bool.and_eq_true] at h
    have h1 := inB_iff.1 h.1.1
    have := keptOk_len hi r (q + 1) h.2
    simp only [List.length_cons]
    omega

/-- What a right session has. -/
theorem ses_right {s : Ses} (h : sesErr s = 0) : inB s.client 1 5 = true ∧ inB s.acked 0 60 = true ∧ inB s.seen 0 999 = true ∧ keptOk (min (s.acked + 3) 60) (s.acked + 1) s.kept = true := by
  unfold sesErr at h
  split at h
  · cases h
  · rename_i h1
    split at h
    · cases h
    · rename_i h2
      simp only [Bool.not_eq_true', Bool.and_eq_false_iff, not_or, Bool.not_eq_false] at h1 h2
      exact ⟨h1.1.1, h1.1.2, h1.2, h2⟩
theorem kept_le {s : Ses} (h : sesErr s = 0) : s.kept.length ≤ 3 := by
  have := keptOk_len _ _ _ (ses_right h).2.2.2
  omega

theorem firstErr_zero : ∀ {L : List Ses}, firstErr L = 0 → ∀ s ∈ L, sesErr s = 0
  | [], _, s, hs => by cases hs
  | a :: r, h, s, hs => by
    unfold firstErr at h
    cases e : (sesErr a == 0) with
    | false => rw [e] at h; simp at h; simp [h] at e
    | true =>
      rw [e] at h
      simp only [if_true] at h
      rcases List.mem_cons.1 hs with rfl | hs
      · simpa using e
      · exact firstErr_zero h s hs

/-- What a right table has. -/
theorem tab_right {L : List Ses} (h : tabErr L = 0) : L.length ≤ 3 ∧ (∀ s ∈ L, sesErr s = 0) ∧ rising L = true := by
  unfold tabErr at h
  split at h
  · cases h
  · rename_i h3
    split at h
    · rename_i hf
      split at h
      · rename_i hr
        exact ⟨by omega, firstErr_zero (by simpa using hf), hr⟩
      · cases h
    · rename_i hf
      simp only [beq_iff_eq] at hf
      exact absurd h hf

def zeroSes : Ses := ⟨0, 0, 0, []⟩
def findSes (L : List Ses) (c : Int) : Option Ses := L.find? (fun s => s.client == c)
/-- Find's answer: the session, whether it is there, the error. -/
def fndSes (L : List Ses) (c : Int) : Ses := if tabErr L == 0 then (findSes L c).getD zeroSes else zeroSes
def fndIs (L : List Ses) (c : Int) : Bool := if tabErr L == 0 then (findSes L c).isSome else false

theorem findSes_at {L : List Ses} {c : Int} {k : Nat} (h : k < L.length) : findSes (L.drop k) c = if (L[k]).client == c then some (L[k]) else findSes (L.drop (k + 1)) c := by
  rw [List.drop_eq_getElem_cons h]
  simp only [findSes, List.find?_cons]
  cases ((L[k]).client == c) <;> rfl


set_option maxHeartbeats 1000000 in
theorem find_err (L : List Ses) (v : Value) (c : Int) (w : World) (hT : TabAt w v L) (he : (tabErr L == 0) = false) :
    Calls Try.prog 14 #[v, .int .i64 c] w fun e w' => e = .returned (.tuple #[sesV zeroSes (.slice none 0 0), .bool false, .int .i64 (tabErr L)]) ∧ Keeps w w' := by
  have he' : (tabErr L != 0) = true := by simp [bne, he]
  have hT0 := hT.keep ((Keeps.refl w).alloc (.cells #[.int .i64 0, .int .i64 0, .int .i64 0, .slice none 0 0] 34))
  have HT : Hid (TabAt _ v L) := hT0
  clear hT hT0
  go_enter Try.func14, Try.ntmps14
  go_wp2_with fail
  refine (sess_check L v _ HT.out).mono ?_
  rintro e w1 ⟨rfl, hb⟩
  have hk1 : Keeps w w1 := ((Keeps.refl _).alloc _).trans hb
  obtain ⟨hc, hf⟩ := hb.cells
  have hz := hb.size
  simp only [World.size_alloc] at hc hf hz
  have hz1 : w.heap.size < w1.heap.size := by omega
  go_wp2_with fail
  refine bodyPost_ret (v := .tuple #[sesV zeroSes (.slice none 0 0), .bool false, .int .i64 (tabErr L)]) ?_ rfl ?_
  · simp [results, Try.results14, go_sem, hc, zeroSes]
  · refine ⟨rfl, ?_⟩
    repeat refine Keeps.set ?_ (by simp <;> omega) _
    exact hk1

set_option maxHeartbeats 2000000 in
theorem find_ok (L : List Ses) (v : Value) (c : Int) (w : World) (hT : TabAt w v L) (he : (tabErr L == 0) = true) :
    Calls Try.prog 14 #[v, .int .i64 c] w fun e w' => ∃ kv, KeptAt w' kv ((findSes L c).getD zeroSes).kept ∧ e = .returned (.tuple #[sesV ((findSes L c).getD zeroSes) kv, .bool (findSes L c).isSome, .int .i64 0]) ∧ Keeps w w' := by
  have he' : (tabErr L != 0) = false := by simp [bne, he]
  have he0 : tabErr L = 0 := by simpa using he
  have hR := tab_right he0
  obtain ⟨h3, hall, _⟩ := hR
  have HALL : Hid (∀ s ∈ L, sesErr s = 0) := hall
  clear hall
  obtain ⟨a, cap, rfl, hlen⟩ := hT.len
  unfold maxLen at hlen
  have hT0 := hT.keep ((Keeps.refl w).alloc (.cells #[.int .i64 0, .int .i64 0, .int .i64 0, .slice none 0 0] 34))
  have HT : Hid (TabAt (w.alloc (.cells #[.int .i64 0, .int .i64 0, .int .i64 0, .slice none 0 0] 34)) (.slice a L.length cap) L) := hT0
  clear hT hT0
  go_enter Try.func14, Try.ntmps14
  go_wp2_with fail
  refine (sess_check L _ _ HT.out).mono ?_
  rintro e w1 ⟨rfl, hb1⟩
  have HB1 : Hid (Keeps (w.alloc (.cells #[.int .i64 0, .int .i64 0, .int .i64 0, .slice none 0 0] 34)) w1) := hb1
  clear hb1
  go_wp2_with fail
  go_loopw [18] (fun i wr => ∃ (k : Nat), k ≤ L.length ∧ i = .int .i64 k ∧ Hid (Keeps (w.alloc (.cells #[.int .i64 0, .int .i64 0, .int .i64 0, .slice none 0 0] 34)) wr) ∧ Hid (findSes L c = findSes (L.drop k) c)) (fun i _ => L.length - (intOf i).toNat)
  case atStart => exact ⟨0, Nat.zero_le _, rfl, HB1, rfl⟩
  case round =>
    obtain ⟨k, hk, rfl, HKW, HQ⟩ := hrel
    have hz : w.heap.size < wr.heap.size := by have := HKW.out.size; simp at this; omega
    by_cases hlt : k < L.length
    · obtain ⟨b, off, cap', hv, hcell⟩ := (HT.out.keep HKW.out).at hlt
      injection hv with hv1 hv2 hv3
      subst hv1
      clear hv2 hv3
      obtain ⟨c0, c1, c2, ka, kc, c3, hkv⟩ := hcell k hlt
      clear hcell
      have HKV : Hid (KeptAt wr (.slice ka (L[k]).kept.length kc) (L[k]).kept) := hkv
      clear hkv
      have HR : Hid (findSes L c = if (L[k]).client == c then some (L[k]) else findSes (L.drop (k + 1)) c) := HQ.out.trans (findSes_at hlt)
      have hn3 : (L[k]).kept.length ≤ 3 := kept_le (HALL.out _ (List.getElem_mem hlt))
      clear HQ
      generalize L[k] = s at *
      cases hq : (s.client == c) with
      | true =>
        have HN : Hid (findSes L c = some s) := by show _ = _; rw [HR.out, hq]; rfl
        go_wp2_with fail
        refine (twin_c s _ _ (HKV.out.keep ((Keeps.refl _).alloc _)) hn3).mono ?_
        rintro e w2 ⟨kv', ho, rfl, hb2⟩
        obtain ⟨va, vc, rfl⟩ : ∃ va vc, kv' = .slice va s.kept.length vc := by obtain ⟨x, y, h, _⟩ := (RowAt.of_owns ho).len; exact ⟨x, y, h⟩
        have hkZ : Keeps (w.alloc (.cells #[.int .i64 0, .int .i64 0, .int .i64 0, .slice none 0 0] 34)) w2 := (HKW.out.alloc _).trans hb2
        have hk2 : Keeps w w2 := ((Keeps.refl _).alloc _).trans hkZ
        obtain ⟨hc, hf⟩ := hkZ.cells
        simp only [World.size_alloc] at hc hf ho
        have hz2 : w.heap.size < w2.heap.size := by have := hkZ.size; simp at this; omega
        clear hb2 hkZ
        go_wp2_with fail
        refine bodyPost_ret (v := .tuple #[sesV s (.slice va s.kept.length vc), .bool true, .int .i64 0]) ?_ rfl ?_
        · simp [results, Try.results14, go_sem, hc]
        · rw [HN.out]
          refine ⟨.slice va s.kept.length vc, ?_, rfl, ?_⟩
          · refine RowAt.of_owns (base := wr.heap.size + 1) (e := 61) ?_
            repeat refine ownsRow_setCell_below ?_ (by simp <;> omega) _
            exact ho
          · repeat refine Keeps.set ?_ (by simp <;> omega) _
            exact hk2
      | false =>
        have HN : Hid (findSes L c = findSes (L.drop (k + 1)) c) := by show _ = _; rw [HR.out, hq]; rfl
        go_wp2_with fail
        go_roundw
        case rel => exact ⟨k + 1, by omega, by go_num, HKW.out.alloc _, HN⟩
        case measure => simp [intOf]; omega
    · have HN : Hid (findSes L c = none) := HQ.out.trans (by rw [List.drop_of_length_le (by omega)]; rfl)
      have hk2 : Keeps w wr := ((Keeps.refl _).alloc _).trans HKW.out
      obtain ⟨hc, hf⟩ := HKW.out.cells
      simp only [World.size_alloc] at hc hf
      go_wp2_with fail
      refine bodyPost_ret (v := .tuple #[sesV zeroSes (.slice none 0 0), .bool false, .int .i64 0]) ?_ rfl ?_
      · simp [results, Try.results14, go_sem, hc, zeroSes]
      · rw [HN.out]
        refine ⟨.slice none 0 0, kept_nil _, rfl, ?_⟩
        repeat refine Keeps.set ?_ (by simp <;> omega) _
        exact hk2
end Go.Proofs.Yteabfjpajgakiaa
