/- Sessions in memory: what a table reads as. -/
import Derived.Test.YteabfjpajgakiaaBndA
set_option linter.unusedSimpArgs false
set_option linter.unusedVariables false
namespace Go.Proofs.Yteabfjpajgakiaa
open Go.RowKit

/-- A session: client, acked, seen, the answers that are kept. -/
structure Ses where
  client : Int
  acked : Int
  seen : Int
  kept : List (Int × Int)

/-- The cells of the answers. -/
def repCells : List (Int × Int) → List Value
  | [] => []
  | (q, v) :: r => .int .i64 q :: .int .i64 v :: repCells r

/-- A slice value whose elements' cells are these (size cells an element, n elements): nil and other empty slices too. -/
def RowAt (w : World) (size : Nat) (v : Value) (n : Nat) (xs : List Value) : Prop :=
  xs.length = n * size ∧ n ≤ maxLen ∧ ((v = .slice none 0 0 ∧ n = 0) ∨ ∃ a cap, v = .slice (some a) n cap ∧ ∀ j u, xs[j]? = some u → w.cell? (a.add j) = some u)

def KeptAt (w : World) (v : Value) (l : List (Int × Int)) : Prop := RowAt w 2 v l.length (repCells l)

/-- The cells of sessions, the slices of answers being these values. -/
def sesCells : List Ses → List Value → List Value
  | s :: r, k :: ks => .int .i64 s.client :: .int .i64 s.acked :: .int .i64 s.seen :: k :: sesCells r ks
  | _, _ => []

/-- The slices read as what is kept. -/
def KeptsAt (w : World) : List Ses → List Value → Prop
  | [], [] => True
  | s :: r, k :: ks => KeptAt w k s.kept ∧ KeptsAt w r ks
  | _, _ => False

def TabAt (w : World) (v : Value) (L : List Ses) : Prop := ∃ ks, KeptsAt w L ks ∧ RowAt w 4 v L.length (sesCells L ks)

theorem RowAt.keep {w w' : World} {size n : Nat} {v : Value} {xs : List Value} (h : RowAt w size v n xs) (hk : Keeps w w') : RowAt w' size v n xs := by
  obtain ⟨h1, h2, h3⟩ := h
  refine ⟨h1, h2, ?_⟩
  rcases h3 with h3 | ⟨a, cap, rfl, h3⟩
  · exact .inl h3
  · refine .inr ⟨a, cap, rfl, fun j u hu => ?_⟩
    have := h3 j u hu
    exact (Below.cell hk (World.block_lt_of_cell? _ _ this)).trans this

theorem spot_none {w : World} {a : Addr} {u : Value} (h : w.cell? a = some u) : a.spot = none := by
  unfold World.cell? at h
  split at h
  · cases hs : a.spot with
    | none => rfl
    | some _ => simp [hs] at h
  · cases h

/-- Where there is an element the address is plain. -/
theorem RowAt.plain {w : World} {size n : Nat} {v : Value} {xs : List Value} (h : RowAt w size v n xs) (hx : 0 < xs.length) :
    ∃ b off cap, v = .slice (some ⟨b, off, none⟩) n cap ∧ ∀ j u, xs[j]? = some u → w.cell? ⟨b, off + j, none⟩ = some u := by
  obtain ⟨h1, h2, h3⟩ := h
  rcases h3 with ⟨_, h3⟩ | ⟨a, cap, rfl, h3⟩
  · subst h3; omega
  · have h0 := h3 0 xs[0] (by rw [List.getElem?_eq_getElem hx])
    have e : a.add 0 = a := rfl
    rw [e] at h0
    have hs := spot_none h0
    obtain ⟨b, off, sp⟩ := a
    simp only at hs
    subst hs
    exact ⟨b, off, cap, rfl, fun j u hu => by have := h3 j u hu; rwa [Addr.add_lit] at this⟩

theorem RowAt.len {w : World} {size n : Nat} {v : Value} {xs : List Value} (h : RowAt w size v n xs) : ∃ a cap, v = .slice a n cap ∧ n ≤ maxLen := by
  obtain ⟨_, h2, h3⟩ := h
  rcases h3 with ⟨rfl, rfl⟩ | ⟨a, cap, rfl, _⟩
  · exact ⟨_, _, rfl, h2⟩
  · exact ⟨_, _, rfl, h2⟩

theorem KeptAt.keep {w w' : World} {v : Value} {l : List (Int × Int)} (h : KeptAt w v l) (hk : Keeps w w') : KeptAt w' v l := RowAt.keep h hk

theorem KeptsAt.keep {w w' : World} (hk : Keeps w w') : ∀ {L : List Ses} {ks : List Value}, KeptsAt w L ks → KeptsAt w' L ks
  | [], [], _ => trivial
  | _ :: _, _ :: _, h => ⟨h.1.keep hk, KeptsAt.keep hk h.2⟩

theorem TabAt.keep {w w' : World} {v : Value} {L : List Ses} (h : TabAt w v L) (hk : Keeps w w') : TabAt w' v L := by
  obtain ⟨ks, h1, h2⟩ := h
  exact ⟨ks, h1.keep hk, h2.keep hk⟩

theorem repCells_len : ∀ l : List (Int × Int), (repCells l).length = l.length * 2
  | [] => rfl
  | (_, _) :: r => by simp [repCells, repCells_len r]; omega

theorem repCells_at : ∀ (l : List (Int × Int)) (k : Nat) (q v : Int), l[k]? = some (q, v) → (repCells l)[2 * k]? = some (.int .i64 q) ∧ (repCells l)[2 * k + 1]? = some (.int .i64 v)
  | [], k, q, v, h => by simp at h
  | (a, b) :: r, 0, q, v, h => by
    simp at h; obtain ⟨rfl, rfl⟩ := h; exact ⟨rfl, rfl⟩
  | (a, b) :: r, k + 1, q, v, h => by
    have := repCells_at r k q v (by simpa using h)
    rw [show 2 * (k + 1) = 2 * k + 1 + 1 from by omega]
    exact ⟨by simpa [repCells] using this.1, by simpa [repCells] using this.2⟩

/-- Answer number k of what is kept, in memory. -/
theorem KeptAt.at {w : World} {v : Value} {l : List (Int × Int)} (h : KeptAt w v l) {k : Nat} (hk : k < l.length) :
    ∃ b off cap, v = .slice (some ⟨b, off, none⟩) l.length cap ∧ l.length ≤ maxLen ∧
      ∀ i (hi : i < l.length), w.cell? ⟨b, off + i * 2, none⟩ = some (.int .i64 (l[i]).1) ∧ w.cell? ⟨b, off + i * 2 + 1, none⟩ = some (.int .i64 (l[i]).2) := by
  obtain ⟨b, off, cap, rfl, h3⟩ := RowAt.plain h (by rw [repCells_len]; omega)
  refine ⟨b, off, cap, rfl, h.2.1, fun i hi => ?_⟩
  have e := repCells_at l i (l[i]).1 (l[i]).2 (by rw [List.getElem?_eq_getElem hi])
  rw [Nat.mul_comm i 2]
  exact ⟨h3 _ _ e.1, h3 _ _ e.2⟩

theorem KeptAt.len {w : World} {v : Value} {l : List (Int × Int)} (h : KeptAt w v l) : ∃ a cap, v = .slice a l.length cap ∧ l.length ≤ maxLen := RowAt.len h

theorem kept_nil (w : World) : KeptAt w (.slice none 0 0) [] := ⟨rfl, by unfold maxLen; simp, .inl ⟨rfl, rfl⟩⟩

/-- The check of what is kept. -/
def keptOk (hi : Int) : Int → List (Int × Int) → Bool
  | _, [] => true
  | lo, (q, v) :: r => inB q lo hi && inB v (-1) 999 && keptOk hi (q + 1) r

def sesErr (s : Ses) : Int :=
  if !(inB s.client 1 5 && inB s.acked 0 60 && inB s.seen 0 999) then 3
  else if !keptOk (min (s.acked + 3) 60) (s.acked + 1) s.kept then 1 else 0

abbrev sesV (s : Ses) (k : Value) : Value := .agg #[.int .i64 s.client, .int .i64 s.acked, .int .i64 s.seen, k]

set_option maxHeartbeats 1000000 in
theorem check_one_range (s : Ses) (kv : Value) (w : World) (h : (inB s.client 1 5 && inB s.acked 0 60 && inB s.seen 0 999) = false) :
    Calls Try.prog 40 #[sesV s kv] w fun e w' => e = .returned (.int .i64 3) ∧ Keeps w w' := by
  go_enter Try.func40, Try.ntmps40
  go_wp2_with (first | (go_at_call 48; refine (bound_in _ _ _ _).mono ?_; rintro e w' ⟨rfl, rfl⟩))
  all_goals first | (go_ret; exact ⟨rfl, (Keeps.refl _).alloc _⟩) | (exfalso; go_tidy; simp_all; done)

theorem inB_iff {n lo hi : Int} : inB n lo hi = true ↔ lo ≤ n ∧ n ≤ hi := by simp [inB]

theorem keptOk_at {hi l : Int} {kept : List (Int × Int)} {k : Nat} (h : k < kept.length) :
    keptOk hi l (kept.drop k) = (inB (kept[k]).1 l hi && inB (kept[k]).2 (-1) 999 && keptOk hi ((kept[k]).1 + 1) (kept.drop (k + 1))) := by
  rw [List.drop_eq_getElem_cons h]; rfl
theorem sesErr_ok {s : Ses} (h1 : inB s.client 1 5 = true) (h2 : inB s.acked 0 60 = true) (h3 : inB s.seen 0 999 = true) (h : keptOk (min (s.acked + 3) 60) (s.acked + 1) s.kept = true) : sesErr s = 0 := by
  simp [sesErr, h1, h2, h3, h]
theorem sesErr_form {s : Ses} (h1 : inB s.client 1 5 = true) (h2 : inB s.acked 0 60 = true) (h3 : inB s.seen 0 999 = true) (h : keptOk (min (s.acked + 3) 60) (s.acked + 1) s.kept = false) : sesErr s = 1 := by
  simp [sesErr, h1, h2, h3, h]
theorem ret_int {k : IntKind} {a b : Int} (h : a = b) : Ending.returned (.int k a) = .returned (.int k b) := by rw [h]

set_option maxHeartbeats 1000000 in
theorem check_one_formA (s : Ses) (kv : Value) (w : World) (hk : KeptAt w kv s.kept) (h1 : inB s.client 1 5 = true) (h2 : inB s.acked 0 60 = true) (h3 : inB s.seen 0 999 = true) (hm : s.acked + 3 ≤ 60) :
    Calls Try.prog 40 #[sesV s kv] w fun e w' => e = .returned (.int .i64 (sesErr s)) ∧ Keeps w w' := by
  have ha := inB_iff.1 h2
  obtain ⟨ha0, ha1⟩ := ha
  obtain ⟨ka, kc, rfl, hlen⟩ := hk.len
  unfold maxLen at hlen
  have HK : Hid (KeptAt w (.slice ka s.kept.length kc) s.kept) := hk
  clear hk
  have hm2 : Hid (min (s.acked + 3) 60 = (s.acked + 3)) := by show min _ _ = _; omega
  go_enter Try.func40, Try.ntmps40
  go_wp2_with (first | (go_at_call 48; refine (bound_in _ _ _ _).mono ?_; rintro e w' ⟨rfl, rfl⟩))
  go_region
  go_wp2_with fail
  go_loopw [3, 33] (fun lo i wr => ∃ (k : Nat) (l : Int), k ≤ s.kept.length ∧ i = .int .i64 k ∧ lo = .int .i64 l ∧ 0 ≤ l ∧ l ≤ 100 ∧ Keeps w wr ∧ Hid (keptOk (min (s.acked + 3) 60) (s.acked + 1) s.kept = keptOk (s.acked + 3) l (s.kept.drop k))) (fun _ i _ => s.kept.length - (intOf i).toNat)
  case atStart => exact ⟨0, _, Nat.zero_le _, rfl, rfl, by omega, by omega, ((Keeps.refl _).alloc _).drew, by show _ = _; rw [hm2.out]; rfl⟩
  case round =>
    obtain ⟨k, l, hk, rfl, rfl, hl0, hl1, hkw, HQ⟩ := hrel
    by_cases hlt : k < s.kept.length
    · obtain ⟨b, off, cap, hv, _, hcell⟩ := (HK.out.keep hkw).at hlt
      have hc := hcell k hlt
      injection hv with hv1 hv2 hv3
      subst hv1
      clear hcell hv2 hv3
      obtain ⟨hc0, hc1⟩ := hc
      have HR : Hid (keptOk (min (s.acked + 3) 60) (s.acked + 1) s.kept = (inB (s.kept[k]).1 l (s.acked + 3) && inB (s.kept[k]).2 (-1) 999 && keptOk (s.acked + 3) ((s.kept[k]).1 + 1) (s.kept.drop (k + 1)))) := HQ.out.trans (keptOk_at hlt)
      generalize (s.kept[k]).1 = q at *
      generalize (s.kept[k]).2 = v at *
      cases hb1 : inB q l (s.acked + 3) with
      | false =>
        have HE : Hid (sesErr s = 1) := sesErr_form h1 h2 h3 (by rw [HR.out, hb1]; rfl)
        go_wp2_with (first | (go_at_call 48; refine (bound_in _ _ _ _).mono ?_; rintro e w' ⟨rfl, rfl⟩))
        go_ret
        exact ⟨ret_int HE.out.symm, hkw.alloc _⟩
      | true =>
        have hbq := inB_iff.1 hb1
        obtain ⟨hbq0, hbq1⟩ := hbq
        cases hb2 : inB v (-1) 999 with
        | false =>
          have HE : Hid (sesErr s = 1) := sesErr_form h1 h2 h3 (by rw [HR.out, hb1, hb2]; rfl)
          go_wp2_with (first | (go_at_call 48; refine (bound_in _ _ _ _).mono ?_; rintro e w' ⟨rfl, rfl⟩))
          go_ret
          exact ⟨ret_int HE.out.symm, hkw.alloc _⟩
        | true =>
          have HN : Hid (keptOk (min (s.acked + 3) 60) (s.acked + 1) s.kept = keptOk (s.acked + 3) (q + 1) (s.kept.drop (k + 1))) := by show _ = _; rw [HR.out, hb1, hb2]; rfl
          clear HR
          go_wp2_with (first | (go_at_call 48; refine (bound_in _ _ _ _).mono ?_; rintro e w' ⟨rfl, rfl⟩))
          go_roundw
          case rel => exact ⟨k + 1, q + 1, by omega, by go_num, rfl, by omega, by omega, hkw.alloc _, HN⟩
          case measure => simp [intOf]; omega
    · have HE : Hid (sesErr s = 0) := sesErr_ok h1 h2 h3 (by rw [HQ.out, List.drop_of_length_le (by omega)]; rfl)
      go_wp2_with fail
      go_ret
      exact ⟨ret_int HE.out.symm, hkw⟩

set_option maxHeartbeats 1000000 in
theorem check_one_formB (s : Ses) (kv : Value) (w : World) (hk : KeptAt w kv s.kept) (h1 : inB s.client 1 5 = true) (h2 : inB s.acked 0 60 = true) (h3 : inB s.seen 0 999 = true) (hm : 60 < s.acked + 3) :
    Calls Try.prog 40 #[sesV s kv] w fun e w' => e = .returned (.int .i64 (sesErr s)) ∧ Keeps w w' := by
  have ha := inB_iff.1 h2
  obtain ⟨ha0, ha1⟩ := ha
  obtain ⟨ka, kc, rfl, hlen⟩ := hk.len
  unfold maxLen at hlen
  have HK : Hid (KeptAt w (.slice ka s.kept.length kc) s.kept) := hk
  clear hk
  have hm2 : Hid (min (s.acked + 3) 60 = 60) := by show min _ _ = _; omega
  go_enter Try.func40, Try.ntmps40
  go_wp2_with (first | (go_at_call 48; refine (bound_in _ _ _ _).mono ?_; rintro e w' ⟨rfl, rfl⟩))
  go_region
  go_wp2_with fail
  go_loopw [3, 33] (fun lo i wr => ∃ (k : Nat) (l : Int), k ≤ s.kept.length ∧ i = .int .i64 k ∧ lo = .int .i64 l ∧ 0 ≤ l ∧ l ≤ 100 ∧ Keeps w wr ∧ Hid (keptOk (min (s.acked + 3) 60) (s.acked + 1) s.kept = keptOk 60 l (s.kept.drop k))) (fun _ i _ => s.kept.length - (intOf i).toNat)
  case atStart => exact ⟨0, _, Nat.zero_le _, rfl, rfl, by omega, by omega, ((Keeps.refl _).alloc _).drew, by show _ = _; rw [hm2.out]; rfl⟩
  case round =>
    obtain ⟨k, l, hk, rfl, rfl, hl0, hl1, hkw, HQ⟩ := hrel
    by_cases hlt : k < s.kept.length
    · obtain ⟨b, off, cap, hv, _, hcell⟩ := (HK.out.keep hkw).at hlt
      have hc := hcell k hlt
      injection hv with hv1 hv2 hv3
      subst hv1
      clear hcell hv2 hv3
      obtain ⟨hc0, hc1⟩ := hc
      have HR : Hid (keptOk (min (s.acked + 3) 60) (s.acked + 1) s.kept = (inB (s.kept[k]).1 l 60 && inB (s.kept[k]).2 (-1) 999 && keptOk 60 ((s.kept[k]).1 + 1) (s.kept.drop (k + 1)))) := HQ.out.trans (keptOk_at hlt)
      generalize (s.kept[k]).1 = q at *
      generalize (s.kept[k]).2 = v at *
      cases hb1 : inB q l 60 with
      | false =>
        have HE : Hid (sesErr s = 1) := sesErr_form h1 h2 h3 (by rw [HR.out, hb1]; rfl)
        go_wp2_with (first | (go_at_call 48; refine (bound_in _ _ _ _).mono ?_; rintro e w' ⟨rfl, rfl⟩))
        go_ret
        exact ⟨ret_int HE.out.symm, hkw.alloc _⟩
      | true =>
        have hbq := inB_iff.1 hb1
        obtain ⟨hbq0, hbq1⟩ := hbq
        cases hb2 : inB v (-1) 999 with
        | false =>
          have HE : Hid (sesErr s = 1) := sesErr_form h1 h2 h3 (by rw [HR.out, hb1, hb2]; rfl)
          go_wp2_with (first | (go_at_call 48; refine (bound_in _ _ _ _).mono ?_; rintro e w' ⟨rfl, rfl⟩))
          go_ret
          exact ⟨ret_int HE.out.symm, hkw.alloc _⟩
        | true =>
          have HN : Hid (keptOk (min (s.acked + 3) 60) (s.acked + 1) s.kept = keptOk 60 (q + 1) (s.kept.drop (k + 1))) := by show _ = _; rw [HR.out, hb1, hb2]; rfl
          clear HR
          go_wp2_with (first | (go_at_call 48; refine (bound_in _ _ _ _).mono ?_; rintro e w' ⟨rfl, rfl⟩))
          go_roundw
          case rel => exact ⟨k + 1, q + 1, by omega, by go_num, rfl, by omega, by omega, hkw.alloc _, HN⟩
          case measure => simp [intOf]; omega
    · have HE : Hid (sesErr s = 0) := sesErr_ok h1 h2 h3 (by rw [HQ.out, List.drop_of_length_le (by omega)]; rfl)
      go_wp2_with fail
      go_ret
      exact ⟨ret_int HE.out.symm, hkw⟩

/-- sess.checkOne. -/
theorem check_one (s : Ses) (kv : Value) (w : World) (hk : KeptAt w kv s.kept) :
    Calls Try.prog 40 #[sesV s kv] w fun e w' => e = .returned (.int .i64 (sesErr s)) ∧ Keeps w w' := by
  cases h : (inB s.client 1 5 && inB s.acked 0 60 && inB s.seen 0 999) with
  | false =>
    rw [show sesErr s = 3 from by simp [sesErr, h]]
    exact check_one_range s kv w h
  | true =>
    simp only [Bool.and_eq_true] at h
    by_cases hm : s.acked + 3 ≤ 60
    · exact check_one_formA s kv w hk h.1.1 h.1.2 h.2 hm
    · exact check_one_formB s kv w hk h.1.1 h.1.2 h.2 (by omega)
end Go.Proofs.Yteabfjpajgakiaa
