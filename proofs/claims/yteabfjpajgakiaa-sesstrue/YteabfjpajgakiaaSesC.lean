/- sess.Check and the reference's TableError. -/
import Derived.Test.YteabfjpajgakiaaSesB
set_option linter.unusedSimpArgs false
set_option linter.unusedVariables false
namespace Go.Proofs.Yteabfjpajgakiaa
open Go.RowKit

theorem KeptsAt.len {w : World} : ∀ {L : List Ses} {ks : List Value}, KeptsAt w L ks → ks.length = L.length
  | [], [], _ => rfl
  | _ :: r, _ :: ks, h => by simp [KeptsAt.len h.2]

theorem KeptsAt.at {w : World} : ∀ {L : List Ses} {ks : List Value} (h : KeptsAt w L ks) (i : Nat) (hi : i < L.length) (hi' : i < ks.length), KeptAt w (ks[i]) (L[i]).kept
  | _ :: _, _ :: _, h, 0, _, _ => h.1
  | _ :: _, _ :: _, h, i + 1, hi, hi' => KeptsAt.at h.2 i (by simpa using hi) (by simpa using hi')

theorem sesCells_at : ∀ (L : List Ses) (ks : List Value) (i : Nat) (h : i < L.length) (h' : i < ks.length),
    (sesCells L ks)[4 * i]? = some (.int .i64 (L[i]).client) ∧ (sesCells L ks)[4 * i + 1]? = some (.int .i64 (L[i]).acked) ∧ (sesCells L ks)[4 * i + 2]? = some (.int .i64 (L[i]).seen) ∧ (sesCells L ks)[4 * i + 3]? = some (ks[i])
  | s :: r, k :: ks, 0, _, _ => ⟨rfl, rfl, rfl, rfl⟩
  | s :: r, k :: ks, i + 1, h, h' => by
    have := sesCells_at r ks i (by simpa using h) (by simpa using h')
    rw [show 4 * (i + 1) = 4 * i + 1 + 1 + 1 + 1 from by omega]
    exact ⟨by simpa [sesCells] using this.1, by simpa [sesCells] using this.2.1, by simpa [sesCells] using this.2.2.1, by simpa [sesCells] using this.2.2.2⟩

/-- The sessions of a table, in memory. -/
theorem TabAt.at {w : World} {v : Value} {L : List Ses} (h : TabAt w v L) {k : Nat} (hk : k < L.length) :
    ∃ b off cap, v = .slice (some ⟨b, off, none⟩) L.length cap ∧
      ∀ i (hi : i < L.length), w.cell? ⟨b, off + i * 4, none⟩ = some (.int .i64 (L[i]).client) ∧ w.cell? ⟨b, off + i * 4 + 1, none⟩ = some (.int .i64 (L[i]).acked) ∧
        w.cell? ⟨b, off + i * 4 + 2, none⟩ = some (.int .i64 (L[i]).seen) ∧ ∃ ka kc, w.cell? ⟨b, off + i * 4 + 3, none⟩ = some (.slice ka (L[i]).kept.length kc) ∧ KeptAt w (.slice ka (L[i]).kept.length kc) (L[i]).kept := by
  obtain ⟨ks, hks, hrow⟩ := h
  have hlen := hks.len
  obtain ⟨b, off, cap, rfl, h3⟩ := hrow.plain (by rw [hrow.1]; omega)
  refine ⟨b, off, cap, rfl, fun i hi => ?_⟩
  have hi' : i < ks.length := by rw [hlen]; exact hi
  have e := sesCells_at L ks i hi hi'
  rw [Nat.mul_comm i 4]
  have hk := hks.at i hi hi'
  obtain ⟨ka, kc, hkv, _⟩ := hk.len
  exact ⟨h3 _ _ e.1, h3 _ _ e.2.1, h3 _ _ e.2.2.1, ka, kc, hkv ▸ h3 _ _ e.2.2.2, hkv ▸ hk⟩

theorem TabAt.len {w : World} {v : Value} {L : List Ses} (h : TabAt w v L) : ∃ a cap, v = .slice a L.length cap ∧ L.length ≤ maxLen := by
  obtain ⟨ks, _, h⟩ := h
  exact h.len

def firstErr : List Ses → Int
  | [] => 0
  | s :: r => if sesErr s == 0 then firstErr r else sesErr s
def rising : List Ses → Bool
  | a :: b :: r => decide (a.client < b.client) && rising (b :: r)
  | _ => true
def tabErr (L : List Ses) : Int := if 3 < L.length then 2 else if firstErr L == 0 then (if rising L then 0 else 1) else firstErr L

theorem firstErr_at {L : List Ses} {k : Nat} (h : k < L.length) : firstErr (L.drop k) = if sesErr (L[k]) == 0 then firstErr (L.drop (k + 1)) else sesErr (L[k]) := by
  rw [List.drop_eq_getElem_cons h]; rfl
theorem rising_at {L : List Ses} {k : Nat} (h : k + 1 < L.length) : rising (L.drop k) = (decide ((L[k]).client < (L[k + 1]).client) && rising (L.drop (k + 1))) := by
  rw [List.drop_eq_getElem_cons (show k < L.length from by omega), List.drop_eq_getElem_cons h]; rfl
theorem rising_end {L : List Ses} {k : Nat} (h : L.length ≤ k + 1) : rising (L.drop k) = true := by
  by_cases hk : k < L.length
  · rw [List.drop_eq_getElem_cons hk, List.drop_of_length_le (by omega)]; rfl
  · rw [List.drop_of_length_le (by omega)]; rfl

set_option maxHeartbeats 2000000 in
theorem sess_check (L : List Ses) (v : Value) (w : World) (hT : TabAt w v L) :
    Calls Try.prog 17 #[v] w fun e w' => e = .returned (.int .i64 (tabErr L)) ∧ Keeps w w' := by
  obtain ⟨a, cap, rfl, hlen⟩ := hT.len
  unfold maxLen at hlen
  have HT : Hid (TabAt w (.slice a L.length cap) L) := hT
  clear hT
  by_cases h3 : 3 < L.length
  · have HE : Hid (tabErr L = 2) := by simp [Hid, tabErr, h3]
    go_enter Try.func17, Try.ntmps17
    go_wp2_with fail
    go_ret
    exact ⟨ret_int HE.out.symm, Keeps.refl _⟩
  · go_enter Try.func17, Try.ntmps17
    go_wp2_with fail
    go_loopw [12] (fun i wr => ∃ (k : Nat), k ≤ L.length ∧ i = .int .i64 k ∧ Keeps w wr ∧ Hid (firstErr L = firstErr (L.drop k))) (fun i _ => L.length - (intOf i).toNat)
    case atStart => exact ⟨0, Nat.zero_le _, rfl, Keeps.refl _, rfl⟩
    case round =>
      obtain ⟨k, hk, rfl, hkw, HQ⟩ := hrel
      by_cases hlt : k < L.length
      · obtain ⟨b, off, cap', hv, hcell⟩ := (HT.out.keep hkw).at hlt
        injection hv with hv1 hv2 hv3
        subst hv1
        clear hv2 hv3
        obtain ⟨c0, c1, c2, ka, kc, c3, hkv⟩ := hcell k hlt
        clear hcell
        have HKV : Hid (KeptAt wr (.slice ka (L[k]).kept.length kc) (L[k]).kept) := hkv
        clear hkv
        have HR : Hid (firstErr L = if sesErr (L[k]) == 0 then firstErr (L.drop (k + 1)) else sesErr (L[k])) := HQ.out.trans (firstErr_at hlt)
        clear HQ
        generalize L[k] = s at *
        go_wp2_with fail
        refine (check_one s _ _ (HKV.out.keep ((Keeps.refl _).alloc _))).mono ?_
        rintro e w1 ⟨rfl, hb⟩
        have hk1 : Keeps w w1 := (hkw.alloc _).trans hb
        cases he : (sesErr s == 0) with
        | false =>
          have he' : (sesErr s != 0) = true := by simp [bne, he]
          have HE : Hid (tabErr L = sesErr s) := by
            have hne : (firstErr L == 0) = false := by rw [HR.out]; simp [he]
            show _ = _
            simp only [tabErr, h3, if_false, hne, Bool.false_eq_true]
            rw [HR.out]; simp [he]
          go_wp2_with fail
          go_ret
          exact ⟨ret_int HE.out.symm, hk1⟩
        | true =>
          have he' : (sesErr s != 0) = false := by simp [bne, he]
          have HN : Hid (firstErr L = firstErr (L.drop (k + 1))) := by show _ = _; rw [HR.out]; simp [he]
          clear HR
          go_wp2_with fail
          go_roundw
          case rel => exact ⟨k + 1, by omega, by go_num, hk1, HN⟩
          case measure => simp [intOf]; omega
      · have HF : Hid (firstErr L = 0) := HQ.out.trans (by rw [List.drop_of_length_le (by omega)]; rfl)
        go_wp2_with fail
        go_loopw [6] (fun i wr2 => ∃ (j : Nat), (j = 0 ∨ j + 1 ≤ L.length) ∧ i = .int .i64 (j + 1 : Nat) ∧ Keeps w wr2 ∧ Hid (rising L = rising (L.drop j))) (fun i _ => L.length + 1 - (intOf i).toNat)
        case atStart => exact ⟨0, .inl rfl, rfl, hkw, rfl⟩
        case round =>
          obtain ⟨j, hj, rfl, hkw2, HQ2⟩ := hrel
          by_cases hlt2 : j + 1 < L.length
          · obtain ⟨b, off, cap', hv, hcell⟩ := (HT.out.keep hkw2).at hlt2
            injection hv with hv1 hv2 hv3
            subst hv1
            clear hv2 hv3
            have c0 := (hcell j (by omega)).1
            have c1 := (hcell (j + 1) hlt2).1
            clear hcell
            have HR2 : Hid (rising L = (decide ((L[j]).client < (L[j + 1]).client) && rising (L.drop (j + 1)))) := HQ2.out.trans (rising_at hlt2)
            clear HQ2
            generalize (L[j]).client = x at *
            generalize (L[j + 1]).client = y at *
            cases hd : decide (x < y) with
            | false =>
              have hd' : decide (y ≤ x) = true := by simp at hd ⊢; omega
              have HE : Hid (tabErr L = 1) := by
                show _ = _
                have hr : rising L = false := by rw [HR2.out, hd]; rfl
                simp [tabErr, h3, HF.out, hr]
              clear HR2 hd
              go_wp2_with fail
              go_quiet (fail)
              go_wp2_with fail
              go_ret
              exact ⟨ret_int HE.out.symm, hkw2.drewN _⟩
            | true =>
              have hd' : decide (y ≤ x) = false := by simp at hd ⊢; omega
              have HN : Hid (rising L = rising (L.drop (j + 1))) := by show _ = _; rw [HR2.out, hd]; rfl
              clear HR2 hd
              go_wp2_with fail
              go_quiet (fail)
              go_wp2_with fail
              go_roundw
              case rel => exact ⟨j + 1, by omega, by go_num, hkw2.drewN _, HN⟩
              case measure => simp [intOf]; omega
          · have HE : Hid (tabErr L = 0) := by
              show _ = _
              have hr : rising L = true := by rw [HQ2.out]; exact rising_end (by omega)
              simp [tabErr, h3, HF.out, hr]
            go_wp2_with fail
            go_ret
            exact ⟨ret_int HE.out.symm, hkw2⟩

set_option maxHeartbeats 2000000 in
theorem table_error (L : List Ses) (v : Value) (w : World) (hT : TabAt w v L) :
    Calls Try.prog 18 #[v] w fun e w' => e = .returned (.int .i64 (tabErr L)) ∧ Keeps w w' := by
  obtain ⟨a, cap, rfl, hlen⟩ := hT.len
  unfold maxLen at hlen
  have HT : Hid (TabAt w (.slice a L.length cap) L) := hT
  clear hT
  by_cases h3 : 3 < L.length
  · have HE : Hid (tabErr L = 2) := by simp [Hid, tabErr, h3]
    go_enter Try.func18, Try.ntmps18
    go_wp2_with fail
    go_ret
    exact ⟨ret_int HE.out.symm, Keeps.refl _⟩
  · go_enter Try.func18, Try.ntmps18
    go_wp2_with fail
    go_loopw [3] (fun i wr => ∃ (k : Nat), k ≤ L.length ∧ i = .int .i64 k ∧ Keeps w wr ∧ Hid (firstErr L = firstErr (L.drop k))) (fun i _ => L.length - (intOf i).toNat)
    case atStart => exact ⟨0, Nat.zero_le _, rfl, Keeps.refl _, rfl⟩
    case round =>
      obtain ⟨k, hk, rfl, hkw, HQ⟩ := hrel
      by_cases hlt : k < L.length
      · obtain ⟨b, off, cap', hv, hcell⟩ := (HT.out.keep hkw).at hlt
        injection hv with hv1 hv2 hv3
        subst hv1
        clear hv2 hv3
        obtain ⟨c0, c1, c2, ka, kc, c3, hkv⟩ := hcell k hlt
        clear hcell
        have HKV : Hid (KeptAt wr (.slice ka (L[k]).kept.length kc) (L[k]).kept) := hkv
        clear hkv
        have HR : Hid (firstErr L = if sesErr (L[k]) == 0 then firstErr (L.drop (k + 1)) else sesErr (L[k])) := HQ.out.trans (firstErr_at hlt)
        clear HQ
        generalize L[k] = s at *
        go_wp2_with fail
        refine (one_error s _ _ HKV.out).mono ?_
        rintro e w1 ⟨rfl, hb⟩
        have hk1 : Keeps w w1 := hkw.trans hb
        cases he : (sesErr s == 0) with
        | false =>
          have he' : (sesErr s != 0) = true := by simp [bne, he]
          have HE : Hid (tabErr L = sesErr s) := by
            have hne : (firstErr L == 0) = false := by rw [HR.out]; simp [he]
            show _ = _
            simp only [tabErr, h3, if_false, hne, Bool.false_eq_true]
            rw [HR.out]; simp [he]
          go_wp2_with fail
          go_ret
          exact ⟨ret_int HE.out.symm, hk1⟩
        | true =>
          have he' : (sesErr s != 0) = false := by simp [bne, he]
          have HN : Hid (firstErr L = firstErr (L.drop (k + 1))) := by show _ = _; rw [HR.out]; simp [he]
          clear HR
          go_wp2_with fail
          go_roundw
          case rel => exact ⟨k + 1, by omega, by go_num, hk1, HN⟩
          case measure => simp [intOf]; omega
      · have HF : Hid (firstErr L = 0) := HQ.out.trans (by rw [List.drop_of_length_le (by omega)]; rfl)
        go_wp2_with fail
        go_loopw [5] (fun i wr2 => ∃ (j : Nat), (j = 0 ∨ j + 1 ≤ L.length) ∧ i = .int .i64 (j + 1 : Nat) ∧ Keeps w wr2 ∧ Hid (rising L = rising (L.drop j))) (fun i _ => L.length + 1 - (intOf i).toNat)
        case atStart => exact ⟨0, .inl rfl, rfl, hkw, rfl⟩
        case round =>
          obtain ⟨j, hj, rfl, hkw2, HQ2⟩ := hrel
          by_cases hlt2 : j + 1 < L.length
          · obtain ⟨b, off, cap', hv, hcell⟩ := (HT.out.keep hkw2).at hlt2
            injection hv with hv1 hv2 hv3
            subst hv1
            clear hv2 hv3
            have c0 := (hcell j (by omega)).1
            have c1 := (hcell (j + 1) hlt2).1
            clear hcell
            have HR2 : Hid (rising L = (decide ((L[j]).client < (L[j + 1]).client) && rising (L.drop (j + 1)))) := HQ2.out.trans (rising_at hlt2)
            clear HQ2
            generalize (L[j]).client = x at *
            generalize (L[j + 1]).client = y at *
            cases hd : decide (x < y) with
            | false =>
              have hd' : decide (y ≤ x) = true := by simp at hd ⊢; omega
              have HE : Hid (tabErr L = 1) := by
                show _ = _
                have hr : rising L = false := by rw [HR2.out, hd]; rfl
                simp [tabErr, h3, HF.out, hr]
              clear HR2 hd
              go_wp2_with fail
              go_quiet (fail)
              go_wp2_with fail
              go_ret
              exact ⟨ret_int HE.out.symm, hkw2.drewN _⟩
            | true =>
              have hd' : decide (y ≤ x) = false := by simp at hd ⊢; omega
              have HN : Hid (rising L = rising (L.drop (j + 1))) := by show _ = _; rw [HR2.out, hd]; rfl
              clear HR2 hd
              go_wp2_with fail
              go_quiet (fail)
              go_wp2_with fail
              go_roundw
              case rel => exact ⟨j + 1, by omega, by go_num, hkw2.drewN _, HN⟩
              case measure => simp [intOf]; omega
          · have HE : Hid (tabErr L = 0) := by
              show _ = _
              have hr : rising L = true := by rw [HQ2.out]; exact rising_end (by omega)
              simp [tabErr, h3, HF.out, hr]
            go_wp2_with fail
            go_ret
            exact ⟨ret_int HE.out.symm, hkw2⟩
end Go.Proofs.Yteabfjpajgakiaa
