/- SesC, OpenSes, SesR, Eq, SesG, StA, OpenSt, StF. -/
import Derived.Deep.SlicePairs
import Derived.Test.YteabfjpajgakiabJ00
/- sess.Check and the reference's TableError. -/
set_option linter.unusedSimpArgs false
set_option linter.unusedVariables false
namespace Go.Proofs.Yteabfjpajgakiab
open Go.RowKit

theorem KeptsAt.len {w : World} : ∀ {L : List Ses} {ks : List Value}, KeptsAt w L ks → ks.length = L.length
  | [], [], _ => rfl
  | _ :: r, _ :: ks, h => by simp [KeptsAt.len h.2]

theorem KeptsAt.at {w : World} : ∀ {L : List Ses} {ks : List Value} (h : KeptsAt w L ks) (i : Nat) (hi : i < L.length) (hi' : i < ks.length), KeptAt w (ks[i]) (L[i]).kept
  | _ :: _, _ :: _, h, 0, _, _ => h.1
  | _ :: _, _ :: _, h, i + 1, hi, hi' => KeptsAt.at h.2 i (by simpa using hi) (by simpa using hi')

theorem sesCells_at : ∀ (L : List Ses) (ks : List Value) (i : Nat) (h : i < L.length) (h' : i < ks.length),
    (sesCells L ks)[4 * i]? = some (.int .i64 (L[i]).client) ∧ (sesCells L ks)[4 * i + 1]? = some (.int .i64 (L[i]).acked) ∧ (sesCells L ks)[4 * i + 2]? = some (.int .i64 (L[i]).seen) ∧ (sesCells L ks)[4 * i + 3]? = some (ks[i])
  | s :: r, k :: ks, 0, _, _ => ⟨rfl, rfl, rfl, rfl⟩
  | s :: r, k :: ks, i + 1, h, h' => by
    have := sesCells_at r ks i (by simpa using h) (by simpa using h')
    rw [show 4 * (i + 1) = 4 * i + 1 + 1 + 1 + 1 from by omega]
    exact ⟨by simpa [sesCells] using this.1, by simpa [sesCells] using this.2.1, by simpa [sesCells] using this.2.2.1, by simpa [sesCells] using this.2.2.2⟩

/-- The sessions of a table, in memory. -/
theorem TabAt.at {w : World} {v : Value} {L : List Ses} (h : TabAt w v L) {k : Nat} (hk : k < L.length) :
    ∃ b off cap, v = .slice (some ⟨b, off, none⟩) L.length cap ∧
      ∀ i (hi : i < L.length), w.cell? ⟨b, off + i * 4, none⟩ = some (.int .i64 (L[i]).client) ∧ w.cell? ⟨b, off + i * 4 + 1, none⟩ = some (.int .i64 (L[i]).acked) ∧
        w.cell? ⟨b, off + i * 4 + 2, none⟩ = some (.int .i64 (L[i]).seen) ∧ ∃ ka kc, w.cell? ⟨b, off + i * 4 + 3, none⟩ = some (.slice ka (L[i]).kept.length kc) ∧ KeptAt w (.slice ka (L[i]).kept.length kc) (L[i]).kept := by
  obtain ⟨ks, hks, hrow⟩ := h
  have hlen := hks.len
  obtain ⟨b, off, cap, rfl, h3⟩ := hrow.plain (by rw [hrow.1]; omega)
  refine ⟨b, off, cap, rfl, fun i hi => ?_⟩
  have hi' : i < ks.length := by rw [hlen]; exact hi
  have e := sesCells_at L ks i hi hi'
  rw [Nat.mul_comm i 4]
  have hk := hks.at i hi hi'
  obtain ⟨ka, kc, hkv, _⟩ := hk.len
  exact ⟨h3 _ _ e.1, h3 _ _ e.2.1, h3 _ _ e.2.2.1, ka, kc, hkv ▸ h3 _ _ e.2.2.2, hkv ▸ hk⟩

theorem TabAt.len {w : World} {v : Value} {L : List Ses} (h : TabAt w v L) : ∃ a cap, v = .slice a L.length cap ∧ L.length ≤ maxLen := by
  obtain ⟨ks, _, h⟩ := h
  exact h.len

def firstErr : List Ses → Int
  | [] => 0
  | s :: r => if sesErr s == 0 then firstErr r else sesErr s
def rising : List Ses → Bool
  | a :: b :: r => decide (a.client < b.client) && rising (b :: r)
  | _ => true
def tabErr (L : List Ses) : Int := if 3 < L.length then 2 else if firstErr L == 0 then (if rising L then 0 else 1) else firstErr L

theorem firstErr_at {L : List Ses} {k : Nat} (h : k < L.length) : firstErr (L.drop k) = if sesErr (L[k]) == 0 then firstErr (L.drop (k + 1)) else sesErr (L[k]) := by
  rw [List.drop_eq_getElem_cons h]; rfl
theorem rising_at {L : List Ses} {k : Nat} (h : k + 1 < L.length) : rising (L.drop k) = (decide ((L[k]).client < (L[k + 1]).client) && rising (L.drop (k + 1))) := by
  rw [List.drop_eq_getElem_cons (show k < L.length from by omega), List.drop_eq_getElem_cons h]; rfl
theorem rising_end {L : List Ses} {k : Nat} (h : L.length ≤ k + 1) : rising (L.drop k) = true := by
  by_cases hk : k < L.length
  · rw [List.drop_eq_getElem_cons hk, List.drop_of_length_le (by omega)]; rfl
  · rw [List.drop_of_length_le (by omega)]; rfl

set_option maxHeartbeats 2000000 in
theorem sess_check (L : List Ses) (v : Value) (w : World) (hT : TabAt w v L) :
    Calls Try.prog 25 #[v] w fun e w' => e = .returned (.int .i64 (tabErr L)) ∧ Keeps w w' := by
  obtain ⟨a, cap, rfl, hlen⟩ := hT.len
  unfold maxLen at hlen
  have HT : Hid (TabAt w (.slice a L.length cap) L) := hT
  clear hT
  by_cases h3 : 3 < L.length
  · have HE : Hid (tabErr L = 2) := by simp [Hid, tabErr, h3]
    go_enter Try.func25, Try.ntmps25
    go_wp2_with fail
    go_ret
    exact ⟨ret_int HE.out.symm, Keeps.refl _⟩
  · go_enter Try.func25, Try.ntmps25
    go_wp2_with fail
    go_loopw [12] (fun i wr => ∃ (k : Nat), k ≤ L.length ∧ i = .int .i64 k ∧ Keeps w wr ∧ Hid (firstErr L = firstErr (L.drop k))) (fun i _ => L.length - (intOf i).toNat)
    case atStart => exact ⟨0, Nat.zero_le _, rfl, Keeps.refl _, rfl⟩
    case round =>
      obtain ⟨k, hk, rfl, hkw, HQ⟩ := hrel
      by_cases hlt : k < L.length
      · obtain ⟨b, off, cap', hv, hcell⟩ := (HT.out.keep hkw).at hlt
        injection hv with hv1 hv2 hv3
        subst hv1
        clear hv2 hv3
        obtain ⟨c0, c1, c2, ka, kc, c3, hkv⟩ := hcell k hlt
        clear hcell
        have HKV : Hid (KeptAt wr (.slice ka (L[k]).kept.length kc) (L[k]).kept) := hkv
        clear hkv
        have HR : Hid (firstErr L = if sesErr (L[k]) == 0 then firstErr (L.drop (k + 1)) else sesErr (L[k])) := HQ.out.trans (firstErr_at hlt)
        clear HQ
        generalize L[k] = s at *
        go_wp2_with fail
        refine (check_one s _ _ (HKV.out.keep ((Keeps.refl _).alloc _))).mono ?_
        rintro e w1 ⟨rfl, hb⟩
        have hk1 : Keeps w w1 := (hkw.alloc _).trans hb
        cases he : (sesErr s == 0) with
        | false =>
          have he' : (sesErr s != 0) = true := by simp [bne, he]
          have HE : Hid (tabErr L = sesErr s) := by
            have hne : (firstErr L == 0) = false := by rw [HR.out]; simp [he]
            show _ = _
            simp only [tabErr, h3, if_false, hne, Bool.false_eq_true]
            rw [HR.out]; simp [he]
          go_wp2_with fail
          go_ret
          exact ⟨ret_int HE.out.symm, hk1⟩
        | true =>
          have he' : (sesErr s != 0) = false := by simp [bne, he]
          have HN : Hid (firstErr L = firstErr (L.drop (k + 1))) := by show _ = _; rw [HR.out]; simp [he]
          clear HR
          go_wp2_with fail
          go_roundw
          case rel => exact ⟨k + 1, by omega, by go_num, hk1, HN⟩
          case measure => simp [intOf]; omega
      · have HF : Hid (firstErr L = 0) := HQ.out.trans (by rw [List.drop_of_length_le (by omega)]; rfl)
        go_wp2_with fail
        go_loopw [6] (fun i wr2 => ∃ (j : Nat), (j = 0 ∨ j + 1 ≤ L.length) ∧ i = .int .i64 (j + 1 : Nat) ∧ Keeps w wr2 ∧ Hid (rising L = rising (L.drop j))) (fun i _ => L.length + 1 - (intOf i).toNat)
        case atStart => exact ⟨0, .inl rfl, rfl, hkw, rfl⟩
        case round =>
          obtain ⟨j, hj, rfl, hkw2, HQ2⟩ := hrel
          by_cases hlt2 : j + 1 < L.length
          · obtain ⟨b, off, cap', hv, hcell⟩ := (HT.out.keep hkw2).at hlt2
            injection hv with hv1 hv2 hv3
            subst hv1
            clear hv2 hv3
            have c0 := (hcell j (by omega)).1
            have c1 := (hcell (j + 1) hlt2).1
            clear hcell
            have HR2 : Hid (rising L = (decide ((L[j]).client < (L[j + 1]).client) && rising (L.drop (j + 1)))) := HQ2.out.trans (rising_at hlt2)
            clear HQ2
            generalize (L[j]).client = x at *
            generalize (L[j + 1]).client = y at *
            cases hd : decide (x < y) with
            | false =>
              have hd' : decide (y ≤ x) = true := by simp at hd ⊢; omega
              have HE : Hid (tabErr L = 1) := by
                show _ = _
                have hr : rising L = false := by rw [HR2.out, hd]; rfl
                simp [tabErr, h3, HF.out, hr]
              clear HR2 hd
              go_wp2_with fail
              go_quiet (fail)
              go_wp2_with fail
              go_ret
              exact ⟨ret_int HE.out.symm, hkw2.drewN _⟩
            | true =>
              have hd' : decide (y ≤ x) = false := by simp at hd ⊢; omega
              have HN : Hid (rising L = rising (L.drop (j + 1))) := by show _ = _; rw [HR2.out, hd]; rfl
              clear HR2 hd
              go_wp2_with fail
              go_quiet (fail)
              go_wp2_with fail
              go_roundw
              case rel => exact ⟨j + 1, by omega, by go_num, hkw2.drewN _, HN⟩
              case measure => simp [intOf]; omega
          · have HE : Hid (tabErr L = 0) := by
              show _ = _
              have hr : rising L = true := by rw [HQ2.out]; exact rising_end (by omega)
              simp [tabErr, h3, HF.out, hr]
            go_wp2_with fail
            go_ret
            exact ⟨ret_int HE.out.symm, hkw2⟩

set_option maxHeartbeats 2000000 in
theorem table_error (L : List Ses) (v : Value) (w : World) (hT : TabAt w v L) :
    Calls Try.prog 29 #[v] w fun e w' => e = .returned (.int .i64 (tabErr L)) ∧ Keeps w w' := by
  obtain ⟨a, cap, rfl, hlen⟩ := hT.len
  unfold maxLen at hlen
  have HT : Hid (TabAt w (.slice a L.length cap) L) := hT
  clear hT
  by_cases h3 : 3 < L.length
  · have HE : Hid (tabErr L = 2) := by simp [Hid, tabErr, h3]
    go_enter Try.func29, Try.ntmps29
    go_wp2_with fail
    go_ret
    exact ⟨ret_int HE.out.symm, Keeps.refl _⟩
  · go_enter Try.func29, Try.ntmps29
    go_wp2_with fail
    go_loopw [3] (fun i wr => ∃ (k : Nat), k ≤ L.length ∧ i = .int .i64 k ∧ Keeps w wr ∧ Hid (firstErr L = firstErr (L.drop k))) (fun i _ => L.length - (intOf i).toNat)
    case atStart => exact ⟨0, Nat.zero_le _, rfl, Keeps.refl _, rfl⟩
    case round =>
      obtain ⟨k, hk, rfl, hkw, HQ⟩ := hrel
      by_cases hlt : k < L.length
      · obtain ⟨b, off, cap', hv, hcell⟩ := (HT.out.keep hkw).at hlt
        injection hv with hv1 hv2 hv3
        subst hv1
        clear hv2 hv3
        obtain ⟨c0, c1, c2, ka, kc, c3, hkv⟩ := hcell k hlt
        clear hcell
        have HKV : Hid (KeptAt wr (.slice ka (L[k]).kept.length kc) (L[k]).kept) := hkv
        clear hkv
        have HR : Hid (firstErr L = if sesErr (L[k]) == 0 then firstErr (L.drop (k + 1)) else sesErr (L[k])) := HQ.out.trans (firstErr_at hlt)
        clear HQ
        generalize L[k] = s at *
        go_wp2_with fail
        refine (one_error s _ _ HKV.out).mono ?_
        rintro e w1 ⟨rfl, hb⟩
        have hk1 : Keeps w w1 := hkw.trans hb
        cases he : (sesErr s == 0) with
        | false =>
          have he' : (sesErr s != 0) = true := by simp [bne, he]
          have HE : Hid (tabErr L = sesErr s) := by
            have hne : (firstErr L == 0) = false := by rw [HR.out]; simp [he]
            show _ = _
            simp only [tabErr, h3, if_false, hne, Bool.false_eq_true]
            rw [HR.out]; simp [he]
          go_wp2_with fail
          go_ret
          exact ⟨ret_int HE.out.symm, hk1⟩
        | true =>
          have he' : (sesErr s != 0) = false := by simp [bne, he]
          have HN : Hid (firstErr L = firstErr (L.drop (k + 1))) := by show _ = _; rw [HR.out]; simp [he]
          clear HR
          go_wp2_with fail
          go_roundw
          case rel => exact ⟨k + 1, by omega, by go_num, hk1, HN⟩
          case measure => simp [intOf]; omega
      · have HF : Hid (firstErr L = 0) := HQ.out.trans (by rw [List.drop_of_length_le (by omega)]; rfl)
        go_wp2_with fail
        go_loopw [5] (fun i wr2 => ∃ (j : Nat), (j = 0 ∨ j + 1 ≤ L.length) ∧ i = .int .i64 (j + 1 : Nat) ∧ Keeps w wr2 ∧ Hid (rising L = rising (L.drop j))) (fun i _ => L.length + 1 - (intOf i).toNat)
        case atStart => exact ⟨0, .inl rfl, rfl, hkw, rfl⟩
        case round =>
          obtain ⟨j, hj, rfl, hkw2, HQ2⟩ := hrel
          by_cases hlt2 : j + 1 < L.length
          · obtain ⟨b, off, cap', hv, hcell⟩ := (HT.out.keep hkw2).at hlt2
            injection hv with hv1 hv2 hv3
            subst hv1
            clear hv2 hv3
            have c0 := (hcell j (by omega)).1
            have c1 := (hcell (j + 1) hlt2).1
            clear hcell
            have HR2 : Hid (rising L = (decide ((L[j]).client < (L[j + 1]).client) && rising (L.drop (j + 1)))) := HQ2.out.trans (rising_at hlt2)
            clear HQ2
            generalize (L[j]).client = x at *
            generalize (L[j + 1]).client = y at *
            cases hd : decide (x < y) with
            | false =>
              have hd' : decide (y ≤ x) = true := by simp at hd ⊢; omega
              have HE : Hid (tabErr L = 1) := by
                show _ = _
                have hr : rising L = false := by rw [HR2.out, hd]; rfl
                simp [tabErr, h3, HF.out, hr]
              clear HR2 hd
              go_wp2_with fail
              go_quiet (fail)
              go_wp2_with fail
              go_ret
              exact ⟨ret_int HE.out.symm, hkw2.drewN _⟩
            | true =>
              have hd' : decide (y ≤ x) = false := by simp at hd ⊢; omega
              have HN : Hid (rising L = rising (L.drop (j + 1))) := by show _ = _; rw [HR2.out, hd]; rfl
              clear HR2 hd
              go_wp2_with fail
              go_quiet (fail)
              go_wp2_with fail
              go_roundw
              case rel => exact ⟨j + 1, by omega, by go_num, hkw2.drewN _, HN⟩
              case measure => simp [intOf]; omega
          · have HE : Hid (tabErr L = 0) := by
              show _ = _
              have hr : rising L = true := by rw [HQ2.out]; exact rising_end (by omega)
              simp [tabErr, h3, HF.out, hr]
            go_wp2_with fail
            go_ret
            exact ⟨ret_int HE.out.symm, hkw2⟩
end Go.Proofs.Yteabfjpajgakiab

/- The arguments of a law: a table of sessions, a session. -/
set_option linter.unusedSimpArgs false
set_option linter.unusedVariables false
set_option maxRecDepth 100000
namespace Go.Proofs.Yteabfjpajgakiab
open Go.ChangeShapes Go.WideShapes Go.ChangeAt Go.RowKit Go.Joins Go.Deep

section
variable {H : Type} {enc : TypeId × Value → H} {w : World} {base : Nat} {spare : Nat → Bool} {held : Bool}

theorem cells34 : Try.prog.cellsOf 48 = 4 := by kernel_rfl
theorem cells61 : Try.prog.cellsOf 78 = 2 := by kernel_rfl
theorem cells32 : Try.prog.cellsOf 46 = 1 := by kernel_rfl

instance : Inhabited Ses := ⟨⟨0, 0, 0, []⟩⟩

/-- The answers kept. -/
theorem open_kept {n : Nat} {v : Value} {y : DataW H × List MemPlace} (h : DataW.trod enc Try.prog w base spare held n 46 [v] = some y) : ∃ l, KeptAt w v l := by
  rcases open_slice_pairs Try.underlying46 Try.underlying78 cells61 rfl rfl cells3 cells3 h with ⟨h0, _⟩ | ⟨a, len, cap, m, k, V0, V1, D0, D1, P0, P1, hv, _, hl, hm, hmm, _, hx⟩
  · obtain rfl : v = .slice none 0 0 := by simpa using h0
    exact ⟨[], kept_nil w⟩
  · obtain rfl : v = .slice (some a) len cap := by simpa using hv
    have hlm : len ≤ m := by rw [hmm]; split <;> omega
    refine ⟨(List.range len).map fun i => (intOf (V0 i), intOf (V1 i)), repCells_len _, by simp; omega, .inr ⟨a, cap, by simp, fun j u hu => ?_⟩⟩
    have hj : j < len * 2 := by
      have := (List.getElem?_eq_some_iff.1 hu).1
      rw [repCells_len] at this
      simpa using this
    have hi : j / 2 < len := by omega
    obtain ⟨c0, c1, t0, t1⟩ := hx (j / 2) (by omega)
    obtain ⟨q, hq⟩ := one_int t0
    obtain ⟨q', hq'⟩ := one_int t1
    have e := repCells_at ((List.range len).map fun i => (intOf (V0 i), intOf (V1 i))) (j / 2) q q' (by simp [hi, hq, hq', intOf])
    rcases Nat.mod_two_eq_zero_or_one j with h2 | h2
    · have hj2 : 2 * (j / 2) = j := by omega
      rw [hj2, hu] at e
      rw [show j / 2 * 2 = j by omega, hq] at c0
      rw [c0]
      exact e.1.symm
    · have hj2 : 2 * (j / 2) + 1 = j := by omega
      rw [hj2, hu] at e
      rw [show j / 2 * 2 + 1 = j by omega, hq'] at c1
      rw [c1]
      exact e.2.symm

theorem keptsAt_map (S : Nat → Ses) (K : Nat → Value) : ∀ r : List Nat, (∀ i ∈ r, KeptAt w (K i) (S i).kept) → KeptsAt w (r.map S) (r.map K)
  | [], _ => trivial
  | i :: r, h => ⟨h i (by simp), keptsAt_map S K r fun j hj => h j (by simp [hj])⟩

theorem sesCells_len : ∀ (L : List Ses) (ks : List Value), ks.length = L.length → (sesCells L ks).length = L.length * 4
  | [], [], _ => rfl
  | s :: L, k :: ks, h => by simp [sesCells, sesCells_len L ks (by simpa using h)]; omega

end

end Go.Proofs.Yteabfjpajgakiab

/- A table just laid; the law's row. -/
set_option linter.unusedSimpArgs false
set_option linter.unusedVariables false
namespace Go.Proofs.Yteabfjpajgakiab
open Go.RowKit

theorem kept_one (w : World) (q v : Int) : KeptAt (w.alloc (.cells #[.int .i64 q, .int .i64 v] 78)) (.slice (some ⟨w.heap.size, 0, none⟩) 1 1) [(q, v)] := by
  refine ⟨rfl, by unfold maxLen; simp, .inr ⟨_, _, rfl, fun j u hu => ?_⟩⟩
  rw [Addr.add_lit, Nat.zero_add]
  match j, hu with
  | 0, hu => simp [repCells] at hu; subst hu; simp [go_sem]
  | 1, hu => simp [repCells] at hu; subst hu; simp [go_sem]

abbrev rowS (c : Int) : Ses := ⟨c, 2, 9, [(3, 7), (5, -1)]⟩

end Go.Proofs.Yteabfjpajgakiab

set_option linter.unusedSimpArgs false
namespace Go.Proofs.Yteabfjpajgakiab
open Go.RowKit

theorem eqint (d : Nat) (a b : Int) (w : World) : (Op.equalIn (d + 1) 3 (.int .i64 a) (.int .i64 b)).run Try.prog w = .ok (a == b) w := by
  simp [Op.equalIn, run_underlying Try.underlying3]
theorem size3 (w : World) : (sizeOf 3).run Try.prog w = .ok 1 w := by kernel_rfl
theorem part3 (a b c d : Int) (w : World) : (part 3 #[.int .i64 a, .int .i64 b, .int .i64 c, .int .i64 d] 0).run Try.prog w = .ok (.int .i64 a) w ∧ (part 3 #[.int .i64 a, .int .i64 b, .int .i64 c, .int .i64 d] 1).run Try.prog w = .ok (.int .i64 b) w ∧ (part 3 #[.int .i64 a, .int .i64 b, .int .i64 c, .int .i64 d] 2).run Try.prog w = .ok (.int .i64 c) w ∧ (part 3 #[.int .i64 a, .int .i64 b, .int .i64 c, .int .i64 d] 3).run Try.prog w = .ok (.int .i64 d) w := ⟨by kernel_rfl, by kernel_rfl, by kernel_rfl, by kernel_rfl⟩
theorem eqarr (d : Nat) (a0 a1 a2 a3 b0 b1 b2 b3 : Int) (w : World) : (Op.equalIn (d + 2) 22 (.agg #[.int .i64 a0, .int .i64 a1, .int .i64 a2, .int .i64 a3]) (.agg #[.int .i64 b0, .int .i64 b1, .int .i64 b2, .int .i64 b3])).run Try.prog w = .ok (a0 == b0 && (a1 == b1 && (a2 == b2 && a3 == b3))) w := by
  have p := part3 a0 a1 a2 a3
  have q := part3 b0 b1 b2 b3
  rw [Op.equalIn]
  simp [run_underlying Try.underlying22, size3, p, q, eqint, Std.Legacy.Range.forIn_eq_forIn_range', List.range'_succ, Std.Legacy.Range.size]
  by_cases h0 : a0 = b0
  · by_cases h1 : a1 = b1
    · by_cases h2 : a2 = b2
      · by_cases h3 : a3 = b3
        · simp [h0, h1, h2, h3]
        · simp [h0, h1, h2, h3]
      · simp [h0, h1, h2]
    · simp [h0, h1]
  · simp [h0]

/-- '==' between two arrays of four. -/
theorem eql22 (a0 a1 a2 a3 b0 b1 b2 b3 : Int) (w : World) : (binOp .eql 22 (.agg #[.int .i64 a0, .int .i64 a1, .int .i64 a2, .int .i64 a3]) (.agg #[.int .i64 b0, .int .i64 b1, .int .i64 b2, .int .i64 b3])).run Try.prog w = .ok (.bool (a0 == b0 && (a1 == b1 && (a2 == b2 && a3 == b3)))) w := by
  simp only [binOp]
  have := eqarr 9998 a0 a1 a2 a3 b0 b1 b2 b3 w
  simp [Op.equal, Op.maxDepth, this]

theorem partR (a b : Int) (w : World) : (part 3 #[.int .i64 a, .int .i64 b] 0).run Try.prog w = .ok (.int .i64 a) w ∧ (part 3 #[.int .i64 a, .int .i64 b] 1).run Try.prog w = .ok (.int .i64 b) w := ⟨by kernel_rfl, by kernel_rfl⟩
theorem eqrep (d : Nat) (a b c e : Int) (w : World) : (Op.equalIn (d + 2) 78 (.agg #[.int .i64 a, .int .i64 b]) (.agg #[.int .i64 c, .int .i64 e])).run Try.prog w = .ok (a == c && b == e) w := by
  have p := partR a b
  have q := partR c e
  rw [run_equalIn_struct w (d + 1) 78 _ _ (by kernel_rfl) (by kernel_rfl)]
  simp [Program.fieldsOf, Try.underlying78, Op.eqFields, p, q, eqint]
  by_cases h0 : a = c
  · by_cases h1 : b = e
    · simp [h0, h1]
    · simp [h0, h1]
  · simp [h0]
/-- '!=' and '==' between two answers. -/
theorem neq61 (a b c e : Int) (w : World) : (binOp .neq 78 (.agg #[.int .i64 a, .int .i64 b]) (.agg #[.int .i64 c, .int .i64 e])).run Try.prog w = .ok (.bool (!(a == c && b == e))) w := by
  simp only [binOp]
  have := eqrep 9998 a b c e w
  simp [Op.equal, Op.maxDepth, this]
end Go.Proofs.Yteabfjpajgakiab

/- The reference's sameSessions, SameSession, SameTables. -/
set_option linter.unusedSimpArgs false
set_option linter.unusedVariables false
namespace Go.Proofs.Yteabfjpajgakiab
open Go.RowKit

def sameKept : List (Int × Int) → List (Int × Int) → Bool
  | [], [] => true
  | (q, v) :: r, (q', v') :: r' => (q == q' && v == v') && sameKept r r'
  | _, _ => false
def sameSes (s t : Ses) : Bool := s.client == t.client && (s.acked == t.acked && (s.seen == t.seen && sameKept s.kept t.kept))

theorem sameKept_len : ∀ {l m : List (Int × Int)}, l.length ≠ m.length → sameKept l m = false
  | [], [], h => absurd rfl h
  | [], _ :: _, _ => rfl
  | _ :: _, [], _ => rfl
  | (_, _) :: r, (_, _) :: r', h => by simp [sameKept, sameKept_len (l := r) (m := r') (by simpa using h)]
theorem sameKept_at {l m : List (Int × Int)} {k : Nat} (h : k < l.length) (h' : k < m.length) :
    sameKept (l.drop k) (m.drop k) = (((l[k]).1 == (m[k]).1 && (l[k]).2 == (m[k]).2) && sameKept (l.drop (k + 1)) (m.drop (k + 1))) := by
  rw [List.drop_eq_getElem_cons h, List.drop_eq_getElem_cons h']; rfl
theorem sameKept_iff : ∀ {l m : List (Int × Int)}, sameKept l m = true ↔ l = m
  | [], [] => by simp [sameKept]
  | [], _ :: _ => by simp [sameKept]
  | _ :: _, [] => by simp [sameKept]
  | (q, v) :: r, (q', v') :: r' => by simp [sameKept, sameKept_iff (l := r) (m := r')]
theorem sameSes_iff {s t : Ses} : sameSes s t = true ↔ s = t := by
  obtain ⟨a, b, c, d⟩ := s
  obtain ⟨a', b', c', d'⟩ := t
  simp [sameSes, sameKept_iff]

set_option maxHeartbeats 2000000 in
theorem same_sessions_no (s t : Ses) (kv kv' : Value) (w : World) (h1 : KeptAt w kv s.kept) (h2 : KeptAt w kv' t.kept)
    (hne : (s.client == t.client && (s.acked == t.acked && (s.seen == t.seen && s.kept.length == t.kept.length))) = false) :
    Calls Try.prog 45 #[sesV s kv, sesV t kv'] w fun e w' => e = .returned (.bool (sameSes s t)) ∧ Keeps w w' := by
  obtain ⟨a, cap, rfl, hlen⟩ := h1.len
  obtain ⟨a', cap', rfl, hlen'⟩ := h2.len
  unfold maxLen at hlen hlen'
  clear h1 h2
  have HE : Hid (sameSes s t = false) := by
    show _ = _
    simp only [Bool.and_eq_false_iff] at hne
    unfold sameSes
    rcases hne with h | h | h | h
    · simp [h]
    · simp [h]
    · simp [h]
    · simp [sameKept_len (by simpa using h)]
  cases q1 : (s.client == t.client) with
  | false =>
    have q1' : (s.client != t.client) = true := by simp [bne, q1]
    go_enter Try.func45, Try.ntmps45
    go_wp2_with fail
    go_ret
    exact ⟨by rw [HE.out]; rfl, ((Keeps.refl _).alloc _).alloc _⟩
  | true =>
    have q1' : (s.client != t.client) = false := by simp [bne, q1]
    cases q2 : (s.acked == t.acked) with
    | false =>
      have q2' : (s.acked != t.acked) = true := by simp [bne, q2]
      go_enter Try.func45, Try.ntmps45
      go_wp2_with fail
      go_ret
      exact ⟨by rw [HE.out]; rfl, ((Keeps.refl _).alloc _).alloc _⟩
    | true =>
      have q2' : (s.acked != t.acked) = false := by simp [bne, q2]
      cases q3 : (s.seen == t.seen) with
      | false =>
        have q3' : (s.seen != t.seen) = true := by simp [bne, q3]
        go_enter Try.func45, Try.ntmps45
        go_wp2_with fail
        go_ret
        exact ⟨by rw [HE.out]; rfl, ((Keeps.refl _).alloc _).alloc _⟩
      | true =>
        have q3' : (s.seen != t.seen) = false := by simp [bne, q3]
        have q4 : (s.kept.length == t.kept.length) = false := by simpa [q1, q2, q3] using hne
        have q4' : ((s.kept.length : Int) != (t.kept.length : Int)) = true := by simp at q4 ⊢; omega
        clear hne q4
        go_enter Try.func45, Try.ntmps45
        go_wp2_with fail
        go_ret
        exact ⟨by rw [HE.out]; rfl, ((Keeps.refl _).alloc _).alloc _⟩

set_option maxHeartbeats 2000000 in
theorem same_sessions_yes (s t : Ses) (kv kv' : Value) (w : World) (h1 : KeptAt w kv s.kept) (h2 : KeptAt w kv' t.kept)
    (hc1 : s.client = t.client) (hc2 : s.acked = t.acked) (hc3 : s.seen = t.seen) (hc4 : s.kept.length = t.kept.length) :
    Calls Try.prog 45 #[sesV s kv, sesV t kv'] w fun e w' => e = .returned (.bool (sameSes s t)) ∧ Keeps w w' := by
  obtain ⟨a, cap, rfl, hlen⟩ := h1.len
  obtain ⟨a', cap', rfl, hlen'⟩ := h2.len
  unfold maxLen at hlen hlen'
  have HS : Hid (sameSes s t = sameKept s.kept t.kept) := by simp [Hid, sameSes, hc1, hc2, hc3]
  have HL : Hid (s.kept.length = t.kept.length) := hc4
  have H1 : Hid (KeptAt w (.slice a s.kept.length cap) s.kept) := h1
  have H2 : Hid (KeptAt w (.slice a' t.kept.length cap') t.kept) := h2
  have q1' : (s.client != t.client) = false := by simp [hc1]
  have q2' : (s.acked != t.acked) = false := by simp [hc2]
  have q3' : (s.seen != t.seen) = false := by simp [hc3]
  have q4' : ((s.kept.length : Int) != (t.kept.length : Int)) = false := by simp [hc4]
  clear h1 h2 hc1 hc2 hc3 hc4
  go_enter Try.func45, Try.ntmps45
  go_wp2_with fail
  go_loopw [5] (fun i wr => ∃ (k : Nat), k ≤ s.kept.length ∧ i = .int .i64 k ∧ Keeps ((w.alloc (.cells #[.int .i64 s.client, .int .i64 s.acked, .int .i64 s.seen, .slice a s.kept.length cap] 48)).alloc (.cells #[.int .i64 t.client, .int .i64 t.acked, .int .i64 t.seen, .slice a' t.kept.length cap'] 48)) wr ∧ Hid (sameSes s t = sameKept (s.kept.drop k) (t.kept.drop k))) (fun i _ => s.kept.length - (intOf i).toNat)
  case atStart => exact ⟨0, Nat.zero_le _, rfl, Keeps.refl _, HS⟩
  case round =>
    obtain ⟨k, hk, rfl, hkW, HQ⟩ := hrel
    clear HS
    have hkw : Keeps w wr := (((Keeps.refl _).alloc _).alloc _).trans hkW
    have hxb : w.heap.size + 1 < wr.heap.size := by have := hkW.size; simp at this; omega
    have x3 : wr.cell? ⟨w.heap.size, 3, none⟩ = some (.slice a s.kept.length cap) := (Below.cell hkW (p := ⟨w.heap.size, 3, none⟩) (by simp <;> omega)).trans (by simp [go_sem])
    have y3 : wr.cell? ⟨w.heap.size + 1, 3, none⟩ = some (.slice a' t.kept.length cap') := (Below.cell hkW (p := ⟨w.heap.size + 1, 3, none⟩) (by simp)).trans (by simp [go_sem])
    by_cases hlt : k < s.kept.length
    · have hlt' : k < t.kept.length := by rw [← HL.out]; exact hlt
      obtain ⟨b, off, cp, hv, _, hcell⟩ := (H1.out.keep hkw).at hlt
      injection hv with hv1 hv2 hv3
      subst hv1
      clear hv2 hv3
      obtain ⟨b', off', cp', hv, _, hcell'⟩ := (H2.out.keep hkw).at hlt'
      injection hv with hv1 hv2 hv3
      subst hv1
      clear hv2 hv3
      obtain ⟨c0, c1⟩ := hcell k hlt
      obtain ⟨d0, d1⟩ := hcell' k hlt'
      clear hcell hcell'
      have HR : Hid (sameSes s t = ((((s.kept[k]).1 == (t.kept[k]).1 && (s.kept[k]).2 == (t.kept[k]).2)) && sameKept (s.kept.drop (k + 1)) (t.kept.drop (k + 1)))) := HQ.out.trans (sameKept_at hlt hlt')
      clear HQ
      generalize (s.kept[k]).1 = q at *
      generalize (s.kept[k]).2 = v at *
      generalize (t.kept[k]).1 = q' at *
      generalize (t.kept[k]).2 = v' at *
      have hn := neq61
      cases hb : (q == q' && v == v') with
      | false =>
        have HE : Hid (sameSes s t = false) := by show _ = _; rw [HR.out, hb]; rfl
        have hb' : (!(q == q' && v == v')) = true := by rw [hb]; rfl
        go_wp2_with fail
        go_quiet (fail)
        go_wp2_with fail
        all_goals go_ret
        all_goals exact ⟨by rw [HE.out]; rfl, hkw.drewN _⟩
      | true =>
        have HN : Hid (sameSes s t = sameKept (s.kept.drop (k + 1)) (t.kept.drop (k + 1))) := by show _ = _; rw [HR.out, hb]; rfl
        have hb' : (!(q == q' && v == v')) = false := by rw [hb]; rfl
        go_wp2_with fail
        go_quiet (fail)
        go_wp2_with fail
        go_roundw
        case rel => exact ⟨k + 1, by omega, by go_num, hkW.drewN _, HN⟩
        case measure => simp [intOf]; omega
    · have HE : Hid (sameSes s t = true) := HQ.out.trans (by rw [List.drop_of_length_le (by omega), List.drop_of_length_le (by rw [← HL.out]; omega)]; rfl)
      go_wp2_with fail
      go_ret
      exact ⟨by rw [HE.out]; rfl, hkw⟩

theorem same_sessions (s t : Ses) (kv kv' : Value) (w : World) (h1 : KeptAt w kv s.kept) (h2 : KeptAt w kv' t.kept) :
    Calls Try.prog 45 #[sesV s kv, sesV t kv'] w fun e w' => e = .returned (.bool (sameSes s t)) ∧ Keeps w w' := by
  cases h : (s.client == t.client && (s.acked == t.acked && (s.seen == t.seen && s.kept.length == t.kept.length))) with
  | false => exact same_sessions_no s t kv kv' w h1 h2 h
  | true =>
    simp only [Bool.and_eq_true, beq_iff_eq] at h
    exact same_sessions_yes s t kv kv' w h1 h2 h.1 h.2.1 h.2.2.1 h.2.2.2

def sameTab : List Ses → List Ses → Bool
  | [], [] => true
  | s :: r, t :: r' => sameSes s t && sameTab r r'
  | _, _ => false
theorem sameTab_len : ∀ {l m : List Ses}, l.length ≠ m.length → sameTab l m = false
  | [], [], h => absurd rfl h
  | [], _ :: _, _ => rfl
  | _ :: _, [], _ => rfl
  | _ :: r, _ :: r', h => by simp [sameTab, sameTab_len (l := r) (m := r') (by simpa using h)]
theorem sameTab_at {l m : List Ses} {k : Nat} (h : k < l.length) (h' : k < m.length) : sameTab (l.drop k) (m.drop k) = (sameSes (l[k]) (m[k]) && sameTab (l.drop (k + 1)) (m.drop (k + 1))) := by
  rw [List.drop_eq_getElem_cons h, List.drop_eq_getElem_cons h']; rfl
theorem sameTab_iff : ∀ {l m : List Ses}, sameTab l m = true ↔ l = m
  | [], [] => by simp [sameTab]
  | [], _ :: _ => by simp [sameTab]
  | _ :: _, [] => by simp [sameTab]
  | _ :: r, _ :: r' => by simp [sameTab, sameTab_iff (l := r) (m := r'), sameSes_iff]

set_option maxHeartbeats 2000000 in
theorem same_tables (L M : List Ses) (v v' : Value) (w : World) (h1 : TabAt w v L) (h2 : TabAt w v' M) :
    Calls Try.prog 21 #[v, v'] w fun e w' => e = .returned (.bool (sameTab L M)) ∧ Keeps w w' := by
  obtain ⟨a, cap, rfl, hlen⟩ := h1.len
  obtain ⟨a', cap', rfl, hlen'⟩ := h2.len
  unfold maxLen at hlen hlen'
  have H1 : Hid (TabAt w (.slice a L.length cap) L) := h1
  have H2 : Hid (TabAt w (.slice a' M.length cap') M) := h2
  clear h1 h2
  by_cases hl : L.length = M.length
  case neg =>
    have q : ((L.length : Int) != (M.length : Int)) = true := by simp; omega
    have HE : Hid (sameTab L M = false) := sameTab_len hl
    clear hl
    go_enter Try.func21, Try.ntmps21
    go_wp2_with fail
    go_ret
    exact ⟨by rw [HE.out]; rfl, Keeps.refl _⟩
  case pos =>
    have q : ((L.length : Int) != (M.length : Int)) = false := by simp [hl]
    have HL : Hid (L.length = M.length) := hl
    clear hl
    go_enter Try.func21, Try.ntmps21
    go_wp2_with fail
    go_loopw [5] (fun i wr => ∃ (k : Nat), k ≤ L.length ∧ i = .int .i64 k ∧ Keeps w wr ∧ Hid (sameTab L M = sameTab (L.drop k) (M.drop k))) (fun i _ => L.length - (intOf i).toNat)
    case atStart => exact ⟨0, Nat.zero_le _, rfl, Keeps.refl _, rfl⟩
    case round =>
      obtain ⟨k, hk, rfl, hkw, HQ⟩ := hrel
      by_cases hlt : k < L.length
      · have hlt' : k < M.length := by rw [← HL.out]; exact hlt
        obtain ⟨b, off, cp, hv, hcell⟩ := (H1.out.keep hkw).at hlt
        injection hv with hv1 hv2 hv3
        subst hv1
        clear hv2 hv3
        obtain ⟨b', off', cp', hv, hcell'⟩ := (H2.out.keep hkw).at hlt'
        injection hv with hv1 hv2 hv3
        subst hv1
        clear hv2 hv3
        obtain ⟨c0, c1, c2, ka, kc, c3, hkv⟩ := hcell k hlt
        obtain ⟨d0, d1, d2, ka', kc', d3, hkv'⟩ := hcell' k hlt'
        clear hcell hcell'
        have HK1 : Hid (KeptAt wr (.slice ka (L[k]).kept.length kc) (L[k]).kept) := hkv
        have HK2 : Hid (KeptAt wr (.slice ka' (M[k]).kept.length kc') (M[k]).kept) := hkv'
        clear hkv hkv'
        have HR : Hid (sameTab L M = (sameSes (L[k]) (M[k]) && sameTab (L.drop (k + 1)) (M.drop (k + 1)))) := HQ.out.trans (sameTab_at hlt hlt')
        clear HQ
        generalize L[k] = s at *
        generalize M[k] = t at *
        have hne := After.some wr
        have e0 := fun x : After wr => (Below.cell x.h (p := ⟨b, off + k * 4, none⟩) (World.block_lt_of_cell? _ _ c0)).trans c0
        have e1 := fun x : After wr => (Below.cell x.h (p := ⟨b, off + k * 4 + 1, none⟩) (World.block_lt_of_cell? _ _ c1)).trans c1
        have e2 := fun x : After wr => (Below.cell x.h (p := ⟨b, off + k * 4 + 2, none⟩) (World.block_lt_of_cell? _ _ c2)).trans c2
        have e3 := fun x : After wr => (Below.cell x.h (p := ⟨b, off + k * 4 + 3, none⟩) (World.block_lt_of_cell? _ _ c3)).trans c3
        have f0 := fun x : After wr => (Below.cell x.h (p := ⟨b', off' + k * 4, none⟩) (World.block_lt_of_cell? _ _ d0)).trans d0
        have f1 := fun x : After wr => (Below.cell x.h (p := ⟨b', off' + k * 4 + 1, none⟩) (World.block_lt_of_cell? _ _ d1)).trans d1
        have f2 := fun x : After wr => (Below.cell x.h (p := ⟨b', off' + k * 4 + 2, none⟩) (World.block_lt_of_cell? _ _ d2)).trans d2
        have f3 := fun x : After wr => (Below.cell x.h (p := ⟨b', off' + k * 4 + 3, none⟩) (World.block_lt_of_cell? _ _ d3)).trans d3
        clear c0 c1 c2 c3 d0 d1 d2 d3
        cases hb : sameSes s t with
        | false =>
          have HE : Hid (sameTab L M = false) := by show _ = _; rw [HR.out, hb]; rfl
          go_wp2_with fail
          refine wp_region_after (by kernel_rfl) (by kernel_rfl) ?_
          repeat (first | go_big_quiet_skip | (go_big_quiet_want; go_big_quiet_op; first | go_big_quiet_on | (apply Exists.intro; refine ⟨fun _ => ?_, ?_⟩; (go_at_call 45; exact calls_after_keq (same_sessions s t _ _ _ (HK1.out.keep (After.h _)) (HK2.out.keep (After.h _))) (congrArg Value.bool hb)); go_big_quiet_on)))
          refine wpQuiet_nil ?_
          rintro _ ⟨x, rfl⟩
          go_wp2_with fail
          go_ret
          exact ⟨by rw [HE.out]; rfl, hkw.trans x.h⟩
        | true =>
          have HN : Hid (sameTab L M = sameTab (L.drop (k + 1)) (M.drop (k + 1))) := by show _ = _; rw [HR.out, hb]; rfl
          go_wp2_with fail
          refine wp_region_after (by kernel_rfl) (by kernel_rfl) ?_
          repeat (first | go_big_quiet_skip | (go_big_quiet_want; go_big_quiet_op; first | go_big_quiet_on | (apply Exists.intro; refine ⟨fun _ => ?_, ?_⟩; (go_at_call 45; exact calls_after_keq (same_sessions s t _ _ _ (HK1.out.keep (After.h _)) (HK2.out.keep (After.h _))) (congrArg Value.bool hb)); go_big_quiet_on)))
          refine wpQuiet_nil ?_
          rintro _ ⟨x, rfl⟩
          go_wp2_with fail
          go_roundw
          case rel => exact ⟨k + 1, by omega, by go_num, hkw.trans x.h, HN⟩
          case measure => simp [intOf]; omega
      · have HE : Hid (sameTab L M = true) := HQ.out.trans (by rw [List.drop_of_length_le (by omega), List.drop_of_length_le (by rw [← HL.out]; omega)]; rfl)
        go_wp2_with fail
        go_ret
        exact ⟨by rw [HE.out]; rfl, hkw⟩
end Go.Proofs.Yteabfjpajgakiab

/- States: what is laid, SameOf. -/
set_option linter.unusedSimpArgs false
set_option linter.unusedVariables false
namespace Go.Proofs.Yteabfjpajgakiab
open Go.RowKit

theorem cell_kept {W W' : World} {a : Addr} {u : Value} (h : W.cell? a = some u) (hk : Keeps W W') : W'.cell? a = some u := (Below.cell hk (World.block_lt_of_cell? _ _ h)).trans h

structure St where
  at_ : Int
  clock : Int
  v0 : Int
  v1 : Int
  v2 : Int
  v3 : Int
  tab : List Ses

abbrev stV (s : St) (t : Value) : Value := .agg #[.int .i64 s.at_, .int .i64 s.clock, .int .i64 s.v0, .int .i64 s.v1, .int .i64 s.v2, .int .i64 s.v3, t]

def sameVals (s t : St) : Bool := s.v0 == t.v0 && (s.v1 == t.v1 && (s.v2 == t.v2 && s.v3 == t.v3))
def sameSt (s t : St) : Bool := s.at_ == t.at_ && (s.clock == t.clock && (sameVals s t && sameTab s.tab t.tab))

set_option maxHeartbeats 2000000 in
theorem same_of_no (s t : St) (x y : Value) (w : World) (h1 : TabAt w x s.tab) (h2 : TabAt w y t.tab) (hne : (s.at_ == t.at_ && (s.clock == t.clock && sameVals s t)) = false) :
    Calls Try.prog 13 #[stV s x, stV t y] w fun e w' => e = .returned (.bool (sameSt s t)) ∧ Keeps w w' := by
  obtain ⟨a, c, rfl, _⟩ := h1.len
  obtain ⟨a', c', rfl, _⟩ := h2.len
  have HE : Hid (sameSt s t = false) := by
    show _ = _
    simp only [Bool.and_eq_false_iff] at hne
    unfold sameSt
    rcases hne with h | h | h
    · simp [h]
    · simp [h]
    · simp [h]
  clear h1 h2
  rw [HE.out]
  have he := eql22
  unfold sameVals at hne
  go_enter Try.func13, Try.ntmps13
  cases q1 : (s.at_ == t.at_) with
  | false =>
    go_wp2_with fail
    go_ret
    exact ⟨rfl, ((Keeps.refl _).alloc _).alloc _⟩
  | true =>
    cases q2 : (s.clock == t.clock) with
    | false =>
      go_wp2_with fail
      go_ret
      exact ⟨rfl, ((Keeps.refl _).alloc _).alloc _⟩
    | true =>
      simp only [q1, q2, Bool.true_and] at hne
      go_wp2_with fail
      go_ret
      exact ⟨rfl, ((Keeps.refl _).alloc _).alloc _⟩

set_option maxHeartbeats 2000000 in
theorem same_of_yes (s t : St) (x y : Value) (w : World) (h1 : TabAt w x s.tab) (h2 : TabAt w y t.tab) (hc1 : (s.at_ == t.at_) = true) (hc2 : (s.clock == t.clock) = true) (hc3 : sameVals s t = true) :
    Calls Try.prog 13 #[stV s x, stV t y] w fun e w' => e = .returned (.bool (sameSt s t)) ∧ Keeps w w' := by
  obtain ⟨a, c, rfl, _⟩ := h1.len
  obtain ⟨a', c', rfl, _⟩ := h2.len
  have HE : Hid (sameSt s t = sameTab s.tab t.tab) := by
    show _ = _
    unfold sameSt
    rw [hc1, hc2, hc3]
    rfl
  rw [HE.out]
  have P := same_tables s.tab t.tab _ _ _ (h1.keep (((Keeps.refl w).alloc (.cells #[.int .i64 s.at_, .int .i64 s.clock, .int .i64 s.v0, .int .i64 s.v1, .int .i64 s.v2, .int .i64 s.v3, .slice a s.tab.length c] 25)).alloc (.cells #[.int .i64 t.at_, .int .i64 t.clock, .int .i64 t.v0, .int .i64 t.v1, .int .i64 t.v2, .int .i64 t.v3, .slice a' t.tab.length c'] 25))) (h2.keep (((Keeps.refl w).alloc _).alloc _))
  have HP : Hid (Calls _ _ _ _ _) := P
  clear P h1 h2
  have he := eql22
  unfold sameVals at hc3
  generalize sameTab s.tab t.tab = r at HP HE
  go_enter Try.func13, Try.ntmps13
  go_wp2_with fail
  refine HP.out.mono ?_
  rintro e w1 ⟨rfl, hb⟩
  clear HP
  go_wp2_with fail
  go_ret
  exact ⟨rfl, (((Keeps.refl _).alloc _).alloc _).trans hb⟩

theorem same_of (s t : St) (x y : Value) (w : World) (h1 : TabAt w x s.tab) (h2 : TabAt w y t.tab) :
    Calls Try.prog 13 #[stV s x, stV t y] w fun e w' => e = .returned (.bool (sameSt s t)) ∧ Keeps w w' := by
  cases h : (s.at_ == t.at_ && (s.clock == t.clock && sameVals s t)) with
  | false => exact same_of_no s t x y w h1 h2 h
  | true =>
    simp only [Bool.and_eq_true] at h
    exact same_of_yes s t x y w h1 h2 h.1 h.2.1 h.2.2
end Go.Proofs.Yteabfjpajgakiab

/- The arguments of a law: a state. -/
set_option linter.unusedSimpArgs false
set_option linter.unusedVariables false
set_option maxRecDepth 100000
namespace Go.Proofs.Yteabfjpajgakiab
open Go.ChangeShapes Go.WideShapes Go.ChangeAt Go.RowKit Go.Joins Go.Deep

section
variable {H : Type} {enc : TypeId × Value → H} {w : World} {base : Nat} {spare : Nat → Bool} {held : Bool}

theorem cellsArr : Try.prog.cellsOf 22 = 4 := by kernel_rfl
theorem cellsTab : Try.prog.cellsOf 23 = 1 := by kernel_rfl
theorem cellsSt : Try.prog.cellsOf 25 = 7 := by kernel_rfl

/-- A table in a cell. -/
theorem open_tabc {n : Nat} {v : Value} {y : DataW H × List MemPlace} (h : DataW.trod enc Try.prog w base spare held n 23 [v] = some y) : ∃ L, TabAt w v L := by
  rcases open_slice Try.underlying23 h with ⟨h0, _⟩ | ⟨a, vl, vc, m, k, D, Pl, hv', _, hl, hm, hmm, _, hx⟩
  · obtain rfl : v = .slice none 0 0 := by simpa using h0
    exact ⟨[], [], trivial, rfl, by unfold maxLen; simp, .inl ⟨rfl, rfl⟩⟩
  · obtain rfl : v = .slice (some a) vl vc := by simpa using hv'
    have hlm : vl ≤ m := by rw [hmm]; split <;> omega
    have each : ∀ i, i < vl → ∃ q : Ses × Value, KeptAt w q.2 q.1.kept ∧ w.cell? (a.add (i * 4)) = some (.int .i64 q.1.client) ∧ w.cell? (a.add (i * 4 + 1)) = some (.int .i64 q.1.acked) ∧ w.cell? (a.add (i * 4 + 2)) = some (.int .i64 q.1.seen) ∧ w.cell? (a.add (i * 4 + 3)) = some q.2 := by
      intro i hi
      obtain ⟨cs', h1, h2⟩ := hx i (by omega)
      rw [cells34] at h1
      obtain ⟨_, hlen, hcell⟩ := World.cells?_some h1
      obtain ⟨y0, y1, y2, y3, n', _, _, g0, g1, g2, g3⟩ := trod_struct4 Try.underlying48 h2
      match cs', hlen with
      | [v0, v1, v2, v3], _ =>
        simp only [cells3, cells32, List.drop_zero, List.drop_succ_cons, List.take_succ_cons, List.take_zero] at g0 g1 g2 g3
        have e0 := hcell 0 (by omega)
        have e1 := hcell 1 (by omega)
        have e2 := hcell 2 (by omega)
        have e3 := hcell 3 (by omega)
        rw [add_add] at e0 e1 e2 e3
        obtain ⟨a0, rfl⟩ := one_int g0
        obtain ⟨a1, rfl⟩ := one_int g1
        obtain ⟨a2, rfl⟩ := one_int g2
        obtain ⟨l, hl⟩ := open_kept g3
        exact ⟨(⟨a0, a1, a2, l⟩, v3), hl, by simpa using e0, by simpa using e1, by simpa using e2, by simpa using e3⟩
    obtain ⟨q, hq⟩ := choose_lt each
    refine ⟨(List.range vl).map fun i => (q i).1, (List.range vl).map fun i => (q i).2, keptsAt_map _ _ _ fun i hi => (hq i (by simpa using hi)).1, ?_⟩
    have hLen : (sesCells ((List.range vl).map fun i => (q i).1) ((List.range vl).map fun i => (q i).2)).length = ((List.range vl).map fun i => (q i).1).length * 4 := sesCells_len _ _ (by simp)
    refine ⟨hLen, by simp; omega, .inr ⟨a, vc, by simp, fun j u hu => ?_⟩⟩
    have hj : j < vl * 4 := by
      have := (List.getElem?_eq_some_iff.1 hu).1
      rw [hLen] at this
      simpa using this
    have hi : j / 4 < vl := by omega
    obtain ⟨_, c0, c1, c2, c3⟩ := hq (j / 4) hi
    obtain ⟨e0, e1, e2, e3⟩ := sesCells_at ((List.range vl).map fun i => (q i).1) ((List.range vl).map fun i => (q i).2) (j / 4) (by simpa using hi) (by simpa using hi)
    simp only [List.getElem_map, List.getElem_range] at e0 e1 e2 e3
    rcases (show j % 4 = 0 ∨ j % 4 = 1 ∨ j % 4 = 2 ∨ j % 4 = 3 by omega) with h2 | h2 | h2 | h2
    · rw [show 4 * (j / 4) = j by omega, hu] at e0
      rw [show j / 4 * 4 = j by omega] at c0
      rw [c0]; exact e0.symm
    · rw [show 4 * (j / 4) + 1 = j by omega, hu] at e1
      rw [show j / 4 * 4 + 1 = j by omega] at c1
      rw [c1]; exact e1.symm
    · rw [show 4 * (j / 4) + 2 = j by omega, hu] at e2
      rw [show j / 4 * 4 + 2 = j by omega] at c2
      rw [c2]; exact e2.symm
    · rw [show 4 * (j / 4) + 3 = j by omega, hu] at e3
      rw [show j / 4 * 4 + 3 = j by omega] at c3
      rw [c3]; exact e3.symm

/-- A state. -/
theorem open_state {r : Reach} {b0 : Nat} {v : Value} {d : DataW H} {p : List MemPlace} (hv : Value.okWide Try.prog w r b0 25 v) (h : DataW.Trod enc Try.prog w base spare held 25 v d p) :
    ∃ (s : St) (t : Value), v = stV s t ∧ TabAt w t s.tab := by
  obtain ⟨cs, rfl, hsz⟩ := okWide_struct Try.underlying25 hv
  rw [cellsSt] at hsz
  obtain ⟨fuel, hf⟩ := h
  obtain ⟨y0, y1, y2, y3, n', _, _, g0, g1, g2, g3⟩ := trod_struct4 Try.underlying25 hf
  obtain ⟨cl⟩ := cs
  match cl, hsz with
  | [c0, c1, c2, c3, c4, c5, c6], _ =>
    simp only [cells3, cellsArr, cellsTab, Value.cells, List.drop_zero, List.drop_succ_cons, List.take_succ_cons, List.take_zero] at g0 g1 g2 g3
    obtain ⟨a0, rfl⟩ := one_int g0
    obtain ⟨a1, rfl⟩ := one_int g1
    obtain ⟨xs, m, _, _, _, hlen, hi⟩ := DataW.trod_array Try.underlying22 g2
    simp only [cells3] at hi
    have e : ∀ i (hi' : i < 4), ∃ y, xs[i]? = some y := fun i h' => ⟨xs[i]'(by omega), by rw [List.getElem?_eq_getElem]⟩
    obtain ⟨z0, e0⟩ := e 0 (by decide)
    obtain ⟨z1, e1⟩ := e 1 (by decide)
    obtain ⟨z2, e2⟩ := e 2 (by decide)
    obtain ⟨z3, e3⟩ := e 3 (by decide)
    obtain ⟨b0, rfl⟩ := one_int ((hi 0 (by decide)).trans e0)
    obtain ⟨b1, rfl⟩ := one_int ((hi 1 (by decide)).trans e1)
    obtain ⟨b2, rfl⟩ := one_int ((hi 2 (by decide)).trans e2)
    obtain ⟨b3, rfl⟩ := one_int ((hi 3 (by decide)).trans e3)
    obtain ⟨L, hL⟩ := open_tabc g3
    exact ⟨⟨a0, a1, b0, b1, b2, b3, L⟩, c6, rfl, hL⟩
end
end Go.Proofs.Yteabfjpajgakiab

/- States: Same, with slices.Equal and slices.EqualFunc. -/
set_option linter.unusedSimpArgs false
set_option linter.unusedVariables false
set_option maxRecDepth 10000
namespace Go.Proofs.Yteabfjpajgakiab
open Go.RowKit

set_option maxHeartbeats 2000000 in
theorem eq_reps (l m : List (Int × Int)) (v v' : Value) (w : World) (h1 : KeptAt w v l) (h2 : KeptAt w v' m) :
    Calls Try.prog 49 #[v, v'] w fun e w' => e = .returned (.bool (sameKept l m)) ∧ Keeps w w' := by
  obtain ⟨a, cap, rfl, hlen⟩ := h1.len
  obtain ⟨a', cap', rfl, hlen'⟩ := h2.len
  unfold maxLen at hlen hlen'
  have H1 : Hid (KeptAt w (.slice a l.length cap) l) := h1
  have H2 : Hid (KeptAt w (.slice a' m.length cap') m) := h2
  clear h1 h2
  by_cases hl : l.length = m.length
  case neg =>
    have q : ((l.length : Int) != (m.length : Int)) = true := by simp; omega
    have HE : Hid (sameKept l m = false) := sameKept_len hl
    clear hl
    go_enter Try.func49, Try.ntmps49
    go_wp2_with fail
    go_ret
    exact ⟨by rw [HE.out]; rfl, Keeps.refl _⟩
  case pos =>
    have q : ((l.length : Int) != (m.length : Int)) = false := by simp [hl]
    have HL : Hid (l.length = m.length) := hl
    clear hl
    go_enter Try.func49, Try.ntmps49
    go_wp2_with fail
    go_loopw [13] (fun i wr => ∃ (k : Nat), k ≤ l.length ∧ i = .int .i64 k ∧ Keeps w wr ∧ Hid (sameKept l m = sameKept (l.drop k) (m.drop k))) (fun i _ => l.length - (intOf i).toNat)
    case atStart => exact ⟨0, Nat.zero_le _, rfl, Keeps.refl _, rfl⟩
    case round =>
      obtain ⟨k, hk, rfl, hkw, HQ⟩ := hrel
      by_cases hlt : k < l.length
      · have hlt' : k < m.length := by rw [← HL.out]; exact hlt
        obtain ⟨b, off, cp, hv, _, hcell⟩ := (H1.out.keep hkw).at hlt
        injection hv with hv1 hv2 hv3
        subst hv1
        clear hv2 hv3
        obtain ⟨b', off', cp', hv, _, hcell'⟩ := (H2.out.keep hkw).at hlt'
        injection hv with hv1 hv2 hv3
        subst hv1
        clear hv2 hv3
        obtain ⟨c0, c1⟩ := hcell k hlt
        obtain ⟨d0, d1⟩ := hcell' k hlt'
        clear hcell hcell'
        have HR : Hid (sameKept l m = (((l[k]).1 == (m[k]).1 && (l[k]).2 == (m[k]).2) && sameKept (l.drop (k + 1)) (m.drop (k + 1)))) := HQ.out.trans (sameKept_at hlt hlt')
        clear HQ
        generalize (l[k]).1 = q at *
        generalize (l[k]).2 = v at *
        generalize (m[k]).1 = q' at *
        generalize (m[k]).2 = v' at *
        have hn := neq61
        cases hb : (q == q' && v == v') with
        | false =>
          have HE : Hid (sameKept l m = false) := by show _ = _; rw [HR.out, hb]; rfl
          have hb' : (!(q == q' && v == v')) = true := by rw [hb]; rfl
          go_wp2_with fail
          go_quiet (fail)
          go_wp2_with fail
          all_goals go_ret
          all_goals exact ⟨by rw [HE.out]; rfl, hkw.drewN _⟩
        | true =>
          have HN : Hid (sameKept l m = sameKept (l.drop (k + 1)) (m.drop (k + 1))) := by show _ = _; rw [HR.out, hb]; rfl
          have hb' : (!(q == q' && v == v')) = false := by rw [hb]; rfl
          go_wp2_with fail
          go_quiet (fail)
          go_wp2_with fail
          go_roundw
          case rel => exact ⟨k + 1, by omega, by go_num, hkw.drewN _, HN⟩
          case measure => simp [intOf]; omega
      · have HE : Hid (sameKept l m = true) := HQ.out.trans (by rw [List.drop_of_length_le (by omega), List.drop_of_length_le (by rw [← HL.out]; omega)]; rfl)
        go_wp2_with fail
        go_ret
        exact ⟨by rw [HE.out]; rfl, hkw⟩

set_option maxHeartbeats 2000000 in
theorem st_same_session (s t : Ses) (kv kv' : Value) (w : World) (h1 : KeptAt w kv s.kept) (h2 : KeptAt w kv' t.kept) :
    Calls Try.prog 31 #[sesV s kv, sesV t kv'] w fun e w' => e = .returned (.bool (sameSes s t)) ∧ Keeps w w' := by
  obtain ⟨a, cap, rfl, hlen⟩ := h1.len
  obtain ⟨a', cap', rfl, hlen'⟩ := h2.len
  have HP : Hid (∀ W, Keeps w W → Calls Try.prog 49 #[.slice a s.kept.length cap, .slice a' t.kept.length cap'] W fun e w' => e = .returned (.bool (sameKept s.kept t.kept)) ∧ Keeps W w') := fun W hk => eq_reps _ _ _ _ W (h1.keep hk) (h2.keep hk)
  clear h1 h2 hlen hlen'
  have HS : Hid (sameSes s t = (s.client == t.client && (s.acked == t.acked && (s.seen == t.seen && sameKept s.kept t.kept)))) := rfl
  generalize sameSes s t = R at *
  generalize sameKept s.kept t.kept = r at *
  generalize s.kept.length = n1 at *
  generalize t.kept.length = n2 at *
  cases q1 : (s.client == t.client) with
  | false =>
    have HE : R = false := by rw [HS.out, q1]; rfl
    subst HE
    clear HS
    go_enter Try.func31, Try.ntmps31
    go_wp2_with fail
    go_ret
    exact ⟨rfl, ((Keeps.refl _).alloc _).alloc _⟩
  | true =>
    cases q2 : (s.acked == t.acked) with
    | false =>
      have HE : R = false := by rw [HS.out, q1, q2]; rfl
      subst HE
      clear HS
      go_enter Try.func31, Try.ntmps31
      go_wp2_with fail
      go_ret
      exact ⟨rfl, ((Keeps.refl _).alloc _).alloc _⟩
    | true =>
      cases q3 : (s.seen == t.seen) with
      | false =>
        have HE : R = false := by rw [HS.out, q1, q2, q3]; rfl
        subst HE
        clear HS
        go_enter Try.func31, Try.ntmps31
        go_wp2_with fail
        go_ret
        exact ⟨rfl, ((Keeps.refl _).alloc _).alloc _⟩
      | true =>
        have HE : R = r := by rw [HS.out, q1, q2, q3]; rfl
        subst HE
        clear HS
        go_enter Try.func31, Try.ntmps31
        go_wp2_with fail
        refine (HP.out _ (((Keeps.refl _).alloc _).alloc _)).mono ?_
        rintro e w1 ⟨rfl, hb⟩
        have hk1 : Keeps w w1 := (((Keeps.refl _).alloc _).alloc _).trans hb
        clear hb HP
        go_wp2_with fail
        go_ret
        exact ⟨rfl, hk1⟩

theorem fnc31 (args : Array Value) (W : World) : (callFunc 31 args).run Try.prog W = .ok (.enter 31 args) W := by kernel_rfl

set_option maxHeartbeats 2000000 in
theorem eq_func (L M : List Ses) (v v' : Value) (w : World) (h1 : TabAt w v L) (h2 : TabAt w v' M) :
    Calls Try.prog 30 #[v, v', .func (.func 31) #[] #[]] w fun e w' => e = .returned (.bool (sameTab L M)) ∧ Keeps w w' := by
  obtain ⟨a, cap, rfl, hlen⟩ := h1.len
  obtain ⟨a', cap', rfl, hlen'⟩ := h2.len
  unfold maxLen at hlen hlen'
  have H1 : Hid (TabAt w (.slice a L.length cap) L) := h1
  have H2 : Hid (TabAt w (.slice a' M.length cap') M) := h2
  clear h1 h2
  have hf := fnc31
  by_cases hl : L.length = M.length
  case neg =>
    have q : ((L.length : Int) != (M.length : Int)) = true := by simp; omega
    have HE : Hid (sameTab L M = false) := sameTab_len hl
    clear hl
    go_enter Try.func30, Try.ntmps30
    go_wp2_with fail
    go_ret
    exact ⟨by rw [HE.out]; rfl, Keeps.refl _⟩
  case pos =>
    have q : ((L.length : Int) != (M.length : Int)) = false := by simp [hl]
    have HL : Hid (L.length = M.length) := hl
    clear hl
    go_enter Try.func30, Try.ntmps30
    go_wp2_with fail
    go_loopw [17] (fun i wr => ∃ (k : Nat), k ≤ L.length ∧ i = .int .i64 k ∧ Keeps w wr ∧ Hid (sameTab L M = sameTab (L.drop k) (M.drop k))) (fun i _ => L.length - (intOf i).toNat)
    case atStart => exact ⟨0, Nat.zero_le _, rfl, Keeps.refl _, rfl⟩
    case round =>
      obtain ⟨k, hk, rfl, hkw, HQ⟩ := hrel
      by_cases hlt : k < L.length
      · have hlt' : k < M.length := by rw [← HL.out]; exact hlt
        obtain ⟨b, off, cp, hv, hcell⟩ := (H1.out.keep hkw).at hlt
        injection hv with hv1 hv2 hv3
        subst hv1
        clear hv2 hv3
        obtain ⟨b', off', cp', hv, hcell'⟩ := (H2.out.keep hkw).at hlt'
        injection hv with hv1 hv2 hv3
        subst hv1
        clear hv2 hv3
        obtain ⟨c0, c1, c2, ka, kc, c3, hkv⟩ := hcell k hlt
        obtain ⟨d0, d1, d2, ka', kc', d3, hkv'⟩ := hcell' k hlt'
        clear hcell hcell'
        have hB := World.block_lt_of_cell? _ _ c0
        have hB' := World.block_lt_of_cell? _ _ d0
        simp only [] at hB hB'
        have HK1 : Hid (KeptAt wr (.slice ka (L[k]).kept.length kc) (L[k]).kept) := hkv
        have HK2 : Hid (KeptAt wr (.slice ka' (M[k]).kept.length kc') (M[k]).kept) := hkv'
        clear hkv hkv'
        have HR : Hid (sameTab L M = (sameSes (L[k]) (M[k]) && sameTab (L.drop (k + 1)) (M.drop (k + 1)))) := HQ.out.trans (sameTab_at hlt hlt')
        clear HQ
        generalize L[k] = s at *
        generalize M[k] = t at *
        go_wp2_with fail
        refine (st_same_session s t _ _ _ (HK1.out.keep (((Keeps.refl _).alloc _).alloc _)) (HK2.out.keep (((Keeps.refl _).alloc _).alloc _))).mono ?_
        rintro e w1 ⟨rfl, hb0⟩
        have hk1 : Keeps w w1 := ((hkw.alloc _).alloc _).trans hb0
        clear hb0 HK1 HK2
        cases hb : sameSes s t with
        | false =>
          have HE : Hid (sameTab L M = false) := by show _ = _; rw [HR.out, hb]; rfl
          go_wp2_with fail
          go_ret
          exact ⟨by rw [HE.out]; rfl, hk1⟩
        | true =>
          have HN : Hid (sameTab L M = sameTab (L.drop (k + 1)) (M.drop (k + 1))) := by show _ = _; rw [HR.out, hb]; rfl
          go_wp2_with fail
          go_roundw
          case rel => exact ⟨k + 1, by omega, by go_num, hk1, HN⟩
          case measure => simp [intOf]; omega
      · have HE : Hid (sameTab L M = true) := HQ.out.trans (by rw [List.drop_of_length_le (by omega), List.drop_of_length_le (by rw [← HL.out]; omega)]; rfl)
        go_wp2_with fail
        go_ret
        exact ⟨by rw [HE.out]; rfl, hkw⟩

set_option maxHeartbeats 2000000 in
theorem state_same (s t : St) (x y : Value) (w : World) (h1 : TabAt w x s.tab) (h2 : TabAt w y t.tab) :
    Calls Try.prog 12 #[stV s x, stV t y] w fun e w' => e = .returned (.bool (sameSt s t)) ∧ Keeps w w' := by
  obtain ⟨a, c, rfl, _⟩ := h1.len
  obtain ⟨a', c', rfl, _⟩ := h2.len
  have HP : Hid (∀ W, Keeps w W → Calls Try.prog 30 #[.slice a s.tab.length c, .slice a' t.tab.length c', .func (.func 31) #[] #[]] W fun e w' => e = .returned (.bool (sameTab s.tab t.tab)) ∧ Keeps W w') := fun W hk => eq_func _ _ _ _ W (h1.keep hk) (h2.keep hk)
  clear h1 h2
  have HS : Hid (sameSt s t = (s.at_ == t.at_ && (s.clock == t.clock && ((s.v0 == t.v0 && (s.v1 == t.v1 && (s.v2 == t.v2 && s.v3 == t.v3))) && sameTab s.tab t.tab)))) := rfl
  generalize sameSt s t = R at *
  generalize sameTab s.tab t.tab = r at *
  generalize s.tab.length = n1 at *
  generalize t.tab.length = n2 at *
  have he := eql22
  cases q1 : (s.at_ == t.at_) with
  | false =>
    have HE : R = false := by rw [HS.out, q1]; rfl
    subst HE
    clear HS
    go_enter Try.func12, Try.ntmps12
    go_wp2_with fail
    go_ret
    exact ⟨rfl, ((Keeps.refl _).alloc _).alloc _⟩
  | true =>
    cases q2 : (s.clock == t.clock) with
    | false =>
      have HE : R = false := by rw [HS.out, q1, q2]; rfl
      subst HE
      clear HS
      go_enter Try.func12, Try.ntmps12
      go_wp2_with fail
      go_ret
      exact ⟨rfl, ((Keeps.refl _).alloc _).alloc _⟩
    | true =>
      cases q3 : (s.v0 == t.v0 && (s.v1 == t.v1 && (s.v2 == t.v2 && s.v3 == t.v3))) with
      | false =>
        have HE : R = false := by rw [HS.out, q1, q2, q3]; rfl
        subst HE
        clear HS
        go_enter Try.func12, Try.ntmps12
        go_wp2_with fail
        go_ret
        exact ⟨rfl, ((Keeps.refl _).alloc _).alloc _⟩
      | true =>
        have HE : R = r := by rw [HS.out, q1, q2, q3]; rfl
        subst HE
        clear HS
        go_enter Try.func12, Try.ntmps12
        go_wp2_with fail
        refine (HP.out _ (((Keeps.refl _).alloc _).alloc _)).mono ?_
        rintro e w1 ⟨rfl, hb⟩
        have hk1 : Keeps w w1 := (((Keeps.refl _).alloc _).alloc _).trans hb
        clear hb HP
        go_wp2_with fail
        go_ret
        exact ⟨rfl, hk1⟩
end Go.Proofs.Yteabfjpajgakiab
