/- SesB, SesC, OpenSes, SesD, Ints, SuA0, SesE, SesF0. -/
import Derived.Deep.SlicePairs
import Derived.Laws.AppendOwnNone
import Derived.Test.YteabfjpajgakiagJ00
/- The reference's oneError. -/
set_option linter.unusedSimpArgs false
set_option linter.unusedVariables false
namespace Go.Proofs.Yteabfjpajgakiag
open Go.RowKit

/-- The check of what is kept, as the reference has it. -/
def refOk (lo hi : Int) : Option Int → List (Int × Int) → Bool
  | _, [] => true
  | p, (q, v) :: r => inB q lo hi && inB v (-1) 999 && (match p with | none => true | some x => decide (x < q)) && refOk lo hi (some q) r

theorem refOk_some (lo hi : Int) : ∀ (l : List (Int × Int)) (p : Int), lo ≤ p + 1 → keptOk hi (p + 1) l = refOk lo hi (some p) l
  | [], _, _ => rfl
  | (q, v) :: r, p, h => by
    simp only [keptOk, refOk]
    by_cases hq : p + 1 ≤ q
    · rw [refOk_some lo hi r q (by omega)]
      have e : inB q (p + 1) hi = (inB q lo hi && decide (p < q)) := by
        rw [Bool.eq_iff_iff]; simp [inB]; omega
      rw [e]
      cases inB q lo hi <;> cases decide (p < q) <;> cases inB v (-1) 999 <;> simp
    · have e1 : inB q (p + 1) hi = false := by simp [inB]; omega
      have e2 : decide (p < q) = false := by simp; omega
      simp [e1, e2]

theorem refOk_none (lo hi : Int) (l : List (Int × Int)) : keptOk hi lo l = refOk lo hi none l := by
  cases l with
  | nil => rfl
  | cons x r =>
    obtain ⟨q, v⟩ := x
    simp only [keptOk, refOk]
    by_cases hq : lo ≤ q
    · rw [refOk_some lo hi r q (by omega)]; simp
    · have e1 : inB q lo hi = false := by simp [inB]; omega
      simp [e1]

/-- The number ahead of place k. -/
def prevOf (l : List (Int × Int)) : Nat → Option Int
  | 0 => none
  | j + 1 => (l[j]?).map (·.1)

theorem refOk_at {lo hi : Int} {p : Option Int} {kept : List (Int × Int)} {k : Nat} (h : k < kept.length) :
    refOk lo hi p (kept.drop k) = (inB (kept[k]).1 lo hi && inB (kept[k]).2 (-1) 999 && (match p with | none => true | some x => decide (x < (kept[k]).1)) && refOk lo hi (prevOf kept (k + 1)) (kept.drop (k + 1))) := by
  rw [List.drop_eq_getElem_cons h]
  simp [refOk, prevOf, h]

end Go.Proofs.Yteabfjpajgakiag

/- sess.Check and the reference's TableError. -/
set_option linter.unusedSimpArgs false
set_option linter.unusedVariables false
namespace Go.Proofs.Yteabfjpajgakiag
open Go.RowKit

theorem KeptsAt.len {w : World} : ∀ {L : List Ses} {ks : List Value}, KeptsAt w L ks → ks.length = L.length
  | [], [], _ => rfl
  | _ :: r, _ :: ks, h => by simp [KeptsAt.len h.2]

theorem KeptsAt.at {w : World} : ∀ {L : List Ses} {ks : List Value} (h : KeptsAt w L ks) (i : Nat) (hi : i < L.length) (hi' : i < ks.length), KeptAt w (ks[i]) (L[i]).kept
  | _ :: _, _ :: _, h, 0, _, _ => h.1
  | _ :: _, _ :: _, h, i + 1, hi, hi' => KeptsAt.at h.2 i (by simpa using hi) (by simpa using hi')

theorem sesCells_at : ∀ (L : List Ses) (ks : List Value) (i : Nat) (h : i < L.length) (h' : i < ks.length),
    (sesCells L ks)[4 * i]? = some (.int .i64 (L[i]).client) ∧ (sesCells L ks)[4 * i + 1]? = some (.int .i64 (L[i]).acked) ∧ (sesCells L ks)[4 * i + 2]? = some (.int .i64 (L[i]).seen) ∧ (sesCells L ks)[4 * i + 3]? = some (ks[i])
  | s :: r, k :: ks, 0, _, _ => ⟨rfl, rfl, rfl, rfl⟩
  | s :: r, k :: ks, i + 1, h, h' => by
    have := sesCells_at r ks i (by simpa using h) (by simpa using h')
    rw [show 4 * (i + 1) = 4 * i + 1 + 1 + 1 + 1 from by omega]
    exact ⟨by simpa [sesCells] using this.1, by simpa [sesCells] using this.2.1, by simpa [sesCells] using this.2.2.1, by simpa [sesCells] using this.2.2.2⟩

/-- The sessions of a table, in memory. -/
theorem TabAt.at {w : World} {v : Value} {L : List Ses} (h : TabAt w v L) {k : Nat} (hk : k < L.length) :
    ∃ b off cap, v = .slice (some ⟨b, off, none⟩) L.length cap ∧
      ∀ i (hi : i < L.length), w.cell? ⟨b, off + i * 4, none⟩ = some (.int .i64 (L[i]).client) ∧ w.cell? ⟨b, off + i * 4 + 1, none⟩ = some (.int .i64 (L[i]).acked) ∧
        w.cell? ⟨b, off + i * 4 + 2, none⟩ = some (.int .i64 (L[i]).seen) ∧ ∃ ka kc, w.cell? ⟨b, off + i * 4 + 3, none⟩ = some (.slice ka (L[i]).kept.length kc) ∧ KeptAt w (.slice ka (L[i]).kept.length kc) (L[i]).kept := by
  obtain ⟨ks, hks, hrow⟩ := h
  have hlen := hks.len
  obtain ⟨b, off, cap, rfl, h3⟩ := hrow.plain (by rw [hrow.1]; omega)
  refine ⟨b, off, cap, rfl, fun i hi => ?_⟩
  have hi' : i < ks.length := by rw [hlen]; exact hi
  have e := sesCells_at L ks i hi hi'
  rw [Nat.mul_comm i 4]
  have hk := hks.at i hi hi'
  obtain ⟨ka, kc, hkv, _⟩ := hk.len
  exact ⟨h3 _ _ e.1, h3 _ _ e.2.1, h3 _ _ e.2.2.1, ka, kc, hkv ▸ h3 _ _ e.2.2.2, hkv ▸ hk⟩

theorem TabAt.len {w : World} {v : Value} {L : List Ses} (h : TabAt w v L) : ∃ a cap, v = .slice a L.length cap ∧ L.length ≤ maxLen := by
  obtain ⟨ks, _, h⟩ := h
  exact h.len

def firstErr : List Ses → Int
  | [] => 0
  | s :: r => if sesErr s == 0 then firstErr r else sesErr s
def rising : List Ses → Bool
  | a :: b :: r => decide (a.client < b.client) && rising (b :: r)
  | _ => true
def tabErr (L : List Ses) : Int := if 3 < L.length then 2 else if firstErr L == 0 then (if rising L then 0 else 1) else firstErr L

theorem firstErr_at {L : List Ses} {k : Nat} (h : k < L.length) : firstErr (L.drop k) = if sesErr (L[k]) == 0 then firstErr (L.drop (k + 1)) else sesErr (L[k]) := by
  rw [List.drop_eq_getElem_cons h]; rfl
theorem rising_at {L : List Ses} {k : Nat} (h : k + 1 < L.length) : rising (L.drop k) = (decide ((L[k]).client < (L[k + 1]).client) && rising (L.drop (k + 1))) := by
  rw [List.drop_eq_getElem_cons (show k < L.length from by omega), List.drop_eq_getElem_cons h]; rfl
theorem rising_end {L : List Ses} {k : Nat} (h : L.length ≤ k + 1) : rising (L.drop k) = true := by
  by_cases hk : k < L.length
  · rw [List.drop_eq_getElem_cons hk, List.drop_of_length_le (by omega)]; rfl
  · rw [List.drop_of_length_le (by omega)]; rfl

set_option maxHeartbeats 2000000 in
theorem sess_check (L : List Ses) (v : Value) (w : World) (hT : TabAt w v L) :
    Calls Try.prog 56 #[v] w fun e w' => e = .returned (.int .i64 (tabErr L)) ∧ Keeps w w' := by
  obtain ⟨a, cap, rfl, hlen⟩ := hT.len
  unfold maxLen at hlen
  have HT : Hid (TabAt w (.slice a L.length cap) L) := hT
  clear hT
  by_cases h3 : 3 < L.length
  · have HE : Hid (tabErr L = 2) := by simp [Hid, tabErr, h3]
    go_enter Try.func56, Try.ntmps56
    go_wp2_with fail
    go_ret
    exact ⟨ret_int HE.out.symm, Keeps.refl _⟩
  · go_enter Try.func56, Try.ntmps56
    go_wp2_with fail
    go_loopw [12] (fun i wr => ∃ (k : Nat), k ≤ L.length ∧ i = .int .i64 k ∧ Keeps w wr ∧ Hid (firstErr L = firstErr (L.drop k))) (fun i _ => L.length - (intOf i).toNat)
    case atStart => exact ⟨0, Nat.zero_le _, rfl, Keeps.refl _, rfl⟩
    case round =>
      obtain ⟨k, hk, rfl, hkw, HQ⟩ := hrel
      by_cases hlt : k < L.length
      · obtain ⟨b, off, cap', hv, hcell⟩ := (HT.out.keep hkw).at hlt
        injection hv with hv1 hv2 hv3
        subst hv1
        clear hv2 hv3
        obtain ⟨c0, c1, c2, ka, kc, c3, hkv⟩ := hcell k hlt
        clear hcell
        have HKV : Hid (KeptAt wr (.slice ka (L[k]).kept.length kc) (L[k]).kept) := hkv
        clear hkv
        have HR : Hid (firstErr L = if sesErr (L[k]) == 0 then firstErr (L.drop (k + 1)) else sesErr (L[k])) := HQ.out.trans (firstErr_at hlt)
        clear HQ
        generalize L[k] = s at *
        go_wp2_with fail
        refine (check_one s _ _ (HKV.out.keep ((Keeps.refl _).alloc _))).mono ?_
        rintro e w1 ⟨rfl, hb⟩
        have hk1 : Keeps w w1 := (hkw.alloc _).trans hb
        cases he : (sesErr s == 0) with
        | false =>
          have he' : (sesErr s != 0) = true := by simp [bne, he]
          have HE : Hid (tabErr L = sesErr s) := by
            have hne : (firstErr L == 0) = false := by rw [HR.out]; simp [he]
            show _ = _
            simp only [tabErr, h3, if_false, hne, Bool.false_eq_true]
            rw [HR.out]; simp [he]
          go_wp2_with fail
          go_ret
          exact ⟨ret_int HE.out.symm, hk1⟩
        | true =>
          have he' : (sesErr s != 0) = false := by simp [bne, he]
          have HN : Hid (firstErr L = firstErr (L.drop (k + 1))) := by show _ = _; rw [HR.out]; simp [he]
          clear HR
          go_wp2_with fail
          go_roundw
          case rel => exact ⟨k + 1, by omega, by go_num, hk1, HN⟩
          case measure => simp [intOf]; omega
      · have HF : Hid (firstErr L = 0) := HQ.out.trans (by rw [List.drop_of_length_le (by omega)]; rfl)
        go_wp2_with fail
        go_loopw [6] (fun i wr2 => ∃ (j : Nat), (j = 0 ∨ j + 1 ≤ L.length) ∧ i = .int .i64 (j + 1 : Nat) ∧ Keeps w wr2 ∧ Hid (rising L = rising (L.drop j))) (fun i _ => L.length + 1 - (intOf i).toNat)
        case atStart => exact ⟨0, .inl rfl, rfl, hkw, rfl⟩
        case round =>
          obtain ⟨j, hj, rfl, hkw2, HQ2⟩ := hrel
          by_cases hlt2 : j + 1 < L.length
          · obtain ⟨b, off, cap', hv, hcell⟩ := (HT.out.keep hkw2).at hlt2
            injection hv with hv1 hv2 hv3
            subst hv1
            clear hv2 hv3
            have c0 := (hcell j (by omega)).1
            have c1 := (hcell (j + 1) hlt2).1
            clear hcell
            have HR2 : Hid (rising L = (decide ((L[j]).client < (L[j + 1]).client) && rising (L.drop (j + 1)))) := HQ2.out.trans (rising_at hlt2)
            clear HQ2
            generalize (L[j]).client = x at *
            generalize (L[j + 1]).client = y at *
            cases hd : decide (x < y) with
            | false =>
              have hd' : decide (y ≤ x) = true := by simp at hd ⊢; omega
              have HE : Hid (tabErr L = 1) := by
                show _ = _
                have hr : rising L = false := by rw [HR2.out, hd]; rfl
                simp [tabErr, h3, HF.out, hr]
              clear HR2 hd
              go_wp2_with fail
              go_quiet (fail)
              go_wp2_with fail
              go_ret
              exact ⟨ret_int HE.out.symm, hkw2.drewN _⟩
            | true =>
              have hd' : decide (y ≤ x) = false := by simp at hd ⊢; omega
              have HN : Hid (rising L = rising (L.drop (j + 1))) := by show _ = _; rw [HR2.out, hd]; rfl
              clear HR2 hd
              go_wp2_with fail
              go_quiet (fail)
              go_wp2_with fail
              go_roundw
              case rel => exact ⟨j + 1, by omega, by go_num, hkw2.drewN _, HN⟩
              case measure => simp [intOf]; omega
          · have HE : Hid (tabErr L = 0) := by
              show _ = _
              have hr : rising L = true := by rw [HQ2.out]; exact rising_end (by omega)
              simp [tabErr, h3, HF.out, hr]
            go_wp2_with fail
            go_ret
            exact ⟨ret_int HE.out.symm, hkw2⟩

end Go.Proofs.Yteabfjpajgakiag

/- The arguments of a law: a table of sessions, a session. -/
set_option linter.unusedSimpArgs false
set_option linter.unusedVariables false
set_option maxRecDepth 100000
namespace Go.Proofs.Yteabfjpajgakiag
open Go.ChangeShapes Go.WideShapes Go.ChangeAt Go.RowKit Go.Joins Go.Deep

section
variable {H : Type} {enc : TypeId × Value → H} {w : World} {base : Nat} {spare : Nat → Bool} {held : Bool}

theorem cells34 : Try.prog.cellsOf 82 = 4 := by kernel_rfl
theorem cells61 : Try.prog.cellsOf 109 = 2 := by kernel_rfl
theorem cells32 : Try.prog.cellsOf 80 = 1 := by kernel_rfl

instance : Inhabited Ses := ⟨⟨0, 0, 0, []⟩⟩

/-- The answers kept. -/
theorem open_kept {n : Nat} {v : Value} {y : DataW H × List MemPlace} (h : DataW.trod enc Try.prog w base spare held n 80 [v] = some y) : ∃ l, KeptAt w v l := by
  rcases open_slice_pairs Try.underlying80 Try.underlying109 cells61 rfl rfl cells3 cells3 h with ⟨h0, _⟩ | ⟨a, len, cap, m, k, V0, V1, D0, D1, P0, P1, hv, _, hl, hm, hmm, _, hx⟩
  · obtain rfl : v = .slice none 0 0 := by simpa using h0
    exact ⟨[], kept_nil w⟩
  · obtain rfl : v = .slice (some a) len cap := by simpa using hv
    have hlm : len ≤ m := by rw [hmm]; split <;> omega
    refine ⟨(List.range len).map fun i => (intOf (V0 i), intOf (V1 i)), repCells_len _, by simp; omega, .inr ⟨a, cap, by simp, fun j u hu => ?_⟩⟩
    have hj : j < len * 2 := by
      have := (List.getElem?_eq_some_iff.1 hu).1
      rw [repCells_len] at this
      simpa using this
    have hi : j / 2 < len := by omega
    obtain ⟨c0, c1, t0, t1⟩ := hx (j / 2) (by omega)
    obtain ⟨q, hq⟩ := one_int t0
    obtain ⟨q', hq'⟩ := one_int t1
    have e := repCells_at ((List.range len).map fun i => (intOf (V0 i), intOf (V1 i))) (j / 2) q q' (by simp [hi, hq, hq', intOf])
    rcases Nat.mod_two_eq_zero_or_one j with h2 | h2
    · have hj2 : 2 * (j / 2) = j := by omega
      rw [hj2, hu] at e
      rw [show j / 2 * 2 = j by omega, hq] at c0
      rw [c0]
      exact e.1.symm
    · have hj2 : 2 * (j / 2) + 1 = j := by omega
      rw [hj2, hu] at e
      rw [show j / 2 * 2 + 1 = j by omega, hq'] at c1
      rw [c1]
      exact e.2.symm

/-- A session, by value. -/
theorem open_ses {r : Reach} {b0 : Nat} {v : Value} {d : DataW H} {p : List MemPlace} (hv : Value.okWide Try.prog w r b0 82 v) (h : DataW.Trod enc Try.prog w base spare held 82 v d p) :
    ∃ (s : Ses) (kv : Value), v = sesV s kv ∧ KeptAt w kv s.kept := by
  obtain ⟨v0, v1, v2, v3, y0, y1, y2, y3, m, rfl, _, _, h0, h1, h2, h3⟩ := open_agg4 Try.underlying82 (by kernel_rfl) cells34 hv h
  obtain ⟨a0, rfl⟩ := one_int h0
  obtain ⟨a1, rfl⟩ := one_int h1
  obtain ⟨a2, rfl⟩ := one_int h2
  obtain ⟨l, hl⟩ := open_kept h3
  exact ⟨⟨a0, a1, a2, l⟩, v3, rfl, hl⟩

theorem keptsAt_map (S : Nat → Ses) (K : Nat → Value) : ∀ r : List Nat, (∀ i ∈ r, KeptAt w (K i) (S i).kept) → KeptsAt w (r.map S) (r.map K)
  | [], _ => trivial
  | i :: r, h => ⟨h i (by simp), keptsAt_map S K r fun j hj => h j (by simp [hj])⟩

theorem sesCells_len : ∀ (L : List Ses) (ks : List Value), ks.length = L.length → (sesCells L ks).length = L.length * 4
  | [], [], _ => rfl
  | s :: L, k :: ks, h => by simp [sesCells, sesCells_len L ks (by simpa using h)]; omega

/-- A table of sessions. -/
theorem open_tab {r : Reach} {b0 : Nat} {v : Value} {d : DataW H} {p : List MemPlace} (hv : Value.okWide Try.prog w r b0 45 v) (h : DataW.Trod enc Try.prog w base spare held 45 v d p) :
    ∃ L, TabAt w v L := by
  obtain ⟨va, vl, vc, rfl⟩ := okWide_slice Try.underlying45 hv
  obtain ⟨n, hn⟩ := field_of_Trod h (by simp [Value.cells])
  rcases open_slice Try.underlying45 hn with ⟨h0, _⟩ | ⟨a, len, cap, m, k, D, Pl, hv', _, hl, hm, hmm, _, hx⟩
  · obtain ⟨rfl, rfl, rfl⟩ : va = none ∧ vl = 0 ∧ vc = 0 := by simpa using h0
    exact ⟨[], [], trivial, rfl, by unfold maxLen; simp, .inl ⟨rfl, rfl⟩⟩
  · obtain ⟨rfl, rfl, rfl⟩ : va = some a ∧ vl = len ∧ vc = cap := by simpa using hv'
    have hlm : vl ≤ m := by rw [hmm]; split <;> omega
    have each : ∀ i, i < vl → ∃ q : Ses × Value, KeptAt w q.2 q.1.kept ∧ w.cell? (a.add (i * 4)) = some (.int .i64 q.1.client) ∧ w.cell? (a.add (i * 4 + 1)) = some (.int .i64 q.1.acked) ∧ w.cell? (a.add (i * 4 + 2)) = some (.int .i64 q.1.seen) ∧ w.cell? (a.add (i * 4 + 3)) = some q.2 := by
      intro i hi
      obtain ⟨cs', h1, h2⟩ := hx i (by omega)
      rw [cells34] at h1
      obtain ⟨_, hlen, hcell⟩ := World.cells?_some h1
      obtain ⟨y0, y1, y2, y3, n', _, _, g0, g1, g2, g3⟩ := trod_struct4 Try.underlying82 h2
      match cs', hlen with
      | [v0, v1, v2, v3], _ =>
        simp only [cells3, cells32, List.drop_zero, List.drop_succ_cons, List.take_succ_cons, List.take_zero] at g0 g1 g2 g3
        have e0 := hcell 0 (by omega)
        have e1 := hcell 1 (by omega)
        have e2 := hcell 2 (by omega)
        have e3 := hcell 3 (by omega)
        rw [add_add] at e0 e1 e2 e3
        obtain ⟨a0, rfl⟩ := one_int g0
        obtain ⟨a1, rfl⟩ := one_int g1
        obtain ⟨a2, rfl⟩ := one_int g2
        obtain ⟨l, hl⟩ := open_kept g3
        exact ⟨(⟨a0, a1, a2, l⟩, v3), hl, by simpa using e0, by simpa using e1, by simpa using e2, by simpa using e3⟩
    obtain ⟨q, hq⟩ := choose_lt each
    refine ⟨(List.range vl).map fun i => (q i).1, (List.range vl).map fun i => (q i).2, keptsAt_map _ _ _ fun i hi => (hq i (by simpa using hi)).1, ?_⟩
    have hLen : (sesCells ((List.range vl).map fun i => (q i).1) ((List.range vl).map fun i => (q i).2)).length = ((List.range vl).map fun i => (q i).1).length * 4 := sesCells_len _ _ (by simp)
    refine ⟨hLen, by simp; omega, .inr ⟨a, vc, by simp, fun j u hu => ?_⟩⟩
    have hj : j < vl * 4 := by
      have := (List.getElem?_eq_some_iff.1 hu).1
      rw [hLen] at this
      simpa using this
    have hi : j / 4 < vl := by omega
    obtain ⟨_, c0, c1, c2, c3⟩ := hq (j / 4) hi
    obtain ⟨e0, e1, e2, e3⟩ := sesCells_at ((List.range vl).map fun i => (q i).1) ((List.range vl).map fun i => (q i).2) (j / 4) (by simpa using hi) (by simpa using hi)
    simp only [List.getElem_map, List.getElem_range] at e0 e1 e2 e3
    rcases (show j % 4 = 0 ∨ j % 4 = 1 ∨ j % 4 = 2 ∨ j % 4 = 3 by omega) with h2 | h2 | h2 | h2
    · rw [show 4 * (j / 4) = j by omega, hu] at e0
      rw [show j / 4 * 4 = j by omega] at c0
      rw [c0]; exact e0.symm
    · rw [show 4 * (j / 4) + 1 = j by omega, hu] at e1
      rw [show j / 4 * 4 + 1 = j by omega] at c1
      rw [c1]; exact e1.symm
    · rw [show 4 * (j / 4) + 2 = j by omega, hu] at e2
      rw [show j / 4 * 4 + 2 = j by omega] at c2
      rw [c2]; exact e2.symm
    · rw [show 4 * (j / 4) + 3 = j by omega, hu] at e3
      rw [show j / 4 * 4 + 3 = j by omega] at c3
      rw [c3]; exact e3.symm
end

end Go.Proofs.Yteabfjpajgakiag

/- A session of its own memory: sess.twin, the reference's ownSession. -/
set_option linter.unusedSimpArgs false
set_option linter.unusedVariables false
namespace Go.Proofs.Yteabfjpajgakiag
open Go.RowKit

theorem infoRep : (Try.prog.info? 109).map (fun i => (i.zero, i.size, i.bytes)) = some (some (.agg #[.int .i64 0, .int .i64 0]), 2, 16) := by kernel_rfl
theorem infoSes : (Try.prog.info? 82).map (fun i => (i.zero, i.size, i.bytes)) = some (some (.agg #[.int .i64 0, .int .i64 0, .int .i64 0, .slice none 0 0]), 4, 48) := by kernel_rfl

theorem RowAt.of_owns {w : World} {base : Nat} {e : TypeId} {size : Nat} {v : Value} {n : Nat} {xs : List Value} (h : w.ownsRow base e size v n xs) : RowAt w size v n xs := by
  have hc := fun g => h.cells (g := g)
  obtain ⟨h1, h2⟩ := h
  rcases h2 with ⟨rfl, rfl⟩ | ⟨g, cap, cur, rfl, _, _, hnc, hcm, _, _⟩
  · exact ⟨h1, by unfold maxLen; omega, .inl ⟨rfl, rfl⟩⟩
  · exact ⟨h1, Nat.le_trans hnc hcm, .inr ⟨_, cap, rfl, fun j u hu => hc g rfl j u hu⟩⟩

theorem owns_base {w : World} {base base' : Nat} {e : TypeId} {size : Nat} {v : Value} {n : Nat} {xs : List Value} (h : w.ownsRow base e size v n xs) (hb : base' ≤ base) : w.ownsRow base' e size v n xs := by
  obtain ⟨h1, h2⟩ := h
  refine ⟨h1, ?_⟩
  rcases h2 with h2 | ⟨g, cap, cur, hv, hg, r⟩
  · exact .inl h2
  · exact .inr ⟨g, cap, cur, hv, Nat.le_trans hb hg, r⟩

theorem keeps_grown {w w' : World} {v : Value} {a : World} (ha : Keeps a w) (hg : w.grownBy w' v.ownBlock) (hb : ∀ k, v.ownBlock = some k → a.heap.size ≤ k) : Keeps a w' :=
  Below.grown ha hg ha.size hb

/-- 'append(v, x...)', v the call's own, x whatever is read. -/
theorem run_append_read (w : World) (base : Nat) (t ty e : TypeId) (size bytes : Nat) (z : Value) (hinfo : (Try.prog.info? e).map (fun i => (i.zero, i.size, i.bytes)) = some (some z, size, bytes))
    (ht : Try.prog.underlying t = some (.slice e)) (hzs : z.cells.size = size) (hsz : 0 < size)
    (v : Value) (m : Nat) (ys : List Value) (hown : w.ownsRow base e size v m ys) (x : Value) (n : Nat) (xs : List Value) (hx : RowAt w size x n xs) (h1 : ∀ u ∈ xs, u.oneCell' = true)
    (h63 : m + n ≤ maxLen) (hbytes : (m + n) * bytes ≤ 140737488355328) (hbase : base ≤ w.heap.size) :
    ∃ v' w', (Builtin.append_ #[t, t] ty #[v, x]).run Try.prog w = .ok v' w' ∧ w'.ownsRow base e size v' (m + n) (ys ++ xs) ∧ w.grownBy w' v.ownBlock := by
  obtain ⟨i, hi, hz, hs, hb⟩ := info_parts hinfo
  rcases hx.2.2 with ⟨rfl, rfl⟩ | ⟨a, cap, rfl, hc⟩
  · have hx0 : xs = [] := List.eq_nil_of_length_eq_zero (by simpa using hx.1)
    subst hx0
    refine ⟨v, w, run_append_owned_none (P := Try.prog) w base t ty e i size ht hi v m ys hown, by simpa using hown, ⟨rfl, rfl, rfl, Nat.le_refl _, fun _ _ _ => rfl⟩⟩
  · obtain ⟨v', w', hr, ho, hg, _⟩ := run_append_own (P := Try.prog) w base t ty e i z size bytes ht hi hz hs hb hzs hsz v m ys hown a n cap xs hx.1 hc h1 h63 hbytes hbase
    exact ⟨v', w', hr, ho, hg⟩

/-- An append whose run is known. -/
theorem wpList_append_run {P : Program} {w w' : World} {ops : Array Oper} {rest : List Oper} {o : Oper} {a : Act} {Q : Exit → Act → World → Prop} {v x v' : Value} (hgd : o.guard = none) (s y : Operand) (t : TypeId)
    (ho : o.op = .call { callee := .builtin .append, args := #[s, y], argTypes := #[t, t] }) (hs : a.eval s = v) (hx : a.eval y = x)
    (hr : (Builtin.append_ #[t, t] o.type #[v, x]).run P w = .ok v' w') (h : wpList P ops Q rest (a.put o.dst v') w') : wpList P ops Q (o :: rest) a w := by
  refine wpList_plain hgd fun K hK => ?_
  unfold Oper.wp
  simp [execOp, ho, resolve, invoke, builtin, hs, hx, hr, Result.andThen]
  exact hK _ _ h

theorem repCells_one : ∀ (l : List (Int × Int)), ∀ u ∈ repCells l, u.oneCell' = true
  | [], u, h => by simp [repCells] at h
  | (q, v) :: r, u, h => by
    simp only [repCells, List.mem_cons] at h
    rcases h with rfl | rfl | h
    · rfl
    · rfl
    · exact repCells_one r u h

set_option maxHeartbeats 1000000 in
theorem twin_c (s : Ses) (kv : Value) (w : World) (hk : KeptAt w kv s.kept) (hn : s.kept.length ≤ 3) :
    Calls Try.prog 47 #[sesV s kv] w fun e w' => ∃ kv', w'.ownsRow w.heap.size 109 2 kv' s.kept.length (repCells s.kept) ∧ e = .returned (sesV s kv') ∧ Keeps w w' := by
  obtain ⟨ka, kc, rfl, hlen⟩ := hk.len
  have hkW : KeptAt ((w.alloc (.cells #[.int .i64 s.client, .int .i64 s.acked, .int .i64 s.seen, .slice ka s.kept.length kc] 82)).alloc (.cells #[.int .i64 0, .int .i64 0, .int .i64 0, .slice none 0 0] 82)) (.slice ka s.kept.length kc) s.kept := hk.keep (((Keeps.refl _).alloc _).alloc _)
  obtain ⟨v', w', hr, ho, hg⟩ := run_append_read ((w.alloc (.cells #[.int .i64 s.client, .int .i64 s.acked, .int .i64 s.seen, .slice ka s.kept.length kc] 82)).alloc (.cells #[.int .i64 0, .int .i64 0, .int .i64 0, .slice none 0 0] 82)) (w.heap.size + 2) 80 80 109 2 16 _ infoRep Try.underlying80 rfl (by decide) (.slice none 0 0) 0 [] (World.ownsRow_nil _ _ _ _) _ _ _ hkW (repCells_one _) (by unfold maxLen; omega) (by omega) (by simp)
  simp only [Nat.zero_add, List.nil_append] at ho
  clear hkW hk
  obtain ⟨va, vc, rfl⟩ : ∃ va vc, v' = .slice va s.kept.length vc := by obtain ⟨x, y, h, _⟩ := (RowAt.of_owns ho).len; exact ⟨x, y, h⟩
  have hkp : Keeps ((w.alloc (.cells #[.int .i64 s.client, .int .i64 s.acked, .int .i64 s.seen, .slice ka s.kept.length kc] 82)).alloc (.cells #[.int .i64 0, .int .i64 0, .int .i64 0, .slice none 0 0] 82)) w' := keeps_grown (Keeps.refl _) hg (fun k h => by cases h)
  have Hr := (show Hid (_ = _) from hr)
  clear hr hg
  obtain ⟨hc, hf⟩ := hkp.cells
  have hz := hkp.size
  simp only [World.size_alloc] at hc hf hz
  have hz1 : w.heap.size < w'.heap.size := by omega
  have hz2 : w.heap.size + 1 < w'.heap.size := by omega
  have hk' : Keeps w w' := (((Keeps.refl _).alloc _).alloc _).trans hkp
  have hq : w'.cell? ⟨w.heap.size, 3, none⟩ = some (.slice ka s.kept.length kc) := by rw [hc _ _ (by omega)]; simp [go_sem]
  have hs := World.cell?_setCell_same w' ⟨w.heap.size, 3, none⟩ (.slice va s.kept.length vc) hq
  clear hq
  go_enter Try.func47, Try.ntmps47
  go_wp2_with (at_builtin; refine wpList_append_run rfl _ _ _ rfl rfl rfl Hr.out ?_)
  refine bodyPost_ret (v := sesV s (.slice va s.kept.length vc)) ?_ rfl ?_
  · simp [results, Try.results47, go_sem, hc]
  · refine ⟨.slice va s.kept.length vc, ?_, rfl, ?_⟩
    · refine owns_base (base := w.heap.size + 2) ?_ (by omega)
      repeat refine ownsRow_setCell_below ?_ (by simp <;> omega) _
      exact ho
    · repeat refine Keeps.set ?_ (by simp <;> omega) _
      exact hk'

end Go.Proofs.Yteabfjpajgakiag

/- Rows of numbers; SameInts. -/
set_option linter.unusedSimpArgs false
set_option linter.unusedVariables false
set_option maxRecDepth 10000
namespace Go.Proofs.Yteabfjpajgakiag
open Go.RowKit

theorem infoInt : (Try.prog.info? 3).map (fun i => (i.zero, i.size, i.bytes)) = some (some (.int .i64 0), 1, 8) := by kernel_rfl
def intCells (l : List Int) : List Value := l.map (fun n => .int .i64 n)

def IntsAt (w : World) (v : Value) (l : List Int) : Prop := RowAt w 1 v l.length (intCells l)
theorem IntsAt.keep {w w' : World} {v : Value} {l : List Int} (h : IntsAt w v l) (hk : Keeps w w') : IntsAt w' v l := RowAt.keep h hk
theorem IntsAt.of {w : World} {base : Nat} {v : Value} {l : List Int} (h : w.ownsRow base 3 1 v l.length (intCells l)) : IntsAt w v l := RowAt.of_owns h
theorem IntsAt.at {w : World} {v : Value} {l : List Int} (h : IntsAt w v l) {k : Nat} (hk : k < l.length) : ∃ b off cap, v = .slice (some ⟨b, off, none⟩) l.length cap ∧ w.cell? ⟨b, off + k, none⟩ = some (.int .i64 (l[k])) := by
  obtain ⟨b, off, cap, rfl, h3⟩ := RowAt.plain h (by simp [intCells]; omega)
  exact ⟨b, off, cap, rfl, h3 k _ (by simp [intCells, List.getElem?_eq_getElem hk])⟩

def sameInts : List Int → List Int → Bool
  | [], [] => true
  | a :: r, b :: r' => a == b && sameInts r r'
  | _, _ => false
theorem sameInts_iff : ∀ {l m : List Int}, sameInts l m = true ↔ l = m
  | [], [] => by simp [sameInts]
  | [], _ :: _ => by simp [sameInts]
  | _ :: _, [] => by simp [sameInts]
  | a :: r, b :: r' => by simp [sameInts, sameInts_iff (l := r) (m := r')]
theorem sameInts_len {l m : List Int} (h : l.length ≠ m.length) : sameInts l m = false := by
  cases q : sameInts l m with
  | false => rfl
  | true => rw [sameInts_iff.1 q] at h; exact absurd rfl h
theorem sameInts_at {l m : List Int} {k : Nat} (hl : k < l.length) (hm : k < m.length) : sameInts (l.drop k) (m.drop k) = (l[k] == m[k] && sameInts (l.drop (k + 1)) (m.drop (k + 1))) := by
  rw [List.drop_eq_getElem_cons hl, List.drop_eq_getElem_cons hm]
  rfl

set_option maxHeartbeats 2000000 in
theorem same_ints (l m : List Int) (x y : Value) (w : World) (hx : IntsAt w x l) (hy : IntsAt w y m) : Calls Try.prog 27 #[x, y] w fun e w' => e = .returned (.bool (sameInts l m)) ∧ Keeps w w' := by
  obtain ⟨xa, xc, rfl, hlen⟩ := RowAt.len hx
  obtain ⟨ya, yc, rfl, hlem⟩ := RowAt.len hy
  unfold maxLen at hlen hlem
  have HX : Hid (IntsAt w (.slice xa l.length xc) l) := hx
  have HY : Hid (IntsAt w (.slice ya m.length yc) m) := hy
  clear hx hy
  by_cases hll : l.length = m.length
  · rw [← hll] at HY ⊢
    have HLL : Hid (l.length = m.length) := hll
    clear hll hlem
    go_enter Try.func27, Try.ntmps27
    go_wp2_with fail
    go_loopw [5] (fun i wr => ∃ (k : Nat), k ≤ l.length ∧ i = .int .i64 k ∧ Hid (Keeps w wr) ∧ Hid (sameInts l m = sameInts (l.drop k) (m.drop k))) (fun i _ => l.length - (intOf i).toNat)
    case atStart => exact ⟨0, Nat.zero_le _, rfl, Keeps.refl _, rfl⟩
    case round =>
      obtain ⟨k, hk, rfl, HK, HQ⟩ := hrel
      by_cases hlt : k < l.length
      · have hlt2 : k < m.length := by have := HLL.out; omega
        obtain ⟨b1, o1, p1, hv1, c1⟩ := (HX.out.keep HK.out).at hlt
        obtain ⟨b2, o2, p2, hv2, c2⟩ := (HY.out.keep HK.out).at hlt2
        injection hv1 with hv1 ea eb
        injection hv2 with hv2 ec ed
        subst hv1 hv2
        clear ea eb ec ed
        have HR : Hid (sameInts l m = (l[k] == m[k] && sameInts (l.drop (k + 1)) (m.drop (k + 1)))) := HQ.out.trans (sameInts_at hlt hlt2)
        clear HQ
        generalize l[k] = u at *
        generalize m[k] = v at *
        clear hlt2
        cases hq : (u == v) with
        | true =>
          have hq' : (u != v) = false := by simp [bne, hq]
          have HN : Hid (sameInts l m = sameInts (l.drop (k + 1)) (m.drop (k + 1))) := by show _ = _; rw [HR.out, hq]; rfl
          go_wp2_with fail
          go_quiet (fail)
          go_wp2_with fail
          go_roundw
          case rel => exact ⟨k + 1, by omega, by go_num, HK.out.drewN _, HN⟩
          case measure => simp [intOf]; omega
        | false =>
          have hq' : (u != v) = true := by simp [bne, hq]
          have HN : Hid (sameInts l m = false) := by show _ = _; rw [HR.out, hq]; rfl
          go_wp2_with fail
          go_quiet (fail)
          go_wp2_with fail
          go_ret
          rw [HN.out]
          exact ⟨rfl, HK.out.drewN _⟩
      · have HN : Hid (sameInts l m = true) := by show _ = _; rw [HQ.out, List.drop_of_length_le (by omega), List.drop_of_length_le (by have := HLL.out; omega)]; rfl
        go_wp2_with fail
        go_ret
        rw [HN.out]
        exact ⟨rfl, HK.out⟩
  · have HN : Hid (sameInts l m = false) := sameInts_len hll
    go_enter Try.func27, Try.ntmps27
    go_wp2_with fail
    go_ret
    rw [HN.out]
    exact ⟨rfl, Keeps.refl _⟩

end Go.Proofs.Yteabfjpajgakiag

/- Clients: plain mathematics. -/
set_option linter.unusedSimpArgs false
set_option linter.unusedVariables false
set_option maxRecDepth 10000
namespace Go.Proofs.Yteabfjpajgakiag
open Go.RowKit

structure Stu where
  client : Int
  next : Int
  came : List Int

abbrev stuV (s : Stu) (t : Value) : Value := .agg #[.int .i64 s.client, .int .i64 s.next, t]
def zeroStu : Stu := ⟨0, 0, []⟩

def cameOk (nx : Int) : Int → List Int → Bool
  | _, [] => true
  | p, n :: r => inB n (p + 1) (nx - 1) && cameOk nx n r
def stuErr (s : Stu) : Int := if inB s.client 1 5 && inB s.next 1 61 then (if cameOk s.next 0 s.came then 0 else 1) else 3

theorem cameOk_at {nx p : Int} {l : List Int} {k : Nat} (hk : k < l.length) : cameOk nx p (l.drop k) = (inB (l[k]) (p + 1) (nx - 1) && cameOk nx (l[k]) (l.drop (k + 1))) := by
  rw [List.drop_eq_getElem_cons hk]
  rfl

/-- As the reference says it. -/
def refCame (nx : Int) : Option Int → List Int → Bool
  | _, [] => true
  | p, n :: r => inB n 1 (nx - 1) && ((match p with | none => true | some q => decide (q < n)) && refCame nx (some n) r)
theorem refCame_some (nx : Int) : ∀ (l : List Int) (p : Int), 0 ≤ p → cameOk nx p l = refCame nx (some p) l
  | [], _, _ => rfl
  | n :: r, p, hp => by
    by_cases hn : inB n (p + 1) (nx - 1) = true
    · have h := inB_iff.1 hn
      have h1 : inB n 1 (nx - 1) = true := inB_iff.2 ⟨by omega, h.2⟩
      have ih := refCame_some nx r n (by omega)
      simp only [cameOk, refCame, hn, h1, ih, Bool.true_and, show decide (p < n) = true from by simp; omega]
    · have hn' : inB n (p + 1) (nx - 1) = false := by simpa using hn
      simp only [cameOk, hn', Bool.false_and, refCame]
      cases h1 : inB n 1 (nx - 1) with
      | false => rfl
      | true =>
        have h1' := inB_iff.1 h1
        have : decide (p < n) = false := by
          simp only [decide_eq_false_iff_not]
          intro hlt
          exact hn (inB_iff.2 ⟨by omega, h1'.2⟩)
        simp only [this, Bool.false_and, Bool.and_false]
theorem refCame_none (nx : Int) (l : List Int) : cameOk nx 0 l = refCame nx none l := by
  cases l with
  | nil => rfl
  | cons n r =>
    simp only [cameOk, refCame, Int.zero_add, Bool.true_and]
    cases h : inB n 1 (nx - 1) with
    | false => rfl
    | true => simp only [Bool.true_and]; exact refCame_some nx r n (by have := inB_iff.1 h; omega)

/-- What rises. -/
theorem came_bounds : ∀ {nx p : Int} {l : List Int}, cameOk nx p l = true → ∀ n ∈ l, p < n ∧ n ≤ nx - 1
  | nx, p, [], _, n, h => by cases h
  | nx, p, a :: r, h, n, hn => by
    simp only [cameOk, Bool.and_eq_true] at h
    have ha := inB_iff.1 h.1
    rcases List.mem_cons.1 hn with rfl | hn
    · omega
    · have := came_bounds h.2 n hn
      omega
theorem came_sorted : ∀ {nx p : Int} {l : List Int}, cameOk nx p l = true → l.Pairwise (· < ·)
  | nx, p, [], _ => List.Pairwise.nil
  | nx, p, a :: r, h => by
    simp only [cameOk, Bool.and_eq_true] at h
    exact List.pairwise_cons.2 ⟨fun b hb => (came_bounds h.2 b hb).1, came_sorted h.2⟩

/-- Up to which number all have come: by places. -/
def ackFrom : Nat → List Int → Nat
  | i, [] => i
  | i, n :: r => if n == (i : Int) + 1 then ackFrom (i + 1) r else i
def ackOf (l : List Int) : Nat := ackFrom 0 l
theorem ackFrom_at {i : Nat} {l : List Int} {k : Nat} (hk : k < l.length) : ackFrom i (l.drop k) = if l[k] == (i : Int) + 1 then ackFrom (i + 1) (l.drop (k + 1)) else i := by
  rw [List.drop_eq_getElem_cons hk]
  rfl
theorem ackFrom_ge : ∀ (l : List Int) (i : Nat), i ≤ ackFrom i l
  | [], i => Nat.le_refl _
  | n :: r, i => by
    simp only [ackFrom]
    split
    · have := ackFrom_ge r (i + 1); omega
    · exact Nat.le_refl _
theorem ackFrom_le : ∀ (l : List Int) (i : Nat), ackFrom i l ≤ i + l.length
  | [], i => Nat.le_refl _
  | n :: r, i => by
    simp only [ackFrom, List.length_cons]
    split
    · have := ackFrom_le r (i + 1); omega
    · omega
/-- All up to it are there, the next one is not. -/
theorem ackFrom_mem : ∀ (l : List Int) (i : Nat) (j : Nat), i < j → j ≤ ackFrom i l → (j : Int) ∈ l
  | [], i, j, h1, h2 => by simp [ackFrom] at h2; omega
  | n :: r, i, j, h1, h2 => by
    simp only [ackFrom] at h2
    split at h2
    · rename_i hn
      have hn' : n = (i : Int) + 1 := by simpa using hn
      by_cases hj : j = i + 1
      · subst hj
        rw [hn']
        exact List.mem_cons_self ..
      · exact List.mem_cons_of_mem _ (ackFrom_mem r (i + 1) j (by omega) h2)
    · omega
theorem ackFrom_not : ∀ (l : List Int) (i : Nat), l.Pairwise (· < ·) → (∀ n ∈ l, (i : Int) < n) → ((ackFrom i l : Nat) : Int) + 1 ∉ l
  | [], i, _, _ => by simp
  | n :: r, i, hp, hb => by
    have hp' := List.pairwise_cons.1 hp
    simp only [ackFrom]
    split
    · rename_i hn
      have hn' : n = (i : Int) + 1 := by simpa using hn
      have hge := ackFrom_ge r (i + 1)
      intro h
      rcases List.mem_cons.1 h with h | h
      · omega
      · exact ackFrom_not r (i + 1) hp'.2 (fun m hm => by have := hp'.1 m hm; omega) h
    · rename_i hn
      have hn' : n ≠ (i : Int) + 1 := by simpa using hn
      have hi := hb n (List.mem_cons_self ..)
      intro h
      rcases List.mem_cons.1 h with h | h
      · exact hn' h.symm
      · have := hp'.1 _ h; omega
def hasI (l : List Int) (q : Int) : Bool := l.any (fun n => n == q)
theorem hasI_iff {l : List Int} {q : Int} : hasI l q = true ↔ q ∈ l := by simp [hasI]
theorem hasI_at {l : List Int} {q : Int} {k : Nat} (hk : k < l.length) : hasI (l.drop k) q = (l[k] == q || hasI (l.drop (k + 1)) q) := by
  rw [List.drop_eq_getElem_cons hk]
  rfl

theorem stu_right {s : Stu} (h : stuErr s = 0) : (1 ≤ s.client ∧ s.client ≤ 5) ∧ (1 ≤ s.next ∧ s.next ≤ 61) ∧ cameOk s.next 0 s.came = true := by
  unfold stuErr at h
  split at h
  · rename_i h1
    split at h
    · rename_i h2
      simp only [Bool.and_eq_true] at h1
      exact ⟨inB_iff.1 h1.1, inB_iff.1 h1.2, h2⟩
    · cases h
  · cases h
theorem came_len {nx p : Int} {l : List Int} (h : cameOk nx p l = true) (hp : p ≤ nx - 1) : (l.length : Int) ≤ nx - 1 - p := by
  induction l generalizing p with
  | nil => simp; omega
  | cons a r ih =>
    simp only [cameOk, Bool.and_eq_true] at h
    have ha := inB_iff.1 h.1
    have := ih h.2 (by omega)
    simp only [List.length_cons]
    omega

/-- A call of a client. -/
def stuCall (s : Stu) (time seq : Int) (o : Int × Int × Int × Int) : Ent := ⟨2, time, s.client, seq, ackOf s.came, o.1, o.2.1, o.2.2.1, o.2.2.2⟩
def zeroE : Ent := ⟨0, 0, 0, 0, 0, 0, 0, 0, 0⟩
def callE (c : Ent) : Ent := if entErr c == 0 then c else zeroE
end Go.Proofs.Yteabfjpajgakiag

/- sess.Find and the reference's FindOf. -/
set_option linter.unusedSimpArgs false
set_option linter.unusedVariables false
namespace Go.Proofs.Yteabfjpajgakiag
open Go.RowKit

theorem keptOk_len (hi : Int) : ∀ (l : List (Int × Int)) (lo : Int), keptOk hi lo l = true → (l.length : Int) ≤ max 0 (hi + 1 - lo)
  | [], lo, _ => by simp; omega
  | (q, v) :: r, lo, h => by
    simp only [keptOk, Bool.and_eq_true] at h
    have h1 := inB_iff.1 h.1.1
    have := keptOk_len hi r (q + 1) h.2
    simp only [List.length_cons]
    omega

/-- What a right session has. -/
theorem ses_right {s : Ses} (h : sesErr s = 0) : inB s.client 1 5 = true ∧ inB s.acked 0 60 = true ∧ inB s.seen 0 999 = true ∧ keptOk (min (s.acked + 3) 60) (s.acked + 1) s.kept = true := by
  unfold sesErr at h
  split at h
  · cases h
  · rename_i h1
    split at h
    · cases h
    · rename_i h2
      simp only [Bool.not_eq_true', Bool.and_eq_false_iff, not_or, Bool.not_eq_false] at h1 h2
      exact ⟨h1.1.1, h1.1.2, h1.2, h2⟩
theorem kept_le {s : Ses} (h : sesErr s = 0) : s.kept.length ≤ 3 := by
  have := keptOk_len _ _ _ (ses_right h).2.2.2
  omega

theorem firstErr_zero : ∀ {L : List Ses}, firstErr L = 0 → ∀ s ∈ L, sesErr s = 0
  | [], _, s, hs => by cases hs
  | a :: r, h, s, hs => by
    unfold firstErr at h
    cases e : (sesErr a == 0) with
    | false => rw [e] at h; simp at h; simp [h] at e
    | true =>
      rw [e] at h
      simp only [if_true] at h
      rcases List.mem_cons.1 hs with rfl | hs
      · simpa using e
      · exact firstErr_zero h s hs

/-- What a right table has. -/
theorem tab_right {L : List Ses} (h : tabErr L = 0) : L.length ≤ 3 ∧ (∀ s ∈ L, sesErr s = 0) ∧ rising L = true := by
  unfold tabErr at h
  split at h
  · cases h
  · rename_i h3
    split at h
    · rename_i hf
      split at h
      · rename_i hr
        exact ⟨by omega, firstErr_zero (by simpa using hf), hr⟩
      · cases h
    · rename_i hf
      simp only [beq_iff_eq] at hf
      exact absurd h hf

def zeroSes : Ses := ⟨0, 0, 0, []⟩
def findSes (L : List Ses) (c : Int) : Option Ses := L.find? (fun s => s.client == c)
/-- Find's answer: the session, whether it is there, the error. -/
def fndSes (L : List Ses) (c : Int) : Ses := if tabErr L == 0 then (findSes L c).getD zeroSes else zeroSes
def fndIs (L : List Ses) (c : Int) : Bool := if tabErr L == 0 then (findSes L c).isSome else false

theorem findSes_at {L : List Ses} {c : Int} {k : Nat} (h : k < L.length) : findSes (L.drop k) c = if (L[k]).client == c then some (L[k]) else findSes (L.drop (k + 1)) c := by
  rw [List.drop_eq_getElem_cons h]
  simp only [findSes, List.find?_cons]
  cases ((L[k]).client == c) <;> rfl


set_option maxHeartbeats 1000000 in
theorem find_err (L : List Ses) (v : Value) (c : Int) (w : World) (hT : TabAt w v L) (he : (tabErr L == 0) = false) :
    Calls Try.prog 79 #[v, .int .i64 c] w fun e w' => e = .returned (.tuple #[sesV zeroSes (.slice none 0 0), .bool false, .int .i64 (tabErr L)]) ∧ Keeps w w' := by
  have he' : (tabErr L != 0) = true := by simp [bne, he]
  have hT0 := hT.keep ((Keeps.refl w).alloc (.cells #[.int .i64 0, .int .i64 0, .int .i64 0, .slice none 0 0] 82))
  have HT : Hid (TabAt _ v L) := hT0
  clear hT hT0
  go_enter Try.func79, Try.ntmps79
  go_wp2_with fail
  refine (sess_check L v _ HT.out).mono ?_
  rintro e w1 ⟨rfl, hb⟩
  have hk1 : Keeps w w1 := ((Keeps.refl _).alloc _).trans hb
  obtain ⟨hc, hf⟩ := hb.cells
  have hz := hb.size
  simp only [World.size_alloc] at hc hf hz
  have hz1 : w.heap.size < w1.heap.size := by omega
  go_wp2_with fail
  refine bodyPost_ret (v := .tuple #[sesV zeroSes (.slice none 0 0), .bool false, .int .i64 (tabErr L)]) ?_ rfl ?_
  · simp [results, Try.results79, go_sem, hc, zeroSes]
  · refine ⟨rfl, ?_⟩
    repeat refine Keeps.set ?_ (by simp <;> omega) _
    exact hk1

set_option maxHeartbeats 2000000 in
theorem find_ok (L : List Ses) (v : Value) (c : Int) (w : World) (hT : TabAt w v L) (he : (tabErr L == 0) = true) :
    Calls Try.prog 79 #[v, .int .i64 c] w fun e w' => ∃ kv, KeptAt w' kv ((findSes L c).getD zeroSes).kept ∧ e = .returned (.tuple #[sesV ((findSes L c).getD zeroSes) kv, .bool (findSes L c).isSome, .int .i64 0]) ∧ Keeps w w' := by
  have he' : (tabErr L != 0) = false := by simp [bne, he]
  have he0 : tabErr L = 0 := by simpa using he
  have hR := tab_right he0
  obtain ⟨h3, hall, _⟩ := hR
  have HALL : Hid (∀ s ∈ L, sesErr s = 0) := hall
  clear hall
  obtain ⟨a, cap, rfl, hlen⟩ := hT.len
  unfold maxLen at hlen
  have hT0 := hT.keep ((Keeps.refl w).alloc (.cells #[.int .i64 0, .int .i64 0, .int .i64 0, .slice none 0 0] 82))
  have HT : Hid (TabAt (w.alloc (.cells #[.int .i64 0, .int .i64 0, .int .i64 0, .slice none 0 0] 82)) (.slice a L.length cap) L) := hT0
  clear hT hT0
  go_enter Try.func79, Try.ntmps79
  go_wp2_with fail
  refine (sess_check L _ _ HT.out).mono ?_
  rintro e w1 ⟨rfl, hb1⟩
  have HB1 : Hid (Keeps (w.alloc (.cells #[.int .i64 0, .int .i64 0, .int .i64 0, .slice none 0 0] 82)) w1) := hb1
  clear hb1
  go_wp2_with fail
  go_loopw [18] (fun i wr => ∃ (k : Nat), k ≤ L.length ∧ i = .int .i64 k ∧ Hid (Keeps (w.alloc (.cells #[.int .i64 0, .int .i64 0, .int .i64 0, .slice none 0 0] 82)) wr) ∧ Hid (findSes L c = findSes (L.drop k) c)) (fun i _ => L.length - (intOf i).toNat)
  case atStart => exact ⟨0, Nat.zero_le _, rfl, HB1, rfl⟩
  case round =>
    obtain ⟨k, hk, rfl, HKW, HQ⟩ := hrel
    have hz : w.heap.size < wr.heap.size := by have := HKW.out.size; simp at this; omega
    by_cases hlt : k < L.length
    · obtain ⟨b, off, cap', hv, hcell⟩ := (HT.out.keep HKW.out).at hlt
      injection hv with hv1 hv2 hv3
      subst hv1
      clear hv2 hv3
      obtain ⟨c0, c1, c2, ka, kc, c3, hkv⟩ := hcell k hlt
      clear hcell
      have HKV : Hid (KeptAt wr (.slice ka (L[k]).kept.length kc) (L[k]).kept) := hkv
      clear hkv
      have HR : Hid (findSes L c = if (L[k]).client == c then some (L[k]) else findSes (L.drop (k + 1)) c) := HQ.out.trans (findSes_at hlt)
      have hn3 : (L[k]).kept.length ≤ 3 := kept_le (HALL.out _ (List.getElem_mem hlt))
      clear HQ
      generalize L[k] = s at *
      cases hq : (s.client == c) with
      | true =>
        have HN : Hid (findSes L c = some s) := by show _ = _; rw [HR.out, hq]; rfl
        go_wp2_with fail
        refine (twin_c s _ _ (HKV.out.keep ((Keeps.refl _).alloc _)) hn3).mono ?_
        rintro e w2 ⟨kv', ho, rfl, hb2⟩
        obtain ⟨va, vc, rfl⟩ : ∃ va vc, kv' = .slice va s.kept.length vc := by obtain ⟨x, y, h, _⟩ := (RowAt.of_owns ho).len; exact ⟨x, y, h⟩
        have hkZ : Keeps (w.alloc (.cells #[.int .i64 0, .int .i64 0, .int .i64 0, .slice none 0 0] 82)) w2 := (HKW.out.alloc _).trans hb2
        have hk2 : Keeps w w2 := ((Keeps.refl _).alloc _).trans hkZ
        obtain ⟨hc, hf⟩ := hkZ.cells
        simp only [World.size_alloc] at hc hf ho
        have hz2 : w.heap.size < w2.heap.size := by have := hkZ.size; simp at this; omega
        clear hb2 hkZ
        go_wp2_with fail
        refine bodyPost_ret (v := .tuple #[sesV s (.slice va s.kept.length vc), .bool true, .int .i64 0]) ?_ rfl ?_
        · simp [results, Try.results79, go_sem, hc]
        · rw [HN.out]
          refine ⟨.slice va s.kept.length vc, ?_, rfl, ?_⟩
          · refine RowAt.of_owns (base := wr.heap.size + 1) (e := 109) ?_
            repeat refine ownsRow_setCell_below ?_ (by simp <;> omega) _
            exact ho
          · repeat refine Keeps.set ?_ (by simp <;> omega) _
            exact hk2
      | false =>
        have HN : Hid (findSes L c = findSes (L.drop (k + 1)) c) := by show _ = _; rw [HR.out, hq]; rfl
        go_wp2_with fail
        go_roundw
        case rel => exact ⟨k + 1, by omega, by go_num, HKW.out.alloc _, HN⟩
        case measure => simp [intOf]; omega
    · have HN : Hid (findSes L c = none) := HQ.out.trans (by rw [List.drop_of_length_le (by omega)]; rfl)
      have hk2 : Keeps w wr := ((Keeps.refl _).alloc _).trans HKW.out
      obtain ⟨hc, hf⟩ := HKW.out.cells
      simp only [World.size_alloc] at hc hf
      go_wp2_with fail
      refine bodyPost_ret (v := .tuple #[sesV zeroSes (.slice none 0 0), .bool false, .int .i64 0]) ?_ rfl ?_
      · simp [results, Try.results79, go_sem, hc, zeroSes]
      · rw [HN.out]
        refine ⟨.slice none 0 0, kept_nil _, rfl, ?_⟩
        repeat refine Keeps.set ?_ (by simp <;> omega) _
        exact hk2
end Go.Proofs.Yteabfjpajgakiag

/- The reference's find and FindOf. -/
set_option linter.unusedSimpArgs false
set_option linter.unusedVariables false
namespace Go.Proofs.Yteabfjpajgakiag
open Go.RowKit

end Go.Proofs.Yteabfjpajgakiag
