/- Applying: slices.DeleteFunc, where some answers are gone. -/
import Derived.Test.YthjcnbimapgdnabApD
import Derived.Laws.IdiomCopy
set_option linter.unusedSimpArgs false
set_option linter.unusedVariables false
set_option maxRecDepth 10000
namespace Go.Proofs.Ythjcnbimapgdnab
open Go.RowKit

theorem repCells_set : ∀ (A : List (Int × Int)) (i : Nat) (q v : Int), repCells (A.set i (q, v)) = ((repCells A).set (i * 2) (.int .i64 q)).set (i * 2 + 1) (.int .i64 v)
  | [], i, q, v => by simp [repCells]
  | (a, b) :: r, 0, q, v => by simp [repCells]
  | (a, b) :: r, i + 1, q, v => by
    rw [List.set_cons_succ, show (i + 1) * 2 = i * 2 + 1 + 1 from by omega, show i * 2 + 1 + 1 + 1 = (i * 2 + 1) + 1 + 1 from rfl]
    simp only [repCells, List.set_cons_succ, repCells_set r i q v]
theorem repCells_take : ∀ (A : List (Int × Int)) (i : Nat), (repCells A).take (i * 2) = repCells (A.take i)
  | [], i => by simp [repCells]
  | (a, b) :: r, 0 => by simp [repCells]
  | (a, b) :: r, i + 1 => by
    rw [show (i + 1) * 2 = i * 2 + 1 + 1 from by omega]
    simp only [repCells, List.take_succ_cons, repCells_take r i]
theorem repCells_drop : ∀ (A : List (Int × Int)) (i : Nat), (repCells A).drop (i * 2) = repCells (A.drop i)
  | [], i => by simp [repCells]
  | (a, b) :: r, 0 => by simp [repCells]
  | (a, b) :: r, i + 1 => by
    rw [show (i + 1) * 2 = i * 2 + 1 + 1 from by omega]
    simp only [repCells, List.drop_succ_cons, repCells_drop r i]
theorem repCells_append : ∀ (A B : List (Int × Int)), repCells (A ++ B) = repCells A ++ repCells B
  | [], B => rfl
  | (a, b) :: r, B => by simp [repCells, repCells_append r B]

/-- Values laid one behind the other. -/
def setL : List Value → Nat → List Value → List Value
  | xs, _, [] => xs
  | xs, o, v :: r => setL (xs.set o v) (o + 1) r
theorem setL_len : ∀ (cs xs : List Value) (o : Nat), (setL xs o cs).length = xs.length
  | [], xs, o => rfl
  | v :: r, xs, o => by simp [setL, setL_len r]
theorem setL_at : ∀ (cs xs : List Value) (o j : Nat), j < xs.length → (setL xs o cs)[j]? = if o ≤ j ∧ j < o + cs.length then cs[j - o]? else xs[j]?
  | [], xs, o, j, hj => by simp [setL]; intro _ _; omega
  | v :: r, xs, o, j, hj => by
    rw [setL, setL_at r (xs.set o v) (o + 1) j (by simpa using hj)]
    by_cases h1 : o + 1 ≤ j ∧ j < o + 1 + r.length
    · rw [if_pos h1, if_pos ⟨by omega, by simp; omega⟩, show j - o = (j - (o + 1)) + 1 from by omega]
      simp
    · rw [if_neg h1]
      by_cases h2 : o = j
      · subst h2
        rw [if_pos ⟨Nat.le_refl _, by simp⟩]
        simp [List.getElem?_set, hj]
      · rw [if_neg (by simp only [List.length_cons]; omega), List.getElem?_set_ne (by omega)]
theorem setL_eq (xs cs : List Value) (o : Nat) (h : o + cs.length ≤ xs.length) : setL xs o cs = xs.take o ++ cs ++ xs.drop (o + cs.length) := by
  apply List.ext_getElem?
  intro j
  by_cases hj : j < xs.length
  · rw [setL_at _ _ _ _ hj]
    by_cases h1 : j < o
    · rw [if_neg (by omega), List.append_assoc, List.getElem?_append_left (by simp; omega), List.getElem?_take, if_pos h1]
    · by_cases h2 : j < o + cs.length
      · rw [if_pos ⟨by omega, h2⟩, List.append_assoc, List.getElem?_append_right (by simp; omega), List.getElem?_append_left (by simp; omega)]
        simp [Nat.min_eq_left (show o ≤ xs.length from by omega)]
      · rw [if_neg (by omega), List.getElem?_append_right (by simp; omega), List.getElem?_drop]
        congr 1
        simp
        omega
  · rw [List.getElem?_eq_none (by rw [setL_len]; omega), List.getElem?_eq_none (by simp; omega)]

theorem RepRow.setCells {g cap : Nat} : ∀ (cs : List Value) (o : Nat) {w : World} {xs : List Value}, RepRow w g cap xs → RepRow (w.setCells g o cs) g cap (setL xs o cs)
  | [], _, _, _, h => h
  | v :: r, o, _, _, h => RepRow.setCells r (o + 1) (h.set o v)
theorem But.setCells {g : Nat} {x : World} : ∀ (cs : List Value) (o : Nat) {y : World}, But g x y → But g x (y.setCells g o cs)
  | [], _, _, h => h
  | v :: r, o, _, h => But.setCells r (o + 1) (h.set o v)

/-- 'clear(s)', s a slice of answers. -/
theorem run_clear_rep (w : World) (ty : TypeId) (b o n c : Nat) (hn : 0 < n) (hc : ∀ j, j < n * 2 → (w.cell? ⟨b, o + j, none⟩).isSome = true) (hf : ∀ j, j < n * 2 → w.frozen? ⟨b, o + j, none⟩ = false) :
    (Builtin.clear_ #[46] ty #[.slice (some ⟨b, o, none⟩) n c]).run Try.prog w = .ok (.tuple #[]) (w.setCells b o (List.replicate (n * 2) (.int .i64 0))) := by
  have hzc : (Builtin.zeroCells (Value.cells (.agg #[.int .i64 0, .int .i64 0])) n).toList = List.replicate (n * 2) (.int .i64 0) := by
    simp [Builtin.zeroCells, Value.cells]
    apply List.ext_getElem
    · simp
    · intro i h1 h2
      simp
      have : i % 2 = 0 ∨ i % 2 = 1 := by omega
      rcases this with h | h <;> simp [h]
  have hst := run_storeCells_cells (P := Try.prog) b o (List.replicate (n * 2) (.int .i64 0)) 0 w (by simpa using hc) (by simpa using hf) (by intro v hv'; rw [List.eq_of_mem_replicate hv']; rfl)
  simp only [Nat.add_zero] at hst
  have hv : (zeroValue 78).run Try.prog w = .ok (.agg #[.int .i64 0, .int .i64 0]) w := by kernel_rfl
  obtain ⟨m, rfl⟩ : ∃ m, n = m + 1 := ⟨n - 1, by omega⟩
  simp [Builtin.clear_, run_underlying Try.underlying46, hv, hzc, hst]

theorem keptAfter_take {ack : Int} {L : List (Int × Int)} {k : Nat} (h : k < L.length) : keptAfter ack (L.take (k + 1)) = keptAfter ack (L.take k) ++ (if ack < (L[k]).1 then [L[k]] else []) := by
  unfold keptAfter
  rw [List.take_succ_eq_append_getElem h, List.filter_append]
  by_cases hp : ack < (L[k]).1 <;> simp [hp]

theorem RepRow.at {w : World} {g cap : Nat} {A : List (Int × Int)} (h : RepRow w g cap (repCells A)) {k : Nat} (hk : k < A.length) :
    w.cell? ⟨g, k * 2, none⟩ = Option.some (.int .i64 (A[k]).1) ∧ w.cell? ⟨g, k * 2 + 1, none⟩ = Option.some (.int .i64 (A[k]).2) := by
  have e := repCells_at A k (A[k]).1 (A[k]).2 (by rw [List.getElem?_eq_getElem hk])
  rw [Nat.mul_comm k 2]
  exact ⟨h.cell _ _ e.1, h.cell _ _ e.2⟩
theorem RepRow.store {w : World} {g cap : Nat} {A : List (Int × Int)} (h : RepRow w g cap (repCells A)) (k : Nat) (q v : Int) :
    RepRow ((w.setCell ⟨g, k * 2, none⟩ (.int .i64 q)).setCell ⟨g, k * 2 + 1, none⟩ (.int .i64 v)) g cap (repCells (A.set k (q, v))) := by
  rw [repCells_set]
  exact (h.set _ _).set _ _

set_option maxHeartbeats 4000000 in
theorem delete_some (g sb cap : Nat) (ack q v : Int) (l L : List (Int × Int)) (hL : L = (q, v) :: l) (w : World) (hr : RepRow w g cap (repCells L)) (hne : sb ≠ g) (hs : w.cell? ⟨sb, 1, none⟩ = some (.int .i64 ack)) (hq : q ≤ ack) :
    Calls Try.prog 73 #[.slice (some ⟨g, 0, none⟩) L.length cap, delF sb] w fun e w' => ∃ kv', KeptOn g w' kv' (keptAfter ack L) ∧ e = .returned kv' ∧ But g w w' := by
  have hK : KeptOn g w (.slice (some ⟨g, 0, none⟩) L.length cap) L := .inr ⟨cap, rfl, hr⟩
  have HI : Hid (Calls Try.prog 81 #[.slice (some ⟨g, 0, none⟩) L.length cap, delF sb] w fun e w' => e = .returned (.int .i64 0) ∧ Keeps w w') := index_first sb ack q v l _ w (by rw [← hL]; exact hK.kept) hs hq
  have HR : Hid (RepRow w g cap (repCells L)) := hr
  have h0 : 0 < L.length := by rw [hL]; simp
  have hcp : L.length ≤ cap ∧ cap ≤ maxLen := by obtain ⟨cur, _, _, h3, h4, _⟩ := hr; rw [repCells_len] at h4; exact ⟨by omega, h3⟩
  obtain ⟨hcp1, hcp2⟩ := hcp
  unfold maxLen at hcp2
  have HT1 : Hid (L.take 0 = keptAfter ack (L.take 1)) := by
    show _ = _
    rw [hL]
    simp [keptAfter]
    omega
  have HS : Hid (∀ W, But g w W → W.cell? ⟨sb, 1, none⟩ = some (.int .i64 ack)) := fun W h => h.at hs hne
  have hf := fnc74
  clear hK hr hL hs
  generalize hn : L.length = n at *
  go_enter Try.func73, Try.ntmps73
  go_wp2_with fail
  refine HI.out.mono ?_
  rintro e w1 ⟨rfl, hb⟩
  have HK1 : Hid (But g w w1) := But.of hb
  have HR1 : Hid (RepRow w1 g cap (repCells L)) := HR.out.keep hb
  clear hb
  go_wp2_with fail
  go_loopw [5, 6] (fun i j wr => ∃ (a k : Nat) (A : List (Int × Int)), i = .int .i64 a ∧ j = .int .i64 k ∧ a < k ∧ k ≤ n ∧ A.length = n ∧ Hid (A.take a = keptAfter ack (L.take k)) ∧ Hid (A.drop k = L.drop k) ∧ Hid (RepRow wr g cap (repCells A)) ∧ Hid (But g w wr)) (fun _ j _ => n - (intOf j).toNat)
  case atStart => exact ⟨0, 1, L, rfl, rfl, by omega, by omega, hn, HT1, rfl, HR1, HK1⟩
  case round =>
    obtain ⟨a, k, A, rfl, rfl, hak, hkn, hAn, HT, HD, HR, HB⟩ := hrel
    by_cases hlt : k < n
    · have hkA : k < A.length := by omega
      have haA : a < A.length := by omega
      have hkL : k < L.length := by omega
      have hAk : A[k] = L[k] := by
        have h1 : (A.drop k)[0]? = (L.drop k)[0]? := by rw [HD.out]
        rw [List.getElem?_drop, List.getElem?_drop, Nat.add_zero, List.getElem?_eq_getElem hkA, List.getElem?_eq_getElem hkL] at h1
        exact Option.some.inj h1
      obtain ⟨c0, c1⟩ := HR.out.at hkA
      obtain ⟨d0, d1⟩ := HR.out.at haA
      have HKT : Hid (keptAfter ack (L.take (k + 1)) = keptAfter ack (L.take k) ++ (if ack < (L[k]).1 then [L[k]] else [])) := keptAfter_take hkL
      have HLk : Hid (A[k] = (A[k].1, A[k].2)) := rfl
      have HD' : Hid (A.drop (k + 1) = L.drop (k + 1)) := by
        show _ = _
        have := HD.out
        rw [List.drop_eq_getElem_cons hkA, List.drop_eq_getElem_cons hkL] at this
        exact (List.cons.inj this).2
      rw [← hAk] at HKT
      generalize hAkk : A[k] = z at *
      obtain ⟨zq, zv⟩ := z
      have hlb : g < wr.heap.size := HR.out.lt
      generalize A[a] = y at *
      have hbx : ∀ W, Keeps wr W → W.cell? ⟨sb, 1, none⟩ = some (.int .i64 ack) := fun W h => HS.out W (HB.out.keeps h)
      have HBX : Hid (∀ W, Keeps wr W → W.cell? ⟨sb, 1, none⟩ = some (.int .i64 ack)) := hbx
      clear hbx hAk
      by_cases hq2 : ack < zq
      · have hd : decide (zq ≤ ack) = false := by simp; omega
        go_wp2_with fail
        refine (gone_c sb ack zq zv _ (HBX.out _ ((Keeps.refl _).alloc _))).mono ?_
        rintro e w2 ⟨rfl, hb2⟩
        have b0 : w2.cell? ⟨wr.heap.size, 0, none⟩ = some (.int .i64 zq) := cell_kept (by simp [go_sem]) hb2
        have b1 : w2.cell? ⟨wr.heap.size, 1, none⟩ = some (.int .i64 zv) := cell_kept (by simp [go_sem]) hb2
        have hk2 : Keeps wr w2 := ((Keeps.refl _).alloc _).trans hb2
        have d0 := cell_kept d0 hk2
        have d1 := cell_kept d1 hk2
        have HR2 : Hid (RepRow w2 g cap (repCells A)) := HR.out.keep hk2
        have HB2 : Hid (But g w w2) := HB.out.keeps hk2
        have hfz := fun i => HR2.out.frozen i
        have hl2 := World.block_lt_of_cell? _ _ b0
        have hl3 := HR2.out.lt
        simp only [] at hl2
        have hne2 : ¬ (wr.heap.size = g) := by omega
        clear hb2 hk2
        go_wp2_with fail
        go_roundw
        case rel =>
          refine ⟨a + 1, k + 1, A.set a (zq, zv), by go_num, by go_num, by omega, by omega, by simpa using hAn, ?_, ?_, ?_, ?_⟩
          · show _ = _
            rw [HKT.out, if_pos hq2, ← HT.out, List.take_succ_eq_append_getElem (by simpa using haA), List.take_set_of_le (Nat.le_refl _)]
            simp
          · show _ = _
            rw [List.drop_set_of_lt (by omega), HD'.out]
          · exact HR2.out.store a zq zv
          · exact (HB2.out.set _ _).set _ _
        case measure => simp [intOf]; omega
      · have hd : decide (zq ≤ ack) = true := by simp; omega
        go_wp2_with fail
        refine (gone_c sb ack zq zv _ (HBX.out _ ((Keeps.refl _).alloc _))).mono ?_
        rintro e w2 ⟨rfl, hb2⟩
        have hk2 : Keeps wr w2 := ((Keeps.refl _).alloc _).trans hb2
        have HR2 : Hid (RepRow w2 g cap (repCells A)) := HR.out.keep hk2
        have HB2 : Hid (But g w w2) := HB.out.keeps hk2
        clear hb2 hk2
        go_wp2_with fail
        go_roundw
        case rel =>
          refine ⟨a, k + 1, A, rfl, by go_num, by omega, by omega, hAn, ?_, HD', HR2, HB2⟩
          show _ = _
          rw [HKT.out, if_neg (by omega), HT.out, List.append_nil]
        case measure => simp [intOf]; omega
    · have hkn' : k = n := by omega
      subst hkn'
      have hcl : ∀ ty, (Builtin.clear_ #[46] ty #[.slice (some ⟨g, a * 2, none⟩) (k - a) (cap - a)]).run Try.prog wr = .ok (.tuple #[]) (wr.setCells g (a * 2) (List.replicate ((k - a) * 2) (.int .i64 0))) :=
        fun ty => run_clear_rep wr ty g (a * 2) (k - a) (cap - a) (by omega) (fun j hj => by obtain ⟨u, hu⟩ := HR.out.some (a * 2 + j) (by omega); rw [hu]; rfl) (fun j _ => HR.out.frozen _)
      have HF : Hid (A.take a = keptAfter ack L) := by
        show _ = _
        rw [HT.out, List.take_of_length_le (by omega)]
      clear HT HD
      go_wp2_with fail
      go_ret
      refine ⟨_, ?_, rfl, HB.out.setCells _ _⟩
      rw [← HF.out]
      refine .inr ⟨cap, by simp [hAn]; omega, ?_⟩
      have h1 := (HR.out.setCells (List.replicate ((k - a) * 2) (.int .i64 0)) (a * 2)).take (a * 2)
      rw [setL_eq _ _ _ (by rw [repCells_len]; simp; omega), List.append_assoc, List.take_append_of_le_length (by rw [List.length_take, repCells_len]; omega), List.take_take, Nat.min_self, repCells_take] at h1
      exact h1

/-- slices.DeleteFunc, of answers that rise. -/
theorem delete_c (g sb : Nat) (ack : Int) (l : List (Int × Int)) (kv : Value) (w : World) (hk : KeptOn g w kv l) (h3 : l.length ≤ 3) (hne : sb ≠ g) (hs : w.cell? ⟨sb, 1, none⟩ = some (.int .i64 ack)) (hrise : ∀ r ∈ l, (l.headD r).1 ≤ r.1) :
    Calls Try.prog 73 #[kv, delF sb] w fun e w' => ∃ kv', KeptOn g w' kv' (keptAfter ack l) ∧ e = .returned kv' ∧ But g w w' := by
  cases hl : l with
  | nil =>
    subst hl
    exact delete_none g sb ack [] kv w hk h3 hs (by simp)
  | cons r t =>
    obtain ⟨q, v⟩ := r
    by_cases hq : q ≤ ack
    · rcases hk with ⟨_, h⟩ | ⟨cap, rfl, hr⟩
      · rw [h] at hl; cases hl
      · rw [← hl]
        exact delete_some g sb cap ack q v t l hl w hr hne hs hq
    · rw [← hl]
      refine delete_none g sb ack l kv w hk h3 hs (fun r hr => ?_)
      have := hrise r hr
      rw [hl] at this
      simp at this
      omega
end Go.Proofs.Ythjcnbimapgdnab
