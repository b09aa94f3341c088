/- SesB, SesC, OpenSes, SesD, Ints, SuA0, SesE, SesF0. -/
import Derived.Deep.SlicePairs
import Derived.Laws.AppendOwnNone
import Derived.Test.YteabfjpajgakiagJ00
/- The reference's oneError. -/
set_option linter.unusedSimpArgs false
set_option linter.unusedVariables false
namespace Go.Proofs.Yteabfjpajgakiag
open Go.RowKit

end Go.Proofs.Yteabfjpajgakiag

/- sess.Check and the reference's TableError. -/
set_option linter.unusedSimpArgs false
set_option linter.unusedVariables false
namespace Go.Proofs.Yteabfjpajgakiag
open Go.RowKit

theorem KeptsAt.len {w : World} : ∀ {L : List Ses} {ks : List Value}, KeptsAt w L ks → ks.length = L.length
  | [], [], _ => rfl
  | _ :: r, _ :: ks, h => by simp [KeptsAt.len h.2]

theorem KeptsAt.at {w : World} : ∀ {L : List Ses} {ks : List Value} (h : KeptsAt w L ks) (i : Nat) (hi : i < L.length) (hi' : i < ks.length), KeptAt w (ks[i]) (L[i]).kept
  | _ :: _, _ :: _, h, 0, _, _ => h.1
  | _ :: _, _ :: _, h, i + 1, hi, hi' => KeptsAt.at h.2 i (by simpa using hi) (by simpa using hi')

theorem sesCells_at : ∀ (L : List Ses) (ks : List Value) (i : Nat) (h : i < L.length) (h' : i < ks.length),
    (sesCells L ks)[4 * i]? = some (.int .i64 (L[i]).client) ∧ (sesCells L ks)[4 * i + 1]? = some (.int .i64 (L[i]).acked) ∧ (sesCells L ks)[4 * i + 2]? = some (.int .i64 (L[i]).seen) ∧ (sesCells L ks)[4 * i + 3]? = some (ks[i])
  | s :: r, k :: ks, 0, _, _ => ⟨rfl, rfl, rfl, rfl⟩
  | s :: r, k :: ks, i + 1, h, h' => by
    have := sesCells_at r ks i (by simpa using h) (by simpa using h')
    rw [show 4 * (i + 1) = 4 * i + 1 + 1 + 1 + 1 from by omega]
    exact ⟨by simpa [sesCells] using this.1, by simpa [sesCells] using this.2.1, by simpa [sesCells] using this.2.2.1, by simpa [sesCells] using this.2.2.2⟩

/-- The sessions of a table, in memory. -/
theorem TabAt.at {w : World} {v : Value} {L : List Ses} (h : TabAt w v L) {k : Nat} (hk : k < L.length) :
    ∃ b off cap, v = .slice (some ⟨b, off, none⟩) L.length cap ∧
      ∀ i (hi : i < L.length), w.cell? ⟨b, off + i * 4, none⟩ = some (.int .i64 (L[i]).client) ∧ w.cell? ⟨b, off + i * 4 + 1, none⟩ = some (.int .i64 (L[i]).acked) ∧
        w.cell? ⟨b, off + i * 4 + 2, none⟩ = some (.int .i64 (L[i]).seen) ∧ ∃ ka kc, w.cell? ⟨b, off + i * 4 + 3, none⟩ = some (.slice ka (L[i]).kept.length kc) ∧ KeptAt w (.slice ka (L[i]).kept.length kc) (L[i]).kept := by
  obtain ⟨ks, hks, hrow⟩ := h
  have hlen := hks.len
  obtain ⟨b, off, cap, rfl, h3⟩ := hrow.plain (by rw [hrow.1]; omega)
  refine ⟨b, off, cap, rfl, fun i hi => ?_⟩
  have hi' : i < ks.length := by rw [hlen]; exact hi
  have e := sesCells_at L ks i hi hi'
  rw [Nat.mul_comm i 4]
  have hk := hks.at i hi hi'
  obtain ⟨ka, kc, hkv, _⟩ := hk.len
  exact ⟨h3 _ _ e.1, h3 _ _ e.2.1, h3 _ _ e.2.2.1, ka, kc, hkv ▸ h3 _ _ e.2.2.2, hkv ▸ hk⟩

theorem TabAt.len {w : World} {v : Value} {L : List Ses} (h : TabAt w v L) : ∃ a cap, v = .slice a L.length cap ∧ L.length ≤ maxLen := by
  obtain ⟨ks, _, h⟩ := h
  exact h.len

def firstErr : List Ses → Int
  | [] => 0
  | s :: r => if sesErr s == 0 then firstErr r else sesErr s
def rising : List Ses → Bool
  | a :: b :: r => decide (a.client < b.client) && rising (b :: r)
  | _ => true
def tabErr (L : List Ses) : Int := if 3 < L.length then 2 else if firstErr L == 0 then (if rising L then 0 else 1) else firstErr L

theorem firstErr_at {L : List Ses} {k : Nat} (h : k < L.length) : firstErr (L.drop k) = if sesErr (L[k]) == 0 then firstErr (L.drop (k + 1)) else sesErr (L[k]) := by
  rw [List.drop_eq_getElem_cons h]; rfl
theorem rising_at {L : List Ses} {k : Nat} (h : k + 1 < L.length) : rising (L.drop k) = (decide ((L[k]).client < (L[k + 1]).client) && rising (L.drop (k + 1))) := by
  rw [List.drop_eq_getElem_cons (show k < L.length from by omega), List.drop_eq_getElem_cons h]; rfl
theorem rising_end {L : List Ses} {k : Nat} (h : L.length ≤ k + 1) : rising (L.drop k) = true := by
  by_cases hk : k < L.length
  · rw [List.drop_eq_getElem_cons hk, List.drop_of_length_le (by omega)]; rfl
  · rw [List.drop_of_length_le (by omega)]; rfl

set_option maxHeartbeats 2000000 in
theorem sess_check (L : List Ses) (v : Value) (w : World) (hT : TabAt w v L) :
    Calls Try.prog 56 #[v] w fun e w' => e = .returned (.int .i64 (tabErr L)) ∧ Keeps w w' := by
  obtain ⟨a, cap, rfl, hlen⟩ := hT.len
  unfold maxLen at hlen
  have HT : Hid (TabAt w (.slice a L.length cap) L) := hT
  clear hT
  by_cases h3 : 3 < L.length
  · have HE : Hid (tabErr L = 2) := by simp [Hid, tabErr, h3]
    go_enter Try.func56, Try.ntmps56
    go_wp2_with fail
    go_ret
    exact ⟨ret_int HE.out.symm, Keeps.refl _⟩
  · go_enter Try.func56, Try.ntmps56
    go_wp2_with fail
    go_loopw [12] (fun i wr => ∃ (k : Nat), k ≤ L.length ∧ i = .int .i64 k ∧ Keeps w wr ∧ Hid (firstErr L = firstErr (L.drop k))) (fun i _ => L.length - (intOf i).toNat)
    case atStart => exact ⟨0, Nat.zero_le _, rfl, Keeps.refl _, rfl⟩
    case round =>
      obtain ⟨k, hk, rfl, hkw, HQ⟩ := hrel
      by_cases hlt : k < L.length
      · obtain ⟨b, off, cap', hv, hcell⟩ := (HT.out.keep hkw).at hlt
        injection hv with hv1 hv2 hv3
        subst hv1
        clear hv2 hv3
        obtain ⟨c0, c1, c2, ka, kc, c3, hkv⟩ := hcell k hlt
        clear hcell
        have HKV : Hid (KeptAt wr (.slice ka (L[k]).kept.length kc) (L[k]).kept) := hkv
        clear hkv
        have HR : Hid (firstErr L = if sesErr (L[k]) == 0 then firstErr (L.drop (k + 1)) else sesErr (L[k])) := HQ.out.trans (firstErr_at hlt)
        clear HQ
        generalize L[k] = s at *
        go_wp2_with fail
        refine (check_one s _ _ (HKV.out.keep ((Keeps.refl _).alloc _))).mono ?_
        rintro e w1 ⟨rfl, hb⟩
        have hk1 : Keeps w w1 := (hkw.alloc _).trans hb
        cases he : (sesErr s == 0) with
        | false =>
          have he' : (sesErr s != 0) = true := by simp [bne, he]
          have HE : Hid (tabErr L = sesErr s) := by
            have hne : (firstErr L == 0) = false := by rw [HR.out]; simp [he]
            show _ = _
            simp only [tabErr, h3, if_false, hne, Bool.false_eq_true]
            rw [HR.out]; simp [he]
          go_wp2_with fail
          go_ret
          exact ⟨ret_int HE.out.symm, hk1⟩
        | true =>
          have he' : (sesErr s != 0) = false := by simp [bne, he]
          have HN : Hid (firstErr L = firstErr (L.drop (k + 1))) := by show _ = _; rw [HR.out]; simp [he]
          clear HR
          go_wp2_with fail
          go_roundw
          case rel => exact ⟨k + 1, by omega, by go_num, hk1, HN⟩
          case measure => simp [intOf]; omega
      · have HF : Hid (firstErr L = 0) := HQ.out.trans (by rw [List.drop_of_length_le (by omega)]; rfl)
        go_wp2_with fail
        go_loopw [6] (fun i wr2 => ∃ (j : Nat), (j = 0 ∨ j + 1 ≤ L.length) ∧ i = .int .i64 (j + 1 : Nat) ∧ Keeps w wr2 ∧ Hid (rising L = rising (L.drop j))) (fun i _ => L.length + 1 - (intOf i).toNat)
        case atStart => exact ⟨0, .inl rfl, rfl, hkw, rfl⟩
        case round =>
          obtain ⟨j, hj, rfl, hkw2, HQ2⟩ := hrel
          by_cases hlt2 : j + 1 < L.length
          · obtain ⟨b, off, cap', hv, hcell⟩ := (HT.out.keep hkw2).at hlt2
            injection hv with hv1 hv2 hv3
            subst hv1
            clear hv2 hv3
            have c0 := (hcell j (by omega)).1
            have c1 := (hcell (j + 1) hlt2).1
            clear hcell
            have HR2 : Hid (rising L = (decide ((L[j]).client < (L[j + 1]).client) && rising (L.drop (j + 1)))) := HQ2.out.trans (rising_at hlt2)
            clear HQ2
            generalize (L[j]).client = x at *
            generalize (L[j + 1]).client = y at *
            cases hd : decide (x < y) with
            | false =>
              have hd' : decide (y ≤ x) = true := by simp at hd ⊢; omega
              have HE : Hid (tabErr L = 1) := by
                show _ = _
                have hr : rising L = false := by rw [HR2.out, hd]; rfl
                simp [tabErr, h3, HF.out, hr]
              clear HR2 hd
              go_wp2_with fail
              go_quiet (fail)
              go_wp2_with fail
              go_ret
              exact ⟨ret_int HE.out.symm, hkw2.drewN _⟩
            | true =>
              have hd' : decide (y ≤ x) = false := by simp at hd ⊢; omega
              have HN : Hid (rising L = rising (L.drop (j + 1))) := by show _ = _; rw [HR2.out, hd]; rfl
              clear HR2 hd
              go_wp2_with fail
              go_quiet (fail)
              go_wp2_with fail
              go_roundw
              case rel => exact ⟨j + 1, by omega, by go_num, hkw2.drewN _, HN⟩
              case measure => simp [intOf]; omega
          · have HE : Hid (tabErr L = 0) := by
              show _ = _
              have hr : rising L = true := by rw [HQ2.out]; exact rising_end (by omega)
              simp [tabErr, h3, HF.out, hr]
            go_wp2_with fail
            go_ret
            exact ⟨ret_int HE.out.symm, hkw2⟩

end Go.Proofs.Yteabfjpajgakiag

/- The arguments of a law: a table of sessions, a session. -/
set_option linter.unusedSimpArgs false
set_option linter.unusedVariables false
set_option maxRecDepth 100000
namespace Go.Proofs.Yteabfjpajgakiag
open Go.ChangeShapes Go.WideShapes Go.ChangeAt Go.RowKit Go.Joins Go.Deep

section
variable {H : Type} {enc : TypeId × Value → H} {w : World} {base : Nat} {spare : Nat → Bool} {held : Bool}

instance : Inhabited Ses := ⟨⟨0, 0, 0, []⟩⟩

end

end Go.Proofs.Yteabfjpajgakiag

/- A session of its own memory: sess.twin, the reference's ownSession. -/
set_option linter.unusedSimpArgs false
set_option linter.unusedVariables false
namespace Go.Proofs.Yteabfjpajgakiag
open Go.RowKit

theorem infoRep : (Try.prog.info? 109).map (fun i => (i.zero, i.size, i.bytes)) = some (some (.agg #[.int .i64 0, .int .i64 0]), 2, 16) := by kernel_rfl
theorem infoSes : (Try.prog.info? 82).map (fun i => (i.zero, i.size, i.bytes)) = some (some (.agg #[.int .i64 0, .int .i64 0, .int .i64 0, .slice none 0 0]), 4, 48) := by kernel_rfl

theorem RowAt.of_owns {w : World} {base : Nat} {e : TypeId} {size : Nat} {v : Value} {n : Nat} {xs : List Value} (h : w.ownsRow base e size v n xs) : RowAt w size v n xs := by
  have hc := fun g => h.cells (g := g)
  obtain ⟨h1, h2⟩ := h
  rcases h2 with ⟨rfl, rfl⟩ | ⟨g, cap, cur, rfl, _, _, hnc, hcm, _, _⟩
  · exact ⟨h1, by unfold maxLen; omega, .inl ⟨rfl, rfl⟩⟩
  · exact ⟨h1, Nat.le_trans hnc hcm, .inr ⟨_, cap, rfl, fun j u hu => hc g rfl j u hu⟩⟩

theorem owns_base {w : World} {base base' : Nat} {e : TypeId} {size : Nat} {v : Value} {n : Nat} {xs : List Value} (h : w.ownsRow base e size v n xs) (hb : base' ≤ base) : w.ownsRow base' e size v n xs := by
  obtain ⟨h1, h2⟩ := h
  refine ⟨h1, ?_⟩
  rcases h2 with h2 | ⟨g, cap, cur, hv, hg, r⟩
  · exact .inl h2
  · exact .inr ⟨g, cap, cur, hv, Nat.le_trans hb hg, r⟩

theorem keeps_grown {w w' : World} {v : Value} {a : World} (ha : Keeps a w) (hg : w.grownBy w' v.ownBlock) (hb : ∀ k, v.ownBlock = some k → a.heap.size ≤ k) : Keeps a w' :=
  Below.grown ha hg ha.size hb

/-- 'append(v, x...)', v the call's own, x whatever is read. -/
theorem run_append_read (w : World) (base : Nat) (t ty e : TypeId) (size bytes : Nat) (z : Value) (hinfo : (Try.prog.info? e).map (fun i => (i.zero, i.size, i.bytes)) = some (some z, size, bytes))
    (ht : Try.prog.underlying t = some (.slice e)) (hzs : z.cells.size = size) (hsz : 0 < size)
    (v : Value) (m : Nat) (ys : List Value) (hown : w.ownsRow base e size v m ys) (x : Value) (n : Nat) (xs : List Value) (hx : RowAt w size x n xs) (h1 : ∀ u ∈ xs, u.oneCell' = true)
    (h63 : m + n ≤ maxLen) (hbytes : (m + n) * bytes ≤ 140737488355328) (hbase : base ≤ w.heap.size) :
    ∃ v' w', (Builtin.append_ #[t, t] ty #[v, x]).run Try.prog w = .ok v' w' ∧ w'.ownsRow base e size v' (m + n) (ys ++ xs) ∧ w.grownBy w' v.ownBlock := by
  obtain ⟨i, hi, hz, hs, hb⟩ := info_parts hinfo
  rcases hx.2.2 with ⟨rfl, rfl⟩ | ⟨a, cap, rfl, hc⟩
  · have hx0 : xs = [] := List.eq_nil_of_length_eq_zero (by simpa using hx.1)
    subst hx0
    refine ⟨v, w, run_append_owned_none (P := Try.prog) w base t ty e i size ht hi v m ys hown, by simpa using hown, ⟨rfl, rfl, rfl, Nat.le_refl _, fun _ _ _ => rfl⟩⟩
  · obtain ⟨v', w', hr, ho, hg, _⟩ := run_append_own (P := Try.prog) w base t ty e i z size bytes ht hi hz hs hb hzs hsz v m ys hown a n cap xs hx.1 hc h1 h63 hbytes hbase
    exact ⟨v', w', hr, ho, hg⟩

/-- An append whose run is known. -/
theorem wpList_append_run {P : Program} {w w' : World} {ops : Array Oper} {rest : List Oper} {o : Oper} {a : Act} {Q : Exit → Act → World → Prop} {v x v' : Value} (hgd : o.guard = none) (s y : Operand) (t : TypeId)
    (ho : o.op = .call { callee := .builtin .append, args := #[s, y], argTypes := #[t, t] }) (hs : a.eval s = v) (hx : a.eval y = x)
    (hr : (Builtin.append_ #[t, t] o.type #[v, x]).run P w = .ok v' w') (h : wpList P ops Q rest (a.put o.dst v') w') : wpList P ops Q (o :: rest) a w := by
  refine wpList_plain hgd fun K hK => ?_
  unfold Oper.wp
  simp [execOp, ho, resolve, invoke, builtin, hs, hx, hr, Result.andThen]
  exact hK _ _ h

theorem repCells_one : ∀ (l : List (Int × Int)), ∀ u ∈ repCells l, u.oneCell' = true
  | [], u, h => by simp [repCells] at h
  | (q, v) :: r, u, h => by
    simp only [repCells, List.mem_cons] at h
    rcases h with rfl | rfl | h
    · rfl
    · rfl
    · exact repCells_one r u h

set_option maxHeartbeats 1000000 in
theorem twin_c (s : Ses) (kv : Value) (w : World) (hk : KeptAt w kv s.kept) (hn : s.kept.length ≤ 3) :
    Calls Try.prog 47 #[sesV s kv] w fun e w' => ∃ kv', w'.ownsRow w.heap.size 109 2 kv' s.kept.length (repCells s.kept) ∧ e = .returned (sesV s kv') ∧ Keeps w w' := by
  obtain ⟨ka, kc, rfl, hlen⟩ := hk.len
  have hkW : KeptAt ((w.alloc (.cells #[.int .i64 s.client, .int .i64 s.acked, .int .i64 s.seen, .slice ka s.kept.length kc] 82)).alloc (.cells #[.int .i64 0, .int .i64 0, .int .i64 0, .slice none 0 0] 82)) (.slice ka s.kept.length kc) s.kept := hk.keep (((Keeps.refl _).alloc _).alloc _)
  obtain ⟨v', w', hr, ho, hg⟩ := run_append_read ((w.alloc (.cells #[.int .i64 s.client, .int .i64 s.acked, .int .i64 s.seen, .slice ka s.kept.length kc] 82)).alloc (.cells #[.int .i64 0, .int .i64 0, .int .i64 0, .slice none 0 0] 82)) (w.heap.size + 2) 80 80 109 2 16 _ infoRep Try.underlying80 rfl (by decide) (.slice none 0 0) 0 [] (World.ownsRow_nil _ _ _ _) _ _ _ hkW (repCells_one _) (by unfold maxLen; omega) (by omega) (by simp)
  simp only [Nat.zero_add, List.nil_append] at ho
  clear hkW hk
  obtain ⟨va, vc, rfl⟩ : ∃ va vc, v' = .slice va s.kept.length vc := by obtain ⟨x, y, h, _⟩ := (RowAt.of_owns ho).len; exact ⟨x, y, h⟩
  have hkp : Keeps ((w.alloc (.cells #[.int .i64 s.client, .int .i64 s.acked, .int .i64 s.seen, .slice ka s.kept.length kc] 82)).alloc (.cells #[.int .i64 0, .int .i64 0, .int .i64 0, .slice none 0 0] 82)) w' := keeps_grown (Keeps.refl _) hg (fun k h => by cases h)
  have Hr := (show Hid (_ = _) from hr)
  clear hr hg
  obtain ⟨hc, hf⟩ := hkp.cells
  have hz := hkp.size
  simp only [World.size_alloc] at hc hf hz
  have hz1 : w.heap.size < w'.heap.size := by omega
  have hz2 : w.heap.size + 1 < w'.heap.size := by omega
  have hk' : Keeps w w' := (((Keeps.refl _).alloc _).alloc _).trans hkp
  have hq : w'.cell? ⟨w.heap.size, 3, none⟩ = some (.slice ka s.kept.length kc) := by rw [hc _ _ (by omega)]; simp [go_sem]
  have hs := World.cell?_setCell_same w' ⟨w.heap.size, 3, none⟩ (.slice va s.kept.length vc) hq
  clear hq
  go_enter Try.func47, Try.ntmps47
  go_wp2_with (at_builtin; refine wpList_append_run rfl _ _ _ rfl rfl rfl Hr.out ?_)
  refine bodyPost_ret (v := sesV s (.slice va s.kept.length vc)) ?_ rfl ?_
  · simp [results, Try.results47, go_sem, hc]
  · refine ⟨.slice va s.kept.length vc, ?_, rfl, ?_⟩
    · refine owns_base (base := w.heap.size + 2) ?_ (by omega)
      repeat refine ownsRow_setCell_below ?_ (by simp <;> omega) _
      exact ho
    · repeat refine Keeps.set ?_ (by simp <;> omega) _
      exact hk'

end Go.Proofs.Yteabfjpajgakiag

/- Rows of numbers; SameInts. -/
set_option linter.unusedSimpArgs false
set_option linter.unusedVariables false
set_option maxRecDepth 10000
namespace Go.Proofs.Yteabfjpajgakiag
open Go.RowKit

theorem infoInt : (Try.prog.info? 3).map (fun i => (i.zero, i.size, i.bytes)) = some (some (.int .i64 0), 1, 8) := by kernel_rfl
def intCells (l : List Int) : List Value := l.map (fun n => .int .i64 n)

def IntsAt (w : World) (v : Value) (l : List Int) : Prop := RowAt w 1 v l.length (intCells l)
theorem IntsAt.keep {w w' : World} {v : Value} {l : List Int} (h : IntsAt w v l) (hk : Keeps w w') : IntsAt w' v l := RowAt.keep h hk
theorem IntsAt.of {w : World} {base : Nat} {v : Value} {l : List Int} (h : w.ownsRow base 3 1 v l.length (intCells l)) : IntsAt w v l := RowAt.of_owns h
theorem IntsAt.at {w : World} {v : Value} {l : List Int} (h : IntsAt w v l) {k : Nat} (hk : k < l.length) : ∃ b off cap, v = .slice (some ⟨b, off, none⟩) l.length cap ∧ w.cell? ⟨b, off + k, none⟩ = some (.int .i64 (l[k])) := by
  obtain ⟨b, off, cap, rfl, h3⟩ := RowAt.plain h (by simp [intCells]; omega)
  exact ⟨b, off, cap, rfl, h3 k _ (by simp [intCells, List.getElem?_eq_getElem hk])⟩

def sameInts : List Int → List Int → Bool
  | [], [] => true
  | a :: r, b :: r' => a == b && sameInts r r'
  | _, _ => false
theorem sameInts_iff : ∀ {l m : List Int}, sameInts l m = true ↔ l = m
  | [], [] => by simp [sameInts]
  | [], _ :: _ => by simp [sameInts]
  | _ :: _, [] => by simp [sameInts]
  | a :: r, b :: r' => by simp [sameInts, sameInts_iff (l := r) (m := r')]
theorem sameInts_len {l m : List Int} (h : l.length ≠ m.length) : sameInts l m = false := by
  cases q : sameInts l m with
  | false => rfl
  | true => rw [sameInts_iff.1 q] at h; exact absurd rfl h
theorem sameInts_at {l m : List Int} {k : Nat} (hl : k < l.length) (hm : k < m.length) : sameInts (l.drop k) (m.drop k) = (l[k] == m[k] && sameInts (l.drop (k + 1)) (m.drop (k + 1))) := by
  rw [List.drop_eq_getElem_cons hl, List.drop_eq_getElem_cons hm]
  rfl

set_option maxHeartbeats 2000000 in
theorem same_ints (l m : List Int) (x y : Value) (w : World) (hx : IntsAt w x l) (hy : IntsAt w y m) : Calls Try.prog 27 #[x, y] w fun e w' => e = .returned (.bool (sameInts l m)) ∧ Keeps w w' := by
  obtain ⟨xa, xc, rfl, hlen⟩ := RowAt.len hx
  obtain ⟨ya, yc, rfl, hlem⟩ := RowAt.len hy
  unfold maxLen at hlen hlem
  have HX : Hid (IntsAt w (.slice xa l.length xc) l) := hx
  have HY : Hid (IntsAt w (.slice ya m.length yc) m) := hy
  clear hx hy
  by_cases hll : l.length = m.length
  · rw [← hll] at HY ⊢
    have HLL : Hid (l.length = m.length) := hll
    clear hll hlem
    go_enter Try.func27, Try.ntmps27
    go_wp2_with fail
    go_loopw [5] (fun i wr => ∃ (k : Nat), k ≤ l.length ∧ i = .int .i64 k ∧ Hid (Keeps w wr) ∧ Hid (sameInts l m = sameInts (l.drop k) (m.drop k))) (fun i _ => l.length - (intOf i).toNat)
    case atStart => exact ⟨0, Nat.zero_le _, rfl, Keeps.refl _, rfl⟩
    case round =>
      obtain ⟨k, hk, rfl, HK, HQ⟩ := hrel
      by_cases hlt : k < l.length
      · have hlt2 : k < m.length := by have := HLL.out; omega
        obtain ⟨b1, o1, p1, hv1, c1⟩ := (HX.out.keep HK.out).at hlt
        obtain ⟨b2, o2, p2, hv2, c2⟩ := (HY.out.keep HK.out).at hlt2
        injection hv1 with hv1 ea eb
        injection hv2 with hv2 ec ed
        subst hv1 hv2
        clear ea eb ec ed
        have HR : Hid (sameInts l m = (l[k] == m[k] && sameInts (l.drop (k + 1)) (m.drop (k + 1)))) := HQ.out.trans (sameInts_at hlt hlt2)
        clear HQ
        generalize l[k] = u at *
        generalize m[k] = v at *
        clear hlt2
        cases hq : (u == v) with
        | true =>
          have hq' : (u != v) = false := by simp [bne, hq]
          have HN : Hid (sameInts l m = sameInts (l.drop (k + 1)) (m.drop (k + 1))) := by show _ = _; rw [HR.out, hq]; rfl
          go_wp2_with fail
          go_quiet (fail)
          go_wp2_with fail
          go_roundw
          case rel => exact ⟨k + 1, by omega, by go_num, HK.out.drewN _, HN⟩
          case measure => simp [intOf]; omega
        | false =>
          have hq' : (u != v) = true := by simp [bne, hq]
          have HN : Hid (sameInts l m = false) := by show _ = _; rw [HR.out, hq]; rfl
          go_wp2_with fail
          go_quiet (fail)
          go_wp2_with fail
          go_ret
          rw [HN.out]
          exact ⟨rfl, HK.out.drewN _⟩
      · have HN : Hid (sameInts l m = true) := by show _ = _; rw [HQ.out, List.drop_of_length_le (by omega), List.drop_of_length_le (by have := HLL.out; omega)]; rfl
        go_wp2_with fail
        go_ret
        rw [HN.out]
        exact ⟨rfl, HK.out⟩
  · have HN : Hid (sameInts l m = false) := sameInts_len hll
    go_enter Try.func27, Try.ntmps27
    go_wp2_with fail
    go_ret
    rw [HN.out]
    exact ⟨rfl, Keeps.refl _⟩

end Go.Proofs.Yteabfjpajgakiag

/- Clients: plain mathematics. -/
set_option linter.unusedSimpArgs false
set_option linter.unusedVariables false
set_option maxRecDepth 10000
namespace Go.Proofs.Yteabfjpajgakiag
open Go.RowKit

structure Stu where
  client : Int
  next : Int
  came : List Int

abbrev stuV (s : Stu) (t : Value) : Value := .agg #[.int .i64 s.client, .int .i64 s.next, t]
def zeroStu : Stu := ⟨0, 0, []⟩

def cameOk (nx : Int) : Int → List Int → Bool
  | _, [] => true
  | p, n :: r => inB n (p + 1) (nx - 1) && cameOk nx n r
def stuErr (s : Stu) : Int := if inB s.client 1 5 && inB s.next 1 61 then (if cameOk s.next 0 s.came then 0 else 1) else 3

theorem cameOk_at {nx p : Int} {l : List Int} {k : Nat} (hk : k < l.length) : cameOk nx p (l.drop k) = (inB (l[k]) (p + 1) (nx - 1) && cameOk nx (l[k]) (l.drop (k + 1))) := by
  rw [List.drop_eq_getElem_cons hk]
  rfl

/-- What rises. -/
theorem came_bounds : ∀ {nx p : Int} {l : List Int}, cameOk nx p l = true → ∀ n ∈ l, p < n ∧ n ≤ nx - 1
  | nx, p, [], _, n, h => by cases h
  | nx, p, a :: r, h, n, hn => by
    simp only [cameOk, Bool.and_eq_true] at h
    have ha := inB_iff.1 h.1
    rcases List.mem_cons.1 hn with rfl | hn
    · omega
    · have := came_bounds h.2 n hn
      omega
theorem came_sorted : ∀ {nx p : Int} {l : List Int}, cameOk nx p l = true → l.Pairwise (· < ·)
  | nx, p, [], _ => List.Pairwise.nil
  | nx, p, a :: r, h => by
    simp only [cameOk, Bool.and_eq_true] at h
    exact List.pairwise_cons.2 ⟨fun b hb => (came_bounds h.2 b hb).1, came_sorted h.2⟩

/-- Up to which number all have come: by places. -/
def ackFrom : Nat → List Int → Nat
  | i, [] => i
  | i, n :: r => if n == (i : Int) + 1 then ackFrom (i + 1) r else i
def ackOf (l : List Int) : Nat := ackFrom 0 l
theorem ackFrom_at {i : Nat} {l : List Int} {k : Nat} (hk : k < l.length) : ackFrom i (l.drop k) = if l[k] == (i : Int) + 1 then ackFrom (i + 1) (l.drop (k + 1)) else i := by
  rw [List.drop_eq_getElem_cons hk]
  rfl
/-- All up to it are there, the next one is not. -/
theorem ackFrom_mem : ∀ (l : List Int) (i : Nat) (j : Nat), i < j → j ≤ ackFrom i l → (j : Int) ∈ l
  | [], i, j, h1, h2 => by simp [ackFrom] at h2; omega
  | n :: r, i, j, h1, h2 => by
    simp only [ackFrom] at h2
    split at h2
    · rename_i hn
      have hn' : n = (i : Int) + 1 := by simpa using hn
      by_cases hj : j = i + 1
      · subst hj
        rw [hn']
        exact List.mem_cons_self ..
      · exact List.mem_cons_of_mem _ (ackFrom_mem r (i + 1) j (by omega) h2)
    · omega
def hasI (l : List Int) (q : Int) : Bool := l.any (fun n => n == q)
theorem hasI_iff {l : List Int} {q : Int} : hasI l q = true ↔ q ∈ l := by simp [hasI]
theorem stu_right {s : Stu} (h : stuErr s = 0) : (1 ≤ s.client ∧ s.client ≤ 5) ∧ (1 ≤ s.next ∧ s.next ≤ 61) ∧ cameOk s.next 0 s.came = true := by
  unfold stuErr at h
  split at h
  · rename_i h1
    split at h
    · rename_i h2
      simp only [Bool.and_eq_true] at h1
      exact ⟨inB_iff.1 h1.1, inB_iff.1 h1.2, h2⟩
    · cases h
  · cases h
theorem came_len {nx p : Int} {l : List Int} (h : cameOk nx p l = true) (hp : p ≤ nx - 1) : (l.length : Int) ≤ nx - 1 - p := by
  induction l generalizing p with
  | nil => simp; omega
  | cons a r ih =>
    simp only [cameOk, Bool.and_eq_true] at h
    have ha := inB_iff.1 h.1
    have := ih h.2 (by omega)
    simp only [List.length_cons]
    omega

/-- A call of a client. -/
def stuCall (s : Stu) (time seq : Int) (o : Int × Int × Int × Int) : Ent := ⟨2, time, s.client, seq, ackOf s.came, o.1, o.2.1, o.2.2.1, o.2.2.2⟩
def zeroE : Ent := ⟨0, 0, 0, 0, 0, 0, 0, 0, 0⟩
def callE (c : Ent) : Ent := if entErr c == 0 then c else zeroE
end Go.Proofs.Yteabfjpajgakiag

/- sess.Find and the reference's FindOf. -/
set_option linter.unusedSimpArgs false
set_option linter.unusedVariables false
namespace Go.Proofs.Yteabfjpajgakiag
open Go.RowKit

theorem keptOk_len (hi : Int) : ∀ (l : List (Int × Int)) (lo : Int), keptOk hi lo l = true → (l.length : Int) ≤ max 0 (hi + 1 - lo)
  | [], lo, _ => by simp; omega
  | (q, v) :: r, lo, h => by
    simp only [keptOk, Bool.and_eq_true] at h
    have h1 := inB_iff.1 h.1.1
    have := keptOk_len hi r (q + 1) h.2
    simp only [List.length_cons]
    omega

/-- What a right session has. -/
theorem ses_right {s : Ses} (h : sesErr s = 0) : inB s.client 1 5 = true ∧ inB s.acked 0 60 = true ∧ inB s.seen 0 999 = true ∧ keptOk (min (s.acked + 3) 60) (s.acked + 1) s.kept = true := by
  unfold sesErr at h
  split at h
  · cases h
  · rename_i h1
    split at h
    · cases h
    · rename_i h2
      simp only [Bool.not_eq_true', Bool.and_eq_false_iff, not_or, Bool.not_eq_false] at h1 h2
      exact ⟨h1.1.1, h1.1.2, h1.2, h2⟩
theorem kept_le {s : Ses} (h : sesErr s = 0) : s.kept.length ≤ 3 := by
  have := keptOk_len _ _ _ (ses_right h).2.2.2
  omega

theorem firstErr_zero : ∀ {L : List Ses}, firstErr L = 0 → ∀ s ∈ L, sesErr s = 0
  | [], _, s, hs => by cases hs
  | a :: r, h, s, hs => by
    unfold firstErr at h
    cases e : (sesErr a == 0) with
    | false => rw [e] at h; simp at h; simp [h] at e
    | true =>
      rw [e] at h
      simp only [if_true] at h
      rcases List.mem_cons.1 hs with rfl | hs
      · simpa using e
      · exact firstErr_zero h s hs

/-- What a right table has. -/
theorem tab_right {L : List Ses} (h : tabErr L = 0) : L.length ≤ 3 ∧ (∀ s ∈ L, sesErr s = 0) ∧ rising L = true := by
  unfold tabErr at h
  split at h
  · cases h
  · rename_i h3
    split at h
    · rename_i hf
      split at h
      · rename_i hr
        exact ⟨by omega, firstErr_zero (by simpa using hf), hr⟩
      · cases h
    · rename_i hf
      simp only [beq_iff_eq] at hf
      exact absurd h hf

def zeroSes : Ses := ⟨0, 0, 0, []⟩
def findSes (L : List Ses) (c : Int) : Option Ses := L.find? (fun s => s.client == c)
theorem findSes_at {L : List Ses} {c : Int} {k : Nat} (h : k < L.length) : findSes (L.drop k) c = if (L[k]).client == c then some (L[k]) else findSes (L.drop (k + 1)) c := by
  rw [List.drop_eq_getElem_cons h]
  simp only [findSes, List.find?_cons]
  cases ((L[k]).client == c) <;> rfl


end Go.Proofs.Yteabfjpajgakiag

/- The reference's find and FindOf. -/
set_option linter.unusedSimpArgs false
set_option linter.unusedVariables false
namespace Go.Proofs.Yteabfjpajgakiag
open Go.RowKit

end Go.Proofs.Yteabfjpajgakiag
