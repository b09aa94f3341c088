/- EnE, ApF2, ApE. -/
import Derived.Test.YteabfjpajgakiagJ00
import Derived.Test.YteabfjpajgakiagJ01
import Derived.Test.YteabfjpajgakiagJ04
import Derived.Test.YteabfjpajgakiagJ05
/- The reference's EntryError. -/
set_option linter.unusedSimpArgs false
set_option linter.unusedVariables false
set_option maxRecDepth 10000
namespace Go.Proofs.Yteabfjpajgakiag
open Go.RowKit

set_option maxHeartbeats 4000000 in
theorem entry_error (e : Ent) (w : World) : Calls Try.prog 24 #[entV e] w fun x w' => x = .returned (.int .i64 (entErr e)) ∧ Keeps w w' := by
  have HE : Hid (entErr e = if inB e.kind 1 3 then (if entIn e then (if e.kind == 2 then opErr e.ok e.okey e.oto e.on else if e.seq == 0 && (e.ack == 0 && opNone e) then 0 else 1) else 3) else 4) := rfl
  have HI : Hid (entIn e = (inB e.time 0 999 && (inB e.client 1 5 && (e.kind != 2 || (inB e.seq 1 60 && inB e.ack 0 (e.seq - 1)))))) := rfl
  have HN : Hid (opNone e = (e.ok == 0 && (e.okey == 0 && (e.oto == 0 && e.on == 0)))) := rfl
  have hn := neqop
  cases q1 : inB e.kind 1 3 with
  | false =>
    have HE : Hid (entErr e = 4) := by show _ = _; rw [HE.out, q1]; rfl
    go_enter Try.func24, Try.ntmps24
    go_wp2_with (first | (go_at_call 29; refine (within_c _ _ _ _).mono ?_; rintro x w' ⟨rfl, rfl⟩))
    go_ret
    exact ⟨ret_int HE.out.symm, (Keeps.refl _).alloc _⟩
  | true =>
    rw [q1] at HE
    cases qt : inB e.time 0 999 with
    | false =>
      have HF : Hid (entErr e = 3) := by show _ = _; rw [HE.out, HI.out, qt]; rfl
      go_enter Try.func24, Try.ntmps24
      go_wp2_with (first | (go_at_call 29; refine (within_c _ _ _ _).mono ?_; rintro x w' ⟨rfl, rfl⟩))
      go_ret
      exact ⟨ret_int HF.out.symm, (Keeps.refl _).alloc _⟩
    | true =>
      cases qc : inB e.client 1 5 with
      | false =>
        have HF : Hid (entErr e = 3) := by show _ = _; rw [HE.out, HI.out, qt, qc]; rfl
        go_enter Try.func24, Try.ntmps24
        go_wp2_with (first | (go_at_call 29; refine (within_c _ _ _ _).mono ?_; rintro x w' ⟨rfl, rfl⟩))
        go_ret
        exact ⟨ret_int HF.out.symm, (Keeps.refl _).alloc _⟩
      | true =>
        cases q3 : (e.kind == 2) with
        | false =>
          have q3' : (e.kind != 2) = true := by simp [bne, q3]
          have HEE : Hid (entErr e = if e.seq == 0 && (e.ack == 0 && opNone e) then 0 else 1) := by show _ = _; rw [HE.out, HI.out, qt, qc, q3', q3]; rfl
          cases q4 : (e.seq == 0) with
          | false =>
            have q4' : (e.seq != 0) = true := by simp [bne, q4]
            have HF : Hid (entErr e = 1) := by show _ = _; rw [HEE.out, q4]; rfl
            go_enter Try.func24, Try.ntmps24
            go_wp2_with (first | (go_at_call 29; refine (within_c _ _ _ _).mono ?_; rintro x w' ⟨rfl, rfl⟩))
            go_ret
            exact ⟨ret_int HF.out.symm, (Keeps.refl _).alloc _⟩
          | true =>
            have q4' : (e.seq != 0) = false := by simp [bne, q4]
            cases q5 : (e.ack == 0) with
            | false =>
              have q5' : (e.ack != 0) = true := by simp [bne, q5]
              have HF : Hid (entErr e = 1) := by show _ = _; rw [HEE.out, q4, q5]; rfl
              go_enter Try.func24, Try.ntmps24
              go_wp2_with (first | (go_at_call 29; refine (within_c _ _ _ _).mono ?_; rintro x w' ⟨rfl, rfl⟩))
              go_ret
              exact ⟨ret_int HF.out.symm, (Keeps.refl _).alloc _⟩
            | true =>
              have q5' : (e.ack != 0) = false := by simp [bne, q5]
              cases q6 : (e.ok == 0 && (e.okey == 0 && (e.oto == 0 && e.on == 0))) with
              | false =>
                have q6' : (!(e.ok == 0 && (e.okey == 0 && (e.oto == 0 && e.on == 0)))) = true := by rw [q6]; rfl
                have HF : Hid (entErr e = 1) := by show _ = _; rw [HEE.out, q4, q5, HN.out, q6]; rfl
                go_enter Try.func24, Try.ntmps24
                go_wp2_with (first | (go_at_call 29; refine (within_c _ _ _ _).mono ?_; rintro x w' ⟨rfl, rfl⟩))
                go_ret
                exact ⟨ret_int HF.out.symm, (Keeps.refl _).alloc _⟩
              | true =>
                have q6' : (!(e.ok == 0 && (e.okey == 0 && (e.oto == 0 && e.on == 0)))) = false := by rw [q6]; rfl
                have HF : Hid (entErr e = 0) := by show _ = _; rw [HEE.out, q4, q5, HN.out, q6]; rfl
                go_enter Try.func24, Try.ntmps24
                go_wp2_with (first | (go_at_call 29; refine (within_c _ _ _ _).mono ?_; rintro x w' ⟨rfl, rfl⟩))
                go_ret
                exact ⟨ret_int HF.out.symm, (Keeps.refl _).alloc _⟩
        | true =>
          have q3' : (e.kind != 2) = false := by simp [bne, q3]
          cases qs : inB e.seq 1 60 with
          | false =>
            have HF : Hid (entErr e = 3) := by show _ = _; rw [HE.out, HI.out, qt, qc, q3', qs]; rfl
            go_enter Try.func24, Try.ntmps24
            go_wp2_with (first | (go_at_call 29; refine (within_c _ _ _ _).mono ?_; rintro x w' ⟨rfl, rfl⟩))
            go_ret
            exact ⟨ret_int HF.out.symm, (Keeps.refl _).alloc _⟩
          | true =>
            have qs' := inB_iff.1 qs
            obtain ⟨qs1, qs2⟩ := qs'
            cases qa : inB e.ack 0 (e.seq - 1) with
            | false =>
              have HF : Hid (entErr e = 3) := by show _ = _; rw [HE.out, HI.out, qt, qc, q3', qs, qa]; rfl
              go_enter Try.func24, Try.ntmps24
              go_wp2_with (first | (go_at_call 29; refine (within_c _ _ _ _).mono ?_; rintro x w' ⟨rfl, rfl⟩))
              go_ret
              exact ⟨ret_int HF.out.symm, (Keeps.refl _).alloc _⟩
            | true =>
              have HF : Hid (entErr e = opErr e.ok e.okey e.oto e.on) := by show _ = _; rw [HE.out, HI.out, qt, qc, q3', qs, qa, q3]; rfl
              go_enter Try.func24, Try.ntmps24
              go_wp2_with (first | (go_at_call 29; refine (within_c _ _ _ _).mono ?_; rintro x w' ⟨rfl, rfl⟩) | (go_at_call 41; refine (op_error e.ok e.okey e.oto e.on _).mono ?_; rintro x w2 ⟨rfl, hb⟩))
              go_ret
              exact ⟨ret_int HF.out.symm, ((Keeps.refl _).alloc _).trans hb⟩

end Go.Proofs.Yteabfjpajgakiag

/- Applying: slices.Insert of an answer, in the middle. -/
set_option linter.unusedSimpArgs false
set_option linter.unusedVariables false
set_option maxRecDepth 10000
namespace Go.Proofs.Yteabfjpajgakiag
open Go.RowKit

theorem RepRow.drew {w : World} {g cap : Nat} {xs : List Value} (h : RepRow w g cap xs) : RepRow w.drew g cap xs := h.keep (Keeps.refl _).drew
/-- The row, with as much of the spare room as is wanted. -/
theorem RepRow.more {w : World} {g cap : Nat} {xs : List Value} (h : RepRow w g cap xs) (n : Nat) (h1 : xs.length ≤ n) (h2 : n ≤ cap * 2) : ∃ ys : List Value, ys.length = n - xs.length ∧ RepRow w g cap (xs ++ ys) := by
  obtain ⟨cur, e1, e2, e3, e4, e5⟩ := h
  refine ⟨(cur.toList.take n).drop xs.length, by simp; omega, cur, e1, e2, e3, by simp; omega, ?_⟩
  have hl : (cur.toList.take n).length = n := by simp; omega
  rw [List.length_append, List.length_drop, hl, show xs.length + (n - xs.length) = n from by omega]
  have hx : xs = (cur.toList.take n).take xs.length := by rw [List.take_take, Nat.min_eq_left h1, e5]
  exact (List.take_append_drop xs.length (cur.toList.take n)).symm.trans (congrArg (· ++ _) hx.symm)

theorem ins_list (A : List (Int × Int)) (i : Nat) (ys : List Value) (q x : Int) (hi : i < A.length) (hy : ys.length = 2) :
    setL (setL (repCells A ++ ys) ((i + 1) * 2) (repCells (A.drop i))) (i * 2) [.int .i64 q, .int .i64 x] = repCells (A.take i ++ (q, x) :: A.drop i) := by
  have hA : A = A.take i ++ A.drop i := (List.take_append_drop _ _).symm
  have hl : (repCells (A.drop i)).length = (A.length - i) * 2 := by rw [repCells_len, List.length_drop]
  have hlA : (repCells A).length = A.length * 2 := repCells_len _
  rw [setL_eq _ _ ((i + 1) * 2) (by rw [List.length_append, hl, hlA, hy]; omega)]
  rw [show ((i + 1) * 2 + (repCells (A.drop i)).length) = (repCells A ++ ys).length from by rw [List.length_append, hl, hlA, hy]; omega, List.drop_length, List.append_nil]
  rw [setL_eq _ _ (i * 2) (by rw [List.length_append, List.length_take, List.length_append, hl, hlA, hy]; simp; omega)]
  have ht : (List.take ((i + 1) * 2) (repCells A ++ ys)).length = (i + 1) * 2 := by rw [List.length_take, List.length_append, hlA, hy]; omega
  rw [List.take_append_of_le_length (by rw [ht]; omega), List.take_take, Nat.min_eq_left (by omega), List.take_append_of_le_length (by rw [hlA]; omega), repCells_take]
  rw [show i * 2 + [Value.int .i64 q, .int .i64 x].length = (i + 1) * 2 from by simp; omega]
  rw [show List.drop ((i + 1) * 2) (List.take ((i + 1) * 2) (repCells A ++ ys) ++ repCells (A.drop i)) = repCells (A.drop i) from List.drop_left' ht]
  rw [repCells_append]
  simp [repCells]

set_option maxHeartbeats 4000000 in
theorem insert_shift (g vb cap i : Nat) (A : List (Int × Int)) (q x : Int) (w : World) (hr : RepRow w g cap (repCells A)) (hi : i < A.length) (h3 : A.length ≤ 3) (hroom : A.length + 1 ≤ cap) (hv : w.heap[vb]? = some (.cells #[.int .i64 q, .int .i64 x] 109 (0, 0))) (hne : vb ≠ g) :
    Calls Try.prog 93 #[.slice (some ⟨g, 0, none⟩) A.length cap, .int .i64 i, .slice (some ⟨vb, 0, none⟩) 1 1] w fun e w' => ∃ g' kv', KeptOn g' w' kv' (A.take i ++ (q, x) :: A.drop i) ∧ (g' = g ∨ w.heap.size ≤ g') ∧ e = .returned kv' ∧ But g w w' := by
  have hcm : cap ≤ maxLen := hr.choose_spec.2.2.1
  unfold maxLen at hcm
  have hov : ∀ lb cb, (callFunc 94 #[.slice (some ⟨vb, 0, none⟩) 1 1, .slice (some ⟨g, (i + 1) * 2, none⟩) lb cb]).run Try.prog w = .ok (.value (.bool false)) w := fun lb cb => over_no w g vb _ lb cb cap q x _ hr (by omega) hv hne
  have hdl : (repCells (A.drop i)).length = (A.length - i) * 2 := by rw [repCells_len, List.length_drop]
  have hcs : ∀ j v, (repCells (A.drop i))[j]? = some v → w.cell? ⟨g, i * 2 + j, none⟩ = some v := fun j v hj => hr.cell _ _ (by rw [← repCells_drop, List.getElem?_drop] at hj; exact hj)
  have hcp1 : ∀ ty dc sc, (Builtin.copy_ #[80, 80] ty #[.slice (some ⟨g, (i + 1) * 2, none⟩) (A.length - i) dc, .slice (some ⟨g, i * 2, none⟩) (A.length + 1 - i) sc]).run Try.prog w.drew = .ok (goInt (Nat.min (A.length + 1 - i) (A.length - i))) (w.drew.setCells g ((i + 1) * 2) (repCells (A.drop i))) := fun ty dc sc =>
    run_copy_rep w.drew ty g ((i + 1) * 2) _ dc ⟨g, i * 2, none⟩ _ sc _ (by rw [hdl]; simp only [Nat.min_def]; split <;> omega) (fun j v hj => by rw [Addr.add_lit]; exact hcs j v hj)
      (fun j hj => by obtain ⟨u, hu⟩ := hr.drew.some ((i + 1) * 2 + j) (by omega); rw [hu]; rfl) (fun j _ => hr.drew.frozen _) (repCells_one _)
  obtain ⟨ys, hys, hr2⟩ := hr.more ((A.length + 1) * 2) (by rw [repCells_len]; omega) (by omega)
  have hy2 : ys.length = 2 := by rw [hys, repCells_len]; omega
  have hr3 : RepRow (w.drew.setCells g ((i + 1) * 2) (repCells (A.drop i))) g cap _ := RepRow.setCells (repCells (A.drop i)) ((i + 1) * 2) hr2.drew
  have hvc : ∀ j u, [Value.int .i64 q, .int .i64 x][j]? = some u → (w.drew.setCells g ((i + 1) * 2) (repCells (A.drop i))).cell? ((⟨vb, 0, none⟩ : Addr).add j) = some u := fun j u hu => by
    rw [Addr.add_lit, Nat.zero_add]
    exact (But.setCells _ _ (But.of (Keeps.refl w).drew)).at (by have := vb_cells hv j u hu; rwa [Addr.add_lit, Nat.zero_add] at this) hne
  have hcp2 : ∀ ty dc, (Builtin.copy_ #[80, 80] ty #[.slice (some ⟨g, i * 2, none⟩) (A.length + 1 - i) dc, .slice (some ⟨vb, 0, none⟩) 1 1]).run Try.prog (w.drew.setCells g ((i + 1) * 2) (repCells (A.drop i))) = .ok (goInt (Nat.min 1 (A.length + 1 - i))) ((w.drew.setCells g ((i + 1) * 2) (repCells (A.drop i))).setCells g (i * 2) [.int .i64 q, .int .i64 x]) := fun ty dc =>
    run_copy_rep _ ty g (i * 2) _ dc ⟨vb, 0, none⟩ 1 1 [.int .i64 q, .int .i64 x] (by simp only [Nat.min_def]; split <;> simp <;> omega) hvc
      (fun j hj => by obtain ⟨u, hu⟩ := hr3.some (i * 2 + j) (by simp at hj; omega); rw [hu]; rfl) (fun j _ => hr3.frozen _) (by intro u hu; simp at hu; rcases hu with rfl | rfl <;> rfl)
  have HF : Hid (KeptOn g ((w.drew.setCells g ((i + 1) * 2) (repCells (A.drop i))).setCells g (i * 2) [.int .i64 q, .int .i64 x]) (.slice (some ⟨g, 0, none⟩) (A.length + 1) cap) (A.take i ++ (q, x) :: A.drop i)) := by
    refine .inr ⟨cap, by simp; omega, ?_⟩
    have := RepRow.setCells [.int .i64 q, .int .i64 x] (i * 2) hr3
    rw [ins_list A i ys q x hi hy2] at this
    exact this
  have HB : Hid (But g w ((w.drew.setCells g ((i + 1) * 2) (repCells (A.drop i))).setCells g (i * 2) [.int .i64 q, .int .i64 x])) := But.setCells _ _ (But.setCells _ _ (But.of (Keeps.refl w).drew))
  have hw1 : IntKind.i64.wrap ((i : Int) + 1) = (i : Int) + 1 := by rw [IntKind.wrap_i64]; omega
  have htn : ((i : Int) + 1).toNat = i + 1 := by omega
  have htn2 : ((A.length : Int) + 1).toNat = A.length + 1 := by omega
  have hb2 : ¬ (cap = i + 1) := by omega
  have hb4 : ¬ (cap = i) := by omega
  have hb1 : (0 : Int) ≤ (i : Int) + 1 := by omega
  have hin : i ≤ A.length := by omega
  have hb3 : (i : Int) ≤ (A.length : Int) + 1 := by omega
  clear hr hr2 hr3 hys hy2 hvc hcs hv
  generalize A.length = n at *
  generalize (w.drew.setCells g ((i + 1) * 2) (repCells (A.drop i))) = W1 at *
  go_enter Try.func93, Try.ntmps93
  go_wp2_with (simp only [hov])
  go_region_law (refine step_copy_run rfl _ _ 80 rfl (by simp [Act.eval, Act.put]) (by simp [Act.eval, Act.put]) (hcp1 _ _ _) ?_)
  go_wp2_with (at_builtin; refine wpList_copy_run rfl _ _ _ rfl rfl rfl (hcp2 _ _) ?_)
  go_ret
  exact ⟨g, _, HF.out, .inl rfl, rfl, HB.out⟩

theorem ins_list2 (A : List (Int × Int)) (i : Nat) (zs : List Value) (q x : Int) (hi : i < A.length) (hz : zs.length = (A.length + 1 - i) * 2) :
    setL (setL (repCells (A.take i) ++ zs) (i * 2) [.int .i64 q, .int .i64 x]) ((i + 1) * 2) (repCells (A.drop i)) = repCells (A.take i ++ (q, x) :: A.drop i) := by
  have hl : (repCells (A.drop i)).length = (A.length - i) * 2 := by rw [repCells_len, List.length_drop]
  have ht : (repCells (A.take i)).length = i * 2 := by rw [repCells_len, List.length_take, Nat.min_eq_left (by omega)]
  rw [setL_eq _ _ (i * 2) (by rw [List.length_append, ht, hz]; simp; omega)]
  rw [List.take_left' ht]
  have hq : (repCells (A.take i) ++ [Value.int .i64 q, .int .i64 x]).length = (i + 1) * 2 := by rw [List.length_append, ht]; simp; omega
  have hd : (List.drop (i * 2 + [Value.int .i64 q, .int .i64 x].length) (repCells (A.take i) ++ zs)).length = (A.length - i) * 2 := by rw [List.length_drop, List.length_append, ht, hz]; simp; omega
  generalize List.drop (i * 2 + [Value.int .i64 q, .int .i64 x].length) (repCells (A.take i) ++ zs) = D at *
  generalize hT : repCells (A.take i) ++ [Value.int .i64 q, .int .i64 x] = T at *
  rw [setL_eq _ _ ((i + 1) * 2) (by rw [List.length_append, hq, hd, hl]; omega)]
  have e : List.drop ((i + 1) * 2 + (repCells (A.drop i)).length) (T ++ D) = [] := List.drop_of_length_le (by rw [List.length_append, hq, hd, hl]; omega)
  rw [e, List.take_left' hq, List.append_nil, ← hT, repCells_append]
  simp [repCells]

set_option maxHeartbeats 4000000 in
theorem insert_grow (g vb cap i : Nat) (A : List (Int × Int)) (q x : Int) (w : World) (hr : RepRow w g cap (repCells A)) (hi : i < A.length) (h3 : A.length ≤ 3) (hroom : cap < A.length + 1) (hv : w.heap[vb]? = some (.cells #[.int .i64 q, .int .i64 x] 109 (0, 0))) (hne : vb ≠ g) :
    Calls Try.prog 93 #[.slice (some ⟨g, 0, none⟩) A.length cap, .int .i64 i, .slice (some ⟨vb, 0, none⟩) 1 1] w fun e w' => ∃ g' kv', KeptOn g' w' kv' (A.take i ++ (q, x) :: A.drop i) ∧ (g' = g ∨ w.heap.size ≤ g') ∧ e = .returned kv' ∧ But g w w' := by
  have hcl : A.length ≤ cap := by obtain ⟨cur, _, _, _, h4, _⟩ := hr; rw [repCells_len] at h4; omega
  obtain ⟨i0, hi0, hz0, hzs, hzb⟩ := info_parts infoRep
  have hglt := hr.lt
  have hvlt : vb < w.heap.size := (Array.getElem?_eq_some_iff.1 hv).1
  have hdl : (repCells (A.drop i)).length = (A.length - i) * 2 := by rw [repCells_len, List.length_drop]
  have hcs : ∀ j v, (repCells (A.drop i))[j]? = some v → w.cell? ⟨g, i * 2 + j, none⟩ = some v := fun j v hj => hr.cell _ _ (by rw [← repCells_drop, List.getElem?_drop] at hj; exact hj)
  have hold : (Builtin.firstCells i0.size i (.slice (some ⟨g, 0, none⟩) i cap)).run Try.prog w.drew = .ok (repCells (A.take i)).toArray w.drew := by
    rw [hzs]
    refine run_firstCells_some w.drew 2 i ⟨g, 0, none⟩ i cap (repCells (A.take i)) (by rw [repCells_len, List.length_take]; omega) (fun j v hj => ?_)
    rw [Addr.add_lit, Nat.zero_add]
    rw [← repCells_take, List.getElem?_take] at hj
    split at hj
    · exact hr.cell j v hj
    · cases hj
  have hkk : (A.length : Int) + 1 - (i : Int) = ((A.length + 1 - i : Nat) : Int) := by omega
  have hrz := Lib.run_append_grow_zeros (P := Try.prog) w 80 3 80 109 i0 _ .i64 .i64 Try.underlying80 Try.underlying3 hi0 hz0 (some ⟨g, 0, none⟩) i cap (repCells (A.take i)) hold (A.length + 1 - i) (by omega) (by omega) (by omega) (by omega) (by rw [hzb]; omega) (by rw [hzb, show i + (A.length + 1 - i) = A.length + 1 from by omega]; exact growslice_fits hroom (by omega))
  rw [show i + (A.length + 1 - i) = A.length + 1 from by omega, ← hkk] at hrz
  obtain ⟨G, hG⟩ : ∃ G, G = grownCap w (A.length + 1) cap 109 := ⟨_, rfl⟩
  have hGn : A.length + 1 ≤ G := by rw [hG]; exact grownCap_ge w _ _ _
  have hGm : G ≤ maxLen := by rw [hG]; exact grownCap_le_maxLen w (A.length + 1) cap 109 (by unfold maxLen; omega)
  rw [← hG] at hrz
  obtain ⟨W1, hW1⟩ : ∃ W1, W1 = (w.drew.alloc (.cells ((repCells (A.take i)).toArray ++ Builtin.zeroCells (Value.cells (.agg #[.int .i64 0, .int .i64 0])) (A.length + 1 - i) ++ Builtin.zeroCells (Value.cells (.agg #[.int .i64 0, .int .i64 0])) (G - (A.length + 1))) 109)) := ⟨_, rfl⟩
  rw [← hW1] at hrz
  have hlt : (repCells (A.take i)).length = i * 2 := by rw [repCells_len, List.length_take, Nat.min_eq_left (by omega)]
  obtain ⟨zs, hzs1⟩ : ∃ zs : List Value, zs = (Builtin.zeroCells (Value.cells (.agg #[.int .i64 0, .int .i64 0])) (A.length + 1 - i)).toList := ⟨_, rfl⟩
  have hzl : zs.length = (A.length + 1 - i) * 2 := by rw [hzs1, Array.length_toList, size_zeroCells]; rfl
  have hr1 : RepRow W1 w.heap.size G (repCells (A.take i) ++ zs) := by
    refine ⟨_, by rw [hW1]; exact heap_alloc_new w.drew _, ?_, hGm, by rw [List.length_append, hlt, hzl]; omega, ?_⟩
    · simp only [Array.size_append, List.size_toArray, size_zeroCells, hlt]
      simp [Value.cells]
      omega
    · rw [Array.toList_append, Array.toList_append, ← hzs1]
      exact List.take_left' rfl
  have hk1 : Keeps w W1 := by rw [hW1]; exact (Keeps.refl _).drew.alloc _
  have hz1 : w.heap.size < W1.heap.size := hr1.lt
  clear hold hW1
  have hvc : ∀ j u, [Value.int .i64 q, .int .i64 x][j]? = some u → W1.cell? ((⟨vb, 0, none⟩ : Addr).add j) = some u := fun j u hu => by
    have := vb_cells hv j u hu
    rw [Addr.add_lit] at this ⊢
    exact cell_kept this hk1
  have hcpA : ∀ ty dc, (Builtin.copy_ #[80, 80] ty #[.slice (some ⟨w.heap.size, i * 2, none⟩) (A.length + 1 - i) dc, .slice (some ⟨vb, 0, none⟩) 1 1]).run Try.prog W1 = .ok (goInt (Nat.min 1 (A.length + 1 - i))) (W1.setCells w.heap.size (i * 2) [.int .i64 q, .int .i64 x]) := fun ty dc =>
    run_copy_rep _ ty w.heap.size (i * 2) _ dc ⟨vb, 0, none⟩ 1 1 [.int .i64 q, .int .i64 x] (by simp only [Nat.min_def]; split <;> simp <;> omega) hvc
      (fun j hj => by obtain ⟨u, hu⟩ := hr1.some (i * 2 + j) (by simp at hj; omega); rw [hu]; rfl) (fun j _ => hr1.frozen _) (by intro u hu; simp at hu; rcases hu with rfl | rfl <;> rfl)
  have hr2 : RepRow (W1.setCells w.heap.size (i * 2) [.int .i64 q, .int .i64 x]) w.heap.size G _ := RepRow.setCells [.int .i64 q, .int .i64 x] (i * 2) hr1
  have hk2 : Keeps w (W1.setCells w.heap.size (i * 2) [.int .i64 q, .int .i64 x]) := But.to hk1 (Nat.le_refl _) (But.setCells _ _ (But.refl _ _))
  generalize hW2 : W1.setCells w.heap.size (i * 2) [.int .i64 q, .int .i64 x] = W2 at *
  have hz2 : w.heap.size < W2.heap.size := hr2.lt
  have hcpB : ∀ ty dc sc, (Builtin.copy_ #[80, 80] ty #[.slice (some ⟨w.heap.size, (i + 1) * 2, none⟩) (A.length - i) dc, .slice (some ⟨g, i * 2, none⟩) (A.length - i) sc]).run Try.prog W2.drew = .ok (goInt (Nat.min (A.length - i) (A.length - i))) (W2.drew.setCells w.heap.size ((i + 1) * 2) (repCells (A.drop i))) := fun ty dc sc =>
    run_copy_rep _ ty w.heap.size ((i + 1) * 2) _ dc ⟨g, i * 2, none⟩ _ sc (repCells (A.drop i)) (by rw [hdl, show Nat.min (A.length - i) (A.length - i) = A.length - i from Nat.min_self _]) (fun j v hj => by rw [Addr.add_lit]; exact cell_kept (hcs j v hj) (hk2.drew))
      (fun j hj => by obtain ⟨u, hu⟩ := hr2.drew.some ((i + 1) * 2 + j) (by omega); rw [hu]; rfl) (fun j _ => hr2.drew.frozen _) (repCells_one _)
  have HF : Hid (KeptOn w.heap.size (W2.drew.setCells w.heap.size ((i + 1) * 2) (repCells (A.drop i))) (.slice (some ⟨w.heap.size, 0, none⟩) (A.length + 1) G) (A.take i ++ (q, x) :: A.drop i)) := by
    refine .inr ⟨G, by simp; omega, ?_⟩
    have := RepRow.setCells (repCells (A.drop i)) ((i + 1) * 2) hr2.drew
    rw [ins_list2 A i zs q x hi hzl] at this
    exact this
  have HB : Hid (But g w (W2.drew.setCells w.heap.size ((i + 1) * 2) (repCells (A.drop i)))) := But.of (But.to hk2.drew (Nat.le_refl _) (But.setCells _ _ (But.refl _ _)))
  have hw1 : IntKind.i64.wrap ((i : Int) + 1) = (i : Int) + 1 := by rw [IntKind.wrap_i64]; omega
  have htn : ((i : Int) + 1).toNat = i + 1 := by omega
  have hGi : ¬ (G = i) := by omega
  have hGi2 : ¬ (G = i + 1) := by omega
  have hci : ¬ (cap = i) := by omega
  have hb1 : (0 : Int) ≤ (i : Int) + 1 := by omega
  have hin : i ≤ A.length := by omega
  have hb3 : (i : Int) ≤ (A.length : Int) + 1 := by omega
  have hG63 : G ≤ 9223372036854775807 := by unfold maxLen at hGm; omega
  have Hrz := (show Hid (_ = _) from hrz)
  clear hr hr1 hr2 hvc hcs hv hrz hkk hlt hzs1 hW2 hk1 hk2 hG hGm hzl
  generalize A.length = n at *
  generalize hWN : w.heap.size = N at *
  go_enter Try.func93, Try.ntmps93
  go_wp2_with (at_builtin; first | (refine Lib.wpList_append_run _ rfl _ _ _ _ rfl _ _ rfl rfl _ _ Hrz.out ?_) | (refine wpList_copy_run rfl _ _ _ rfl rfl rfl (hcpA _ _) ?_))
  go_region_law (refine step_copy_run rfl _ _ 80 rfl (by simp [Act.eval, Act.put]) (by simp [Act.eval, Act.put]) (hcpB _ _ _) ?_)
  go_wp2_with fail
  go_ret
  exact ⟨N, _, HF.out, .inr (Nat.le_refl _), rfl, HB.out⟩

/-- slices.Insert of an answer. -/
theorem insert_c (g vb i : Nat) (A : List (Int × Int)) (q x : Int) (kv : Value) (w : World) (hk : KeptOn g w kv A) (hi : i ≤ A.length) (h3 : A.length ≤ 3) (hv : w.heap[vb]? = some (.cells #[.int .i64 q, .int .i64 x] 109 (0, 0))) (hne : vb ≠ g) :
    Calls Try.prog 93 #[kv, .int .i64 i, .slice (some ⟨vb, 0, none⟩) 1 1] w fun e w' => ∃ g' kv', KeptOn g' w' kv' (A.take i ++ (q, x) :: A.drop i) ∧ (g' = g ∨ w.heap.size ≤ g') ∧ e = .returned kv' ∧ But g w w' := by
  by_cases hlt : i < A.length
  · rcases hk with ⟨_, h⟩ | ⟨cap, rfl, hr⟩
    · rw [h] at hlt; simp at hlt
    · by_cases hroom : A.length + 1 ≤ cap
      · exact insert_shift g vb cap i A q x w hr hlt h3 hroom hv hne
      · exact insert_grow g vb cap i A q x w hr hlt h3 (by omega) hv hne
  · have : i = A.length := by omega
    subst this
    rw [List.take_length, List.drop_length]
    exact insert_end g vb A q x kv w hk h3 hv
end Go.Proofs.Yteabfjpajgakiag

/- Applying: slices.BinarySearchFunc over the answers that are kept. -/
set_option linter.unusedSimpArgs false
set_option linter.unusedVariables false
set_option maxRecDepth 10000
namespace Go.Proofs.Yteabfjpajgakiag
open Go.RowKit

def cmpI (a b : Int) : Int := if a < b then -1 else if b < a then 1 else 0

theorem is_nan (a : Int) (w : World) : Calls Try.prog 53 #[.int .i64 a] w fun e w' => e = .returned (.bool false) ∧ w = w' := by
  go_enter Try.func53, Try.ntmps53
  go_wp2
  go_ret
  exact ⟨by simp, rfl⟩

set_option maxHeartbeats 1000000 in
theorem cmp_c (a b : Int) (w : World) : Calls Try.prog 91 #[.int .i64 a, .int .i64 b] w fun e w' => e = .returned (.int .i64 (cmpI a b)) ∧ w = w' := by
  have HC : Hid (cmpI a b = if a < b then -1 else if b < a then 1 else 0) := rfl
  by_cases h1 : a < b
  · have HE : Hid (cmpI a b = -1) := by show _ = _; rw [HC.out, if_pos h1]
    go_enter Try.func91, Try.ntmps91
    go_wp2_with (first | (go_at_call 53; refine (is_nan _ _).mono ?_; rintro e w' ⟨rfl, rfl⟩))
    go_ret
    exact ⟨ret_int HE.out.symm, rfl⟩
  · by_cases h2 : b < a
    · have HE : Hid (cmpI a b = 1) := by show _ = _; rw [HC.out, if_neg h1, if_pos h2]
      go_enter Try.func91, Try.ntmps91
      go_wp2_with (first | (go_at_call 53; refine (is_nan _ _).mono ?_; rintro e w' ⟨rfl, rfl⟩))
      go_ret
      exact ⟨ret_int HE.out.symm, rfl⟩
    · have HE : Hid (cmpI a b = 0) := by show _ = _; rw [HC.out, if_neg h1, if_neg h2]
      go_enter Try.func91, Try.ntmps91
      go_wp2_with (first | (go_at_call 53; refine (is_nan _ _).mono ?_; rintro e w' ⟨rfl, rfl⟩))
      go_ret
      exact ⟨ret_int HE.out.symm, rfl⟩

theorem by_seq (q v seq : Int) (w : World) : Calls Try.prog 90 #[.agg #[.int .i64 q, .int .i64 v], .int .i64 seq] w fun e w' => e = .returned (.int .i64 (cmpI q seq)) ∧ Keeps w w' := by
  go_enter Try.func90, Try.ntmps90
  go_wp2_with (first | (go_at_call 91; refine (cmp_c _ _ _).mono ?_; rintro e w' ⟨rfl, rfl⟩))
  go_ret
  exact ⟨rfl, (Keeps.refl _).alloc _⟩

theorem fnc83 (args : Array Value) (W : World) : (callFunc 90 args).run Try.prog W = .ok (.enter 90 args) W := by kernel_rfl

/-- Where a number is, or belongs, among answers that rise. -/
structure Place (l : List (Int × Int)) (seq : Int) (p : Nat) : Prop where
  le : p ≤ l.length
  low : ∀ k (h : k < l.length), k < p → (l[k]).1 < seq
  high : ∀ k (h : k < l.length), p ≤ k → seq ≤ (l[k]).1

def thereB (l : List (Int × Int)) (seq : Int) (p : Nat) : Bool := match l[p]? with | some r => r.1 == seq | none => false

def Rises (l : List (Int × Int)) : Prop := ∀ i j (hi : i < l.length) (hj : j < l.length), i < j → (l[i]).1 < (l[j]).1

theorem place_up {l : List (Int × Int)} {seq q v : Int} {h : Nat} (hri : Rises l) (hh : h < l.length) (hz : l[h] = (q, v)) (hq : q < seq) : ∀ k (hk : k < l.length), k < h + 1 → (l[k]).1 < seq := by
  intro k hk hkh
  by_cases e : k = h
  · subst e
    rw [hz]
    exact hq
  · have := hri k h hk hh (by omega)
    rw [hz] at this
    simp only [] at this
    omega
theorem place_down {l : List (Int × Int)} {seq q v : Int} {h : Nat} (hri : Rises l) (hh : h < l.length) (hz : l[h] = (q, v)) (hq : ¬ q < seq) : ∀ k (hk : k < l.length), h ≤ k → seq ≤ (l[k]).1 := by
  intro k hk hkh
  by_cases e : k = h
  · subst e
    rw [hz]
    simp only []
    omega
  · have := hri h k hh hk (by omega)
    rw [hz] at this
    simp only [] at this
    omega

set_option maxHeartbeats 4000000 in
theorem search_c (l : List (Int × Int)) (kv : Value) (seq : Int) (w : World) (hk : KeptAt w kv l) (h3 : l.length ≤ 3) (hri : Rises l) :
    Calls Try.prog 89 #[kv, .int .i64 seq, .func (.func 90) #[] #[]] w fun e w' => ∃ p : Nat, Place l seq p ∧ e = .returned (.tuple #[.int .i64 p, .bool (thereB l seq p)]) ∧ Keeps w w' := by
  obtain ⟨ka, kc, rfl, hlen⟩ := hk.len
  have HK : Hid (KeptAt w (.slice ka l.length kc) l) := hk
  have HRI : Hid (Rises l) := hri
  have hf := fnc83
  clear hk hlen hri
  go_enter Try.func89, Try.ntmps89
  go_wp2_with fail
  go_loopw [9, 10] (fun i j wr => ∃ (a b : Nat), i = .int .i64 a ∧ j = .int .i64 b ∧ a ≤ b ∧ b ≤ l.length ∧ Hid (∀ k (h : k < l.length), k < a → (l[k]).1 < seq) ∧ Hid (∀ k (h : k < l.length), b ≤ k → seq ≤ (l[k]).1) ∧ Keeps w wr) (fun i j _ => (intOf j).toNat - (intOf i).toNat)
  case atStart => exact ⟨0, l.length, rfl, rfl, Nat.zero_le _, Nat.le_refl _, fun k h h' => by omega, fun k h h' => by omega, Keeps.refl _⟩
  case round =>
    obtain ⟨a, b, rfl, rfl, hab, hbn, HL, HH, hkw⟩ := hrel
    by_cases hlt : a < b
    · have hh : (a + b) / 2 < l.length := by omega
      obtain ⟨g, off, cp, hv, _, hcell⟩ := (HK.out.keep hkw).at hh
      injection hv with hv1 hv2 hv3
      subst hv1
      clear hv2 hv3
      obtain ⟨c0, c1⟩ := hcell _ hh
      clear hcell
      have HE : Hid (∃ q v, l[(a + b) / 2] = (q, v)) := ⟨_, _, rfl⟩
      generalize hz : l[(a + b) / 2] = z at *
      have HZ : Hid (∀ h, l[(a + b) / 2]'h = z) := fun _ => hz
      clear hz HE
      obtain ⟨q, v⟩ := z
      simp only [] at c0 c1
      have hcase : (a = 0 ∧ b = 1) ∨ (a = 0 ∧ b = 2) ∨ (a = 0 ∧ b = 3) ∨ (a = 1 ∧ b = 2) ∨ (a = 1 ∧ b = 3) ∨ (a = 2 ∧ b = 3) := by omega
      rcases hcase with ⟨rfl, rfl⟩ | ⟨rfl, rfl⟩ | ⟨rfl, rfl⟩ | ⟨rfl, rfl⟩ | ⟨rfl, rfl⟩ | ⟨rfl, rfl⟩
      all_goals
        simp only [Nat.reduceAdd, Nat.reduceDiv, Nat.zero_mul, Nat.one_mul, Nat.reduceMul, Nat.add_zero] at c0 c1
        by_cases hq : q < seq
        · have hcm : cmpI q seq < 0 := by unfold cmpI; rw [if_pos hq]; decide
          have HU : Hid _ := place_up HRI.out hh (HZ.out hh) hq
          go_wp2_with (first | (go_at_call 90; refine (by_seq q v seq _).mono ?_; rintro e w2 ⟨rfl, hb⟩))
          go_roundw
          case rel => refine ⟨_, _, by go_num, rfl, ?_, hbn, HU, HH, hkw.trans hb⟩; first | decide | omega
          case measure => simp [intOf]
        · have hcm : ¬ cmpI q seq < 0 := by unfold cmpI; rw [if_neg hq]; split <;> decide
          have HU : Hid _ := place_down HRI.out hh (HZ.out hh) hq
          go_wp2_with (first | (go_at_call 90; refine (by_seq q v seq _).mono ?_; rintro e w2 ⟨rfl, hb⟩))
          go_roundw
          case rel => refine ⟨_, _, rfl, by go_num, ?_, ?_, HL, HU, hkw.trans hb⟩ <;> first | decide | exact Nat.le_trans (by decide) hbn
          case measure => simp [intOf]
    · have hab' : a = b := by omega
      subst hab'
      have hP : Hid (Place l seq a) := ⟨hbn, HL.out, HH.out⟩
      by_cases han : a < l.length
      · obtain ⟨g, off, cp, hv, _, hcell⟩ := (HK.out.keep hkw).at han
        injection hv with hv1 hv2 hv3
        subst hv1
        clear hv2 hv3
        obtain ⟨c0, c1⟩ := hcell _ han
        clear hcell
        have HT : Hid (thereB l seq a = ((l[a]).1 == seq)) := by show _ = _; simp [thereB, han]
        generalize l[a] = z at *
        obtain ⟨q, v⟩ := z
        simp only [] at c0 c1
        have HC : Hid ((cmpI q seq == 0) = (q == seq)) := by
          show _ = _
          unfold cmpI
          by_cases h1 : q < seq
          · rw [if_pos h1, show (q == seq) = false from by simp; omega]
            rfl
          · rw [if_neg h1]
            by_cases h2 : seq < q
            · rw [if_pos h2, show (q == seq) = false from by simp; omega]
              rfl
            · rw [if_neg h2, show (q == seq) = true from by simp; omega]
              rfl
        go_wp2_with (first | (go_at_call 90; refine (by_seq q v seq _).mono ?_; rintro e w2 ⟨rfl, hb⟩))
        go_ret2
        exact ⟨a, hP.out, by rw [HT.out, HC.out]; rfl, hkw.trans hb⟩
      · have HT : Hid (thereB l seq a = false) := by show _ = _; simp [thereB, han]
        go_wp2_with fail
        go_ret2
        exact ⟨a, hP.out, by rw [HT.out]; rfl, hkw⟩
end Go.Proofs.Yteabfjpajgakiag
