/- ApF, ApF2, ApE, OpC. -/
import Derived.Deep.RegionLaw
import Derived.Lib.AppendZerosOnto
import Derived.Lib.Overlaps
import Derived.Laws.Externs
import Derived.Test.YteabfjpajgakiagGreatJ01
import Derived.Test.YteabfjpajgakiagGreatJ02
import Derived.Test.YteabfjpajgakiagGreatJ03
/- Applying: slices.Insert of an answer. -/
set_option linter.unusedSimpArgs false
set_option linter.unusedVariables false
set_option maxRecDepth 10000
namespace Go.Proofs.YteabfjpajgakiagGreat
open Go.RowKit

theorem KeptOn.of_owns_at {base g n c : Nat} {w : World} {l : List (Int × Int)} (h : w.ownsRow base 73 2 (.slice (some ⟨g, 0, none⟩) n c) l.length (repCells l)) : KeptOn g w (.slice (some ⟨g, 0, none⟩) n c) l := by
  obtain ⟨g', hk, _⟩ := KeptOn.of_owns h
  rcases hk with ⟨e, _⟩ | ⟨cap, e, hr⟩
  · cases e
  · injection e with e1 e2 e3
    injection e1 with e1
    injection e1 with e1
    subst e1 e2 e3
    exact .inr ⟨_, rfl, hr⟩
theorem But.of_grown {g : Nat} {w w' : World} {row : Option Nat} (h : w.grownBy w' row) (hr : ∀ k, row = some k → k = g) : But g w w' :=
  ⟨h.os, h.tape, h.output, h.size, fun k hk hne => h.block k hk (fun e => hne (hr k e.symm))⟩

theorem vb_cells {w : World} {vb : Nat} {q x : Int} (hv : w.heap[vb]? = some (.cells #[.int .i64 q, .int .i64 x] 73 (0, 0))) : ∀ j u, [Value.int .i64 q, .int .i64 x][j]? = some u → w.cell? ((⟨vb, 0, none⟩ : Addr).add j) = some u := by
  intro j u hu
  rw [Addr.add_lit, Nat.zero_add]
  simp [World.cell?, hv]
  simpa using hu

/-- 'append(kept, answer)'. -/
theorem run_put_end (w : World) (g vb : Nat) (A : List (Int × Int)) (q x : Int) (kv : Value) (hk : KeptOn g w kv A) (h3 : A.length ≤ 3) (hv : w.heap[vb]? = some (.cells #[.int .i64 q, .int .i64 x] 73 (0, 0))) :
    ∃ g' kv' w', (Builtin.append_ #[69, 69] 69 #[kv, .slice (some ⟨vb, 0, none⟩) 1 1]).run Tryz.prog w = .ok kv' w' ∧ KeptOn g' w' kv' (A ++ [(q, x)]) ∧ (g' = g ∨ w.heap.size ≤ g') ∧ But g w w' := by
  obtain ⟨i, hi, hz, hs, hb⟩ := info_parts infoRep
  have hl : [Value.int .i64 q, .int .i64 x].length = 1 * 2 := rfl
  have h1 : ∀ u ∈ [Value.int .i64 q, .int .i64 x], u.oneCell' = true := by intro u hu; simp at hu; rcases hu with rfl | rfl <;> rfl
  have hc := vb_cells hv
  have happ : repCells A ++ [Value.int .i64 q, .int .i64 x] = repCells (A ++ [(q, x)]) := by rw [repCells_append]; rfl
  rcases hk with ⟨rfl, rfl⟩ | ⟨cap, rfl, hr⟩
  · obtain ⟨v', w', hrun, ho, hg, _⟩ := run_append_own (P := Tryz.prog) w w.heap.size 69 69 73 i _ 2 16 Tryz.underlying69 hi hz hs hb rfl (by decide) (.slice none 0 0) 0 [] (World.ownsRow_nil _ _ _ _) ⟨vb, 0, none⟩ 1 1 _ hl hc h1 (by unfold maxLen; omega) (by omega) (Nat.le_refl _)
    have ho' : w'.ownsRow w.heap.size 73 2 v' [(q, x)].length (repCells [(q, x)]) := ho
    obtain ⟨g', hk', hge, _⟩ := KeptOn.of_owns ho'
    exact ⟨g', v', w', hrun, hk', .inr hge, But.of_grown hg (fun k h => by cases h)⟩
  · have hown := KeptOn.owns (.inr ⟨cap, rfl, hr⟩ : KeptOn g w (.slice (some ⟨g, 0, none⟩) A.length cap) A)
    have hlt := hr.lt
    obtain ⟨v', w', hrun, ho, hg, _⟩ := run_append_own (P := Tryz.prog) w g 69 69 73 i _ 2 16 Tryz.underlying69 hi hz hs hb rfl (by decide) _ _ _ hown ⟨vb, 0, none⟩ 1 1 _ hl hc h1 (by unfold maxLen; omega) (by omega) (by omega)
    have hbut : But g w w' := But.of_grown hg (fun k h => by simp [Value.ownBlock] at h; exact h.symm)
    rw [happ] at ho
    have hlen : A.length + 1 = (A ++ [(q, x)]).length := by simp
    rw [hlen] at ho
    obtain ⟨cur, h1', h2, h3', h4, h5⟩ := hr
    by_cases hroom : A.length + 1 ≤ cap
    · have hr2 := run_append_room (P := Tryz.prog) w 69 69 73 i Tryz.underlying69 hi g A.length cap cur h1' ⟨vb, 0, none⟩ 1 1 _ (by rw [hs]; exact hl) hc h1 hroom (by rw [hs, h2]; simp; omega)
      rw [hrun] at hr2
      injection hr2 with e1 e2
      subst e1
      exact ⟨g, _, w', hrun, KeptOn.of_owns_at ho, .inl rfl, hbut⟩
    · have hr2 := run_append_grow (P := Tryz.prog) w 69 69 73 i _ Tryz.underlying69 hi hz ⟨g, 0, none⟩ A.length cap (repCells A) (by rw [hs, repCells_len]) (hown.cells (g := g) rfl) ⟨vb, 0, none⟩ 1 1 _ (by rw [hs]; exact hl) hc (by omega) (by omega) (by rw [hb]; exact growslice_fits (by omega) (by omega))
      rw [hrun] at hr2
      injection hr2 with e1 e2
      subst e1
      exact ⟨w.heap.size, _, w', hrun, KeptOn.of_owns_at ho, .inr (Nat.le_refl _), hbut⟩

/-- 'copy(d, s)' between rows of answers. -/
theorem run_copy_rep (w : World) (ty : TypeId) (b o dLen dCap : Nat) (a : Addr) (sLen sCap : Nat) (cs : List Value) (hn : cs.length = Nat.min sLen dLen * 2)
    (hsrc : ∀ j v, cs[j]? = some v → w.cell? (a.add j) = some v) (hc : ∀ j, j < cs.length → (w.cell? ⟨b, o + j, none⟩).isSome = true) (hf : ∀ j, j < cs.length → w.frozen? ⟨b, o + j, none⟩ = false) (h1 : ∀ v ∈ cs, v.oneCell' = true) :
    (Builtin.copy_ #[69, 69] ty #[.slice (some ⟨b, o, none⟩) dLen dCap, .slice (some a) sLen sCap]).run Tryz.prog w = .ok (goInt (Nat.min sLen dLen)) (w.setCells b o cs) := by
  have hl := run_loadCells_list (P := Tryz.prog) w a cs hsrc
  have hst := run_storeCells_cells (P := Tryz.prog) b o cs 0 w (by simpa using hc) (by simpa using hf) h1
  obtain ⟨i, hi, hz, hs, hb⟩ := info_parts infoRep
  simp [Builtin.copy_, run_underlying Tryz.underlying69, Builtin.lenOf, Builtin.firstCells, sizeOf, typeInfo, hi, hs, ← hn, hl, hst]

/-- .. as a step of the walk. -/
theorem wpList_copy_run {P : Program} {w w' : World} {ops : Array Oper} {rest : List Oper} {o : Oper} {a : Act} {Q : Exit → Act → World → Prop} {v x v' : Value} (hgd : o.guard = none) (s y : Operand) (t : TypeId)
    (ho : o.op = .call { callee := .builtin .copy, args := #[s, y], argTypes := #[t, t] }) (hs : a.eval s = v) (hx : a.eval y = x)
    (hr : (Builtin.copy_ #[t, t] o.type #[v, x]).run P w = .ok v' w') (h : wpList P ops Q rest (a.put o.dst v') w') : wpList P ops Q (o :: rest) a w := by
  refine wpList_plain hgd fun K hK => ?_
  unfold Oper.wp
  simp [execOp, ho, resolve, invoke, builtin, hs, hx, hr, Result.andThen]
  exact hK _ _ h
/-- .. and as a step of a region that draws. -/
theorem step_copy_run {P : Program} {ops : Array Oper} {o : Oper} {a : Act} {w w' : World} {K : Act → World → Prop} {Q : Exit → Act → World → Prop} {E : Prop} {v x v' : Value} (hgd : o.guard = none) (s y : Operand) (t : TypeId)
    (ho : o.op = .call { callee := .builtin .copy, args := #[s, y], argTypes := #[t, t] }) (hs : a.eval s = v) (hx : a.eval y = x)
    (hr : (Builtin.copy_ #[t, t] o.type #[v, x]).run P w = .ok v' w') (hK : K (a.put o.dst v') w') : if Region.wanted o (yielded ops a.tmps) = true then Oper.wp P o a w K Q else E := by
  have hw : Region.wanted o (yielded ops a.tmps) = true := by simp [Region.wanted, hgd]
  rw [if_pos hw]
  unfold Oper.wp
  simp [execOp, ho, resolve, invoke, builtin, hs, hx, hr, Result.andThen]
  exact hK

theorem insert_end (g vb : Nat) (A : List (Int × Int)) (q x : Int) (kv : Value) (w : World) (hk : KeptOn g w kv A) (h3 : A.length ≤ 3) (hv : w.heap[vb]? = some (.cells #[.int .i64 q, .int .i64 x] 73 (0, 0))) :
    Calls Tryz.prog 123 #[kv, .int .i64 A.length, .slice (some ⟨vb, 0, none⟩) 1 1] w fun e w' => ∃ g' kv', KeptOn g' w' kv' (A ++ [(q, x)]) ∧ (g' = g ∨ w.heap.size ≤ g') ∧ e = .returned kv' ∧ But g w w' := by
  obtain ⟨g', kv', w', hr, hk', hor, hb⟩ := run_put_end w g vb A q x kv hk h3 hv
  have Hr := (show Hid (_ = _) from hr)
  obtain ⟨ka, kc, rfl, hlen⟩ := hk.kept.len
  have hcap : A.length ≤ kc ∧ kc ≤ maxLen := by
    rcases hk with ⟨e, h⟩ | ⟨cap, e, cur, _, _, h4, h5, _⟩
    · injection e with _ _ e; rw [h, e]; exact ⟨Nat.le_refl _, by unfold maxLen; omega⟩
    · injection e with _ _ e; rw [repCells_len] at h5; subst e; exact ⟨by omega, h4⟩
  obtain ⟨hc1, hc2⟩ := hcap
  unfold maxLen at hc2
  clear hr hk hv
  generalize A.length = n at *
  go_enter Tryz.func123, Tryz.ntmps123
  go_wp2_with (at_builtin; refine wpList_append_run rfl _ _ _ rfl rfl rfl Hr.out ?_)
  all_goals go_ret
  all_goals exact ⟨g', kv', hk', hor, rfl, hb⟩

theorem over_no (w : World) (g vb o lb cb cap : Nat) (q x : Int) (xs : List Value) (hr : RepRow w g cap xs) (hc : 0 < cap) (hv : w.heap[vb]? = some (.cells #[.int .i64 q, .int .i64 x] 73 (0, 0))) (hne : vb ≠ g) :
    (callFunc 125 #[.slice (some ⟨vb, 0, none⟩) 1 1, .slice (some ⟨g, o, none⟩) lb cb]).run Tryz.prog w = .ok (.value (.bool false)) w := by
  obtain ⟨cur, h1, h2, _⟩ := hr
  have hz : ∀ w, (Go.sizeOf 73).run Tryz.prog w = .ok 2 w := fun _ => by kernel_rfl
  rw [run_callFunc_extern Tryz.func125 (by kernel_rfl) (by kernel_rfl) (by kernel_rfl) (e := Extern.SlicesOverlaps.overlaps #[69, 69] #[4]) (by kernel_rfl),
    Lib.run_overlaps_apart w 69 4 73 Tryz.underlying69 2 hz ⟨vb, 0, none⟩ ⟨g, o, none⟩ 1 1 lb cb hne 73 73 2 cur.size (by simp [World.shape?, hv]) (by simp [World.shape?, h1]) (by omega) (by simp [World.frozen?, hv]) (by simp [World.frozen?, hv])]
  rfl
end Go.Proofs.YteabfjpajgakiagGreat

/- Applying: slices.Insert of an answer, in the middle. -/
set_option linter.unusedSimpArgs false
set_option linter.unusedVariables false
set_option maxRecDepth 10000
namespace Go.Proofs.YteabfjpajgakiagGreat
open Go.RowKit

theorem RepRow.drew {w : World} {g cap : Nat} {xs : List Value} (h : RepRow w g cap xs) : RepRow w.drew g cap xs := h.keep (Keeps.refl _).drew
/-- The row, with as much of the spare room as is wanted. -/
theorem RepRow.more {w : World} {g cap : Nat} {xs : List Value} (h : RepRow w g cap xs) (n : Nat) (h1 : xs.length ≤ n) (h2 : n ≤ cap * 2) : ∃ ys : List Value, ys.length = n - xs.length ∧ RepRow w g cap (xs ++ ys) := by
  obtain ⟨cur, e1, e2, e3, e4, e5⟩ := h
  refine ⟨(cur.toList.take n).drop xs.length, by simp; omega, cur, e1, e2, e3, by simp; omega, ?_⟩
  have hl : (cur.toList.take n).length = n := by simp; omega
  rw [List.length_append, List.length_drop, hl, show xs.length + (n - xs.length) = n from by omega]
  have hx : xs = (cur.toList.take n).take xs.length := by rw [List.take_take, Nat.min_eq_left h1, e5]
  exact (List.take_append_drop xs.length (cur.toList.take n)).symm.trans (congrArg (· ++ _) hx.symm)

theorem ins_list (A : List (Int × Int)) (i : Nat) (ys : List Value) (q x : Int) (hi : i < A.length) (hy : ys.length = 2) :
    setL (setL (repCells A ++ ys) ((i + 1) * 2) (repCells (A.drop i))) (i * 2) [.int .i64 q, .int .i64 x] = repCells (A.take i ++ (q, x) :: A.drop i) := by
  have hA : A = A.take i ++ A.drop i := (List.take_append_drop _ _).symm
  have hl : (repCells (A.drop i)).length = (A.length - i) * 2 := by rw [repCells_len, List.length_drop]
  have hlA : (repCells A).length = A.length * 2 := repCells_len _
  rw [setL_eq _ _ ((i + 1) * 2) (by rw [List.length_append, hl, hlA, hy]; omega)]
  rw [show ((i + 1) * 2 + (repCells (A.drop i)).length) = (repCells A ++ ys).length from by rw [List.length_append, hl, hlA, hy]; omega, List.drop_length, List.append_nil]
  rw [setL_eq _ _ (i * 2) (by rw [List.length_append, List.length_take, List.length_append, hl, hlA, hy]; simp; omega)]
  have ht : (List.take ((i + 1) * 2) (repCells A ++ ys)).length = (i + 1) * 2 := by rw [List.length_take, List.length_append, hlA, hy]; omega
  rw [List.take_append_of_le_length (by rw [ht]; omega), List.take_take, Nat.min_eq_left (by omega), List.take_append_of_le_length (by rw [hlA]; omega), repCells_take]
  rw [show i * 2 + [Value.int .i64 q, .int .i64 x].length = (i + 1) * 2 from by simp; omega]
  rw [show List.drop ((i + 1) * 2) (List.take ((i + 1) * 2) (repCells A ++ ys) ++ repCells (A.drop i)) = repCells (A.drop i) from List.drop_left' ht]
  rw [repCells_append]
  simp [repCells]

set_option maxHeartbeats 4000000 in
theorem insert_shift (g vb cap i : Nat) (A : List (Int × Int)) (q x : Int) (w : World) (hr : RepRow w g cap (repCells A)) (hi : i < A.length) (h3 : A.length ≤ 3) (hroom : A.length + 1 ≤ cap) (hv : w.heap[vb]? = some (.cells #[.int .i64 q, .int .i64 x] 73 (0, 0))) (hne : vb ≠ g) :
    Calls Tryz.prog 123 #[.slice (some ⟨g, 0, none⟩) A.length cap, .int .i64 i, .slice (some ⟨vb, 0, none⟩) 1 1] w fun e w' => ∃ g' kv', KeptOn g' w' kv' (A.take i ++ (q, x) :: A.drop i) ∧ (g' = g ∨ w.heap.size ≤ g') ∧ e = .returned kv' ∧ But g w w' := by
  have hcm : cap ≤ maxLen := hr.choose_spec.2.2.1
  unfold maxLen at hcm
  have hov : ∀ lb cb, (callFunc 125 #[.slice (some ⟨vb, 0, none⟩) 1 1, .slice (some ⟨g, (i + 1) * 2, none⟩) lb cb]).run Tryz.prog w = .ok (.value (.bool false)) w := fun lb cb => over_no w g vb _ lb cb cap q x _ hr (by omega) hv hne
  have hdl : (repCells (A.drop i)).length = (A.length - i) * 2 := by rw [repCells_len, List.length_drop]
  have hcs : ∀ j v, (repCells (A.drop i))[j]? = some v → w.cell? ⟨g, i * 2 + j, none⟩ = some v := fun j v hj => hr.cell _ _ (by rw [← repCells_drop, List.getElem?_drop] at hj; exact hj)
  have hcp1 : ∀ ty dc sc, (Builtin.copy_ #[69, 69] ty #[.slice (some ⟨g, (i + 1) * 2, none⟩) (A.length - i) dc, .slice (some ⟨g, i * 2, none⟩) (A.length + 1 - i) sc]).run Tryz.prog w.drew = .ok (goInt (Nat.min (A.length + 1 - i) (A.length - i))) (w.drew.setCells g ((i + 1) * 2) (repCells (A.drop i))) := fun ty dc sc =>
    run_copy_rep w.drew ty g ((i + 1) * 2) _ dc ⟨g, i * 2, none⟩ _ sc _ (by rw [hdl]; simp only [Nat.min_def]; split <;> omega) (fun j v hj => by rw [Addr.add_lit]; exact hcs j v hj)
      (fun j hj => by obtain ⟨u, hu⟩ := hr.drew.some ((i + 1) * 2 + j) (by omega); rw [hu]; rfl) (fun j _ => hr.drew.frozen _) (repCells_one _)
  obtain ⟨ys, hys, hr2⟩ := hr.more ((A.length + 1) * 2) (by rw [repCells_len]; omega) (by omega)
  have hy2 : ys.length = 2 := by rw [hys, repCells_len]; omega
  have hr3 : RepRow (w.drew.setCells g ((i + 1) * 2) (repCells (A.drop i))) g cap _ := RepRow.setCells (repCells (A.drop i)) ((i + 1) * 2) hr2.drew
  have hvc : ∀ j u, [Value.int .i64 q, .int .i64 x][j]? = some u → (w.drew.setCells g ((i + 1) * 2) (repCells (A.drop i))).cell? ((⟨vb, 0, none⟩ : Addr).add j) = some u := fun j u hu => by
    rw [Addr.add_lit, Nat.zero_add]
    exact (But.setCells _ _ (But.of (Keeps.refl w).drew)).at (by have := vb_cells hv j u hu; rwa [Addr.add_lit, Nat.zero_add] at this) hne
  have hcp2 : ∀ ty dc, (Builtin.copy_ #[69, 69] ty #[.slice (some ⟨g, i * 2, none⟩) (A.length + 1 - i) dc, .slice (some ⟨vb, 0, none⟩) 1 1]).run Tryz.prog (w.drew.setCells g ((i + 1) * 2) (repCells (A.drop i))) = .ok (goInt (Nat.min 1 (A.length + 1 - i))) ((w.drew.setCells g ((i + 1) * 2) (repCells (A.drop i))).setCells g (i * 2) [.int .i64 q, .int .i64 x]) := fun ty dc =>
    run_copy_rep _ ty g (i * 2) _ dc ⟨vb, 0, none⟩ 1 1 [.int .i64 q, .int .i64 x] (by simp only [Nat.min_def]; split <;> simp <;> omega) hvc
      (fun j hj => by obtain ⟨u, hu⟩ := hr3.some (i * 2 + j) (by simp at hj; omega); rw [hu]; rfl) (fun j _ => hr3.frozen _) (by intro u hu; simp at hu; rcases hu with rfl | rfl <;> rfl)
  have HF : Hid (KeptOn g ((w.drew.setCells g ((i + 1) * 2) (repCells (A.drop i))).setCells g (i * 2) [.int .i64 q, .int .i64 x]) (.slice (some ⟨g, 0, none⟩) (A.length + 1) cap) (A.take i ++ (q, x) :: A.drop i)) := by
    refine .inr ⟨cap, by simp; omega, ?_⟩
    have := RepRow.setCells [.int .i64 q, .int .i64 x] (i * 2) hr3
    rw [ins_list A i ys q x hi hy2] at this
    exact this
  have HB : Hid (But g w ((w.drew.setCells g ((i + 1) * 2) (repCells (A.drop i))).setCells g (i * 2) [.int .i64 q, .int .i64 x])) := But.setCells _ _ (But.setCells _ _ (But.of (Keeps.refl w).drew))
  have hw1 : IntKind.i64.wrap ((i : Int) + 1) = (i : Int) + 1 := by rw [IntKind.wrap_i64]; omega
  have htn : ((i : Int) + 1).toNat = i + 1 := by omega
  have htn2 : ((A.length : Int) + 1).toNat = A.length + 1 := by omega
  have hb2 : ¬ (cap = i + 1) := by omega
  have hb4 : ¬ (cap = i) := by omega
  have hb1 : (0 : Int) ≤ (i : Int) + 1 := by omega
  have hin : i ≤ A.length := by omega
  have hb3 : (i : Int) ≤ (A.length : Int) + 1 := by omega
  clear hr hr2 hr3 hys hy2 hvc hcs hv
  generalize A.length = n at *
  generalize (w.drew.setCells g ((i + 1) * 2) (repCells (A.drop i))) = W1 at *
  go_enter Tryz.func123, Tryz.ntmps123
  go_wp2_with (simp only [hov])
  go_region_law (refine step_copy_run rfl _ _ 69 rfl (by simp [Act.eval, Act.put]) (by simp [Act.eval, Act.put]) (hcp1 _ _ _) ?_)
  go_wp2_with (at_builtin; refine wpList_copy_run rfl _ _ _ rfl rfl rfl (hcp2 _ _) ?_)
  go_ret
  exact ⟨g, _, HF.out, .inl rfl, rfl, HB.out⟩

theorem ins_list2 (A : List (Int × Int)) (i : Nat) (zs : List Value) (q x : Int) (hi : i < A.length) (hz : zs.length = (A.length + 1 - i) * 2) :
    setL (setL (repCells (A.take i) ++ zs) (i * 2) [.int .i64 q, .int .i64 x]) ((i + 1) * 2) (repCells (A.drop i)) = repCells (A.take i ++ (q, x) :: A.drop i) := by
  have hl : (repCells (A.drop i)).length = (A.length - i) * 2 := by rw [repCells_len, List.length_drop]
  have ht : (repCells (A.take i)).length = i * 2 := by rw [repCells_len, List.length_take, Nat.min_eq_left (by omega)]
  rw [setL_eq _ _ (i * 2) (by rw [List.length_append, ht, hz]; simp; omega)]
  rw [List.take_left' ht]
  have hq : (repCells (A.take i) ++ [Value.int .i64 q, .int .i64 x]).length = (i + 1) * 2 := by rw [List.length_append, ht]; simp; omega
  have hd : (List.drop (i * 2 + [Value.int .i64 q, .int .i64 x].length) (repCells (A.take i) ++ zs)).length = (A.length - i) * 2 := by rw [List.length_drop, List.length_append, ht, hz]; simp; omega
  generalize List.drop (i * 2 + [Value.int .i64 q, .int .i64 x].length) (repCells (A.take i) ++ zs) = D at *
  generalize hT : repCells (A.take i) ++ [Value.int .i64 q, .int .i64 x] = T at *
  rw [setL_eq _ _ ((i + 1) * 2) (by rw [List.length_append, hq, hd, hl]; omega)]
  have e : List.drop ((i + 1) * 2 + (repCells (A.drop i)).length) (T ++ D) = [] := List.drop_of_length_le (by rw [List.length_append, hq, hd, hl]; omega)
  rw [e, List.take_left' hq, List.append_nil, ← hT, repCells_append]
  simp [repCells]

set_option maxHeartbeats 4000000 in
theorem insert_grow (g vb cap i : Nat) (A : List (Int × Int)) (q x : Int) (w : World) (hr : RepRow w g cap (repCells A)) (hi : i < A.length) (h3 : A.length ≤ 3) (hroom : cap < A.length + 1) (hv : w.heap[vb]? = some (.cells #[.int .i64 q, .int .i64 x] 73 (0, 0))) (hne : vb ≠ g) :
    Calls Tryz.prog 123 #[.slice (some ⟨g, 0, none⟩) A.length cap, .int .i64 i, .slice (some ⟨vb, 0, none⟩) 1 1] w fun e w' => ∃ g' kv', KeptOn g' w' kv' (A.take i ++ (q, x) :: A.drop i) ∧ (g' = g ∨ w.heap.size ≤ g') ∧ e = .returned kv' ∧ But g w w' := by
  have hcl : A.length ≤ cap := by obtain ⟨cur, _, _, _, h4, _⟩ := hr; rw [repCells_len] at h4; omega
  obtain ⟨i0, hi0, hz0, hzs, hzb⟩ := info_parts infoRep
  have hglt := hr.lt
  have hvlt : vb < w.heap.size := (Array.getElem?_eq_some_iff.1 hv).1
  have hdl : (repCells (A.drop i)).length = (A.length - i) * 2 := by rw [repCells_len, List.length_drop]
  have hcs : ∀ j v, (repCells (A.drop i))[j]? = some v → w.cell? ⟨g, i * 2 + j, none⟩ = some v := fun j v hj => hr.cell _ _ (by rw [← repCells_drop, List.getElem?_drop] at hj; exact hj)
  have hold : (Builtin.firstCells i0.size i (.slice (some ⟨g, 0, none⟩) i cap)).run Tryz.prog w.drew = .ok (repCells (A.take i)).toArray w.drew := by
    rw [hzs]
    refine run_firstCells_some w.drew 2 i ⟨g, 0, none⟩ i cap (repCells (A.take i)) (by rw [repCells_len, List.length_take]; omega) (fun j v hj => ?_)
    rw [Addr.add_lit, Nat.zero_add]
    rw [← repCells_take, List.getElem?_take] at hj
    split at hj
    · exact hr.cell j v hj
    · cases hj
  have hkk : (A.length : Int) + 1 - (i : Int) = ((A.length + 1 - i : Nat) : Int) := by omega
  have hrz := Lib.run_append_grow_zeros (P := Tryz.prog) w 69 3 69 73 i0 _ .i64 .i64 Tryz.underlying69 Tryz.underlying3 hi0 hz0 (some ⟨g, 0, none⟩) i cap (repCells (A.take i)) hold (A.length + 1 - i) (by omega) (by omega) (by omega) (by omega) (by rw [hzb]; omega) (by rw [hzb, show i + (A.length + 1 - i) = A.length + 1 from by omega]; exact growslice_fits hroom (by omega))
  rw [show i + (A.length + 1 - i) = A.length + 1 from by omega, ← hkk] at hrz
  obtain ⟨G, hG⟩ : ∃ G, G = grownCap w (A.length + 1) cap 73 := ⟨_, rfl⟩
  have hGn : A.length + 1 ≤ G := by rw [hG]; exact grownCap_ge w _ _ _
  have hGm : G ≤ maxLen := by rw [hG]; exact grownCap_le_maxLen w (A.length + 1) cap 73 (by unfold maxLen; omega)
  rw [← hG] at hrz
  obtain ⟨W1, hW1⟩ : ∃ W1, W1 = (w.drew.alloc (.cells ((repCells (A.take i)).toArray ++ Builtin.zeroCells (Value.cells (.agg #[.int .i64 0, .int .i64 0])) (A.length + 1 - i) ++ Builtin.zeroCells (Value.cells (.agg #[.int .i64 0, .int .i64 0])) (G - (A.length + 1))) 73)) := ⟨_, rfl⟩
  rw [← hW1] at hrz
  have hlt : (repCells (A.take i)).length = i * 2 := by rw [repCells_len, List.length_take, Nat.min_eq_left (by omega)]
  obtain ⟨zs, hzs1⟩ : ∃ zs : List Value, zs = (Builtin.zeroCells (Value.cells (.agg #[.int .i64 0, .int .i64 0])) (A.length + 1 - i)).toList := ⟨_, rfl⟩
  have hzl : zs.length = (A.length + 1 - i) * 2 := by rw [hzs1, Array.length_toList, size_zeroCells]; rfl
  have hr1 : RepRow W1 w.heap.size G (repCells (A.take i) ++ zs) := by
    refine ⟨_, by rw [hW1]; exact heap_alloc_new w.drew _, ?_, hGm, by rw [List.length_append, hlt, hzl]; omega, ?_⟩
    · simp only [Array.size_append, List.size_toArray, size_zeroCells, hlt]
      simp [Value.cells]
      omega
    · rw [Array.toList_append, Array.toList_append, ← hzs1]
      exact List.take_left' rfl
  have hk1 : Keeps w W1 := by rw [hW1]; exact (Keeps.refl _).drew.alloc _
  have hz1 : w.heap.size < W1.heap.size := hr1.lt
  clear hold hW1
  have hvc : ∀ j u, [Value.int .i64 q, .int .i64 x][j]? = some u → W1.cell? ((⟨vb, 0, none⟩ : Addr).add j) = some u := fun j u hu => by
    have := vb_cells hv j u hu
    rw [Addr.add_lit] at this ⊢
    exact cell_kept this hk1
  have hcpA : ∀ ty dc, (Builtin.copy_ #[69, 69] ty #[.slice (some ⟨w.heap.size, i * 2, none⟩) (A.length + 1 - i) dc, .slice (some ⟨vb, 0, none⟩) 1 1]).run Tryz.prog W1 = .ok (goInt (Nat.min 1 (A.length + 1 - i))) (W1.setCells w.heap.size (i * 2) [.int .i64 q, .int .i64 x]) := fun ty dc =>
    run_copy_rep _ ty w.heap.size (i * 2) _ dc ⟨vb, 0, none⟩ 1 1 [.int .i64 q, .int .i64 x] (by simp only [Nat.min_def]; split <;> simp <;> omega) hvc
      (fun j hj => by obtain ⟨u, hu⟩ := hr1.some (i * 2 + j) (by simp at hj; omega); rw [hu]; rfl) (fun j _ => hr1.frozen _) (by intro u hu; simp at hu; rcases hu with rfl | rfl <;> rfl)
  have hr2 : RepRow (W1.setCells w.heap.size (i * 2) [.int .i64 q, .int .i64 x]) w.heap.size G _ := RepRow.setCells [.int .i64 q, .int .i64 x] (i * 2) hr1
  have hk2 : Keeps w (W1.setCells w.heap.size (i * 2) [.int .i64 q, .int .i64 x]) := But.to hk1 (Nat.le_refl _) (But.setCells _ _ (But.refl _ _))
  generalize hW2 : W1.setCells w.heap.size (i * 2) [.int .i64 q, .int .i64 x] = W2 at *
  have hz2 : w.heap.size < W2.heap.size := hr2.lt
  have hcpB : ∀ ty dc sc, (Builtin.copy_ #[69, 69] ty #[.slice (some ⟨w.heap.size, (i + 1) * 2, none⟩) (A.length - i) dc, .slice (some ⟨g, i * 2, none⟩) (A.length - i) sc]).run Tryz.prog W2.drew = .ok (goInt (Nat.min (A.length - i) (A.length - i))) (W2.drew.setCells w.heap.size ((i + 1) * 2) (repCells (A.drop i))) := fun ty dc sc =>
    run_copy_rep _ ty w.heap.size ((i + 1) * 2) _ dc ⟨g, i * 2, none⟩ _ sc (repCells (A.drop i)) (by rw [hdl, show Nat.min (A.length - i) (A.length - i) = A.length - i from Nat.min_self _]) (fun j v hj => by rw [Addr.add_lit]; exact cell_kept (hcs j v hj) (hk2.drew))
      (fun j hj => by obtain ⟨u, hu⟩ := hr2.drew.some ((i + 1) * 2 + j) (by omega); rw [hu]; rfl) (fun j _ => hr2.drew.frozen _) (repCells_one _)
  have HF : Hid (KeptOn w.heap.size (W2.drew.setCells w.heap.size ((i + 1) * 2) (repCells (A.drop i))) (.slice (some ⟨w.heap.size, 0, none⟩) (A.length + 1) G) (A.take i ++ (q, x) :: A.drop i)) := by
    refine .inr ⟨G, by simp; omega, ?_⟩
    have := RepRow.setCells (repCells (A.drop i)) ((i + 1) * 2) hr2.drew
    rw [ins_list2 A i zs q x hi hzl] at this
    exact this
  have HB : Hid (But g w (W2.drew.setCells w.heap.size ((i + 1) * 2) (repCells (A.drop i)))) := But.of (But.to hk2.drew (Nat.le_refl _) (But.setCells _ _ (But.refl _ _)))
  have hw1 : IntKind.i64.wrap ((i : Int) + 1) = (i : Int) + 1 := by rw [IntKind.wrap_i64]; omega
  have htn : ((i : Int) + 1).toNat = i + 1 := by omega
  have hGi : ¬ (G = i) := by omega
  have hGi2 : ¬ (G = i + 1) := by omega
  have hci : ¬ (cap = i) := by omega
  have hb1 : (0 : Int) ≤ (i : Int) + 1 := by omega
  have hin : i ≤ A.length := by omega
  have hb3 : (i : Int) ≤ (A.length : Int) + 1 := by omega
  have hG63 : G ≤ 9223372036854775807 := by unfold maxLen at hGm; omega
  have Hrz := (show Hid (_ = _) from hrz)
  clear hr hr1 hr2 hvc hcs hv hrz hkk hlt hzs1 hW2 hk1 hk2 hG hGm hzl
  generalize A.length = n at *
  generalize hWN : w.heap.size = N at *
  go_enter Tryz.func123, Tryz.ntmps123
  go_wp2_with (at_builtin; first | (refine Lib.wpList_append_run _ rfl _ _ _ _ rfl _ _ rfl rfl _ _ Hrz.out ?_) | (refine wpList_copy_run rfl _ _ _ rfl rfl rfl (hcpA _ _) ?_))
  go_region_law (refine step_copy_run rfl _ _ 69 rfl (by simp [Act.eval, Act.put]) (by simp [Act.eval, Act.put]) (hcpB _ _ _) ?_)
  go_wp2_with fail
  go_ret
  exact ⟨N, _, HF.out, .inr (Nat.le_refl _), rfl, HB.out⟩

/-- slices.Insert of an answer. -/
theorem insert_c (g vb i : Nat) (A : List (Int × Int)) (q x : Int) (kv : Value) (w : World) (hk : KeptOn g w kv A) (hi : i ≤ A.length) (h3 : A.length ≤ 3) (hv : w.heap[vb]? = some (.cells #[.int .i64 q, .int .i64 x] 73 (0, 0))) (hne : vb ≠ g) :
    Calls Tryz.prog 123 #[kv, .int .i64 i, .slice (some ⟨vb, 0, none⟩) 1 1] w fun e w' => ∃ g' kv', KeptOn g' w' kv' (A.take i ++ (q, x) :: A.drop i) ∧ (g' = g ∨ w.heap.size ≤ g') ∧ e = .returned kv' ∧ But g w w' := by
  by_cases hlt : i < A.length
  · rcases hk with ⟨_, h⟩ | ⟨cap, rfl, hr⟩
    · rw [h] at hlt; simp at hlt
    · by_cases hroom : A.length + 1 ≤ cap
      · exact insert_shift g vb cap i A q x w hr hlt h3 hroom hv hne
      · exact insert_grow g vb cap i A q x w hr hlt h3 (by omega) hv hne
  · have : i = A.length := by omega
    subst this
    rw [List.take_length, List.drop_length]
    exact insert_end g vb A q x kv w hk h3 hv
end Go.Proofs.YteabfjpajgakiagGreat

/- Applying: slices.BinarySearchFunc over the answers that are kept. -/
set_option linter.unusedSimpArgs false
set_option linter.unusedVariables false
set_option maxRecDepth 10000
namespace Go.Proofs.YteabfjpajgakiagGreat
open Go.RowKit

def cmpI (a b : Int) : Int := if a < b then -1 else if b < a then 1 else 0

theorem is_nan (a : Int) (w : World) : Calls Tryz.prog 124 #[.int .i64 a] w fun e w' => e = .returned (.bool false) ∧ w = w' := by
  go_enter Tryz.func124, Tryz.ntmps124
  go_wp2
  go_ret
  exact ⟨by simp, rfl⟩

set_option maxHeartbeats 1000000 in
theorem cmp_c (a b : Int) (w : World) : Calls Tryz.prog 121 #[.int .i64 a, .int .i64 b] w fun e w' => e = .returned (.int .i64 (cmpI a b)) ∧ w = w' := by
  have HC : Hid (cmpI a b = if a < b then -1 else if b < a then 1 else 0) := rfl
  by_cases h1 : a < b
  · have HE : Hid (cmpI a b = -1) := by show _ = _; rw [HC.out, if_pos h1]
    go_enter Tryz.func121, Tryz.ntmps121
    go_wp2_with (first | (go_at_call 124; refine (is_nan _ _).mono ?_; rintro e w' ⟨rfl, rfl⟩))
    go_ret
    exact ⟨ret_int HE.out.symm, rfl⟩
  · by_cases h2 : b < a
    · have HE : Hid (cmpI a b = 1) := by show _ = _; rw [HC.out, if_neg h1, if_pos h2]
      go_enter Tryz.func121, Tryz.ntmps121
      go_wp2_with (first | (go_at_call 124; refine (is_nan _ _).mono ?_; rintro e w' ⟨rfl, rfl⟩))
      go_ret
      exact ⟨ret_int HE.out.symm, rfl⟩
    · have HE : Hid (cmpI a b = 0) := by show _ = _; rw [HC.out, if_neg h1, if_neg h2]
      go_enter Tryz.func121, Tryz.ntmps121
      go_wp2_with (first | (go_at_call 124; refine (is_nan _ _).mono ?_; rintro e w' ⟨rfl, rfl⟩))
      go_ret
      exact ⟨ret_int HE.out.symm, rfl⟩

theorem by_seq (q v seq : Int) (w : World) : Calls Tryz.prog 120 #[.agg #[.int .i64 q, .int .i64 v], .int .i64 seq] w fun e w' => e = .returned (.int .i64 (cmpI q seq)) ∧ Keeps w w' := by
  go_enter Tryz.func120, Tryz.ntmps120
  go_wp2_with (first | (go_at_call 121; refine (cmp_c _ _ _).mono ?_; rintro e w' ⟨rfl, rfl⟩))
  go_ret
  exact ⟨rfl, (Keeps.refl _).alloc _⟩

theorem fnc83 (args : Array Value) (W : World) : (callFunc 120 args).run Tryz.prog W = .ok (.enter 120 args) W := by kernel_rfl

/-- Where a number is, or belongs, among answers that rise. -/
structure Place (l : List (Int × Int)) (seq : Int) (p : Nat) : Prop where
  le : p ≤ l.length
  low : ∀ k (h : k < l.length), k < p → (l[k]).1 < seq
  high : ∀ k (h : k < l.length), p ≤ k → seq ≤ (l[k]).1

def thereB (l : List (Int × Int)) (seq : Int) (p : Nat) : Bool := match l[p]? with | some r => r.1 == seq | none => false

def Rises (l : List (Int × Int)) : Prop := ∀ i j (hi : i < l.length) (hj : j < l.length), i < j → (l[i]).1 < (l[j]).1

theorem place_up {l : List (Int × Int)} {seq q v : Int} {h : Nat} (hri : Rises l) (hh : h < l.length) (hz : l[h] = (q, v)) (hq : q < seq) : ∀ k (hk : k < l.length), k < h + 1 → (l[k]).1 < seq := by
  intro k hk hkh
  by_cases e : k = h
  · subst e
    rw [hz]
    exact hq
  · have := hri k h hk hh (by omega)
    rw [hz] at this
    simp only [] at this
    omega
theorem place_down {l : List (Int × Int)} {seq q v : Int} {h : Nat} (hri : Rises l) (hh : h < l.length) (hz : l[h] = (q, v)) (hq : ¬ q < seq) : ∀ k (hk : k < l.length), h ≤ k → seq ≤ (l[k]).1 := by
  intro k hk hkh
  by_cases e : k = h
  · subst e
    rw [hz]
    simp only []
    omega
  · have := hri h k hh hk (by omega)
    rw [hz] at this
    simp only [] at this
    omega

set_option maxHeartbeats 4000000 in
theorem search_c (l : List (Int × Int)) (kv : Value) (seq : Int) (w : World) (hk : KeptAt w kv l) (h3 : l.length ≤ 3) (hri : Rises l) :
    Calls Tryz.prog 119 #[kv, .int .i64 seq, .func (.func 120) #[] #[]] w fun e w' => ∃ p : Nat, Place l seq p ∧ e = .returned (.tuple #[.int .i64 p, .bool (thereB l seq p)]) ∧ Keeps w w' := by
  obtain ⟨ka, kc, rfl, hlen⟩ := hk.len
  have HK : Hid (KeptAt w (.slice ka l.length kc) l) := hk
  have HRI : Hid (Rises l) := hri
  have hf := fnc83
  clear hk hlen hri
  go_enter Tryz.func119, Tryz.ntmps119
  go_wp2_with fail
  go_loopw [9, 10] (fun i j wr => ∃ (a b : Nat), i = .int .i64 a ∧ j = .int .i64 b ∧ a ≤ b ∧ b ≤ l.length ∧ Hid (∀ k (h : k < l.length), k < a → (l[k]).1 < seq) ∧ Hid (∀ k (h : k < l.length), b ≤ k → seq ≤ (l[k]).1) ∧ Keeps w wr) (fun i j _ => (intOf j).toNat - (intOf i).toNat)
  case atStart => exact ⟨0, l.length, rfl, rfl, Nat.zero_le _, Nat.le_refl _, fun k h h' => by omega, fun k h h' => by omega, Keeps.refl _⟩
  case round =>
    obtain ⟨a, b, rfl, rfl, hab, hbn, HL, HH, hkw⟩ := hrel
    by_cases hlt : a < b
    · have hh : (a + b) / 2 < l.length := by omega
      obtain ⟨g, off, cp, hv, _, hcell⟩ := (HK.out.keep hkw).at hh
      injection hv with hv1 hv2 hv3
      subst hv1
      clear hv2 hv3
      obtain ⟨c0, c1⟩ := hcell _ hh
      clear hcell
      have HE : Hid (∃ q v, l[(a + b) / 2] = (q, v)) := ⟨_, _, rfl⟩
      generalize hz : l[(a + b) / 2] = z at *
      have HZ : Hid (∀ h, l[(a + b) / 2]'h = z) := fun _ => hz
      clear hz HE
      obtain ⟨q, v⟩ := z
      simp only [] at c0 c1
      have hcase : (a = 0 ∧ b = 1) ∨ (a = 0 ∧ b = 2) ∨ (a = 0 ∧ b = 3) ∨ (a = 1 ∧ b = 2) ∨ (a = 1 ∧ b = 3) ∨ (a = 2 ∧ b = 3) := by omega
      rcases hcase with ⟨rfl, rfl⟩ | ⟨rfl, rfl⟩ | ⟨rfl, rfl⟩ | ⟨rfl, rfl⟩ | ⟨rfl, rfl⟩ | ⟨rfl, rfl⟩
      all_goals
        simp only [Nat.reduceAdd, Nat.reduceDiv, Nat.zero_mul, Nat.one_mul, Nat.reduceMul, Nat.add_zero] at c0 c1
        by_cases hq : q < seq
        · have hcm : cmpI q seq < 0 := by unfold cmpI; rw [if_pos hq]; decide
          have HU : Hid _ := place_up HRI.out hh (HZ.out hh) hq
          go_wp2_with (first | (go_at_call 120; refine (by_seq q v seq _).mono ?_; rintro e w2 ⟨rfl, hb⟩))
          go_roundw
          case rel => refine ⟨_, _, by go_num, rfl, ?_, hbn, HU, HH, hkw.trans hb⟩; first | decide | omega
          case measure => simp [intOf]
        · have hcm : ¬ cmpI q seq < 0 := by unfold cmpI; rw [if_neg hq]; split <;> decide
          have HU : Hid _ := place_down HRI.out hh (HZ.out hh) hq
          go_wp2_with (first | (go_at_call 120; refine (by_seq q v seq _).mono ?_; rintro e w2 ⟨rfl, hb⟩))
          go_roundw
          case rel => refine ⟨_, _, rfl, by go_num, ?_, ?_, HL, HU, hkw.trans hb⟩ <;> first | decide | exact Nat.le_trans (by decide) hbn
          case measure => simp [intOf]
    · have hab' : a = b := by omega
      subst hab'
      have hP : Hid (Place l seq a) := ⟨hbn, HL.out, HH.out⟩
      by_cases han : a < l.length
      · obtain ⟨g, off, cp, hv, _, hcell⟩ := (HK.out.keep hkw).at han
        injection hv with hv1 hv2 hv3
        subst hv1
        clear hv2 hv3
        obtain ⟨c0, c1⟩ := hcell _ han
        clear hcell
        have HT : Hid (thereB l seq a = ((l[a]).1 == seq)) := by show _ = _; simp [thereB, han]
        generalize l[a] = z at *
        obtain ⟨q, v⟩ := z
        simp only [] at c0 c1
        have HC : Hid ((cmpI q seq == 0) = (q == seq)) := by
          show _ = _
          unfold cmpI
          by_cases h1 : q < seq
          · rw [if_pos h1, show (q == seq) = false from by simp; omega]
            rfl
          · rw [if_neg h1]
            by_cases h2 : seq < q
            · rw [if_pos h2, show (q == seq) = false from by simp; omega]
              rfl
            · rw [if_neg h2, show (q == seq) = true from by simp; omega]
              rfl
        go_wp2_with (first | (go_at_call 120; refine (by_seq q v seq _).mono ?_; rintro e w2 ⟨rfl, hb⟩))
        go_ret2
        exact ⟨a, hP.out, by rw [HT.out, HC.out]; rfl, hkw.trans hb⟩
      · have HT : Hid (thereB l seq a = false) := by show _ = _; simp [thereB, han]
        go_wp2_with fail
        go_ret2
        exact ⟨a, hP.out, by rw [HT.out]; rfl, hkw⟩
end Go.Proofs.YteabfjpajgakiagGreat

/- Contracts of package op: more, and the steps. -/
namespace Go.Proofs.YteabfjpajgakiagGreat
open Go.RowKit

def upd (g : Nat → Int) (j : Nat) (x : Int) : Nat → Int := fun i => if i = j then x else g i
/-- Block b holds the four values g. -/
def Arr (b : Nat) (g : Nat → Int) (w : World) : Prop :=
  w.cell? ⟨b, 0, none⟩ = some (.int .i64 (g 0)) ∧ w.cell? ⟨b, 1, none⟩ = some (.int .i64 (g 1)) ∧ w.cell? ⟨b, 2, none⟩ = some (.int .i64 (g 2)) ∧ w.cell? ⟨b, 3, none⟩ = some (.int .i64 (g 3)) ∧ ∀ i, w.frozen? ⟨b, i, none⟩ = false

theorem four {key : Int} (h0 : 0 ≤ key) (h1 : key ≤ 3) : key = 0 ∨ key = 1 ∨ key = 2 ∨ key = 3 := by omega

theorem Arr.set {b : Nat} {g : Nat → Int} {w : World} (h : Arr b g w) (j : Nat) (x : Int) (hj : j < 4) : Arr b (upd g j x) (w.setCell ⟨b, j, none⟩ (.int .i64 x)) := by
  obtain ⟨h0, h1, h2, h3, hf⟩ := h
  have hj' : j = 0 ∨ j = 1 ∨ j = 2 ∨ j = 3 := by omega
  have o : ∀ i j : Nat, i ≠ j → (w.setCell ⟨b, j, none⟩ (.int .i64 x)).cell? ⟨b, i, none⟩ = w.cell? ⟨b, i, none⟩ := fun i j h => World.cell?_setCell_other _ _ _ _ (by intro e; injection e with _ e _; exact h e.symm)
  rcases hj' with rfl | rfl | rfl | rfl
  · exact ⟨World.cell?_setCell_same _ _ _ h0, (o _ _ (by decide)).trans h1, (o _ _ (by decide)).trans h2, (o _ _ (by decide)).trans h3, fun i => (World.frozen?_setCell _ _ _ _).trans (hf i)⟩
  · exact ⟨(o _ _ (by decide)).trans h0, World.cell?_setCell_same _ _ _ h1, (o _ _ (by decide)).trans h2, (o _ _ (by decide)).trans h3, fun i => (World.frozen?_setCell _ _ _ _).trans (hf i)⟩
  · exact ⟨(o _ _ (by decide)).trans h0, (o _ _ (by decide)).trans h1, World.cell?_setCell_same _ _ _ h2, (o _ _ (by decide)).trans h3, fun i => (World.frozen?_setCell _ _ _ _).trans (hf i)⟩
  · exact ⟨(o _ _ (by decide)).trans h0, (o _ _ (by decide)).trans h1, (o _ _ (by decide)).trans h2, World.cell?_setCell_same _ _ _ h3, fun i => (World.frozen?_setCell _ _ _ _).trans (hf i)⟩

theorem below_at (b j : Nat) (v : Value) (w : World) : Below b w (w.setCell ⟨b, j, none⟩ v) := (Below.refl _ _).setCell (p := ⟨b, j, none⟩) (Nat.le_refl _) v

theorem Arr.below {b : Nat} {g : Nat → Int} {w w' : World} (h : Arr b g w) (hk : Keeps w w') : Arr b g w' := by
  obtain ⟨h0, h1, h2, h3, hf⟩ := h
  have hb := World.block_lt_of_cell? _ _ h0
  have hc : ∀ i, w'.cell? ⟨b, i, none⟩ = w.cell? ⟨b, i, none⟩ := fun i => Below.cell hk (p := ⟨b, i, none⟩) hb
  exact ⟨(hc 0).trans h0, (hc 1).trans h1, (hc 2).trans h2, (hc 3).trans h3, fun i => (Below.frozen hk (p := ⟨b, i, none⟩) hb).trans (hf i)⟩

theorem more_c (b : Nat) (g : Nat → Int) (key n : Int) (w : World) (hk0 : 0 ≤ key) (hk3 : key ≤ 3) (hg0 : 0 ≤ g key.toNat) (hg1 : g key.toNat ≤ 999) (hn0 : -999 ≤ n) (hn1 : n ≤ 999) (h : Arr b g w) :
    Calls Tryz.prog 109 #[.pointer (some ⟨b, 0, none⟩), .int .i64 key, .int .i64 n] w fun e w' => e = .returned (.bool (inB (g key.toNat + n) 0 999)) ∧ w' = (w.setCell ⟨b, key.toNat, none⟩ (.int .i64 (g key.toNat + n))).drew := by
  obtain ⟨h0, h1, h2, h3, hf⟩ := h
  rcases four hk0 hk3 with rfl | rfl | rfl | rfl
  · simp only [show (0 : Int).toNat = 0 from rfl] at *
    have hs := World.cell?_setCell_same w ⟨b, 0, none⟩ (.int .i64 (g 0 + n)) h0
    go_enter Tryz.func109, Tryz.ntmps109
    go_wp2
    go_region
    all_goals go_wp2_with (go_at_call 113; refine (is_val _ _).mono ?_; rintro e w' ⟨rfl, rfl⟩)
    all_goals go_ret
    all_goals exact ⟨rfl, rfl⟩
  · simp only [show (1 : Int).toNat = 1 from rfl] at *
    have hs := World.cell?_setCell_same w ⟨b, 1, none⟩ (.int .i64 (g 1 + n)) h1
    go_enter Tryz.func109, Tryz.ntmps109
    go_wp2
    go_region
    all_goals go_wp2_with (go_at_call 113; refine (is_val _ _).mono ?_; rintro e w' ⟨rfl, rfl⟩)
    all_goals go_ret
    all_goals exact ⟨rfl, rfl⟩
  · simp only [show (2 : Int).toNat = 2 from rfl] at *
    have hs := World.cell?_setCell_same w ⟨b, 2, none⟩ (.int .i64 (g 2 + n)) h2
    go_enter Tryz.func109, Tryz.ntmps109
    go_wp2
    go_region
    all_goals go_wp2_with (go_at_call 113; refine (is_val _ _).mono ?_; rintro e w' ⟨rfl, rfl⟩)
    all_goals go_ret
    all_goals exact ⟨rfl, rfl⟩
  · simp only [show (3 : Int).toNat = 3 from rfl] at *
    have hs := World.cell?_setCell_same w ⟨b, 3, none⟩ (.int .i64 (g 3 + n)) h3
    go_enter Tryz.func109, Tryz.ntmps109
    go_wp2
    go_region
    all_goals go_wp2_with (go_at_call 113; refine (is_val _ _).mono ?_; rintro e w' ⟨rfl, rfl⟩)
    all_goals go_ret
    all_goals exact ⟨rfl, rfl⟩


theorem step_set (b : Nat) (g : Nat → Int) (k key tk n : Int) (w : World) (hk0 : 0 ≤ key) (hk3 : key ≤ 3) (h : Arr b g w) :
    Calls Tryz.prog 107 #[.pointer (some ⟨b, 0, none⟩), opV k key tk n] w fun e w' => e = .returned (.bool true) ∧ Below b w w' ∧ Arr b (upd g key.toNat n) w' := by
  have hb := World.block_lt_of_cell? _ _ h.1
  simp only [] at hb
  obtain ⟨h0, h1, h2, h3, hf⟩ := id h
  rcases four hk0 hk3 with rfl | rfl | rfl | rfl
  · go_enter Tryz.func107, Tryz.ntmps107
    go_wp2
    go_region
    all_goals go_wp2
    all_goals go_ret
    all_goals exact ⟨rfl, ((below_at b 0 _ w).alloc (by simp <;> omega) _).drew, (h.set 0 n (by decide)).below ((Keeps.refl _).alloc _).drew⟩
  · go_enter Tryz.func107, Tryz.ntmps107
    go_wp2
    go_region
    all_goals go_wp2
    all_goals go_ret
    all_goals exact ⟨rfl, ((below_at b 1 _ w).alloc (by simp <;> omega) _).drew, (h.set 1 n (by decide)).below ((Keeps.refl _).alloc _).drew⟩
  · go_enter Tryz.func107, Tryz.ntmps107
    go_wp2
    go_region
    all_goals go_wp2
    all_goals go_ret
    all_goals exact ⟨rfl, ((below_at b 2 _ w).alloc (by simp <;> omega) _).drew, (h.set 2 n (by decide)).below ((Keeps.refl _).alloc _).drew⟩
  · go_enter Tryz.func107, Tryz.ntmps107
    go_wp2
    go_region
    all_goals go_wp2
    all_goals go_ret
    all_goals exact ⟨rfl, ((below_at b 3 _ w).alloc (by simp <;> omega) _).drew, (h.set 3 n (by decide)).below ((Keeps.refl _).alloc _).drew⟩

theorem step_add (b : Nat) (g : Nat → Int) (k key tk n : Int) (w : World) (hk0 : 0 ≤ key) (hk3 : key ≤ 3) (hg0 : 0 ≤ g key.toNat) (hg1 : g key.toNat ≤ 999) (hn0 : -999 ≤ n) (hn1 : n ≤ 999) (h : Arr b g w) :
    Calls Tryz.prog 108 #[.pointer (some ⟨b, 0, none⟩), opV k key tk n] w fun e w' => e = .returned (.bool (inB (g key.toNat + n) 0 999)) ∧ Below b w w' ∧ Arr b (upd g key.toNat (g key.toNat + n)) w' := by
  have hb := World.block_lt_of_cell? _ _ h.1
  simp only [] at hb
  have hA := h.below ((Keeps.refl w).alloc (.cells #[.int .i64 k, .int .i64 key, .int .i64 tk, .int .i64 n] 33))
  go_enter Tryz.func108, Tryz.ntmps108
  go_wp2_with fail
  refine (more_c b g key n _ hk0 hk3 hg0 hg1 hn0 hn1 hA).mono ?_
  rintro e w2 ⟨rfl, hw⟩
  have hA3 : Arr b (upd g key.toNat (g key.toNat + n)) w2 := by
    subst hw; exact hA.set key.toNat _ (by omega)
  have hB : Below b w w2 := by
    subst hw; exact (((Below.refl _ _).alloc (Nat.le_of_lt hb) _).trans (below_at b _ _ _)).drew
  clear hw
  go_wp2_with fail
  go_ret
  exact ⟨rfl, hB, hA3⟩

theorem step_get (b : Nat) (g : Nat → Int) (k key tk n : Int) (w : World) (h : Arr b g w) :
    Calls Tryz.prog 111 #[.pointer (some ⟨b, 0, none⟩), opV k key tk n] w fun e w' => e = .returned (.bool true) ∧ Below b w w' ∧ Arr b g w' := by
  have hb := World.block_lt_of_cell? _ _ h.1
  simp only [] at hb
  go_enter Tryz.func111, Tryz.ntmps111
  go_wp2
  go_ret
  exact ⟨rfl, (Below.refl _ _).alloc (Nat.le_of_lt hb) _, h.below ((Keeps.refl w).alloc _)⟩

theorem step_move (b : Nat) (g : Nat → Int) (k key tk n : Int) (w : World) (hk0 : 0 ≤ key) (hk3 : key ≤ 3) (ht0 : 0 ≤ tk) (ht3 : tk ≤ 3) (hg : ∀ i, i < 4 → 0 ≤ g i ∧ g i ≤ 999) (hn0 : 0 ≤ n) (hn1 : n ≤ 999) (h : Arr b g w) :
    Calls Tryz.prog 110 #[.pointer (some ⟨b, 0, none⟩), opV k key tk n] w fun e w' => Below b w w' ∧ ∃ g', Arr b g' w' ∧
      e = .returned (.bool (inB (g key.toNat + -n) 0 999 && inB (upd g key.toNat (g key.toNat + -n) tk.toNat + n) 0 999)) ∧
      ((inB (g key.toNat + -n) 0 999 && inB (upd g key.toNat (g key.toNat + -n) tk.toNat + n) 0 999) = true → g' = upd (upd g key.toNat (g key.toNat + -n)) tk.toNat (upd g key.toNat (g key.toNat + -n) tk.toNat + n)) := by
  have hb := World.block_lt_of_cell? _ _ h.1
  simp only [] at hb
  have hkk := hg key.toNat (by omega)
  have htt := hg tk.toNat (by omega)
  have hA := h.below ((Keeps.refl w).alloc (.cells #[.int .i64 k, .int .i64 key, .int .i64 tk, .int .i64 n] 33))
  cases h1 : inB (g key.toNat + -n) 0 999 with
  | true =>
    have hu : 0 ≤ upd g key.toNat (g key.toNat + -n) tk.toNat ∧ upd g key.toNat (g key.toNat + -n) tk.toNat ≤ 999 := by
      simp only [inB, Bool.and_eq_true, decide_eq_true_eq] at h1
      unfold upd; split <;> omega
    have hA1 := hA.set key.toNat (g key.toNat + -n) (by omega)
    go_enter Tryz.func110, Tryz.ntmps110
    go_wp2_with fail
    refine (more_c b g key (-n) _ hk0 hk3 hkk.1 hkk.2 (by omega) (by omega) hA).mono ?_
    rintro e w' ⟨rfl, rfl⟩
    go_wp2_with fail
    have hA2 : Arr b (upd g key.toNat (g key.toNat + -n)) ((w.setCell ⟨b, key.toNat, none⟩ (.int .i64 (g key.toNat + -n))).alloc (.cells #[.int .i64 k, .int .i64 key, .int .i64 tk, .int .i64 n] 33)).drew :=
      (h.set key.toNat (g key.toNat + -n) (by omega)).below ((Keeps.refl _).alloc _).drew
    refine (more_c b _ tk n _ ht0 ht3 hu.1 hu.2 (by omega) hn1 hA2).mono ?_
    rintro e w2 ⟨rfl, hw⟩
    have hA3 : Arr b (upd (upd g key.toNat (g key.toNat + -n)) tk.toNat (upd g key.toNat (g key.toNat + -n) tk.toNat + n)) w2 := by
      subst hw; exact hA2.set tk.toNat _ (by omega)
    have hB : Below b w w2 := by
      subst hw; exact ((((below_at b _ _ _).alloc (by simp <;> omega) _).drew).trans (below_at b _ _ _)).drew
    clear hw
    go_wp2_with fail
    all_goals go_ret
    all_goals exact ⟨hB, _, hA3, by simp, fun _ => rfl⟩
  | false =>
    go_enter Tryz.func110, Tryz.ntmps110
    go_wp2_with fail
    refine (more_c b g key (-n) _ hk0 hk3 hkk.1 hkk.2 (by omega) (by omega) hA).mono ?_
    rintro e w2 ⟨rfl, hw⟩
    have hA3 : Arr b (upd g key.toNat (g key.toNat + -n)) w2 := by
      subst hw; exact hA.set key.toNat _ (by omega)
    have hB : Below b w w2 := by
      subst hw; exact (((Below.refl _ _).alloc (Nat.le_of_lt hb) _).trans (below_at b _ _ _)).drew
    clear hw
    go_wp2_with fail
    all_goals go_ret
    all_goals exact ⟨hB, _, hA3, by simp, fun h => by cases h⟩
end Go.Proofs.YteabfjpajgakiagGreat
