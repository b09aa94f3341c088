/- ApF, SuC, SuD, SuE, SuF, SuG, OpC. -/
import Derived.Deep.RegionLaw
import Derived.Lib.AppendZerosOnto
import Derived.Lib.Overlaps
import Derived.Laws.Externs
import Derived.Laws.AppendOwnNone
import Derived.Test.YteabfjpajgakiagJ00
import Derived.Test.YteabfjpajgakiagJ02
import Derived.Test.YteabfjpajgakiagJ03
/- Applying: slices.Insert of an answer. -/
set_option linter.unusedSimpArgs false
set_option linter.unusedVariables false
set_option maxRecDepth 10000
namespace Go.Proofs.Yteabfjpajgakiag
open Go.RowKit

theorem KeptOn.of_owns_at {base g n c : Nat} {w : World} {l : List (Int × Int)} (h : w.ownsRow base 109 2 (.slice (some ⟨g, 0, none⟩) n c) l.length (repCells l)) : KeptOn g w (.slice (some ⟨g, 0, none⟩) n c) l := by
  obtain ⟨g', hk, _⟩ := KeptOn.of_owns h
  rcases hk with ⟨e, _⟩ | ⟨cap, e, hr⟩
  · cases e
  · injection e with e1 e2 e3
    injection e1 with e1
    injection e1 with e1
    subst e1 e2 e3
    exact .inr ⟨_, rfl, hr⟩
theorem But.of_grown {g : Nat} {w w' : World} {row : Option Nat} (h : w.grownBy w' row) (hr : ∀ k, row = some k → k = g) : But g w w' :=
  ⟨h.os, h.tape, h.output, h.size, fun k hk hne => h.block k hk (fun e => hne (hr k e.symm))⟩

theorem vb_cells {w : World} {vb : Nat} {q x : Int} (hv : w.heap[vb]? = some (.cells #[.int .i64 q, .int .i64 x] 109 (0, 0))) : ∀ j u, [Value.int .i64 q, .int .i64 x][j]? = some u → w.cell? ((⟨vb, 0, none⟩ : Addr).add j) = some u := by
  intro j u hu
  rw [Addr.add_lit, Nat.zero_add]
  simp [World.cell?, hv]
  simpa using hu

/-- 'append(kept, answer)'. -/
theorem run_put_end (w : World) (g vb : Nat) (A : List (Int × Int)) (q x : Int) (kv : Value) (hk : KeptOn g w kv A) (h3 : A.length ≤ 3) (hv : w.heap[vb]? = some (.cells #[.int .i64 q, .int .i64 x] 109 (0, 0))) :
    ∃ g' kv' w', (Builtin.append_ #[80, 80] 80 #[kv, .slice (some ⟨vb, 0, none⟩) 1 1]).run Try.prog w = .ok kv' w' ∧ KeptOn g' w' kv' (A ++ [(q, x)]) ∧ (g' = g ∨ w.heap.size ≤ g') ∧ But g w w' := by
  obtain ⟨i, hi, hz, hs, hb⟩ := info_parts infoRep
  have hl : [Value.int .i64 q, .int .i64 x].length = 1 * 2 := rfl
  have h1 : ∀ u ∈ [Value.int .i64 q, .int .i64 x], u.oneCell' = true := by intro u hu; simp at hu; rcases hu with rfl | rfl <;> rfl
  have hc := vb_cells hv
  have happ : repCells A ++ [Value.int .i64 q, .int .i64 x] = repCells (A ++ [(q, x)]) := by rw [repCells_append]; rfl
  rcases hk with ⟨rfl, rfl⟩ | ⟨cap, rfl, hr⟩
  · obtain ⟨v', w', hrun, ho, hg, _⟩ := run_append_own (P := Try.prog) w w.heap.size 80 80 109 i _ 2 16 Try.underlying80 hi hz hs hb rfl (by decide) (.slice none 0 0) 0 [] (World.ownsRow_nil _ _ _ _) ⟨vb, 0, none⟩ 1 1 _ hl hc h1 (by unfold maxLen; omega) (by omega) (Nat.le_refl _)
    have ho' : w'.ownsRow w.heap.size 109 2 v' [(q, x)].length (repCells [(q, x)]) := ho
    obtain ⟨g', hk', hge, _⟩ := KeptOn.of_owns ho'
    exact ⟨g', v', w', hrun, hk', .inr hge, But.of_grown hg (fun k h => by cases h)⟩
  · have hown := KeptOn.owns (.inr ⟨cap, rfl, hr⟩ : KeptOn g w (.slice (some ⟨g, 0, none⟩) A.length cap) A)
    have hlt := hr.lt
    obtain ⟨v', w', hrun, ho, hg, _⟩ := run_append_own (P := Try.prog) w g 80 80 109 i _ 2 16 Try.underlying80 hi hz hs hb rfl (by decide) _ _ _ hown ⟨vb, 0, none⟩ 1 1 _ hl hc h1 (by unfold maxLen; omega) (by omega) (by omega)
    have hbut : But g w w' := But.of_grown hg (fun k h => by simp [Value.ownBlock] at h; exact h.symm)
    rw [happ] at ho
    have hlen : A.length + 1 = (A ++ [(q, x)]).length := by simp
    rw [hlen] at ho
    obtain ⟨cur, h1', h2, h3', h4, h5⟩ := hr
    by_cases hroom : A.length + 1 ≤ cap
    · have hr2 := run_append_room (P := Try.prog) w 80 80 109 i Try.underlying80 hi g A.length cap cur h1' ⟨vb, 0, none⟩ 1 1 _ (by rw [hs]; exact hl) hc h1 hroom (by rw [hs, h2]; simp; omega)
      rw [hrun] at hr2
      injection hr2 with e1 e2
      subst e1
      exact ⟨g, _, w', hrun, KeptOn.of_owns_at ho, .inl rfl, hbut⟩
    · have hr2 := run_append_grow (P := Try.prog) w 80 80 109 i _ Try.underlying80 hi hz ⟨g, 0, none⟩ A.length cap (repCells A) (by rw [hs, repCells_len]) (hown.cells (g := g) rfl) ⟨vb, 0, none⟩ 1 1 _ (by rw [hs]; exact hl) hc (by omega) (by omega) (by rw [hb]; exact growslice_fits (by omega) (by omega))
      rw [hrun] at hr2
      injection hr2 with e1 e2
      subst e1
      exact ⟨w.heap.size, _, w', hrun, KeptOn.of_owns_at ho, .inr (Nat.le_refl _), hbut⟩

/-- 'copy(d, s)' between rows of answers. -/
theorem run_copy_rep (w : World) (ty : TypeId) (b o dLen dCap : Nat) (a : Addr) (sLen sCap : Nat) (cs : List Value) (hn : cs.length = Nat.min sLen dLen * 2)
    (hsrc : ∀ j v, cs[j]? = some v → w.cell? (a.add j) = some v) (hc : ∀ j, j < cs.length → (w.cell? ⟨b, o + j, none⟩).isSome = true) (hf : ∀ j, j < cs.length → w.frozen? ⟨b, o + j, none⟩ = false) (h1 : ∀ v ∈ cs, v.oneCell' = true) :
    (Builtin.copy_ #[80, 80] ty #[.slice (some ⟨b, o, none⟩) dLen dCap, .slice (some a) sLen sCap]).run Try.prog w = .ok (goInt (Nat.min sLen dLen)) (w.setCells b o cs) := by
  have hl := run_loadCells_list (P := Try.prog) w a cs hsrc
  have hst := run_storeCells_cells (P := Try.prog) b o cs 0 w (by simpa using hc) (by simpa using hf) h1
  obtain ⟨i, hi, hz, hs, hb⟩ := info_parts infoRep
  simp [Builtin.copy_, run_underlying Try.underlying80, Builtin.lenOf, Builtin.firstCells, sizeOf, typeInfo, hi, hs, ← hn, hl, hst]

/-- .. as a step of the walk. -/
theorem wpList_copy_run {P : Program} {w w' : World} {ops : Array Oper} {rest : List Oper} {o : Oper} {a : Act} {Q : Exit → Act → World → Prop} {v x v' : Value} (hgd : o.guard = none) (s y : Operand) (t : TypeId)
    (ho : o.op = .call { callee := .builtin .copy, args := #[s, y], argTypes := #[t, t] }) (hs : a.eval s = v) (hx : a.eval y = x)
    (hr : (Builtin.copy_ #[t, t] o.type #[v, x]).run P w = .ok v' w') (h : wpList P ops Q rest (a.put o.dst v') w') : wpList P ops Q (o :: rest) a w := by
  refine wpList_plain hgd fun K hK => ?_
  unfold Oper.wp
  simp [execOp, ho, resolve, invoke, builtin, hs, hx, hr, Result.andThen]
  exact hK _ _ h
/-- .. and as a step of a region that draws. -/
theorem step_copy_run {P : Program} {ops : Array Oper} {o : Oper} {a : Act} {w w' : World} {K : Act → World → Prop} {Q : Exit → Act → World → Prop} {E : Prop} {v x v' : Value} (hgd : o.guard = none) (s y : Operand) (t : TypeId)
    (ho : o.op = .call { callee := .builtin .copy, args := #[s, y], argTypes := #[t, t] }) (hs : a.eval s = v) (hx : a.eval y = x)
    (hr : (Builtin.copy_ #[t, t] o.type #[v, x]).run P w = .ok v' w') (hK : K (a.put o.dst v') w') : if Region.wanted o (yielded ops a.tmps) = true then Oper.wp P o a w K Q else E := by
  have hw : Region.wanted o (yielded ops a.tmps) = true := by simp [Region.wanted, hgd]
  rw [if_pos hw]
  unfold Oper.wp
  simp [execOp, ho, resolve, invoke, builtin, hs, hx, hr, Result.andThen]
  exact hK

theorem insert_end (g vb : Nat) (A : List (Int × Int)) (q x : Int) (kv : Value) (w : World) (hk : KeptOn g w kv A) (h3 : A.length ≤ 3) (hv : w.heap[vb]? = some (.cells #[.int .i64 q, .int .i64 x] 109 (0, 0))) :
    Calls Try.prog 93 #[kv, .int .i64 A.length, .slice (some ⟨vb, 0, none⟩) 1 1] w fun e w' => ∃ g' kv', KeptOn g' w' kv' (A ++ [(q, x)]) ∧ (g' = g ∨ w.heap.size ≤ g') ∧ e = .returned kv' ∧ But g w w' := by
  obtain ⟨g', kv', w', hr, hk', hor, hb⟩ := run_put_end w g vb A q x kv hk h3 hv
  have Hr := (show Hid (_ = _) from hr)
  obtain ⟨ka, kc, rfl, hlen⟩ := hk.kept.len
  have hcap : A.length ≤ kc ∧ kc ≤ maxLen := by
    rcases hk with ⟨e, h⟩ | ⟨cap, e, cur, _, _, h4, h5, _⟩
    · injection e with _ _ e; rw [h, e]; exact ⟨Nat.le_refl _, by unfold maxLen; omega⟩
    · injection e with _ _ e; rw [repCells_len] at h5; subst e; exact ⟨by omega, h4⟩
  obtain ⟨hc1, hc2⟩ := hcap
  unfold maxLen at hc2
  clear hr hk hv
  generalize A.length = n at *
  go_enter Try.func93, Try.ntmps93
  go_wp2_with (at_builtin; refine wpList_append_run rfl _ _ _ rfl rfl rfl Hr.out ?_)
  all_goals go_ret
  all_goals exact ⟨g', kv', hk', hor, rfl, hb⟩

theorem over_no (w : World) (g vb o lb cb cap : Nat) (q x : Int) (xs : List Value) (hr : RepRow w g cap xs) (hc : 0 < cap) (hv : w.heap[vb]? = some (.cells #[.int .i64 q, .int .i64 x] 109 (0, 0))) (hne : vb ≠ g) :
    (callFunc 94 #[.slice (some ⟨vb, 0, none⟩) 1 1, .slice (some ⟨g, o, none⟩) lb cb]).run Try.prog w = .ok (.value (.bool false)) w := by
  obtain ⟨cur, h1, h2, _⟩ := hr
  have hz : ∀ w, (Go.sizeOf 109).run Try.prog w = .ok 2 w := fun _ => by kernel_rfl
  rw [run_callFunc_extern Try.func94 (by kernel_rfl) (by kernel_rfl) (by kernel_rfl) (e := Extern.SlicesOverlaps.overlaps #[80, 80] #[4]) (by kernel_rfl),
    Lib.run_overlaps_apart w 80 4 109 Try.underlying80 2 hz ⟨vb, 0, none⟩ ⟨g, o, none⟩ 1 1 lb cb hne 109 109 2 cur.size (by simp [World.shape?, hv]) (by simp [World.shape?, h1]) (by omega) (by simp [World.frozen?, hv]) (by simp [World.frozen?, hv])]
  rfl
end Go.Proofs.Yteabfjpajgakiag

/- slices.Insert at int: WRITTEN BY tools/genSuC.py. -/
set_option linter.unusedSimpArgs false
set_option linter.unusedVariables false
set_option maxRecDepth 10000
namespace Go.Proofs.Yteabfjpajgakiag
open Go.RowKit

theorem intCells_len (l : List Int) : (intCells l).length = l.length := by simp [intCells]
theorem intCells_take (A : List Int) (i : Nat) : (intCells A).take i = intCells (A.take i) := by simp [intCells]
theorem intCells_drop (A : List Int) (i : Nat) : (intCells A).drop i = intCells (A.drop i) := by simp [intCells]
theorem intCells_append (A B : List Int) : intCells (A ++ B) = intCells A ++ intCells B := by simp [intCells]
theorem intCells_one (A : List Int) : ∀ v ∈ intCells A, v.oneCell' = true := by
  intro v hv
  simp [intCells] at hv
  obtain ⟨a, _, rfl⟩ := hv
  rfl
theorem ints_nil (w : World) : IntsAt w (.slice none 0 0) [] := RowAt.of_owns (World.ownsRow_nil w 0 3 1)

/-- A row of answers in block g. -/
def IRow (w : World) (g cap : Nat) (xs : List Value) : Prop := ∃ cur : Array Value, w.heap[g]? = some (.cells cur 3 (0, 0)) ∧ cur.size = cap ∧ cap ≤ maxLen ∧ xs.length ≤ cap ∧ cur.toList.take xs.length = xs

theorem IRow.lt {w : World} {g cap : Nat} {xs : List Value} (h : IRow w g cap xs) : g < w.heap.size := by
  obtain ⟨cur, h1, _⟩ := h
  exact (Array.getElem?_eq_some_iff.1 h1).1
theorem IRow.cell {w : World} {g cap : Nat} {xs : List Value} (h : IRow w g cap xs) (i : Nat) (u : Value) (hu : xs[i]? = some u) : w.cell? ⟨g, i, none⟩ = some u := by
  obtain ⟨cur, h1, h2, h3, h4, h5⟩ := h
  have hi := (List.getElem?_eq_some_iff.1 hu).1
  rw [← h5, List.getElem?_take, if_pos hi] at hu
  simp [World.cell?, h1]
  simpa using hu
theorem IRow.some {w : World} {g cap : Nat} {xs : List Value} (h : IRow w g cap xs) (i : Nat) (hi : i < cap) : ∃ u, w.cell? ⟨g, i, none⟩ = some u := by
  obtain ⟨cur, h1, h2, _⟩ := h
  refine ⟨cur[i]'(by omega), ?_⟩
  simp [World.cell?, h1, h2, hi]
theorem IRow.frozen {w : World} {g cap : Nat} {xs : List Value} (h : IRow w g cap xs) (i : Nat) : w.frozen? ⟨g, i, none⟩ = false := by
  obtain ⟨cur, h1, _⟩ := h
  simp [World.frozen?, h1]
theorem IRow.set {w : World} {g cap : Nat} {xs : List Value} (h : IRow w g cap xs) (i : Nat) (u : Value) : IRow (w.setCell ⟨g, i, none⟩ u) g cap (xs.set i u) := by
  obtain ⟨cur, h1, h2, h3, h4, h5⟩ := h
  refine ⟨cur.setIfInBounds i u, ?_, by simpa using h2, h3, by simpa using h4, ?_⟩
  · simp [World.setCell, Array.getElem?_modify, h1]
  · simp only [List.length_set, Array.toList_setIfInBounds]
    rw [List.take_set, h5]
theorem IRow.but {w w' : World} {g b cap : Nat} {xs : List Value} (h : IRow w g cap xs) (hk : But b w w') (hb : g ≠ b) : IRow w' g cap xs := by
  have hl := h.lt
  obtain ⟨cur, h1, r⟩ := h
  exact ⟨cur, (hk.block g hl hb).trans h1, r⟩
theorem IRow.keep {w w' : World} {g cap : Nat} {xs : List Value} (h : IRow w g cap xs) (hk : Keeps w w') : IRow w' g cap xs := by
  have hl := h.lt
  obtain ⟨cur, h1, r⟩ := h
  exact ⟨cur, (hk.block g hl).trans h1, r⟩
theorem IRow.take {w : World} {g cap : Nat} {xs : List Value} (h : IRow w g cap xs) (n : Nat) : IRow w g cap (xs.take n) := by
  obtain ⟨cur, h1, h2, h3, h4, h5⟩ := h
  refine ⟨cur, h1, h2, h3, by simp; omega, ?_⟩
  have e : List.take n xs = List.take n (List.take xs.length cur.toList) := by rw [h5]
  rw [List.length_take, e, List.take_take]

/-- The answers lie in block g (or there are none, and no row). -/
def IntsOn (g : Nat) (w : World) (kv : Value) (l : List Int) : Prop := (kv = .slice none 0 0 ∧ l = []) ∨ ∃ cap, kv = .slice (some ⟨g, 0, none⟩) l.length cap ∧ IRow w g cap (intCells l)

theorem IntsOn.kept {g : Nat} {w : World} {kv : Value} {l : List Int} (h : IntsOn g w kv l) : IntsAt w kv l := by
  rcases h with ⟨rfl, rfl⟩ | ⟨cap, rfl, hr⟩
  · exact ints_nil w
  · have hc := fun i u hu => hr.cell i u hu
    obtain ⟨cur, h1, h2, h3, h4, h5⟩ := hr
    rw [intCells_len] at h4
    exact ⟨by rw [intCells_len]; omega, by omega, .inr ⟨_, cap, rfl, fun j u hu => by rw [Addr.add_lit, Nat.zero_add]; exact hc j u hu⟩⟩
theorem IntsOn.but {g b : Nat} {w w' : World} {kv : Value} {l : List Int} (h : IntsOn g w kv l) (hk : But b w w') (hb : g ≠ b) : IntsOn g w' kv l :=
  h.imp id fun ⟨cap, e, hr⟩ => ⟨cap, e, hr.but hk hb⟩
theorem IntsOn.keep {g : Nat} {w w' : World} {kv : Value} {l : List Int} (h : IntsOn g w kv l) (hk : Keeps w w') : IntsOn g w' kv l :=
  h.imp id fun ⟨cap, e, hr⟩ => ⟨cap, e, hr.keep hk⟩
theorem IntsOn.of_owns {base : Nat} {w : World} {kv : Value} {l : List Int} (h : w.ownsRow base 3 1 kv l.length (intCells l)) : ∃ g, IntsOn g w kv l ∧ base ≤ g ∧ (g < w.heap.size ∨ g = base) := by
  obtain ⟨h1, h2⟩ := h
  rcases h2 with ⟨rfl, h0⟩ | ⟨g, cap, cur, rfl, hg, hh, hn, hm, hs, ht⟩
  · exact ⟨base, .inl ⟨rfl, List.length_eq_zero_iff.1 h0⟩, Nat.le_refl _, .inr rfl⟩
  · have hr : IRow w g cap (intCells l) := ⟨cur, hh, by omega, hm, by rw [h1]; omega, by rw [h1]; exact ht⟩
    exact ⟨g, .inr ⟨cap, rfl, hr⟩, hg, .inl hr.lt⟩
/-- .. and back. -/
theorem IntsOn.owns {g : Nat} {w : World} {kv : Value} {l : List Int} (h : IntsOn g w kv l) : w.ownsRow g 3 1 kv l.length (intCells l) := by
  refine ⟨by rw [intCells_len]; omega, ?_⟩
  rcases h with ⟨rfl, rfl⟩ | ⟨cap, rfl, cur, h1, h2, h3, h4, h5⟩
  · exact .inl ⟨rfl, rfl⟩
  · rw [intCells_len] at h4 h5
    exact .inr ⟨g, cap, cur, rfl, Nat.le_refl _, h1, by omega, h3, by omega, by rw [Nat.mul_one]; exact h5⟩

theorem IRow.setCells {g cap : Nat} : ∀ (cs : List Value) (o : Nat) {w : World} {xs : List Value}, IRow w g cap xs → IRow (w.setCells g o cs) g cap (setL xs o cs)
  | [], _, _, _, h => h
  | v :: r, o, _, _, h => IRow.setCells r (o + 1) (h.set o v)
theorem IntsOn.of_owns_at {base g n c : Nat} {w : World} {l : List Int} (h : w.ownsRow base 3 1 (.slice (some ⟨g, 0, none⟩) n c) l.length (intCells l)) : IntsOn g w (.slice (some ⟨g, 0, none⟩) n c) l := by
  obtain ⟨g', hk, _⟩ := IntsOn.of_owns h
  rcases hk with ⟨e, _⟩ | ⟨cap, e, hr⟩
  · cases e
  · injection e with e1 e2 e3
    injection e1 with e1
    injection e1 with e1
    subst e1 e2 e3
    exact .inr ⟨_, rfl, hr⟩
theorem vb_int {w : World} {vb : Nat} {q : Int} (hv : w.heap[vb]? = some (.cells #[.int .i64 q] 3 (0, 0))) : ∀ j u, [Value.int .i64 q][j]? = some u → w.cell? ((⟨vb, 0, none⟩ : Addr).add j) = some u := by
  intro j u hu
  rw [Addr.add_lit, Nat.zero_add]
  simp [World.cell?, hv]
  simpa using hu

/-- 'append(kept, answer)'. -/
theorem put_end_int (w : World) (g vb : Nat) (A : List Int) (q : Int) (kv : Value) (hk : IntsOn g w kv A) (h3 : A.length ≤ 60) (hv : w.heap[vb]? = some (.cells #[.int .i64 q] 3 (0, 0))) :
    ∃ g' kv' w', (Builtin.append_ #[22, 22] 22 #[kv, .slice (some ⟨vb, 0, none⟩) 1 1]).run Try.prog w = .ok kv' w' ∧ IntsOn g' w' kv' (A ++ [q]) ∧ (g' = g ∨ w.heap.size ≤ g') ∧ But g w w' := by
  obtain ⟨i, hi, hz, hs, hb⟩ := info_parts infoInt
  have hl : [Value.int .i64 q].length = 1 := rfl
  have h1 : ∀ u ∈ [Value.int .i64 q], u.oneCell' = true := by intro u hu; simp at hu; subst hu; rfl
  have hc := vb_int hv
  have happ : intCells A ++ [Value.int .i64 q] = intCells (A ++ [q]) := by rw [intCells_append]; rfl
  rcases hk with ⟨rfl, rfl⟩ | ⟨cap, rfl, hr⟩
  · obtain ⟨v', w', hrun, ho, hg, _⟩ := run_append_own (P := Try.prog) w w.heap.size 22 22 3 i _ 1 8 Try.underlying22 hi hz hs hb rfl (by decide) (.slice none 0 0) 0 [] (World.ownsRow_nil _ _ _ _) ⟨vb, 0, none⟩ 1 1 _ hl hc h1 (by unfold maxLen; omega) (by omega) (Nat.le_refl _)
    have ho' : w'.ownsRow w.heap.size 3 1 v' [q].length (intCells [q]) := ho
    obtain ⟨g', hk', hge, _⟩ := IntsOn.of_owns ho'
    exact ⟨g', v', w', hrun, hk', .inr hge, But.of_grown hg (fun k h => by cases h)⟩
  · have hown := IntsOn.owns (.inr ⟨cap, rfl, hr⟩ : IntsOn g w (.slice (some ⟨g, 0, none⟩) A.length cap) A)
    have hlt := hr.lt
    obtain ⟨v', w', hrun, ho, hg, _⟩ := run_append_own (P := Try.prog) w g 22 22 3 i _ 1 8 Try.underlying22 hi hz hs hb rfl (by decide) _ _ _ hown ⟨vb, 0, none⟩ 1 1 _ hl hc h1 (by unfold maxLen; omega) (by omega) (by omega)
    have hbut : But g w w' := But.of_grown hg (fun k h => by simp [Value.ownBlock] at h; exact h.symm)
    rw [happ] at ho
    have hlen : A.length + 1 = (A ++ [q]).length := by simp
    rw [hlen] at ho
    obtain ⟨cur, h1', h2, h3', h4, h5⟩ := hr
    by_cases hroom : A.length + 1 ≤ cap
    · have hr2 := run_append_room (P := Try.prog) w 22 22 3 i Try.underlying22 hi g A.length cap cur h1' ⟨vb, 0, none⟩ 1 1 _ (by rw [hs]; exact hl) hc h1 hroom (by rw [hs, h2]; simp; omega)
      rw [hrun] at hr2
      injection hr2 with e1 e2
      subst e1
      exact ⟨g, _, w', hrun, IntsOn.of_owns_at ho, .inl rfl, hbut⟩
    · have hr2 := run_append_grow (P := Try.prog) w 22 22 3 i _ Try.underlying22 hi hz ⟨g, 0, none⟩ A.length cap (intCells A) (by rw [hs, intCells_len]; omega) (hown.cells (g := g) rfl) ⟨vb, 0, none⟩ 1 1 _ (by rw [hs]; exact hl) hc (by omega) (by omega) (by rw [hb]; exact growslice_fits (by omega) (by omega))
      rw [hrun] at hr2
      injection hr2 with e1 e2
      subst e1
      exact ⟨w.heap.size, _, w', hrun, IntsOn.of_owns_at ho, .inr (Nat.le_refl _), hbut⟩

/-- 'copy(d, s)' between rows of answers. -/
theorem run_copy_int (w : World) (ty : TypeId) (b o dLen dCap : Nat) (a : Addr) (sLen sCap : Nat) (cs : List Value) (hn : cs.length = Nat.min sLen dLen)
    (hsrc : ∀ j v, cs[j]? = some v → w.cell? (a.add j) = some v) (hc : ∀ j, j < cs.length → (w.cell? ⟨b, o + j, none⟩).isSome = true) (hf : ∀ j, j < cs.length → w.frozen? ⟨b, o + j, none⟩ = false) (h1 : ∀ v ∈ cs, v.oneCell' = true) :
    (Builtin.copy_ #[22, 22] ty #[.slice (some ⟨b, o, none⟩) dLen dCap, .slice (some a) sLen sCap]).run Try.prog w = .ok (goInt (Nat.min sLen dLen)) (w.setCells b o cs) := by
  have hl := run_loadCells_list (P := Try.prog) w a cs hsrc
  have hst := run_storeCells_cells (P := Try.prog) b o cs 0 w (by simpa using hc) (by simpa using hf) h1
  obtain ⟨i, hi, hz, hs, hb⟩ := info_parts infoInt
  simp [Builtin.copy_, run_underlying Try.underlying22, Builtin.lenOf, Builtin.firstCells, sizeOf, typeInfo, hi, hs, ← hn, hl, hst]

theorem insertI_end (g vb : Nat) (A : List Int) (q : Int) (kv : Value) (w : World) (hk : IntsOn g w kv A) (h3 : A.length ≤ 60) (hv : w.heap[vb]? = some (.cells #[.int .i64 q] 3 (0, 0))) :
    Calls Try.prog 32 #[kv, .int .i64 A.length, .slice (some ⟨vb, 0, none⟩) 1 1] w fun e w' => ∃ g' kv', IntsOn g' w' kv' (A ++ [q]) ∧ (g' = g ∨ w.heap.size ≤ g') ∧ e = .returned kv' ∧ But g w w' := by
  obtain ⟨g', kv', w', hr, hk', hor, hb⟩ := put_end_int w g vb A q kv hk h3 hv
  have Hr := (show Hid (_ = _) from hr)
  obtain ⟨ka, kc, rfl, hlen⟩ := hk.kept.len
  have hcap : A.length ≤ kc ∧ kc ≤ maxLen := by
    rcases hk with ⟨e, h⟩ | ⟨cap, e, cur, _, _, h4, h5, _⟩
    · injection e with _ _ e; rw [h, e]; exact ⟨Nat.le_refl _, by unfold maxLen; omega⟩
    · injection e with _ _ e; rw [intCells_len] at h5; subst e; exact ⟨by omega, h4⟩
  obtain ⟨hc1, hc2⟩ := hcap
  unfold maxLen at hc2
  clear hr hk hv
  generalize A.length = n at *
  go_enter Try.func32, Try.ntmps32
  go_wp2_with (at_builtin; refine wpList_append_run rfl _ _ _ rfl rfl rfl Hr.out ?_)
  all_goals go_ret
  all_goals exact ⟨g', kv', hk', hor, rfl, hb⟩

theorem overI_no (w : World) (g vb o lb cb cap : Nat) (q : Int) (xs : List Value) (hr : IRow w g cap xs) (hc : 0 < cap) (hv : w.heap[vb]? = some (.cells #[.int .i64 q] 3 (0, 0))) (hne : vb ≠ g) :
    (callFunc 44 #[.slice (some ⟨vb, 0, none⟩) 1 1, .slice (some ⟨g, o, none⟩) lb cb]).run Try.prog w = .ok (.value (.bool false)) w := by
  obtain ⟨cur, h1, h2, _⟩ := hr
  have hz : ∀ w, (Go.sizeOf 3).run Try.prog w = .ok 1 w := fun _ => by kernel_rfl
  rw [run_callFunc_extern Try.func44 (by kernel_rfl) (by kernel_rfl) (by kernel_rfl) (e := Extern.SlicesOverlaps.overlaps #[22, 22] #[4]) (by kernel_rfl),
    Lib.run_overlaps_apart w 22 4 3 Try.underlying22 1 hz ⟨vb, 0, none⟩ ⟨g, o, none⟩ 1 1 lb cb hne 3 3 1 cur.size (by simp [World.shape?, hv]) (by simp [World.shape?, h1]) (by omega) (by simp [World.frozen?, hv]) (by simp [World.frozen?, hv])]
  rfl
theorem IRow.drew {w : World} {g cap : Nat} {xs : List Value} (h : IRow w g cap xs) : IRow w.drew g cap xs := h.keep (Keeps.refl _).drew
/-- The row, with as much of the spare room as is wanted. -/
theorem IRow.more {w : World} {g cap : Nat} {xs : List Value} (h : IRow w g cap xs) (n : Nat) (h1 : xs.length ≤ n) (h2 : n ≤ cap) : ∃ ys : List Value, ys.length = n - xs.length ∧ IRow w g cap (xs ++ ys) := by
  obtain ⟨cur, e1, e2, e3, e4, e5⟩ := h
  refine ⟨(cur.toList.take n).drop xs.length, by simp; omega, cur, e1, e2, e3, by simp; omega, ?_⟩
  have hl : (cur.toList.take n).length = n := by simp; omega
  rw [List.length_append, List.length_drop, hl, show xs.length + (n - xs.length) = n from by omega]
  have hx : xs = (cur.toList.take n).take xs.length := by rw [List.take_take, Nat.min_eq_left h1, e5]
  exact (List.take_append_drop xs.length (cur.toList.take n)).symm.trans (congrArg (· ++ _) hx.symm)

theorem insI_list (A : List Int) (i : Nat) (ys : List Value) (q : Int) (hi : i < A.length) (hy : ys.length = 1) :
    setL (setL (intCells A ++ ys) ((i + 1)) (intCells (A.drop i))) (i) [.int .i64 q] = intCells (A.take i ++ q :: A.drop i) := by
  have hA : A = A.take i ++ A.drop i := (List.take_append_drop _ _).symm
  have hl : (intCells (A.drop i)).length = (A.length - i) := by rw [intCells_len, List.length_drop]
  have hlA : (intCells A).length = A.length := intCells_len _
  rw [setL_eq _ _ ((i + 1)) (by rw [List.length_append, hl, hlA, hy]; omega)]
  rw [show ((i + 1) + (intCells (A.drop i)).length) = (intCells A ++ ys).length from by rw [List.length_append, hl, hlA, hy]; omega, List.drop_length, List.append_nil]
  rw [setL_eq _ _ (i) (by rw [List.length_append, List.length_take, List.length_append, hl, hlA, hy]; simp; omega)]
  have ht : (List.take ((i + 1)) (intCells A ++ ys)).length = (i + 1) := by rw [List.length_take, List.length_append, hlA, hy]; omega
  rw [List.take_append_of_le_length (by rw [ht]; omega), List.take_take, Nat.min_eq_left (by omega), List.take_append_of_le_length (by rw [hlA]; omega), intCells_take]
  rw [show i + [Value.int .i64 q].length = (i + 1) from by simp]
  rw [show List.drop ((i + 1)) (List.take ((i + 1)) (intCells A ++ ys) ++ intCells (A.drop i)) = intCells (A.drop i) from List.drop_left' ht]
  rw [intCells_append]
  simp [intCells]

set_option maxHeartbeats 4000000 in
theorem insertI_shift (g vb cap i : Nat) (A : List Int) (q : Int) (w : World) (hr : IRow w g cap (intCells A)) (hi : i < A.length) (h3 : A.length ≤ 60) (hroom : A.length + 1 ≤ cap) (hv : w.heap[vb]? = some (.cells #[.int .i64 q] 3 (0, 0))) (hne : vb ≠ g) :
    Calls Try.prog 32 #[.slice (some ⟨g, 0, none⟩) A.length cap, .int .i64 i, .slice (some ⟨vb, 0, none⟩) 1 1] w fun e w' => ∃ g' kv', IntsOn g' w' kv' (A.take i ++ q :: A.drop i) ∧ (g' = g ∨ w.heap.size ≤ g') ∧ e = .returned kv' ∧ But g w w' := by
  have hcm : cap ≤ maxLen := hr.choose_spec.2.2.1
  unfold maxLen at hcm
  have hov : ∀ lb cb, (callFunc 44 #[.slice (some ⟨vb, 0, none⟩) 1 1, .slice (some ⟨g, (i + 1), none⟩) lb cb]).run Try.prog w = .ok (.value (.bool false)) w := fun lb cb => overI_no w g vb _ lb cb cap q _ hr (by omega) hv hne
  have hdl : (intCells (A.drop i)).length = (A.length - i) := by rw [intCells_len, List.length_drop]
  have hcs : ∀ j v, (intCells (A.drop i))[j]? = some v → w.cell? ⟨g, i + j, none⟩ = some v := fun j v hj => hr.cell _ _ (by rw [← intCells_drop, List.getElem?_drop] at hj; exact hj)
  have hcp1 : ∀ ty dc sc, (Builtin.copy_ #[22, 22] ty #[.slice (some ⟨g, (i + 1), none⟩) (A.length - i) dc, .slice (some ⟨g, i, none⟩) (A.length + 1 - i) sc]).run Try.prog w.drew = .ok (goInt (Nat.min (A.length + 1 - i) (A.length - i))) (w.drew.setCells g ((i + 1)) (intCells (A.drop i))) := fun ty dc sc =>
    run_copy_int w.drew ty g ((i + 1)) _ dc ⟨g, i, none⟩ _ sc _ (by rw [hdl]; simp only [Nat.min_def]; split <;> omega) (fun j v hj => by rw [Addr.add_lit]; exact hcs j v hj)
      (fun j hj => by obtain ⟨u, hu⟩ := hr.drew.some ((i + 1) + j) (by omega); rw [hu]; rfl) (fun j _ => hr.drew.frozen _) (intCells_one _)
  obtain ⟨ys, hys, hr2⟩ := hr.more ((A.length + 1)) (by rw [intCells_len]; omega) (by omega)
  have hy2 : ys.length = 1 := by rw [hys, intCells_len]; omega
  have hr3 : IRow (w.drew.setCells g ((i + 1)) (intCells (A.drop i))) g cap _ := IRow.setCells (intCells (A.drop i)) ((i + 1)) hr2.drew
  have hvc : ∀ j u, [Value.int .i64 q][j]? = some u → (w.drew.setCells g ((i + 1)) (intCells (A.drop i))).cell? ((⟨vb, 0, none⟩ : Addr).add j) = some u := fun j u hu => by
    rw [Addr.add_lit, Nat.zero_add]
    exact (But.setCells _ _ (But.of (Keeps.refl w).drew)).at (by have := vb_int hv j u hu; rwa [Addr.add_lit, Nat.zero_add] at this) hne
  have hcp2 : ∀ ty dc, (Builtin.copy_ #[22, 22] ty #[.slice (some ⟨g, i, none⟩) (A.length + 1 - i) dc, .slice (some ⟨vb, 0, none⟩) 1 1]).run Try.prog (w.drew.setCells g ((i + 1)) (intCells (A.drop i))) = .ok (goInt (Nat.min 1 (A.length + 1 - i))) ((w.drew.setCells g ((i + 1)) (intCells (A.drop i))).setCells g (i) [.int .i64 q]) := fun ty dc =>
    run_copy_int _ ty g (i) _ dc ⟨vb, 0, none⟩ 1 1 [.int .i64 q] (by simp only [Nat.min_def]; split <;> simp <;> omega) hvc
      (fun j hj => by obtain ⟨u, hu⟩ := hr3.some (i + j) (by simp at hj; omega); rw [hu]; rfl) (fun j _ => hr3.frozen _) (by intro u hu; simp at hu; subst hu; rfl)
  have HF : Hid (IntsOn g ((w.drew.setCells g ((i + 1)) (intCells (A.drop i))).setCells g (i) [.int .i64 q]) (.slice (some ⟨g, 0, none⟩) (A.length + 1) cap) (A.take i ++ q :: A.drop i)) := by
    refine .inr ⟨cap, by simp; omega, ?_⟩
    have := IRow.setCells [.int .i64 q] (i) hr3
    rw [insI_list A i ys q hi hy2] at this
    exact this
  have HB : Hid (But g w ((w.drew.setCells g ((i + 1)) (intCells (A.drop i))).setCells g (i) [.int .i64 q])) := But.setCells _ _ (But.setCells _ _ (But.of (Keeps.refl w).drew))
  have hw1 : IntKind.i64.wrap ((i : Int) + 1) = (i : Int) + 1 := by rw [IntKind.wrap_i64]; omega
  have htn : ((i : Int) + 1).toNat = i + 1 := by omega
  have htn2 : ((A.length : Int) + 1).toNat = A.length + 1 := by omega
  have hb2 : ¬ (cap = i + 1) := by omega
  have hb4 : ¬ (cap = i) := by omega
  have hb1 : (0 : Int) ≤ (i : Int) + 1 := by omega
  have hin : i ≤ A.length := by omega
  have hb3 : (i : Int) ≤ (A.length : Int) + 1 := by omega
  clear hr hr2 hr3 hys hy2 hvc hcs hv
  generalize A.length = n at *
  generalize (w.drew.setCells g ((i + 1)) (intCells (A.drop i))) = W1 at *
  go_enter Try.func32, Try.ntmps32
  go_wp2_with (simp only [hov])
  go_region_law (refine step_copy_run rfl _ _ 22 rfl (by simp [Act.eval, Act.put]) (by simp [Act.eval, Act.put]) (hcp1 _ _ _) ?_)
  go_wp2_with (at_builtin; refine wpList_copy_run rfl _ _ _ rfl rfl rfl (hcp2 _ _) ?_)
  go_ret
  exact ⟨g, _, HF.out, .inl rfl, rfl, HB.out⟩

theorem insI_list2 (A : List Int) (i : Nat) (zs : List Value) (q : Int) (hi : i < A.length) (hz : zs.length = (A.length + 1 - i)) :
    setL (setL (intCells (A.take i) ++ zs) (i) [.int .i64 q]) ((i + 1)) (intCells (A.drop i)) = intCells (A.take i ++ q :: A.drop i) := by
  have hl : (intCells (A.drop i)).length = (A.length - i) := by rw [intCells_len, List.length_drop]
  have ht : (intCells (A.take i)).length = i := by rw [intCells_len, List.length_take, Nat.min_eq_left (by omega)]
  rw [setL_eq _ _ (i) (by rw [List.length_append, ht, hz]; simp; omega)]
  rw [List.take_left' ht]
  have hq : (intCells (A.take i) ++ [Value.int .i64 q]).length = (i + 1) := by rw [List.length_append, ht]; simp
  have hd : (List.drop (i + [Value.int .i64 q].length) (intCells (A.take i) ++ zs)).length = (A.length - i) := by rw [List.length_drop, List.length_append, ht, hz]; simp; omega
  generalize List.drop (i + [Value.int .i64 q].length) (intCells (A.take i) ++ zs) = D at *
  generalize hT : intCells (A.take i) ++ [Value.int .i64 q] = T at *
  rw [setL_eq _ _ ((i + 1)) (by rw [List.length_append, hq, hd, hl]; omega)]
  have e : List.drop ((i + 1) + (intCells (A.drop i)).length) (T ++ D) = [] := List.drop_of_length_le (by rw [List.length_append, hq, hd, hl]; omega)
  rw [e, List.take_left' hq, List.append_nil, ← hT, intCells_append]
  simp [intCells]

set_option maxHeartbeats 4000000 in
theorem insertI_grow (g vb cap i : Nat) (A : List Int) (q : Int) (w : World) (hr : IRow w g cap (intCells A)) (hi : i < A.length) (h3 : A.length ≤ 60) (hroom : cap < A.length + 1) (hv : w.heap[vb]? = some (.cells #[.int .i64 q] 3 (0, 0))) (hne : vb ≠ g) :
    Calls Try.prog 32 #[.slice (some ⟨g, 0, none⟩) A.length cap, .int .i64 i, .slice (some ⟨vb, 0, none⟩) 1 1] w fun e w' => ∃ g' kv', IntsOn g' w' kv' (A.take i ++ q :: A.drop i) ∧ (g' = g ∨ w.heap.size ≤ g') ∧ e = .returned kv' ∧ But g w w' := by
  have hcl : A.length ≤ cap := by obtain ⟨cur, _, _, _, h4, _⟩ := hr; rw [intCells_len] at h4; omega
  obtain ⟨i0, hi0, hz0, hzs, hzb⟩ := info_parts infoInt
  have hglt := hr.lt
  have hvlt : vb < w.heap.size := (Array.getElem?_eq_some_iff.1 hv).1
  have hdl : (intCells (A.drop i)).length = (A.length - i) := by rw [intCells_len, List.length_drop]
  have hcs : ∀ j v, (intCells (A.drop i))[j]? = some v → w.cell? ⟨g, i + j, none⟩ = some v := fun j v hj => hr.cell _ _ (by rw [← intCells_drop, List.getElem?_drop] at hj; exact hj)
  have hold : (Builtin.firstCells i0.size i (.slice (some ⟨g, 0, none⟩) i cap)).run Try.prog w.drew = .ok (intCells (A.take i)).toArray w.drew := by
    rw [hzs]
    refine run_firstCells_some w.drew 1 i ⟨g, 0, none⟩ i cap (intCells (A.take i)) (by rw [intCells_len, List.length_take]; omega) (fun j v hj => ?_)
    rw [Addr.add_lit, Nat.zero_add]
    rw [← intCells_take, List.getElem?_take] at hj
    split at hj
    · exact hr.cell j v hj
    · cases hj
  have hkk : (A.length : Int) + 1 - (i : Int) = ((A.length + 1 - i : Nat) : Int) := by omega
  have hrz := Lib.run_append_grow_zeros (P := Try.prog) w 22 3 22 3 i0 _ .i64 .i64 Try.underlying22 Try.underlying3 hi0 hz0 (some ⟨g, 0, none⟩) i cap (intCells (A.take i)) hold (A.length + 1 - i) (by omega) (by omega) (by omega) (by omega) (by rw [hzb]; omega) (by rw [hzb, show i + (A.length + 1 - i) = A.length + 1 from by omega]; exact growslice_fits hroom (by omega))
  rw [show i + (A.length + 1 - i) = A.length + 1 from by omega, ← hkk] at hrz
  obtain ⟨G, hG⟩ : ∃ G, G = grownCap w (A.length + 1) cap 3 := ⟨_, rfl⟩
  have hGn : A.length + 1 ≤ G := by rw [hG]; exact grownCap_ge w _ _ _
  have hGm : G ≤ maxLen := by rw [hG]; exact grownCap_le_maxLen w (A.length + 1) cap 3 (by unfold maxLen; omega)
  rw [← hG] at hrz
  obtain ⟨W1, hW1⟩ : ∃ W1, W1 = (w.drew.alloc (.cells ((intCells (A.take i)).toArray ++ Builtin.zeroCells (Value.cells (.int .i64 0)) (A.length + 1 - i) ++ Builtin.zeroCells (Value.cells (.int .i64 0)) (G - (A.length + 1))) 3)) := ⟨_, rfl⟩
  rw [← hW1] at hrz
  have hlt : (intCells (A.take i)).length = i := by rw [intCells_len, List.length_take, Nat.min_eq_left (by omega)]
  obtain ⟨zs, hzs1⟩ : ∃ zs : List Value, zs = (Builtin.zeroCells (Value.cells (.int .i64 0)) (A.length + 1 - i)).toList := ⟨_, rfl⟩
  have hzl : zs.length = (A.length + 1 - i) := by rw [hzs1, Array.length_toList, size_zeroCells]; simp [Value.cells]
  have hr1 : IRow W1 w.heap.size G (intCells (A.take i) ++ zs) := by
    refine ⟨_, by rw [hW1]; exact heap_alloc_new w.drew _, ?_, hGm, by rw [List.length_append, hlt, hzl]; omega, ?_⟩
    · simp only [Array.size_append, List.size_toArray, size_zeroCells, hlt]
      simp [Value.cells]
      omega
    · rw [Array.toList_append, Array.toList_append, ← hzs1]
      exact List.take_left' rfl
  have hk1 : Keeps w W1 := by rw [hW1]; exact (Keeps.refl _).drew.alloc _
  have hz1 : w.heap.size < W1.heap.size := hr1.lt
  clear hold hW1
  have hvc : ∀ j u, [Value.int .i64 q][j]? = some u → W1.cell? ((⟨vb, 0, none⟩ : Addr).add j) = some u := fun j u hu => by
    have := vb_int hv j u hu
    rw [Addr.add_lit] at this ⊢
    exact cell_kept this hk1
  have hcpA : ∀ ty dc, (Builtin.copy_ #[22, 22] ty #[.slice (some ⟨w.heap.size, i, none⟩) (A.length + 1 - i) dc, .slice (some ⟨vb, 0, none⟩) 1 1]).run Try.prog W1 = .ok (goInt (Nat.min 1 (A.length + 1 - i))) (W1.setCells w.heap.size (i) [.int .i64 q]) := fun ty dc =>
    run_copy_int _ ty w.heap.size (i) _ dc ⟨vb, 0, none⟩ 1 1 [.int .i64 q] (by simp only [Nat.min_def]; split <;> simp <;> omega) hvc
      (fun j hj => by obtain ⟨u, hu⟩ := hr1.some (i + j) (by simp at hj; omega); rw [hu]; rfl) (fun j _ => hr1.frozen _) (by intro u hu; simp at hu; subst hu; rfl)
  have hr2 : IRow (W1.setCells w.heap.size (i) [.int .i64 q]) w.heap.size G _ := IRow.setCells [.int .i64 q] (i) hr1
  have hk2 : Keeps w (W1.setCells w.heap.size (i) [.int .i64 q]) := But.to hk1 (Nat.le_refl _) (But.setCells _ _ (But.refl _ _))
  generalize hW2 : W1.setCells w.heap.size (i) [.int .i64 q] = W2 at *
  have hz2 : w.heap.size < W2.heap.size := hr2.lt
  have hcpB : ∀ ty dc sc, (Builtin.copy_ #[22, 22] ty #[.slice (some ⟨w.heap.size, (i + 1), none⟩) (A.length - i) dc, .slice (some ⟨g, i, none⟩) (A.length - i) sc]).run Try.prog W2.drew = .ok (goInt (Nat.min (A.length - i) (A.length - i))) (W2.drew.setCells w.heap.size ((i + 1)) (intCells (A.drop i))) := fun ty dc sc =>
    run_copy_int _ ty w.heap.size ((i + 1)) _ dc ⟨g, i, none⟩ _ sc (intCells (A.drop i)) (by rw [hdl, show Nat.min (A.length - i) (A.length - i) = A.length - i from Nat.min_self _]) (fun j v hj => by rw [Addr.add_lit]; exact cell_kept (hcs j v hj) (hk2.drew))
      (fun j hj => by obtain ⟨u, hu⟩ := hr2.drew.some ((i + 1) + j) (by omega); rw [hu]; rfl) (fun j _ => hr2.drew.frozen _) (intCells_one _)
  have HF : Hid (IntsOn w.heap.size (W2.drew.setCells w.heap.size ((i + 1)) (intCells (A.drop i))) (.slice (some ⟨w.heap.size, 0, none⟩) (A.length + 1) G) (A.take i ++ q :: A.drop i)) := by
    refine .inr ⟨G, by simp; omega, ?_⟩
    have := IRow.setCells (intCells (A.drop i)) ((i + 1)) hr2.drew
    rw [insI_list2 A i zs q hi hzl] at this
    exact this
  have HB : Hid (But g w (W2.drew.setCells w.heap.size ((i + 1)) (intCells (A.drop i)))) := But.of (But.to hk2.drew (Nat.le_refl _) (But.setCells _ _ (But.refl _ _)))
  have hw1 : IntKind.i64.wrap ((i : Int) + 1) = (i : Int) + 1 := by rw [IntKind.wrap_i64]; omega
  have htn : ((i : Int) + 1).toNat = i + 1 := by omega
  have hGi : ¬ (G = i) := by omega
  have hGi2 : ¬ (G = i + 1) := by omega
  have hci : ¬ (cap = i) := by omega
  have hb1 : (0 : Int) ≤ (i : Int) + 1 := by omega
  have hin : i ≤ A.length := by omega
  have hb3 : (i : Int) ≤ (A.length : Int) + 1 := by omega
  have hG63 : G ≤ 9223372036854775807 := by unfold maxLen at hGm; omega
  have Hrz := (show Hid (_ = _) from hrz)
  clear hr hr1 hr2 hvc hcs hv hrz hkk hlt hzs1 hW2 hk1 hk2 hG hGm hzl
  generalize A.length = n at *
  generalize hWN : w.heap.size = N at *
  go_enter Try.func32, Try.ntmps32
  go_wp2_with (at_builtin; first | (refine Lib.wpList_append_run _ rfl _ _ _ _ rfl _ _ rfl rfl _ _ Hrz.out ?_) | (refine wpList_copy_run rfl _ _ _ rfl rfl rfl (hcpA _ _) ?_))
  go_region_law (refine step_copy_run rfl _ _ 22 rfl (by simp [Act.eval, Act.put]) (by simp [Act.eval, Act.put]) (hcpB _ _ _) ?_)
  go_wp2_with fail
  go_ret
  exact ⟨N, _, HF.out, .inr (Nat.le_refl _), rfl, HB.out⟩

/-- slices.Insert of an answer. -/
theorem insertI_c (g vb i : Nat) (A : List Int) (q : Int) (kv : Value) (w : World) (hk : IntsOn g w kv A) (hi : i ≤ A.length) (h3 : A.length ≤ 60) (hv : w.heap[vb]? = some (.cells #[.int .i64 q] 3 (0, 0))) (hne : vb ≠ g) :
    Calls Try.prog 32 #[kv, .int .i64 i, .slice (some ⟨vb, 0, none⟩) 1 1] w fun e w' => ∃ g' kv', IntsOn g' w' kv' (A.take i ++ q :: A.drop i) ∧ (g' = g ∨ w.heap.size ≤ g') ∧ e = .returned kv' ∧ But g w w' := by
  by_cases hlt : i < A.length
  · rcases hk with ⟨_, h⟩ | ⟨cap, rfl, hr⟩
    · rw [h] at hlt; simp at hlt
    · by_cases hroom : A.length + 1 ≤ cap
      · exact insertI_shift g vb cap i A q w hr hlt h3 hroom hv hne
      · exact insertI_grow g vb cap i A q w hr hlt h3 (by omega) hv hne
  · have : i = A.length := by omega
    subst this
    rw [List.take_length, List.drop_length]
    exact insertI_end g vb A q kv w hk h3 hv
end Go.Proofs.Yteabfjpajgakiag

/- stub.Again. -/
set_option linter.unusedSimpArgs false
set_option linter.unusedVariables false
set_option maxRecDepth 10000
namespace Go.Proofs.Yteabfjpajgakiag
open Go.RowKit

def againErr (s : Stu) (time seq : Int) (o : Int × Int × Int × Int) : Int := if stuErr s == 0 then (if hasI s.came seq then 5 else if inB seq 1 (s.next - 1) then entErr (stuCall s time seq o) else 5) else stuErr s
def againE (s : Stu) (time seq : Int) (o : Int × Int × Int × Int) : Ent := if againErr s time seq o == 0 then stuCall s time seq o else zeroE

set_option maxHeartbeats 4000000 in
theorem stub_again (s : Stu) (time seq o0 o1 o2 o3 : Int) (t : Value) (w : World) (h : IntsAt w t s.came) : Calls Try.prog 12 #[stuV s t, .int .i64 time, .int .i64 seq, opV o0 o1 o2 o3] w fun e w' => e = .returned (.tuple #[entV (againE s time seq (o0, o1, o2, o3)), .int .i64 (againErr s time seq (o0, o1, o2, o3))]) ∧ Keeps w w' := by
  obtain ⟨ta, tc, rfl, hlen⟩ := RowAt.len h
  unfold maxLen at hlen
  have HI : Hid (IntsAt w (.slice ta s.came.length tc) s.came) := h
  have HE : Hid (againErr s time seq (o0, o1, o2, o3) = if stuErr s == 0 then (if hasI s.came seq then 5 else if inB seq 1 (s.next - 1) then entErr (stuCall s time seq (o0, o1, o2, o3)) else 5) else stuErr s) := rfl
  have HAZ : Hid ((againErr s time seq (o0, o1, o2, o3) == 0) = false → againE s time seq (o0, o1, o2, o3) = zeroE) := fun h => by unfold againE; rw [h]; rfl
  have HAE : Hid (againErr s time seq (o0, o1, o2, o3) = entErr (stuCall s time seq (o0, o1, o2, o3)) → againE s time seq (o0, o1, o2, o3) = callE (stuCall s time seq (o0, o1, o2, o3))) := fun h => by unfold againE callE; rw [h]
  generalize againErr s time seq (o0, o1, o2, o3) = er at *
  generalize againE s time seq (o0, o1, o2, o3) = ag at *
  have HCA : Hid (∀ W, Keeps w W → Calls Try.prog 21 #[stuV s (.slice ta s.came.length tc), .int .i64 time, .int .i64 seq, opV o0 o1 o2 o3] W fun e w' => e = .returned (.tuple #[entV (callE (stuCall s time seq (o0, o1, o2, o3))), .int .i64 (entErr (stuCall s time seq (o0, o1, o2, o3)))]) ∧ Keeps W w') := fun W hk => stub_call s time seq o0 o1 o2 o3 _ W (HI.out.keep hk)
  generalize callE (stuCall s time seq (o0, o1, o2, o3)) = ce at *
  generalize entErr (stuCall s time seq (o0, o1, o2, o3)) = ee at *
  clear h
  go_enter Try.func12, Try.ntmps12
  go_wp2_with fail
  obtain ⟨W1, hW1⟩ : ∃ W1, W1 = ((w.alloc (.cells #[.int .i64 s.client, .int .i64 s.next, .slice ta s.came.length tc] 24)).alloc (.cells #[.int .i64 o0, .int .i64 o1, .int .i64 o2, .int .i64 o3] 26)).alloc (.cells #[.int .i64 0, .int .i64 0, .int .i64 0, .int .i64 0, .int .i64 0, .int .i64 0, .int .i64 0, .int .i64 0, .int .i64 0] 28) := ⟨_, rfl⟩
  have k1 : Keeps w W1 := by rw [hW1]; exact (((Keeps.refl _).alloc _).alloc _).alloc _
  have B1 : StuBox w.heap.size s (.slice ta s.came.length tc) W1 := by rw [hW1]; exact (StuBox.new w s _ rfl 24).keep (((Keeps.refl _).alloc _).alloc _)
  have O1 : W1.cell? ⟨w.heap.size + 1, 0, none⟩ = some (.int .i64 o0) ∧ W1.cell? ⟨w.heap.size + 1, 1, none⟩ = some (.int .i64 o1) ∧ W1.cell? ⟨w.heap.size + 1, 2, none⟩ = some (.int .i64 o2) ∧ W1.cell? ⟨w.heap.size + 1, 3, none⟩ = some (.int .i64 o3) := by rw [hW1]; refine ⟨?_, ?_, ?_, ?_⟩ <;> simp [go_sem]
  have Z1 : EBox (w.heap.size + 1 + 1) zeroE W1 := by
    rw [hW1]
    have := EBox.new ((w.alloc (.cells #[.int .i64 s.client, .int .i64 s.next, .slice ta s.came.length tc] 24)).alloc (.cells #[.int .i64 o0, .int .i64 o1, .int .i64 o2, .int .i64 o3] 26)) zeroE 28
    simp only [World.size_alloc] at this
    exact this
  rw [← hW1]
  clear hW1
  obtain ⟨zb, hzb⟩ : ∃ zb, zb = w.heap.size + 1 + 1 := ⟨_, rfl⟩
  rw [← hzb] at Z1 ⊢
  have HZB : Hid (zb = w.heap.size + 1 + 1) := hzb
  clear hzb
  refine (stub_check s _ W1 (HI.out.keep k1)).mono ?_
  rintro e w1 ⟨rfl, hb⟩
  have HK1 : Hid (Keeps w w1) := k1.trans hb
  have HB1 : Hid (StuBox w.heap.size s (.slice ta s.came.length tc) w1) := B1.keep hb
  have HO1 : Hid (w1.cell? ⟨w.heap.size + 1, 0, none⟩ = some (.int .i64 o0) ∧ w1.cell? ⟨w.heap.size + 1, 1, none⟩ = some (.int .i64 o1) ∧ w1.cell? ⟨w.heap.size + 1, 2, none⟩ = some (.int .i64 o2) ∧ w1.cell? ⟨w.heap.size + 1, 3, none⟩ = some (.int .i64 o3)) := ⟨cell_stays O1.1 hb, cell_stays O1.2.1 hb, cell_stays O1.2.2.1 hb, cell_stays O1.2.2.2 hb⟩
  have HZ1 : Hid (EBox zb zeroE w1) := Z1.keep hb
  clear k1 B1 O1 Z1 hb
  clear W1
  cases q1 : (stuErr s == 0) with
  | false =>
    have q1' : (stuErr s != 0) = true := by simp [bne, q1]
    have HE2 : Hid (er = stuErr s) := by show _ = _; rw [HE.out, q1]; rfl
    have H1 := (show Hid _ from HAZ.out (by rw [HE2.out]; exact q1))
    have z0 := HZ1.out.c0
    have z1 := HZ1.out.c1
    have z2 := HZ1.out.c2
    have z3 := HZ1.out.c3
    have z4 := HZ1.out.c4
    have z5 := HZ1.out.c5
    have z6 := HZ1.out.c6
    have z7 := HZ1.out.c7
    have z8 := HZ1.out.c8
    have zf := HZ1.out.fz
    have zl := HZ1.out.lt
    have hk := HK1.out
    go_wp2_with fail
    refine bodyPost_ret (v := .tuple #[entV zeroE, .int .i64 (stuErr s)]) ?_ rfl ?_
    · simp [results, Try.results12, go_sem, zeroE, z0, z1, z2, z3, z4, z5, z6, z7, z8]
    · have hzz := HZB.out
      rw [HE2.out, H1.out]
      refine ⟨rfl, ?_⟩
      repeat refine Keeps.set ?_ (by simp <;> omega) _
      exact hk
  | true =>
    have q1' : (stuErr s != 0) = false := by simp [bne, q1]
    have q0 : stuErr s = 0 := by simpa using q1
    obtain ⟨_, ⟨hn1, hn2⟩, hck⟩ := stu_right q0
    have HSO := (show Hid _ from came_sorted hck)
    have hl60 : s.came.length ≤ 60 := by have := came_len hck (by omega); omega
    clear q0 hck
    have b0 := HB1.out.c0
    have b1 := HB1.out.c1
    have b2 := HB1.out.c2
    have bl := HB1.out.lt
    go_wp2_with fail
    refine (search_i s.came _ seq w1 (HI.out.keep HK1.out) HSO.out (by omega)).mono ?_
    rintro e w1' ⟨p, _, rfl, rfl⟩
    cases q2 : hasI s.came seq with
    | true =>
      have HE2 : Hid (er = 5) := by show _ = _; rw [HE.out, q1, q2]; rfl
      have H1 := (show Hid _ from HAZ.out (by rw [HE2.out]; rfl))
      have z0 := HZ1.out.c0
      have z1 := HZ1.out.c1
      have z2 := HZ1.out.c2
      have z3 := HZ1.out.c3
      have z4 := HZ1.out.c4
      have z5 := HZ1.out.c5
      have z6 := HZ1.out.c6
      have z7 := HZ1.out.c7
      have z8 := HZ1.out.c8
      have zf := HZ1.out.fz
      have zl := HZ1.out.lt
      have hk := HK1.out
      go_wp2_with fail
      refine bodyPost_ret (v := .tuple #[entV zeroE, .int .i64 5]) ?_ rfl ?_
      · simp [results, Try.results12, go_sem, zeroE, z0, z1, z2, z3, z4, z5, z6, z7, z8]
      · have hzz := HZB.out
        rw [HE2.out, H1.out]
        refine ⟨rfl, ?_⟩
        repeat refine Keeps.set ?_ (by simp <;> omega) _
        exact hk
    | false =>
      go_wp2_with fail
      refine (stub_called s seq _ w1 hn1 hn2).mono ?_
      rintro e w2 ⟨rfl, hb⟩
      have HK2 : Hid (Keeps w w2) := HK1.out.trans hb
      have hB := HB1.out.keep hb
      have hO : w2.cell? ⟨w.heap.size + 1, 0, none⟩ = some (.int .i64 o0) ∧ w2.cell? ⟨w.heap.size + 1, 1, none⟩ = some (.int .i64 o1) ∧ w2.cell? ⟨w.heap.size + 1, 2, none⟩ = some (.int .i64 o2) ∧ w2.cell? ⟨w.heap.size + 1, 3, none⟩ = some (.int .i64 o3) := ⟨cell_stays HO1.out.1 hb, cell_stays HO1.out.2.1 hb, cell_stays HO1.out.2.2.1 hb, cell_stays HO1.out.2.2.2 hb⟩
      have HZ2 : Hid (EBox zb zeroE w2) := HZ1.out.keep hb
      clear hb b0 b1 b2 bl HB1 HZ1 HK1 HO1
      have b0 := hB.c0
      have b1 := hB.c1
      have b2 := hB.c2
      have bl := hB.lt
      clear hB
      have HZ1 := HZ2
      have HK1 := HK2
      cases q3 : inB seq 1 (s.next - 1) with
      | false =>
        have HE2 : Hid (er = 5) := by show _ = _; rw [HE.out, q1, q2, q3]; rfl
        have H1 := (show Hid _ from HAZ.out (by rw [HE2.out]; rfl))
        have z0 := HZ1.out.c0
        have z1 := HZ1.out.c1
        have z2 := HZ1.out.c2
        have z3 := HZ1.out.c3
        have z4 := HZ1.out.c4
        have z5 := HZ1.out.c5
        have z6 := HZ1.out.c6
        have z7 := HZ1.out.c7
        have z8 := HZ1.out.c8
        have zf := HZ1.out.fz
        have zl := HZ1.out.lt
        have hk := HK1.out
        go_wp2_with fail
        refine bodyPost_ret (v := .tuple #[entV zeroE, .int .i64 5]) ?_ rfl ?_
        · simp [results, Try.results12, go_sem, zeroE, z0, z1, z2, z3, z4, z5, z6, z7, z8]
        · have hzz := HZB.out
          rw [HE2.out, H1.out]
          refine ⟨rfl, ?_⟩
          repeat refine Keeps.set ?_ (by simp <;> omega) _
          exact hk
      | true =>
        have HE2 : Hid (er = ee) := by show _ = _; rw [HE.out, q1, q2, q3]; rfl
        have H2 := (show Hid _ from HAE.out HE2.out)
        obtain ⟨p0, p1, p2, p3⟩ := hO
        have pl := World.block_lt_of_cell? _ _ p0
        simp only [] at pl
        go_wp2_with fail
        refine (HCA.out w2 HK2.out).mono ?_
        rintro e w3 ⟨rfl, hb⟩
        have HZ3 : Hid (EBox zb zeroE w3) := HZ2.out.keep hb
        have HK3 : Hid (Keeps w w3) := HK2.out.trans hb
        have HZ1 := HZ3
        clear hb b0 b1 b2 bl p0 p1 p2 p3 pl HZ2 HK2
        have z0 := HZ1.out.c0
        have z1 := HZ1.out.c1
        have z2 := HZ1.out.c2
        have z3 := HZ1.out.c3
        have z4 := HZ1.out.c4
        have z5 := HZ1.out.c5
        have z6 := HZ1.out.c6
        have z7 := HZ1.out.c7
        have z8 := HZ1.out.c8
        have zf := HZ1.out.fz
        have zl := HZ1.out.lt
        have HBP := (show Hid _ from HZ3.out.put ce)
        go_wp2_with fail
        have c0 := HBP.out.1.c0
        have c1 := HBP.out.1.c1
        have c2 := HBP.out.1.c2
        have c3 := HBP.out.1.c3
        have c4 := HBP.out.1.c4
        have c5 := HBP.out.1.c5
        have c6 := HBP.out.1.c6
        have c7 := HBP.out.1.c7
        have c8 := HBP.out.1.c8
        refine bodyPost_ret (v := .tuple #[entV ce, .int .i64 ee]) ?_ rfl ?_
        · simp only [results, Try.results12, go_sem, c0, c1, c2, c3, c4, c5, c6, c7, c8]
          simp [go_sem, c0, c1, c2, c3, c4, c5, c6, c7, c8]
        · have hzz := HZB.out
          rw [HE2.out, H2.out]
          exact ⟨rfl, But.to HK3.out (by omega) HBP.out.2⟩
end Go.Proofs.Yteabfjpajgakiag

/- Numbers that rise: what has come, with one more (plain). -/
set_option linter.unusedSimpArgs false
set_option linter.unusedVariables false
namespace Go.Proofs.Yteabfjpajgakiag
open Go.RowKit

theorem sorted_ext : ∀ (l m : List Int), l.Pairwise (· < ·) → m.Pairwise (· < ·) → (∀ x, x ∈ l ↔ x ∈ m) → l = m
  | [], [], _, _, _ => rfl
  | [], b :: s, _, _, h => absurd ((h b).2 (List.mem_cons_self ..)) (by simp)
  | a :: r, [], _, _, h => absurd ((h a).1 (List.mem_cons_self ..)) (by simp)
  | a :: r, b :: s, hl, hm, h => by
    have hl' := List.pairwise_cons.1 hl
    have hm' := List.pairwise_cons.1 hm
    have hab : a = b := by
      rcases List.mem_cons.1 ((h a).1 (List.mem_cons_self ..)) with e | e
      · exact e
      · rcases List.mem_cons.1 ((h b).2 (List.mem_cons_self ..)) with e2 | e2
        · exact e2.symm
        · have h1 := hm'.1 a e
          have h2 := hl'.1 b e2
          omega
    subst hab
    refine congrArg (a :: ·) (sorted_ext r s hl'.2 hm'.2 (fun x => ⟨fun hx => ?_, fun hx => ?_⟩))
    · rcases List.mem_cons.1 ((h x).1 (List.mem_cons_of_mem _ hx)) with e | e
      · have := hl'.1 x hx
        omega
      · exact e
    · rcases List.mem_cons.1 ((h x).2 (List.mem_cons_of_mem _ hx)) with e | e
      · have := hm'.1 x hx
        omega
      · exact e

/-- The numbers 1 .. k that have come, and one more. -/
def cameTo (l : List Int) (q : Int) (k : Nat) : List Int := ((List.range k).map (fun (i : Nat) => (i : Int) + 1)).filter (fun n => n == q || hasI l n)
def camePut (nx : Int) (l : List Int) (q : Int) : List Int := cameTo l q (nx - 1).toNat

theorem cameTo_succ (l : List Int) (q : Int) (k : Nat) : cameTo l q (k + 1) = cameTo l q k ++ (if (k : Int) + 1 == q || hasI l ((k : Int) + 1) then [(k : Int) + 1] else []) := by
  unfold cameTo
  rw [List.range_succ, List.map_append, List.filter_append]
  congr 1
  simp [List.filter_cons]
theorem range_sorted : ∀ k : Nat, ((List.range k).map (fun (i : Nat) => (i : Int) + 1)).Pairwise (· < ·) := by
  intro k
  rw [List.pairwise_map]
  exact (List.pairwise_lt_range (n := k)).imp (fun h => by omega)
theorem cameTo_sorted (l : List Int) (q : Int) (k : Nat) : (cameTo l q k).Pairwise (· < ·) := (range_sorted k).filter _
theorem cameTo_mem {l : List Int} {q x : Int} {k : Nat} : x ∈ cameTo l q k ↔ (1 ≤ x ∧ x ≤ k) ∧ (x = q ∨ x ∈ l) := by
  unfold cameTo
  rw [List.mem_filter]
  constructor
  · rintro ⟨h1, h2⟩
    obtain ⟨i, hi, rfl⟩ := List.mem_map.1 h1
    have := List.mem_range.1 hi
    refine ⟨⟨by omega, by omega⟩, ?_⟩
    rcases Bool.or_eq_true_iff.1 h2 with h | h
    · exact Or.inl (by simpa using h)
    · exact Or.inr (hasI_iff.1 h)
  · rintro ⟨⟨h1, h2⟩, h3⟩
    refine ⟨List.mem_map.2 ⟨(x - 1).toNat, List.mem_range.2 (by omega), by omega⟩, ?_⟩
    rcases h3 with rfl | h
    · simp
    · rw [hasI_iff.2 h, Bool.or_true]
theorem camePut_has {nx q : Int} {l : List Int} (hs : l.Pairwise (· < ·)) (hb : ∀ n ∈ l, 1 ≤ n ∧ n ≤ nx - 1) (h : hasI l q = true) : l = camePut nx l q := by
  refine sorted_ext _ _ hs (cameTo_sorted _ _ _) (fun x => ?_)
  unfold camePut
  rw [cameTo_mem]
  constructor
  · intro hx
    have := hb x hx
    exact ⟨⟨by omega, by omega⟩, Or.inr hx⟩
  · rintro ⟨_, rfl | h2⟩
    · exact hasI_iff.1 h
    · exact h2
theorem camePut_ins {nx q : Int} {l : List Int} {p : Nat} (hs : l.Pairwise (· < ·)) (hb : ∀ n ∈ l, 1 ≤ n ∧ n ≤ nx - 1) (hq : 1 ≤ q ∧ q ≤ nx - 1) (hP : PlaceI l q p) (h : hasI l q = false) : l.take p ++ q :: l.drop p = camePut nx l q := by
  have hn : ∀ x ∈ l, x ≠ q := fun x hx e => by
    have := hasI_iff.2 (e ▸ hx)
    rw [h] at this
    cases this
  have hlow : ∀ x ∈ l.take p, x < q := by
    intro x hx
    obtain ⟨k, hk, rfl⟩ := List.mem_iff_getElem.1 hx
    have hk' : k < p ∧ k < l.length := by simp at hk; omega
    rw [List.getElem_take]
    exact hP.low k hk'.2 hk'.1
  have hhigh : ∀ x ∈ l.drop p, q < x := by
    intro x hx
    obtain ⟨k, hk, rfl⟩ := List.mem_iff_getElem.1 hx
    rw [List.getElem_drop]
    have hk' : p + k < l.length := by simp at hk; omega
    have h1 := hP.high (p + k) hk' (by omega)
    have h2 := hn _ (List.getElem_mem hk')
    omega
  refine sorted_ext _ _ ?_ (cameTo_sorted _ _ _) (fun x => ?_)
  · rw [List.pairwise_append]
    refine ⟨hs.sublist (List.take_sublist _ _), List.pairwise_cons.2 ⟨hhigh, hs.sublist (List.drop_sublist _ _)⟩, ?_⟩
    intro a ha b hb
    rcases List.mem_cons.1 hb with rfl | hb
    · exact hlow a ha
    · have h1 := hlow a ha
      have h2 := hhigh b hb
      omega
  · unfold camePut
    rw [cameTo_mem, List.mem_append, List.mem_cons]
    have hm : x ∈ l ↔ x ∈ l.take p ∨ x ∈ l.drop p := by rw [← List.mem_append, List.take_append_drop]
    constructor
    · rintro (h1 | rfl | h1)
      · have hx := hm.2 (Or.inl h1)
        have := hb x hx
        exact ⟨⟨by omega, by omega⟩, Or.inr hx⟩
      · exact ⟨⟨by omega, by omega⟩, Or.inl rfl⟩
      · have hx := hm.2 (Or.inr h1)
        have := hb x hx
        exact ⟨⟨by omega, by omega⟩, Or.inr hx⟩
    · rintro ⟨_, rfl | h2⟩
      · exact Or.inr (Or.inl rfl)
      · rcases hm.1 h2 with h3 | h3
        · exact Or.inl h3
        · exact Or.inr (Or.inr h3)
end Go.Proofs.Yteabfjpajgakiag

/- stub.Came. -/
set_option linter.unusedSimpArgs false
set_option linter.unusedVariables false
set_option maxRecDepth 10000
namespace Go.Proofs.Yteabfjpajgakiag
open Go.RowKit

def cameErr (s : Stu) (seq : Int) : Int := if stuErr s == 0 then (if inB seq 1 (s.next - 1) then 0 else 5) else stuErr s
def cameS (s : Stu) (seq : Int) : Stu := if cameErr s seq == 0 then ⟨s.client, s.next, camePut s.next s.came seq⟩ else zeroStu

/-- Where there is no row any block serves. -/
theorem IntsOn.anew {base N : Nat} {w : World} {kv : Value} {l : List Int} (h : w.ownsRow base 3 1 kv l.length (intCells l)) (hN : base ≤ N) : ∃ g, IntsOn g w kv l ∧ base ≤ g ∧ (g < w.heap.size ∨ g = N) := by
  obtain ⟨g, hg, hb, hc⟩ := IntsOn.of_owns h
  rcases hg with hl | ⟨cap, e, hr⟩
  · exact ⟨N, .inl hl, hN, .inr rfl⟩
  · exact ⟨g, .inr ⟨cap, e, hr⟩, hb, .inl hr.lt⟩

set_option maxHeartbeats 4000000 in
theorem stub_came (s : Stu) (seq : Int) (t : Value) (w : World) (h : IntsAt w t s.came) : Calls Try.prog 13 #[stuV s t, .int .i64 seq] w fun e w' => ∃ ra rc, IntsAt w' (.slice ra (cameS s seq).came.length rc) (cameS s seq).came ∧ e = .returned (.tuple #[stuV (cameS s seq) (.slice ra (cameS s seq).came.length rc), .int .i64 (cameErr s seq)]) ∧ Keeps w w' := by
  obtain ⟨ta, tc, rfl, hlen⟩ := RowAt.len h
  unfold maxLen at hlen
  have HI : Hid (IntsAt w (.slice ta s.came.length tc) s.came) := h
  have HE : Hid (cameErr s seq = if stuErr s == 0 then (if inB seq 1 (s.next - 1) then 0 else 5) else stuErr s) := rfl
  have HCZ : Hid ((cameErr s seq == 0) = false → cameS s seq = zeroStu) := fun h => by unfold cameS; rw [h]; rfl
  have HCO : Hid (cameErr s seq = 0 → cameS s seq = ⟨s.client, s.next, camePut s.next s.came seq⟩) := fun h => by unfold cameS; rw [h]; rfl
  clear h
  go_enter Try.func13, Try.ntmps13
  go_wp2_with fail
  obtain ⟨W1, hW1⟩ : ∃ W1, W1 = (w.alloc (.cells #[.int .i64 s.client, .int .i64 s.next, .slice ta s.came.length tc] 24)).alloc (.cells #[.int .i64 0, .int .i64 0, .slice none 0 0] 24) := ⟨_, rfl⟩
  have k1 : Keeps w W1 := by rw [hW1]; exact ((Keeps.refl _).alloc _).alloc _
  have B1 : StuBox w.heap.size s (.slice ta s.came.length tc) W1 := by rw [hW1]; exact (StuBox.new w s _ rfl 24).keep ((Keeps.refl _).alloc _)
  have Z1 : StuBox (w.heap.size + 1) zeroStu (.slice none 0 0) W1 := by
    rw [hW1]
    have := StuBox.new (w.alloc (.cells #[.int .i64 s.client, .int .i64 s.next, .slice ta s.came.length tc] 24)) zeroStu (.slice none 0 0) rfl 24
    simp only [World.size_alloc] at this
    exact this
  rw [← hW1]
  clear hW1
  refine (stub_check s _ W1 (HI.out.keep k1)).mono ?_
  rintro e w1 ⟨rfl, hb⟩
  have HKK : Hid (Keeps w w1) := k1.trans hb
  have HB1 : Hid (StuBox w.heap.size s (.slice ta s.came.length tc) w1) := B1.keep hb
  have HZK : Hid (StuBox (w.heap.size + 1) zeroStu (.slice none 0 0) w1) := Z1.keep hb
  clear k1 B1 Z1 hb
  clear W1
  cases q1 : (stuErr s == 0) with
  | false =>
    have q1' : (stuErr s != 0) = true := by simp [bne, q1]
    have HE2 : Hid (cameErr s seq = stuErr s) := by show _ = _; rw [HE.out, q1]; rfl
    have H1 := (show Hid _ from HCZ.out (by rw [HE2.out]; exact q1))
    have z0 := HZK.out.c0
    have z1 := HZK.out.c1
    have z2 := HZK.out.c2
    have zf := HZK.out.fz
    have zl := HZK.out.lt
    have hk := HKK.out
    go_wp2_with fail
    refine bodyPost_ret (v := .tuple #[stuV zeroStu (.slice none 0 0), .int .i64 (stuErr s)]) ?_ rfl ?_
    · simp [results, Try.results13, go_sem, zeroStu, z0, z1, z2]
    · rw [HE2.out, H1.out]
      refine ⟨none, 0, ints_nil _, rfl, ?_⟩
      repeat refine Keeps.set ?_ (by simp <;> omega) _
      exact hk
  | true =>
    have q1' : (stuErr s != 0) = false := by simp [bne, q1]
    have q0 : stuErr s = 0 := by simpa using q1
    obtain ⟨_, ⟨hn1, hn2⟩, hck⟩ := stu_right q0
    have HSO := (show Hid _ from came_sorted hck)
    have HBD := (show Hid _ from came_bounds hck)
    have hl60 : s.came.length ≤ 60 := by have := came_len hck (by omega); omega
    clear q0 hck
    have b0 := HB1.out.c0
    have b1 := HB1.out.c1
    have b2 := HB1.out.c2
    have bl := HB1.out.lt
    go_wp2_with fail
    refine (stub_called s seq _ w1 hn1 hn2).mono ?_
    rintro e w2 ⟨rfl, hb⟩
    have HK2 : Hid (Keeps w w2) := HKK.out.trans hb
    have HB2 : Hid (StuBox w.heap.size s (.slice ta s.came.length tc) w2) := HB1.out.keep hb
    have HZ2 : Hid (StuBox (w.heap.size + 1) zeroStu (.slice none 0 0) w2) := HZK.out.keep hb
    clear hb b0 b1 b2 bl HB1 HZK HKK
    clear w1
    cases q2 : inB seq 1 (s.next - 1) with
    | false =>
      have HE2 : Hid (cameErr s seq = 5) := by show _ = _; rw [HE.out, q1, q2]; rfl
      have HKK := HK2
      have HZK := HZ2
      have H1 := (show Hid _ from HCZ.out (by rw [HE2.out]; rfl))
      have z0 := HZK.out.c0
      have z1 := HZK.out.c1
      have z2 := HZK.out.c2
      have zf := HZK.out.fz
      have zl := HZK.out.lt
      have hk := HKK.out
      go_wp2_with fail
      refine bodyPost_ret (v := .tuple #[stuV zeroStu (.slice none 0 0), .int .i64 5]) ?_ rfl ?_
      · simp [results, Try.results13, go_sem, zeroStu, z0, z1, z2]
      · rw [HE2.out, H1.out]
        refine ⟨none, 0, ints_nil _, rfl, ?_⟩
        repeat refine Keeps.set ?_ (by simp <;> omega) _
        exact hk
    | true =>
      have hq := inB_iff.1 q2
      have HE2 : Hid (cameErr s seq = 0) := by show _ = _; rw [HE.out, q1, q2]; rfl
      have HCP := (show Hid _ from HCO.out HE2.out)
      have b0 := HB2.out.c0
      have b1 := HB2.out.c1
      have b2 := HB2.out.c2
      have bl := HB2.out.lt
      go_wp2_with fail
      refine (twin_stub s _ w2 (HI.out.keep HK2.out) (by omega)).mono ?_
      rintro e w3 ⟨qa, qc, HOW, rfl, hb⟩
      have HK3 : Hid (Keeps w w3) := HK2.out.trans hb
      have HZ3 : Hid (StuBox (w.heap.size + 1) zeroStu (.slice none 0 0) w3) := HZ2.out.keep hb
      have hsz2 := HZ2.out.lt
      have hs3 := hb.size
      have HS3 : Hid (w2.heap.size ≤ w3.heap.size ∧ w.heap.size + 1 < w2.heap.size) := ⟨hs3, hsz2⟩
      clear hb b0 b1 b2 bl hs3 hsz2 HB2
      go_wp2_with fail
      have HB4 : Hid (StuBox w3.heap.size s (.slice qa s.came.length qc) (w3.alloc (.cells #[.int .i64 s.client, .int .i64 s.next, .slice qa s.came.length qc] 24))) := StuBox.new w3 s _ rfl 24
      have k34 : Keeps w3 (w3.alloc (.cells #[.int .i64 s.client, .int .i64 s.next, .slice qa s.came.length qc] 24)) := (Keeps.refl _).alloc _
      have hs4 : (w3.alloc (.cells #[.int .i64 s.client, .int .i64 s.next, .slice qa s.came.length qc] 24)).heap.size = w3.heap.size + 1 := World.size_alloc _ _
      obtain ⟨w4, hw4⟩ : ∃ z, z = w3.alloc (.cells #[.int .i64 s.client, .int .i64 s.next, .slice qa s.came.length qc] 24) := ⟨_, rfl⟩
      rw [← hw4] at HB4 k34 hs4 ⊢
      clear hw4
      have HI4 : Hid (IntsAt w4 (.slice qa s.came.length qc) s.came) := IntsAt.keep (RowAt.of_owns HOW.out) k34
      have HK4 : Hid (Keeps w w4) := HK3.out.trans k34
      have HZ4 : Hid (StuBox (w.heap.size + 1) zeroStu (.slice none 0 0) w4) := HZ3.out.keep k34
      refine (search_i s.came _ seq w4 HI4.out HSO.out (by omega)).mono ?_
      rintro e w4' ⟨p, hP, rfl, rfl⟩
      have HP : Hid (PlaceI s.came seq p) := hP
      have hpl := hP.le
      obtain ⟨nb, hnb⟩ : ∃ nb, nb = w3.heap.size := ⟨_, rfl⟩
      rw [← hnb] at HB4 hs4 ⊢
      have HNB : Hid (nb = w3.heap.size ∧ w4.heap.size = nb + 1) := ⟨hnb, hs4⟩
      have HR4 : Hid (∃ g, IntsOn g w4 (.slice qa s.came.length qc) s.came ∧ w.heap.size + 2 ≤ g ∧ g ≠ nb ∧ (g < nb ∨ g = w4.heap.size + 1)) := by
        obtain ⟨g, hg, h1, h2⟩ := IntsOn.anew (N := w4.heap.size + 1) HOW.out (by have := HS3.out; have := HNB.out; omega)
        have h3 := HS3.out
        have h4 := HNB.out
        exact ⟨g, hg.keep k34, by omega, by omega, by omega⟩
      clear hnb hs4 k34 HOW HZ3 HK3 hP
      cases q3 : hasI s.came seq with
      | true =>
        obtain ⟨L, hL⟩ : ∃ L, L = camePut s.next s.came seq := ⟨_, rfl⟩
        have hLc : s.came = L := by rw [hL]; exact camePut_has HSO.out (fun n hn => by have := HBD.out n hn; omega) q3
        have HCN : Hid (cameS s seq = ⟨s.client, s.next, L⟩) := by show _ = _; rw [HCP.out, hL]
        have HLC : Hid (s.came = L) := hLc
        clear hL hLc
        have b0 := HB4.out.c0
        have b1 := HB4.out.c1
        have b2 := HB4.out.c2
        have bl := HB4.out.lt
        have z0 := HZ4.out.c0
        have z1 := HZ4.out.c1
        have z2 := HZ4.out.c2
        have zf := HZ4.out.fz
        have zl := HZ4.out.lt
        have HBP := (show Hid _ from HZ4.out.put s (.slice qa s.came.length qc))
        go_wp2_with fail
        have c0 := HBP.out.1.c0
        have c1 := HBP.out.1.c1
        have c2 := HBP.out.1.c2
        refine bodyPost_ret (v := .tuple #[stuV s (.slice qa s.came.length qc), .int .i64 0]) ?_ rfl ?_
        · simp only [results, Try.results13, go_sem, c0, c1, c2]
          simp [go_sem, c0, c1, c2]
        · rw [HE2.out, HCN.out, ← HLC.out]
          have hk0 := But.to HK4.out (by omega) HBP.out.2
          obtain ⟨g, hg, h1, _⟩ := HR4.out
          exact ⟨qa, qc, (hg.but HBP.out.2 (by omega)).kept, rfl, hk0⟩
      | false =>
        obtain ⟨L, hL⟩ : ∃ L, L = s.came.take p ++ seq :: s.came.drop p := ⟨_, rfl⟩
        have HCN : Hid (cameS s seq = ⟨s.client, s.next, L⟩) := by
          show _ = _
          rw [HCP.out, hL, camePut_ins (nx := s.next) HSO.out (fun n hn => by have := HBD.out n hn; omega) hq HP.out q3]
        obtain ⟨g, hg, hg1, hg2, hg3⟩ := HR4.out
        have b0 := HB4.out.c0
        have b1 := HB4.out.c1
        have b2 := HB4.out.c2
        have bl := HB4.out.lt
        go_wp2_with fail
        have k45 : Keeps w4 (w4.alloc (.cells #[.int .i64 seq] 3)) := (Keeps.refl _).alloc _
        have hv5 : (w4.alloc (.cells #[.int .i64 seq] 3)).heap[w4.heap.size]? = some (.cells #[.int .i64 seq] 3 (0, 0)) := heap_alloc_new w4 _
        have hs5 : (w4.alloc (.cells #[.int .i64 seq] 3)).heap.size = w4.heap.size + 1 := World.size_alloc _ _
        obtain ⟨w5, hw5⟩ : ∃ z, z = w4.alloc (.cells #[.int .i64 seq] 3) := ⟨_, rfl⟩
        rw [← hw5] at k45 hv5 hs5 ⊢
        clear hw5
        have HINS := (show Hid _ from insertI_c g w4.heap.size p s.came seq _ w5 (hg.keep k45) hpl hl60 hv5 (by have := HNB.out; omega))
        have HB5 := (show Hid _ from HB4.out.keep k45)
        have HZ5 := (show Hid _ from HZ4.out.keep k45)
        have HK5 : Hid (Keeps w w5) := HK4.out.trans k45
        have HG5 : Hid (w.heap.size + 2 ≤ g ∧ g ≠ nb ∧ nb < w5.heap.size ∧ w.heap.size + 1 < nb) := by
          have h1 := HNB.out
          have h2 := HS3.out
          exact ⟨hg1, hg2, by omega, by omega⟩
        clear hv5 hs5 k45 hg hg1 hg2 hg3 HR4 HI4 HK4 HZ4 HB4 HNB b0 b1 b2 bl
        refine Calls.mono HINS.out ?_
        rintro e w6 ⟨g', kv', hI', hor, rfl, hbut⟩
        rw [← hL] at hI'
        have hG5 := HG5.out
        have hB6 := HB5.out.other hbut (by omega)
        have hZ6 := HZ5.out.other hbut (by omega)
        have HK6 : Hid (Keeps w w6) := But.to HK5.out (by omega) hbut
        obtain ⟨ra, rc, rfl, _⟩ := RowAt.len hI'.kept
        have HI6 : Hid (IntsOn g' w6 (.slice ra L.length rc) L) := hI'
        have HG6 : Hid (g' ≠ nb ∧ g' ≠ w.heap.size + 1) := by
          rcases hor with e | e <;> exact ⟨by omega, by omega⟩
        have HZ6 := (show Hid _ from hZ6)
        have HB6 := (show Hid _ from hB6)
        have b0 := HB6.out.c0
        have b1 := HB6.out.c1
        have b2 := HB6.out.c2
        have bf := HB6.out.fz
        have bl := HB6.out.lt
        have z0 := HZ6.out.c0
        have z1 := HZ6.out.c1
        have z2 := HZ6.out.c2
        have zf := HZ6.out.fz
        have zl := HZ6.out.lt
        have hnz : nb ≠ w.heap.size + 1 := by omega
        have HBN : Hid (But nb w6 (w6.setCell ⟨nb, 2, none⟩ (.slice ra L.length rc))) := (But.refl _ _).set 2 _
        have HBP := (show Hid _ from (HZ6.out.other HBN.out (by omega)).put ⟨s.client, s.next, L⟩ (.slice ra L.length rc))
        have HWN : Hid (w.heap.size ≤ nb) := by show _ ≤ _; omega
        clear hG5 hB6 hZ6 hbut hI' hor HB5 HZ5 HK5 HINS hL
        go_wp2_with fail
        have c0 := HBP.out.1.c0
        have c1 := HBP.out.1.c1
        have c2 := HBP.out.1.c2
        refine bodyPost_ret (v := .tuple #[stuV ⟨s.client, s.next, L⟩ (.slice ra L.length rc), .int .i64 0]) ?_ rfl ?_
        · simp only [results, Try.results13, go_sem, c0, c1, c2]
          simp [go_sem, c0, c1, c2]
        · rw [HE2.out, HCN.out]
          exact ⟨ra, rc, ((HI6.out.but HBN.out HG6.out.1).but HBP.out.2 HG6.out.2).kept, rfl, But.to (But.to HK6.out HWN.out HBN.out) (by omega) HBP.out.2⟩
end Go.Proofs.Yteabfjpajgakiag

/- stub.Next. -/
set_option linter.unusedSimpArgs false
set_option linter.unusedVariables false
set_option maxRecDepth 10000
namespace Go.Proofs.Yteabfjpajgakiag
open Go.RowKit

def nextErr (s : Stu) (time : Int) (o : Int × Int × Int × Int) : Int := if stuErr s == 0 then entErr (stuCall s time s.next o) else stuErr s
def nextS (s : Stu) (time : Int) (o : Int × Int × Int × Int) : Stu := if nextErr s time o == 0 then ⟨s.client, s.next + 1, s.came⟩ else zeroStu
def nextE (s : Stu) (time : Int) (o : Int × Int × Int × Int) : Ent := if nextErr s time o == 0 then stuCall s time s.next o else zeroE

set_option maxHeartbeats 4000000 in
theorem stub_next (s : Stu) (time o0 o1 o2 o3 : Int) (t : Value) (w : World) (h : IntsAt w t s.came) : Calls Try.prog 6 #[stuV s t, .int .i64 time, opV o0 o1 o2 o3] w fun e w' => ∃ ra rc, IntsAt w' (.slice ra (nextS s time (o0, o1, o2, o3)).came.length rc) (nextS s time (o0, o1, o2, o3)).came ∧ e = .returned (.tuple #[stuV (nextS s time (o0, o1, o2, o3)) (.slice ra (nextS s time (o0, o1, o2, o3)).came.length rc), entV (nextE s time (o0, o1, o2, o3)), .int .i64 (nextErr s time (o0, o1, o2, o3))]) ∧ Keeps w w' := by
  obtain ⟨ta, tc, rfl, hlen⟩ := RowAt.len h
  unfold maxLen at hlen
  have HI : Hid (IntsAt w (.slice ta s.came.length tc) s.came) := h
  have HE : Hid (nextErr s time (o0, o1, o2, o3) = if stuErr s == 0 then entErr (stuCall s time s.next (o0, o1, o2, o3)) else stuErr s) := rfl
  have HNZ : Hid ((nextErr s time (o0, o1, o2, o3) == 0) = false → nextS s time (o0, o1, o2, o3) = zeroStu ∧ nextE s time (o0, o1, o2, o3) = zeroE) := fun h => ⟨by unfold nextS; rw [h]; rfl, by unfold nextE; rw [h]; rfl⟩
  have HNO : Hid (nextErr s time (o0, o1, o2, o3) = 0 → nextErr s time (o0, o1, o2, o3) = entErr (stuCall s time s.next (o0, o1, o2, o3)) → nextS s time (o0, o1, o2, o3) = ⟨s.client, s.next + 1, s.came⟩ ∧ nextE s time (o0, o1, o2, o3) = callE (stuCall s time s.next (o0, o1, o2, o3))) := fun h h2 => ⟨by unfold nextS; rw [h]; rfl, by unfold nextE callE; rw [← h2, h]⟩
  generalize nextErr s time (o0, o1, o2, o3) = er at *
  generalize nextS s time (o0, o1, o2, o3) = ns at *
  generalize nextE s time (o0, o1, o2, o3) = ne at *
  have HCA : Hid (∀ W, Keeps w W → Calls Try.prog 21 #[stuV s (.slice ta s.came.length tc), .int .i64 time, .int .i64 s.next, opV o0 o1 o2 o3] W fun e w' => e = .returned (.tuple #[entV (callE (stuCall s time s.next (o0, o1, o2, o3))), .int .i64 (entErr (stuCall s time s.next (o0, o1, o2, o3)))]) ∧ Keeps W w') := fun W hk => stub_call s time s.next o0 o1 o2 o3 _ W (HI.out.keep hk)
  generalize callE (stuCall s time s.next (o0, o1, o2, o3)) = ce at *
  generalize entErr (stuCall s time s.next (o0, o1, o2, o3)) = ee at *
  clear h
  go_enter Try.func6, Try.ntmps6
  go_wp2_with fail
  obtain ⟨W1, hW1⟩ : ∃ W1, W1 = (((w.alloc (.cells #[.int .i64 s.client, .int .i64 s.next, .slice ta s.came.length tc] 24)).alloc (.cells #[.int .i64 o0, .int .i64 o1, .int .i64 o2, .int .i64 o3] 26)).alloc (.cells #[.int .i64 0, .int .i64 0, .slice none 0 0] 24)).alloc (.cells #[.int .i64 0, .int .i64 0, .int .i64 0, .int .i64 0, .int .i64 0, .int .i64 0, .int .i64 0, .int .i64 0, .int .i64 0] 28) := ⟨_, rfl⟩
  have k1 : Keeps w W1 := by rw [hW1]; exact ((((Keeps.refl _).alloc _).alloc _).alloc _).alloc _
  have B1 : StuBox w.heap.size s (.slice ta s.came.length tc) W1 := by rw [hW1]; exact (StuBox.new w s _ rfl 24).keep ((((Keeps.refl _).alloc _).alloc _).alloc _)
  have O1 : W1.cell? ⟨w.heap.size + 1, 0, none⟩ = some (.int .i64 o0) ∧ W1.cell? ⟨w.heap.size + 1, 1, none⟩ = some (.int .i64 o1) ∧ W1.cell? ⟨w.heap.size + 1, 2, none⟩ = some (.int .i64 o2) ∧ W1.cell? ⟨w.heap.size + 1, 3, none⟩ = some (.int .i64 o3) := by rw [hW1]; refine ⟨?_, ?_, ?_, ?_⟩ <;> simp [go_sem]
  have Z1 : StuBox (w.heap.size + 1 + 1) zeroStu (.slice none 0 0) W1 := by
    rw [hW1]
    have := (StuBox.new ((w.alloc (.cells #[.int .i64 s.client, .int .i64 s.next, .slice ta s.came.length tc] 24)).alloc (.cells #[.int .i64 o0, .int .i64 o1, .int .i64 o2, .int .i64 o3] 26)) zeroStu (.slice none 0 0) rfl 24).keep ((Keeps.refl _).alloc (.cells #[.int .i64 0, .int .i64 0, .int .i64 0, .int .i64 0, .int .i64 0, .int .i64 0, .int .i64 0, .int .i64 0, .int .i64 0] 28))
    simp only [World.size_alloc] at this
    exact this
  have Y1 : EBox (w.heap.size + 1 + 1 + 1) zeroE W1 := by
    rw [hW1]
    have := EBox.new (((w.alloc (.cells #[.int .i64 s.client, .int .i64 s.next, .slice ta s.came.length tc] 24)).alloc (.cells #[.int .i64 o0, .int .i64 o1, .int .i64 o2, .int .i64 o3] 26)).alloc (.cells #[.int .i64 0, .int .i64 0, .slice none 0 0] 24)) zeroE 28
    simp only [World.size_alloc] at this
    exact this
  rw [← hW1]
  clear hW1
  obtain ⟨yb, hyb⟩ : ∃ yb, yb = w.heap.size + 1 + 1 + 1 := ⟨_, rfl⟩
  rw [← hyb] at Y1 ⊢
  obtain ⟨zb, hzb⟩ : ∃ zb, zb = w.heap.size + 1 + 1 := ⟨_, rfl⟩
  rw [← hzb] at Z1 ⊢
  have HZB : Hid (zb = w.heap.size + 2 ∧ yb = w.heap.size + 3) := ⟨by omega, by omega⟩
  have hyz : (yb = zb) = False := eq_false (by omega)
  have hzy : (zb = yb) = False := eq_false (by omega)
  clear hzb hyb
  refine (stub_check s _ W1 (HI.out.keep k1)).mono ?_
  rintro e w1 ⟨rfl, hb⟩
  have HK1 : Hid (Keeps w w1) := k1.trans hb
  have HB1 : Hid (StuBox w.heap.size s (.slice ta s.came.length tc) w1) := B1.keep hb
  have HO1 : Hid (w1.cell? ⟨w.heap.size + 1, 0, none⟩ = some (.int .i64 o0) ∧ w1.cell? ⟨w.heap.size + 1, 1, none⟩ = some (.int .i64 o1) ∧ w1.cell? ⟨w.heap.size + 1, 2, none⟩ = some (.int .i64 o2) ∧ w1.cell? ⟨w.heap.size + 1, 3, none⟩ = some (.int .i64 o3)) := ⟨cell_stays O1.1 hb, cell_stays O1.2.1 hb, cell_stays O1.2.2.1 hb, cell_stays O1.2.2.2 hb⟩
  have HZ1 : Hid (StuBox zb zeroStu (.slice none 0 0) w1) := Z1.keep hb
  have HY1 : Hid (EBox yb zeroE w1) := Y1.keep hb
  clear k1 B1 O1 Z1 Y1 hb
  clear W1
  cases q1 : (stuErr s == 0) with
  | false =>
    have q1' : (stuErr s != 0) = true := by simp [bne, q1]
    have HE2 : Hid (er = stuErr s) := by show _ = _; rw [HE.out, q1]; rfl
    have H1 := (show Hid _ from HNZ.out (by rw [HE2.out]; exact q1))
    have z0 := HZ1.out.c0
    have z1 := HZ1.out.c1
    have z2 := HZ1.out.c2
    have zf := HZ1.out.fz
    have zl := HZ1.out.lt
    have y0 := HY1.out.c0
    have y1 := HY1.out.c1
    have y2 := HY1.out.c2
    have y3 := HY1.out.c3
    have y4 := HY1.out.c4
    have y5 := HY1.out.c5
    have y6 := HY1.out.c6
    have y7 := HY1.out.c7
    have y8 := HY1.out.c8
    have yf := HY1.out.fz
    have yl := HY1.out.lt
    have hk := HK1.out
    go_wp2_with fail
    refine bodyPost_ret (v := .tuple #[stuV zeroStu (.slice none 0 0), entV zeroE, .int .i64 (stuErr s)]) ?_ rfl ?_
    · simp [results, Try.results6, go_sem, zeroStu, zeroE, z0, z1, z2, y0, y1, y2, y3, y4, y5, y6, y7, y8, hyz, hzy]
    · have hzz := HZB.out
      rw [HE2.out, H1.out.1, H1.out.2]
      refine ⟨none, 0, ints_nil _, rfl, ?_⟩
      repeat refine Keeps.set ?_ (by simp <;> omega) _
      exact hk
  | true =>
    have q1' : (stuErr s != 0) = false := by simp [bne, q1]
    have q0 : stuErr s = 0 := by simpa using q1
    obtain ⟨_, ⟨hn1, hn2⟩, hck⟩ := stu_right q0
    have hl60 : s.came.length ≤ 60 := by have := came_len hck (by omega); omega
    have HE2 : Hid (er = ee) := by show _ = _; rw [HE.out, q1]; rfl
    clear q0 hck
    obtain ⟨p0, p1, p2, p3⟩ := HO1.out
    have pl := World.block_lt_of_cell? _ _ p0
    simp only [] at pl
    have b0 := HB1.out.c0
    have b1 := HB1.out.c1
    have b2 := HB1.out.c2
    have bl := HB1.out.lt
    go_wp2_with fail
    refine (HCA.out w1 HK1.out).mono ?_
    rintro e w2 ⟨rfl, hb⟩
    have HK2 : Hid (Keeps w w2) := HK1.out.trans hb
    have HB2 : Hid (StuBox w.heap.size s (.slice ta s.came.length tc) w2) := HB1.out.keep hb
    have HZ2 : Hid (StuBox zb zeroStu (.slice none 0 0) w2) := HZ1.out.keep hb
    have HY2 : Hid (EBox yb zeroE w2) := HY1.out.keep hb
    clear hb p0 p1 p2 p3 pl b0 b1 b2 bl HB1 HO1 HZ1 HY1 HK1
    clear w1
    cases q2 : (ee == 0) with
    | false =>
      have q2' : (ee != 0) = true := by simp [bne, q2]
      have H1 := (show Hid _ from HNZ.out (by rw [HE2.out]; exact q2))
      have HK3 : Hid (Keeps w (w2.alloc (.cells #[.int .i64 ce.kind, .int .i64 ce.time, .int .i64 ce.client, .int .i64 ce.seq, .int .i64 ce.ack, .int .i64 ce.ok, .int .i64 ce.okey, .int .i64 ce.oto, .int .i64 ce.on] 28))) := HK2.out.alloc _
      have HZ3 := (show Hid _ from HZ2.out.keep ((Keeps.refl _).alloc (.cells #[.int .i64 ce.kind, .int .i64 ce.time, .int .i64 ce.client, .int .i64 ce.seq, .int .i64 ce.ack, .int .i64 ce.ok, .int .i64 ce.okey, .int .i64 ce.oto, .int .i64 ce.on] 28)))
      have HY3 := (show Hid _ from HY2.out.keep ((Keeps.refl _).alloc (.cells #[.int .i64 ce.kind, .int .i64 ce.time, .int .i64 ce.client, .int .i64 ce.seq, .int .i64 ce.ack, .int .i64 ce.ok, .int .i64 ce.okey, .int .i64 ce.oto, .int .i64 ce.on] 28)))
      have z0 := HZ3.out.c0
      have z1 := HZ3.out.c1
      have z2 := HZ3.out.c2
      have zf := HZ3.out.fz
      have zl := HZ3.out.lt
      have y0 := HY3.out.c0
      have y1 := HY3.out.c1
      have y2 := HY3.out.c2
      have y3 := HY3.out.c3
      have y4 := HY3.out.c4
      have y5 := HY3.out.c5
      have y6 := HY3.out.c6
      have y7 := HY3.out.c7
      have y8 := HY3.out.c8
      have yf := HY3.out.fz
      have yl := HY3.out.lt
      have hk := HK3.out
      go_wp2_with fail
      refine bodyPost_ret (v := .tuple #[stuV zeroStu (.slice none 0 0), entV zeroE, .int .i64 ee]) ?_ rfl ?_
      · simp [results, Try.results6, go_sem, zeroStu, zeroE, z0, z1, z2, y0, y1, y2, y3, y4, y5, y6, y7, y8, hyz, hzy]
      · have hzz := HZB.out
        rw [HE2.out, H1.out.1, H1.out.2]
        refine ⟨none, 0, ints_nil _, rfl, ?_⟩
        repeat refine Keeps.set ?_ (by simp <;> omega) _
        exact hk
    | true =>
      have q2' : (ee != 0) = false := by simp [bne, q2]
      have e0 : ee = 0 := by simpa using q2
      have HN := (show Hid _ from HNO.out (by rw [HE2.out, e0]) HE2.out)
      clear q2
      subst e0
      have b0 := HB2.out.c0
      have b1 := HB2.out.c1
      have b2 := HB2.out.c2
      have bl := HB2.out.lt
      go_wp2_with fail
      have E3 : EBox w2.heap.size ce (w2.alloc (.cells #[.int .i64 ce.kind, .int .i64 ce.time, .int .i64 ce.client, .int .i64 ce.seq, .int .i64 ce.ack, .int .i64 ce.ok, .int .i64 ce.okey, .int .i64 ce.oto, .int .i64 ce.on] 28)) := EBox.new w2 ce 28
      have k23 : Keeps w2 (w2.alloc (.cells #[.int .i64 ce.kind, .int .i64 ce.time, .int .i64 ce.client, .int .i64 ce.seq, .int .i64 ce.ack, .int .i64 ce.ok, .int .i64 ce.okey, .int .i64 ce.oto, .int .i64 ce.on] 28)) := (Keeps.refl _).alloc _
      obtain ⟨w3, hw3⟩ : ∃ z, z = w2.alloc (.cells #[.int .i64 ce.kind, .int .i64 ce.time, .int .i64 ce.client, .int .i64 ce.seq, .int .i64 ce.ack, .int .i64 ce.ok, .int .i64 ce.okey, .int .i64 ce.oto, .int .i64 ce.on] 28) := ⟨_, rfl⟩
      rw [← hw3] at E3 k23 ⊢
      clear hw3
      have h2z := HY2.out.lt
      obtain ⟨cb, hcb⟩ : ∃ cb, cb = w2.heap.size := ⟨_, rfl⟩
      rw [← hcb] at E3 h2z ⊢
      clear hcb
      have HK3 : Hid (Keeps w w3) := HK2.out.trans k23
      refine (twin_stub s _ w3 (HI.out.keep HK3.out) (by omega)).mono ?_
      rintro e w4 ⟨qa, qc, HOW, rfl, hb⟩
      have HK4 : Hid (Keeps w w4) := HK3.out.trans hb
      have HZ4 : Hid (StuBox zb zeroStu (.slice none 0 0) w4) := HZ2.out.keep (k23.trans hb)
      have HY4 : Hid (EBox yb zeroE w4) := HY2.out.keep (k23.trans hb)
      have HE4 : Hid (EBox cb ce w4) := E3.keep hb
      have HIG : Hid (∃ g, IntsOn g w4 (.slice qa s.came.length qc) s.came ∧ w.heap.size + 4 ≤ g ∧ True) := by
        obtain ⟨g, hg, h1, _⟩ := IntsOn.of_owns HOW.out
        have h2 := HZB.out
        have h5 := k23.size
        have h6 := HY2.out.lt
        exact ⟨g, hg, by omega, trivial⟩
      have HR4 : Hid (w.heap.size + 3 < w4.heap.size ∧ yb < cb ∧ cb < w4.heap.size) := by
        have h1 := HZB.out
        have h2 := HY4.out.lt
        exact ⟨by omega, by omega, HE4.out.lt⟩
      clear hb k23 E3 h2z HB2 HZ2 HY2 HK2 HK3 b0 b1 b2 bl
      go_wp2_with fail
      obtain ⟨W5, hW5⟩ : ∃ z, z = w4.alloc (.cells #[.int .i64 s.client, .int .i64 (s.next + 1), .slice qa s.came.length qc] 24) := ⟨_, rfl⟩
      have k45 : Keeps w4 W5 := by rw [hW5]; exact (Keeps.refl _).alloc _
      have HN5 : Hid (StuBox w4.heap.size ⟨s.client, s.next + 1, s.came⟩ (.slice qa s.came.length qc) W5) := by rw [hW5]; exact StuBox.new w4 ⟨s.client, s.next + 1, s.came⟩ _ rfl 24
      rw [← hW5]
      clear hW5
      obtain ⟨nb, hnb⟩ : ∃ nb, nb = w4.heap.size := ⟨_, rfl⟩
      rw [← hnb] at HN5 ⊢
      have HD : Hid (nb ≠ zb ∧ nb ≠ yb ∧ cb ≠ zb ∧ cb ≠ yb ∧ zb ≠ yb ∧ w.heap.size ≤ zb ∧ w.heap.size ≤ yb) := by
        have h1 := HR4.out
        have h2 := HZB.out
        exact ⟨by omega, by omega, by omega, by omega, by omega, by omega, by omega⟩
      have HZ5 : Hid (StuBox zb zeroStu (.slice none 0 0) W5) := HZ4.out.keep k45
      have HY5 : Hid (EBox yb zeroE W5) := HY4.out.keep k45
      have HE5 : Hid (EBox cb ce W5) := HE4.out.keep k45
      have HK5 : Hid (Keeps w W5) := HK4.out.trans k45
      have HI5 : Hid (∀ W, Keeps W5 W → ∀ W', But zb W W' → ∀ W'', But yb W' W'' → IntsAt W'' (.slice qa s.came.length qc) s.came) := by
        intro W hk W' h1 W'' h2
        obtain ⟨g, hg, hg1, _⟩ := HIG.out
        have h3 := HZB.out
        exact (((hg.keep (k45.trans hk)).but h1 (by omega)).but h2 (by omega)).kept
      clear k45 hnb HZ4 HY4 HE4 HK4
      have HSX : Hid (∀ W, StuBox nb ⟨s.client, s.next + 1, s.came⟩ (.slice qa s.came.length qc) W → EBox cb ce W → W.cell? ⟨nb, 0, none⟩ = some (.int .i64 s.client) ∧ W.cell? ⟨nb, 1, none⟩ = some (.int .i64 (s.next + 1)) ∧ W.cell? ⟨nb, 2, none⟩ = some (.slice qa s.came.length qc) ∧ W.cell? ⟨cb, 0, none⟩ = some (.int .i64 ce.kind) ∧ W.cell? ⟨cb, 1, none⟩ = some (.int .i64 ce.time) ∧ W.cell? ⟨cb, 2, none⟩ = some (.int .i64 ce.client) ∧ W.cell? ⟨cb, 3, none⟩ = some (.int .i64 ce.seq) ∧ W.cell? ⟨cb, 4, none⟩ = some (.int .i64 ce.ack) ∧ W.cell? ⟨cb, 5, none⟩ = some (.int .i64 ce.ok) ∧ W.cell? ⟨cb, 6, none⟩ = some (.int .i64 ce.okey) ∧ W.cell? ⟨cb, 7, none⟩ = some (.int .i64 ce.oto) ∧ W.cell? ⟨cb, 8, none⟩ = some (.int .i64 ce.on)) := fun W B C => ⟨B.c0, B.c1, B.c2, C.c0, C.c1, C.c2, C.c3, C.c4, C.c5, C.c6, C.c7, C.c8⟩
      have HSA : Hid (∀ W, Keeps W5 W → W.cell? ⟨nb, 0, none⟩ = some (.int .i64 s.client) ∧ W.cell? ⟨nb, 1, none⟩ = some (.int .i64 (s.next + 1)) ∧ W.cell? ⟨nb, 2, none⟩ = some (.slice qa s.came.length qc) ∧ W.cell? ⟨cb, 0, none⟩ = some (.int .i64 ce.kind) ∧ W.cell? ⟨cb, 1, none⟩ = some (.int .i64 ce.time) ∧ W.cell? ⟨cb, 2, none⟩ = some (.int .i64 ce.client) ∧ W.cell? ⟨cb, 3, none⟩ = some (.int .i64 ce.seq) ∧ W.cell? ⟨cb, 4, none⟩ = some (.int .i64 ce.ack) ∧ W.cell? ⟨cb, 5, none⟩ = some (.int .i64 ce.ok) ∧ W.cell? ⟨cb, 6, none⟩ = some (.int .i64 ce.okey) ∧ W.cell? ⟨cb, 7, none⟩ = some (.int .i64 ce.oto) ∧ W.cell? ⟨cb, 8, none⟩ = some (.int .i64 ce.on)) := fun W hk => HSX.out W (HN5.out.keep hk) (HE5.out.keep hk)
      obtain ⟨V0, hV0⟩ : ∃ z, z = W5.drew := ⟨_, rfl⟩
      have k0 : Keeps W5 V0 := by rw [hV0]; exact (Keeps.refl _).drew
      refine wp_region_held_drew (S := fun W => W.cell? ⟨nb, 0, none⟩ = some (.int .i64 s.client) ∧ W.cell? ⟨nb, 1, none⟩ = some (.int .i64 (s.next + 1)) ∧ W.cell? ⟨nb, 2, none⟩ = some (.slice qa s.came.length qc) ∧ W.cell? ⟨cb, 0, none⟩ = some (.int .i64 ce.kind) ∧ W.cell? ⟨cb, 1, none⟩ = some (.int .i64 ce.time) ∧ W.cell? ⟨cb, 2, none⟩ = some (.int .i64 ce.client) ∧ W.cell? ⟨cb, 3, none⟩ = some (.int .i64 ce.seq) ∧ W.cell? ⟨cb, 4, none⟩ = some (.int .i64 ce.ack) ∧ W.cell? ⟨cb, 5, none⟩ = some (.int .i64 ce.ok) ∧ W.cell? ⟨cb, 6, none⟩ = some (.int .i64 ce.okey) ∧ W.cell? ⟨cb, 7, none⟩ = some (.int .i64 ce.oto) ∧ W.cell? ⟨cb, 8, none⟩ = some (.int .i64 ce.on)) (by kernel_rfl) (HSA.out _ (Keeps.refl _).drew) (fun hS => ?_)
      rw [← hV0] at hS ⊢
      clear hV0
      refine wpAnyH_take (i := 0) (v := .agg #[.int .i64 s.client, .int .i64 (s.next + 1), .slice qa s.came.length qc]) rfl (by kernel_rfl) (by kernel_rfl) (by kernel_rfl) (fun _ _ _ h => h) (Or.inl ⟨by rfl, ?_⟩) hS ?_
      · intro w hS; go_simp
      refine wpAnyH_take (i := 1) (v := entV ce) rfl (by kernel_rfl) (by kernel_rfl) (by kernel_rfl) (fun _ _ _ h => h) (Or.inl ⟨by rfl, ?_⟩) hS ?_
      · intro w hS; go_simp
      refine wpAnyH_ready (rs := [2]) (by kernel_rfl) (by simp) ?_
      refine AllReadyH.cons rfl (fun K hK => ?_) (AllReadyH.nil)
      have z0 := (HZ5.out.keep k0).c0
      have z1 := (HZ5.out.keep k0).c1
      have z2 := (HZ5.out.keep k0).c2
      have zf := (HZ5.out.keep k0).fz
      have zl := (HZ5.out.keep k0).lt
      go_simp
      have BP := (HZ5.out.keep k0).put ⟨s.client, s.next + 1, s.came⟩ (.slice qa s.came.length qc)
      obtain ⟨WF, hWF⟩ : ∃ z, z = ((V0.setCell ⟨zb, 0, none⟩ (.int .i64 s.client)).setCell ⟨zb, 1, none⟩ (.int .i64 (s.next + 1))).setCell ⟨zb, 2, none⟩ (.slice qa s.came.length qc) := ⟨_, rfl⟩
      rw [← hWF] at BP ⊢
      clear hWF z0 z1 z2 zf zl
      have hd := HD.out
      have HYF : Hid (EBox yb zeroE WF) := (HY5.out.keep k0).other BP.2 (by omega)
      have HNF : Hid (StuBox nb ⟨s.client, s.next + 1, s.came⟩ (.slice qa s.came.length qc) WF) := (HN5.out.keep k0).other BP.2 (by omega)
      have HEF : Hid (EBox cb ce WF) := (HE5.out.keep k0).other BP.2 (by omega)
      have HKF : Hid (Keeps w WF) := But.to (HK5.out.trans k0) (by omega) BP.2
      have HBP := (show Hid _ from BP)
      clear BP hd
      refine hK.out _ _ (HSX.out _ HNF.out HEF.out) (fun hS => ?_)
      clear hK K
      refine wpAnyH_ready (rs := [3]) (by kernel_rfl) (by simp) ?_
      refine AllReadyH.cons rfl (fun K hK => ?_) (AllReadyH.nil)
      have y0 := HYF.out.c0
      have y1 := HYF.out.c1
      have y2 := HYF.out.c2
      have y3 := HYF.out.c3
      have y4 := HYF.out.c4
      have y5 := HYF.out.c5
      have y6 := HYF.out.c6
      have y7 := HYF.out.c7
      have y8 := HYF.out.c8
      have yf := HYF.out.fz
      have yl := HYF.out.lt
      go_simp
      have BQ := HYF.out.put ce
      obtain ⟨WG, hWG⟩ : ∃ z, z = (((((((((WF.setCell ⟨yb, 0, none⟩ (.int .i64 ce.kind)).setCell ⟨yb, 1, none⟩ (.int .i64 ce.time)).setCell ⟨yb, 2, none⟩ (.int .i64 ce.client)).setCell ⟨yb, 3, none⟩ (.int .i64 ce.seq)).setCell ⟨yb, 4, none⟩ (.int .i64 ce.ack)).setCell ⟨yb, 5, none⟩ (.int .i64 ce.ok)).setCell ⟨yb, 6, none⟩ (.int .i64 ce.okey)).setCell ⟨yb, 7, none⟩ (.int .i64 ce.oto)).setCell ⟨yb, 8, none⟩ (.int .i64 ce.on)) := ⟨_, rfl⟩
      rw [← hWG] at BQ ⊢
      clear hWG y0 y1 y2 y3 y4 y5 y6 y7 y8 yf yl
      have hd := HD.out
      have HZG : Hid (StuBox zb ⟨s.client, s.next + 1, s.came⟩ (.slice qa s.came.length qc) WG) := HBP.out.1.other BQ.2 (by omega)
      have HKG : Hid (Keeps w WG) := But.to HKF.out (by omega) BQ.2
      have HNG := HNF.out.other BQ.2 (by omega)
      have HEG := HEF.out.other BQ.2 (by omega)
      have HBQ := (show Hid _ from BQ)
      clear BQ hd
      refine hK.out _ _ (HSX.out _ HNG HEG) (fun hS => ?_)
      clear hK K HNG HEG
      refine wpAnyH_take (i := 4) (v := .int .i64 0) rfl (by kernel_rfl) (by kernel_rfl) (by kernel_rfl) (fun _ _ _ h => h) (Or.inl ⟨by rfl, ?_⟩) hS ?_
      · intro w hS; go_simp
      refine wpAnyH_done (by kernel_rfl) ?_ _
      go_wp2_with fail
      have c0 := HZG.out.c0
      have c1 := HZG.out.c1
      have c2 := HZG.out.c2
      have d0 := HBQ.out.1.c0
      have d1 := HBQ.out.1.c1
      have d2 := HBQ.out.1.c2
      have d3 := HBQ.out.1.c3
      have d4 := HBQ.out.1.c4
      have d5 := HBQ.out.1.c5
      have d6 := HBQ.out.1.c6
      have d7 := HBQ.out.1.c7
      have d8 := HBQ.out.1.c8
      refine bodyPost_ret (v := .tuple #[stuV ⟨s.client, s.next + 1, s.came⟩ (.slice qa s.came.length qc), entV ce, .int .i64 0]) ?_ rfl ?_
      · simp only [results, Try.results6, go_sem, c0, c1, c2, d0, d1, d2, d3, d4, d5, d6, d7, d8]
        simp [go_sem, c0, c1, c2, d0, d1, d2, d3, d4, d5, d6, d7, d8]
      · rw [HE2.out, HN.out.1, HN.out.2]
        exact ⟨qa, qc, HI5.out _ k0 _ HBP.out.2 _ HBQ.out.2, rfl, HKG.out⟩
end Go.Proofs.Yteabfjpajgakiag

/- Contracts of package op: more, and the steps. -/
namespace Go.Proofs.Yteabfjpajgakiag
open Go.RowKit

def upd (g : Nat → Int) (j : Nat) (x : Int) : Nat → Int := fun i => if i = j then x else g i
/-- Block b holds the four values g. -/
def Arr (b : Nat) (g : Nat → Int) (w : World) : Prop :=
  w.cell? ⟨b, 0, none⟩ = some (.int .i64 (g 0)) ∧ w.cell? ⟨b, 1, none⟩ = some (.int .i64 (g 1)) ∧ w.cell? ⟨b, 2, none⟩ = some (.int .i64 (g 2)) ∧ w.cell? ⟨b, 3, none⟩ = some (.int .i64 (g 3)) ∧ ∀ i, w.frozen? ⟨b, i, none⟩ = false

theorem four {key : Int} (h0 : 0 ≤ key) (h1 : key ≤ 3) : key = 0 ∨ key = 1 ∨ key = 2 ∨ key = 3 := by omega

theorem Arr.set {b : Nat} {g : Nat → Int} {w : World} (h : Arr b g w) (j : Nat) (x : Int) (hj : j < 4) : Arr b (upd g j x) (w.setCell ⟨b, j, none⟩ (.int .i64 x)) := by
  obtain ⟨h0, h1, h2, h3, hf⟩ := h
  have hj' : j = 0 ∨ j = 1 ∨ j = 2 ∨ j = 3 := by omega
  have o : ∀ i j : Nat, i ≠ j → (w.setCell ⟨b, j, none⟩ (.int .i64 x)).cell? ⟨b, i, none⟩ = w.cell? ⟨b, i, none⟩ := fun i j h => World.cell?_setCell_other _ _ _ _ (by intro e; injection e with _ e _; exact h e.symm)
  rcases hj' with rfl | rfl | rfl | rfl
  · exact ⟨World.cell?_setCell_same _ _ _ h0, (o _ _ (by decide)).trans h1, (o _ _ (by decide)).trans h2, (o _ _ (by decide)).trans h3, fun i => (World.frozen?_setCell _ _ _ _).trans (hf i)⟩
  · exact ⟨(o _ _ (by decide)).trans h0, World.cell?_setCell_same _ _ _ h1, (o _ _ (by decide)).trans h2, (o _ _ (by decide)).trans h3, fun i => (World.frozen?_setCell _ _ _ _).trans (hf i)⟩
  · exact ⟨(o _ _ (by decide)).trans h0, (o _ _ (by decide)).trans h1, World.cell?_setCell_same _ _ _ h2, (o _ _ (by decide)).trans h3, fun i => (World.frozen?_setCell _ _ _ _).trans (hf i)⟩
  · exact ⟨(o _ _ (by decide)).trans h0, (o _ _ (by decide)).trans h1, (o _ _ (by decide)).trans h2, World.cell?_setCell_same _ _ _ h3, fun i => (World.frozen?_setCell _ _ _ _).trans (hf i)⟩

theorem below_at (b j : Nat) (v : Value) (w : World) : Below b w (w.setCell ⟨b, j, none⟩ v) := (Below.refl _ _).setCell (p := ⟨b, j, none⟩) (Nat.le_refl _) v

theorem Arr.below {b : Nat} {g : Nat → Int} {w w' : World} (h : Arr b g w) (hk : Keeps w w') : Arr b g w' := by
  obtain ⟨h0, h1, h2, h3, hf⟩ := h
  have hb := World.block_lt_of_cell? _ _ h0
  have hc : ∀ i, w'.cell? ⟨b, i, none⟩ = w.cell? ⟨b, i, none⟩ := fun i => Below.cell hk (p := ⟨b, i, none⟩) hb
  exact ⟨(hc 0).trans h0, (hc 1).trans h1, (hc 2).trans h2, (hc 3).trans h3, fun i => (Below.frozen hk (p := ⟨b, i, none⟩) hb).trans (hf i)⟩

theorem more_c (b : Nat) (g : Nat → Int) (key n : Int) (w : World) (hk0 : 0 ≤ key) (hk3 : key ≤ 3) (hg0 : 0 ≤ g key.toNat) (hg1 : g key.toNat ≤ 999) (hn0 : -999 ≤ n) (hn1 : n ≤ 999) (h : Arr b g w) :
    Calls Try.prog 72 #[.pointer (some ⟨b, 0, none⟩), .int .i64 key, .int .i64 n] w fun e w' => e = .returned (.bool (inB (g key.toNat + n) 0 999)) ∧ w' = (w.setCell ⟨b, key.toNat, none⟩ (.int .i64 (g key.toNat + n))).drew := by
  obtain ⟨h0, h1, h2, h3, hf⟩ := h
  rcases four hk0 hk3 with rfl | rfl | rfl | rfl
  · simp only [show (0 : Int).toNat = 0 from rfl] at *
    have hs := World.cell?_setCell_same w ⟨b, 0, none⟩ (.int .i64 (g 0 + n)) h0
    go_enter Try.func72, Try.ntmps72
    go_wp2
    go_region
    all_goals go_wp2_with (go_at_call 76; refine (is_val _ _).mono ?_; rintro e w' ⟨rfl, rfl⟩)
    all_goals go_ret
    all_goals exact ⟨rfl, rfl⟩
  · simp only [show (1 : Int).toNat = 1 from rfl] at *
    have hs := World.cell?_setCell_same w ⟨b, 1, none⟩ (.int .i64 (g 1 + n)) h1
    go_enter Try.func72, Try.ntmps72
    go_wp2
    go_region
    all_goals go_wp2_with (go_at_call 76; refine (is_val _ _).mono ?_; rintro e w' ⟨rfl, rfl⟩)
    all_goals go_ret
    all_goals exact ⟨rfl, rfl⟩
  · simp only [show (2 : Int).toNat = 2 from rfl] at *
    have hs := World.cell?_setCell_same w ⟨b, 2, none⟩ (.int .i64 (g 2 + n)) h2
    go_enter Try.func72, Try.ntmps72
    go_wp2
    go_region
    all_goals go_wp2_with (go_at_call 76; refine (is_val _ _).mono ?_; rintro e w' ⟨rfl, rfl⟩)
    all_goals go_ret
    all_goals exact ⟨rfl, rfl⟩
  · simp only [show (3 : Int).toNat = 3 from rfl] at *
    have hs := World.cell?_setCell_same w ⟨b, 3, none⟩ (.int .i64 (g 3 + n)) h3
    go_enter Try.func72, Try.ntmps72
    go_wp2
    go_region
    all_goals go_wp2_with (go_at_call 76; refine (is_val _ _).mono ?_; rintro e w' ⟨rfl, rfl⟩)
    all_goals go_ret
    all_goals exact ⟨rfl, rfl⟩


theorem step_set (b : Nat) (g : Nat → Int) (k key tk n : Int) (w : World) (hk0 : 0 ≤ key) (hk3 : key ≤ 3) (h : Arr b g w) :
    Calls Try.prog 70 #[.pointer (some ⟨b, 0, none⟩), opV k key tk n] w fun e w' => e = .returned (.bool true) ∧ Below b w w' ∧ Arr b (upd g key.toNat n) w' := by
  have hb := World.block_lt_of_cell? _ _ h.1
  simp only [] at hb
  obtain ⟨h0, h1, h2, h3, hf⟩ := id h
  rcases four hk0 hk3 with rfl | rfl | rfl | rfl
  · go_enter Try.func70, Try.ntmps70
    go_wp2
    go_region
    all_goals go_wp2
    all_goals go_ret
    all_goals exact ⟨rfl, ((below_at b 0 _ w).alloc (by simp <;> omega) _).drew, (h.set 0 n (by decide)).below ((Keeps.refl _).alloc _).drew⟩
  · go_enter Try.func70, Try.ntmps70
    go_wp2
    go_region
    all_goals go_wp2
    all_goals go_ret
    all_goals exact ⟨rfl, ((below_at b 1 _ w).alloc (by simp <;> omega) _).drew, (h.set 1 n (by decide)).below ((Keeps.refl _).alloc _).drew⟩
  · go_enter Try.func70, Try.ntmps70
    go_wp2
    go_region
    all_goals go_wp2
    all_goals go_ret
    all_goals exact ⟨rfl, ((below_at b 2 _ w).alloc (by simp <;> omega) _).drew, (h.set 2 n (by decide)).below ((Keeps.refl _).alloc _).drew⟩
  · go_enter Try.func70, Try.ntmps70
    go_wp2
    go_region
    all_goals go_wp2
    all_goals go_ret
    all_goals exact ⟨rfl, ((below_at b 3 _ w).alloc (by simp <;> omega) _).drew, (h.set 3 n (by decide)).below ((Keeps.refl _).alloc _).drew⟩

theorem step_add (b : Nat) (g : Nat → Int) (k key tk n : Int) (w : World) (hk0 : 0 ≤ key) (hk3 : key ≤ 3) (hg0 : 0 ≤ g key.toNat) (hg1 : g key.toNat ≤ 999) (hn0 : -999 ≤ n) (hn1 : n ≤ 999) (h : Arr b g w) :
    Calls Try.prog 71 #[.pointer (some ⟨b, 0, none⟩), opV k key tk n] w fun e w' => e = .returned (.bool (inB (g key.toNat + n) 0 999)) ∧ Below b w w' ∧ Arr b (upd g key.toNat (g key.toNat + n)) w' := by
  have hb := World.block_lt_of_cell? _ _ h.1
  simp only [] at hb
  have hA := h.below ((Keeps.refl w).alloc (.cells #[.int .i64 k, .int .i64 key, .int .i64 tk, .int .i64 n] 26))
  go_enter Try.func71, Try.ntmps71
  go_wp2_with fail
  refine (more_c b g key n _ hk0 hk3 hg0 hg1 hn0 hn1 hA).mono ?_
  rintro e w2 ⟨rfl, hw⟩
  have hA3 : Arr b (upd g key.toNat (g key.toNat + n)) w2 := by
    subst hw; exact hA.set key.toNat _ (by omega)
  have hB : Below b w w2 := by
    subst hw; exact (((Below.refl _ _).alloc (Nat.le_of_lt hb) _).trans (below_at b _ _ _)).drew
  clear hw
  go_wp2_with fail
  go_ret
  exact ⟨rfl, hB, hA3⟩

theorem step_get (b : Nat) (g : Nat → Int) (k key tk n : Int) (w : World) (h : Arr b g w) :
    Calls Try.prog 74 #[.pointer (some ⟨b, 0, none⟩), opV k key tk n] w fun e w' => e = .returned (.bool true) ∧ Below b w w' ∧ Arr b g w' := by
  have hb := World.block_lt_of_cell? _ _ h.1
  simp only [] at hb
  go_enter Try.func74, Try.ntmps74
  go_wp2
  go_ret
  exact ⟨rfl, (Below.refl _ _).alloc (Nat.le_of_lt hb) _, h.below ((Keeps.refl w).alloc _)⟩

theorem step_move (b : Nat) (g : Nat → Int) (k key tk n : Int) (w : World) (hk0 : 0 ≤ key) (hk3 : key ≤ 3) (ht0 : 0 ≤ tk) (ht3 : tk ≤ 3) (hg : ∀ i, i < 4 → 0 ≤ g i ∧ g i ≤ 999) (hn0 : 0 ≤ n) (hn1 : n ≤ 999) (h : Arr b g w) :
    Calls Try.prog 73 #[.pointer (some ⟨b, 0, none⟩), opV k key tk n] w fun e w' => Below b w w' ∧ ∃ g', Arr b g' w' ∧
      e = .returned (.bool (inB (g key.toNat + -n) 0 999 && inB (upd g key.toNat (g key.toNat + -n) tk.toNat + n) 0 999)) ∧
      ((inB (g key.toNat + -n) 0 999 && inB (upd g key.toNat (g key.toNat + -n) tk.toNat + n) 0 999) = true → g' = upd (upd g key.toNat (g key.toNat + -n)) tk.toNat (upd g key.toNat (g key.toNat + -n) tk.toNat + n)) := by
  have hb := World.block_lt_of_cell? _ _ h.1
  simp only [] at hb
  have hkk := hg key.toNat (by omega)
  have htt := hg tk.toNat (by omega)
  have hA := h.below ((Keeps.refl w).alloc (.cells #[.int .i64 k, .int .i64 key, .int .i64 tk, .int .i64 n] 26))
  cases h1 : inB (g key.toNat + -n) 0 999 with
  | true =>
    have hu : 0 ≤ upd g key.toNat (g key.toNat + -n) tk.toNat ∧ upd g key.toNat (g key.toNat + -n) tk.toNat ≤ 999 := by
      simp only [inB, Bool.and_eq_true, decide_eq_true_eq] at h1
      unfold upd; split <;> omega
    have hA1 := hA.set key.toNat (g key.toNat + -n) (by omega)
    go_enter Try.func73, Try.ntmps73
    go_wp2_with fail
    refine (more_c b g key (-n) _ hk0 hk3 hkk.1 hkk.2 (by omega) (by omega) hA).mono ?_
    rintro e w' ⟨rfl, rfl⟩
    go_wp2_with fail
    have hA2 : Arr b (upd g key.toNat (g key.toNat + -n)) ((w.setCell ⟨b, key.toNat, none⟩ (.int .i64 (g key.toNat + -n))).alloc (.cells #[.int .i64 k, .int .i64 key, .int .i64 tk, .int .i64 n] 26)).drew :=
      (h.set key.toNat (g key.toNat + -n) (by omega)).below ((Keeps.refl _).alloc _).drew
    refine (more_c b _ tk n _ ht0 ht3 hu.1 hu.2 (by omega) hn1 hA2).mono ?_
    rintro e w2 ⟨rfl, hw⟩
    have hA3 : Arr b (upd (upd g key.toNat (g key.toNat + -n)) tk.toNat (upd g key.toNat (g key.toNat + -n) tk.toNat + n)) w2 := by
      subst hw; exact hA2.set tk.toNat _ (by omega)
    have hB : Below b w w2 := by
      subst hw; exact ((((below_at b _ _ _).alloc (by simp <;> omega) _).drew).trans (below_at b _ _ _)).drew
    clear hw
    go_wp2_with fail
    all_goals go_ret
    all_goals exact ⟨hB, _, hA3, by simp, fun _ => rfl⟩
  | false =>
    go_enter Try.func73, Try.ntmps73
    go_wp2_with fail
    refine (more_c b g key (-n) _ hk0 hk3 hkk.1 hkk.2 (by omega) (by omega) hA).mono ?_
    rintro e w2 ⟨rfl, hw⟩
    have hA3 : Arr b (upd g key.toNat (g key.toNat + -n)) w2 := by
      subst hw; exact hA.set key.toNat _ (by omega)
    have hB : Below b w w2 := by
      subst hw; exact (((Below.refl _ _).alloc (Nat.le_of_lt hb) _).trans (below_at b _ _ _)).drew
    clear hw
    go_wp2_with fail
    all_goals go_ret
    all_goals exact ⟨hB, _, hA3, by simp, fun h => by cases h⟩
end Go.Proofs.Yteabfjpajgakiag
