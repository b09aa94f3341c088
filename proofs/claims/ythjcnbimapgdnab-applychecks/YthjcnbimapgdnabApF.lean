/- Applying: slices.Insert of an answer. -/
import Derived.Test.YthjcnbimapgdnabApD2
import Derived.Deep.RegionLaw
import Derived.Lib.AppendZerosOnto
import Derived.Lib.Overlaps
import Derived.Laws.Externs
set_option linter.unusedSimpArgs false
set_option linter.unusedVariables false
set_option maxRecDepth 10000
namespace Go.Proofs.Ythjcnbimapgdnab
open Go.RowKit

theorem KeptOn.of_owns_at {base g n c : Nat} {w : World} {l : List (Int × Int)} (h : w.ownsRow base 78 2 (.slice (some ⟨g, 0, none⟩) n c) l.length (repCells l)) : KeptOn g w (.slice (some ⟨g, 0, none⟩) n c) l := by
  obtain ⟨g', hk, _⟩ := KeptOn.of_owns h
  rcases hk with ⟨e, _⟩ | ⟨cap, e, hr⟩
  · cases e
  · injection e with e1 e2 e3
    injection e1 with e1
    injection e1 with e1
    subst e1 e2 e3
    exact .inr ⟨_, rfl, hr⟩
theorem But.of_grown {g : Nat} {w w' : World} {row : Option Nat} (h : w.grownBy w' row) (hr : ∀ k, row = some k → k = g) : But g w w' :=
  ⟨h.os, h.tape, h.output, h.size, fun k hk hne => h.block k hk (fun e => hne (hr k e.symm))⟩

theorem vb_cells {w : World} {vb : Nat} {q x : Int} (hv : w.heap[vb]? = some (.cells #[.int .i64 q, .int .i64 x] 78 (0, 0))) : ∀ j u, [Value.int .i64 q, .int .i64 x][j]? = some u → w.cell? ((⟨vb, 0, none⟩ : Addr).add j) = some u := by
  intro j u hu
  rw [Addr.add_lit, Nat.zero_add]
  simp [World.cell?, hv]
  simpa using hu

/-- 'append(kept, answer)'. -/
theorem run_put_end (w : World) (g vb : Nat) (A : List (Int × Int)) (q x : Int) (kv : Value) (hk : KeptOn g w kv A) (h3 : A.length ≤ 3) (hv : w.heap[vb]? = some (.cells #[.int .i64 q, .int .i64 x] 78 (0, 0))) :
    ∃ g' kv' w', (Builtin.append_ #[46, 46] 46 #[kv, .slice (some ⟨vb, 0, none⟩) 1 1]).run Try.prog w = .ok kv' w' ∧ KeptOn g' w' kv' (A ++ [(q, x)]) ∧ (g' = g ∨ w.heap.size ≤ g') ∧ But g w w' := by
  obtain ⟨i, hi, hz, hs, hb⟩ := info_parts infoRep
  have hl : [Value.int .i64 q, .int .i64 x].length = 1 * 2 := rfl
  have h1 : ∀ u ∈ [Value.int .i64 q, .int .i64 x], u.oneCell' = true := by intro u hu; simp at hu; rcases hu with rfl | rfl <;> rfl
  have hc := vb_cells hv
  have happ : repCells A ++ [Value.int .i64 q, .int .i64 x] = repCells (A ++ [(q, x)]) := by rw [repCells_append]; rfl
  rcases hk with ⟨rfl, rfl⟩ | ⟨cap, rfl, hr⟩
  · obtain ⟨v', w', hrun, ho, hg, _⟩ := run_append_own (P := Try.prog) w w.heap.size 46 46 78 i _ 2 16 Try.underlying46 hi hz hs hb rfl (by decide) (.slice none 0 0) 0 [] (World.ownsRow_nil _ _ _ _) ⟨vb, 0, none⟩ 1 1 _ hl hc h1 (by unfold maxLen; omega) (by omega) (Nat.le_refl _)
    have ho' : w'.ownsRow w.heap.size 78 2 v' [(q, x)].length (repCells [(q, x)]) := ho
    obtain ⟨g', hk', hge, _⟩ := KeptOn.of_owns ho'
    exact ⟨g', v', w', hrun, hk', .inr hge, But.of_grown hg (fun k h => by cases h)⟩
  · have hown := KeptOn.owns (.inr ⟨cap, rfl, hr⟩ : KeptOn g w (.slice (some ⟨g, 0, none⟩) A.length cap) A)
    have hlt := hr.lt
    obtain ⟨v', w', hrun, ho, hg, _⟩ := run_append_own (P := Try.prog) w g 46 46 78 i _ 2 16 Try.underlying46 hi hz hs hb rfl (by decide) _ _ _ hown ⟨vb, 0, none⟩ 1 1 _ hl hc h1 (by unfold maxLen; omega) (by omega) (by omega)
    have hbut : But g w w' := But.of_grown hg (fun k h => by simp [Value.ownBlock] at h; exact h.symm)
    rw [happ] at ho
    have hlen : A.length + 1 = (A ++ [(q, x)]).length := by simp
    rw [hlen] at ho
    obtain ⟨cur, h1', h2, h3', h4, h5⟩ := hr
    by_cases hroom : A.length + 1 ≤ cap
    · have hr2 := run_append_room (P := Try.prog) w 46 46 78 i Try.underlying46 hi g A.length cap cur h1' ⟨vb, 0, none⟩ 1 1 _ (by rw [hs]; exact hl) hc h1 hroom (by rw [hs, h2]; simp; omega)
      rw [hrun] at hr2
      injection hr2 with e1 e2
      subst e1
      exact ⟨g, _, w', hrun, KeptOn.of_owns_at ho, .inl rfl, hbut⟩
    · have hr2 := run_append_grow (P := Try.prog) w 46 46 78 i _ Try.underlying46 hi hz ⟨g, 0, none⟩ A.length cap (repCells A) (by rw [hs, repCells_len]) (hown.cells (g := g) rfl) ⟨vb, 0, none⟩ 1 1 _ (by rw [hs]; exact hl) hc (by omega) (by omega) (by rw [hb]; exact growslice_fits (by omega) (by omega))
      rw [hrun] at hr2
      injection hr2 with e1 e2
      subst e1
      exact ⟨w.heap.size, _, w', hrun, KeptOn.of_owns_at ho, .inr (Nat.le_refl _), hbut⟩

/-- 'copy(d, s)' between rows of answers. -/
theorem run_copy_rep (w : World) (ty : TypeId) (b o dLen dCap : Nat) (a : Addr) (sLen sCap : Nat) (cs : List Value) (hn : cs.length = Nat.min sLen dLen * 2)
    (hsrc : ∀ j v, cs[j]? = some v → w.cell? (a.add j) = some v) (hc : ∀ j, j < cs.length → (w.cell? ⟨b, o + j, none⟩).isSome = true) (hf : ∀ j, j < cs.length → w.frozen? ⟨b, o + j, none⟩ = false) (h1 : ∀ v ∈ cs, v.oneCell' = true) :
    (Builtin.copy_ #[46, 46] ty #[.slice (some ⟨b, o, none⟩) dLen dCap, .slice (some a) sLen sCap]).run Try.prog w = .ok (goInt (Nat.min sLen dLen)) (w.setCells b o cs) := by
  have hl := run_loadCells_list (P := Try.prog) w a cs hsrc
  have hst := run_storeCells_cells (P := Try.prog) b o cs 0 w (by simpa using hc) (by simpa using hf) h1
  obtain ⟨i, hi, hz, hs, hb⟩ := info_parts infoRep
  simp [Builtin.copy_, run_underlying Try.underlying46, Builtin.lenOf, Builtin.firstCells, sizeOf, typeInfo, hi, hs, ← hn, hl, hst]

/-- .. as a step of the walk. -/
theorem wpList_copy_run {P : Program} {w w' : World} {ops : Array Oper} {rest : List Oper} {o : Oper} {a : Act} {Q : Exit → Act → World → Prop} {v x v' : Value} (hgd : o.guard = none) (s y : Operand) (t : TypeId)
    (ho : o.op = .call { callee := .builtin .copy, args := #[s, y], argTypes := #[t, t] }) (hs : a.eval s = v) (hx : a.eval y = x)
    (hr : (Builtin.copy_ #[t, t] o.type #[v, x]).run P w = .ok v' w') (h : wpList P ops Q rest (a.put o.dst v') w') : wpList P ops Q (o :: rest) a w := by
  refine wpList_plain hgd fun K hK => ?_
  unfold Oper.wp
  simp [execOp, ho, resolve, invoke, builtin, hs, hx, hr, Result.andThen]
  exact hK _ _ h
/-- .. and as a step of a region that draws. -/
theorem step_copy_run {P : Program} {ops : Array Oper} {o : Oper} {a : Act} {w w' : World} {K : Act → World → Prop} {Q : Exit → Act → World → Prop} {E : Prop} {v x v' : Value} (hgd : o.guard = none) (s y : Operand) (t : TypeId)
    (ho : o.op = .call { callee := .builtin .copy, args := #[s, y], argTypes := #[t, t] }) (hs : a.eval s = v) (hx : a.eval y = x)
    (hr : (Builtin.copy_ #[t, t] o.type #[v, x]).run P w = .ok v' w') (hK : K (a.put o.dst v') w') : if Region.wanted o (yielded ops a.tmps) = true then Oper.wp P o a w K Q else E := by
  have hw : Region.wanted o (yielded ops a.tmps) = true := by simp [Region.wanted, hgd]
  rw [if_pos hw]
  unfold Oper.wp
  simp [execOp, ho, resolve, invoke, builtin, hs, hx, hr, Result.andThen]
  exact hK

theorem insert_end (g vb : Nat) (A : List (Int × Int)) (q x : Int) (kv : Value) (w : World) (hk : KeptOn g w kv A) (h3 : A.length ≤ 3) (hv : w.heap[vb]? = some (.cells #[.int .i64 q, .int .i64 x] 78 (0, 0))) :
    Calls Try.prog 85 #[kv, .int .i64 A.length, .slice (some ⟨vb, 0, none⟩) 1 1] w fun e w' => ∃ g' kv', KeptOn g' w' kv' (A ++ [(q, x)]) ∧ (g' = g ∨ w.heap.size ≤ g') ∧ e = .returned kv' ∧ But g w w' := by
  obtain ⟨g', kv', w', hr, hk', hor, hb⟩ := run_put_end w g vb A q x kv hk h3 hv
  have Hr := (show Hid (_ = _) from hr)
  obtain ⟨ka, kc, rfl, hlen⟩ := hk.kept.len
  have hcap : A.length ≤ kc ∧ kc ≤ maxLen := by
    rcases hk with ⟨e, h⟩ | ⟨cap, e, cur, _, _, h4, h5, _⟩
    · injection e with _ _ e; rw [h, e]; exact ⟨Nat.le_refl _, by unfold maxLen; omega⟩
    · injection e with _ _ e; rw [repCells_len] at h5; subst e; exact ⟨by omega, h4⟩
  obtain ⟨hc1, hc2⟩ := hcap
  unfold maxLen at hc2
  clear hr hk hv
  generalize A.length = n at *
  go_enter Try.func85, Try.ntmps85
  go_wp2_with (at_builtin; refine wpList_append_run rfl _ _ _ rfl rfl rfl Hr.out ?_)
  all_goals go_ret
  all_goals exact ⟨g', kv', hk', hor, rfl, hb⟩

theorem over_no (w : World) (g vb o lb cb cap : Nat) (q x : Int) (xs : List Value) (hr : RepRow w g cap xs) (hc : 0 < cap) (hv : w.heap[vb]? = some (.cells #[.int .i64 q, .int .i64 x] 78 (0, 0))) (hne : vb ≠ g) :
    (callFunc 87 #[.slice (some ⟨vb, 0, none⟩) 1 1, .slice (some ⟨g, o, none⟩) lb cb]).run Try.prog w = .ok (.value (.bool false)) w := by
  obtain ⟨cur, h1, h2, _⟩ := hr
  have hz : ∀ w, (Go.sizeOf 78).run Try.prog w = .ok 2 w := fun _ => by kernel_rfl
  rw [run_callFunc_extern Try.func87 (by kernel_rfl) (by kernel_rfl) (by kernel_rfl) (e := Extern.SlicesOverlaps.overlaps #[46, 46] #[4]) (by kernel_rfl),
    Lib.run_overlaps_apart w 46 4 78 Try.underlying46 2 hz ⟨vb, 0, none⟩ ⟨g, o, none⟩ 1 1 lb cb hne 78 78 2 cur.size (by simp [World.shape?, hv]) (by simp [World.shape?, h1]) (by omega) (by simp [World.frozen?, hv]) (by simp [World.frozen?, hv])]
  rfl
end Go.Proofs.Ythjcnbimapgdnab
