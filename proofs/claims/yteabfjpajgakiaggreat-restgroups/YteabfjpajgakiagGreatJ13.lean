/- FoE, FoF, FoG, Swap, Pre, StG. -/
import Derived.StillTail
import Derived.Test.YteabfjpajgakiagGreatJ00
import Derived.Test.YteabfjpajgakiagGreatJ01
import Derived.Test.YteabfjpajgakiagGreatJ02
import Derived.Test.YteabfjpajgakiagGreatJ12
/- fold.All. -/
set_option linter.unusedSimpArgs false
set_option linter.unusedVariables false
set_option maxRecDepth 10000
namespace Go.Proofs.YteabfjpajgakiagGreat
open Go.RowKit Go.Shelf
attribute [local go_sem] Oper.semAt_some

def allSt (s : St) (L : List Ent) : St := if foldErr s L == 0 then runSt s L else zeroSt
def allAns (s : St) (L : List Ent) : List Int := if foldErr s L == 0 then runAns s L else []


theorem fold_right {s : St} {L : List Ent} (h : foldErr s L = 0) : stErr s = 0 ∧ (∀ e ∈ L, entErr e = 0) ∧ s.at_ + L.length ≤ 50 := by
  unfold foldErr at h
  split at h
  · rename_i h1
    split at h
    · rename_i h2
      split at h
      · cases h
      · rename_i h3
        refine ⟨by simpa using h1, ?_, by omega⟩
        have h2' : listErr L = 0 := by simpa using h2
        unfold listErr at h2'
        split at h2'
        · cases h2'
        · exact fent_zero.1 h2'
    · rename_i h2
      simp [h] at h2
  · rename_i h1
    simp [h] at h1

theorem steps_made (s : St) (xa la : Option Addr) (xn xc ln lc : Nat) (w : World) :
    Calls Tryz.prog 71 #[stV s (.slice xa xn xc), .slice la ln lc] w fun y w' => y = .returned (.func (.func 87) #[] #[.pointer (some ⟨w.heap.size + 1, 0, none⟩), .pointer (some ⟨w.heap.size, 0, none⟩)]) ∧
      w' = (w.alloc (.cells #[.int .i64 s.at_, .int .i64 s.clock, .int .i64 s.v0, .int .i64 s.v1, .int .i64 s.v2, .int .i64 s.v3, .slice xa xn xc] 25)).alloc (.cells #[.slice la ln lc] 26) := by
  go_enter Tryz.func71, Tryz.ntmps71
  go_wp2_with fail
  go_ret
  exact ⟨rfl, rfl⟩

/-- A variable of one cell. -/
def OneBox (b : Nat) (v : Value) (w : World) : Prop := w.cell? ⟨b, 0, none⟩ = some v ∧ ∀ i, w.frozen? ⟨b, i, none⟩ = false
theorem OneBox.lt {b : Nat} {v : Value} {w : World} (h : OneBox b v w) : b < w.heap.size := World.block_lt_of_cell? _ _ h.1
theorem OneBox.same {b : Nat} {v : Value} {w w' : World} (h : OneBox b v w) (he : w'.heap[b]? = w.heap[b]?) : OneBox b v w' := ⟨(World.cell?_of_block he).trans h.1, fun i => (World.frozen?_of_block he).trans (h.2 i)⟩
theorem OneBox.set {b : Nat} {v : Value} {w : World} (h : OneBox b v w) (u : Value) : OneBox b u (w.setCell ⟨b, 0, none⟩ u) := ⟨World.cell?_setCell_same _ _ _ h.1, fun i => (World.frozen?_setCell _ _ _ _).trans (h.2 i)⟩

/-- What stands between two rounds of All's loop. -/
structure AllAt (s : St) (L : List Ent) (w w2 : World) (p : Nat → Prop) (bl ba D l n1 : Nat) (r : Loop) (i : Nat) (W : World) : Prop where
  last : ∃ v, StBox bl (runSt s (L.take i)) v W ∧ ∀ W', Spares p W W' → OwnTab w.heap.size W' v (runSt s (L.take i)).tab
  ans : ∃ av, OneBox ba av W ∧ W.ownsRow n1 3 1 av (runAns s (L.take i)).length (intCells (runAns s (L.take i)))
  loop : W.heap[l]? = some (.loop r)
  mark : W.heap[D]? = some (.deferred (some []))
  keeps : Keeps w2 W

theorem AllAt.but {s : St} {L : List Ent} {w w2 : World} {p : Nat → Prop} {bl ba bS D l n1 : Nat} {r : Loop} {i : Nat} {W W' : World} (h : AllAt s L w w2 p bl ba D l n1 r i W) (hb : But bS W W') (h0 : ¬ p bS) (h1 : bl ≠ bS) (h2 : ba ≠ bS) (h3 : D ≠ bS) (h4 : l ≠ bS) (h5 : bS < n1) (h6 : w2.heap.size ≤ bS) :
    AllAt s L w w2 p bl ba D l n1 r i W' := by
  obtain ⟨v, hv, ho⟩ := h.last
  obtain ⟨av, ha, hr⟩ := h.ans
  exact ⟨⟨v, hv.other hb h1, fun W2 h2 => ho W2 ((Spares.but hb h0).trans h2)⟩, ⟨av, ha.same (hb.block ba ha.lt h2), owns_far hr h5 hb⟩, (hb.block l (Array.getElem?_eq_some_iff.1 h.loop).1 h4).trans h.loop, (hb.block D (Array.getElem?_eq_some_iff.1 h.mark).1 h3).trans h.mark, But.to h.keeps h6 hb⟩

theorem But.put (w : World) (b : Nat) (o : Obj) : But b w (w.putObj b o) := ⟨rfl, rfl, rfl, by simp, fun k _ hne => World.putObj_heap_other hne⟩
theorem StBox.slice {b n c : Nat} {s : St} {a : Option Addr} {w : World} (h : StBox b s (.slice a n c) w) : w.cell? ⟨b, 6, none⟩ = some (.slice a n c) := h.c6

/-- An append of a number to a row of its own. -/
theorem app_int {F : Fence} {n : Nat} {ops : Array Oper} {rest : List Oper} {o : Oper} {a : Act} {Q : Exit → Act → World → Prop} (w : World) (hg : o.guard = none) (s x : Operand) (hop : o.op = Op.call { callee := Callee.builtin Builtin.append, args := #[s, x], argTypes := #[84, 84] })
    (base : Nat) (v : Value) (k : Nat) (xs : List Value) (hs : a.eval s = v) (hown : w.ownsRow base 3 1 v k xs) (b : Nat) (an : Int) (hx : a.eval x = .slice (some ⟨b, 0, none⟩) 1 1) (hc : w.cell? ⟨b, 0, none⟩ = some (.int .i64 an)) (hk : k ≤ 1000) (hb : base ≤ w.heap.size)
    (hK : ∀ v' w', w'.ownsRow base 3 1 v' (k + 1) (xs ++ [.int .i64 an]) → w.grownBy w' v.ownBlock → wpListIn F n Tryz.prog ops Q rest (a.put o.dst v') w') : wpListIn F n Tryz.prog ops Q (o :: rest) a w := by
  obtain ⟨i0, hi0, hz0, hz01, hz02⟩ := info_parts infoInt
  refine wpListIn_append_own w hg s x 84 hop base 3 i0 (.int .i64 0) 1 8 Tryz.underlying84 hi0 hz0 hz01 hz02 rfl (by decide) v k xs hs hown ⟨b, 0, none⟩ 1 1 [.int .i64 an] hx rfl ?_ (by simp [Value.oneCell']) (by unfold maxLen; omega) (by omega) hb (fun v' w' h1 h2 _ => hK v' w' h1 h2)
  intro j u hu
  match j, hu with
  | 0, hu => cases hu; exact hc

/-- Behind an append to a row of its own: the box where it is to be stored, and the other one. -/
theorem stands {bl ba n1 : Nat} {t : St} {tv v v' : Value} {W w3 : World} {o : Obj} {m : Nat} {xs : List Value} (hL : StBox bl t tv W) (hA : OneBox ba v W) (hown' : w3.ownsRow n1 3 1 v' m xs) (hg : (W.alloc o).grownBy w3 v.ownBlock) (h1 : ba < n1) (hv : ∀ k, v.ownBlock = some k → n1 ≤ k) :
    ∃ ga gc, v' = .slice ga m gc ∧ w3.cell? ⟨ba, 0, none⟩ = some v ∧ ∀ i, w3.frozen? ⟨ba, i, none⟩ = false := by
  obtain ⟨ga, gc, h, _⟩ := (RowAt.of_owns hown').len
  have hb : w3.heap[ba]? = W.heap[ba]? := (hg.block ba (by have := hA.lt; simp; omega) (fun e => by have := hv _ e.symm; omega)).trans (Below.heap_alloc _ _ _ hA.lt)
  have := hA.same hb
  exact ⟨ga, gc, h, this.1, this.2⟩

set_option maxHeartbeats 1000000 in
theorem fold_all (s : St) (L : List Ent) (x v : Value) (w : World) (hT : TabAt w x s.tab) (hL : EntsAt w v L) :
    Calls Tryz.prog 51 #[stV s x, v] w fun y w' => ∃ x' av, OwnTab w.heap.size w' x' (allSt s L).tab ∧ w'.ownsRow w.heap.size 3 1 av (allAns s L).length (intCells (allAns s L)) ∧ y = .returned (.tuple #[stV (allSt s L) x', av, .int .i64 (foldErr s L)]) ∧ Keeps w w' := by
  obtain ⟨xa, xc, rfl, _⟩ := hT.len
  obtain ⟨la, lc, rfl, hlen⟩ := hL.len
  unfold maxLen at hlen
  have HT : Hid (TabAt w (.slice xa s.tab.length xc) s.tab) := hT
  have HL : Hid (EntsAt w (.slice la L.length lc) L) := hL
  have HS : Hid (allSt s L = if foldErr s L == 0 then runSt s L else zeroSt) := rfl
  have HA : Hid (allAns s L = if foldErr s L == 0 then runAns s L else []) := rfl
  have HZT : Hid (zeroSt.tab = []) := rfl
  clear hT hL
  refine (callsIn_wide (n := 3)).1 ?_
  refine callsIn_of_wp_marks Tryz.func51 rfl trivial ?_ rfl
  simp only [Tryz.ntmps51, List.size_toArray, List.length_cons, List.length_nil, Nat.reduceAdd, Nat.reduceSub, Array.replicate_succ, Array.replicate_zero, List.push_toArray, List.append_toArray, List.nil_append, List.cons_append]
  gi_wp2
  obtain ⟨W1, hW1⟩ : ∃ W1, W1 = (w.alloc (.cells #[.int .i64 s.at_, .int .i64 s.clock, .int .i64 s.v0, .int .i64 s.v1, .int .i64 s.v2, .int .i64 s.v3, .slice xa s.tab.length xc] 25)).alloc (.cells #[.int .i64 0, .int .i64 0, .int .i64 0, .int .i64 0, .int .i64 0, .int .i64 0, .slice none 0 0] 25) := ⟨_, rfl⟩
  have k1 : Keeps w W1 := by rw [hW1]; exact ((Keeps.refl _).alloc _).alloc _
  have B1 : StBox w.heap.size s (.slice xa s.tab.length xc) W1 := by rw [hW1]; exact (StBox.new w s _ 25).keep ((Keeps.refl _).alloc _)
  have Z1 : StBox (w.heap.size + 1) zeroSt (.slice none 0 0) W1 := by
    rw [hW1]
    have := StBox.new (w.alloc (.cells #[.int .i64 s.at_, .int .i64 s.clock, .int .i64 s.v0, .int .i64 s.v1, .int .i64 s.v2, .int .i64 s.v3, .slice xa s.tab.length xc] 25)) zeroSt (.slice none 0 0) 25
    simp only [World.size_alloc] at this
    exact this
  rw [← hW1]
  clear hW1
  refine ⟨trivial, CallsIn.mono (callsIn_wide.2 (fold_both s L _ _ W1 (HT.out.keep k1) (HL.out.keep k1))) ?_⟩
  rintro y w1 ⟨rfl, hb⟩
  have HK1 : Hid (Keeps w w1) := k1.trans hb
  have HB1 : Hid (StBox w.heap.size s (.slice xa s.tab.length xc) w1) := B1.keep hb
  have HZ1 : Hid (StBox (w.heap.size + 1) zeroSt (.slice none 0 0) w1) := Z1.keep hb
  clear k1 B1 Z1 hb
  clear W1
  cases q : (foldErr s L == 0) with
  | false =>
    have q' : (foldErr s L != 0) = true := by simp [bne, q]
    have H1 : Hid (allSt s L = zeroSt ∧ allAns s L = []) := ⟨by rw [HS.out, q]; rfl, by rw [HA.out, q]; rfl⟩
    have z0 := HZ1.out.c0
    have z1 := HZ1.out.c1
    have z2 := HZ1.out.c2
    have z3 := HZ1.out.c3
    have z4 := HZ1.out.c4
    have z5 := HZ1.out.c5
    have z6 := HZ1.out.c6
    have zf := HZ1.out.fz
    have zl := HZ1.out.lt
    have hk1 := HK1.out
    gi_wp2
    refine ⟨.tuple #[stV zeroSt (.slice none 0 0), .slice none 0 0, .int .i64 (foldErr s L)], ?_, ?_⟩
    · simp [results, Tryz.results51, go_sem, zeroSt, z0, z1, z2, z3, z4, z5, z6]
    · rw [H1.out.1, H1.out.2, HZT.out]
      refine ⟨.slice none 0 0, .slice none 0 0, OwnTab.nil _ _, World.ownsRow_nil _ _ _ _, rfl, ?_⟩
      repeat refine Keeps.set ?_ (by simp <;> omega) _
      exact hk1
  | true =>
    have q' : (foldErr s L != 0) = false := by simp [bne, q]
    have q0 : foldErr s L = 0 := by simpa using q
    obtain ⟨hs, hE, hroom⟩ := fold_right q0
    have H1 : Hid (allSt s L = runSt s L ∧ allAns s L = runAns s L ∧ foldErr s L = 0) := ⟨by rw [HS.out, q]; rfl, by rw [HA.out, q]; rfl, q0⟩
    have HSR : Hid (stErr s = 0) := hs
    have HER : Hid (∀ e ∈ L, entErr e = 0) := hE
    have b0 := HB1.out.c0
    have b1 := HB1.out.c1
    have b2 := HB1.out.c2
    have b3 := HB1.out.c3
    have b4 := HB1.out.c4
    have b5 := HB1.out.c5
    have b6 := HB1.out.c6
    have bl := HB1.out.lt
    clear hs hE q0
    gi_wp2
    refine ⟨trivial, CallsIn.mono (callsIn_wide.2 (twin_right _ w1 (HT.out.keep HK1.out) HSR.out)) ?_⟩
    rintro y w2 ⟨x', ho, rfl, hb⟩
    obtain ⟨ta, tc, rfl, _⟩ := ho.tab.len
    have HK2 : Hid (Keeps w w2) := HK1.out.trans hb
    have HB2 : Hid (StBox w.heap.size s (.slice xa s.tab.length xc) w2) := HB1.out.keep hb
    have HZ2 : Hid (StBox (w.heap.size + 1) zeroSt (.slice none 0 0) w2) := HZ1.out.keep hb
    have HO2 : Hid (OwnTab w1.heap.size w2 (.slice ta s.tab.length tc) s.tab) := ho
    have hz1 : w.heap.size + 1 < w1.heap.size := HZ1.out.lt
    have hz12 : w1.heap.size ≤ w2.heap.size := hb.size
    clear ho hb b0 b1 b2 b3 b4 b5 b6 bl HK1 HB1 HZ1
    have b0 := HB2.out.c0
    have b1 := HB2.out.c1
    have b2 := HB2.out.c2
    have b3 := HB2.out.c3
    have b4 := HB2.out.c4
    have b5 := HB2.out.c5
    have b6 := HB2.out.c6
    have bl := HB2.out.lt
    gi_wp2
    obtain ⟨W4, hW4⟩ : ∃ z, z = (w2.alloc (.cells #[.int .i64 s.at_, .int .i64 s.clock, .int .i64 s.v0, .int .i64 s.v1, .int .i64 s.v2, .int .i64 s.v3, .slice ta s.tab.length tc] 25)).alloc (.cells #[.slice none 0 0] 84) := ⟨_, rfl⟩
    have hz4 : W4.heap.size = w2.heap.size + 2 := by rw [hW4]; simp
    have k24 : Keeps w2 W4 := by rw [hW4]; exact ((Keeps.refl _).alloc _).alloc _
    have L4 : StBox w2.heap.size s (.slice ta s.tab.length tc) W4 := by rw [hW4]; exact (StBox.new w2 s _ 25).keep ((Keeps.refl _).alloc _)
    have A4 : OneBox (w2.heap.size + 1) (.slice none 0 0) W4 := by rw [hW4]; exact ⟨by simp [go_sem], fun i => by simp [go_sem]⟩
    rw [← hW4]
    clear hW4
    refine ⟨trivial, CallsIn.mono (callsIn_wide.2 (steps_made s xa la s.tab.length xc L.length lc W4)) ?_⟩
    rintro y W5 ⟨rfl, hW5⟩
    have hz5 : W5.heap.size = w2.heap.size + 4 := by rw [hW5]; simp [hz4]
    have k45 : Keeps W4 W5 := by rw [hW5]; exact ((Keeps.refl _).alloc _).alloc _
    have S5 : StBox (w2.heap.size + 2) s (.slice xa s.tab.length xc) W5 := by
      rw [hW5, ← hz4]
      exact (StBox.new W4 s _ 25).keep ((Keeps.refl _).alloc _)
    have L5 : W5.cell? ⟨w2.heap.size + 3, 0, none⟩ = some (.slice la L.length lc) := by rw [hW5]; simp [go_sem, hz4]
    rw [hz4]
    have HL5 : Hid (StBox w2.heap.size s (.slice ta s.tab.length tc) W5) := L4.keep k45
    have HA5 : Hid (OneBox (w2.heap.size + 1) (.slice none 0 0) W5) := A4.same (k45.block _ A4.lt)
    have HS5 : Hid (StBox (w2.heap.size + 2) s (.slice xa s.tab.length xc) W5) := S5
    have HK5 : Hid (Keeps w2 W5) := k24.trans k45
    have HE5 : Hid (W5.cell? ⟨w2.heap.size + 3, 0, none⟩ = some (.slice la L.length lc)) := L5
    clear L4 A4 S5 L5 k24 k45 hW5 hz4 b0 b1 b2 b3 b4 b5 b6 bl
    clear W4
    gi_wp2
    refine range_walk rfl (by decide) (gf := 87) (lb := #[.pointer (some ⟨w2.heap.size + 2 + 1, 0, none⟩), .pointer (some ⟨w2.heap.size + 2, 0, none⟩)]) rfl trivial (enters_of Tryz.func87 (by kernel_rfl) rfl) ?_
    intro r hrf hrs hrp e1 e2 e3 e4
    have HRS : Hid (r.state = .ready) := hrs
    have HRP : Hid (r.pending = none) := hrp
    have hz6 : ((W5.alloc (.deferred (some []))).alloc (.loop r)).heap.size = W5.heap.size + 2 := by simp
    have k56 : Keeps W5 ((W5.alloc (.deferred (some []))).alloc (.loop r)) := ((Keeps.refl _).alloc _).alloc _
    have l6 : ((W5.alloc (.deferred (some []))).alloc (.loop r)).heap[W5.heap.size + 1]? = some (.loop r) := by
      have := World.alloc_heap_new (W5.alloc (.deferred (some []))) (.loop r)
      rwa [World.size_alloc] at this
    have d6 : ((W5.alloc (.deferred (some []))).alloc (.loop r)).heap[W5.heap.size]? = some (.deferred (some [])) := (Below.heap_alloc _ _ _ (by simp)).trans (World.alloc_heap_new W5 _)
    generalize ((W5.alloc (.deferred (some []))).alloc (.loop r)) = W6 at *
    obtain ⟨p, hp0⟩ : ∃ p : Nat → Prop, p = (fun k => (w1.heap.size ≤ k ∧ k < w2.heap.size) ∨ W5.heap.size + 2 ≤ k) := ⟨_, rfl⟩
    have HP : Hid (∀ k, p k ↔ ((w1.heap.size ≤ k ∧ k < w2.heap.size) ∨ W5.heap.size + 2 ≤ k)) := by intro k; rw [hp0]
    clear hp0
    have J0 : AllAt s L w w2 p w2.heap.size (w2.heap.size + 1) W5.heap.size (W5.heap.size + 1) (W5.heap.size + 2) r 0 W6 := by
      refine ⟨⟨_, HL5.out.keep k56, fun W' hb => ?_⟩, ⟨_, HA5.out.same (k56.block _ HA5.out.lt), World.ownsRow_nil _ _ _ _⟩, l6, d6, HK5.out.trans k56⟩
      have h1 : Spares (fun k => w1.heap.size ≤ k ∧ k < w2.heap.size) w2 W' := (Spares.of (HK5.out.trans k56)).trans (hb.mono (fun k _ hk => by rw [HP.out]; exact .inl hk))
      exact (HO2.out.spared h1 (fun k h1 h2 => ⟨h1, h2⟩)).base (by omega)
    have hbut : ∀ i W W', AllAt s L w w2 p w2.heap.size (w2.heap.size + 1) W5.heap.size (W5.heap.size + 1) (W5.heap.size + 2) r i W → But (w2.heap.size + 2) W W' → AllAt s L w w2 p w2.heap.size (w2.heap.size + 1) W5.heap.size (W5.heap.size + 1) (W5.heap.size + 2) r i W' := fun i W W' h hb => h.but hb (by rw [HP.out]; omega) (by omega) (by omega) (by omega) (by omega) (by omega) (by omega)
    refine CallsIn.mono (steps_in 2 (W5.heap.size + 1) (w2.heap.size + 2 + 1) (w2.heap.size + 2) s L la lc HSR.out HER.out hroom w HL.out (AllAt s L w w2 p w2.heap.size (w2.heap.size + 1) W5.heap.size (W5.heap.size + 1) (W5.heap.size + 2) r) hbut ?yield W6 (.slice xa s.tab.length xc) ((HK2.out.trans HK5.out).trans k56) (by have := HK2.out.size; omega) (cell_kept HE5.out k56) (HS5.out.keep k56) (HT.out.keep ((HK2.out.trans HK5.out).trans k56)) J0) ?done
    case done =>
      rintro e W7 ⟨hv, hJ⟩
      refine ⟨hv, hJ.loop, ?_⟩
      obtain ⟨lv, hlb, hown⟩ := hJ.last
      obtain ⟨av, hab, hrow⟩ := hJ.ans
      rw [List.take_of_length_le (Nat.le_refl _)] at hlb hown hrow
      obtain ⟨va, vc, rfl, _⟩ := (hown W7 (Spares.refl _ _)).tab.len
      have hK7 := hJ.keeps
      have hD7 := hJ.mark
      have bt8 : But (W5.heap.size + 1) W7 (W7.putObj (W5.heap.size + 1) (.loop { r with state := .exhausted })) := But.put _ _ _
      generalize (W7.putObj (W5.heap.size + 1) (.loop { r with state := .exhausted })) = W8 at *
      have HB8 : Hid (StBox w2.heap.size (runSt s L) (.slice va (runSt s L).tab.length vc) W8) := hlb.other bt8 (by omega)
      have HA8 : Hid (OneBox (w2.heap.size + 1) av W8) := hab.same (bt8.block _ hab.lt (by omega))
      have HO8 : Hid (∀ W', Spares p W8 W' → OwnTab w.heap.size W' (.slice va (runSt s L).tab.length vc) (runSt s L).tab) := fun W' h => hown W' ((Spares.but bt8 (by rw [HP.out]; omega)).trans h)
      have HR8 : Hid (W8.ownsRow (W5.heap.size + 2) 3 1 av (runAns s L).length (intCells (runAns s L))) := owns_far hrow (by omega) bt8
      have HK8 : Hid (Keeps w2 W8) := But.to hK7 (by omega) bt8
      have HD8 : Hid (W8.heap[W5.heap.size]? = some (.deferred (some []))) := (bt8.block _ (Array.getElem?_eq_some_iff.1 hD7).1 (by omega)).trans hD7
      have HZ8 : Hid (StBox (w.heap.size + 1) zeroSt (.slice none 0 0) W8) := HZ2.out.keep HK8.out
      clear hlb hown hrow hK7 hD7 bt8 hab hJ J0 hbut k56 l6 d6 hz6
      obtain ⟨aa, ac, rfl, _⟩ := (RowAt.of_owns HR8.out).len
      have b0 := HB8.out.c0
      have b1 := HB8.out.c1
      have b2 := HB8.out.c2
      have b3 := HB8.out.c3
      have b4 := HB8.out.c4
      have b5 := HB8.out.c5
      have b6 := HB8.out.c6
      have bl := HB8.out.lt
      have a0 := HA8.out.1
      have al := HA8.out.lt
      have z0 := HZ8.out.c0
      have z1 := HZ8.out.c1
      have z2 := HZ8.out.c2
      have z3 := HZ8.out.c3
      have z4 := HZ8.out.c4
      have z5 := HZ8.out.c5
      have z6 := HZ8.out.c6
      have zf := HZ8.out.fz
      have zl := HZ8.out.lt
      generalize runSt s L = t at *
      generalize runAns s L = an at *
      gi_wp2
      gi_region
      all_goals gi_wp2
      all_goals
        have BZ := (But.puts (b := w.heap.size + 1) W8 t (.slice va t.tab.length vc)).keeps (Keeps.refl _).drew
        have BF := (HZ8.out.put t (.slice va t.tab.length vc)).keep (Keeps.refl _).drew
        refine ⟨by simp, .inl ⟨_, _, rfl, run_takeDeferred ((BZ.block _ (by have := (Array.getElem?_eq_some_iff.1 HD8.out).1; omega) (by omega)).trans (by rw [← hz5]; exact HD8.out)), ?_⟩⟩
        have BD := But.put ((((((((W8.setCell ⟨w.heap.size + 1, 0, none⟩ (.int .i64 t.at_)).setCell ⟨w.heap.size + 1, 1, none⟩ (.int .i64 t.clock)).setCell ⟨w.heap.size + 1, 2, none⟩ (.int .i64 t.v0)).setCell ⟨w.heap.size + 1, 3, none⟩ (.int .i64 t.v1)).setCell ⟨w.heap.size + 1, 4, none⟩ (.int .i64 t.v2)).setCell ⟨w.heap.size + 1, 5, none⟩ (.int .i64 t.v3)).setCell ⟨w.heap.size + 1, 6, none⟩ (.slice va t.tab.length vc)).drew) (w2.heap.size + 4) (.deferred none)
        have B9 := BF.other BD (by omega)
        have O9 := HO8.out _ ((Spares.but BZ (by rw [HP.out]; omega)).trans (Spares.but BD (by rw [HP.out]; omega)))
        have R9 := owns_far (owns_far HR8.out (by omega) BZ) (by omega) BD
        have K9 := But.to (But.to (HK2.out.trans HK8.out) (by omega) BZ) (by have := HK2.out.size; omega) BD
        have c0 := B9.c0
        have c1 := B9.c1
        have c2 := B9.c2
        have c3 := B9.c3
        have c4 := B9.c4
        have c5 := B9.c5
        have c6 := B9.c6
        refine ⟨.tuple #[stV t (.slice va t.tab.length vc), .slice aa an.length ac, .int .i64 0], ?_, ?_⟩
        · simp [results, Tryz.results51, go_sem, c0, c1, c2, c3, c4, c5, c6]
        · rw [H1.out.1, H1.out.2.1, H1.out.2.2]
          exact ⟨_, _, O9, owns_base R9 (by have := HK2.out.size; omega), rfl, K9⟩
    case yield =>
      intro i v Wb W1 hi hJb hk ho hbS hK0
      have hJ1 := hbut _ _ _ hJb (But.of hk)
      obtain ⟨lv, hlb, hlo⟩ := hJ1.last
      obtain ⟨qa, qc, rfl, _⟩ := (hlo _ (Spares.refl _ _)).tab.len
      obtain ⟨av, hab0, hrow0⟩ := hJb.ans
      have hab := hab0.same (hk.block _ hab0.lt)
      have hrow := owns_keep hrow0 hk
      have hbL := (Array.getElem?_eq_some_iff.1 hJb.loop).1
      have hzk := hk.size
      obtain ⟨va, vc, rfl, _⟩ := ho.tab.len
      refine yield_round hJ1.loop HRS.out HRP.out trivial e1 e2 e3 e4 rfl ?_
      intro rb
      clear e1 e2 e3 e4 hrs hrp hrf HRS HRP J0
      have HR1 : Hid (W1.heap[W5.heap.size + 1]? = some (.loop r)) := hJ1.loop
      have HD1 : Hid (W1.heap[W5.heap.size]? = some (.deferred (some []))) := hJ1.mark
      have HK1 : Hid (Keeps w2 W1) := hJ1.keeps
      have HLB : Hid (StBox w2.heap.size (runSt s (L.take i)) (.slice qa (runSt s (L.take i)).tab.length qc) W1) := hlb
      have HAB : Hid (OneBox (w2.heap.size + 1) av W1) := hab
      have HRW : Hid (W1.ownsRow (W5.heap.size + 2) 3 1 av (runAns s (L.take i)).length (intCells (runAns s (L.take i)))) := hrow
      have HRB : Hid (∀ k, av.ownBlock = some k → k < Wb.heap.size) := fun k hk => (hrow0.lt k hk).2
      have HOW : Hid (OwnTab Wb.heap.size W1 (.slice va (runSt s (L.take (i + 1))).tab.length vc) (runSt s (L.take (i + 1))).tab) := ho
      have HAN : Hid (runAns s (L.take (i + 1)) = runAns s (L.take i) ++ [oneAns (runSt s (L.take i)) (L[i])]) := by
        show _ = _
        rw [List.take_succ_eq_append_getElem hi, runAns_append]
        rfl
      clear hlo hlb hab hrow hab0 hrow0 ho hJ1 hJb
      obtain ⟨t', htt⟩ : ∃ t', t' = runSt s (L.take (i + 1)) := ⟨_, rfl⟩
      rw [← htt] at HOW ⊢
      have HTT : Hid (t' = runSt s (L.take (i + 1))) := htt
      clear htt
      obtain ⟨an, han⟩ : ∃ an, an = oneAns (runSt s (L.take i)) (L[i]) := ⟨_, rfl⟩
      rw [← han] at HAN ⊢
      clear han
      generalize runSt s (L.take i) = t at *
      gi_wp2
      obtain ⟨WA, hWA⟩ : ∃ z, z = W1.alloc (.cells #[.int .i64 t'.at_, .int .i64 t'.clock, .int .i64 t'.v0, .int .i64 t'.v1, .int .i64 t'.v2, .int .i64 t'.v3, .slice va t'.tab.length vc] 25) := ⟨_, rfl⟩
      have kA : Keeps W1 WA := by rw [hWA]; exact (Keeps.refl _).alloc _
      have TA : StBox W1.heap.size t' (.slice va t'.tab.length vc) WA := by rw [hWA]; exact StBox.new W1 t' _ 25
      have hzA : WA.heap.size = W1.heap.size + 1 := by rw [hWA]; exact World.size_alloc _ _
      rw [← hWA]
      clear hWA
      refine ⟨(kA.block _ (Array.getElem?_eq_some_iff.1 HR1.out).1).trans HR1.out, ?_⟩
      have hl1 := (Array.getElem?_eq_some_iff.1 HR1.out).1
      have bB : But (W5.heap.size + 1) WA (WA.putObj (W5.heap.size + 1) (.loop rb)) := But.put _ _ _
      have lB : (WA.putObj (W5.heap.size + 1) (.loop rb)).heap[W5.heap.size + 1]? = some (.loop rb) := World.putObj_heap_same (by omega)
      generalize (WA.putObj (W5.heap.size + 1) (.loop rb)) = WB at *
      have TB := TA.other bB (by omega)
      have LB := (HLB.out.keep kA).other bB (by omega)
      have AB : OneBox (w2.heap.size + 1) av WB := (HAB.out.same (kA.block _ HAB.out.lt)).same (bB.block _ (by have := HAB.out.lt; omega) (by omega))
      have RB := owns_far (owns_keep HRW.out kA) (by omega) bB
      have hav : ∃ pa pc, av = .slice pa (runAns s (L.take i)).length pc := by obtain ⟨x, y, h, _⟩ := (RowAt.of_owns HRW.out).len; exact ⟨x, y, h⟩
      obtain ⟨pa, pc, rfl⟩ := hav
      have HTB : Hid (StBox W1.heap.size t' (.slice va t'.tab.length vc) WB) := TB
      have HLBB : Hid (StBox w2.heap.size t (.slice qa t.tab.length qc) WB) := LB
      have HABB : Hid (OneBox (w2.heap.size + 1) (.slice pa (runAns s (L.take i)).length pc) WB) := AB
      have HRBB : Hid (WB.ownsRow (W5.heap.size + 2) 3 1 (.slice pa (runAns s (L.take i)).length pc) (runAns s (L.take i)).length (intCells (runAns s (L.take i)))) := RB
      have HLOOP : Hid (WB.heap[W5.heap.size + 1]? = some (.loop rb)) := lB
      have HKA : Hid (Keeps W1 WA) := kA
      have HBB : Hid (But (W5.heap.size + 1) WA WB) := bB
      have c0 := TB.c0
      have c1 := TB.c1
      have c2 := TB.c2
      have c3 := TB.c3
      have c4 := TB.c4
      have c5 := TB.c5
      have c6 := TB.c6
      have cl := TB.lt
      have b0 := LB.c0
      have b1 := LB.c1
      have b2 := LB.c2
      have b3 := LB.c3
      have b4 := LB.c4
      have b5 := LB.c5
      have b6 := LB.c6
      have bz := LB.fz
      have bl := LB.lt
      have a0 := AB.1
      have az := AB.2
      have al := AB.lt
      clear TB LB AB RB lB kA bB TA
      obtain ⟨nl, hnl⟩ : ∃ nl, nl = (runAns s (L.take i)).length := ⟨_, rfl⟩
      rw [← hnl] at HABB HRBB HAB HRW HRB a0
      have hnl50 : nl ≤ 50 := by rw [hnl, runAns_len]; have := (stErr_bounds HSR.out).1.1; simp; omega
      have HNL : Hid (nl = (runAns s (L.take i)).length) := hnl
      clear hnl
      have BC := But.puts (b := w2.heap.size) WB t' (.slice va t'.tab.length vc)
      have HLC : Hid (StBox w2.heap.size t' (.slice va t'.tab.length vc) (((((((WB.setCell ⟨w2.heap.size, 0, none⟩ (.int .i64 t'.at_)).setCell ⟨w2.heap.size, 1, none⟩ (.int .i64 t'.clock)).setCell ⟨w2.heap.size, 2, none⟩ (.int .i64 t'.v0)).setCell ⟨w2.heap.size, 3, none⟩ (.int .i64 t'.v1)).setCell ⟨w2.heap.size, 4, none⟩ (.int .i64 t'.v2)).setCell ⟨w2.heap.size, 5, none⟩ (.int .i64 t'.v3)).setCell ⟨w2.heap.size, 6, none⟩ (.slice va t'.tab.length vc))) := HLBB.out.put t' _
      have HAC : Hid (OneBox (w2.heap.size + 1) (.slice pa nl pc) (((((((WB.setCell ⟨w2.heap.size, 0, none⟩ (.int .i64 t'.at_)).setCell ⟨w2.heap.size, 1, none⟩ (.int .i64 t'.clock)).setCell ⟨w2.heap.size, 2, none⟩ (.int .i64 t'.v0)).setCell ⟨w2.heap.size, 3, none⟩ (.int .i64 t'.v1)).setCell ⟨w2.heap.size, 4, none⟩ (.int .i64 t'.v2)).setCell ⟨w2.heap.size, 5, none⟩ (.int .i64 t'.v3)).setCell ⟨w2.heap.size, 6, none⟩ (.slice va t'.tab.length vc))) := HABB.out.same (BC.block _ al (by omega))
      have HRC : Hid (((((((((WB.setCell ⟨w2.heap.size, 0, none⟩ (.int .i64 t'.at_)).setCell ⟨w2.heap.size, 1, none⟩ (.int .i64 t'.clock)).setCell ⟨w2.heap.size, 2, none⟩ (.int .i64 t'.v0)).setCell ⟨w2.heap.size, 3, none⟩ (.int .i64 t'.v1)).setCell ⟨w2.heap.size, 4, none⟩ (.int .i64 t'.v2)).setCell ⟨w2.heap.size, 5, none⟩ (.int .i64 t'.v3)).setCell ⟨w2.heap.size, 6, none⟩ (.slice va t'.tab.length vc)).alloc (.cells #[.int .i64 an] 3)).ownsRow (W5.heap.size + 2) 3 1 (.slice pa nl pc) nl (intCells (runAns s (L.take i)))) := owns_keep (owns_far HRBB.out (by omega) BC) ((Keeps.refl _).alloc _)
      have HBC : Hid (But w2.heap.size WB (((((((WB.setCell ⟨w2.heap.size, 0, none⟩ (.int .i64 t'.at_)).setCell ⟨w2.heap.size, 1, none⟩ (.int .i64 t'.clock)).setCell ⟨w2.heap.size, 2, none⟩ (.int .i64 t'.v0)).setCell ⟨w2.heap.size, 3, none⟩ (.int .i64 t'.v1)).setCell ⟨w2.heap.size, 4, none⟩ (.int .i64 t'.v2)).setCell ⟨w2.heap.size, 5, none⟩ (.int .i64 t'.v3)).setCell ⟨w2.heap.size, 6, none⟩ (.slice va t'.tab.length vc))) := BC
      clear BC
      have hne1 : (w2.heap.size = W1.heap.size) = False := eq_false (by have := HKA.out.size; have := HLB.out.lt; omega)
      have hne2 : (W1.heap.size = w2.heap.size) = False := eq_false (by have := HLB.out.lt; omega)
      have hszC : W5.heap.size + 2 ≤ WB.heap.size + 1 := by have := HBB.out.size; have := (Array.getElem?_eq_some_iff.1 HR1.out).1; have := HKA.out.size; omega
      have hba : w2.heap.size + 1 < W5.heap.size + 2 := by omega
      have HARITH : Hid (W5.heap.size = w2.heap.size + 4 ∧ W5.heap.size + 1 < Wb.heap.size ∧ Wb.heap.size ≤ W1.heap.size ∧ W1.heap.size ≤ WB.heap.size ∧ w.heap.size ≤ w2.heap.size) := ⟨hz5, hbL, hzk, by have := HBB.out.size; omega, HK2.out.size⟩
      clear hz5 hzA hl1 hbS hbL hzk
      gi_wp2_with (gi_at_builtin; refine app_int _ rfl _ _ rfl (W5.heap.size + 2) (.slice pa nl pc) nl _ rfl HRC.out _ an rfl (by simp [go_sem]) (by omega) (by simp; omega) ?_; intro v' w3 hown' hg3; obtain ⟨ga, gc, rfl, hw0, hwz⟩ := stands HLC.out HAC.out hown' hg3 hba (fun k hk => (HRC.out.lt k hk).1); have HOWN : Hid (w3.ownsRow (W5.heap.size + 2) 3 1 (.slice ga (nl + 1) gc) (nl + 1) (intCells (runAns s (L.take i)) ++ [.int .i64 an])) := hown'; have HG3 : Hid (((((((((WB.setCell ⟨w2.heap.size, 0, none⟩ (.int .i64 t'.at_)).setCell ⟨w2.heap.size, 1, none⟩ (.int .i64 t'.clock)).setCell ⟨w2.heap.size, 2, none⟩ (.int .i64 t'.v0)).setCell ⟨w2.heap.size, 3, none⟩ (.int .i64 t'.v1)).setCell ⟨w2.heap.size, 4, none⟩ (.int .i64 t'.v2)).setCell ⟨w2.heap.size, 5, none⟩ (.int .i64 t'.v3)).setCell ⟨w2.heap.size, 6, none⟩ (.slice va t'.tab.length vc)).alloc (.cells #[.int .i64 an] 3)).grownBy w3 (Value.slice pa nl pc).ownBlock) := hg3; clear hown' hg3)
      obtain ⟨x1, x2, x3, x4, x5⟩ := HARITH.out
      have hrow1 : ∀ k, (Value.slice pa nl pc).ownBlock = some k → W5.heap.size + 2 ≤ k ∧ k < Wb.heap.size := fun k hk => ⟨(HRC.out.lt k hk).1, HRB.out k hk⟩
      have bA : But (w2.heap.size + 1) w3 (w3.setCell ⟨w2.heap.size + 1, 0, none⟩ (.slice ga (nl + 1) gc)) := (But.refl _ _).set 0 _
      have AE : OneBox (w2.heap.size + 1) (.slice ga (nl + 1) gc) (w3.setCell ⟨w2.heap.size + 1, 0, none⟩ (.slice ga (nl + 1) gc)) := OneBox.set ⟨hw0, hwz⟩ _
      have RE := owns_far HOWN.out hba bA
      obtain ⟨WE, hWE⟩ : ∃ z, z = w3.setCell ⟨w2.heap.size + 1, 0, none⟩ (.slice ga (nl + 1) gc) := ⟨_, rfl⟩
      rw [← hWE] at bA AE RE ⊢
      clear hWE
      have SC : Spares (fun k => k ≠ w2.heap.size + 1 ∧ some k ≠ (Value.slice pa nl pc).ownBlock) (((((((WB.setCell ⟨w2.heap.size, 0, none⟩ (.int .i64 t'.at_)).setCell ⟨w2.heap.size, 1, none⟩ (.int .i64 t'.clock)).setCell ⟨w2.heap.size, 2, none⟩ (.int .i64 t'.v0)).setCell ⟨w2.heap.size, 3, none⟩ (.int .i64 t'.v1)).setCell ⟨w2.heap.size, 4, none⟩ (.int .i64 t'.v2)).setCell ⟨w2.heap.size, 5, none⟩ (.int .i64 t'.v3)).setCell ⟨w2.heap.size, 6, none⟩ (.slice va t'.tab.length vc)) WE :=
        ((Spares.of ((Keeps.refl _).alloc (.cells #[.int .i64 an] 3))).trans (Spares.grown HG3.out (fun b e h => h.2 e.symm))).trans (Spares.but bA (fun h => h.1 rfl))
      have SB : Spares (fun k => k ≠ w2.heap.size ∧ k ≠ w2.heap.size + 1 ∧ some k ≠ (Value.slice pa nl pc).ownBlock) WB WE :=
        (Spares.but HBC.out (fun h => h.1 rfl)).trans (SC.mono (fun k _ h => h.2))
      have hLE : WE.heap[W5.heap.size + 1]? = some (.loop rb) := (SB.block _ (by omega) ⟨by omega, by omega, fun e => by have := (hrow1 _ e.symm).1; omega⟩).trans HLOOP.out
      have hlE := (Array.getElem?_eq_some_iff.1 hLE).1
      have BF : But (W5.heap.size + 1) WE (WE.putObj (W5.heap.size + 1) (.loop r)) := But.put _ _ _
      have hLF : (WE.putObj (W5.heap.size + 1) (.loop r)).heap[W5.heap.size + 1]? = some (.loop r) := World.putObj_heap_same hlE
      refine ⟨hLE, ?_⟩
      generalize (WE.putObj (W5.heap.size + 1) (.loop r)) = WF at *
      have SF : Spares (fun k => k ≠ w2.heap.size ∧ k ≠ w2.heap.size + 1 ∧ k ≠ W5.heap.size + 1 ∧ some k ≠ (Value.slice pa nl pc).ownBlock) W1 WF :=
        (((Spares.of HKA.out).trans (Spares.but HBB.out (fun h => h.2.2.1 rfl))).trans (SB.mono (fun k _ h => ⟨h.1, h.2.1, h.2.2.2⟩))).trans (Spares.but BF (fun h => h.2.2.1 rfl))
      have hz12' := hz12
      refine ⟨⟨⟨.slice va t'.tab.length vc, ?_, ?_⟩, ⟨.slice ga (nl + 1) gc, AE.same (BF.block _ AE.lt (by omega)), ?_⟩, hLF, ?_, ?_⟩, ?_⟩
      · rw [← HTT.out]
        exact (HLC.out.spared SC ⟨by omega, fun e => by have := (hrow1 _ e.symm).1; omega⟩).other BF (by omega)
      · intro W' hW'
        rw [← HTT.out]
        have h1 : Spares (fun k => Wb.heap.size ≤ k) W1 W' := (SF.mono (fun k _ h => ⟨by omega, by omega, by omega, fun e => by have := (hrow1 _ e.symm).2; omega⟩)).trans (hW'.mono (fun k _ h => by rw [HP.out]; exact .inr (by omega)))
        exact (HOW.out.spared h1 (fun k h _ => h)).base (by omega)
      · rw [HAN.out, List.length_append, ← HNL.out]
        have := owns_far RE (by omega) BF
        simpa [intCells] using this
      · exact (SF.block _ (Array.getElem?_eq_some_iff.1 HD1.out).1 ⟨by omega, by omega, by omega, fun e => by have := (hrow1 _ e.symm).1; omega⟩).trans HD1.out
      · exact SF.keeps HK1.out (fun k hk => ⟨by omega, by omega, by omega, fun e => by have := (hrow1 _ e.symm).1; omega⟩)
      · exact SF.mono (fun k hk h => ⟨by omega, by omega, by omega, fun e => by have := hrow1 _ e.symm; omega⟩)
end Go.Proofs.YteabfjpajgakiagGreat

/- Entries made. -/
set_option linter.unusedSimpArgs false
set_option linter.unusedVariables false
set_option maxRecDepth 10000
namespace Go.Proofs.YteabfjpajgakiagGreat
open Go.RowKit

theorem mk_add (n : Int) (w : World) : Calls Tryz.prog 22 #[.int .i64 n] w fun y w' => y = .returned (.agg #[.int .i64 2, .int .i64 0, .int .i64 0, .int .i64 n]) ∧ Keeps w w' := by
  go_enter Tryz.func22, Tryz.ntmps22
  go_wp2_with fail
  refine bodyPost_ret (v := .agg #[.int .i64 2, .int .i64 0, .int .i64 0, .int .i64 n]) ?_ rfl ?_
  · simp [results, Tryz.results22, go_sem]
  · exact ⟨rfl, (Keeps.refl _).alloc _⟩
theorem mk_call (t c q a k key tk n : Int) (w : World) : Calls Tryz.prog 21 #[.int .i64 t, .int .i64 c, .int .i64 q, .int .i64 a, .agg #[.int .i64 k, .int .i64 key, .int .i64 tk, .int .i64 n]] w fun y w' => y = .returned (entV ⟨2, t, c, q, a, k, key, tk, n⟩) ∧ Keeps w w' := by
  go_enter Tryz.func21, Tryz.ntmps21
  go_wp2_with fail
  refine bodyPost_ret (v := entV ⟨2, t, c, q, a, k, key, tk, n⟩) ?_ rfl ?_
  · simp [results, Tryz.results21, go_sem]
  · exact ⟨rfl, ((Keeps.refl _).alloc _).alloc _⟩
theorem mk_open (t c : Int) (w : World) : Calls Tryz.prog 20 #[.int .i64 t, .int .i64 c] w fun y w' => y = .returned (entV ⟨1, t, c, 0, 0, 0, 0, 0, 0⟩) ∧ Keeps w w' := by
  go_enter Tryz.func20, Tryz.ntmps20
  go_wp2_with fail
  refine bodyPost_ret (v := entV ⟨1, t, c, 0, 0, 0, 0, 0, 0⟩) ?_ rfl ?_
  · simp [results, Tryz.results20, go_sem]
  · exact ⟨rfl, (Keeps.refl _).alloc _⟩
end Go.Proofs.YteabfjpajgakiagGreat

/- Some entries of a log, as the statements have them. -/
set_option linter.unusedSimpArgs false
set_option linter.unusedVariables false
set_option maxRecDepth 10000
namespace Go.Proofs.YteabfjpajgakiagGreat
open Go.RowKit

/-- Entries that have just been laid. -/
theorem EntsAt.new (w : World) (L : List Ent) (hL : L.length ≤ 1000) (c : Nat) : EntsAt (w.alloc (.cells (entCells L).toArray 35)) (.slice (some ⟨w.heap.size, 0, none⟩) L.length c) L := by
  refine ⟨entCells_len L, by unfold maxLen; omega, .inr ⟨_, _, rfl, fun j u hu => ?_⟩⟩
  rw [Addr.add_lit, Nat.zero_add]
  unfold World.cell?
  rw [World.alloc_heap_new]
  simpa using hu

end Go.Proofs.YteabfjpajgakiagGreat

/- A region that draws its order, whose order is forced but for two neighbours. -/
set_option linter.unusedSimpArgs false
set_option linter.unusedVariables false
namespace Go.Proofs.YteabfjpajgakiagGreat
open Go.RowKit

/-- The first k are done. -/
def upTo (N k : Nat) : Array Bool := Array.ofFn (n := N) fun i => decide (i.1 < k)

theorem upTo_true {N k i : Nat} : (upTo N k).getD i true = false ↔ i < N ∧ k ≤ i := by
  unfold upTo
  by_cases h : i < N
  · simp [h]
  · simp [h]

theorem upTo_false {N k i : Nat} : (upTo N k).getD i false = true ↔ i < N ∧ i < k := by
  unfold upTo
  by_cases h : i < N
  · simp [h]
  · simp [h]

theorem upTo_true' {N k i : Nat} : ((upTo N k).setIfInBounds (k + 1) true).getD i true = false ↔ i < N ∧ k ≤ i ∧ i ≠ k + 1 := by
  unfold upTo
  by_cases h : i < N
  · simp only [Array.getD_eq_getD_getElem?, Array.getElem?_setIfInBounds]
    by_cases h' : k + 1 = i
    · subst h'; simp [h]
    · rw [if_neg h']; simp [h]; omega
  · have h2 : ¬ (i < ((Array.ofFn (n := N) fun i => decide (i.1 < k)).setIfInBounds (k + 1) true).size) := by simpa using h
    simp [Array.getD, h]

theorem upTo_false' {N k i : Nat} : ((upTo N k).setIfInBounds (k + 1) true).getD i false = true ↔ i < N ∧ (i < k ∨ i = k + 1) := by
  unfold upTo
  by_cases h : i < N
  · simp only [Array.getD_eq_getD_getElem?, Array.getElem?_setIfInBounds]
    by_cases h' : k + 1 = i
    · subst h'; simp [h]
    · rw [if_neg h']; simp [h]; omega
  · simp [Array.getD, h]

def waits (ops : Array Oper) (j i : Nat) : Bool := Region.waitsFor .any ops j i

structure Chain (ops : Array Oper) (n : Nat) : Prop where
  one : 1 ≤ n
  size : n + 2 ≤ ops.size
  skip : waits ops (n + 1) (n - 1) = true
  both : n + 2 < ops.size → waits ops (n + 2) n = true
  prev : ∀ t, t < ops.size → t ≠ 0 → t ≠ n + 1 → waits ops t (t - 1) = true
  back : ∀ t o, ops[t]? = some o → ∀ e ∈ o.after, Region.binds .any e = true → e.on < t ∧ (t = n + 1 → e.on ≠ n)

theorem waits_of {ops : Array Oper} {j i : Nat} {o : Oper} (h : waits ops j i = true) (ho : ops[j]? = some o) {listed : Array Bool} (ha : ∀ e ∈ o.after, Region.binds .any e = true → listed.getD e.on false = true) : listed.getD i false = true := by
  obtain ⟨oj, hj, e, he, hb, rfl⟩ := Region.waitsFor_spec h
  rw [ho] at hj
  cases hj
  exact ha e he hb

theorem size_of {ops : Array Oper} {i : Nat} {o : Oper} (h : ops[i]? = some o) : i < ops.size := by
  rcases Nat.lt_or_ge i ops.size with h' | h'
  · exact h'
  · rw [Array.getElem?_eq_none h'] at h; cases h

/-- Elsewhere one alone may come up. -/
theorem Chain.only {ops : Array Oper} {n : Nat} (C : Chain ops n) {k i : Nat} (hk : k ≠ n) (hi : i ∈ Region.ready .any ops (upTo ops.size k)) : i = k := by
  obtain ⟨h1, o, ho, ha⟩ := mem_ready.1 hi
  obtain ⟨hN, hki⟩ := upTo_true.1 h1
  by_cases hn : i = n + 1
  · have := (upTo_false.1 (waits_of (i := n - 1) (by rw [hn]; exact C.skip) ho ha)).2
    have := C.one
    omega
  · by_cases h0 : i = 0
    · omega
    · have := (upTo_false.1 (waits_of (C.prev i hN h0 hn) ho ha)).2
      omega

theorem Chain.first {ops : Array Oper} {n : Nat} (C : Chain ops n) {k : Nat} (hk : k < ops.size) : k ∈ Region.ready .any ops (upTo ops.size k) := by
  refine mem_ready.2 ⟨upTo_true.2 ⟨hk, Nat.le_refl _⟩, ops[k], by simp [hk], fun e he hb => upTo_false.2 ?_⟩
  have := (C.back k ops[k] (by simp [hk]) e he hb).1
  omega

theorem Chain.other {ops : Array Oper} {n : Nat} (C : Chain ops n) {i : Nat} (hi : i ∈ Region.ready .any ops ((upTo ops.size n).setIfInBounds (n + 1) true)) : i = n := by
  obtain ⟨h1, o, ho, ha⟩ := mem_ready.1 hi
  obtain ⟨hN, hki, hne⟩ := upTo_true'.1 h1
  by_cases h0 : i = 0
  · omega
  · by_cases h2 : i = n + 2
    · have := (upTo_false'.1 (waits_of (i := n) (by rw [h2]; exact C.both (by omega)) ho ha)).2
      omega
    · have := (upTo_false'.1 (waits_of (C.prev i hN h0 hne) ho ha)).2
      omega

theorem Chain.done {ops : Array Oper} {k : Nat} (hk : ops.size ≤ k) : Region.ready .any ops (upTo ops.size k) = [] := by
  apply List.eq_nil_iff_forall_not_mem.2
  intro i hi
  obtain ⟨h1, _⟩ := mem_ready.1 hi
  obtain ⟨hN, hki⟩ := upTo_true.1 h1
  omega

end Go.Proofs.YteabfjpajgakiagGreat

/- A region that draws its order: stretches of it whose order is forced are walked as the text has them. -/
set_option linter.unusedSimpArgs false
set_option linter.unusedVariables false
namespace Go.Proofs.YteabfjpajgakiagGreat
open Go.RowKit

end Go.Proofs.YteabfjpajgakiagGreat

/- States: the law's shop, Begin. -/
set_option linter.unusedSimpArgs false
set_option linter.unusedVariables false
set_option maxRecDepth 10000
namespace Go.Proofs.YteabfjpajgakiagGreat
open Go.RowKit

/-- Where the shop's table lies. -/
structure ShopAt (w : World) (b : Nat) (ka : Option Addr) (kc : Nat) (la : Option Addr) (lc : Nat) : Prop where
  c0 : w.cell? ⟨b, 0, none⟩ = some (.int .i64 2)
  c1 : w.cell? ⟨b, 1, none⟩ = some (.int .i64 2)
  c2 : w.cell? ⟨b, 2, none⟩ = some (.int .i64 9)
  c3 : w.cell? ⟨b, 3, none⟩ = some (.slice ka 2 kc)
  c4 : w.cell? ⟨b, 4, none⟩ = some (.int .i64 4)
  c5 : w.cell? ⟨b, 5, none⟩ = some (.int .i64 2)
  c6 : w.cell? ⟨b, 6, none⟩ = some (.int .i64 9)
  c7 : w.cell? ⟨b, 7, none⟩ = some (.slice la 2 lc)
  fz : w.frozen? ⟨b, 3, none⟩ = false
  k1 : KeptAt w (.slice ka 2 kc) [(3, 7), (5, -1)]
  k2 : KeptAt w (.slice la 2 lc) [(3, 7), (5, -1)]

theorem ShopAt.keep {w w' : World} {b : Nat} {ka : Option Addr} {kc : Nat} {la : Option Addr} {lc : Nat} (h : ShopAt w b ka kc la lc) (hk : Keeps w w') : ShopAt w' b ka kc la lc :=
  ⟨cell_kept h.c0 hk, cell_kept h.c1 hk, cell_kept h.c2 hk, cell_kept h.c3 hk, cell_kept h.c4 hk, cell_kept h.c5 hk, cell_kept h.c6 hk, cell_kept h.c7 hk,
    (Below.frozen hk (p := ⟨b, 3, none⟩) (World.block_lt_of_cell? _ _ h.c3)).trans h.fz, h.k1.keep hk, h.k2.keep hk⟩

theorem tab_cells {w : World} {b : Nat} {s t : Ses} {k l : Value} (c0 : w.cell? ⟨b, 0, none⟩ = some (.int .i64 s.client)) (c1 : w.cell? ⟨b, 1, none⟩ = some (.int .i64 s.acked)) (c2 : w.cell? ⟨b, 2, none⟩ = some (.int .i64 s.seen)) (c3 : w.cell? ⟨b, 3, none⟩ = some k)
    (c4 : w.cell? ⟨b, 4, none⟩ = some (.int .i64 t.client)) (c5 : w.cell? ⟨b, 5, none⟩ = some (.int .i64 t.acked)) (c6 : w.cell? ⟨b, 6, none⟩ = some (.int .i64 t.seen)) (c7 : w.cell? ⟨b, 7, none⟩ = some l) (hk : KeptAt w k s.kept) (hl : KeptAt w l t.kept) :
    TabAt w (.slice (some ⟨b, 0, none⟩) 2 2) [s, t] := by
  refine ⟨[k, l], ⟨hk, hl, trivial⟩, rfl, by unfold maxLen; simp, .inr ⟨_, _, rfl, fun j u hu => ?_⟩⟩
  rw [Addr.add_lit, Nat.zero_add]
  match j, hu with
  | 0, hu => simp [sesCells] at hu; subst hu; exact c0
  | 1, hu => simp [sesCells] at hu; subst hu; exact c1
  | 2, hu => simp [sesCells] at hu; subst hu; exact c2
  | 3, hu => simp [sesCells] at hu; subst hu; exact c3
  | 4, hu => simp [sesCells] at hu; subst hu; exact c4
  | 5, hu => simp [sesCells] at hu; subst hu; exact c5
  | 6, hu => simp [sesCells] at hu; subst hu; exact c6
  | 7, hu => simp [sesCells] at hu; subst hu; exact c7

theorem ShopAt.tab {w : World} {b : Nat} {ka : Option Addr} {kc : Nat} {la : Option Addr} {lc : Nat} (h : ShopAt w b ka kc la lc) : TabAt w (.slice (some ⟨b, 0, none⟩) 2 2) [rowS 2, rowS 4] :=
  tab_cells h.c0 h.c1 h.c2 h.c3 h.c4 h.c5 h.c6 h.c7 h.k1 h.k2

theorem begin_c (w : World) : Calls Tryz.prog 40 #[] w fun e w' => e = .returned (stV ⟨0, 0, 0, 0, 0, 0, []⟩ (.slice none 0 0)) ∧ Keeps w w' := by
  go_enter Tryz.func40, Tryz.ntmps40
  go_wp2_with fail
  refine bodyPost_ret (v := stV ⟨0, 0, 0, 0, 0, 0, []⟩ (.slice none 0 0)) ?_ rfl ?_
  · simp [results, Tryz.results40, go_sem]
  · exact ⟨rfl, (Keeps.refl _).alloc _⟩

end Go.Proofs.YteabfjpajgakiagGreat
