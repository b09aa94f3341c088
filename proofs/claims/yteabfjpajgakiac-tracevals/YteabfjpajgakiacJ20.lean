/- FoL, TrA, TrB. -/
import Derived.Test.YteabfjpajgakiacJ12
import Derived.Test.YteabfjpajgakiacJ13
import Derived.Test.YteabfjpajgakiacJ14
import Derived.Test.YteabfjpajgakiacJ15
import Derived.Test.YteabfjpajgakiacJ16
import Derived.Test.YteabfjpajgakiacJ19
/- The reference's FoldOf; FoldTells: the walk. -/
set_option linter.unusedSimpArgs false
set_option linter.unusedVariables false
set_option maxRecDepth 10000
namespace Go.Proofs.Yteabfjpajgakiac
open Go.RowKit

set_option maxHeartbeats 2000000 in
theorem fold_of (s : St) (L : List Ent) (x v : Value) (w : World) (hT : TabAt w x s.tab) (hL : EntsAt w v L) :
    Calls Try.prog 10 #[stV s x, v] w fun y w' => ∃ x' av, OwnTab w.heap.size w' x' (allSt s L).tab ∧ w'.ownsRow w.heap.size 3 1 av (allAns s L).length (intCells (allAns s L)) ∧ y = .returned (.tuple #[stV (allSt s L) x', av, .int .i64 (foldErr s L)]) ∧ Keeps w w' := by
  obtain ⟨xa, xc, rfl, _⟩ := hT.len
  obtain ⟨la, lc, rfl, hlen⟩ := hL.len
  unfold maxLen at hlen
  have HT : Hid (TabAt w (.slice xa s.tab.length xc) s.tab) := hT
  have HL : Hid (EntsAt w (.slice la L.length lc) L) := hL
  have HE : Hid (foldErr s L = if stErr s == 0 then (if listErr L == 0 then (if 50 < s.at_ + L.length then 2 else 0) else listErr L) else stErr s) := rfl
  have HZ : Hid ((foldErr s L == 0) = false → allSt s L = zeroSt ∧ allAns s L = []) := fun h => ⟨by unfold allSt; rw [h]; rfl, by unfold allAns; rw [h]; rfl⟩
  have HN : Hid (foldErr s L = 0 → allSt s L = runSt s L ∧ allAns s L = runAns s L) := fun h => ⟨by unfold allSt; rw [h]; rfl, by unfold allAns; rw [h]; rfl⟩
  have HBD : Hid (stErr s = 0 → (0 ≤ s.at_ ∧ s.at_ ≤ 50) ∧ (0 ≤ s.clock ∧ s.clock ≤ 999)) := stErr_bounds
  have HC : Hid (listErr L = 0 → L.length ≤ 50) := by
    intro h
    unfold listErr at h
    split at h
    · cases h
    · omega
  have HZT : Hid (zeroSt.tab = []) := rfl
  clear hT hL
  go_enter Try.func10, Try.ntmps10
  go_wp2_with fail
  obtain ⟨W1, hW1⟩ : ∃ W1, W1 = (w.alloc (.cells #[.int .i64 s.at_, .int .i64 s.clock, .int .i64 s.v0, .int .i64 s.v1, .int .i64 s.v2, .int .i64 s.v3, .slice xa s.tab.length xc] 25)).alloc (.cells #[.int .i64 0, .int .i64 0, .int .i64 0, .int .i64 0, .int .i64 0, .int .i64 0, .slice none 0 0] 25) := ⟨_, rfl⟩
  have k1 : Keeps w W1 := by rw [hW1]; exact ((Keeps.refl _).alloc _).alloc _
  have B1 : StBox w.heap.size s (.slice xa s.tab.length xc) W1 := by rw [hW1]; exact (StBox.new w s _ 25).keep ((Keeps.refl _).alloc _)
  have Z1 : StBox (w.heap.size + 1) zeroSt (.slice none 0 0) W1 := by
    rw [hW1]
    have := StBox.new (w.alloc (.cells #[.int .i64 s.at_, .int .i64 s.clock, .int .i64 s.v0, .int .i64 s.v1, .int .i64 s.v2, .int .i64 s.v3, .slice xa s.tab.length xc] 25)) zeroSt (.slice none 0 0) 25
    simp only [World.size_alloc] at this
    exact this
  rw [← hW1]
  clear hW1
  refine (state_error s _ W1 (HT.out.keep k1)).mono ?_
  rintro y w1 ⟨rfl, hb⟩
  have HK1 : Hid (Keeps w w1) := k1.trans hb
  have HB1 : Hid (StBox w.heap.size s (.slice xa s.tab.length xc) w1) := B1.keep hb
  have HZ1 : Hid (StBox (w.heap.size + 1) zeroSt (.slice none 0 0) w1) := Z1.keep hb
  clear k1 B1 Z1 hb
  clear W1
  cases q1 : (stErr s == 0) with
  | false =>
    have q1' : (stErr s != 0) = true := by simp [bne, q1]
    have qq := q1
    have HE2 : Hid (foldErr s L = stErr s) := by show _ = _; rw [HE.out, q1]; rfl
    have H1 : Hid (allSt s L = zeroSt ∧ allAns s L = []) := HZ.out (by rw [HE2.out]; exact qq)
    have z0 := HZ1.out.c0
    have z1 := HZ1.out.c1
    have z2 := HZ1.out.c2
    have z3 := HZ1.out.c3
    have z4 := HZ1.out.c4
    have z5 := HZ1.out.c5
    have z6 := HZ1.out.c6
    have zf := HZ1.out.fz
    have zl := HZ1.out.lt
    have hk := HK1.out
    go_wp2_with fail
    refine bodyPost_ret (v := .tuple #[stV zeroSt (.slice none 0 0), .slice none 0 0, .int .i64 (stErr s)]) ?_ rfl ?_
    · simp [results, Try.results10, go_sem, zeroSt, z0, z1, z2, z3, z4, z5, z6]
    · rw [HE2.out, H1.out.1, H1.out.2, HZT.out]
      refine ⟨.slice none 0 0, .slice none 0 0, OwnTab.nil _ _, World.ownsRow_nil _ _ _ _, rfl, ?_⟩
      repeat refine Keeps.set ?_ (by simp <;> omega) _
      exact hk
  | true =>
    have q1' : (stErr s != 0) = false := by simp [bne, q1]
    have hs0 : stErr s = 0 := by simpa using q1
    obtain ⟨⟨ba0, ba1⟩, _, _⟩ := HBD.out hs0
    clear hs0
    go_wp2_with fail
    refine (list_error L _ w1 (HL.out.keep HK1.out)).mono ?_
    rintro y w2 ⟨rfl, hb⟩
    have HK2 : Hid (Keeps w w2) := HK1.out.trans hb
    have HB2 : Hid (StBox w.heap.size s (.slice xa s.tab.length xc) w2) := HB1.out.keep hb
    have HZ2 : Hid (StBox (w.heap.size + 1) zeroSt (.slice none 0 0) w2) := HZ1.out.keep hb
    clear hb
    cases q2 : (listErr L == 0) with
    | false =>
      have q2' : (listErr L != 0) = true := by simp [bne, q2]
      have qq := q2
      have HE2 : Hid (foldErr s L = listErr L) := by show _ = _; rw [HE.out, q1, q2]; rfl
      have H1 : Hid (allSt s L = zeroSt ∧ allAns s L = []) := HZ.out (by rw [HE2.out]; exact qq)
      have z0 := HZ2.out.c0
      have z1 := HZ2.out.c1
      have z2 := HZ2.out.c2
      have z3 := HZ2.out.c3
      have z4 := HZ2.out.c4
      have z5 := HZ2.out.c5
      have z6 := HZ2.out.c6
      have zf := HZ2.out.fz
      have zl := HZ2.out.lt
      have hk := HK2.out
      go_wp2_with fail
      refine bodyPost_ret (v := .tuple #[stV zeroSt (.slice none 0 0), .slice none 0 0, .int .i64 (listErr L)]) ?_ rfl ?_
      · simp [results, Try.results10, go_sem, zeroSt, z0, z1, z2, z3, z4, z5, z6]
      · rw [HE2.out, H1.out.1, H1.out.2, HZT.out]
        refine ⟨.slice none 0 0, .slice none 0 0, OwnTab.nil _ _, World.ownsRow_nil _ _ _ _, rfl, ?_⟩
        repeat refine Keeps.set ?_ (by simp <;> omega) _
        exact hk
    | true =>
      have q2' : (listErr L != 0) = false := by simp [bne, q2]
      have hl50 := HC.out (by simpa using q2)
      have b0 := HB2.out.c0
      have b1 := HB2.out.c1
      have b2 := HB2.out.c2
      have b3 := HB2.out.c3
      have b4 := HB2.out.c4
      have b5 := HB2.out.c5
      have b6 := HB2.out.c6
      have bl := HB2.out.lt
      by_cases h : 50 < s.at_ + L.length
      · have HE2 : Hid (foldErr s L = 2) := by show _ = _; rw [HE.out, q1, q2]; simp [h]
        have H1 : Hid (allSt s L = zeroSt ∧ allAns s L = []) := HZ.out (by rw [HE2.out]; rfl)
        have z0 := HZ2.out.c0
        have z1 := HZ2.out.c1
        have z2 := HZ2.out.c2
        have z3 := HZ2.out.c3
        have z4 := HZ2.out.c4
        have z5 := HZ2.out.c5
        have z6 := HZ2.out.c6
        have zf := HZ2.out.fz
        have zl := HZ2.out.lt
        have hk := HK2.out
        go_wp2_with fail
        refine bodyPost_ret (v := .tuple #[stV zeroSt (.slice none 0 0), .slice none 0 0, .int .i64 2]) ?_ rfl ?_
        · simp [results, Try.results10, go_sem, zeroSt, z0, z1, z2, z3, z4, z5, z6]
        · rw [HE2.out, H1.out.1, H1.out.2, HZT.out]
          refine ⟨.slice none 0 0, .slice none 0 0, OwnTab.nil _ _, World.ownsRow_nil _ _ _ _, rfl, ?_⟩
          repeat refine Keeps.set ?_ (by simp <;> omega) _
          exact hk
      · have HE0 : Hid (foldErr s L = 0) := by show _ = _; rw [HE.out, q1, q2]; simp [h]
        have HR := (show Hid _ from fold_right HE0.out)
        go_wp2_with fail
        refine (folded_c s L _ _ w2 (HT.out.keep HK2.out) (HL.out.keep HK2.out) HR.out.1 HR.out.2.1 HR.out.2.2).mono ?_
        rintro y w3 ⟨qa, qc, ra, rc, da, dc, HO, HA, HD, rfl, hb⟩
        have H1 := (show Hid _ from HN.out HE0.out)
        have HAL : Hid ((runAns s L).length = L.length) := runAns_len s L
        have HK3 : Hid (Keeps w w3) := HK2.out.trans hb
        have HZ3 : Hid (StBox (w.heap.size + 1) zeroSt (.slice none 0 0) w3) := HZ2.out.keep hb
        have hz2 : w.heap.size + 1 < w2.heap.size := HZ2.out.lt
        have hz23 := hb.size
        clear hb b0 b1 b2 b3 b4 b5 b6 bl
        have z0 := HZ3.out.c0
        have z1 := HZ3.out.c1
        have z2 := HZ3.out.c2
        have z3 := HZ3.out.c3
        have z4 := HZ3.out.c4
        have z5 := HZ3.out.c5
        have z6 := HZ3.out.c6
        have zf := HZ3.out.fz
        have zl := HZ3.out.lt
        have hne1 : (w.heap.size + 1 = w3.heap.size) = False := eq_false (by omega)
        have hne2 : (w3.heap.size = w.heap.size + 1) = False := eq_false (by omega)
        have HBT := (show Hid _ from But.puts (b := w.heap.size + 1) w3 (runSt s L) (.slice qa (runSt s L).tab.length qc))
        have HBF := (show Hid _ from (HZ3.out.put (runSt s L) (.slice qa (runSt s L).tab.length qc)).keep ((Keeps.refl _).alloc (.cells #[.int .i64 (runSt s L).at_, .int .i64 (runSt s L).clock, .int .i64 (runSt s L).v0, .int .i64 (runSt s L).v1, .int .i64 (runSt s L).v2, .int .i64 (runSt s L).v3, .slice qa (runSt s L).tab.length qc] 25)))
        go_wp2_with fail
        have c0 := HBF.out.c0
        have c1 := HBF.out.c1
        have c2 := HBF.out.c2
        have c3 := HBF.out.c3
        have c4 := HBF.out.c4
        have c5 := HBF.out.c5
        have c6 := HBF.out.c6
        refine bodyPost_ret (v := .tuple #[stV (runSt s L) (.slice qa (runSt s L).tab.length qc), .slice ra L.length rc, .int .i64 0]) ?_ rfl ?_
        · simp only [results, Try.results10, go_sem, c0, c1, c2, c3, c4, c5, c6]
          simp [go_sem, c0, c1, c2, c3, c4, c5, c6]
        · rw [HE0.out, H1.out.1, H1.out.2, HAL.out]
          exact ⟨_, _, ((HO.out.but (by omega) HBT.out).keep ((Keeps.refl _).alloc _)).base (by omega), owns_base (owns_keep (owns_far HA.out (by omega) HBT.out) ((Keeps.refl _).alloc _)) (by omega), rfl, (But.to HK3.out (by omega) HBT.out).alloc _⟩

set_option maxHeartbeats 4000000 in
theorem fold_tells (s : St) (L : List Ent) (x : Value) (la : Option Addr) (lc : Nat) (w : World) (hT : TabAt w x s.tab) (hL : EntsAt w (.slice la L.length lc) L) :
    Calls Try.prog 3 #[stV s x, .slice la L.length lc] w fun y w' => y = .returned (.bool true) ∧ Keeps w w' := by
  obtain ⟨xa, xc, rfl, _⟩ := hT.len
  have HT : Hid (TabAt w (.slice xa s.tab.length xc) s.tab) := hT
  have HL : Hid (EntsAt w (.slice la L.length lc) L) := hL
  clear hT hL
  go_enter Try.func3, Try.ntmps3
  go_wp2_with fail
  obtain ⟨W1, hW1⟩ : ∃ W1, W1 = w.alloc (.cells #[.int .i64 s.at_, .int .i64 s.clock, .int .i64 s.v0, .int .i64 s.v1, .int .i64 s.v2, .int .i64 s.v3, .slice xa s.tab.length xc] 25) := ⟨_, rfl⟩
  have k1 : Keeps w W1 := by rw [hW1]; exact (Keeps.refl _).alloc _
  have B1 : StBox w.heap.size s (.slice xa s.tab.length xc) W1 := by rw [hW1]; exact StBox.new w s _ 25
  rw [← hW1]
  clear hW1
  refine (fold_all s L _ _ W1 (HT.out.keep k1) (HL.out.keep k1)).mono ?_
  rintro y w1 ⟨x1, av1, ho, hr, rfl, hb⟩
  obtain ⟨pa, pc, rfl, _⟩ := ho.tab.len
  obtain ⟨aa, ac, hav, _⟩ := (RowAt.of_owns hr).len
  subst hav
  have HK1 : Hid (Keeps w w1) := k1.trans hb
  have HB1 : Hid (StBox w.heap.size s (.slice xa s.tab.length xc) w1) := B1.keep hb
  have HO1 : Hid (TabAt w1 (.slice pa (allSt s L).tab.length pc) (allSt s L).tab) := ho.tab
  have HI1 : Hid (IntsAt w1 (.slice aa (allAns s L).length ac) (allAns s L)) := IntsAt.of hr
  have HCF : Hid (∀ W, Keeps w1 W → Calls Try.prog 10 #[stV s (.slice xa s.tab.length xc), .slice la L.length lc] W fun y w' => ∃ qa qc ra rc, TabAt w' (.slice qa (allSt s L).tab.length qc) (allSt s L).tab ∧ IntsAt w' (.slice ra (allAns s L).length rc) (allAns s L) ∧ y = .returned (.tuple #[stV (allSt s L) (.slice qa (allSt s L).tab.length qc), .slice ra (allAns s L).length rc, .int .i64 (foldErr s L)]) ∧ Keeps W w') := by
    intro W hk
    refine (fold_of s L _ _ W (HT.out.keep (HK1.out.trans hk)) (HL.out.keep (HK1.out.trans hk))).mono ?_
    rintro y w' ⟨x2, av2, ho, hr, rfl, hb⟩
    obtain ⟨qa, qc, rfl, _⟩ := ho.tab.len
    obtain ⟨ra, rc, hav, _⟩ := (RowAt.of_owns hr).len
    subst hav
    exact ⟨qa, qc, ra, rc, ho.tab, IntsAt.of hr, rfl, hb⟩
  clear k1 B1 ho hr hb
  clear W1
  generalize foldErr s L = er at *
  generalize allSt s L = t at *
  generalize allAns s L = an at *
  have b0 := HB1.out.c0
  have b1 := HB1.out.c1
  have b2 := HB1.out.c2
  have b3 := HB1.out.c3
  have b4 := HB1.out.c4
  have b5 := HB1.out.c5
  have b6 := HB1.out.c6
  have bl := HB1.out.lt
  go_wp2_with fail
  have X2 : StBox w1.heap.size t (.slice pa t.tab.length pc) (w1.alloc (.cells #[.int .i64 t.at_, .int .i64 t.clock, .int .i64 t.v0, .int .i64 t.v1, .int .i64 t.v2, .int .i64 t.v3, .slice pa t.tab.length pc] 25)) := StBox.new w1 t _ 25
  have k12 : Keeps w1 (w1.alloc (.cells #[.int .i64 t.at_, .int .i64 t.clock, .int .i64 t.v0, .int .i64 t.v1, .int .i64 t.v2, .int .i64 t.v3, .slice pa t.tab.length pc] 25)) := (Keeps.refl _).alloc _
  generalize (w1.alloc (.cells #[.int .i64 t.at_, .int .i64 t.clock, .int .i64 t.v0, .int .i64 t.v1, .int .i64 t.v2, .int .i64 t.v3, .slice pa t.tab.length pc] 25)) = w3 at *
  generalize w1.heap.size = XB at *
  refine (HCF.out w3 k12).mono ?_
  rintro y w4 ⟨qa, qc, ra, rc, hTY, hIY, rfl, hb⟩
  have k14 := k12.trans hb
  have HX4 : Hid (StBox XB t (.slice pa t.tab.length pc) w4) := X2.keep hb
  have HK4 : Hid (Keeps w w4) := HK1.out.trans k14
  have HO4 : Hid (TabAt w4 (.slice pa t.tab.length pc) t.tab) := HO1.out.keep k14
  have HI4 : Hid (IntsAt w4 (.slice aa an.length ac) an) := HI1.out.keep k14
  have HTY4 : Hid (TabAt w4 (.slice qa t.tab.length qc) t.tab) := hTY
  have HIY4 : Hid (IntsAt w4 (.slice ra an.length rc) an) := hIY
  clear X2 k12 hb hTY hIY HCF HK1 HB1 HO1 HI1 k14 b0 b1 b2 b3 b4 b5 b6 bl
  clear w3
  go_wp2_with fail
  have Y5 : StBox w4.heap.size t (.slice qa t.tab.length qc) (w4.alloc (.cells #[.int .i64 t.at_, .int .i64 t.clock, .int .i64 t.v0, .int .i64 t.v1, .int .i64 t.v2, .int .i64 t.v3, .slice qa t.tab.length qc] 25)) := StBox.new w4 t _ 25
  have k45 : Keeps w4 (w4.alloc (.cells #[.int .i64 t.at_, .int .i64 t.clock, .int .i64 t.v0, .int .i64 t.v1, .int .i64 t.v2, .int .i64 t.v3, .slice qa t.tab.length qc] 25)) := (Keeps.refl _).alloc _
  generalize (w4.alloc (.cells #[.int .i64 t.at_, .int .i64 t.clock, .int .i64 t.v0, .int .i64 t.v1, .int .i64 t.v2, .int .i64 t.v3, .slice qa t.tab.length qc] 25)) = w5 at *
  generalize w4.heap.size = YB at *
  refine (fold_begun w5).mono ?_
  rintro y w6 ⟨rfl, hb⟩
  have HK56 : Hid (Keeps w5 w6) := hb
  have k46 := k45.trans hb
  clear hb
  go_wp2_with fail
  refine (fold_check L _ w6 (HL.out.keep (HK4.out.trans k46))).mono ?_
  rintro y w7 ⟨rfl, hb⟩
  have HK58 : Hid (Keeps w5 w7) := HK56.out.trans hb
  have k47 := k46.trans hb
  clear hb
  go_wp2_with fail
  refine (list_error L _ w7 (HL.out.keep (HK4.out.trans k47))).mono ?_
  rintro y w8 ⟨rfl, hb⟩
  have k48 := k47.trans hb
  have X8 := HX4.out.keep k48
  have Y8 : StBox YB t (.slice qa t.tab.length qc) w8 := Y5.keep (HK58.out.trans hb)
  have x0 := X8.c0
  have x1 := X8.c1
  have x2 := X8.c2
  have x3 := X8.c3
  have x4 := X8.c4
  have x5 := X8.c5
  have x6 := X8.c6
  have xl := X8.lt
  have y0 := Y8.c0
  have y1 := Y8.c1
  have y2 := Y8.c2
  have y3 := Y8.c3
  have y4 := Y8.c4
  have y5 := Y8.c5
  have y6 := Y8.c6
  have yl := Y8.lt
  have HK48 : Hid (Keeps w4 w8) := k48
  clear hb k46 k47 k48 X8 Y8
  go_wp2_with fail
  refine (same_of t t _ _ w8 (HO4.out.keep HK48.out) (HTY4.out.keep HK48.out)).mono ?_
  rintro y w9 ⟨rfl, hb⟩
  rw [show sameSt t t = true from same_st_iff.2 rfl]
  have HK49 : Hid (Keeps w4 w9) := HK48.out.trans hb
  clear hb x0 x1 x2 x3 x4 x5 x6 xl y0 y1 y2 y3 y4 y5 y6 yl
  go_wp2_with fail
  refine (same_ints an an _ _ w9 (HI4.out.keep HK49.out) (HIY4.out.keep HK49.out)).mono ?_
  rintro y w10 ⟨rfl, hb⟩
  rw [show sameInts an an = true from sameInts_iff.2 rfl]
  have HK4A : Hid (Keeps w w10) := HK4.out.trans (HK49.out.trans hb)
  clear hb
  go_wp2_with fail
  go_ret
  exact ⟨by simp, HK4A.out⟩
end Go.Proofs.Yteabfjpajgakiac

/- The iterator of trace: the entries by which an op was done, with their places. -/
set_option linter.unusedSimpArgs false
set_option linter.unusedVariables false
set_option maxRecDepth 10000
namespace Go.Proofs.Yteabfjpajgakiac
open Go.RowKit Go.Shelf
attribute [local go_sem] Oper.semAt_some

/-- The state behind the first entries, from the beginning on. -/
def atSt (L : List Ent) (j : Nat) : St := runSt zeroSt (L.take j)

theorem zero_right : stErr zeroSt = 0 := by decide
theorem atSt_right {L : List Ent} (hL : ∀ e ∈ L, entErr e = 0) (hlen : L.length ≤ 50) (j : Nat) (hj : j ≤ L.length) : stErr (atSt L j) = 0 ∧ (atSt L j).at_ = j := by
  have h := run_right (L := L.take j) zero_right (fun e he => hL e (List.mem_of_mem_take he)) (by show (0 : Int) + _ ≤ 50; simp; omega)
  refine ⟨h.1, h.2.trans ?_⟩
  show (0 : Int) + _ = _
  simp
  omega
theorem atSt_succ {L : List Ent} {j : Nat} (hj : j < L.length) : atSt L (j + 1) = oneSt (atSt L j) (L[j]) := by
  unfold atSt
  rw [List.take_succ_eq_append_getElem hj, runSt_snoc]

set_option maxHeartbeats 2000000 in
theorem doers_in (n l bL : Nat) (L : List Ent) (la : Option Addr) (lc : Nat) (hL : ∀ e ∈ L, entErr e = 0) (hlen : L.length ≤ 50) (W0 : World) (hE : EntsAt W0 (.slice la L.length lc) L)
    (J : Nat → Nat → World → Prop) (hJ : ∀ bS i W W', J bS i W → But bS W W' → J bS i W')
    (hN : ∀ bS i W (hi : i < L.length), oneDone (atSt L i) (L[i]) = false → J bS i W → J bS (i + 1) W)
    (hY : ∀ bS i Wb W1 (hi : i < L.length), oneDone (atSt L i) (L[i]) = true → J bS i Wb → Keeps Wb W1 → W0.heap.size ≤ bS → bS < Wb.heap.size → Keeps W0 Wb → YieldAt Fence.wide (n - 1) Try.prog l #[.int .i64 i, entV (L[i])] W1 fun e W' => e = .returned (.bool true) ∧ J bS (i + 1) W' ∧ Spares (fun k => k < W0.heap.size ∨ k = bS ∨ Wb.heap.size ≤ k) W1 W')
    (W : World) (hk0 : Keeps W0 W) (hbL : W.cell? ⟨bL, 0, none⟩ = some (.slice la L.length lc)) (h0 : ∀ V bS, Keeps W V → W.heap.size ≤ bS → J bS 0 V) :
    CallsIn Fence.wide n Try.prog 62 #[.func (.yield l) #[] #[], .pointer (some ⟨bL, 0, none⟩)] W fun e W' => (∃ v, e = .returned v) ∧ ∃ bS, J bS L.length W' := by
  have HE : Hid (EntsAt W0 (.slice la L.length lc) L) := hE
  have HJ : Hid (∀ bS i W W', J bS i W → But bS W W' → J bS i W') := hJ
  have HN := (show Hid _ from hN)
  have HY := (show Hid _ from hY)
  have HLE : Hid (∀ e ∈ L, entErr e = 0) := hL
  have H0 : Hid (∀ V bS, Keeps W V → W.heap.size ≤ bS → J bS 0 V) := h0
  have HK0 : Hid (Keeps W0 W) := hk0
  have HBL : Hid (W.cell? ⟨bL, 0, none⟩ = some (.slice la L.length lc)) := hbL
  clear hE hJ hN hY hL h0 hk0 hbL
  refine callsIn_of_wp Try.func62 rfl trivial ?_ rfl
  simp only [Try.ntmps62, List.size_toArray, List.length_cons, List.length_nil, Nat.reduceAdd, Nat.reduceSub, Array.replicate_succ, Array.replicate_zero, List.push_toArray, List.append_toArray, List.nil_append, List.cons_append]
  gi_wp2
  refine ⟨trivial, (fun h => (by cases h)), CallsIn.mono (callsIn_wide.2 (begin_c _)) ?_⟩
  rintro y w1 ⟨rfl, hb⟩
  have k2 : Keeps W (w1.alloc (.cells #[.int .i64 0, .int .i64 0, .int .i64 0, .int .i64 0, .int .i64 0, .int .i64 0, .slice none 0 0] 25)) := hb.alloc _
  have hbL := cell_kept HBL.out k2
  have hlL := World.block_lt_of_cell? _ _ hbL
  simp only [] at hlL
  have HB2 : Hid (StBox w1.heap.size zeroSt (.slice none 0 0) (w1.alloc (.cells #[.int .i64 0, .int .i64 0, .int .i64 0, .int .i64 0, .int .i64 0, .int .i64 0, .slice none 0 0] 25))) := StBox.new w1 zeroSt (.slice none 0 0) 25
  have HJ2 : Hid (J w1.heap.size 0 (w1.alloc (.cells #[.int .i64 0, .int .i64 0, .int .i64 0, .int .i64 0, .int .i64 0, .int .i64 0, .slice none 0 0] 25))) := H0.out _ _ k2 hb.size
  have HK2 : Hid (Keeps W0 (w1.alloc (.cells #[.int .i64 0, .int .i64 0, .int .i64 0, .int .i64 0, .int .i64 0, .int .i64 0, .slice none 0 0] 25))) := HK0.out.trans k2
  have hbS : W0.heap.size ≤ w1.heap.size := Nat.le_trans HK0.out.size hb.size
  clear hb H0 k2
  gi_wp2
  generalize (w1.alloc (.cells #[.int .i64 0, .int .i64 0, .int .i64 0, .int .i64 0, .int .i64 0, .int .i64 0, .slice none 0 0] 25)) = W2 at *
  generalize w1.heap.size = bS at *
  gi_loopw [13] (fun i wr => ∃ (j : Nat), j ≤ L.length ∧ i = .int .i64 j ∧ Hid (J bS j wr) ∧ Hid (∃ y, StBox bS (atSt L j) y wr ∧ TabAt wr y (atSt L j).tab) ∧ Hid (Keeps W0 wr)) (fun i _ => L.length - (intOf i).toNat)
  case atStart => exact ⟨0, Nat.zero_le _, rfl, HJ2, ⟨_, HB2.out, (OwnTab.nil 0 _).tab⟩, HK2⟩
  case round =>
    obtain ⟨j, hj, rfl, HJj, HX, HKw⟩ := hrel
    by_cases hlt : j < L.length
    · obtain ⟨b, off, cap', hv, c0, c1, c2, c3, c4, c5, c6, c7, c8⟩ := (HE.out.keep HKw.out).at hlt
      injection hv with hv1 hv2 hv3
      subst hv1
      clear hv2 hv3
      obtain ⟨y, hBy, hTy⟩ := HX.out
      obtain ⟨ya, yc, rfl, _⟩ := hTy.len
      have hst := atSt_right HLE.out hlen j hj
      have hent := HLE.out _ (List.getElem_mem hlt)
      have hbe : bothErr (atSt L j) (L[j]) = 0 := both_zero hst.1 hent (by rw [hst.2]; omega)
      have HNX : Hid (atSt L (j + 1) = oneSt (atSt L j) (L[j])) := atSt_succ hlt
      have HYj := (show Hid _ from fun Wb W1 => HY.out bS j Wb W1 hlt)
      have HNj := (show Hid _ from fun V => HN.out bS j V hlt)
      have HBy : Hid (StBox bS (atSt L j) (.slice ya (atSt L j).tab.length yc) wr) := hBy
      have HTy : Hid (TabAt wr (.slice ya (atSt L j).tab.length yc) (atSt L j).tab) := hTy
      have HBE : Hid (bothErr (atSt L j) (L[j]) = 0) := hbe
      clear hBy hTy hst hent hbe HX HY HN HB2 HJ2 HK2 HK0 HLE HBL
      obtain ⟨t', htt⟩ : ∃ t', oneSt (atSt L j) (L[j]) = t' := ⟨_, rfl⟩
      rw [htt] at HNX
      have HTT : Hid (oneSt (atSt L j) (L[j]) = t') := htt
      clear htt
      generalize atSt L j = t at *
      generalize L[j] = e at *
      have b0 := HBy.out.c0
      have b1 := HBy.out.c1
      have b2 := HBy.out.c2
      have b3 := HBy.out.c3
      have b4 := HBy.out.c4
      have b5 := HBy.out.c5
      have b6 := HBy.out.c6
      have bl := HBy.out.lt
      gi_wp2
      have kB : Keeps wr (wr.alloc (.cells #[.int .i64 e.kind, .int .i64 e.time, .int .i64 e.client, .int .i64 e.seq, .int .i64 e.ack, .int .i64 e.ok, .int .i64 e.okey, .int .i64 e.oto, .int .i64 e.on] 57)) := (Keeps.refl _).alloc _
      have EB : EntBox wr.heap.size e (wr.alloc (.cells #[.int .i64 e.kind, .int .i64 e.time, .int .i64 e.client, .int .i64 e.seq, .int .i64 e.ack, .int .i64 e.ok, .int .i64 e.okey, .int .i64 e.oto, .int .i64 e.on] 57)) := EntBox.new wr e 57
      have hEB : wr.heap.size < (wr.alloc (.cells #[.int .i64 e.kind, .int .i64 e.time, .int .i64 e.client, .int .i64 e.seq, .int .i64 e.ack, .int .i64 e.ok, .int .i64 e.okey, .int .i64 e.oto, .int .i64 e.on] 57)).heap.size := by simp
      generalize (wr.alloc (.cells #[.int .i64 e.kind, .int .i64 e.time, .int .i64 e.client, .int .i64 e.seq, .int .i64 e.ack, .int .i64 e.ok, .int .i64 e.okey, .int .i64 e.oto, .int .i64 e.on] 57)) = wB at *
      generalize wr.heap.size = eB at *
      refine ⟨trivial, (fun h => (by cases h)), CallsIn.mono (callsIn_wide.2 (one_c t e _ wB (HTy.out.keep kB))) ?_⟩
      rintro y w1 ⟨x', ho, rfl, hb⟩
      rw [HTT.out] at ho ⊢
      rw [HBE.out]
      obtain ⟨za, zc, rfl, _⟩ := ho.tab.len
      have HO : Hid (OwnTab wB.heap.size w1 (.slice za t'.tab.length zc) t'.tab) := ho
      have HBb : Hid (StBox bS t (.slice ya t.tab.length yc) w1) := (HBy.out.keep kB).keep hb
      have hbB := (HBy.out.keep kB).lt
      have HKB : Hid (Keeps W0 wB) := HKw.out.trans kB
      have HJB : Hid (J bS j wB) := HJ.out _ _ _ _ HJj.out (But.of kB)
      have HKb : Hid (Keeps wB w1) := hb
      have hzB := hb.size
      have HEB : Hid (EntBox eB e w1) := EB.keep hb
      clear ho b0 b1 b2 b3 b4 b5 b6 bl c0 c1 c2 c3 c4 c5 c6 c7 c8 HBy HTy HBE HKw HJj kB hb HE EB HTT
      generalize oneAns t e = an at *
      cases hdn : oneDone t e with
      | false =>
        have HJN := (show Hid _ from fun V => HNj.out V hdn)
        have k13 : Keeps w1 (w1.alloc (.cells #[.int .i64 t'.at_, .int .i64 t'.clock, .int .i64 t'.v0, .int .i64 t'.v1, .int .i64 t'.v2, .int .i64 t'.v3, .slice za t'.tab.length zc] 25)) := (Keeps.refl _).alloc _
        have T3 : StBox w1.heap.size t' (.slice za t'.tab.length zc) (w1.alloc (.cells #[.int .i64 t'.at_, .int .i64 t'.clock, .int .i64 t'.v0, .int .i64 t'.v1, .int .i64 t'.v2, .int .i64 t'.v3, .slice za t'.tab.length zc] 25)) := StBox.new w1 t' _ 25
        have HB3 : Hid (StBox bS t (.slice ya t.tab.length yc) (w1.alloc (.cells #[.int .i64 t'.at_, .int .i64 t'.clock, .int .i64 t'.v0, .int .i64 t'.v1, .int .i64 t'.v2, .int .i64 t'.v3, .slice za t'.tab.length zc] 25))) := HBb.out.keep k13
        have HO3 : Hid (OwnTab wB.heap.size (w1.alloc (.cells #[.int .i64 t'.at_, .int .i64 t'.clock, .int .i64 t'.v0, .int .i64 t'.v1, .int .i64 t'.v2, .int .i64 t'.v3, .slice za t'.tab.length zc] 25)) (.slice za t'.tab.length zc) t'.tab) := HO.out.keep k13
        have HK3 : Hid (Keeps W0 (w1.alloc (.cells #[.int .i64 t'.at_, .int .i64 t'.clock, .int .i64 t'.v0, .int .i64 t'.v1, .int .i64 t'.v2, .int .i64 t'.v3, .slice za t'.tab.length zc] 25))) := (HKB.out.trans HKb.out).trans k13
        have HJ3 : Hid (J bS j (w1.alloc (.cells #[.int .i64 t'.at_, .int .i64 t'.clock, .int .i64 t'.v0, .int .i64 t'.v1, .int .i64 t'.v2, .int .i64 t'.v3, .slice za t'.tab.length zc] 25))) := HJ.out _ _ _ _ HJB.out (But.of (HKb.out.trans k13))
        have e3 := HEB.out
        have x0 := e3.c0
        have x1 := e3.c1
        have x2 := e3.c2
        have x3 := e3.c3
        have x4 := e3.c4
        have x5 := e3.c5
        have x6 := e3.c6
        have x7 := e3.c7
        have x8 := e3.c8
        have xl := e3.lt
        clear e3
        have b0 := HB3.out.c0
        have b1 := HB3.out.c1
        have b2 := HB3.out.c2
        have b3 := HB3.out.c3
        have b4 := HB3.out.c4
        have b5 := HB3.out.c5
        have b6 := HB3.out.c6
        have bf := HB3.out.fz
        have bl := HB3.out.lt
        clear hdn HYj HNj HBb HO HJB T3 k13
        gi_wp2
        refine ⟨(fun f h => (by cases h)), ?_⟩
        go_at_K
        gi_wp2
        generalize (w1.alloc (.cells #[.int .i64 t'.at_, .int .i64 t'.clock, .int .i64 t'.v0, .int .i64 t'.v1, .int .i64 t'.v2, .int .i64 t'.v3, .slice za t'.tab.length zc] 25)) = W3 at *
        have BP := HB3.out.put t' (.slice za t'.tab.length zc)
        have BT := But.puts (b := bS) W3 t' (.slice za t'.tab.length zc)
        go_roundw
        case rel => exact ⟨j + 1, by omega, by go_num, HJN.out _ (HJ.out _ _ _ _ HJ3.out BT), (by show ∃ y, _; rw [HNX.out]; exact ⟨_, BP, (HO3.out.but hbB BT).tab⟩), But.to HK3.out hbS BT⟩
        case measure => simp [intOf]; omega
      | true =>
        obtain ⟨fn, tmps, assign, body, hy, hR⟩ := HYj.out wB (w1.alloc (.cells #[.int .i64 t'.at_, .int .i64 t'.clock, .int .i64 t'.v0, .int .i64 t'.v1, .int .i64 t'.v2, .int .i64 t'.v3, .slice za t'.tab.length zc] 25)) hdn HJB.out (HKb.out.alloc _) hbS hbB HKB.out
        have k13 : Keeps w1 (w1.alloc (.cells #[.int .i64 t'.at_, .int .i64 t'.clock, .int .i64 t'.v0, .int .i64 t'.v1, .int .i64 t'.v2, .int .i64 t'.v3, .slice za t'.tab.length zc] 25)) := (Keeps.refl _).alloc _
        have e3 := HEB.out.keep k13
        have e3' := HEB.out
        have x0 := e3.c0
        have x1 := e3.c1
        have x2 := e3.c2
        have x3 := e3.c3
        have x4 := e3.c4
        have x5 := e3.c5
        have x6 := e3.c6
        have x7 := e3.c7
        have x8 := e3.c8
        have xl := e3.lt
        clear e3 e3' hdn
        gi_wp2
        refine ⟨(fun h => (by cases h)), hR.mono ?_⟩
        rintro e' W3 ⟨rfl, hJ3, hsp⟩
        have T3 : StBox w1.heap.size t' (.slice za t'.tab.length zc) W3 := (StBox.new w1 t' _ 25).spared hsp (.inr (.inr hzB))
        have B3 : StBox bS t (.slice ya t.tab.length yc) W3 := (HBb.out.keep ((Keeps.refl _).alloc _)).spared hsp (.inr (.inl rfl))
        have O3 : OwnTab wB.heap.size W3 (.slice za t'.tab.length zc) t'.tab := (HO.out.keep ((Keeps.refl _).alloc _)).spared hsp (fun k hk _ => .inr (.inr hk))
        have K3 : Keeps W0 W3 := hsp.keeps (HKB.out.trans (HKb.out.alloc _)) (fun k hk => .inl hk)
        have HJ3 : Hid (J bS (j + 1) W3) := hJ3
        have HB3 : Hid (StBox bS t (.slice ya t.tab.length yc) W3) := B3
        have HO3 : Hid (OwnTab wB.heap.size W3 (.slice za t'.tab.length zc) t'.tab) := O3
        have HK3 : Hid (Keeps W0 W3) := K3
        have t0 := T3.c0
        have t1 := T3.c1
        have t2 := T3.c2
        have t3 := T3.c3
        have t4 := T3.c4
        have t5 := T3.c5
        have t6 := T3.c6
        have tl := T3.lt
        have b0 := B3.c0
        have b1 := B3.c1
        have b2 := B3.c2
        have b3 := B3.c3
        have b4 := B3.c4
        have b5 := B3.c5
        have b6 := B3.c6
        have bf := B3.fz
        have bl := B3.lt
        have hne : (w1.heap.size = bS) = False := eq_false (by omega)
        have hne2 : (bS = w1.heap.size) = False := eq_false (by omega)
        clear hy hR hJ3 hsp T3 B3 O3 K3 HYj HNj k13 x0 x1 x2 x3 x4 x5 x6 x7 x8 xl
        gi_wp2
        have BP := HB3.out.put t' (.slice za t'.tab.length zc)
        have BT := But.puts (b := bS) W3 t' (.slice za t'.tab.length zc)
        go_roundw
        case rel => exact ⟨j + 1, by omega, by go_num, HJ.out _ _ _ _ HJ3.out BT, (by show ∃ y, _; rw [HNX.out]; exact ⟨_, BP, (HO3.out.but hbB BT).tab⟩), But.to HK3.out hbS BT⟩
        case measure => simp [intOf]; omega
    · gi_wp2
      go_end0
      have : j = L.length := by omega
      subst this
      exact ⟨⟨_, rfl⟩, bS, HJj.out⟩
end Go.Proofs.Yteabfjpajgakiac

/- trace.Done. -/
set_option linter.unusedSimpArgs false
set_option linter.unusedVariables false
set_option maxRecDepth 10000
namespace Go.Proofs.Yteabfjpajgakiac
open Go.RowKit Go.Shelf
attribute [local go_sem] Oper.semAt_some

theorem runDone_at : ∀ (s : St) (L : List Ent) (j : Nat) (hj : j < L.length), (runDone s L)[j]? = some (oneDone (runSt s (L.take j)) (L[j]))
  | s, e :: r, 0, _ => rfl
  | s, e :: r, j + 1, h => runDone_at (oneSt s e) r j (by simpa using h)

def doneB (L : List Ent) (j : Nat) : Bool := if h : j < L.length then oneDone (atSt L j) (L[j]) else false
def doneTo (L : List Ent) (i j : Nat) : Bool := decide (j < i) && doneB L j
theorem doneB_at {L : List Ent} {j : Nat} (h : j < L.length) : doneB L j = oneDone (atSt L j) (L[j]) := by simp [doneB, h]
theorem runDone_bool {L : List Ent} {j : Nat} (h : j < L.length) : (runDone zeroSt L)[j]? = some (doneTo L L.length j) := by
  rw [runDone_at _ _ _ h, doneTo, doneB_at h]
  simp [h, atSt]

def doneL (L : List Ent) : List Bool := if listErr L == 0 then runDone zeroSt L else []

theorem doers_made (la : Option Addr) (ln lc : Nat) (w : World) :
    Calls Try.prog 42 #[.slice la ln lc] w fun y w' => y = .returned (.func (.func 62) #[] #[.pointer (some ⟨w.heap.size, 0, none⟩)]) ∧ w' = w.alloc (.cells #[.slice la ln lc] 26) := by
  go_enter Try.func42, Try.ntmps42
  go_wp2_with fail
  go_ret
  exact ⟨rfl, rfl⟩

theorem make_bools (w : World) (n : Nat) (hn : n ≤ 50) : (Instr.makeSlice 39 (.int .i64 n) (.int .i64 n)).run Try.prog w = .ok (.slice (some ⟨w.heap.size, 0, none⟩) n n) (w.alloc (.cells (madeCells #[.bool false] n) 4)) := by
  obtain ⟨i, hi, hz, hs, hb⟩ := info_parts infoBool
  have := run_makeSlice (P := Try.prog) w 39 4 i _ Try.underlying39 hi hz .i64 .i64 n n (by omega) (by omega) (by rw [hs]; simp; omega) (by rw [hb]; omega) (by omega)
  rw [this, hs]
  simp [Value.cells]
theorem made_bool (w : World) (n j : Nat) (hj : j < n) : (w.alloc (.cells (madeCells #[.bool false] n) 4)).cell? ⟨w.heap.size, j, none⟩ = some (.bool false) := by
  unfold World.cell?
  rw [World.alloc_heap_new]
  simp [madeCells, hj, Nat.mod_one]

theorem list_right {L : List Ent} (h : listErr L = 0) : (∀ e ∈ L, entErr e = 0) ∧ L.length ≤ 50 := by
  unfold listErr at h
  split at h
  · cases h
  · exact ⟨fent_zero.1 h, by omega⟩

/-- What stands between two rounds of Done's loop. -/
structure DoneAt (L : List Ent) (w : World) (bo g D l : Nat) (r : Loop) (bS i : Nat) (W : World) : Prop where
  box : OneBox bo (.slice (some ⟨g, 0, none⟩) L.length L.length) W
  row : ∀ j, j < L.length → W.cell? ⟨g, j, none⟩ = some (.bool (doneTo L i j))
  fz : ∀ j, W.frozen? ⟨g, j, none⟩ = false
  lt : g < W.heap.size
  loop : W.heap[l]? = some (.loop r)
  mark : W.heap[D]? = some (.deferred (some []))
  keeps : Keeps w W
  far : bS ≠ bo ∧ bS ≠ g ∧ bS ≠ D ∧ bS ≠ l ∧ w.heap.size ≤ bS

theorem DoneAt.but {L : List Ent} {w : World} {bo g D l : Nat} {r : Loop} {bS i : Nat} {W W' : World} (h : DoneAt L w bo g D l r bS i W) (hb : But bS W W') : DoneAt L w bo g D l r bS i W' := by
  obtain ⟨f1, f2, f3, f4, f5⟩ := h.far
  have hg := hb.block g h.lt (Ne.symm f2)
  exact ⟨h.box.same (hb.block bo h.box.lt (Ne.symm f1)), fun j hj => (World.cell?_of_block hg).trans (h.row j hj), fun j => (World.frozen?_of_block hg).trans (h.fz j), Nat.lt_of_lt_of_le h.lt hb.size,
    (hb.block l (Array.getElem?_eq_some_iff.1 h.loop).1 (Ne.symm f4)).trans h.loop, (hb.block D (Array.getElem?_eq_some_iff.1 h.mark).1 (Ne.symm f3)).trans h.mark, But.to h.keeps f5 hb, h.far⟩
theorem doneTo_none {L : List Ent} {i : Nat} (hi : i < L.length) (h : oneDone (atSt L i) (L[i]) = false) (j : Nat) : doneTo L (i + 1) j = doneTo L i j := by
  unfold doneTo
  by_cases e : j = i
  · subst e
    rw [doneB_at hi, h]
    simp
  · rw [show decide (j < i + 1) = decide (j < i) from by rw [decide_eq_decide]; omega]
theorem doneTo_some {L : List Ent} {i : Nat} (hi : i < L.length) (h : oneDone (atSt L i) (L[i]) = true) (j : Nat) : doneTo L (i + 1) j = if j = i then true else doneTo L i j := by
  unfold doneTo
  by_cases e : j = i
  · subst e
    rw [doneB_at hi, h]
    simp
  · rw [show decide (j < i + 1) = decide (j < i) from by rw [decide_eq_decide]; omega, if_neg e]

set_option maxHeartbeats 1000000 in
theorem trace_done (L : List Ent) (v : Value) (w : World) (hL : EntsAt w v L) :
    Calls Try.prog 18 #[v] w fun y w' => ∃ da dc, BoolsAt w' (.slice da (doneL L).length dc) (doneL L) ∧ y = .returned (.tuple #[.slice da (doneL L).length dc, .int .i64 (listErr L)]) ∧ Keeps w w' := by
  obtain ⟨la, lc, rfl, hlen⟩ := hL.len
  unfold maxLen at hlen
  have HL : Hid (EntsAt w (.slice la L.length lc) L) := hL
  have HD : Hid (doneL L = if listErr L == 0 then runDone zeroSt L else []) := rfl
  clear hL
  refine (callsIn_wide (n := 3)).1 ?_
  refine callsIn_of_wp_marks Try.func18 rfl trivial ?_ rfl
  simp only [Try.ntmps18, List.size_toArray, List.length_cons, List.length_nil, Nat.reduceAdd, Nat.reduceSub, Array.replicate_succ, Array.replicate_zero, List.push_toArray, List.append_toArray, List.nil_append, List.cons_append]
  gi_wp2
  refine ⟨trivial, CallsIn.mono (callsIn_wide.2 (fold_check L _ w HL.out)) ?_⟩
  rintro y w1 ⟨rfl, hb⟩
  have HK1 : Hid (Keeps w w1) := hb
  clear hb
  cases q : (listErr L == 0) with
  | false =>
    have q' : (listErr L != 0) = true := by simp [bne, q]
    have H1 : Hid (doneL L = []) := by show _ = _; rw [HD.out, q]; rfl
    gi_wp2
    refine ⟨.tuple #[.slice none 0 0, .int .i64 (listErr L)], ?_, ?_⟩
    · simp [results, Try.results18, go_sem]
    · rw [H1.out]
      exact ⟨none, 0, ⟨rfl, by unfold maxLen; simp, .inl ⟨rfl, rfl⟩⟩, rfl, HK1.out⟩
  | true =>
    have q' : (listErr L != 0) = false := by simp [bne, q]
    have q0 : listErr L = 0 := by simpa using q
    obtain ⟨hE, h50⟩ := list_right q0
    have H1 : Hid (doneL L = runDone zeroSt L ∧ listErr L = 0) := ⟨by rw [HD.out, q]; rfl, q0⟩
    have HER : Hid (∀ e ∈ L, entErr e = 0) := hE
    have hmk := make_bools w1 L.length h50
    clear hE q0
    gi_wp2
    clear hmk
    obtain ⟨W4, hW4⟩ : ∃ z, z = (w1.alloc (.cells (madeCells #[.bool false] L.length) 4)).alloc (.cells #[.slice (some ⟨w1.heap.size, 0, none⟩) L.length L.length] 39) := ⟨_, rfl⟩
    have hz4 : W4.heap.size = w1.heap.size + 2 := by rw [hW4]; simp
    have k14 : Keeps w1 W4 := by rw [hW4]; exact ((Keeps.refl _).alloc _).alloc _
    have R4 : ∀ j, j < L.length → W4.cell? ⟨w1.heap.size, j, none⟩ = some (.bool false) := fun j hj => by rw [hW4]; exact cell_kept (made_bool w1 _ j hj) ((Keeps.refl _).alloc _)
    have F4 : ∀ j, W4.frozen? ⟨w1.heap.size, j, none⟩ = false := fun j => by rw [hW4]; simp [go_sem]
    have A4 : OneBox (w1.heap.size + 1) (.slice (some ⟨w1.heap.size, 0, none⟩) L.length L.length) W4 := by rw [hW4]; exact ⟨by simp [go_sem], fun i => by simp [go_sem]⟩
    rw [← hW4]
    clear hW4
    refine ⟨trivial, CallsIn.mono (callsIn_wide.2 (doers_made la L.length lc W4)) ?_⟩
    rintro y W5 ⟨rfl, hW5⟩
    have hz5 : W5.heap.size = w1.heap.size + 3 := by rw [hW5]; simp [hz4]
    have k45 : Keeps W4 W5 := by rw [hW5]; exact (Keeps.refl _).alloc _
    have L5 : W5.cell? ⟨w1.heap.size + 2, 0, none⟩ = some (.slice la L.length lc) := by rw [hW5]; simp [go_sem, hz4]
    rw [hz4]
    have HA5 : Hid (OneBox (w1.heap.size + 1) (.slice (some ⟨w1.heap.size, 0, none⟩) L.length L.length) W5) := A4.same (k45.block _ A4.lt)
    have HR5 : Hid (∀ j, j < L.length → W5.cell? ⟨w1.heap.size, j, none⟩ = some (.bool false)) := fun j hj => cell_kept (R4 j hj) k45
    have HF5 : Hid (∀ j, W5.frozen? ⟨w1.heap.size, j, none⟩ = false) := fun j => (Below.frozen k45 (p := ⟨w1.heap.size, j, none⟩) (by show w1.heap.size < W4.heap.size; omega)).trans (F4 j)
    have HK5 : Hid (Keeps w W5) := HK1.out.trans (k14.trans k45)
    have HE5 : Hid (W5.cell? ⟨w1.heap.size + 2, 0, none⟩ = some (.slice la L.length lc)) := L5
    have hw1 := HK1.out.size
    clear A4 R4 F4 L5 k14 k45 hW5 hz4
    clear W4
    gi_wp2
    refine range_walk rfl (by decide) (gf := 62) (lb := #[.pointer (some ⟨w1.heap.size + 2, 0, none⟩)]) rfl trivial (enters_of Try.func62 (by kernel_rfl) rfl) ?_
    intro r hrf hrs hrp e1 e2 e3 e4
    have HRS : Hid (r.state = .ready) := hrs
    have HRP : Hid (r.pending = none) := hrp
    have k56 : Keeps W5 ((W5.alloc (.deferred (some []))).alloc (.loop r)) := ((Keeps.refl _).alloc _).alloc _
    have l6 : ((W5.alloc (.deferred (some []))).alloc (.loop r)).heap[W5.heap.size + 1]? = some (.loop r) := by
      have := World.alloc_heap_new (W5.alloc (.deferred (some []))) (.loop r)
      rwa [World.size_alloc] at this
    have d6 : ((W5.alloc (.deferred (some []))).alloc (.loop r)).heap[W5.heap.size]? = some (.deferred (some [])) := (Below.heap_alloc _ _ _ (by simp)).trans (World.alloc_heap_new W5 _)
    have hz6 : ((W5.alloc (.deferred (some []))).alloc (.loop r)).heap.size = W5.heap.size + 2 := by simp
    generalize ((W5.alloc (.deferred (some []))).alloc (.loop r)) = W6 at *
    have J0 : ∀ V bS, Keeps W6 V → W6.heap.size ≤ bS → DoneAt L w (w1.heap.size + 1) w1.heap.size W5.heap.size (W5.heap.size + 1) r bS 0 V := by
      intro V bS hk hbS
      have kV := k56.trans hk
      have hzV := hk.size
      exact ⟨HA5.out.same (kV.block _ HA5.out.lt), fun j hj => cell_kept (HR5.out j hj) kV, fun j => (Below.frozen kV (p := ⟨w1.heap.size, j, none⟩) (by show w1.heap.size < W5.heap.size; omega)).trans (HF5.out j), by omega,
        (hk.block _ (by omega)).trans l6, (hk.block _ (by omega)).trans d6, HK5.out.trans kV, by refine ⟨?_, ?_, ?_, ?_, ?_⟩ <;> omega⟩
    refine CallsIn.mono (doers_in 2 (W5.heap.size + 1) (w1.heap.size + 2) L la lc HER.out h50 w HL.out (DoneAt L w (w1.heap.size + 1) w1.heap.size W5.heap.size (W5.heap.size + 1) r) (fun bS i W W' h hb => h.but hb) (fun bS i W hi hdn h => ⟨h.box, fun j hj => by rw [doneTo_none hi hdn]; exact h.row j hj, h.fz, h.lt, h.loop, h.mark, h.keeps, h.far⟩) ?yield W6 (HK5.out.trans k56) (cell_kept HE5.out k56) J0) ?done
    case done =>
      rintro e W7 ⟨hv, bS, hJ⟩
      refine ⟨hv, hJ.loop, ?_⟩
      have bt8 : But (W5.heap.size + 1) W7 (W7.putObj (W5.heap.size + 1) (.loop { r with state := .exhausted })) := But.put _ _ _
      generalize (W7.putObj (W5.heap.size + 1) (.loop { r with state := .exhausted })) = W8 at *
      have hg8 := bt8.block w1.heap.size hJ.lt (by omega)
      have HA8 : Hid (OneBox (w1.heap.size + 1) (.slice (some ⟨w1.heap.size, 0, none⟩) L.length L.length) W8) := hJ.box.same (bt8.block _ hJ.box.lt (by omega))
      have HR8 : Hid (∀ j, j < L.length → W8.cell? ⟨w1.heap.size, j, none⟩ = some (.bool (doneTo L L.length j))) := fun j hj => (World.cell?_of_block hg8).trans (hJ.row j hj)
      have HK8 : Hid (Keeps w W8) := But.to hJ.keeps (by omega) bt8
      have HD8 : Hid (W8.heap[W5.heap.size]? = some (.deferred (some []))) := (bt8.block _ (Array.getElem?_eq_some_iff.1 hJ.mark).1 (by omega)).trans hJ.mark
      have hg8l : w1.heap.size < W8.heap.size := Nat.lt_of_lt_of_le hJ.lt bt8.size
      clear bt8 hJ J0 k56 l6 d6 hz6 hg8
      have a0 := HA8.out.1
      have al := HA8.out.lt
      gi_wp2
      refine ⟨by simp, .inl ⟨_, _, rfl, run_takeDeferred (by rw [← hz5]; exact HD8.out), ?_⟩⟩
      have BD := But.put W8 (w1.heap.size + 3) (.deferred none)
      refine ⟨.tuple #[.slice (some ⟨w1.heap.size, 0, none⟩) L.length L.length, .int .i64 0], ?_, ?_⟩
      · simp [results, Try.results18, go_sem]
      · rw [H1.out.1, H1.out.2]
        have hl : (runDone zeroSt L).length = L.length := runDone_len _ _
        refine ⟨some ⟨w1.heap.size, 0, none⟩, L.length, ?_, by rw [hl], But.to HK8.out (by omega) BD⟩
        refine ⟨by simp [boolCells], by rw [hl]; unfold maxLen; omega, .inr ⟨_, _, by rw [hl], fun j u hu => ?_⟩⟩
        rw [Addr.add_lit, Nat.zero_add]
        have hj : j < L.length := by
          have := (List.getElem?_eq_some_iff.1 hu).1
          simpa [boolCells, hl] using this
        have := runDone_bool hj
        rw [boolCells, List.getElem?_map, this] at hu
        simp only [Option.map_some, Option.some.injEq] at hu
        subst hu
        exact (World.cell?_of_block (BD.block w1.heap.size hg8l (by omega))).trans (HR8.out j hj)
    case yield =>
      intro bS i Wb W1 hi hdn hJb hk hb0 hbS hK0
      have hJ1 := hJb.but (But.of hk)
      refine yield_round hJ1.loop HRS.out HRP.out trivial e1 e2 e3 e4 rfl ?_
      intro rb
      clear e1 e2 e3 e4 hrs hrp hrf HRS HRP J0
      have HJ1 := (show Hid _ from hJ1)
      have HJB := (show Hid _ from hJb)
      have HKb : Hid (Keeps Wb W1) := hk
      have HDN : Hid (oneDone (atSt L i) (L[i]) = true) := hdn
      have HLP : Hid (W1.heap[W5.heap.size + 1]? = some (.loop r)) := hJ1.loop
      have HZ5 : Hid (W5.heap.size = w1.heap.size + 3) := hz5
      clear hdn hJ1 hJb hk hz5
      gi_wp2
      refine ⟨HLP.out, ?_⟩
      have hz5 := HZ5.out
      have hl1 := (Array.getElem?_eq_some_iff.1 HLP.out).1
      have bB : But (W5.heap.size + 1) W1 (W1.putObj (W5.heap.size + 1) (.loop rb)) := But.put _ _ _
      have lB : (W1.putObj (W5.heap.size + 1) (.loop rb)).heap[W5.heap.size + 1]? = some (.loop rb) := World.putObj_heap_same (by omega)
      generalize (W1.putObj (W5.heap.size + 1) (.loop rb)) = WB at *
      have hgB := bB.block w1.heap.size HJ1.out.lt (by omega)
      have AB : OneBox (w1.heap.size + 1) (.slice (some ⟨w1.heap.size, 0, none⟩) L.length L.length) WB := HJ1.out.box.same (bB.block _ HJ1.out.box.lt (by omega))
      have HBB : Hid (But (W5.heap.size + 1) W1 WB) := bB
      have HLB : Hid (WB.heap[W5.heap.size + 1]? = some (.loop rb)) := lB
      have HGB : Hid (WB.heap[w1.heap.size]? = W1.heap[w1.heap.size]?) := hgB
      have a0 := AB.1
      have al := AB.lt
      have g0 : WB.cell? ⟨w1.heap.size, i, none⟩ = some (.bool (doneTo L i i)) := (World.cell?_of_block hgB).trans (HJ1.out.row i hi)
      have gz : WB.frozen? ⟨w1.heap.size, i, none⟩ = false := (World.frozen?_of_block hgB).trans (HJ1.out.fz i)
      clear bB lB hgB AB hz5
      gi_wp2
      have hz5 := HZ5.out
      have bS2 : But w1.heap.size WB (WB.setCell ⟨w1.heap.size, i, none⟩ (.bool true)) := (But.refl _ _).set i _
      have hl2 := (bS2.block _ (by have := (Array.getElem?_eq_some_iff.1 HLB.out).1; exact this) (by omega)).trans HLB.out
      refine ⟨hl2, ?_⟩
      have hl3 := (Array.getElem?_eq_some_iff.1 hl2).1
      have BF : But (W5.heap.size + 1) (WB.setCell ⟨w1.heap.size, i, none⟩ (.bool true)) ((WB.setCell ⟨w1.heap.size, i, none⟩ (.bool true)).putObj (W5.heap.size + 1) (.loop r)) := But.put _ _ _
      have hLF := World.putObj_heap_same (w := WB.setCell ⟨w1.heap.size, i, none⟩ (.bool true)) (o := .loop r) hl3
      have hset : ∀ j, j < L.length → (WB.setCell ⟨w1.heap.size, i, none⟩ (.bool true)).cell? ⟨w1.heap.size, j, none⟩ = some (.bool (doneTo L (i + 1) j)) := by
        intro j hj
        rw [doneTo_some hi HDN.out]
        by_cases e : j = i
        · subst e
          rw [if_pos rfl]
          exact World.cell?_setCell_same _ _ _ g0
        · rw [if_neg e, World.cell?_setCell_other _ _ _ _ (by intro h; injection h with h1 h2; exact e h2.symm)]
          exact (World.cell?_of_block HGB.out).trans (HJ1.out.row j hj)
      have hfz : ∀ j, (WB.setCell ⟨w1.heap.size, i, none⟩ (.bool true)).frozen? ⟨w1.heap.size, j, none⟩ = false := fun j => (World.frozen?_setCell _ _ _ _).trans ((World.frozen?_of_block HGB.out).trans (HJ1.out.fz j))
      generalize (WB.setCell ⟨w1.heap.size, i, none⟩ (.bool true)) = WC at *
      generalize (WC.putObj (W5.heap.size + 1) (.loop r)) = WF at *
      have hgl : w1.heap.size < WC.heap.size := Nat.lt_of_lt_of_le (Nat.lt_of_lt_of_le HJ1.out.lt HBB.out.size) bS2.size
      have hgF := BF.block w1.heap.size hgl (by omega)
      have SF : Spares (fun k => k ≠ w1.heap.size ∧ k ≠ W5.heap.size + 1) W1 WF := ((Spares.but HBB.out (fun h => h.2 rfl)).trans (Spares.but bS2 (fun h => h.1 rfl))).trans (Spares.but BF (fun h => h.2 rfl))
      obtain ⟨f1, f2, f3, f4, f5⟩ := HJB.out.far
      have hbx := HJ1.out.box
      have hmk := HJ1.out.mark
      have hbm := (Array.getElem?_eq_some_iff.1 HJB.out.loop).1
      refine ⟨⟨hbx.same (SF.block _ hbx.lt ⟨by omega, by omega⟩), fun j hj => (World.cell?_of_block hgF).trans (hset j hj), fun j => (World.frozen?_of_block hgF).trans (hfz j), Nat.lt_of_lt_of_le hgl BF.size, hLF, (SF.block _ (Array.getElem?_eq_some_iff.1 hmk).1 ⟨by omega, by omega⟩).trans hmk, SF.keeps HJ1.out.keeps (fun k hk => ⟨by omega, by omega⟩), HJB.out.far⟩, ?_⟩
      exact SF.mono (fun k hk h => ⟨by rcases h with h | h | h <;> omega, by rcases h with h | h | h <;> omega⟩)
end Go.Proofs.Yteabfjpajgakiac
