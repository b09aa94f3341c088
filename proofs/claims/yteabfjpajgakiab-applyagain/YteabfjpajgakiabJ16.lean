/- ApN, ApO, StS. -/
import Derived.Test.YteabfjpajgakiabJ01
import Derived.Test.YteabfjpajgakiabJ14
import Derived.Test.YteabfjpajgakiabJ15
/- ApplyAgain and ApplyKept: the walks. -/
set_option linter.unusedSimpArgs false
set_option linter.unusedVariables false
set_option maxRecDepth 10000
namespace Go.Proofs.Yteabfjpajgakiab
open Go.RowKit

theorem EntBox.set_time {b : Nat} {e : Ent} {w : World} (h : EntBox b e w) (t : Int) : EntBox b (atTime e t) (w.setCell ⟨b, 1, none⟩ (.int .i64 t)) := by
  have go : ∀ j x, j ≠ 1 → w.cell? ⟨b, j, none⟩ = some x → (w.setCell ⟨b, 1, none⟩ (.int .i64 t)).cell? ⟨b, j, none⟩ = some x := fun j x hj hx => by
    rw [World.cell?_setCell_other _ _ _ _ (by intro e; injection e with _ e _; exact hj e.symm)]
    exact hx
  exact ⟨go _ _ (by decide) h.c0, World.cell?_setCell_same _ _ _ h.c1, go _ _ (by decide) h.c2, go _ _ (by decide) h.c3, go _ _ (by decide) h.c4, go _ _ (by decide) h.c5, go _ _ (by decide) h.c6, go _ _ (by decide) h.c7, go _ _ (by decide) h.c8⟩

set_option maxHeartbeats 4000000 in
theorem again_law (s : St) (e : Ent) (time : Int) (x : Value) (w : World) (hT : TabAt w x s.tab) (ht0 : -9223372036854775808 ≤ time) (ht1 : time ≤ 9223372036854775807) :
    Calls Try.prog 7 #[stV s x, entV e, .int .i64 time] w fun y w' => y = .returned (.bool true) ∧ Keeps w w' := by
  obtain ⟨xa, xc, rfl, _⟩ := hT.len
  have HT : Hid (TabAt w (.slice xa s.tab.length xc) s.tab) := hT
  clear hT
  have HR : Hid (bothErr s e = 0 → stErr (oneSt s e) = 0) := fun h => (one_right h).1
  have HA : Hid (bothErr s e = 0 → e.kind = 2 → (oneSt s e).at_ < 50 → ∀ t, 0 ≤ t → t ≤ (oneSt s e).clock → bothErr (oneSt s e) (atTime e t) = 0 ∧ oneDone (oneSt s e) (atTime e t) = false ∧ oneAns (oneSt s e) (atTime e t) = oneAns s e ∧ sameVals (oneSt (oneSt s e) (atTime e t)) (oneSt s e) = true ∧ (oneSt (oneSt s e) (atTime e t)).tab = (oneSt s e).tab) := fun a b c t d f => one_again a b c d f
  go_enter Try.func7, Try.ntmps7
  go_wp2_with fail
  obtain ⟨W1, hW1⟩ : ∃ W1, W1 = (w.alloc (.cells #[.int .i64 s.at_, .int .i64 s.clock, .int .i64 s.v0, .int .i64 s.v1, .int .i64 s.v2, .int .i64 s.v3, .slice xa s.tab.length xc] 25)).alloc (.cells #[.int .i64 e.kind, .int .i64 e.time, .int .i64 e.client, .int .i64 e.seq, .int .i64 e.ack, .int .i64 e.ok, .int .i64 e.okey, .int .i64 e.oto, .int .i64 e.on] 33) := ⟨_, rfl⟩
  have k1 : Keeps w W1 := by rw [hW1]; exact ((Keeps.refl _).alloc _).alloc _
  have E1 : EntBox (w.heap.size + 1) e W1 := by
    rw [hW1]
    have := EntBox.new (w.alloc (.cells #[.int .i64 s.at_, .int .i64 s.clock, .int .i64 s.v0, .int .i64 s.v1, .int .i64 s.v2, .int .i64 s.v3, .slice xa s.tab.length xc] 25)) e 33
    simpa using this
  rw [← hW1]
  clear hW1
  refine (one_c s e _ W1 (HT.out.keep k1)).mono ?_
  rintro y w1 ⟨x', ho, rfl, hb⟩
  obtain ⟨ya, yc, rfl, _⟩ := ho.tab.len
  have HK1 : Hid (Keeps w w1) := k1.trans hb
  have HE1 : Hid (EntBox (w.heap.size + 1) e w1) := E1.keep hb
  have HO1 : Hid (TabAt w1 (.slice ya (oneSt s e).tab.length yc) (oneSt s e).tab) := ho.tab
  have e0 := HE1.out.c0
  have el := HE1.out.lt
  clear k1 E1 hb ho
  clear W1
  generalize oneSt s e = t at *
  generalize oneAns s e = n at *
  generalize oneDone s e = d at *
  cases q : (bothErr s e == 0) with
  | false =>
    have q' : (bothErr s e != 0) = true := by simp [bne, q]
    generalize bothErr s e = er at *
    go_wp2_with fail
    refine (apply_begun _).mono ?_
    rintro y w2 ⟨rfl, hb⟩
    have HK2 : Hid (Keeps w w2) := (HK1.out.alloc _).trans hb
    clear hb
    go_wp2_with fail
    go_ret
    exact ⟨rfl, HK2.out⟩
  | true =>
    have q' : (bothErr s e != 0) = false := by simp [bne, q]
    have q0 : bothErr s e = 0 := by simpa using q
    have hbt := stErr_bounds (HR.out q0)
    obtain ⟨⟨ta0, ta1⟩, tc0, tc1⟩ := hbt
    have HA3 : Hid (e.kind = 2 → t.at_ < 50 → ∀ τ, 0 ≤ τ → τ ≤ t.clock → bothErr t (atTime e τ) = 0 ∧ oneDone t (atTime e τ) = false ∧ oneAns t (atTime e τ) = n ∧ sameVals (oneSt t (atTime e τ)) t = true ∧ (oneSt t (atTime e τ)).tab = t.tab) := HA.out q0
    clear q0 HR HA
    generalize bothErr s e = er at *
    cases qk : (e.kind == 2) with
    | false =>
      have qk' : (e.kind != 2) = true := by simp [bne, qk]
      go_wp2_with fail
      refine (apply_begun _).mono ?_
      rintro y w2 ⟨rfl, hb⟩
      have HK2 : Hid (Keeps w w2) := (HK1.out.alloc _).trans hb
      clear hb
      go_wp2_with fail
      go_ret
      exact ⟨rfl, HK2.out⟩
    | true =>
      have qk' : (e.kind != 2) = false := by simp [bne, qk]
      have HKI : Hid (e.kind = 2) := by show _ = _; simpa using qk
      clear qk
      by_cases qa : 50 ≤ t.at_
      · go_wp2_with fail
        refine (apply_begun _).mono ?_
        rintro y w2 ⟨rfl, hb⟩
        have HK2 : Hid (Keeps w w2) := (HK1.out.alloc _).trans hb
        clear hb
        go_wp2_with fail
        go_ret
        exact ⟨rfl, HK2.out⟩
      · have HAT : Hid (t.at_ < 50) := by show _ < _; omega
        have x1 := HE1.out.c1
        have x2 := HE1.out.c2
        have x3 := HE1.out.c3
        have x4 := HE1.out.c4
        have x5 := HE1.out.c5
        have x6 := HE1.out.c6
        have x7 := HE1.out.c7
        have x8 := HE1.out.c8
        go_wp2_with fail
        all_goals
          refine (choose_n time _ _ ht0 ht1 (by omega) (by omega)).mono ?_
          rintro y w2 ⟨r, hr0, hr1, rfl, hw2⟩
          have hr2 : r ≤ t.clock := by omega
          have hA := HA3.out HKI.out HAT.out r hr0 hr2
          obtain ⟨g1, g2, g3, g4, g5⟩ := hA
          have HG : Hid (bothErr t (atTime e r) = 0 ∧ oneDone t (atTime e r) = false ∧ oneAns t (atTime e r) = n ∧ sameVals (oneSt t (atTime e r)) t = true ∧ (oneSt t (atTime e r)).tab = t.tab) := ⟨g1, g2, g3, g4, g5⟩
          have T2 : StBox w1.heap.size t (.slice ya t.tab.length yc) w2 := by rw [← hw2]; exact (StBox.new w1 t _ 25).keep ((Keeps.refl _).alloc _)
          have A2 : EntBox (w1.heap.size + 1) e w2 := by
            rw [← hw2]
            have := EntBox.new (w1.alloc (.cells #[.int .i64 t.at_, .int .i64 t.clock, .int .i64 t.v0, .int .i64 t.v1, .int .i64 t.v2, .int .i64 t.v3, .slice ya t.tab.length yc] 25)) e 33
            simpa using this
          have AF : ∀ i, w2.frozen? ⟨w1.heap.size + 1, i, none⟩ = false := by
            intro i
            rw [← hw2]
            simp [go_sem]
          have k12 : Keeps w1 w2 := by rw [← hw2]; exact ((Keeps.refl _).alloc _).alloc _
          have HK2 : Hid (Keeps w w2) := HK1.out.trans k12
          have HO2 : Hid (TabFar (w1.heap.size + 1) w2 (.slice ya t.tab.length yc) t.tab) := HO1.out.far k12 (by omega)
          have hz := HK1.out.size
          have HT2 : Hid (StBox w1.heap.size t (.slice ya t.tab.length yc) w2) := T2
          have HA2 : Hid (EntBox (w1.heap.size + 1) e w2) := A2
          have a1 := A2.c1
          have al := A2.lt
          have tl := T2.lt
          clear hw2 k12 T2 A2 g1 g2 g3 g4 g5 HA3 HE1 e0 el x1 x2 x3 x4 x5 x6 x7 x8 HO1 HK1 hr1
          generalize w1.heap.size = TB at *
          clear w1
          have y0 := HA2.out.c0
          have y2 := HA2.out.c2
          have y3 := HA2.out.c3
          have y4 := HA2.out.c4
          have y5 := HA2.out.c5
          have y6 := HA2.out.c6
          have y7 := HA2.out.c7
          have y8 := HA2.out.c8
          have s0 := HT2.out.c0
          have s1 := HT2.out.c1
          have s2 := HT2.out.c2
          have s3 := HT2.out.c3
          have s4 := HT2.out.c4
          have s5 := HT2.out.c5
          have s6 := HT2.out.c6
          go_wp2_with fail
          have bt : But (TB + 1) w2 (w2.setCell ⟨TB + 1, 1, none⟩ (.int .i64 r)) := (But.refl _ _).set 1 _
          have HA4 : Hid (EntBox (TB + 1) (atTime e r) (w2.setCell ⟨TB + 1, 1, none⟩ (.int .i64 r))) := HA2.out.set_time r
          have C : Hid (Calls Try.prog 17 #[stV t (.slice ya t.tab.length yc), entV (atTime e r)] (w2.setCell ⟨TB + 1, 1, none⟩ (.int .i64 r)) fun y w' => ∃ xa2 xc2, y = .returned (.tuple #[stV (oneSt t (atTime e r)) (.slice xa2 (oneSt t (atTime e r)).tab.length xc2), .int .i64 n, .bool false, .int .i64 0]) ∧ OwnTab (w2.setCell ⟨TB + 1, 1, none⟩ (.int .i64 r)).heap.size w' (.slice xa2 (oneSt t (atTime e r)).tab.length xc2) (oneSt t (atTime e r)).tab ∧ Keeps (w2.setCell ⟨TB + 1, 1, none⟩ (.int .i64 r)) w') := one_at t _ (atTime e r) n false 0 ⟨rfl, HG.out.2.2.1, HG.out.2.1, HG.out.1⟩ _ _ (HO2.out _ bt)
          refine C.out.mono ?_
          rintro y w3 ⟨ua, uc, rfl, ho, hb⟩
          have HT3 : Hid (StBox TB t (.slice ya t.tab.length yc) w3) := (HT2.out.other bt (by omega)).keep hb
          have HK3 : Hid (Keeps w w3) := (But.to HK2.out (by omega) bt).trans hb
          have HO3 : Hid (TabAt w3 (.slice ya t.tab.length yc) t.tab) := (HO2.out _ bt).keep hb
          have HU3 : Hid (TabAt w3 (.slice ua (oneSt t (atTime e r)).tab.length uc) (oneSt t (atTime e r)).tab) := ho.tab
          have HSV : Hid (sameVals (oneSt t (atTime e r)) t = true) := HG.out.2.2.2.1
          have HTB : Hid ((oneSt t (atTime e r)).tab = t.tab) := HG.out.2.2.2.2
          clear hb ho bt C HA4 HA2 HO2 HT2 HK2 HG y0 y2 y3 y4 y5 y6 y7 y8 s0 s1 s2 s3 s4 s5 s6 a1 al AF tl
          clear w2
          generalize oneSt t (atTime e r) = u at *
          go_wp2_with fail
          have U4 : StBox w3.heap.size u (.slice ua u.tab.length uc) (w3.alloc (.cells #[.int .i64 u.at_, .int .i64 u.clock, .int .i64 u.v0, .int .i64 u.v1, .int .i64 u.v2, .int .i64 u.v3, .slice ua u.tab.length uc] 25)) := StBox.new w3 u _ 25
          have k34 : Keeps w3 (w3.alloc (.cells #[.int .i64 u.at_, .int .i64 u.clock, .int .i64 u.v0, .int .i64 u.v1, .int .i64 u.v2, .int .i64 u.v3, .slice ua u.tab.length uc] 25)) := (Keeps.refl _).alloc _
          generalize (w3.alloc (.cells #[.int .i64 u.at_, .int .i64 u.clock, .int .i64 u.v0, .int .i64 u.v1, .int .i64 u.v2, .int .i64 u.v3, .slice ua u.tab.length uc] 25)) = w4 at *
          generalize w3.heap.size = UB at *
          refine (apply_begun _).mono ?_
          rintro y w5 ⟨rfl, hb⟩
          have U5 := U4.keep hb
          have T5 := (HT3.out.keep k34).keep hb
          have HK5 : Hid (Keeps w w5) := (HK3.out.trans k34).trans hb
          have C2 : Hid (∀ W, Keeps w5 W → Calls Try.prog 21 #[.slice ua u.tab.length uc, .slice ya t.tab.length yc] W fun y w' => y = .returned (.bool true) ∧ Keeps W w') := by
            intro W hk
            have := same_tables u.tab t.tab _ _ W ((HU3.out.keep (k34.trans hb)).keep hk) ((HO3.out.keep (k34.trans hb)).keep hk)
            rw [show sameTab u.tab t.tab = true from sameTab_iff.2 HTB.out] at this
            exact this
          have hsv : (u.v0 == t.v0 && (u.v1 == t.v1 && (u.v2 == t.v2 && u.v3 == t.v3))) = true := HSV.out
          have u2 := U5.c2
          have u3 := U5.c3
          have u4 := U5.c4
          have u5 := U5.c5
          have u6 := U5.c6
          have t2 := T5.c2
          have t3 := T5.c3
          have t4 := T5.c4
          have t5 := T5.c5
          have t6 := T5.c6
          have ul := U5.lt
          have tl := T5.lt
          have he := eql22
          clear hb U5 T5 U4 k34 HT3 HK3 HO3 HU3 HSV HTB
          go_wp2_with fail
          refine (C2.out _ (Keeps.refl _)).mono ?_
          rintro y w6 ⟨rfl, hb⟩
          go_wp2_with fail
          go_ret
          exact ⟨rfl, HK5.out.trans hb⟩
end Go.Proofs.Yteabfjpajgakiab

/- ApplyKept: the walk. Written by tools/genApO.py. -/
set_option linter.unusedSimpArgs false
set_option linter.unusedVariables false
set_option maxRecDepth 10000
namespace Go.Proofs.Yteabfjpajgakiab
open Go.RowKit

set_option maxHeartbeats 8000000 in
theorem kept_law (s : St) (e o : Ent) (x : Value) (w : World) (hT : TabAt w x s.tab) :
    Calls Try.prog 8 #[stV s x, entV e, entV o] w fun y w' => y = .returned (.bool true) ∧ Keeps w w' := by
  obtain ⟨xa, xc, rfl, _⟩ := hT.len
  have HT : Hid (TabAt w (.slice xa s.tab.length xc) s.tab) := hT
  clear hT
  have HR : Hid (bothErr s e = 0 → stErr (oneSt s e) = 0) := fun h => (one_right h).1
  have HR2 : Hid (bothErr (oneSt s e) o = 0 → stErr (oneSt (oneSt s e) o) = 0) := fun h => (one_right h).1
  have HA : Hid (bothErr s e = 0 → oneDone s e = true → bothErr (oneSt s e) o = 0 → (oneSt (oneSt s e) o).at_ < 50 → ¬ (o.client = e.client ∧ (o.kind = 3 ∨ e.seq ≤ o.ack)) → (oneSt (oneSt s e) o).clock ≤ (oneSt s e).clock + 20 → bothErr (oneSt (oneSt s e) o) (atTime e 0) = 0 ∧ oneDone (oneSt (oneSt s e) o) (atTime e 0) = false ∧ oneAns (oneSt (oneSt s e) o) (atTime e 0) = oneAns s e ∧ sameVals (oneSt (oneSt (oneSt s e) o) (atTime e 0)) (oneSt (oneSt s e) o) = true) := one_kept
  go_enter Try.func8, Try.ntmps8
  go_wp2_with fail
  obtain ⟨W1, hW1⟩ : ∃ W1, W1 = ((w.alloc (.cells #[.int .i64 s.at_, .int .i64 s.clock, .int .i64 s.v0, .int .i64 s.v1, .int .i64 s.v2, .int .i64 s.v3, .slice xa s.tab.length xc] 25)).alloc (.cells #[.int .i64 e.kind, .int .i64 e.time, .int .i64 e.client, .int .i64 e.seq, .int .i64 e.ack, .int .i64 e.ok, .int .i64 e.okey, .int .i64 e.oto, .int .i64 e.on] 33)).alloc (.cells #[.int .i64 o.kind, .int .i64 o.time, .int .i64 o.client, .int .i64 o.seq, .int .i64 o.ack, .int .i64 o.ok, .int .i64 o.okey, .int .i64 o.oto, .int .i64 o.on] 33) := ⟨_, rfl⟩
  have k1 : Keeps w W1 := by rw [hW1]; exact (((Keeps.refl _).alloc _).alloc _).alloc _
  have E1 : EntBox (w.heap.size + 1) e W1 := by
    rw [hW1]
    have := (EntBox.new (w.alloc (.cells #[.int .i64 s.at_, .int .i64 s.clock, .int .i64 s.v0, .int .i64 s.v1, .int .i64 s.v2, .int .i64 s.v3, .slice xa s.tab.length xc] 25)) e 33).keep ((Keeps.refl _).alloc (.cells #[.int .i64 o.kind, .int .i64 o.time, .int .i64 o.client, .int .i64 o.seq, .int .i64 o.ack, .int .i64 o.ok, .int .i64 o.okey, .int .i64 o.oto, .int .i64 o.on] 33))
    simpa using this
  have O1 : EntBox (w.heap.size + 1 + 1) o W1 := by
    rw [hW1]
    have := EntBox.new ((w.alloc (.cells #[.int .i64 s.at_, .int .i64 s.clock, .int .i64 s.v0, .int .i64 s.v1, .int .i64 s.v2, .int .i64 s.v3, .slice xa s.tab.length xc] 25)).alloc (.cells #[.int .i64 e.kind, .int .i64 e.time, .int .i64 e.client, .int .i64 e.seq, .int .i64 e.ack, .int .i64 e.ok, .int .i64 e.okey, .int .i64 e.oto, .int .i64 e.on] 33)) o 33
    simpa using this
  rw [← hW1]
  clear hW1
  refine (one_c s e _ W1 (HT.out.keep k1)).mono ?_
  rintro y w1 ⟨x', ho, rfl, hb⟩
  obtain ⟨ya, yc, rfl, _⟩ := ho.tab.len
  have HK1 : Hid (Keeps w w1) := k1.trans hb
  have HE1 : Hid (EntBox (w.heap.size + 1) e w1) := E1.keep hb
  have HO1 : Hid (EntBox (w.heap.size + 1 + 1) o w1) := O1.keep hb
  have HY1 : Hid (TabAt w1 (.slice ya (oneSt s e).tab.length yc) (oneSt s e).tab) := ho.tab
  clear k1 E1 O1 hb ho
  clear W1
  generalize oneSt s e = t at *
  generalize oneAns s e = n at *
  generalize oneDone s e = d at *
  cases q : (bothErr s e == 0) with
  | false =>
    have q' : (bothErr s e != 0) = true := by simp [bne, q]
    generalize bothErr s e = er at *
    go_wp2_with fail
    refine (apply_begun _).mono ?_
    rintro y wz ⟨rfl, hb⟩
    have HKZ : Hid (Keeps w wz) := (HK1.out.alloc _).trans hb
    clear hb
    go_wp2_with fail
    go_ret
    exact ⟨rfl, HKZ.out⟩
  | true =>
    have q' : (bothErr s e != 0) = false := by simp [bne, q]
    have q0 : bothErr s e = 0 := by simpa using q
    have HA3 := (show Hid _ from HA.out q0)
    obtain ⟨⟨ta0, ta1⟩, tc0, tc1⟩ := stErr_bounds (HR.out q0)
    clear HA HR q0
    generalize bothErr s e = er at *
    cases d with
    | false =>
      go_wp2_with fail
      refine (apply_begun _).mono ?_
      rintro y wz ⟨rfl, hb⟩
      have HKZ : Hid (Keeps w wz) := (HK1.out.alloc _).trans hb
      clear hb
      go_wp2_with fail
      go_ret
      exact ⟨rfl, HKZ.out⟩
    | true =>
      have x0 := HO1.out.c0
      have x1 := HO1.out.c1
      have x2 := HO1.out.c2
      have x3 := HO1.out.c3
      have x4 := HO1.out.c4
      have x5 := HO1.out.c5
      have x6 := HO1.out.c6
      have x7 := HO1.out.c7
      have x8 := HO1.out.c8
      have ol := HO1.out.lt
      go_wp2_with fail
      have T2 : StBox w1.heap.size t (.slice ya t.tab.length yc) (w1.alloc (.cells #[.int .i64 t.at_, .int .i64 t.clock, .int .i64 t.v0, .int .i64 t.v1, .int .i64 t.v2, .int .i64 t.v3, .slice ya t.tab.length yc] 25)) := StBox.new w1 t _ 25
      have k12 : Keeps w1 (w1.alloc (.cells #[.int .i64 t.at_, .int .i64 t.clock, .int .i64 t.v0, .int .i64 t.v1, .int .i64 t.v2, .int .i64 t.v3, .slice ya t.tab.length yc] 25)) := (Keeps.refl _).alloc _
      generalize (w1.alloc (.cells #[.int .i64 t.at_, .int .i64 t.clock, .int .i64 t.v0, .int .i64 t.v1, .int .i64 t.v2, .int .i64 t.v3, .slice ya t.tab.length yc] 25)) = w2 at *
      generalize w1.heap.size = TB at *
      refine (one_c t o _ w2 (HY1.out.keep k12)).mono ?_
      rintro y w3 ⟨x', ho, rfl, hb⟩
      obtain ⟨za, zc, rfl, _⟩ := ho.tab.len
      have HK3 : Hid (Keeps w w3) := (HK1.out.trans k12).trans hb
      have HE3 : Hid (EntBox (w.heap.size + 1) e w3) := (HE1.out.keep k12).keep hb
      have HO3 : Hid (EntBox (w.heap.size + 1 + 1) o w3) := (HO1.out.keep k12).keep hb
      have HT3 : Hid (StBox TB t (.slice ya t.tab.length yc) w3) := T2.keep hb
      have HZ3 : Hid (TabAt w3 (.slice za (oneSt t o).tab.length zc) (oneSt t o).tab) := ho.tab
      clear hb ho T2 k12 x0 x1 x2 x3 x4 x5 x6 x7 x8 ol HK1 HE1 HO1 HY1
      generalize oneSt t o = u at *
      generalize oneAns t o = n2 at *
      generalize oneDone t o = d2 at *
      cases q2 : (bothErr t o == 0) with
      | false =>
        have q2' : (bothErr t o != 0) = true := by simp [bne, q2]
        generalize bothErr t o = er2 at *
        go_wp2_with fail
        refine (apply_begun _).mono ?_
        rintro y wz ⟨rfl, hb⟩
        have HKZ : Hid (Keeps w wz) := (HK3.out.alloc _).trans hb
        clear hb
        go_wp2_with fail
        go_ret
        exact ⟨rfl, HKZ.out⟩
      | true =>
        have q2' : (bothErr t o != 0) = false := by simp [bne, q2]
        have q20 : bothErr t o = 0 := by simpa using q2
        have HA4 : Hid (u.at_ < 50 → ¬ (o.client = e.client ∧ (o.kind = 3 ∨ e.seq ≤ o.ack)) → u.clock ≤ t.clock + 20 → bothErr u (atTime e 0) = 0 ∧ oneDone u (atTime e 0) = false ∧ oneAns u (atTime e 0) = n ∧ sameVals (oneSt u (atTime e 0)) u = true) := HA3.out (by first | rfl | trivial) q20
        obtain ⟨⟨ua0, ua1⟩, uc0, uc1⟩ := stErr_bounds (HR2.out q20)
        clear HA3 HR2 q20
        generalize bothErr t o = er2 at *
        have p0 := HO3.out.c0
        have p2 := HO3.out.c2
        have p4 := HO3.out.c4
        have pl := HO3.out.lt
        have r2 := HE3.out.c2
        have r3 := HE3.out.c3
        have rl := HE3.out.lt
        have t1 := HT3.out.c1
        have tl := HT3.out.lt
        by_cases qa : 50 ≤ u.at_
        ·
          go_wp2_with fail
          refine (apply_begun _).mono ?_
          rintro y wz ⟨rfl, hb⟩
          have HKZ : Hid (Keeps w wz) := (HK3.out.alloc _).trans hb
          clear hb
          go_wp2_with fail
          go_ret
          exact ⟨rfl, HKZ.out⟩
        · have HQA : Hid (u.at_ < 50) := by show _ < _; omega
          cases qc : (o.client == e.client) with
          | false =>
            have HC : Hid (¬ (o.client = e.client ∧ (o.kind = 3 ∨ e.seq ≤ o.ack))) := by
              show ¬ _
              simp at qc
              exact fun h => qc h.1
            by_cases ql : t.clock + 20 < u.clock
            ·
              go_wp2_with fail
              refine (apply_begun _).mono ?_
              rintro y wz ⟨rfl, hb⟩
              have HKZ : Hid (Keeps w wz) := (HK3.out.alloc _).trans hb
              clear hb
              go_wp2_with fail
              go_ret
              exact ⟨rfl, HKZ.out⟩
            · have HQL : Hid (u.clock ≤ t.clock + 20) := by show _ ≤ _; omega
              obtain ⟨g1, g2, g3, g4⟩ := HA4.out HQA.out HC.out HQL.out
              have HG : Hid (bothErr u (atTime e 0) = 0 ∧ oneDone u (atTime e 0) = false ∧ oneAns u (atTime e 0) = n ∧ sameVals (oneSt u (atTime e 0)) u = true) := ⟨g1, g2, g3, g4⟩
              have x0 := HE3.out.c0
              have x1 := HE3.out.c1
              have x4 := HE3.out.c4
              have x5 := HE3.out.c5
              have x6 := HE3.out.c6
              have x7 := HE3.out.c7
              have x8 := HE3.out.c8
              clear g1 g2 g3 g4 HA4
              go_wp2_with fail
              have U4 : StBox w3.heap.size u (.slice za u.tab.length zc) ((w3.alloc (.cells #[.int .i64 u.at_, .int .i64 u.clock, .int .i64 u.v0, .int .i64 u.v1, .int .i64 u.v2, .int .i64 u.v3, .slice za u.tab.length zc] 25)).alloc (.cells #[.int .i64 (atTime e 0).kind, .int .i64 (atTime e 0).time, .int .i64 (atTime e 0).client, .int .i64 (atTime e 0).seq, .int .i64 (atTime e 0).ack, .int .i64 (atTime e 0).ok, .int .i64 (atTime e 0).okey, .int .i64 (atTime e 0).oto, .int .i64 (atTime e 0).on] 33)) := (StBox.new w3 u _ 25).keep ((Keeps.refl _).alloc _)
              have k34 : Keeps w3 ((w3.alloc (.cells #[.int .i64 u.at_, .int .i64 u.clock, .int .i64 u.v0, .int .i64 u.v1, .int .i64 u.v2, .int .i64 u.v3, .slice za u.tab.length zc] 25)).alloc (.cells #[.int .i64 (atTime e 0).kind, .int .i64 (atTime e 0).time, .int .i64 (atTime e 0).client, .int .i64 (atTime e 0).seq, .int .i64 (atTime e 0).ack, .int .i64 (atTime e 0).ok, .int .i64 (atTime e 0).okey, .int .i64 (atTime e 0).oto, .int .i64 (atTime e 0).on] 33)) := ((Keeps.refl _).alloc _).alloc _
              have C : Hid (∀ W, Keeps w3 W → Calls Try.prog 17 #[stV u (.slice za u.tab.length zc), entV (atTime e 0)] W fun y w' => ∃ va vc, y = .returned (.tuple #[stV (oneSt u (atTime e 0)) (.slice va (oneSt u (atTime e 0)).tab.length vc), .int .i64 n, .bool false, .int .i64 0]) ∧ OwnTab W.heap.size w' (.slice va (oneSt u (atTime e 0)).tab.length vc) (oneSt u (atTime e 0)).tab ∧ Keeps W w') := fun W hk => one_at u _ (atTime e 0) n false 0 ⟨rfl, HG.out.2.2.1, HG.out.2.1, HG.out.1⟩ _ _ (HZ3.out.keep hk)
              refine (C.out _ k34).mono ?_
              rintro y w5 ⟨va, vc, rfl, ho, hb⟩
              have HU5 : Hid (StBox w3.heap.size u (.slice za u.tab.length zc) w5) := U4.keep hb
              have HK5 : Hid (Keeps w w5) := (HK3.out.trans k34).trans hb
              have HSV : Hid (sameVals (oneSt u (atTime e 0)) u = true) := HG.out.2.2.2
              clear hb ho U4 k34 C HG HE3 HO3 HT3 HZ3 HK3 x0 x1 x4 x5 x6 x7 x8 p0 p2 p4 pl r2 r3 rl t1 tl
              generalize w3.heap.size = UB at *
              clear w3
              generalize oneSt u (atTime e 0) = v at *
              go_wp2_with fail
              have V6 : StBox w5.heap.size v (.slice va v.tab.length vc) (w5.alloc (.cells #[.int .i64 v.at_, .int .i64 v.clock, .int .i64 v.v0, .int .i64 v.v1, .int .i64 v.v2, .int .i64 v.v3, .slice va v.tab.length vc] 25)) := StBox.new w5 v _ 25
              have k56 : Keeps w5 (w5.alloc (.cells #[.int .i64 v.at_, .int .i64 v.clock, .int .i64 v.v0, .int .i64 v.v1, .int .i64 v.v2, .int .i64 v.v3, .slice va v.tab.length vc] 25)) := (Keeps.refl _).alloc _
              generalize (w5.alloc (.cells #[.int .i64 v.at_, .int .i64 v.clock, .int .i64 v.v0, .int .i64 v.v1, .int .i64 v.v2, .int .i64 v.v3, .slice va v.tab.length vc] 25)) = w6 at *
              generalize w5.heap.size = VB at *
              refine (apply_begun _).mono ?_
              rintro y w7 ⟨rfl, hb⟩
              have V7 := V6.keep hb
              have U7 := (HU5.out.keep k56).keep hb
              have HK7 : Hid (Keeps w w7) := (HK5.out.trans k56).trans hb
              have hsv : (v.v0 == u.v0 && (v.v1 == u.v1 && (v.v2 == u.v2 && v.v3 == u.v3))) = true := HSV.out
              have v2 := V7.c2
              have v3 := V7.c3
              have v4 := V7.c4
              have v5 := V7.c5
              have u2 := U7.c2
              have u3 := U7.c3
              have u4 := U7.c4
              have u5 := U7.c5
              have vl := V7.lt
              have ul := U7.lt
              have he := eql22
              clear hb V7 U7 V6 k56 HU5 HK5 HSV
              go_wp2_with fail
              go_ret
              exact ⟨rfl, HK7.out⟩
          | true =>
            cases qk : (o.kind == 3) with
            | true =>
              go_wp2_with fail
              refine (apply_begun _).mono ?_
              rintro y wz ⟨rfl, hb⟩
              have HKZ : Hid (Keeps w wz) := (HK3.out.alloc _).trans hb
              clear hb
              go_wp2_with fail
              go_ret
              exact ⟨rfl, HKZ.out⟩
            | false =>
              by_cases qs : e.seq ≤ o.ack
              ·
                go_wp2_with fail
                refine (apply_begun _).mono ?_
                rintro y wz ⟨rfl, hb⟩
                have HKZ : Hid (Keeps w wz) := (HK3.out.alloc _).trans hb
                clear hb
                go_wp2_with fail
                go_ret
                exact ⟨rfl, HKZ.out⟩
              · have HC : Hid (¬ (o.client = e.client ∧ (o.kind = 3 ∨ e.seq ≤ o.ack))) := by
                  show ¬ _
                  simp at qk
                  rintro ⟨_, h | h⟩
                  · exact qk h
                  · exact qs h
                by_cases ql : t.clock + 20 < u.clock
                ·
                  go_wp2_with fail
                  refine (apply_begun _).mono ?_
                  rintro y wz ⟨rfl, hb⟩
                  have HKZ : Hid (Keeps w wz) := (HK3.out.alloc _).trans hb
                  clear hb
                  go_wp2_with fail
                  go_ret
                  exact ⟨rfl, HKZ.out⟩
                · have HQL : Hid (u.clock ≤ t.clock + 20) := by show _ ≤ _; omega
                  obtain ⟨g1, g2, g3, g4⟩ := HA4.out HQA.out HC.out HQL.out
                  have HG : Hid (bothErr u (atTime e 0) = 0 ∧ oneDone u (atTime e 0) = false ∧ oneAns u (atTime e 0) = n ∧ sameVals (oneSt u (atTime e 0)) u = true) := ⟨g1, g2, g3, g4⟩
                  have x0 := HE3.out.c0
                  have x1 := HE3.out.c1
                  have x4 := HE3.out.c4
                  have x5 := HE3.out.c5
                  have x6 := HE3.out.c6
                  have x7 := HE3.out.c7
                  have x8 := HE3.out.c8
                  clear g1 g2 g3 g4 HA4
                  go_wp2_with fail
                  have U4 : StBox w3.heap.size u (.slice za u.tab.length zc) ((w3.alloc (.cells #[.int .i64 u.at_, .int .i64 u.clock, .int .i64 u.v0, .int .i64 u.v1, .int .i64 u.v2, .int .i64 u.v3, .slice za u.tab.length zc] 25)).alloc (.cells #[.int .i64 (atTime e 0).kind, .int .i64 (atTime e 0).time, .int .i64 (atTime e 0).client, .int .i64 (atTime e 0).seq, .int .i64 (atTime e 0).ack, .int .i64 (atTime e 0).ok, .int .i64 (atTime e 0).okey, .int .i64 (atTime e 0).oto, .int .i64 (atTime e 0).on] 33)) := (StBox.new w3 u _ 25).keep ((Keeps.refl _).alloc _)
                  have k34 : Keeps w3 ((w3.alloc (.cells #[.int .i64 u.at_, .int .i64 u.clock, .int .i64 u.v0, .int .i64 u.v1, .int .i64 u.v2, .int .i64 u.v3, .slice za u.tab.length zc] 25)).alloc (.cells #[.int .i64 (atTime e 0).kind, .int .i64 (atTime e 0).time, .int .i64 (atTime e 0).client, .int .i64 (atTime e 0).seq, .int .i64 (atTime e 0).ack, .int .i64 (atTime e 0).ok, .int .i64 (atTime e 0).okey, .int .i64 (atTime e 0).oto, .int .i64 (atTime e 0).on] 33)) := ((Keeps.refl _).alloc _).alloc _
                  have C : Hid (∀ W, Keeps w3 W → Calls Try.prog 17 #[stV u (.slice za u.tab.length zc), entV (atTime e 0)] W fun y w' => ∃ va vc, y = .returned (.tuple #[stV (oneSt u (atTime e 0)) (.slice va (oneSt u (atTime e 0)).tab.length vc), .int .i64 n, .bool false, .int .i64 0]) ∧ OwnTab W.heap.size w' (.slice va (oneSt u (atTime e 0)).tab.length vc) (oneSt u (atTime e 0)).tab ∧ Keeps W w') := fun W hk => one_at u _ (atTime e 0) n false 0 ⟨rfl, HG.out.2.2.1, HG.out.2.1, HG.out.1⟩ _ _ (HZ3.out.keep hk)
                  refine (C.out _ k34).mono ?_
                  rintro y w5 ⟨va, vc, rfl, ho, hb⟩
                  have HU5 : Hid (StBox w3.heap.size u (.slice za u.tab.length zc) w5) := U4.keep hb
                  have HK5 : Hid (Keeps w w5) := (HK3.out.trans k34).trans hb
                  have HSV : Hid (sameVals (oneSt u (atTime e 0)) u = true) := HG.out.2.2.2
                  clear hb ho U4 k34 C HG HE3 HO3 HT3 HZ3 HK3 x0 x1 x4 x5 x6 x7 x8 p0 p2 p4 pl r2 r3 rl t1 tl
                  generalize w3.heap.size = UB at *
                  clear w3
                  generalize oneSt u (atTime e 0) = v at *
                  go_wp2_with fail
                  have V6 : StBox w5.heap.size v (.slice va v.tab.length vc) (w5.alloc (.cells #[.int .i64 v.at_, .int .i64 v.clock, .int .i64 v.v0, .int .i64 v.v1, .int .i64 v.v2, .int .i64 v.v3, .slice va v.tab.length vc] 25)) := StBox.new w5 v _ 25
                  have k56 : Keeps w5 (w5.alloc (.cells #[.int .i64 v.at_, .int .i64 v.clock, .int .i64 v.v0, .int .i64 v.v1, .int .i64 v.v2, .int .i64 v.v3, .slice va v.tab.length vc] 25)) := (Keeps.refl _).alloc _
                  generalize (w5.alloc (.cells #[.int .i64 v.at_, .int .i64 v.clock, .int .i64 v.v0, .int .i64 v.v1, .int .i64 v.v2, .int .i64 v.v3, .slice va v.tab.length vc] 25)) = w6 at *
                  generalize w5.heap.size = VB at *
                  refine (apply_begun _).mono ?_
                  rintro y w7 ⟨rfl, hb⟩
                  have V7 := V6.keep hb
                  have U7 := (HU5.out.keep k56).keep hb
                  have HK7 : Hid (Keeps w w7) := (HK5.out.trans k56).trans hb
                  have hsv : (v.v0 == u.v0 && (v.v1 == u.v1 && (v.v2 == u.v2 && v.v3 == u.v3))) = true := HSV.out
                  have v2 := V7.c2
                  have v3 := V7.c3
                  have v4 := V7.c4
                  have v5 := V7.c5
                  have u2 := U7.c2
                  have u3 := U7.c3
                  have u4 := U7.c4
                  have u5 := U7.c5
                  have vl := V7.lt
                  have ul := U7.lt
                  have he := eql22
                  clear hb V7 U7 V6 k56 HU5 HK5 HSV
                  go_wp2_with fail
                  go_ret
                  exact ⟨rfl, HK7.out⟩
end Go.Proofs.Yteabfjpajgakiab

/- Two states are the same just if they are one. -/
namespace Go.Proofs.Yteabfjpajgakiab
open Go.RowKit

theorem same_kept_iff : ∀ {l m : List (Int × Int)}, sameKept l m = true ↔ l = m
  | [], [] => by simp [sameKept]
  | [], _ :: _ => by simp [sameKept]
  | _ :: _, [] => by simp [sameKept]
  | (q, v) :: r, (q', v') :: r' => by simp [sameKept, same_kept_iff (l := r) (m := r')]
theorem same_ses_iff {s t : Ses} : sameSes s t = true ↔ s = t := by
  obtain ⟨a, b, c, d⟩ := s
  obtain ⟨a', b', c', d'⟩ := t
  simp [sameSes, same_kept_iff]
theorem same_tab_iff : ∀ {L M : List Ses}, sameTab L M = true ↔ L = M
  | [], [] => by simp [sameTab]
  | [], _ :: _ => by simp [sameTab]
  | _ :: _, [] => by simp [sameTab]
  | s :: r, t :: r' => by simp [sameTab, same_ses_iff, same_tab_iff (L := r) (M := r')]
theorem same_st_iff {s t : St} : sameSt s t = true ↔ s = t := by
  obtain ⟨a, b, c, d, e, f, g⟩ := s
  obtain ⟨a', b', c', d', e', f', g'⟩ := t
  simp [sameSt, sameVals, same_tab_iff, and_assoc]
theorem same_self (t : St) : sameSt t t = true := same_st_iff.2 rfl
end Go.Proofs.Yteabfjpajgakiab
