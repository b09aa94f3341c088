/- The law SessTrue. -/
import Derived.Test.YteabfjpajgakiaaSesP
import Derived.Test.YteabfjpajgakiaaSesO
set_option linter.unusedSimpArgs false
set_option linter.unusedVariables false
namespace Go.Proofs.Yteabfjpajgakiaa
open Go.RowKit

theorem find_right (X : List Ses) (x : Value) (c : Int) (w : World) (hT : TabAt w x X) (he : tabErr X = 0) (t : Ses) (is : Bool) (ht : (findSes X c).getD zeroSes = t) (hi : (findSes X c).isSome = is) :
    Calls Try.prog 14 #[x, .int .i64 c] w fun e w' => ∃ kv, KeptAt w' kv t.kept ∧ e = .returned (.tuple #[sesV t kv, .bool is, .int .i64 0]) ∧ Keeps w w' := by
  subst ht hi
  exact find_ok X x c w hT (by simp [he])

theorem fresh_right_c (X : List Ses) (x : Value) (c : Int) (w : World) (hT : TabAt w x X) (he : tabErr X = 0) (h0 : 0 ≤ c) (h1 : c ≤ 999) :
    Calls Try.prog 25 #[x, .int .i64 c] w fun e w' => ∃ u, TabAt w' u (freshTab X c) ∧ e = .returned (.tuple #[u, .int .i64 0]) ∧ Keeps w w' := by
  have := sess_fresh X x c w hT
  rw [fresh_ok he h0 h1, fresh_tab he h0 h1] at this
  exact this.mono fun e w' ⟨u, ho, h, hk⟩ => ⟨u, ho.tab, h, hk⟩

theorem choose_c (c : Int) (w : World) (hc : -9223372036854775808 ≤ c ∧ c ≤ 9223372036854775807) : Calls Try.prog 27 #[.int .i64 c, .int .i64 1000] w fun e w' => ∃ m : Int, (0 ≤ m ∧ m ≤ 999) ∧ e = .returned (.int .i64 m) ∧ w = w' := by
  obtain ⟨hc1, hc2⟩ := hc
  by_cases h : c < 0
  · go_enter Try.func27, Try.ntmps27
    go_wp2_with fail
    go_ret
    have e : -(c + 1).tmod 1000 = (-(c + 1)) % 1000 := by rw [← Int.neg_tmod, Int.tmod_eq_emod_of_nonneg (by omega)]
    refine ⟨_, ?_, rfl, rfl⟩
    rw [e]
    omega
  · have h' : decide (c < 0) = false := by simpa using h
    go_enter Try.func27, Try.ntmps27
    go_wp2_with fail
    go_ret
    exact ⟨_, by omega, rfl, rfl⟩

set_option maxRecDepth 8000 in
set_option maxHeartbeats 16000000 in
theorem true_law (L : List Ses) (v : Value) (s : Ses) (kv : Value) (o a b : Int) (w : World) (hT : TabAt w v L) (hK : KeptAt w kv s.kept) (ha : -9223372036854775808 ≤ a ∧ a ≤ 9223372036854775807) (hb : -9223372036854775808 ≤ b ∧ b ≤ 9223372036854775807) :
    Calls Try.prog 8 #[v, sesV s kv, .int .i64 o, .int .i64 a, .int .i64 b] w fun e w' => e = .returned (.bool true) ∧ Keeps w w' := by
  obtain ⟨ka, kc, rfl, _⟩ := hK.len
  have hkB : Keeps w (w.alloc (.cells #[.int .i64 s.client, .int .i64 s.acked, .int .i64 s.seen, .slice ka s.kept.length kc] 34)) := (Keeps.refl _).alloc _
  have HT : Hid (TabAt (w.alloc (.cells #[.int .i64 s.client, .int .i64 s.acked, .int .i64 s.seen, .slice ka s.kept.length kc] 34)) v L) := hT.keep hkB
  have HK : Hid (KeptAt (w.alloc (.cells #[.int .i64 s.client, .int .i64 s.acked, .int .i64 s.seen, .slice ka s.kept.length kc] 34)) (.slice ka s.kept.length kc) s.kept) := hK.keep hkB
  have P1 : Hid (∀ w, TabAt w v L → KeptAt w (.slice ka s.kept.length kc) s.kept → _) := sess_put L v s (.slice ka s.kept.length kc)
  have HA : Hid (-9223372036854775808 ≤ a ∧ a ≤ 9223372036854775807) := ha
  have HB : Hid (-9223372036854775808 ≤ b ∧ b ≤ 9223372036854775807) := hb
  clear hT hK ha hb
  by_cases hp : putErr L s = 0
  · rw [hp, putTab_ok hp] at P1
    have HX : Hid (tabErr (putList L s) = 0) := put_right hp
    have HL : Hid (tabErr L = 0) := (put_ok hp).1
    have HD : Hid (dropErr (putList L s) s.client = 0) := drop_put hp
    have HF : Hid (findSes (putList L s) s.client = some s) := find_put L s
    have HO : Hid (o ≠ s.client → findSes (putList L s) o = findSes L o) := fun h => find_other L s h
    clear hp
    generalize putList L s = X at P1 HX HD HF HO
    go_enter Try.func8, Try.ntmps8
    go_wp2_with fail
    refine (P1.out _ HT.out HK.out).mono ?_
    rintro e w1 ⟨x, ho, rfl, hb1⟩
    have hk1 : Keeps w w1 := hkB.trans hb1
    have X1 : Hid (TabAt w1 x X) := ho.tab
    have T1 : Hid (TabAt w1 v L) := HT.out.keep hb1
    have K1 : Hid (KeptAt w1 (.slice ka s.kept.length kc) s.kept) := HK.out.keep hb1
    have b0 : w1.cell? ⟨w.heap.size, 0, none⟩ = some (.int .i64 s.client) := cell_keep (by simp) hb1
    have b1 : w1.cell? ⟨w.heap.size, 1, none⟩ = some (.int .i64 s.acked) := cell_keep (by simp) hb1
    have b2 : w1.cell? ⟨w.heap.size, 2, none⟩ = some (.int .i64 s.seen) := cell_keep (by simp) hb1
    have b3 : w1.cell? ⟨w.heap.size, 3, none⟩ = some (.slice ka s.kept.length kc) := cell_keep (by simp) hb1
    clear HT HK hkB P1 ho hb1
    go_wp2_with fail
    have P := find_right X x s.client w1 X1.out HX.out s true (by rw [HF.out]; rfl) (by rw [HF.out]; rfl)
    refine P.mono ?_
    clear P
    rintro e w2 ⟨k2, hk2v, rfl, hb2⟩
    obtain ⟨ga, gc, rfl, _⟩ := hk2v.len
    have hk2 : Keeps w w2 := hk1.trans hb2
    have X2 : Hid (TabAt w2 x X) := X1.out.keep hb2
    have T2 : Hid (TabAt w2 v L) := T1.out.keep hb2
    have K2 : Hid (KeptAt w2 (.slice ka s.kept.length kc) s.kept) := K1.out.keep hb2
    have G2 : Hid (KeptAt w2 (.slice ga s.kept.length gc) s.kept) := hk2v
    replace b0 := cell_keep b0 hb2
    replace b1 := cell_keep b1 hb2
    replace b2 := cell_keep b2 hb2
    replace b3 := cell_keep b3 hb2
    clear hk2v hk1 X1 T1 K1 hb2
    go_wp2_with fail
    obtain ⟨tL, htL⟩ : ∃ t, (findSes L o).getD zeroSes = t := ⟨_, rfl⟩
    obtain ⟨iL, hiL⟩ : ∃ i, (findSes L o).isSome = i := ⟨_, rfl⟩
    obtain ⟨tX, htX⟩ : ∃ t, (findSes X o).getD zeroSes = t := ⟨_, rfl⟩
    obtain ⟨iX, hiX⟩ : ∃ i, (findSes X o).isSome = i := ⟨_, rfl⟩
    have HS : Hid (o ≠ s.client → iL = iX ∧ tL = tX) := fun h => by rw [← hiL, ← hiX, ← htL, ← htX, HO.out h]; exact ⟨rfl, rfl⟩
    have b23 : Keeps w2 (w2.alloc (.cells #[.int .i64 s.client, .int .i64 s.acked, .int .i64 s.seen, .slice ga s.kept.length gc] 34)) := (Keeps.refl _).alloc _
    have P := find_right L v o _ (T2.out.keep b23) HL.out tL iL htL hiL
    refine P.mono ?_
    clear P
    rintro e w3 ⟨k3, hk3v, rfl, hb3⟩
    have P := fun w h => find_right X x o w h HX.out tX iX htX hiX
    have HP : Hid (∀ w, TabAt w x X → _) := P
    clear P htL hiL htX hiX HO
    obtain ⟨la, lc, rfl, _⟩ := hk3v.len
    have h23 : Keeps w2 w3 := b23.trans hb3
    have hk3 : Keeps w w3 := hk2.trans h23
    have X3 : Hid (TabAt w3 x X) := X2.out.keep h23
    have K3 : Hid (KeptAt w3 (.slice ka s.kept.length kc) s.kept) := K2.out.keep h23
    have G3 : Hid (KeptAt w3 (.slice ga s.kept.length gc) s.kept) := G2.out.keep h23
    have L3 : Hid (KeptAt w3 (.slice la tL.kept.length lc) tL.kept) := hk3v
    have g0 : w3.cell? ⟨w2.heap.size, 0, none⟩ = some (.int .i64 s.client) := cell_keep (by simp) hb3
    have g1 : w3.cell? ⟨w2.heap.size, 1, none⟩ = some (.int .i64 s.acked) := cell_keep (by simp) hb3
    have g2 : w3.cell? ⟨w2.heap.size, 2, none⟩ = some (.int .i64 s.seen) := cell_keep (by simp) hb3
    have g3 : w3.cell? ⟨w2.heap.size, 3, none⟩ = some (.slice ga s.kept.length gc) := cell_keep (by simp) hb3
    replace b0 := cell_keep b0 h23
    replace b1 := cell_keep b1 h23
    replace b2 := cell_keep b2 h23
    replace b3 := cell_keep b3 h23
    clear hk3v hk2 X2 T2 K2 G2 hb3 b23 h23
    go_wp2_with fail
    have b34 : Keeps w3 (w3.alloc (.cells #[.int .i64 tL.client, .int .i64 tL.acked, .int .i64 tL.seen, .slice la tL.kept.length lc] 34)) := (Keeps.refl _).alloc _
    refine (HP.out _ (X3.out.keep b34)).mono ?_
    rintro e w4 ⟨k4, hk4v, rfl, hb4⟩
    obtain ⟨xa, xc, rfl, _⟩ := hk4v.len
    have h34 : Keeps w3 w4 := b34.trans hb4
    have hk4 : Keeps w w4 := hk3.trans h34
    have X4 : Hid (TabAt w4 x X) := X3.out.keep h34
    have K4 : Hid (KeptAt w4 (.slice ka s.kept.length kc) s.kept) := K3.out.keep h34
    have G4 : Hid (KeptAt w4 (.slice ga s.kept.length gc) s.kept) := G3.out.keep h34
    have L4 : Hid (KeptAt w4 (.slice la tL.kept.length lc) tL.kept) := L3.out.keep h34
    have N4 : Hid (KeptAt w4 (.slice xa tX.kept.length xc) tX.kept) := hk4v
    have l0 : w4.cell? ⟨w3.heap.size, 0, none⟩ = some (.int .i64 tL.client) := cell_keep (by simp) hb4
    have l1 : w4.cell? ⟨w3.heap.size, 1, none⟩ = some (.int .i64 tL.acked) := cell_keep (by simp) hb4
    have l2 : w4.cell? ⟨w3.heap.size, 2, none⟩ = some (.int .i64 tL.seen) := cell_keep (by simp) hb4
    have l3 : w4.cell? ⟨w3.heap.size, 3, none⟩ = some (.slice la tL.kept.length lc) := cell_keep (by simp) hb4
    replace b0 := cell_keep b0 h34
    replace b1 := cell_keep b1 h34
    replace b2 := cell_keep b2 h34
    replace b3 := cell_keep b3 h34
    replace g0 := cell_keep g0 h34
    replace g1 := cell_keep g1 h34
    replace g2 := cell_keep g2 h34
    replace g3 := cell_keep g3 h34
    clear hk4v hk3 X3 K3 G3 L3 hb4 b34 h34 HP
    have b45 : Keeps w4 (w4.alloc (.cells #[.int .i64 tX.client, .int .i64 tX.acked, .int .i64 tX.seen, .slice xa tX.kept.length xc] 34)) := (Keeps.refl _).alloc _
    replace b0 := cell_keep b0 b45
    replace b1 := cell_keep b1 b45
    replace b2 := cell_keep b2 b45
    replace b3 := cell_keep b3 b45
    replace g0 := cell_keep g0 b45
    replace g1 := cell_keep g1 b45
    replace g2 := cell_keep g2 b45
    replace g3 := cell_keep g3 b45
    replace l0 := cell_keep l0 b45
    replace l1 := cell_keep l1 b45
    replace l2 := cell_keep l2 b45
    replace l3 := cell_keep l3 b45
    have P := same_session s s _ _ _ (G4.out.keep b45) (K4.out.keep b45)
    rw [sameSes_self] at P
    have HP : Hid (Calls _ _ _ _ _) := P
    clear P
    go_wp2_with fail
    refine HP.out.mono ?_
    rintro e w5 ⟨rfl, hb5⟩
    have hk5 : Keeps w w5 := (hk4.trans b45).trans hb5
    have X5 : Hid (TabAt w5 x X) := (X4.out.keep b45).keep hb5
    have L5 : Hid (KeptAt w5 (.slice la tL.kept.length lc) tL.kept) := (L4.out.keep b45).keep hb5
    have N5 : Hid (KeptAt w5 (.slice xa tX.kept.length xc) tX.kept) := (N4.out.keep b45).keep hb5
    replace b0 := cell_keep b0 hb5
    replace l0 := cell_keep l0 hb5
    replace l1 := cell_keep l1 hb5
    replace l2 := cell_keep l2 hb5
    replace l3 := cell_keep l3 hb5
    have n0 : w5.cell? ⟨w4.heap.size, 0, none⟩ = some (.int .i64 tX.client) := cell_keep (by simp) hb5
    have n1 : w5.cell? ⟨w4.heap.size, 1, none⟩ = some (.int .i64 tX.acked) := cell_keep (by simp) hb5
    have n2 : w5.cell? ⟨w4.heap.size, 2, none⟩ = some (.int .i64 tX.seen) := cell_keep (by simp) hb5
    have n3 : w5.cell? ⟨w4.heap.size, 3, none⟩ = some (.slice xa tX.kept.length xc) := cell_keep (by simp) hb5
    clear HP hk4 X4 K4 G4 L4 N4 b45 hb5 b1 b2 b3 g0 g1 g2 g3
    have PD : Hid (∀ w, TabAt w x X → _) := sess_drop X x s.client
    rw [HD.out, drop_tab HD.out] at PD
    have PN : Hid (∀ Y : List Ses, tabErr Y = 0 → findSes Y s.client = none → ∀ (y : Value) (w : World), TabAt w y Y → Calls Try.prog 14 #[y, .int .i64 s.client] w fun e w' => ∃ kv, KeptAt w' kv zeroSes.kept ∧ e = .returned (.tuple #[sesV zeroSes kv, .bool false, .int .i64 0]) ∧ Keeps w w') :=
      fun Y h1 h2 y w h => find_right Y y s.client w h h1 zeroSes false (by rw [h2]; rfl) (by rw [h2]; rfl)
    have PN := PN.out (X.filter (fun t => t.client != s.client)) (tab_sub HX.out List.filter_sublist) (find_none (fun t h => by simp [h]) X)
    have PN : Hid (∀ (_ : Unit) (y : Value) (w : World), _) := fun _ => PN
    clear HD HF HL
    generalize X.filter (fun t => t.client != s.client) = Y at PD PN
    by_cases hos : o = s.client
    · have q : (o != s.client) = false := by simp [hos]
      have XK : Hid (TabAt w5 x X) := X5
      have hkK : Keeps w w5 := hk5
      clear X5 hk5 L5 N5 HS l0 l1 l2 l3 n0 n1 n2 n3 hos
      go_wp2_with fail
      refine (PD.out _ XK.out).mono ?_
      rintro e w7 ⟨y, hoy, rfl, hb7⟩
      have hk7 : Keeps w w7 := hkK.trans hb7
      have Y7 : Hid (TabAt w7 y Y) := hoy.tab
      have X7 : Hid (TabAt w7 x X) := XK.out.keep hb7
      replace b0 := cell_keep b0 hb7
      clear hoy hb7 XK hkK PD
      go_wp2_with fail
      refine (PN.out () y w7 Y7.out).mono ?_
      rintro e w8 ⟨k8, hk8v, rfl, hb8⟩
      obtain ⟨za, zc, rfl, _⟩ := hk8v.len
      have h78 : Keeps w7 (w8.alloc (.cells #[.int .i64 zeroSes.client, .int .i64 zeroSes.acked, .int .i64 zeroSes.seen, .slice za zeroSes.kept.length zc] 34)) := hb8.alloc _
      have hk8 := hk7.trans h78
      have X8 : Hid (TabAt _ x X) := X7.out.keep h78
      clear hk8v hb8 h78 X7 Y7 hk7 b0 PN
      go_wp2_with fail
      refine (choose_c a _ HA.out).mono ?_
      rintro e _ ⟨m, hm, rfl, rfl⟩
      have Hm : Hid (0 ≤ m ∧ m ≤ 999) := hm
      clear hm
      go_wp2_with fail
      refine (choose_c b _ HB.out).mono ?_
      rintro e _ ⟨n, hn, rfl, rfl⟩
      have Hn : Hid (0 ≤ n ∧ n ≤ 999) := hn
      clear hn
      rcases Int.lt_trichotomy m n with hmn | hmn | hmn
      · have hnm : ¬ n < m := by omega
        have bl := Hm.out
        have bh := Hn.out
        go_wp2_with fail
        refine (fresh_right_c X x m _ X8.out HX.out bl.1 bl.2).mono ?_
        rintro e w9 ⟨u, hu, rfl, hb9⟩
        have U9 : Hid (TabAt w9 u (freshTab X m)) := hu
        have X9 : Hid (TabAt w9 x X) := X8.out.keep hb9
        have hk9 : Keeps w w9 := hk8.trans hb9
        clear hu hb9 X8 hk8
        go_wp2_with fail
        refine (fresh_right_c (freshTab X m) u n w9 U9.out (fresh_right HX.out) bh.1 bh.2).mono ?_
        rintro e w10 ⟨v10, hv, rfl, hb10⟩
        rw [fresh_twice (by omega)] at hv
        have V10 : Hid (TabAt w10 v10 (freshTab X n)) := hv
        have X10 : Hid (TabAt w10 x X) := X9.out.keep hb10
        have hk10 : Keeps w w10 := hk9.trans hb10
        clear hv hb10 X9 hk9 U9
        go_wp2_with fail
        refine (fresh_right_c X x n w10 X10.out HX.out bh.1 bh.2).mono ?_
        rintro e w11 ⟨z, hz, rfl, hb11⟩
        have Z11 : Hid (TabAt w11 z (freshTab X n)) := hz
        have V11 : Hid (TabAt w11 v10 (freshTab X n)) := V10.out.keep hb11
        have hk11 : Keeps w w11 := hk10.trans hb11
        have HM : Hid (tabErr (freshTab X n) = 0) := fresh_right HX.out
        clear hz hb11 X10 hk10 V10
        generalize freshTab X n = M at Z11 V11 HM
        go_wp2_with fail
        refine (sess_begun _).mono ?_
        rintro e w12 ⟨rfl, hb12⟩
        have P := same_tables M M v10 z w12 (V11.out.keep hb12) (Z11.out.keep hb12)
        rw [sameTab_self] at P
        have V12 : Hid (TabAt w12 v10 M) := V11.out.keep hb12
        have hk12 : Keeps w w12 := hk11.trans hb12
        clear hb12 V11 Z11 hk11
        go_wp2_with fail
        refine P.mono ?_
        rintro e w13 ⟨rfl, hb13⟩
        clear P
        have P := sess_check M v10 w13 (V12.out.keep hb13)
        rw [HM.out] at P
        have hk13 : Keeps w w13 := hk12.trans hb13
        clear hb13 V12 hk12 HM
        go_wp2_with fail
        refine P.mono ?_
        rintro e w14 ⟨rfl, hb14⟩
        clear P
        go_wp2_with fail
        go_ret
        exact ⟨rfl, hk13.trans hb14⟩
      · subst hmn
        have bl := Hm.out
        have bh := Hn.out
        go_wp2_with fail
        refine (fresh_right_c X x m _ X8.out HX.out bl.1 bl.2).mono ?_
        rintro e w9 ⟨u, hu, rfl, hb9⟩
        have U9 : Hid (TabAt w9 u (freshTab X m)) := hu
        have X9 : Hid (TabAt w9 x X) := X8.out.keep hb9
        have hk9 : Keeps w w9 := hk8.trans hb9
        clear hu hb9 X8 hk8
        go_wp2_with fail
        refine (fresh_right_c (freshTab X m) u m w9 U9.out (fresh_right HX.out) bh.1 bh.2).mono ?_
        rintro e w10 ⟨v10, hv, rfl, hb10⟩
        rw [fresh_twice (by omega)] at hv
        have V10 : Hid (TabAt w10 v10 (freshTab X m)) := hv
        have X10 : Hid (TabAt w10 x X) := X9.out.keep hb10
        have hk10 : Keeps w w10 := hk9.trans hb10
        clear hv hb10 X9 hk9 U9
        go_wp2_with fail
        refine (fresh_right_c X x m w10 X10.out HX.out bh.1 bh.2).mono ?_
        rintro e w11 ⟨z, hz, rfl, hb11⟩
        have Z11 : Hid (TabAt w11 z (freshTab X m)) := hz
        have V11 : Hid (TabAt w11 v10 (freshTab X m)) := V10.out.keep hb11
        have hk11 : Keeps w w11 := hk10.trans hb11
        have HM : Hid (tabErr (freshTab X m) = 0) := fresh_right HX.out
        clear hz hb11 X10 hk10 V10
        generalize freshTab X m = M at Z11 V11 HM
        go_wp2_with fail
        refine (sess_begun _).mono ?_
        rintro e w12 ⟨rfl, hb12⟩
        have P := same_tables M M v10 z w12 (V11.out.keep hb12) (Z11.out.keep hb12)
        rw [sameTab_self] at P
        have V12 : Hid (TabAt w12 v10 M) := V11.out.keep hb12
        have hk12 : Keeps w w12 := hk11.trans hb12
        clear hb12 V11 Z11 hk11
        go_wp2_with fail
        refine P.mono ?_
        rintro e w13 ⟨rfl, hb13⟩
        clear P
        have P := sess_check M v10 w13 (V12.out.keep hb13)
        rw [HM.out] at P
        have hk13 : Keeps w w13 := hk12.trans hb13
        clear hb13 V12 hk12 HM
        go_wp2_with fail
        refine P.mono ?_
        rintro e w14 ⟨rfl, hb14⟩
        clear P
        go_wp2_with fail
        go_ret
        exact ⟨rfl, hk13.trans hb14⟩
      · have hnm : ¬ m < n := by omega
        have bl := Hn.out
        have bh := Hm.out
        go_wp2_with fail
        refine (fresh_right_c X x n _ X8.out HX.out bl.1 bl.2).mono ?_
        rintro e w9 ⟨u, hu, rfl, hb9⟩
        have U9 : Hid (TabAt w9 u (freshTab X n)) := hu
        have X9 : Hid (TabAt w9 x X) := X8.out.keep hb9
        have hk9 : Keeps w w9 := hk8.trans hb9
        clear hu hb9 X8 hk8
        go_wp2_with fail
        refine (fresh_right_c (freshTab X n) u m w9 U9.out (fresh_right HX.out) bh.1 bh.2).mono ?_
        rintro e w10 ⟨v10, hv, rfl, hb10⟩
        rw [fresh_twice (by omega)] at hv
        have V10 : Hid (TabAt w10 v10 (freshTab X m)) := hv
        have X10 : Hid (TabAt w10 x X) := X9.out.keep hb10
        have hk10 : Keeps w w10 := hk9.trans hb10
        clear hv hb10 X9 hk9 U9
        go_wp2_with fail
        refine (fresh_right_c X x m w10 X10.out HX.out bh.1 bh.2).mono ?_
        rintro e w11 ⟨z, hz, rfl, hb11⟩
        have Z11 : Hid (TabAt w11 z (freshTab X m)) := hz
        have V11 : Hid (TabAt w11 v10 (freshTab X m)) := V10.out.keep hb11
        have hk11 : Keeps w w11 := hk10.trans hb11
        have HM : Hid (tabErr (freshTab X m) = 0) := fresh_right HX.out
        clear hz hb11 X10 hk10 V10
        generalize freshTab X m = M at Z11 V11 HM
        go_wp2_with fail
        refine (sess_begun _).mono ?_
        rintro e w12 ⟨rfl, hb12⟩
        have P := same_tables M M v10 z w12 (V11.out.keep hb12) (Z11.out.keep hb12)
        rw [sameTab_self] at P
        have V12 : Hid (TabAt w12 v10 M) := V11.out.keep hb12
        have hk12 : Keeps w w12 := hk11.trans hb12
        clear hb12 V11 Z11 hk11
        go_wp2_with fail
        refine P.mono ?_
        rintro e w13 ⟨rfl, hb13⟩
        clear P
        have P := sess_check M v10 w13 (V12.out.keep hb13)
        rw [HM.out] at P
        have hk13 : Keeps w w13 := hk12.trans hb13
        clear hb13 V12 hk12 HM
        go_wp2_with fail
        refine P.mono ?_
        rintro e w14 ⟨rfl, hb14⟩
        clear P
        go_wp2_with fail
        go_ret
        exact ⟨rfl, hk13.trans hb14⟩
    · obtain ⟨rfl, rfl⟩ := HS.out hos
      have q : (o != s.client) = true := by simpa using hos
      clear HS hos
      have P := same_session tL tL _ _ _ L5.out N5.out
      rw [sameSes_self] at P
      have HP : Hid (Calls _ _ _ _ _) := P
      clear P L5 N5
      go_wp2_with fail
      refine HP.out.mono ?_
      rintro e w6 ⟨rfl, hb6⟩
      have XK : Hid (TabAt w6 x X) := X5.out.keep hb6
      have hkK : Keeps w w6 := hk5.trans hb6
      replace b0 := cell_keep b0 hb6
      clear X5 hk5 l0 l1 l2 l3 n0 n1 n2 n3 HP hb6
      go_wp2_with fail
      refine (PD.out _ XK.out).mono ?_
      rintro e w7 ⟨y, hoy, rfl, hb7⟩
      have hk7 : Keeps w w7 := hkK.trans hb7
      have Y7 : Hid (TabAt w7 y Y) := hoy.tab
      have X7 : Hid (TabAt w7 x X) := XK.out.keep hb7
      replace b0 := cell_keep b0 hb7
      clear hoy hb7 XK hkK PD
      go_wp2_with fail
      refine (PN.out () y w7 Y7.out).mono ?_
      rintro e w8 ⟨k8, hk8v, rfl, hb8⟩
      obtain ⟨za, zc, rfl, _⟩ := hk8v.len
      have h78 : Keeps w7 (w8.alloc (.cells #[.int .i64 zeroSes.client, .int .i64 zeroSes.acked, .int .i64 zeroSes.seen, .slice za zeroSes.kept.length zc] 34)) := hb8.alloc _
      have hk8 := hk7.trans h78
      have X8 : Hid (TabAt _ x X) := X7.out.keep h78
      clear hk8v hb8 h78 X7 Y7 hk7 b0 PN
      go_wp2_with fail
      refine (choose_c a _ HA.out).mono ?_
      rintro e _ ⟨m, hm, rfl, rfl⟩
      have Hm : Hid (0 ≤ m ∧ m ≤ 999) := hm
      clear hm
      go_wp2_with fail
      refine (choose_c b _ HB.out).mono ?_
      rintro e _ ⟨n, hn, rfl, rfl⟩
      have Hn : Hid (0 ≤ n ∧ n ≤ 999) := hn
      clear hn
      rcases Int.lt_trichotomy m n with hmn | hmn | hmn
      · have hnm : ¬ n < m := by omega
        have bl := Hm.out
        have bh := Hn.out
        go_wp2_with fail
        refine (fresh_right_c X x m _ X8.out HX.out bl.1 bl.2).mono ?_
        rintro e w9 ⟨u, hu, rfl, hb9⟩
        have U9 : Hid (TabAt w9 u (freshTab X m)) := hu
        have X9 : Hid (TabAt w9 x X) := X8.out.keep hb9
        have hk9 : Keeps w w9 := hk8.trans hb9
        clear hu hb9 X8 hk8
        go_wp2_with fail
        refine (fresh_right_c (freshTab X m) u n w9 U9.out (fresh_right HX.out) bh.1 bh.2).mono ?_
        rintro e w10 ⟨v10, hv, rfl, hb10⟩
        rw [fresh_twice (by omega)] at hv
        have V10 : Hid (TabAt w10 v10 (freshTab X n)) := hv
        have X10 : Hid (TabAt w10 x X) := X9.out.keep hb10
        have hk10 : Keeps w w10 := hk9.trans hb10
        clear hv hb10 X9 hk9 U9
        go_wp2_with fail
        refine (fresh_right_c X x n w10 X10.out HX.out bh.1 bh.2).mono ?_
        rintro e w11 ⟨z, hz, rfl, hb11⟩
        have Z11 : Hid (TabAt w11 z (freshTab X n)) := hz
        have V11 : Hid (TabAt w11 v10 (freshTab X n)) := V10.out.keep hb11
        have hk11 : Keeps w w11 := hk10.trans hb11
        have HM : Hid (tabErr (freshTab X n) = 0) := fresh_right HX.out
        clear hz hb11 X10 hk10 V10
        generalize freshTab X n = M at Z11 V11 HM
        go_wp2_with fail
        refine (sess_begun _).mono ?_
        rintro e w12 ⟨rfl, hb12⟩
        have P := same_tables M M v10 z w12 (V11.out.keep hb12) (Z11.out.keep hb12)
        rw [sameTab_self] at P
        have V12 : Hid (TabAt w12 v10 M) := V11.out.keep hb12
        have hk12 : Keeps w w12 := hk11.trans hb12
        clear hb12 V11 Z11 hk11
        go_wp2_with fail
        refine P.mono ?_
        rintro e w13 ⟨rfl, hb13⟩
        clear P
        have P := sess_check M v10 w13 (V12.out.keep hb13)
        rw [HM.out] at P
        have hk13 : Keeps w w13 := hk12.trans hb13
        clear hb13 V12 hk12 HM
        go_wp2_with fail
        refine P.mono ?_
        rintro e w14 ⟨rfl, hb14⟩
        clear P
        go_wp2_with fail
        go_ret
        exact ⟨rfl, hk13.trans hb14⟩
      · subst hmn
        have bl := Hm.out
        have bh := Hn.out
        go_wp2_with fail
        refine (fresh_right_c X x m _ X8.out HX.out bl.1 bl.2).mono ?_
        rintro e w9 ⟨u, hu, rfl, hb9⟩
        have U9 : Hid (TabAt w9 u (freshTab X m)) := hu
        have X9 : Hid (TabAt w9 x X) := X8.out.keep hb9
        have hk9 : Keeps w w9 := hk8.trans hb9
        clear hu hb9 X8 hk8
        go_wp2_with fail
        refine (fresh_right_c (freshTab X m) u m w9 U9.out (fresh_right HX.out) bh.1 bh.2).mono ?_
        rintro e w10 ⟨v10, hv, rfl, hb10⟩
        rw [fresh_twice (by omega)] at hv
        have V10 : Hid (TabAt w10 v10 (freshTab X m)) := hv
        have X10 : Hid (TabAt w10 x X) := X9.out.keep hb10
        have hk10 : Keeps w w10 := hk9.trans hb10
        clear hv hb10 X9 hk9 U9
        go_wp2_with fail
        refine (fresh_right_c X x m w10 X10.out HX.out bh.1 bh.2).mono ?_
        rintro e w11 ⟨z, hz, rfl, hb11⟩
        have Z11 : Hid (TabAt w11 z (freshTab X m)) := hz
        have V11 : Hid (TabAt w11 v10 (freshTab X m)) := V10.out.keep hb11
        have hk11 : Keeps w w11 := hk10.trans hb11
        have HM : Hid (tabErr (freshTab X m) = 0) := fresh_right HX.out
        clear hz hb11 X10 hk10 V10
        generalize freshTab X m = M at Z11 V11 HM
        go_wp2_with fail
        refine (sess_begun _).mono ?_
        rintro e w12 ⟨rfl, hb12⟩
        have P := same_tables M M v10 z w12 (V11.out.keep hb12) (Z11.out.keep hb12)
        rw [sameTab_self] at P
        have V12 : Hid (TabAt w12 v10 M) := V11.out.keep hb12
        have hk12 : Keeps w w12 := hk11.trans hb12
        clear hb12 V11 Z11 hk11
        go_wp2_with fail
        refine P.mono ?_
        rintro e w13 ⟨rfl, hb13⟩
        clear P
        have P := sess_check M v10 w13 (V12.out.keep hb13)
        rw [HM.out] at P
        have hk13 : Keeps w w13 := hk12.trans hb13
        clear hb13 V12 hk12 HM
        go_wp2_with fail
        refine P.mono ?_
        rintro e w14 ⟨rfl, hb14⟩
        clear P
        go_wp2_with fail
        go_ret
        exact ⟨rfl, hk13.trans hb14⟩
      · have hnm : ¬ m < n := by omega
        have bl := Hn.out
        have bh := Hm.out
        go_wp2_with fail
        refine (fresh_right_c X x n _ X8.out HX.out bl.1 bl.2).mono ?_
        rintro e w9 ⟨u, hu, rfl, hb9⟩
        have U9 : Hid (TabAt w9 u (freshTab X n)) := hu
        have X9 : Hid (TabAt w9 x X) := X8.out.keep hb9
        have hk9 : Keeps w w9 := hk8.trans hb9
        clear hu hb9 X8 hk8
        go_wp2_with fail
        refine (fresh_right_c (freshTab X n) u m w9 U9.out (fresh_right HX.out) bh.1 bh.2).mono ?_
        rintro e w10 ⟨v10, hv, rfl, hb10⟩
        rw [fresh_twice (by omega)] at hv
        have V10 : Hid (TabAt w10 v10 (freshTab X m)) := hv
        have X10 : Hid (TabAt w10 x X) := X9.out.keep hb10
        have hk10 : Keeps w w10 := hk9.trans hb10
        clear hv hb10 X9 hk9 U9
        go_wp2_with fail
        refine (fresh_right_c X x m w10 X10.out HX.out bh.1 bh.2).mono ?_
        rintro e w11 ⟨z, hz, rfl, hb11⟩
        have Z11 : Hid (TabAt w11 z (freshTab X m)) := hz
        have V11 : Hid (TabAt w11 v10 (freshTab X m)) := V10.out.keep hb11
        have hk11 : Keeps w w11 := hk10.trans hb11
        have HM : Hid (tabErr (freshTab X m) = 0) := fresh_right HX.out
        clear hz hb11 X10 hk10 V10
        generalize freshTab X m = M at Z11 V11 HM
        go_wp2_with fail
        refine (sess_begun _).mono ?_
        rintro e w12 ⟨rfl, hb12⟩
        have P := same_tables M M v10 z w12 (V11.out.keep hb12) (Z11.out.keep hb12)
        rw [sameTab_self] at P
        have V12 : Hid (TabAt w12 v10 M) := V11.out.keep hb12
        have hk12 : Keeps w w12 := hk11.trans hb12
        clear hb12 V11 Z11 hk11
        go_wp2_with fail
        refine P.mono ?_
        rintro e w13 ⟨rfl, hb13⟩
        clear P
        have P := sess_check M v10 w13 (V12.out.keep hb13)
        rw [HM.out] at P
        have hk13 : Keeps w w13 := hk12.trans hb13
        clear hb13 V12 hk12 HM
        go_wp2_with fail
        refine P.mono ?_
        rintro e w14 ⟨rfl, hb14⟩
        clear P
        go_wp2_with fail
        go_ret
        exact ⟨rfl, hk13.trans hb14⟩
  · have hp' : (putErr L s != 0) = true := by simpa using hp
    generalize putErr L s = f at P1 hp'
    go_enter Try.func8, Try.ntmps8
    go_wp2_with fail
    refine (P1.out _ HT.out HK.out).mono ?_
    rintro e w1 ⟨x, ho, rfl, hb1⟩
    have hk1 : Keeps w w1 := hkB.trans hb1
    clear HT HK hkB P1 ho hb1
    go_wp2_with fail
    refine (sess_begun _).mono ?_
    rintro e w2 ⟨rfl, hb2⟩
    go_wp2_with fail
    go_ret
    exact ⟨rfl, hk1.trans hb2⟩
end Go.Proofs.Yteabfjpajgakiaa
