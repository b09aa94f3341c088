/- NoE. -/
import Derived.Test.YteabfjpajgakiaeGreatJ13
import Derived.Test.YteabfjpajgakiaeGreatJ18
import Derived.Test.YteabfjpajgakiaeGreatJ19
/- nodeBegun. -/
set_option linter.unusedSimpArgs false
set_option linter.unusedVariables false
set_option maxRecDepth 10000
namespace Go.Proofs.YteabfjpajgakiaeGreat
open Go.RowKit

def nodeS : St := runOut logC zeroSt 2
theorem node_runs : cutErr log0 6 = 0 ∧ fitsOk logC zeroSt = true ∧ nodeErr logC zeroSt = 0 ∧ fitsOk logC shopS = false ∧ nodeErr logC shopS = 0 ∧ runErr logC zeroSt 2 = 0 ∧ runNum logC zeroSt 2 = 2 ∧ nodeS.at_ = 8 ∧ runErr logC shopS 2 = 1 ∧ runNum logC shopS 2 = 0 ∧ runErr logC nodeS 50 = 0 ∧ runNum logC nodeS 50 = 2 ∧ (runOut logC nodeS 50).at_ = 10 ∧ (runOut logC nodeS 50).v0 = 12 := by decide +kernel

set_option maxHeartbeats 8000000 in
theorem node_begun (w : World) : Calls Tryz.prog 10 #[] w fun y w' => y = .returned (.bool true) ∧ Keeps w w' := by
  have HR := (show Hid _ from node_runs)
  go_enter Tryz.func10, Tryz.ntmps10
  go_wp2_with fail
  refine (some_cap _).mono ?_
  rintro y w1 ⟨a1, h1, rfl, hb⟩
  have HK1 : Hid (Keeps w w1) := hb
  have HL1 : Hid (EntsAt w1 (.slice (some a1) 10 10) someL) := h1
  clear hb h1
  go_wp2_with fail
  refine (cut_of_cap log0 6 (.slice none 0 0) (some a1) 10 w1 (OwnTab.nil 0 _).tab HL1.out (by decide)).mono ?_
  rintro y w2 ⟨ma, mc, na, nc, hO, hE, hnc, rfl, hb⟩
  rw [HR.out.1]
  obtain ⟨M, hM⟩ : ∃ s, s = logC := ⟨_, rfl⟩
  have hM' : cutLg log0 6 = M := hM.symm
  rw [hM'] at hO hE hnc ⊢
  have HM : Hid (M = logC) := hM
  have HO2 : Hid (TabAt w2 (.slice ma M.base.tab.length mc) M.base.tab) := hO.tab
  have HE2 : Hid (EntsAt w2 (.slice na M.tail.length nc) M.tail) := hE
  have HK2 : Hid (Keeps w w2) := HK1.out.trans hb
  clear hM hM' hO hE hb HL1 HK1
  clear w1
  go_wp2_with fail
  obtain ⟨w4, hw4⟩ : ∃ z, z = w2.alloc (.cells #[.int .i64 M.base.at_, .int .i64 M.base.clock, .int .i64 M.base.v0, .int .i64 M.base.v1, .int .i64 M.base.v2, .int .i64 M.base.v3, .slice ma M.base.tab.length mc, .slice na M.tail.length nc] 28) := ⟨_, rfl⟩
  have k24 : Keeps w2 w4 := by rw [hw4]; exact (Keeps.refl _).alloc _
  have B4 : LgBox w2.heap.size M (.slice ma M.base.tab.length mc) (.slice na M.tail.length nc) w4 := by rw [hw4]; exact LgBox.new w2 M _ _ rfl rfl 28
  rw [← hw4]
  clear hw4
  have HB4 : Hid (LgBox w2.heap.size M (.slice ma M.base.tab.length mc) (.slice na M.tail.length nc) w4) := B4
  generalize w2.heap.size = mb at *
  have HO4 : Hid (TabAt w4 (.slice ma M.base.tab.length mc) M.base.tab) := HO2.out.keep k24
  have HE4 : Hid (EntsAt w4 (.slice na M.tail.length nc) M.tail) := HE2.out.keep k24
  have HK4 : Hid (Keeps w w4) := HK2.out.trans k24
  clear B4 k24 HK2 HO2 HE2
  clear w2
  have HSA : Hid (∀ W, Keeps w4 W → W.cell? ⟨mb, 0, none⟩ = some (.int .i64 M.base.at_) ∧ W.cell? ⟨mb, 1, none⟩ = some (.int .i64 M.base.clock) ∧ W.cell? ⟨mb, 2, none⟩ = some (.int .i64 M.base.v0) ∧ W.cell? ⟨mb, 3, none⟩ = some (.int .i64 M.base.v1) ∧ W.cell? ⟨mb, 4, none⟩ = some (.int .i64 M.base.v2) ∧ W.cell? ⟨mb, 5, none⟩ = some (.int .i64 M.base.v3) ∧ W.cell? ⟨mb, 6, none⟩ = some (.slice ma M.base.tab.length mc) ∧ W.cell? ⟨mb, 7, none⟩ = some (.slice na M.tail.length nc)) := fun W hk => have B := HB4.out.keep hk; ⟨B.c0, B.c1, B.c2, B.c3, B.c4, B.c5, B.c6, B.c7⟩
  have HF0 : Hid (∀ W, Keeps w4 W → Calls Tryz.prog 6 #[lgV M (.slice ma M.base.tab.length mc) (.slice na M.tail.length nc), stV zeroSt (.slice none 0 0)] W fun y w' => y = .returned (.tuple #[.bool true, .int .i64 0]) ∧ Keeps W w') := by
    intro W hk
    have := node_fits_c M zeroSt _ (.slice none 0 0) na nc W (HO4.out.keep hk) (HE4.out.keep hk) (OwnTab.nil 0 _).tab hnc
    rw [HM.out, HR.out.2.1, HR.out.2.2.1, ← HM.out] at this
    exact this
  have HF1 : Hid (∀ W b, Keeps w4 W → TabAt W (.slice (some ⟨b, 0, none⟩) 2 2) shopS.tab → Calls Tryz.prog 6 #[lgV M (.slice ma M.base.tab.length mc) (.slice na M.tail.length nc), stV shopS (.slice (some ⟨b, 0, none⟩) 2 2)] W fun y w' => y = .returned (.tuple #[.bool false, .int .i64 0]) ∧ Keeps W w') := by
    intro W b hk hx
    have := node_fits_c M shopS _ (.slice (some ⟨b, 0, none⟩) 2 2) na nc W (HO4.out.keep hk) (HE4.out.keep hk) hx hnc
    rw [HM.out, HR.out.2.2.2.1, HR.out.2.2.2.2.1, ← HM.out] at this
    exact this
  obtain ⟨s1, hs1⟩ : ∃ s, s = nodeS := ⟨_, rfl⟩
  have HS1 : Hid (s1.at_ = 8) := by show _ = _; rw [hs1]; exact HR.out.2.2.2.2.2.2.2.1
  obtain ⟨s2, hs2⟩ : ∃ s, s = runOut logC shopS 2 := ⟨_, rfl⟩
  obtain ⟨s3, hs3⟩ : ∃ s, s = runOut logC s1 50 := ⟨_, rfl⟩
  have hs3a : s3.at_ = 10 := by rw [hs3, hs1]; exact HR.out.2.2.2.2.2.2.2.2.2.2.2.2.1
  have hs3v : s3.v0 = 12 := by rw [hs3, hs1]; exact HR.out.2.2.2.2.2.2.2.2.2.2.2.2.2
  have HG0 : Hid (∀ W, Keeps w4 W → Calls Tryz.prog 7 #[lgV M (.slice ma M.base.tab.length mc) (.slice na M.tail.length nc), stV zeroSt (.slice none 0 0), .int .i64 2] W fun y w' => ∃ qa qc, Hid (OwnTab W.heap.size w' (.slice qa s1.tab.length qc) s1.tab) ∧ y = .returned (.tuple #[stV s1 (.slice qa s1.tab.length qc), .int .i64 2, .int .i64 0]) ∧ Keeps W w') := by
    intro W hk
    have e1 : runOut M zeroSt 2 = s1 := by rw [HM.out, hs1]; rfl
    have e2 : runNum M zeroSt 2 = 2 := by rw [HM.out]; exact HR.out.2.2.2.2.2.2.1
    have e3 : runErr M zeroSt 2 = 0 := by rw [HM.out]; exact HR.out.2.2.2.2.2.1
    have := node_run M zeroSt 2 _ (.slice none 0 0) na nc W (HO4.out.keep hk) (HE4.out.keep hk) (OwnTab.nil 0 _).tab hnc
    rw [e1, e2, e3] at this
    exact this
  have HG1 : Hid (∀ W b, Keeps w4 W → TabAt W (.slice (some ⟨b, 0, none⟩) 2 2) shopS.tab → Calls Tryz.prog 7 #[lgV M (.slice ma M.base.tab.length mc) (.slice na M.tail.length nc), stV shopS (.slice (some ⟨b, 0, none⟩) 2 2), .int .i64 2] W fun y w' => ∃ qa qc, Hid (OwnTab W.heap.size w' (.slice qa s2.tab.length qc) s2.tab) ∧ y = .returned (.tuple #[stV s2 (.slice qa s2.tab.length qc), .int .i64 0, .int .i64 1]) ∧ Keeps W w') := by
    intro W b hk hx
    have e1 : runOut M shopS 2 = s2 := by rw [HM.out, hs2]
    have e2 : runNum M shopS 2 = 0 := by rw [HM.out]; exact HR.out.2.2.2.2.2.2.2.2.2.1
    have e3 : runErr M shopS 2 = 1 := by rw [HM.out]; exact HR.out.2.2.2.2.2.2.2.2.1
    have := node_run M shopS 2 _ (.slice (some ⟨b, 0, none⟩) 2 2) na nc W (HO4.out.keep hk) (HE4.out.keep hk) hx hnc
    rw [e1, e2, e3] at this
    exact this
  have HG2 : Hid (∀ W (x : Value), Keeps w4 W → TabAt W x s1.tab → Calls Tryz.prog 7 #[lgV M (.slice ma M.base.tab.length mc) (.slice na M.tail.length nc), stV s1 x, .int .i64 50] W fun y w' => ∃ qa qc, y = .returned (.tuple #[stV s3 (.slice qa s3.tab.length qc), .int .i64 2, .int .i64 0]) ∧ Keeps W w') := by
    intro W x hk hx
    have e1 : runOut M s1 50 = s3 := by rw [HM.out, hs3]
    have e2 : runNum M s1 50 = 2 := by rw [HM.out, hs1]; exact HR.out.2.2.2.2.2.2.2.2.2.2.2.1
    have e3 : runErr M s1 50 = 0 := by rw [HM.out, hs1]; exact HR.out.2.2.2.2.2.2.2.2.2.2.1
    refine (node_run M s1 50 _ x na nc W (HO4.out.keep hk) (HE4.out.keep hk) hx hnc).mono ?_
    rw [e1, e2, e3]
    rintro y w' ⟨qa, qc, _, rfl, hb⟩
    exact ⟨qa, qc, rfl, hb⟩
  clear hs1 hs2 hs3 hnc HR HM HE4 HO4 HB4
  obtain ⟨s3at, s3cl, s3a, s3b, s3c, s3d, s3t⟩ := s3
  simp only at hs3a hs3v
  subst hs3a
  subst hs3v
  go_cut [3, 4] (fun p q wc => p = .bool true ∧ q = .int .i64 0 ∧ Keeps w4 wc)
  case first =>
    obtain ⟨V0, hV0⟩ : ∃ z, z = w4.drew := ⟨_, rfl⟩
    have k0 : Keeps w4 V0 := by rw [hV0]; exact (Keeps.refl _).drew
    refine wp_region_held_drew (S := fun W => W.cell? ⟨mb, 0, none⟩ = some (.int .i64 M.base.at_) ∧ W.cell? ⟨mb, 1, none⟩ = some (.int .i64 M.base.clock) ∧ W.cell? ⟨mb, 2, none⟩ = some (.int .i64 M.base.v0) ∧ W.cell? ⟨mb, 3, none⟩ = some (.int .i64 M.base.v1) ∧ W.cell? ⟨mb, 4, none⟩ = some (.int .i64 M.base.v2) ∧ W.cell? ⟨mb, 5, none⟩ = some (.int .i64 M.base.v3) ∧ W.cell? ⟨mb, 6, none⟩ = some (.slice ma M.base.tab.length mc) ∧ W.cell? ⟨mb, 7, none⟩ = some (.slice na M.tail.length nc)) (by kernel_rfl) (HSA.out _ (Keeps.refl _).drew) (fun hS => ?_)
    rw [← hV0] at hS ⊢
    clear hV0
    refine wpAnyH_take (i := 0) (v := lgV M (.slice ma M.base.tab.length mc) (.slice na M.tail.length nc)) rfl (by kernel_rfl) (by kernel_rfl) (by kernel_rfl) (fun _ _ _ h => h) (Or.inl ⟨by rfl, ?_⟩) hS ?_
    · intro w hS; go_simp
    refine wpAnyH_ready (rs := [1]) (by kernel_rfl) (by simp) ?_
    refine AllReadyH.cons rfl (fun K hK => ?_) (AllReadyH.nil)
    go_simp
    refine (begin_c V0).mono ?_
    rintro y V1 ⟨rfl, hb⟩
    have k1 := k0.trans hb
    clear hb
    go_simp
    refine hK.out _ _ (HSA.out _ k1) (fun hS => ?_)
    clear hK K
    refine wpAnyH_ready (rs := [2]) (by kernel_rfl) (by simp) ?_
    refine AllReadyH.cons rfl (fun K hK => ?_) (AllReadyH.nil)
    go_simp
    refine (HF0.out V1 k1).mono ?_
    rintro y V2 ⟨rfl, hb⟩
    have k2 := k1.trans hb
    clear hb
    go_simp
    refine hK.out _ _ (HSA.out _ k2) (fun hS => ?_)
    clear hK K
    refine wpAnyH_take (i := 3) (v := .tuple #[.bool true, .int .i64 0]) rfl (by kernel_rfl) (by kernel_rfl) (by kernel_rfl) (fun _ _ _ h => h) (Or.inl ⟨by rfl, ?_⟩) hS ?_
    · intro w hS; go_simp
    refine wpAnyH_take (i := 4) (v := .bool true) rfl (by kernel_rfl) (by kernel_rfl) (by kernel_rfl) (fun _ _ _ h => h) (Or.inl ⟨by rfl, ?_⟩) hS ?_
    · intro w hS; go_simp
    refine wpAnyH_take (i := 5) (v := .int .i64 0) rfl (by kernel_rfl) (by kernel_rfl) (by kernel_rfl) (fun _ _ _ h => h) (Or.inl ⟨by rfl, ?_⟩) hS ?_
    · intro w hS; go_simp
    refine wpAnyH_take (i := 6) (v := .bool true) rfl (by kernel_rfl) (by kernel_rfl) (by kernel_rfl) (fun _ _ _ h => h) (Or.inl ⟨by rfl, ?_⟩) hS ?_
    · intro w hS; go_simp
    refine wpAnyH_take (i := 7) (v := .int .i64 0) rfl (by kernel_rfl) (by kernel_rfl) (by kernel_rfl) (fun _ _ _ h => h) (Or.inl ⟨by rfl, ?_⟩) hS ?_
    · intro w hS; go_simp
    refine wpAnyH_done (by kernel_rfl) ?_ _
    go_wp2_with fail
    go_meet
    exact ⟨rfl, rfl, k2⟩
  case rest =>
    obtain ⟨rfl, rfl, hkc⟩ := hcut
    obtain ⟨w5, hw5⟩ : ∃ z, z = wc := ⟨_, rfl⟩
    rw [← hw5] at hkc ⊢
    clear hw5
    have HK5 : Hid (Keeps w4 w5) := hkc
    have HS5 : Hid (∀ W, Keeps w5 W → W.cell? ⟨mb, 0, none⟩ = some (.int .i64 M.base.at_) ∧ W.cell? ⟨mb, 1, none⟩ = some (.int .i64 M.base.clock) ∧ W.cell? ⟨mb, 2, none⟩ = some (.int .i64 M.base.v0) ∧ W.cell? ⟨mb, 3, none⟩ = some (.int .i64 M.base.v1) ∧ W.cell? ⟨mb, 4, none⟩ = some (.int .i64 M.base.v2) ∧ W.cell? ⟨mb, 5, none⟩ = some (.int .i64 M.base.v3) ∧ W.cell? ⟨mb, 6, none⟩ = some (.slice ma M.base.tab.length mc) ∧ W.cell? ⟨mb, 7, none⟩ = some (.slice na M.tail.length nc)) := fun W hk => HSA.out W (HK5.out.trans hk)
    clear hkc
    go_wp2_with fail
    go_cut [5, 6] (fun p q wc => p = .bool false ∧ q = .int .i64 0 ∧ Keeps w5 wc)
    case first =>
      obtain ⟨V0, hV0⟩ : ∃ z, z = w5.drew := ⟨_, rfl⟩
      have k0 : Keeps w5 V0 := by rw [hV0]; exact (Keeps.refl _).drew
      refine wp_region_held_drew (S := fun W => W.cell? ⟨mb, 0, none⟩ = some (.int .i64 M.base.at_) ∧ W.cell? ⟨mb, 1, none⟩ = some (.int .i64 M.base.clock) ∧ W.cell? ⟨mb, 2, none⟩ = some (.int .i64 M.base.v0) ∧ W.cell? ⟨mb, 3, none⟩ = some (.int .i64 M.base.v1) ∧ W.cell? ⟨mb, 4, none⟩ = some (.int .i64 M.base.v2) ∧ W.cell? ⟨mb, 5, none⟩ = some (.int .i64 M.base.v3) ∧ W.cell? ⟨mb, 6, none⟩ = some (.slice ma M.base.tab.length mc) ∧ W.cell? ⟨mb, 7, none⟩ = some (.slice na M.tail.length nc)) (by kernel_rfl) (HS5.out _ (Keeps.refl _).drew) (fun hS => ?_)
      rw [← hV0] at hS ⊢
      clear hV0
      refine wpAnyH_take (i := 0) (v := lgV M (.slice ma M.base.tab.length mc) (.slice na M.tail.length nc)) rfl (by kernel_rfl) (by kernel_rfl) (by kernel_rfl) (fun _ _ _ h => h) (Or.inl ⟨by rfl, ?_⟩) hS ?_
      · intro w hS; go_simp
      refine wpAnyH_ready (rs := [1]) (by kernel_rfl) (by simp) ?_
      refine AllReadyH.cons rfl (fun K hK => ?_) (AllReadyH.nil)
      go_simp
      refine (shop_c V0).mono ?_
      rintro y V1 ⟨b, ka, kc, la, lc, _, hSH, _, rfl, hb⟩
      have HSH : Hid (TabAt V1 (.slice (some ⟨b, 0, none⟩) 2 2) shopS.tab) := hSH.tab
      clear hSH
      have k1 := k0.trans hb
      clear hb
      go_simp
      refine hK.out _ _ (HS5.out _ k1) (fun hS => ?_)
      clear hK K
      refine wpAnyH_ready (rs := [2]) (by kernel_rfl) (by simp) ?_
      refine AllReadyH.cons rfl (fun K hK => ?_) (AllReadyH.nil)
      go_simp
      refine (HF1.out V1 b (HK5.out.trans k1) HSH.out).mono ?_
      rintro y V2 ⟨rfl, hb⟩
      have k2 := k1.trans hb
      clear hb
      go_simp
      refine hK.out _ _ (HS5.out _ k2) (fun hS => ?_)
      clear hK K
      refine wpAnyH_take (i := 3) (v := .tuple #[.bool false, .int .i64 0]) rfl (by kernel_rfl) (by kernel_rfl) (by kernel_rfl) (fun _ _ _ h => h) (Or.inl ⟨by rfl, ?_⟩) hS ?_
      · intro w hS; go_simp
      refine wpAnyH_take (i := 4) (v := .bool false) rfl (by kernel_rfl) (by kernel_rfl) (by kernel_rfl) (fun _ _ _ h => h) (Or.inl ⟨by rfl, ?_⟩) hS ?_
      · intro w hS; go_simp
      refine wpAnyH_take (i := 5) (v := .int .i64 0) rfl (by kernel_rfl) (by kernel_rfl) (by kernel_rfl) (fun _ _ _ h => h) (Or.inl ⟨by rfl, ?_⟩) hS ?_
      · intro w hS; go_simp
      refine wpAnyH_take (i := 6) (v := .bool false) rfl (by kernel_rfl) (by kernel_rfl) (by kernel_rfl) (fun _ _ _ h => h) (Or.inl ⟨by rfl, ?_⟩) hS ?_
      · intro w hS; go_simp
      refine wpAnyH_take (i := 7) (v := .int .i64 0) rfl (by kernel_rfl) (by kernel_rfl) (by kernel_rfl) (fun _ _ _ h => h) (Or.inl ⟨by rfl, ?_⟩) hS ?_
      · intro w hS; go_simp
      refine wpAnyH_done (by kernel_rfl) ?_ _
      go_wp2_with fail
      go_meet
      exact ⟨rfl, rfl, k2⟩
    case rest =>
      obtain ⟨rfl, rfl, hkc⟩ := hcut
      obtain ⟨w6, hw6⟩ : ∃ z, z = wc := ⟨_, rfl⟩
      rw [← hw6] at hkc ⊢
      clear hw6
      have HK6 : Hid (Keeps w4 w6) := HK5.out.trans hkc
      have HS6 : Hid (∀ W, Keeps w6 W → W.cell? ⟨mb, 0, none⟩ = some (.int .i64 M.base.at_) ∧ W.cell? ⟨mb, 1, none⟩ = some (.int .i64 M.base.clock) ∧ W.cell? ⟨mb, 2, none⟩ = some (.int .i64 M.base.v0) ∧ W.cell? ⟨mb, 3, none⟩ = some (.int .i64 M.base.v1) ∧ W.cell? ⟨mb, 4, none⟩ = some (.int .i64 M.base.v2) ∧ W.cell? ⟨mb, 5, none⟩ = some (.int .i64 M.base.v3) ∧ W.cell? ⟨mb, 6, none⟩ = some (.slice ma M.base.tab.length mc) ∧ W.cell? ⟨mb, 7, none⟩ = some (.slice na M.tail.length nc)) := fun W hk => HSA.out W (HK6.out.trans hk)
      clear hkc HK5 HS5
      clear w5
      go_wp2_with fail
      go_cut [7, 8, 9] (fun p a f wc => a = .int .i64 2 ∧ f = .int .i64 0 ∧ ∃ sb qa qc, p = .pointer (some ⟨sb, 0, none⟩) ∧ StBox sb s1 (.slice qa s1.tab.length qc) wc ∧ TabAt wc (.slice qa s1.tab.length qc) s1.tab ∧ Keeps w6 wc)
      case first =>
        obtain ⟨V0, hV0⟩ : ∃ z, z = w6.drew := ⟨_, rfl⟩
        have k0 : Keeps w6 V0 := by rw [hV0]; exact (Keeps.refl _).drew
        refine wp_region_held_drew (S := fun W => W.cell? ⟨mb, 0, none⟩ = some (.int .i64 M.base.at_) ∧ W.cell? ⟨mb, 1, none⟩ = some (.int .i64 M.base.clock) ∧ W.cell? ⟨mb, 2, none⟩ = some (.int .i64 M.base.v0) ∧ W.cell? ⟨mb, 3, none⟩ = some (.int .i64 M.base.v1) ∧ W.cell? ⟨mb, 4, none⟩ = some (.int .i64 M.base.v2) ∧ W.cell? ⟨mb, 5, none⟩ = some (.int .i64 M.base.v3) ∧ W.cell? ⟨mb, 6, none⟩ = some (.slice ma M.base.tab.length mc) ∧ W.cell? ⟨mb, 7, none⟩ = some (.slice na M.tail.length nc)) (by kernel_rfl) (HS6.out _ (Keeps.refl _).drew) (fun hS => ?_)
        rw [← hV0] at hS ⊢
        clear hV0
        refine wpAnyH_take (i := 0) (v := lgV M (.slice ma M.base.tab.length mc) (.slice na M.tail.length nc)) rfl (by kernel_rfl) (by kernel_rfl) (by kernel_rfl) (fun _ _ _ h => h) (Or.inl ⟨by rfl, ?_⟩) hS ?_
        · intro w hS; go_simp
        refine wpAnyH_ready (rs := [1, 7]) (by kernel_rfl) (by simp) ?_
        refine AllReadyH.cons rfl (fun K hK => ?_) (AllReadyH.cons rfl (fun K hK => ?_) (AllReadyH.nil))
        · go_simp
          refine (begin_c V0).mono ?_
          rintro y V1 ⟨rfl, hb⟩
          have k1 := k0.trans hb
          clear hb
          go_simp
          refine hK.out _ _ (HS6.out _ k1) (fun hS => ?_)
          clear hK K
          refine wpAnyH_ready (rs := [2, 7]) (by kernel_rfl) (by simp) ?_
          refine AllReadyH.cons rfl (fun K hK => ?_) (AllReadyH.cons rfl (fun K hK => ?_) (AllReadyH.nil))
          · go_simp
            refine (HG0.out V1 (HK6.out.trans k1)).mono ?_
            rintro y V2 ⟨qa, qc, hO2, rfl, hb⟩
            have k2 := k1.trans hb
            clear hb
            go_simp
            refine hK.out _ _ (HS6.out _ k2) (fun hS => ?_)
            clear hK K
            refine wpAnyH_take (i := 3) (v := .tuple #[stV s1 (.slice qa s1.tab.length qc), .int .i64 2, .int .i64 0]) rfl (by kernel_rfl) (by kernel_rfl) (by kernel_rfl) (fun _ _ _ h => h) (Or.inl ⟨by rfl, ?_⟩) hS ?_
            · intro w hS; go_simp
            refine wpAnyH_take (i := 4) (v := stV s1 (.slice qa s1.tab.length qc)) rfl (by kernel_rfl) (by kernel_rfl) (by kernel_rfl) (fun _ _ _ h => h) (Or.inl ⟨by rfl, ?_⟩) hS ?_
            · intro w hS; go_simp
            refine wpAnyH_take (i := 5) (v := .int .i64 2) rfl (by kernel_rfl) (by kernel_rfl) (by kernel_rfl) (fun _ _ _ h => h) (Or.inl ⟨by rfl, ?_⟩) hS ?_
            · intro w hS; go_simp
            refine wpAnyH_take (i := 6) (v := .int .i64 0) rfl (by kernel_rfl) (by kernel_rfl) (by kernel_rfl) (fun _ _ _ h => h) (Or.inl ⟨by rfl, ?_⟩) hS ?_
            · intro w hS; go_simp
            refine wpAnyH_ready (rs := [7]) (by kernel_rfl) (by simp) ?_
            refine AllReadyH.cons rfl (fun K hK => ?_) (AllReadyH.nil)
            go_simp
            have hb : Keeps V2 (V2.alloc (.cells #[.int .i64 0, .int .i64 0, .int .i64 0, .int .i64 0, .int .i64 0, .int .i64 0, .slice none 0 0] 25)) := (Keeps.refl _).alloc _
            have HQ3 : Hid (StBox V2.heap.size zeroSt (.slice none 0 0) (V2.alloc (.cells #[.int .i64 0, .int .i64 0, .int .i64 0, .int .i64 0, .int .i64 0, .int .i64 0, .slice none 0 0] 25))) := StBox.new V2 zeroSt (.slice none 0 0) 25
            have HTF : Hid (∀ WF, But V2.heap.size (V2.alloc (.cells #[.int .i64 0, .int .i64 0, .int .i64 0, .int .i64 0, .int .i64 0, .int .i64 0, .slice none 0 0] 25)) WF → TabAt WF (.slice qa s1.tab.length qc) s1.tab) := fun WF hF => hO2.out.tab.keep (But.to hb (Nat.le_refl _) hF)
            generalize V2.alloc (.cells #[.int .i64 0, .int .i64 0, .int .i64 0, .int .i64 0, .int .i64 0, .int .i64 0, .slice none 0 0] 25) = V3 at *
            have k3 := k2.trans hb
            clear hb
            refine hK.out _ _ (HS6.out _ k3) (fun hS => ?_)
            clear hK K
            refine wpAnyH_ready (rs := [8]) (by kernel_rfl) (by simp) ?_
            refine AllReadyH.cons rfl (fun K hK => ?_) (AllReadyH.nil)
            have z0 := HQ3.out.c0
            have z1 := HQ3.out.c1
            have z2 := HQ3.out.c2
            have z3 := HQ3.out.c3
            have z4 := HQ3.out.c4
            have z5 := HQ3.out.c5
            have z6 := HQ3.out.c6
            have zf := HQ3.out.fz
            have zl := HQ3.out.lt
            go_simp
            have BP := HQ3.out.put s1 (.slice qa s1.tab.length qc)
            have BT := But.puts (b := V2.heap.size) V3 s1 (.slice qa s1.tab.length qc)
            have KF := But.to k3 k2.size BT
            have HTE := HTF.out _ BT
            obtain ⟨WF, hWF⟩ : ∃ z, z = (((((((V3.setCell ⟨V2.heap.size, 0, none⟩ (.int .i64 s1.at_)).setCell ⟨V2.heap.size, 1, none⟩ (.int .i64 s1.clock)).setCell ⟨V2.heap.size, 2, none⟩ (.int .i64 s1.v0)).setCell ⟨V2.heap.size, 3, none⟩ (.int .i64 s1.v1)).setCell ⟨V2.heap.size, 4, none⟩ (.int .i64 s1.v2)).setCell ⟨V2.heap.size, 5, none⟩ (.int .i64 s1.v3)).setCell ⟨V2.heap.size, 6, none⟩ (.slice qa s1.tab.length qc)) := ⟨_, rfl⟩
            rw [← hWF] at BP BT KF HTE ⊢
            clear hWF z0 z1 z2 z3 z4 z5 z6 zf zl
            refine hK.out _ _ (HS6.out _ KF) (fun hS => ?_)
            clear hK K
            refine wpAnyH_take (i := 9) (v := .int .i64 2) rfl (by kernel_rfl) (by kernel_rfl) (by kernel_rfl) (fun _ _ _ h => h) (Or.inl ⟨by rfl, ?_⟩) hS ?_
            · intro w hS; go_simp
            refine wpAnyH_take (i := 10) (v := .int .i64 0) rfl (by kernel_rfl) (by kernel_rfl) (by kernel_rfl) (fun _ _ _ h => h) (Or.inl ⟨by rfl, ?_⟩) hS ?_
            · intro w hS; go_simp
            refine wpAnyH_done (by kernel_rfl) ?_ _
            go_wp2_with fail
            go_meet
            exact ⟨rfl, rfl, _, _, _, rfl, BP, HTE, KF⟩
          · go_simp
            have hb : Keeps V1 (V1.alloc (.cells #[.int .i64 0, .int .i64 0, .int .i64 0, .int .i64 0, .int .i64 0, .int .i64 0, .slice none 0 0] 25)) := (Keeps.refl _).alloc _
            have HQ2 : Hid (StBox V1.heap.size zeroSt (.slice none 0 0) (V1.alloc (.cells #[.int .i64 0, .int .i64 0, .int .i64 0, .int .i64 0, .int .i64 0, .int .i64 0, .slice none 0 0] 25))) := StBox.new V1 zeroSt (.slice none 0 0) 25
            generalize V1.alloc (.cells #[.int .i64 0, .int .i64 0, .int .i64 0, .int .i64 0, .int .i64 0, .int .i64 0, .slice none 0 0] 25) = V2 at *
            have k2 := k1.trans hb
            clear hb
            refine hK.out _ _ (HS6.out _ k2) (fun hS => ?_)
            clear hK K
            refine wpAnyH_ready (rs := [2]) (by kernel_rfl) (by simp) ?_
            refine AllReadyH.cons rfl (fun K hK => ?_) (AllReadyH.nil)
            go_simp
            refine (HG0.out V2 (HK6.out.trans k2)).mono ?_
            rintro y V3 ⟨qa, qc, hO3, rfl, hb⟩
            have k3 := k2.trans hb
            have HQ3 : Hid (StBox V1.heap.size zeroSt (.slice none 0 0) V3) := HQ2.out.keep hb
            have HTF : Hid (∀ WF, But V1.heap.size V3 WF → TabAt WF (.slice qa s1.tab.length qc) s1.tab) := fun WF hF => (hO3.out.but (by have := HQ2.out.lt; omega) hF).tab
            clear hb
            go_simp
            refine hK.out _ _ (HS6.out _ k3) (fun hS => ?_)
            clear hK K
            refine wpAnyH_take (i := 3) (v := .tuple #[stV s1 (.slice qa s1.tab.length qc), .int .i64 2, .int .i64 0]) rfl (by kernel_rfl) (by kernel_rfl) (by kernel_rfl) (fun _ _ _ h => h) (Or.inl ⟨by rfl, ?_⟩) hS ?_
            · intro w hS; go_simp
            refine wpAnyH_take (i := 4) (v := stV s1 (.slice qa s1.tab.length qc)) rfl (by kernel_rfl) (by kernel_rfl) (by kernel_rfl) (fun _ _ _ h => h) (Or.inl ⟨by rfl, ?_⟩) hS ?_
            · intro w hS; go_simp
            refine wpAnyH_take (i := 5) (v := .int .i64 2) rfl (by kernel_rfl) (by kernel_rfl) (by kernel_rfl) (fun _ _ _ h => h) (Or.inl ⟨by rfl, ?_⟩) hS ?_
            · intro w hS; go_simp
            refine wpAnyH_take (i := 6) (v := .int .i64 0) rfl (by kernel_rfl) (by kernel_rfl) (by kernel_rfl) (fun _ _ _ h => h) (Or.inl ⟨by rfl, ?_⟩) hS ?_
            · intro w hS; go_simp
            refine wpAnyH_ready (rs := [8]) (by kernel_rfl) (by simp) ?_
            refine AllReadyH.cons rfl (fun K hK => ?_) (AllReadyH.nil)
            have z0 := HQ3.out.c0
            have z1 := HQ3.out.c1
            have z2 := HQ3.out.c2
            have z3 := HQ3.out.c3
            have z4 := HQ3.out.c4
            have z5 := HQ3.out.c5
            have z6 := HQ3.out.c6
            have zf := HQ3.out.fz
            have zl := HQ3.out.lt
            go_simp
            have BP := HQ3.out.put s1 (.slice qa s1.tab.length qc)
            have BT := But.puts (b := V1.heap.size) V3 s1 (.slice qa s1.tab.length qc)
            have KF := But.to k3 k1.size BT
            have HTE := HTF.out _ BT
            obtain ⟨WF, hWF⟩ : ∃ z, z = (((((((V3.setCell ⟨V1.heap.size, 0, none⟩ (.int .i64 s1.at_)).setCell ⟨V1.heap.size, 1, none⟩ (.int .i64 s1.clock)).setCell ⟨V1.heap.size, 2, none⟩ (.int .i64 s1.v0)).setCell ⟨V1.heap.size, 3, none⟩ (.int .i64 s1.v1)).setCell ⟨V1.heap.size, 4, none⟩ (.int .i64 s1.v2)).setCell ⟨V1.heap.size, 5, none⟩ (.int .i64 s1.v3)).setCell ⟨V1.heap.size, 6, none⟩ (.slice qa s1.tab.length qc)) := ⟨_, rfl⟩
            rw [← hWF] at BP BT KF HTE ⊢
            clear hWF z0 z1 z2 z3 z4 z5 z6 zf zl
            refine hK.out _ _ (HS6.out _ KF) (fun hS => ?_)
            clear hK K
            refine wpAnyH_take (i := 9) (v := .int .i64 2) rfl (by kernel_rfl) (by kernel_rfl) (by kernel_rfl) (fun _ _ _ h => h) (Or.inl ⟨by rfl, ?_⟩) hS ?_
            · intro w hS; go_simp
            refine wpAnyH_take (i := 10) (v := .int .i64 0) rfl (by kernel_rfl) (by kernel_rfl) (by kernel_rfl) (fun _ _ _ h => h) (Or.inl ⟨by rfl, ?_⟩) hS ?_
            · intro w hS; go_simp
            refine wpAnyH_done (by kernel_rfl) ?_ _
            go_wp2_with fail
            go_meet
            exact ⟨rfl, rfl, _, _, _, rfl, BP, HTE, KF⟩
        · go_simp
          have hb : Keeps V0 (V0.alloc (.cells #[.int .i64 0, .int .i64 0, .int .i64 0, .int .i64 0, .int .i64 0, .int .i64 0, .slice none 0 0] 25)) := (Keeps.refl _).alloc _
          have HQ1 : Hid (StBox V0.heap.size zeroSt (.slice none 0 0) (V0.alloc (.cells #[.int .i64 0, .int .i64 0, .int .i64 0, .int .i64 0, .int .i64 0, .int .i64 0, .slice none 0 0] 25))) := StBox.new V0 zeroSt (.slice none 0 0) 25
          generalize V0.alloc (.cells #[.int .i64 0, .int .i64 0, .int .i64 0, .int .i64 0, .int .i64 0, .int .i64 0, .slice none 0 0] 25) = V1 at *
          have k1 := k0.trans hb
          clear hb
          refine hK.out _ _ (HS6.out _ k1) (fun hS => ?_)
          clear hK K
          refine wpAnyH_ready (rs := [1]) (by kernel_rfl) (by simp) ?_
          refine AllReadyH.cons rfl (fun K hK => ?_) (AllReadyH.nil)
          go_simp
          refine (begin_c V1).mono ?_
          rintro y V2 ⟨rfl, hb⟩
          have k2 := k1.trans hb
          have HQ2 : Hid (StBox V0.heap.size zeroSt (.slice none 0 0) V2) := HQ1.out.keep hb
          clear hb
          go_simp
          refine hK.out _ _ (HS6.out _ k2) (fun hS => ?_)
          clear hK K
          refine wpAnyH_ready (rs := [2]) (by kernel_rfl) (by simp) ?_
          refine AllReadyH.cons rfl (fun K hK => ?_) (AllReadyH.nil)
          go_simp
          refine (HG0.out V2 (HK6.out.trans k2)).mono ?_
          rintro y V3 ⟨qa, qc, hO3, rfl, hb⟩
          have k3 := k2.trans hb
          have HQ3 : Hid (StBox V0.heap.size zeroSt (.slice none 0 0) V3) := HQ2.out.keep hb
          have HTF : Hid (∀ WF, But V0.heap.size V3 WF → TabAt WF (.slice qa s1.tab.length qc) s1.tab) := fun WF hF => (hO3.out.but (by have := HQ2.out.lt; omega) hF).tab
          clear hb
          go_simp
          refine hK.out _ _ (HS6.out _ k3) (fun hS => ?_)
          clear hK K
          refine wpAnyH_take (i := 3) (v := .tuple #[stV s1 (.slice qa s1.tab.length qc), .int .i64 2, .int .i64 0]) rfl (by kernel_rfl) (by kernel_rfl) (by kernel_rfl) (fun _ _ _ h => h) (Or.inl ⟨by rfl, ?_⟩) hS ?_
          · intro w hS; go_simp
          refine wpAnyH_take (i := 4) (v := stV s1 (.slice qa s1.tab.length qc)) rfl (by kernel_rfl) (by kernel_rfl) (by kernel_rfl) (fun _ _ _ h => h) (Or.inl ⟨by rfl, ?_⟩) hS ?_
          · intro w hS; go_simp
          refine wpAnyH_take (i := 5) (v := .int .i64 2) rfl (by kernel_rfl) (by kernel_rfl) (by kernel_rfl) (fun _ _ _ h => h) (Or.inl ⟨by rfl, ?_⟩) hS ?_
          · intro w hS; go_simp
          refine wpAnyH_take (i := 6) (v := .int .i64 0) rfl (by kernel_rfl) (by kernel_rfl) (by kernel_rfl) (fun _ _ _ h => h) (Or.inl ⟨by rfl, ?_⟩) hS ?_
          · intro w hS; go_simp
          refine wpAnyH_ready (rs := [8]) (by kernel_rfl) (by simp) ?_
          refine AllReadyH.cons rfl (fun K hK => ?_) (AllReadyH.nil)
          have z0 := HQ3.out.c0
          have z1 := HQ3.out.c1
          have z2 := HQ3.out.c2
          have z3 := HQ3.out.c3
          have z4 := HQ3.out.c4
          have z5 := HQ3.out.c5
          have z6 := HQ3.out.c6
          have zf := HQ3.out.fz
          have zl := HQ3.out.lt
          go_simp
          have BP := HQ3.out.put s1 (.slice qa s1.tab.length qc)
          have BT := But.puts (b := V0.heap.size) V3 s1 (.slice qa s1.tab.length qc)
          have KF := But.to k3 k0.size BT
          have HTE := HTF.out _ BT
          obtain ⟨WF, hWF⟩ : ∃ z, z = (((((((V3.setCell ⟨V0.heap.size, 0, none⟩ (.int .i64 s1.at_)).setCell ⟨V0.heap.size, 1, none⟩ (.int .i64 s1.clock)).setCell ⟨V0.heap.size, 2, none⟩ (.int .i64 s1.v0)).setCell ⟨V0.heap.size, 3, none⟩ (.int .i64 s1.v1)).setCell ⟨V0.heap.size, 4, none⟩ (.int .i64 s1.v2)).setCell ⟨V0.heap.size, 5, none⟩ (.int .i64 s1.v3)).setCell ⟨V0.heap.size, 6, none⟩ (.slice qa s1.tab.length qc)) := ⟨_, rfl⟩
          rw [← hWF] at BP BT KF HTE ⊢
          clear hWF z0 z1 z2 z3 z4 z5 z6 zf zl
          refine hK.out _ _ (HS6.out _ KF) (fun hS => ?_)
          clear hK K
          refine wpAnyH_take (i := 9) (v := .int .i64 2) rfl (by kernel_rfl) (by kernel_rfl) (by kernel_rfl) (fun _ _ _ h => h) (Or.inl ⟨by rfl, ?_⟩) hS ?_
          · intro w hS; go_simp
          refine wpAnyH_take (i := 10) (v := .int .i64 0) rfl (by kernel_rfl) (by kernel_rfl) (by kernel_rfl) (fun _ _ _ h => h) (Or.inl ⟨by rfl, ?_⟩) hS ?_
          · intro w hS; go_simp
          refine wpAnyH_done (by kernel_rfl) ?_ _
          go_wp2_with fail
          go_meet
          exact ⟨rfl, rfl, _, _, _, rfl, BP, HTE, KF⟩
      case rest =>
        obtain ⟨rfl, rfl, sb, sa, sc, rfl, hSB, hST, hkc⟩ := hcut
        obtain ⟨w7, hw7⟩ : ∃ z, z = wc := ⟨_, rfl⟩
        rw [← hw7] at hSB hST hkc ⊢
        clear hw7
        have HK7 : Hid (Keeps w4 w7) := HK6.out.trans hkc
        have HS7 : Hid (∀ W, Keeps w7 W → W.cell? ⟨mb, 0, none⟩ = some (.int .i64 M.base.at_) ∧ W.cell? ⟨mb, 1, none⟩ = some (.int .i64 M.base.clock) ∧ W.cell? ⟨mb, 2, none⟩ = some (.int .i64 M.base.v0) ∧ W.cell? ⟨mb, 3, none⟩ = some (.int .i64 M.base.v1) ∧ W.cell? ⟨mb, 4, none⟩ = some (.int .i64 M.base.v2) ∧ W.cell? ⟨mb, 5, none⟩ = some (.int .i64 M.base.v3) ∧ W.cell? ⟨mb, 6, none⟩ = some (.slice ma M.base.tab.length mc) ∧ W.cell? ⟨mb, 7, none⟩ = some (.slice na M.tail.length nc)) := fun W hk => HSA.out W (HK7.out.trans hk)
        have HSB := (show Hid _ from hSB)
        have HST : Hid (TabAt w7 (.slice sa s1.tab.length sc) s1.tab) := hST
        clear hkc HK6 HS6 hSB hST
        clear w6
        go_wp2_with fail
        go_cut [12] (fun f wc => f = .int .i64 1 ∧ Keeps w7 wc)
        case first =>
          obtain ⟨V0, hV0⟩ : ∃ z, z = w7.drew := ⟨_, rfl⟩
          have k0 : Keeps w7 V0 := by rw [hV0]; exact (Keeps.refl _).drew
          refine wp_region_held_drew (S := fun W => W.cell? ⟨mb, 0, none⟩ = some (.int .i64 M.base.at_) ∧ W.cell? ⟨mb, 1, none⟩ = some (.int .i64 M.base.clock) ∧ W.cell? ⟨mb, 2, none⟩ = some (.int .i64 M.base.v0) ∧ W.cell? ⟨mb, 3, none⟩ = some (.int .i64 M.base.v1) ∧ W.cell? ⟨mb, 4, none⟩ = some (.int .i64 M.base.v2) ∧ W.cell? ⟨mb, 5, none⟩ = some (.int .i64 M.base.v3) ∧ W.cell? ⟨mb, 6, none⟩ = some (.slice ma M.base.tab.length mc) ∧ W.cell? ⟨mb, 7, none⟩ = some (.slice na M.tail.length nc)) (by kernel_rfl) (HS7.out _ (Keeps.refl _).drew) (fun hS => ?_)
          rw [← hV0] at hS ⊢
          clear hV0
          refine wpAnyH_take (i := 0) (v := lgV M (.slice ma M.base.tab.length mc) (.slice na M.tail.length nc)) rfl (by kernel_rfl) (by kernel_rfl) (by kernel_rfl) (fun _ _ _ h => h) (Or.inl ⟨by rfl, ?_⟩) hS ?_
          · intro w hS; go_simp
          refine wpAnyH_ready (rs := [1, 7]) (by kernel_rfl) (by simp) ?_
          refine AllReadyH.cons rfl (fun K hK => ?_) (AllReadyH.cons rfl (fun K hK => ?_) (AllReadyH.nil))
          · go_simp
            refine (shop_c V0).mono ?_
            rintro y V1 ⟨b, ka, kc, la, lc, _, hSH, _, rfl, hb⟩
            have HSH : Hid (TabAt V1 (.slice (some ⟨b, 0, none⟩) 2 2) shopS.tab) := hSH.tab
            clear hSH
            have k1 := k0.trans hb
            clear hb
            go_simp
            refine hK.out _ _ (HS7.out _ k1) (fun hS => ?_)
            clear hK K
            refine wpAnyH_ready (rs := [2, 7]) (by kernel_rfl) (by simp) ?_
            refine AllReadyH.cons rfl (fun K hK => ?_) (AllReadyH.cons rfl (fun K hK => ?_) (AllReadyH.nil))
            · go_simp
              refine (HG1.out V1 b (HK7.out.trans k1) HSH.out).mono ?_
              rintro y V2 ⟨qa, qc, hO2, rfl, hb⟩
              have k2 := k1.trans hb
              clear hb
              go_simp
              refine hK.out _ _ (HS7.out _ k2) (fun hS => ?_)
              clear hK K
              refine wpAnyH_take (i := 3) (v := .tuple #[stV s2 (.slice qa s2.tab.length qc), .int .i64 0, .int .i64 1]) rfl (by kernel_rfl) (by kernel_rfl) (by kernel_rfl) (fun _ _ _ h => h) (Or.inl ⟨by rfl, ?_⟩) hS ?_
              · intro w hS; go_simp
              refine wpAnyH_take (i := 4) (v := stV s2 (.slice qa s2.tab.length qc)) rfl (by kernel_rfl) (by kernel_rfl) (by kernel_rfl) (fun _ _ _ h => h) (Or.inl ⟨by rfl, ?_⟩) hS ?_
              · intro w hS; go_simp
              refine wpAnyH_take (i := 5) (v := .int .i64 0) rfl (by kernel_rfl) (by kernel_rfl) (by kernel_rfl) (fun _ _ _ h => h) (Or.inl ⟨by rfl, ?_⟩) hS ?_
              · intro w hS; go_simp
              refine wpAnyH_take (i := 6) (v := .int .i64 1) rfl (by kernel_rfl) (by kernel_rfl) (by kernel_rfl) (fun _ _ _ h => h) (Or.inl ⟨by rfl, ?_⟩) hS ?_
              · intro w hS; go_simp
              refine wpAnyH_ready (rs := [7]) (by kernel_rfl) (by simp) ?_
              refine AllReadyH.cons rfl (fun K hK => ?_) (AllReadyH.nil)
              go_simp
              have hb : Keeps V2 (V2.alloc (.cells #[.int .i64 0, .int .i64 0, .int .i64 0, .int .i64 0, .int .i64 0, .int .i64 0, .slice none 0 0] 25)) := (Keeps.refl _).alloc _
              have HQ3 : Hid (StBox V2.heap.size zeroSt (.slice none 0 0) (V2.alloc (.cells #[.int .i64 0, .int .i64 0, .int .i64 0, .int .i64 0, .int .i64 0, .int .i64 0, .slice none 0 0] 25))) := StBox.new V2 zeroSt (.slice none 0 0) 25
              have HTF : Hid (∀ WF, But V2.heap.size (V2.alloc (.cells #[.int .i64 0, .int .i64 0, .int .i64 0, .int .i64 0, .int .i64 0, .int .i64 0, .slice none 0 0] 25)) WF → TabAt WF (.slice qa s2.tab.length qc) s2.tab) := fun WF hF => hO2.out.tab.keep (But.to hb (Nat.le_refl _) hF)
              generalize V2.alloc (.cells #[.int .i64 0, .int .i64 0, .int .i64 0, .int .i64 0, .int .i64 0, .int .i64 0, .slice none 0 0] 25) = V3 at *
              have k3 := k2.trans hb
              clear hb
              refine hK.out _ _ (HS7.out _ k3) (fun hS => ?_)
              clear hK K
              refine wpAnyH_ready (rs := [8]) (by kernel_rfl) (by simp) ?_
              refine AllReadyH.cons rfl (fun K hK => ?_) (AllReadyH.nil)
              have z0 := HQ3.out.c0
              have z1 := HQ3.out.c1
              have z2 := HQ3.out.c2
              have z3 := HQ3.out.c3
              have z4 := HQ3.out.c4
              have z5 := HQ3.out.c5
              have z6 := HQ3.out.c6
              have zf := HQ3.out.fz
              have zl := HQ3.out.lt
              go_simp
              have BP := HQ3.out.put s2 (.slice qa s2.tab.length qc)
              have BT := But.puts (b := V2.heap.size) V3 s2 (.slice qa s2.tab.length qc)
              have KF := But.to k3 k2.size BT
              have HTE := HTF.out _ BT
              obtain ⟨WF, hWF⟩ : ∃ z, z = (((((((V3.setCell ⟨V2.heap.size, 0, none⟩ (.int .i64 s2.at_)).setCell ⟨V2.heap.size, 1, none⟩ (.int .i64 s2.clock)).setCell ⟨V2.heap.size, 2, none⟩ (.int .i64 s2.v0)).setCell ⟨V2.heap.size, 3, none⟩ (.int .i64 s2.v1)).setCell ⟨V2.heap.size, 4, none⟩ (.int .i64 s2.v2)).setCell ⟨V2.heap.size, 5, none⟩ (.int .i64 s2.v3)).setCell ⟨V2.heap.size, 6, none⟩ (.slice qa s2.tab.length qc)) := ⟨_, rfl⟩
              rw [← hWF] at BP BT KF HTE ⊢
              clear hWF z0 z1 z2 z3 z4 z5 z6 zf zl
              refine hK.out _ _ (HS7.out _ KF) (fun hS => ?_)
              clear hK K
              refine wpAnyH_take (i := 9) (v := .int .i64 0) rfl (by kernel_rfl) (by kernel_rfl) (by kernel_rfl) (fun _ _ _ h => h) (Or.inl ⟨by rfl, ?_⟩) hS ?_
              · intro w hS; go_simp
              refine wpAnyH_take (i := 10) (v := .int .i64 1) rfl (by kernel_rfl) (by kernel_rfl) (by kernel_rfl) (fun _ _ _ h => h) (Or.inl ⟨by rfl, ?_⟩) hS ?_
              · intro w hS; go_simp
              refine wpAnyH_done (by kernel_rfl) ?_ _
              go_wp2_with fail
              go_meet
              exact ⟨rfl, KF⟩
            · go_simp
              have hb : Keeps V1 (V1.alloc (.cells #[.int .i64 0, .int .i64 0, .int .i64 0, .int .i64 0, .int .i64 0, .int .i64 0, .slice none 0 0] 25)) := (Keeps.refl _).alloc _
              have HQ2 : Hid (StBox V1.heap.size zeroSt (.slice none 0 0) (V1.alloc (.cells #[.int .i64 0, .int .i64 0, .int .i64 0, .int .i64 0, .int .i64 0, .int .i64 0, .slice none 0 0] 25))) := StBox.new V1 zeroSt (.slice none 0 0) 25
              have HSH2 : Hid (TabAt (V1.alloc (.cells #[.int .i64 0, .int .i64 0, .int .i64 0, .int .i64 0, .int .i64 0, .int .i64 0, .slice none 0 0] 25)) (.slice (some ⟨b, 0, none⟩) 2 2) shopS.tab) := HSH.out.keep hb
              clear HSH
              generalize V1.alloc (.cells #[.int .i64 0, .int .i64 0, .int .i64 0, .int .i64 0, .int .i64 0, .int .i64 0, .slice none 0 0] 25) = V2 at *
              have k2 := k1.trans hb
              clear hb
              have HSH := (show Hid _ from HSH2.out)
              refine hK.out _ _ (HS7.out _ k2) (fun hS => ?_)
              clear hK K
              refine wpAnyH_ready (rs := [2]) (by kernel_rfl) (by simp) ?_
              refine AllReadyH.cons rfl (fun K hK => ?_) (AllReadyH.nil)
              go_simp
              refine (HG1.out V2 b (HK7.out.trans k2) HSH.out).mono ?_
              rintro y V3 ⟨qa, qc, hO3, rfl, hb⟩
              have k3 := k2.trans hb
              have HQ3 : Hid (StBox V1.heap.size zeroSt (.slice none 0 0) V3) := HQ2.out.keep hb
              have HTF : Hid (∀ WF, But V1.heap.size V3 WF → TabAt WF (.slice qa s2.tab.length qc) s2.tab) := fun WF hF => (hO3.out.but (by have := HQ2.out.lt; omega) hF).tab
              clear hb
              go_simp
              refine hK.out _ _ (HS7.out _ k3) (fun hS => ?_)
              clear hK K
              refine wpAnyH_take (i := 3) (v := .tuple #[stV s2 (.slice qa s2.tab.length qc), .int .i64 0, .int .i64 1]) rfl (by kernel_rfl) (by kernel_rfl) (by kernel_rfl) (fun _ _ _ h => h) (Or.inl ⟨by rfl, ?_⟩) hS ?_
              · intro w hS; go_simp
              refine wpAnyH_take (i := 4) (v := stV s2 (.slice qa s2.tab.length qc)) rfl (by kernel_rfl) (by kernel_rfl) (by kernel_rfl) (fun _ _ _ h => h) (Or.inl ⟨by rfl, ?_⟩) hS ?_
              · intro w hS; go_simp
              refine wpAnyH_take (i := 5) (v := .int .i64 0) rfl (by kernel_rfl) (by kernel_rfl) (by kernel_rfl) (fun _ _ _ h => h) (Or.inl ⟨by rfl, ?_⟩) hS ?_
              · intro w hS; go_simp
              refine wpAnyH_take (i := 6) (v := .int .i64 1) rfl (by kernel_rfl) (by kernel_rfl) (by kernel_rfl) (fun _ _ _ h => h) (Or.inl ⟨by rfl, ?_⟩) hS ?_
              · intro w hS; go_simp
              refine wpAnyH_ready (rs := [8]) (by kernel_rfl) (by simp) ?_
              refine AllReadyH.cons rfl (fun K hK => ?_) (AllReadyH.nil)
              have z0 := HQ3.out.c0
              have z1 := HQ3.out.c1
              have z2 := HQ3.out.c2
              have z3 := HQ3.out.c3
              have z4 := HQ3.out.c4
              have z5 := HQ3.out.c5
              have z6 := HQ3.out.c6
              have zf := HQ3.out.fz
              have zl := HQ3.out.lt
              go_simp
              have BP := HQ3.out.put s2 (.slice qa s2.tab.length qc)
              have BT := But.puts (b := V1.heap.size) V3 s2 (.slice qa s2.tab.length qc)
              have KF := But.to k3 k1.size BT
              have HTE := HTF.out _ BT
              obtain ⟨WF, hWF⟩ : ∃ z, z = (((((((V3.setCell ⟨V1.heap.size, 0, none⟩ (.int .i64 s2.at_)).setCell ⟨V1.heap.size, 1, none⟩ (.int .i64 s2.clock)).setCell ⟨V1.heap.size, 2, none⟩ (.int .i64 s2.v0)).setCell ⟨V1.heap.size, 3, none⟩ (.int .i64 s2.v1)).setCell ⟨V1.heap.size, 4, none⟩ (.int .i64 s2.v2)).setCell ⟨V1.heap.size, 5, none⟩ (.int .i64 s2.v3)).setCell ⟨V1.heap.size, 6, none⟩ (.slice qa s2.tab.length qc)) := ⟨_, rfl⟩
              rw [← hWF] at BP BT KF HTE ⊢
              clear hWF z0 z1 z2 z3 z4 z5 z6 zf zl
              refine hK.out _ _ (HS7.out _ KF) (fun hS => ?_)
              clear hK K
              refine wpAnyH_take (i := 9) (v := .int .i64 0) rfl (by kernel_rfl) (by kernel_rfl) (by kernel_rfl) (fun _ _ _ h => h) (Or.inl ⟨by rfl, ?_⟩) hS ?_
              · intro w hS; go_simp
              refine wpAnyH_take (i := 10) (v := .int .i64 1) rfl (by kernel_rfl) (by kernel_rfl) (by kernel_rfl) (fun _ _ _ h => h) (Or.inl ⟨by rfl, ?_⟩) hS ?_
              · intro w hS; go_simp
              refine wpAnyH_done (by kernel_rfl) ?_ _
              go_wp2_with fail
              go_meet
              exact ⟨rfl, KF⟩
          · go_simp
            have hb : Keeps V0 (V0.alloc (.cells #[.int .i64 0, .int .i64 0, .int .i64 0, .int .i64 0, .int .i64 0, .int .i64 0, .slice none 0 0] 25)) := (Keeps.refl _).alloc _
            have HQ1 : Hid (StBox V0.heap.size zeroSt (.slice none 0 0) (V0.alloc (.cells #[.int .i64 0, .int .i64 0, .int .i64 0, .int .i64 0, .int .i64 0, .int .i64 0, .slice none 0 0] 25))) := StBox.new V0 zeroSt (.slice none 0 0) 25
            generalize V0.alloc (.cells #[.int .i64 0, .int .i64 0, .int .i64 0, .int .i64 0, .int .i64 0, .int .i64 0, .slice none 0 0] 25) = V1 at *
            have k1 := k0.trans hb
            clear hb
            refine hK.out _ _ (HS7.out _ k1) (fun hS => ?_)
            clear hK K
            refine wpAnyH_ready (rs := [1]) (by kernel_rfl) (by simp) ?_
            refine AllReadyH.cons rfl (fun K hK => ?_) (AllReadyH.nil)
            go_simp
            refine (shop_c V1).mono ?_
            rintro y V2 ⟨b, ka, kc, la, lc, _, hSH, _, rfl, hb⟩
            have HSH : Hid (TabAt V2 (.slice (some ⟨b, 0, none⟩) 2 2) shopS.tab) := hSH.tab
            clear hSH
            have k2 := k1.trans hb
            have HQ2 : Hid (StBox V0.heap.size zeroSt (.slice none 0 0) V2) := HQ1.out.keep hb
            clear hb
            go_simp
            refine hK.out _ _ (HS7.out _ k2) (fun hS => ?_)
            clear hK K
            refine wpAnyH_ready (rs := [2]) (by kernel_rfl) (by simp) ?_
            refine AllReadyH.cons rfl (fun K hK => ?_) (AllReadyH.nil)
            go_simp
            refine (HG1.out V2 b (HK7.out.trans k2) HSH.out).mono ?_
            rintro y V3 ⟨qa, qc, hO3, rfl, hb⟩
            have k3 := k2.trans hb
            have HQ3 : Hid (StBox V0.heap.size zeroSt (.slice none 0 0) V3) := HQ2.out.keep hb
            have HTF : Hid (∀ WF, But V0.heap.size V3 WF → TabAt WF (.slice qa s2.tab.length qc) s2.tab) := fun WF hF => (hO3.out.but (by have := HQ2.out.lt; omega) hF).tab
            clear hb
            go_simp
            refine hK.out _ _ (HS7.out _ k3) (fun hS => ?_)
            clear hK K
            refine wpAnyH_take (i := 3) (v := .tuple #[stV s2 (.slice qa s2.tab.length qc), .int .i64 0, .int .i64 1]) rfl (by kernel_rfl) (by kernel_rfl) (by kernel_rfl) (fun _ _ _ h => h) (Or.inl ⟨by rfl, ?_⟩) hS ?_
            · intro w hS; go_simp
            refine wpAnyH_take (i := 4) (v := stV s2 (.slice qa s2.tab.length qc)) rfl (by kernel_rfl) (by kernel_rfl) (by kernel_rfl) (fun _ _ _ h => h) (Or.inl ⟨by rfl, ?_⟩) hS ?_
            · intro w hS; go_simp
            refine wpAnyH_take (i := 5) (v := .int .i64 0) rfl (by kernel_rfl) (by kernel_rfl) (by kernel_rfl) (fun _ _ _ h => h) (Or.inl ⟨by rfl, ?_⟩) hS ?_
            · intro w hS; go_simp
            refine wpAnyH_take (i := 6) (v := .int .i64 1) rfl (by kernel_rfl) (by kernel_rfl) (by kernel_rfl) (fun _ _ _ h => h) (Or.inl ⟨by rfl, ?_⟩) hS ?_
            · intro w hS; go_simp
            refine wpAnyH_ready (rs := [8]) (by kernel_rfl) (by simp) ?_
            refine AllReadyH.cons rfl (fun K hK => ?_) (AllReadyH.nil)
            have z0 := HQ3.out.c0
            have z1 := HQ3.out.c1
            have z2 := HQ3.out.c2
            have z3 := HQ3.out.c3
            have z4 := HQ3.out.c4
            have z5 := HQ3.out.c5
            have z6 := HQ3.out.c6
            have zf := HQ3.out.fz
            have zl := HQ3.out.lt
            go_simp
            have BP := HQ3.out.put s2 (.slice qa s2.tab.length qc)
            have BT := But.puts (b := V0.heap.size) V3 s2 (.slice qa s2.tab.length qc)
            have KF := But.to k3 k0.size BT
            have HTE := HTF.out _ BT
            obtain ⟨WF, hWF⟩ : ∃ z, z = (((((((V3.setCell ⟨V0.heap.size, 0, none⟩ (.int .i64 s2.at_)).setCell ⟨V0.heap.size, 1, none⟩ (.int .i64 s2.clock)).setCell ⟨V0.heap.size, 2, none⟩ (.int .i64 s2.v0)).setCell ⟨V0.heap.size, 3, none⟩ (.int .i64 s2.v1)).setCell ⟨V0.heap.size, 4, none⟩ (.int .i64 s2.v2)).setCell ⟨V0.heap.size, 5, none⟩ (.int .i64 s2.v3)).setCell ⟨V0.heap.size, 6, none⟩ (.slice qa s2.tab.length qc)) := ⟨_, rfl⟩
            rw [← hWF] at BP BT KF HTE ⊢
            clear hWF z0 z1 z2 z3 z4 z5 z6 zf zl
            refine hK.out _ _ (HS7.out _ KF) (fun hS => ?_)
            clear hK K
            refine wpAnyH_take (i := 9) (v := .int .i64 0) rfl (by kernel_rfl) (by kernel_rfl) (by kernel_rfl) (fun _ _ _ h => h) (Or.inl ⟨by rfl, ?_⟩) hS ?_
            · intro w hS; go_simp
            refine wpAnyH_take (i := 10) (v := .int .i64 1) rfl (by kernel_rfl) (by kernel_rfl) (by kernel_rfl) (fun _ _ _ h => h) (Or.inl ⟨by rfl, ?_⟩) hS ?_
            · intro w hS; go_simp
            refine wpAnyH_done (by kernel_rfl) ?_ _
            go_wp2_with fail
            go_meet
            exact ⟨rfl, KF⟩
        case rest =>
          obtain ⟨rfl, hkc⟩ := hcut
          obtain ⟨w8, hw8⟩ : ∃ z, z = wc := ⟨_, rfl⟩
          rw [← hw8] at hkc ⊢
          clear hw8
          have HK8 : Hid (Keeps w4 w8) := HK7.out.trans hkc
          have HSB8 := (show Hid _ from HSB.out.keep hkc)
          have HST8 : Hid (TabAt w8 (.slice sa s1.tab.length sc) s1.tab) := TabAt.keep HST.out hkc
          clear hkc HK7 HS7 HSB HST
          clear w7
          obtain ⟨b0, b1, b2, b3, b4, b5, b6, b7⟩ := HSA.out w8 HK8.out
          have bl := World.block_lt_of_cell? _ _ b0
          simp only [] at bl
          have c0 := HSB8.out.c0
          have c1 := HSB8.out.c1
          have c2 := HSB8.out.c2
          have c3 := HSB8.out.c3
          have c4 := HSB8.out.c4
          have c5 := HSB8.out.c5
          have c6 := HSB8.out.c6
          have cl := HSB8.out.lt
          go_wp2_with fail
          refine (HG2.out w8 _ HK8.out HST8.out).mono ?_
          rintro y w9 ⟨fa, fc, rfl, hb⟩
          have HK9 : Hid (Keeps w w9) := (HK4.out.trans HK8.out).trans hb
          have d0 := (HSB8.out.keep hb).c0
          have dl := (HSB8.out.keep hb).lt
          rw [HS1.out] at d0
          clear hb b0 b1 b2 b3 b4 b5 b6 b7 bl c0 c1 c2 c3 c4 c5 c6 cl
          go_wp2_with fail
          go_ret
          exact ⟨rfl, HK9.out.alloc _⟩
end Go.Proofs.YteabfjpajgakiaeGreat
