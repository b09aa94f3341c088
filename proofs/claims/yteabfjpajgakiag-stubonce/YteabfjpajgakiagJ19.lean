/- SuL. -/
import Derived.Deep.RegionHeld3
import Derived.Deep.DeepCutAuto
import Derived.Test.YteabfjpajgakiagJ13
import Derived.Test.YteabfjpajgakiagJ18
/- stubBegun. -/
set_option linter.unusedSimpArgs false
set_option linter.unusedVariables false
set_option maxRecDepth 10000
namespace Go.Proofs.Yteabfjpajgakiag
open Go.RowKit

theorem ints_made (w : World) (l : List Int) (hl : l.length ≤ 1000) : IntsAt (w.alloc (.cells (intCells l).toArray 3)) (.slice (some ⟨w.heap.size, 0, none⟩) l.length l.length) l := by
  refine ⟨by simp [intCells], by unfold maxLen; omega, .inr ⟨_, _, rfl, fun j u hu => ?_⟩⟩
  rw [Addr.add_lit, Nat.zero_add]
  unfold World.cell?
  rw [World.alloc_heap_new]
  simpa using hu
theorem next5 : nextErr ⟨2, 5, [1, 2, 4]⟩ 7 (2, 0, 0, 1) = 0 ∧ nextS ⟨2, 5, [1, 2, 4]⟩ 7 (2, 0, 0, 1) = ⟨2, 6, [1, 2, 4]⟩ ∧ nextE ⟨2, 5, [1, 2, 4]⟩ 7 (2, 0, 0, 1) = ⟨2, 7, 2, 5, 2, 2, 0, 0, 1⟩ := ⟨rfl, rfl, rfl⟩
theorem again5 : againErr ⟨2, 5, [1, 2, 4]⟩ 7 3 (2, 0, 0, 1) = 0 ∧ againE ⟨2, 5, [1, 2, 4]⟩ 7 3 (2, 0, 0, 1) = ⟨2, 7, 2, 3, 2, 2, 0, 0, 1⟩ ∧ againErr ⟨2, 5, [1, 2, 4]⟩ 7 4 (2, 0, 0, 1) = 5 ∧ againE ⟨2, 5, [1, 2, 4]⟩ 7 4 (2, 0, 0, 1) = ⟨0, 0, 0, 0, 0, 0, 0, 0, 0⟩ := ⟨rfl, rfl, rfl, rfl⟩
theorem came5 : cameErr ⟨2, 5, [1, 2, 4]⟩ 3 = 0 ∧ cameS ⟨2, 5, [1, 2, 4]⟩ 3 = ⟨2, 5, [1, 2, 3, 4]⟩ ∧ cameErr ⟨2, 5, [1, 2, 4]⟩ 5 = 5 ∧ cameS ⟨2, 5, [1, 2, 4]⟩ 5 = zeroStu := ⟨rfl, rfl, rfl, rfl⟩
set_option maxHeartbeats 8000000 in
theorem stub_begun (w : World) : Calls Try.prog 8 #[] w fun y w' => y = .returned (.bool true) ∧ Keeps w w' := by
  go_enter Try.func8, Try.ntmps8
  go_wp2_with fail
  obtain ⟨W1, hW1⟩ : ∃ W1, W1 = (w.alloc (.cells #[.int .i64 1, .int .i64 2, .int .i64 4] 3)).alloc (.cells #[.int .i64 2, .int .i64 5, .slice (some ⟨w.heap.size, 0, none⟩) 3 3] 24) := ⟨_, rfl⟩
  have k1 : Keeps w W1 := by rw [hW1]; exact ((Keeps.refl _).alloc _).alloc _
  have HI1 : Hid (IntsAt W1 (.slice (some ⟨w.heap.size, 0, none⟩) 3 3) [1, 2, 4]) := by rw [hW1]; exact (ints_made w [1, 2, 4] (by decide)).keep ((Keeps.refl _).alloc _)
  have HB1 : Hid (StuBox (w.heap.size + 1) ⟨2, 5, [1, 2, 4]⟩ (.slice (some ⟨w.heap.size, 0, none⟩) 3 3) W1) := by
    rw [hW1]
    have := StuBox.new (w.alloc (.cells #[.int .i64 1, .int .i64 2, .int .i64 4] 3)) ⟨2, 5, [1, 2, 4]⟩ (.slice (some ⟨w.heap.size, 0, none⟩) 3 3) rfl 24
    simp only [World.size_alloc] at this
    exact this
  have HK1 : Hid (Keeps w W1) := k1
  rw [← hW1]
  clear hW1 k1
  obtain ⟨sb, hsb⟩ : ∃ z, z = w.heap.size + 1 := ⟨_, rfl⟩
  rw [← hsb] at HB1 ⊢
  clear hsb
  have HSA : Hid (∀ W, Keeps W1 W → W.cell? ⟨sb, 0, none⟩ = some (.int .i64 2) ∧ W.cell? ⟨sb, 1, none⟩ = some (.int .i64 5) ∧ W.cell? ⟨sb, 2, none⟩ = some (.slice (some ⟨w.heap.size, 0, none⟩) 3 3)) := fun W hk => ⟨(HB1.out.keep hk).c0, (HB1.out.keep hk).c1, (HB1.out.keep hk).c2⟩
  have HS1 := HSA
  have HCN : Hid (∀ W, Keeps W1 W → Calls Try.prog 6 #[stuV ⟨2, 5, [1, 2, 4]⟩ (.slice (some ⟨w.heap.size, 0, none⟩) 3 3), .int .i64 7, opV 2 0 0 1] W fun e w' => ∃ ra rc, e = .returned (.tuple #[.agg #[.int .i64 2, .int .i64 6, .slice ra 3 rc], .agg #[.int .i64 2, .int .i64 7, .int .i64 2, .int .i64 5, .int .i64 2, .int .i64 2, .int .i64 0, .int .i64 0, .int .i64 1], .int .i64 0]) ∧ Keeps W w') := by
    intro W hk
    refine (stub_next ⟨2, 5, [1, 2, 4]⟩ 7 2 0 0 1 _ W (HI1.out.keep hk)).mono ?_
    rintro y w' ⟨ra, rc, _, rfl, hb⟩
    rw [next5.1, next5.2.1, next5.2.2]
    exact ⟨ra, rc, rfl, hb⟩
  have HCA0 : Hid (∀ W, Keeps W1 W → Calls Try.prog 12 #[stuV ⟨2, 5, [1, 2, 4]⟩ (.slice (some ⟨w.heap.size, 0, none⟩) 3 3), .int .i64 7, .int .i64 3, opV 2 0 0 1] W fun e w' => e = .returned (.tuple #[.agg #[.int .i64 2, .int .i64 7, .int .i64 2, .int .i64 3, .int .i64 2, .int .i64 2, .int .i64 0, .int .i64 0, .int .i64 1], .int .i64 0]) ∧ Keeps W w') := by
    intro W hk
    have := stub_again ⟨2, 5, [1, 2, 4]⟩ 7 3 2 0 0 1 _ W (HI1.out.keep hk)
    rw [again5.1, again5.2.1] at this
    exact this
  have HCB0 : Hid (∀ W, Keeps W1 W → Calls Try.prog 12 #[stuV ⟨2, 5, [1, 2, 4]⟩ (.slice (some ⟨w.heap.size, 0, none⟩) 3 3), .int .i64 7, .int .i64 4, opV 2 0 0 1] W fun e w' => e = .returned (.tuple #[.agg #[.int .i64 0, .int .i64 0, .int .i64 0, .int .i64 0, .int .i64 0, .int .i64 0, .int .i64 0, .int .i64 0, .int .i64 0], .int .i64 5]) ∧ Keeps W w') := by
    intro W hk
    have := stub_again ⟨2, 5, [1, 2, 4]⟩ 7 4 2 0 0 1 _ W (HI1.out.keep hk)
    rw [again5.2.2.1, again5.2.2.2] at this
    exact this
  go_cut [2, 3, 4] (fun p q r wc => ∃ ab eb, p = .pointer (some ⟨ab, 0, none⟩) ∧ q = .pointer (some ⟨eb, 0, none⟩) ∧ r = .int .i64 0 ∧ wc.cell? ⟨ab, 1, none⟩ = some (.int .i64 6) ∧ EBox eb ⟨2, 7, 2, 5, 2, 2, 0, 0, 1⟩ wc ∧ Keeps W1 wc)
  case first =>
    obtain ⟨V0, hV0⟩ : ∃ z, z = W1.drew := ⟨_, rfl⟩
    have k0 : Keeps W1 V0 := by rw [hV0]; exact (Keeps.refl _).drew
    refine wp_region_held_drew (S := fun W => W.cell? ⟨sb, 0, none⟩ = some (.int .i64 2) ∧ W.cell? ⟨sb, 1, none⟩ = some (.int .i64 5) ∧ W.cell? ⟨sb, 2, none⟩ = some (.slice (some ⟨w.heap.size, 0, none⟩) 3 3)) (by kernel_rfl) (HSA.out _ (Keeps.refl _).drew) (fun hS => ?_)
    rw [← hV0] at hS ⊢
    clear hV0
    refine wpAnyH_take (i := 0) (v := stuV ⟨2, 5, [1, 2, 4]⟩ (.slice (some ⟨w.heap.size, 0, none⟩) 3 3)) rfl (by kernel_rfl) (by kernel_rfl) (by kernel_rfl) (fun _ _ _ h => h) (Or.inl ⟨by kernel_rfl, ?_⟩) hS ?_
    · intro w hS; go_simp
    refine wpAnyH_ready (rs := [1, 7, 8]) (by kernel_rfl) (by simp) ?_
    refine AllReadyH.cons rfl (fun K hK => ?_) (AllReadyH.cons rfl (fun K hK => ?_) (AllReadyH.cons rfl (fun K hK => ?_) (AllReadyH.nil)))
    · go_simp
      refine (mk_add 1 V0).mono ?_
      rintro y V1 ⟨rfl, hb⟩
      have k1 := k0.trans hb
      clear hb
      go_simp
      refine hK.out _ _ (HSA.out _ k1) (fun hS => ?_)
      clear hK K
      refine wpAnyH_ready (rs := [2, 7, 8]) (by kernel_rfl) (by simp) ?_
      refine AllReadyH.cons rfl (fun K hK => ?_) (AllReadyH.cons rfl (fun K hK => ?_) (AllReadyH.cons rfl (fun K hK => ?_) (AllReadyH.nil)))
      · go_simp
        refine (HCN.out V1 k1).mono ?_
        rintro y V2 ⟨ra, rc, rfl, hb⟩
        have k2 := k1.trans hb
        clear hb
        go_simp
        refine hK.out _ _ (HSA.out _ k2) (fun hS => ?_)
        clear hK K
        refine wpAnyH_take (i := 3) (v := .tuple #[.agg #[.int .i64 2, .int .i64 6, .slice ra 3 rc], .agg #[.int .i64 2, .int .i64 7, .int .i64 2, .int .i64 5, .int .i64 2, .int .i64 2, .int .i64 0, .int .i64 0, .int .i64 1], .int .i64 0]) rfl (by kernel_rfl) (by kernel_rfl) (by kernel_rfl) (fun _ _ _ h => h) (Or.inl ⟨by kernel_rfl, ?_⟩) hS ?_
        · intro w hS; go_simp
        refine wpAnyH_take (i := 4) (v := .agg #[.int .i64 2, .int .i64 6, .slice ra 3 rc]) rfl (by kernel_rfl) (by kernel_rfl) (by kernel_rfl) (fun _ _ _ h => h) (Or.inl ⟨by kernel_rfl, ?_⟩) hS ?_
        · intro w hS; go_simp
        refine wpAnyH_take (i := 5) (v := .agg #[.int .i64 2, .int .i64 7, .int .i64 2, .int .i64 5, .int .i64 2, .int .i64 2, .int .i64 0, .int .i64 0, .int .i64 1]) rfl (by kernel_rfl) (by kernel_rfl) (by kernel_rfl) (fun _ _ _ h => h) (Or.inl ⟨by kernel_rfl, ?_⟩) hS ?_
        · intro w hS; go_simp
        refine wpAnyH_take (i := 6) (v := .int .i64 0) rfl (by kernel_rfl) (by kernel_rfl) (by kernel_rfl) (fun _ _ _ h => h) (Or.inl ⟨by kernel_rfl, ?_⟩) hS ?_
        · intro w hS; go_simp
        refine wpAnyH_ready (rs := [7, 8]) (by kernel_rfl) (by simp) ?_
        refine AllReadyH.cons rfl (fun K hK => ?_) (AllReadyH.cons rfl (fun K hK => ?_) (AllReadyH.nil))
        · go_simp
          have hb : Keeps V2 (V2.alloc (.cells #[.int .i64 0, .int .i64 0, .slice none 0 0] 24)) := (Keeps.refl _).alloc _
          have HA3 : Hid (StuBox V2.heap.size zeroStu (.slice none 0 0) (V2.alloc (.cells #[.int .i64 0, .int .i64 0, .slice none 0 0] 24))) := StuBox.new V2 zeroStu (.slice none 0 0) rfl 24
          generalize V2.alloc (.cells #[.int .i64 0, .int .i64 0, .slice none 0 0] 24) = V3 at *
          have k3 := k2.trans hb
          clear hb
          refine hK.out _ _ (HSA.out _ k3) (fun hS => ?_)
          clear hK K
          refine wpAnyH_ready (rs := [8]) (by kernel_rfl) (by simp) ?_
          refine AllReadyH.cons rfl (fun K hK => ?_) (AllReadyH.nil)
          go_simp
          have hb : Keeps V3 (V3.alloc (.cells #[.int .i64 0, .int .i64 0, .int .i64 0, .int .i64 0, .int .i64 0, .int .i64 0, .int .i64 0, .int .i64 0, .int .i64 0] 28)) := (Keeps.refl _).alloc _
          have HE4 : Hid (EBox V3.heap.size zeroE (V3.alloc (.cells #[.int .i64 0, .int .i64 0, .int .i64 0, .int .i64 0, .int .i64 0, .int .i64 0, .int .i64 0, .int .i64 0, .int .i64 0] 28))) := EBox.new V3 zeroE 28
          have HA4 : Hid (StuBox V2.heap.size zeroStu (.slice none 0 0) (V3.alloc (.cells #[.int .i64 0, .int .i64 0, .int .i64 0, .int .i64 0, .int .i64 0, .int .i64 0, .int .i64 0, .int .i64 0, .int .i64 0] 28))) := HA3.out.keep hb
          have hn01 : V2.heap.size < V3.heap.size := HA3.out.lt
          generalize V3.alloc (.cells #[.int .i64 0, .int .i64 0, .int .i64 0, .int .i64 0, .int .i64 0, .int .i64 0, .int .i64 0, .int .i64 0, .int .i64 0] 28) = V4 at *
          have k4 := k3.trans hb
          clear hb
          refine hK.out _ _ (HSA.out _ k4) (fun hS => ?_)
          clear hK K
          refine wpAnyH_ready (rs := [9]) (by kernel_rfl) (by simp) ?_
          refine AllReadyH.cons rfl (fun K hK => ?_) (AllReadyH.nil)
          have z0 := HA4.out.c0
          have z1 := HA4.out.c1
          have z2 := HA4.out.c2
          have zf := HA4.out.fz
          have zl := HA4.out.lt
          go_simp
          have BP := HA4.out.put ⟨2, 6, [1, 2, 4]⟩ (.slice ra 3 rc)
          obtain ⟨WF, hWF⟩ : ∃ z, z = ((V4.setCell ⟨V2.heap.size, 0, none⟩ (.int .i64 2)).setCell ⟨V2.heap.size, 1, none⟩ (.int .i64 6)).setCell ⟨V2.heap.size, 2, none⟩ (.slice ra 3 rc) := ⟨_, rfl⟩
          rw [← hWF] at BP ⊢
          clear hWF z0 z1 z2 zf zl
          have HYF : Hid (EBox V3.heap.size zeroE WF) := HE4.out.other BP.2 (by have := hn01; omega)
          have KF : Keeps W1 WF := But.to k4 k2.size BP.2
          have HBP := (show Hid _ from BP)
          clear BP
          refine hK.out _ _ (HSA.out _ KF) (fun hS => ?_)
          clear hK K
          refine wpAnyH_ready (rs := [10]) (by kernel_rfl) (by simp) ?_
          refine AllReadyH.cons rfl (fun K hK => ?_) (AllReadyH.nil)
          have y0 := HYF.out.c0
          have y1 := HYF.out.c1
          have y2 := HYF.out.c2
          have y3 := HYF.out.c3
          have y4 := HYF.out.c4
          have y5 := HYF.out.c5
          have y6 := HYF.out.c6
          have y7 := HYF.out.c7
          have y8 := HYF.out.c8
          have yf := HYF.out.fz
          have yl := HYF.out.lt
          go_simp
          have BQ := HYF.out.put ⟨2, 7, 2, 5, 2, 2, 0, 0, 1⟩
          obtain ⟨WG, hWG⟩ : ∃ z, z = (((((((((WF.setCell ⟨V3.heap.size, 0, none⟩ (.int .i64 2)).setCell ⟨V3.heap.size, 1, none⟩ (.int .i64 7)).setCell ⟨V3.heap.size, 2, none⟩ (.int .i64 2)).setCell ⟨V3.heap.size, 3, none⟩ (.int .i64 5)).setCell ⟨V3.heap.size, 4, none⟩ (.int .i64 2)).setCell ⟨V3.heap.size, 5, none⟩ (.int .i64 2)).setCell ⟨V3.heap.size, 6, none⟩ (.int .i64 0)).setCell ⟨V3.heap.size, 7, none⟩ (.int .i64 0)).setCell ⟨V3.heap.size, 8, none⟩ (.int .i64 1)) := ⟨_, rfl⟩
          simp only [] at BQ
          rw [← hWG] at BQ ⊢
          clear hWG y0 y1 y2 y3 y4 y5 y6 y7 y8 yf yl
          have KG : Keeps W1 WG := But.to KF k3.size BQ.2
          have HG := HBP.out.1.other BQ.2 (by have := hn01; omega)
          refine hK.out _ _ (HSA.out _ KG) (fun hS => ?_)
          clear hK K
          refine wpAnyH_take (i := 11) (v := .int .i64 0) rfl (by kernel_rfl) (by kernel_rfl) (by kernel_rfl) (fun _ _ _ h => h) (Or.inl ⟨by kernel_rfl, ?_⟩) hS ?_
          · intro w hS; go_simp
          refine wpAnyH_done (by kernel_rfl) ?_ _
          go_wp2_with fail
          go_meet
          exact ⟨_, _, rfl, rfl, rfl, HG.c1, BQ.1, KG⟩
        · go_simp
          have hb : Keeps V2 (V2.alloc (.cells #[.int .i64 0, .int .i64 0, .int .i64 0, .int .i64 0, .int .i64 0, .int .i64 0, .int .i64 0, .int .i64 0, .int .i64 0] 28)) := (Keeps.refl _).alloc _
          have HE3 : Hid (EBox V2.heap.size zeroE (V2.alloc (.cells #[.int .i64 0, .int .i64 0, .int .i64 0, .int .i64 0, .int .i64 0, .int .i64 0, .int .i64 0, .int .i64 0, .int .i64 0] 28))) := EBox.new V2 zeroE 28
          generalize V2.alloc (.cells #[.int .i64 0, .int .i64 0, .int .i64 0, .int .i64 0, .int .i64 0, .int .i64 0, .int .i64 0, .int .i64 0, .int .i64 0] 28) = V3 at *
          have k3 := k2.trans hb
          clear hb
          refine hK.out _ _ (HSA.out _ k3) (fun hS => ?_)
          clear hK K
          refine wpAnyH_ready (rs := [7]) (by kernel_rfl) (by simp) ?_
          refine AllReadyH.cons rfl (fun K hK => ?_) (AllReadyH.nil)
          go_simp
          have hb : Keeps V3 (V3.alloc (.cells #[.int .i64 0, .int .i64 0, .slice none 0 0] 24)) := (Keeps.refl _).alloc _
          have HA4 : Hid (StuBox V3.heap.size zeroStu (.slice none 0 0) (V3.alloc (.cells #[.int .i64 0, .int .i64 0, .slice none 0 0] 24))) := StuBox.new V3 zeroStu (.slice none 0 0) rfl 24
          have HE4 : Hid (EBox V2.heap.size zeroE (V3.alloc (.cells #[.int .i64 0, .int .i64 0, .slice none 0 0] 24))) := HE3.out.keep hb
          have hn01 : V2.heap.size < V3.heap.size := HE3.out.lt
          generalize V3.alloc (.cells #[.int .i64 0, .int .i64 0, .slice none 0 0] 24) = V4 at *
          have k4 := k3.trans hb
          clear hb
          refine hK.out _ _ (HSA.out _ k4) (fun hS => ?_)
          clear hK K
          refine wpAnyH_ready (rs := [9]) (by kernel_rfl) (by simp) ?_
          refine AllReadyH.cons rfl (fun K hK => ?_) (AllReadyH.nil)
          have z0 := HA4.out.c0
          have z1 := HA4.out.c1
          have z2 := HA4.out.c2
          have zf := HA4.out.fz
          have zl := HA4.out.lt
          go_simp
          have BP := HA4.out.put ⟨2, 6, [1, 2, 4]⟩ (.slice ra 3 rc)
          obtain ⟨WF, hWF⟩ : ∃ z, z = ((V4.setCell ⟨V3.heap.size, 0, none⟩ (.int .i64 2)).setCell ⟨V3.heap.size, 1, none⟩ (.int .i64 6)).setCell ⟨V3.heap.size, 2, none⟩ (.slice ra 3 rc) := ⟨_, rfl⟩
          rw [← hWF] at BP ⊢
          clear hWF z0 z1 z2 zf zl
          have HYF : Hid (EBox V2.heap.size zeroE WF) := HE4.out.other BP.2 (by have := hn01; omega)
          have KF : Keeps W1 WF := But.to k4 k3.size BP.2
          have HBP := (show Hid _ from BP)
          clear BP
          refine hK.out _ _ (HSA.out _ KF) (fun hS => ?_)
          clear hK K
          refine wpAnyH_ready (rs := [10]) (by kernel_rfl) (by simp) ?_
          refine AllReadyH.cons rfl (fun K hK => ?_) (AllReadyH.nil)
          have y0 := HYF.out.c0
          have y1 := HYF.out.c1
          have y2 := HYF.out.c2
          have y3 := HYF.out.c3
          have y4 := HYF.out.c4
          have y5 := HYF.out.c5
          have y6 := HYF.out.c6
          have y7 := HYF.out.c7
          have y8 := HYF.out.c8
          have yf := HYF.out.fz
          have yl := HYF.out.lt
          go_simp
          have BQ := HYF.out.put ⟨2, 7, 2, 5, 2, 2, 0, 0, 1⟩
          obtain ⟨WG, hWG⟩ : ∃ z, z = (((((((((WF.setCell ⟨V2.heap.size, 0, none⟩ (.int .i64 2)).setCell ⟨V2.heap.size, 1, none⟩ (.int .i64 7)).setCell ⟨V2.heap.size, 2, none⟩ (.int .i64 2)).setCell ⟨V2.heap.size, 3, none⟩ (.int .i64 5)).setCell ⟨V2.heap.size, 4, none⟩ (.int .i64 2)).setCell ⟨V2.heap.size, 5, none⟩ (.int .i64 2)).setCell ⟨V2.heap.size, 6, none⟩ (.int .i64 0)).setCell ⟨V2.heap.size, 7, none⟩ (.int .i64 0)).setCell ⟨V2.heap.size, 8, none⟩ (.int .i64 1)) := ⟨_, rfl⟩
          simp only [] at BQ
          rw [← hWG] at BQ ⊢
          clear hWG y0 y1 y2 y3 y4 y5 y6 y7 y8 yf yl
          have KG : Keeps W1 WG := But.to KF k2.size BQ.2
          have HG := HBP.out.1.other BQ.2 (by have := hn01; omega)
          refine hK.out _ _ (HSA.out _ KG) (fun hS => ?_)
          clear hK K
          refine wpAnyH_take (i := 11) (v := .int .i64 0) rfl (by kernel_rfl) (by kernel_rfl) (by kernel_rfl) (fun _ _ _ h => h) (Or.inl ⟨by kernel_rfl, ?_⟩) hS ?_
          · intro w hS; go_simp
          refine wpAnyH_done (by kernel_rfl) ?_ _
          go_wp2_with fail
          go_meet
          exact ⟨_, _, rfl, rfl, rfl, HG.c1, BQ.1, KG⟩
      · go_simp
        have hb : Keeps V1 (V1.alloc (.cells #[.int .i64 0, .int .i64 0, .slice none 0 0] 24)) := (Keeps.refl _).alloc _
        have HA2 : Hid (StuBox V1.heap.size zeroStu (.slice none 0 0) (V1.alloc (.cells #[.int .i64 0, .int .i64 0, .slice none 0 0] 24))) := StuBox.new V1 zeroStu (.slice none 0 0) rfl 24
        generalize V1.alloc (.cells #[.int .i64 0, .int .i64 0, .slice none 0 0] 24) = V2 at *
        have k2 := k1.trans hb
        clear hb
        refine hK.out _ _ (HSA.out _ k2) (fun hS => ?_)
        clear hK K
        refine wpAnyH_ready (rs := [2, 8]) (by kernel_rfl) (by simp) ?_
        refine AllReadyH.cons rfl (fun K hK => ?_) (AllReadyH.cons rfl (fun K hK => ?_) (AllReadyH.nil))
        · go_simp
          refine (HCN.out V2 k2).mono ?_
          rintro y V3 ⟨ra, rc, rfl, hb⟩
          have k3 := k2.trans hb
          have HA3 : Hid (StuBox V1.heap.size zeroStu (.slice none 0 0) V3) := HA2.out.keep hb
          clear hb
          go_simp
          refine hK.out _ _ (HSA.out _ k3) (fun hS => ?_)
          clear hK K
          refine wpAnyH_take (i := 3) (v := .tuple #[.agg #[.int .i64 2, .int .i64 6, .slice ra 3 rc], .agg #[.int .i64 2, .int .i64 7, .int .i64 2, .int .i64 5, .int .i64 2, .int .i64 2, .int .i64 0, .int .i64 0, .int .i64 1], .int .i64 0]) rfl (by kernel_rfl) (by kernel_rfl) (by kernel_rfl) (fun _ _ _ h => h) (Or.inl ⟨by kernel_rfl, ?_⟩) hS ?_
          · intro w hS; go_simp
          refine wpAnyH_take (i := 4) (v := .agg #[.int .i64 2, .int .i64 6, .slice ra 3 rc]) rfl (by kernel_rfl) (by kernel_rfl) (by kernel_rfl) (fun _ _ _ h => h) (Or.inl ⟨by kernel_rfl, ?_⟩) hS ?_
          · intro w hS; go_simp
          refine wpAnyH_take (i := 5) (v := .agg #[.int .i64 2, .int .i64 7, .int .i64 2, .int .i64 5, .int .i64 2, .int .i64 2, .int .i64 0, .int .i64 0, .int .i64 1]) rfl (by kernel_rfl) (by kernel_rfl) (by kernel_rfl) (fun _ _ _ h => h) (Or.inl ⟨by kernel_rfl, ?_⟩) hS ?_
          · intro w hS; go_simp
          refine wpAnyH_take (i := 6) (v := .int .i64 0) rfl (by kernel_rfl) (by kernel_rfl) (by kernel_rfl) (fun _ _ _ h => h) (Or.inl ⟨by kernel_rfl, ?_⟩) hS ?_
          · intro w hS; go_simp
          refine wpAnyH_ready (rs := [8]) (by kernel_rfl) (by simp) ?_
          refine AllReadyH.cons rfl (fun K hK => ?_) (AllReadyH.nil)
          go_simp
          have hb : Keeps V3 (V3.alloc (.cells #[.int .i64 0, .int .i64 0, .int .i64 0, .int .i64 0, .int .i64 0, .int .i64 0, .int .i64 0, .int .i64 0, .int .i64 0] 28)) := (Keeps.refl _).alloc _
          have HE4 : Hid (EBox V3.heap.size zeroE (V3.alloc (.cells #[.int .i64 0, .int .i64 0, .int .i64 0, .int .i64 0, .int .i64 0, .int .i64 0, .int .i64 0, .int .i64 0, .int .i64 0] 28))) := EBox.new V3 zeroE 28
          have HA4 : Hid (StuBox V1.heap.size zeroStu (.slice none 0 0) (V3.alloc (.cells #[.int .i64 0, .int .i64 0, .int .i64 0, .int .i64 0, .int .i64 0, .int .i64 0, .int .i64 0, .int .i64 0, .int .i64 0] 28))) := HA3.out.keep hb
          have hn01 : V1.heap.size < V3.heap.size := HA3.out.lt
          generalize V3.alloc (.cells #[.int .i64 0, .int .i64 0, .int .i64 0, .int .i64 0, .int .i64 0, .int .i64 0, .int .i64 0, .int .i64 0, .int .i64 0] 28) = V4 at *
          have k4 := k3.trans hb
          clear hb
          refine hK.out _ _ (HSA.out _ k4) (fun hS => ?_)
          clear hK K
          refine wpAnyH_ready (rs := [9]) (by kernel_rfl) (by simp) ?_
          refine AllReadyH.cons rfl (fun K hK => ?_) (AllReadyH.nil)
          have z0 := HA4.out.c0
          have z1 := HA4.out.c1
          have z2 := HA4.out.c2
          have zf := HA4.out.fz
          have zl := HA4.out.lt
          go_simp
          have BP := HA4.out.put ⟨2, 6, [1, 2, 4]⟩ (.slice ra 3 rc)
          obtain ⟨WF, hWF⟩ : ∃ z, z = ((V4.setCell ⟨V1.heap.size, 0, none⟩ (.int .i64 2)).setCell ⟨V1.heap.size, 1, none⟩ (.int .i64 6)).setCell ⟨V1.heap.size, 2, none⟩ (.slice ra 3 rc) := ⟨_, rfl⟩
          rw [← hWF] at BP ⊢
          clear hWF z0 z1 z2 zf zl
          have HYF : Hid (EBox V3.heap.size zeroE WF) := HE4.out.other BP.2 (by have := hn01; omega)
          have KF : Keeps W1 WF := But.to k4 k1.size BP.2
          have HBP := (show Hid _ from BP)
          clear BP
          refine hK.out _ _ (HSA.out _ KF) (fun hS => ?_)
          clear hK K
          refine wpAnyH_ready (rs := [10]) (by kernel_rfl) (by simp) ?_
          refine AllReadyH.cons rfl (fun K hK => ?_) (AllReadyH.nil)
          have y0 := HYF.out.c0
          have y1 := HYF.out.c1
          have y2 := HYF.out.c2
          have y3 := HYF.out.c3
          have y4 := HYF.out.c4
          have y5 := HYF.out.c5
          have y6 := HYF.out.c6
          have y7 := HYF.out.c7
          have y8 := HYF.out.c8
          have yf := HYF.out.fz
          have yl := HYF.out.lt
          go_simp
          have BQ := HYF.out.put ⟨2, 7, 2, 5, 2, 2, 0, 0, 1⟩
          obtain ⟨WG, hWG⟩ : ∃ z, z = (((((((((WF.setCell ⟨V3.heap.size, 0, none⟩ (.int .i64 2)).setCell ⟨V3.heap.size, 1, none⟩ (.int .i64 7)).setCell ⟨V3.heap.size, 2, none⟩ (.int .i64 2)).setCell ⟨V3.heap.size, 3, none⟩ (.int .i64 5)).setCell ⟨V3.heap.size, 4, none⟩ (.int .i64 2)).setCell ⟨V3.heap.size, 5, none⟩ (.int .i64 2)).setCell ⟨V3.heap.size, 6, none⟩ (.int .i64 0)).setCell ⟨V3.heap.size, 7, none⟩ (.int .i64 0)).setCell ⟨V3.heap.size, 8, none⟩ (.int .i64 1)) := ⟨_, rfl⟩
          simp only [] at BQ
          rw [← hWG] at BQ ⊢
          clear hWG y0 y1 y2 y3 y4 y5 y6 y7 y8 yf yl
          have KG : Keeps W1 WG := But.to KF k3.size BQ.2
          have HG := HBP.out.1.other BQ.2 (by have := hn01; omega)
          refine hK.out _ _ (HSA.out _ KG) (fun hS => ?_)
          clear hK K
          refine wpAnyH_take (i := 11) (v := .int .i64 0) rfl (by kernel_rfl) (by kernel_rfl) (by kernel_rfl) (fun _ _ _ h => h) (Or.inl ⟨by kernel_rfl, ?_⟩) hS ?_
          · intro w hS; go_simp
          refine wpAnyH_done (by kernel_rfl) ?_ _
          go_wp2_with fail
          go_meet
          exact ⟨_, _, rfl, rfl, rfl, HG.c1, BQ.1, KG⟩
        · go_simp
          have hb : Keeps V2 (V2.alloc (.cells #[.int .i64 0, .int .i64 0, .int .i64 0, .int .i64 0, .int .i64 0, .int .i64 0, .int .i64 0, .int .i64 0, .int .i64 0] 28)) := (Keeps.refl _).alloc _
          have HE3 : Hid (EBox V2.heap.size zeroE (V2.alloc (.cells #[.int .i64 0, .int .i64 0, .int .i64 0, .int .i64 0, .int .i64 0, .int .i64 0, .int .i64 0, .int .i64 0, .int .i64 0] 28))) := EBox.new V2 zeroE 28
          have HA3 : Hid (StuBox V1.heap.size zeroStu (.slice none 0 0) (V2.alloc (.cells #[.int .i64 0, .int .i64 0, .int .i64 0, .int .i64 0, .int .i64 0, .int .i64 0, .int .i64 0, .int .i64 0, .int .i64 0] 28))) := HA2.out.keep hb
          have hn01 : V1.heap.size < V2.heap.size := HA2.out.lt
          generalize V2.alloc (.cells #[.int .i64 0, .int .i64 0, .int .i64 0, .int .i64 0, .int .i64 0, .int .i64 0, .int .i64 0, .int .i64 0, .int .i64 0] 28) = V3 at *
          have k3 := k2.trans hb
          clear hb
          refine hK.out _ _ (HSA.out _ k3) (fun hS => ?_)
          clear hK K
          refine wpAnyH_ready (rs := [2]) (by kernel_rfl) (by simp) ?_
          refine AllReadyH.cons rfl (fun K hK => ?_) (AllReadyH.nil)
          go_simp
          refine (HCN.out V3 k3).mono ?_
          rintro y V4 ⟨ra, rc, rfl, hb⟩
          have k4 := k3.trans hb
          have HA4 : Hid (StuBox V1.heap.size zeroStu (.slice none 0 0) V4) := HA3.out.keep hb
          have HE4 : Hid (EBox V2.heap.size zeroE V4) := HE3.out.keep hb
          clear hb
          go_simp
          refine hK.out _ _ (HSA.out _ k4) (fun hS => ?_)
          clear hK K
          refine wpAnyH_take (i := 3) (v := .tuple #[.agg #[.int .i64 2, .int .i64 6, .slice ra 3 rc], .agg #[.int .i64 2, .int .i64 7, .int .i64 2, .int .i64 5, .int .i64 2, .int .i64 2, .int .i64 0, .int .i64 0, .int .i64 1], .int .i64 0]) rfl (by kernel_rfl) (by kernel_rfl) (by kernel_rfl) (fun _ _ _ h => h) (Or.inl ⟨by kernel_rfl, ?_⟩) hS ?_
          · intro w hS; go_simp
          refine wpAnyH_take (i := 4) (v := .agg #[.int .i64 2, .int .i64 6, .slice ra 3 rc]) rfl (by kernel_rfl) (by kernel_rfl) (by kernel_rfl) (fun _ _ _ h => h) (Or.inl ⟨by kernel_rfl, ?_⟩) hS ?_
          · intro w hS; go_simp
          refine wpAnyH_take (i := 5) (v := .agg #[.int .i64 2, .int .i64 7, .int .i64 2, .int .i64 5, .int .i64 2, .int .i64 2, .int .i64 0, .int .i64 0, .int .i64 1]) rfl (by kernel_rfl) (by kernel_rfl) (by kernel_rfl) (fun _ _ _ h => h) (Or.inl ⟨by kernel_rfl, ?_⟩) hS ?_
          · intro w hS; go_simp
          refine wpAnyH_take (i := 6) (v := .int .i64 0) rfl (by kernel_rfl) (by kernel_rfl) (by kernel_rfl) (fun _ _ _ h => h) (Or.inl ⟨by kernel_rfl, ?_⟩) hS ?_
          · intro w hS; go_simp
          refine wpAnyH_ready (rs := [9]) (by kernel_rfl) (by simp) ?_
          refine AllReadyH.cons rfl (fun K hK => ?_) (AllReadyH.nil)
          have z0 := HA4.out.c0
          have z1 := HA4.out.c1
          have z2 := HA4.out.c2
          have zf := HA4.out.fz
          have zl := HA4.out.lt
          go_simp
          have BP := HA4.out.put ⟨2, 6, [1, 2, 4]⟩ (.slice ra 3 rc)
          obtain ⟨WF, hWF⟩ : ∃ z, z = ((V4.setCell ⟨V1.heap.size, 0, none⟩ (.int .i64 2)).setCell ⟨V1.heap.size, 1, none⟩ (.int .i64 6)).setCell ⟨V1.heap.size, 2, none⟩ (.slice ra 3 rc) := ⟨_, rfl⟩
          rw [← hWF] at BP ⊢
          clear hWF z0 z1 z2 zf zl
          have HYF : Hid (EBox V2.heap.size zeroE WF) := HE4.out.other BP.2 (by have := hn01; omega)
          have KF : Keeps W1 WF := But.to k4 k1.size BP.2
          have HBP := (show Hid _ from BP)
          clear BP
          refine hK.out _ _ (HSA.out _ KF) (fun hS => ?_)
          clear hK K
          refine wpAnyH_ready (rs := [10]) (by kernel_rfl) (by simp) ?_
          refine AllReadyH.cons rfl (fun K hK => ?_) (AllReadyH.nil)
          have y0 := HYF.out.c0
          have y1 := HYF.out.c1
          have y2 := HYF.out.c2
          have y3 := HYF.out.c3
          have y4 := HYF.out.c4
          have y5 := HYF.out.c5
          have y6 := HYF.out.c6
          have y7 := HYF.out.c7
          have y8 := HYF.out.c8
          have yf := HYF.out.fz
          have yl := HYF.out.lt
          go_simp
          have BQ := HYF.out.put ⟨2, 7, 2, 5, 2, 2, 0, 0, 1⟩
          obtain ⟨WG, hWG⟩ : ∃ z, z = (((((((((WF.setCell ⟨V2.heap.size, 0, none⟩ (.int .i64 2)).setCell ⟨V2.heap.size, 1, none⟩ (.int .i64 7)).setCell ⟨V2.heap.size, 2, none⟩ (.int .i64 2)).setCell ⟨V2.heap.size, 3, none⟩ (.int .i64 5)).setCell ⟨V2.heap.size, 4, none⟩ (.int .i64 2)).setCell ⟨V2.heap.size, 5, none⟩ (.int .i64 2)).setCell ⟨V2.heap.size, 6, none⟩ (.int .i64 0)).setCell ⟨V2.heap.size, 7, none⟩ (.int .i64 0)).setCell ⟨V2.heap.size, 8, none⟩ (.int .i64 1)) := ⟨_, rfl⟩
          simp only [] at BQ
          rw [← hWG] at BQ ⊢
          clear hWG y0 y1 y2 y3 y4 y5 y6 y7 y8 yf yl
          have KG : Keeps W1 WG := But.to KF k2.size BQ.2
          have HG := HBP.out.1.other BQ.2 (by have := hn01; omega)
          refine hK.out _ _ (HSA.out _ KG) (fun hS => ?_)
          clear hK K
          refine wpAnyH_take (i := 11) (v := .int .i64 0) rfl (by kernel_rfl) (by kernel_rfl) (by kernel_rfl) (fun _ _ _ h => h) (Or.inl ⟨by kernel_rfl, ?_⟩) hS ?_
          · intro w hS; go_simp
          refine wpAnyH_done (by kernel_rfl) ?_ _
          go_wp2_with fail
          go_meet
          exact ⟨_, _, rfl, rfl, rfl, HG.c1, BQ.1, KG⟩
      · go_simp
        have hb : Keeps V1 (V1.alloc (.cells #[.int .i64 0, .int .i64 0, .int .i64 0, .int .i64 0, .int .i64 0, .int .i64 0, .int .i64 0, .int .i64 0, .int .i64 0] 28)) := (Keeps.refl _).alloc _
        have HE2 : Hid (EBox V1.heap.size zeroE (V1.alloc (.cells #[.int .i64 0, .int .i64 0, .int .i64 0, .int .i64 0, .int .i64 0, .int .i64 0, .int .i64 0, .int .i64 0, .int .i64 0] 28))) := EBox.new V1 zeroE 28
        generalize V1.alloc (.cells #[.int .i64 0, .int .i64 0, .int .i64 0, .int .i64 0, .int .i64 0, .int .i64 0, .int .i64 0, .int .i64 0, .int .i64 0] 28) = V2 at *
        have k2 := k1.trans hb
        clear hb
        refine hK.out _ _ (HSA.out _ k2) (fun hS => ?_)
        clear hK K
        refine wpAnyH_ready (rs := [2, 7]) (by kernel_rfl) (by simp) ?_
        refine AllReadyH.cons rfl (fun K hK => ?_) (AllReadyH.cons rfl (fun K hK => ?_) (AllReadyH.nil))
        · go_simp
          refine (HCN.out V2 k2).mono ?_
          rintro y V3 ⟨ra, rc, rfl, hb⟩
          have k3 := k2.trans hb
          have HE3 : Hid (EBox V1.heap.size zeroE V3) := HE2.out.keep hb
          clear hb
          go_simp
          refine hK.out _ _ (HSA.out _ k3) (fun hS => ?_)
          clear hK K
          refine wpAnyH_take (i := 3) (v := .tuple #[.agg #[.int .i64 2, .int .i64 6, .slice ra 3 rc], .agg #[.int .i64 2, .int .i64 7, .int .i64 2, .int .i64 5, .int .i64 2, .int .i64 2, .int .i64 0, .int .i64 0, .int .i64 1], .int .i64 0]) rfl (by kernel_rfl) (by kernel_rfl) (by kernel_rfl) (fun _ _ _ h => h) (Or.inl ⟨by kernel_rfl, ?_⟩) hS ?_
          · intro w hS; go_simp
          refine wpAnyH_take (i := 4) (v := .agg #[.int .i64 2, .int .i64 6, .slice ra 3 rc]) rfl (by kernel_rfl) (by kernel_rfl) (by kernel_rfl) (fun _ _ _ h => h) (Or.inl ⟨by kernel_rfl, ?_⟩) hS ?_
          · intro w hS; go_simp
          refine wpAnyH_take (i := 5) (v := .agg #[.int .i64 2, .int .i64 7, .int .i64 2, .int .i64 5, .int .i64 2, .int .i64 2, .int .i64 0, .int .i64 0, .int .i64 1]) rfl (by kernel_rfl) (by kernel_rfl) (by kernel_rfl) (fun _ _ _ h => h) (Or.inl ⟨by kernel_rfl, ?_⟩) hS ?_
          · intro w hS; go_simp
          refine wpAnyH_take (i := 6) (v := .int .i64 0) rfl (by kernel_rfl) (by kernel_rfl) (by kernel_rfl) (fun _ _ _ h => h) (Or.inl ⟨by kernel_rfl, ?_⟩) hS ?_
          · intro w hS; go_simp
          refine wpAnyH_ready (rs := [7]) (by kernel_rfl) (by simp) ?_
          refine AllReadyH.cons rfl (fun K hK => ?_) (AllReadyH.nil)
          go_simp
          have hb : Keeps V3 (V3.alloc (.cells #[.int .i64 0, .int .i64 0, .slice none 0 0] 24)) := (Keeps.refl _).alloc _
          have HA4 : Hid (StuBox V3.heap.size zeroStu (.slice none 0 0) (V3.alloc (.cells #[.int .i64 0, .int .i64 0, .slice none 0 0] 24))) := StuBox.new V3 zeroStu (.slice none 0 0) rfl 24
          have HE4 : Hid (EBox V1.heap.size zeroE (V3.alloc (.cells #[.int .i64 0, .int .i64 0, .slice none 0 0] 24))) := HE3.out.keep hb
          have hn01 : V1.heap.size < V3.heap.size := HE3.out.lt
          generalize V3.alloc (.cells #[.int .i64 0, .int .i64 0, .slice none 0 0] 24) = V4 at *
          have k4 := k3.trans hb
          clear hb
          refine hK.out _ _ (HSA.out _ k4) (fun hS => ?_)
          clear hK K
          refine wpAnyH_ready (rs := [9]) (by kernel_rfl) (by simp) ?_
          refine AllReadyH.cons rfl (fun K hK => ?_) (AllReadyH.nil)
          have z0 := HA4.out.c0
          have z1 := HA4.out.c1
          have z2 := HA4.out.c2
          have zf := HA4.out.fz
          have zl := HA4.out.lt
          go_simp
          have BP := HA4.out.put ⟨2, 6, [1, 2, 4]⟩ (.slice ra 3 rc)
          obtain ⟨WF, hWF⟩ : ∃ z, z = ((V4.setCell ⟨V3.heap.size, 0, none⟩ (.int .i64 2)).setCell ⟨V3.heap.size, 1, none⟩ (.int .i64 6)).setCell ⟨V3.heap.size, 2, none⟩ (.slice ra 3 rc) := ⟨_, rfl⟩
          rw [← hWF] at BP ⊢
          clear hWF z0 z1 z2 zf zl
          have HYF : Hid (EBox V1.heap.size zeroE WF) := HE4.out.other BP.2 (by have := hn01; omega)
          have KF : Keeps W1 WF := But.to k4 k3.size BP.2
          have HBP := (show Hid _ from BP)
          clear BP
          refine hK.out _ _ (HSA.out _ KF) (fun hS => ?_)
          clear hK K
          refine wpAnyH_ready (rs := [10]) (by kernel_rfl) (by simp) ?_
          refine AllReadyH.cons rfl (fun K hK => ?_) (AllReadyH.nil)
          have y0 := HYF.out.c0
          have y1 := HYF.out.c1
          have y2 := HYF.out.c2
          have y3 := HYF.out.c3
          have y4 := HYF.out.c4
          have y5 := HYF.out.c5
          have y6 := HYF.out.c6
          have y7 := HYF.out.c7
          have y8 := HYF.out.c8
          have yf := HYF.out.fz
          have yl := HYF.out.lt
          go_simp
          have BQ := HYF.out.put ⟨2, 7, 2, 5, 2, 2, 0, 0, 1⟩
          obtain ⟨WG, hWG⟩ : ∃ z, z = (((((((((WF.setCell ⟨V1.heap.size, 0, none⟩ (.int .i64 2)).setCell ⟨V1.heap.size, 1, none⟩ (.int .i64 7)).setCell ⟨V1.heap.size, 2, none⟩ (.int .i64 2)).setCell ⟨V1.heap.size, 3, none⟩ (.int .i64 5)).setCell ⟨V1.heap.size, 4, none⟩ (.int .i64 2)).setCell ⟨V1.heap.size, 5, none⟩ (.int .i64 2)).setCell ⟨V1.heap.size, 6, none⟩ (.int .i64 0)).setCell ⟨V1.heap.size, 7, none⟩ (.int .i64 0)).setCell ⟨V1.heap.size, 8, none⟩ (.int .i64 1)) := ⟨_, rfl⟩
          simp only [] at BQ
          rw [← hWG] at BQ ⊢
          clear hWG y0 y1 y2 y3 y4 y5 y6 y7 y8 yf yl
          have KG : Keeps W1 WG := But.to KF k1.size BQ.2
          have HG := HBP.out.1.other BQ.2 (by have := hn01; omega)
          refine hK.out _ _ (HSA.out _ KG) (fun hS => ?_)
          clear hK K
          refine wpAnyH_take (i := 11) (v := .int .i64 0) rfl (by kernel_rfl) (by kernel_rfl) (by kernel_rfl) (fun _ _ _ h => h) (Or.inl ⟨by kernel_rfl, ?_⟩) hS ?_
          · intro w hS; go_simp
          refine wpAnyH_done (by kernel_rfl) ?_ _
          go_wp2_with fail
          go_meet
          exact ⟨_, _, rfl, rfl, rfl, HG.c1, BQ.1, KG⟩
        · go_simp
          have hb : Keeps V2 (V2.alloc (.cells #[.int .i64 0, .int .i64 0, .slice none 0 0] 24)) := (Keeps.refl _).alloc _
          have HA3 : Hid (StuBox V2.heap.size zeroStu (.slice none 0 0) (V2.alloc (.cells #[.int .i64 0, .int .i64 0, .slice none 0 0] 24))) := StuBox.new V2 zeroStu (.slice none 0 0) rfl 24
          have HE3 : Hid (EBox V1.heap.size zeroE (V2.alloc (.cells #[.int .i64 0, .int .i64 0, .slice none 0 0] 24))) := HE2.out.keep hb
          have hn01 : V1.heap.size < V2.heap.size := HE2.out.lt
          generalize V2.alloc (.cells #[.int .i64 0, .int .i64 0, .slice none 0 0] 24) = V3 at *
          have k3 := k2.trans hb
          clear hb
          refine hK.out _ _ (HSA.out _ k3) (fun hS => ?_)
          clear hK K
          refine wpAnyH_ready (rs := [2]) (by kernel_rfl) (by simp) ?_
          refine AllReadyH.cons rfl (fun K hK => ?_) (AllReadyH.nil)
          go_simp
          refine (HCN.out V3 k3).mono ?_
          rintro y V4 ⟨ra, rc, rfl, hb⟩
          have k4 := k3.trans hb
          have HE4 : Hid (EBox V1.heap.size zeroE V4) := HE3.out.keep hb
          have HA4 : Hid (StuBox V2.heap.size zeroStu (.slice none 0 0) V4) := HA3.out.keep hb
          clear hb
          go_simp
          refine hK.out _ _ (HSA.out _ k4) (fun hS => ?_)
          clear hK K
          refine wpAnyH_take (i := 3) (v := .tuple #[.agg #[.int .i64 2, .int .i64 6, .slice ra 3 rc], .agg #[.int .i64 2, .int .i64 7, .int .i64 2, .int .i64 5, .int .i64 2, .int .i64 2, .int .i64 0, .int .i64 0, .int .i64 1], .int .i64 0]) rfl (by kernel_rfl) (by kernel_rfl) (by kernel_rfl) (fun _ _ _ h => h) (Or.inl ⟨by kernel_rfl, ?_⟩) hS ?_
          · intro w hS; go_simp
          refine wpAnyH_take (i := 4) (v := .agg #[.int .i64 2, .int .i64 6, .slice ra 3 rc]) rfl (by kernel_rfl) (by kernel_rfl) (by kernel_rfl) (fun _ _ _ h => h) (Or.inl ⟨by kernel_rfl, ?_⟩) hS ?_
          · intro w hS; go_simp
          refine wpAnyH_take (i := 5) (v := .agg #[.int .i64 2, .int .i64 7, .int .i64 2, .int .i64 5, .int .i64 2, .int .i64 2, .int .i64 0, .int .i64 0, .int .i64 1]) rfl (by kernel_rfl) (by kernel_rfl) (by kernel_rfl) (fun _ _ _ h => h) (Or.inl ⟨by kernel_rfl, ?_⟩) hS ?_
          · intro w hS; go_simp
          refine wpAnyH_take (i := 6) (v := .int .i64 0) rfl (by kernel_rfl) (by kernel_rfl) (by kernel_rfl) (fun _ _ _ h => h) (Or.inl ⟨by kernel_rfl, ?_⟩) hS ?_
          · intro w hS; go_simp
          refine wpAnyH_ready (rs := [9]) (by kernel_rfl) (by simp) ?_
          refine AllReadyH.cons rfl (fun K hK => ?_) (AllReadyH.nil)
          have z0 := HA4.out.c0
          have z1 := HA4.out.c1
          have z2 := HA4.out.c2
          have zf := HA4.out.fz
          have zl := HA4.out.lt
          go_simp
          have BP := HA4.out.put ⟨2, 6, [1, 2, 4]⟩ (.slice ra 3 rc)
          obtain ⟨WF, hWF⟩ : ∃ z, z = ((V4.setCell ⟨V2.heap.size, 0, none⟩ (.int .i64 2)).setCell ⟨V2.heap.size, 1, none⟩ (.int .i64 6)).setCell ⟨V2.heap.size, 2, none⟩ (.slice ra 3 rc) := ⟨_, rfl⟩
          rw [← hWF] at BP ⊢
          clear hWF z0 z1 z2 zf zl
          have HYF : Hid (EBox V1.heap.size zeroE WF) := HE4.out.other BP.2 (by have := hn01; omega)
          have KF : Keeps W1 WF := But.to k4 k2.size BP.2
          have HBP := (show Hid _ from BP)
          clear BP
          refine hK.out _ _ (HSA.out _ KF) (fun hS => ?_)
          clear hK K
          refine wpAnyH_ready (rs := [10]) (by kernel_rfl) (by simp) ?_
          refine AllReadyH.cons rfl (fun K hK => ?_) (AllReadyH.nil)
          have y0 := HYF.out.c0
          have y1 := HYF.out.c1
          have y2 := HYF.out.c2
          have y3 := HYF.out.c3
          have y4 := HYF.out.c4
          have y5 := HYF.out.c5
          have y6 := HYF.out.c6
          have y7 := HYF.out.c7
          have y8 := HYF.out.c8
          have yf := HYF.out.fz
          have yl := HYF.out.lt
          go_simp
          have BQ := HYF.out.put ⟨2, 7, 2, 5, 2, 2, 0, 0, 1⟩
          obtain ⟨WG, hWG⟩ : ∃ z, z = (((((((((WF.setCell ⟨V1.heap.size, 0, none⟩ (.int .i64 2)).setCell ⟨V1.heap.size, 1, none⟩ (.int .i64 7)).setCell ⟨V1.heap.size, 2, none⟩ (.int .i64 2)).setCell ⟨V1.heap.size, 3, none⟩ (.int .i64 5)).setCell ⟨V1.heap.size, 4, none⟩ (.int .i64 2)).setCell ⟨V1.heap.size, 5, none⟩ (.int .i64 2)).setCell ⟨V1.heap.size, 6, none⟩ (.int .i64 0)).setCell ⟨V1.heap.size, 7, none⟩ (.int .i64 0)).setCell ⟨V1.heap.size, 8, none⟩ (.int .i64 1)) := ⟨_, rfl⟩
          simp only [] at BQ
          rw [← hWG] at BQ ⊢
          clear hWG y0 y1 y2 y3 y4 y5 y6 y7 y8 yf yl
          have KG : Keeps W1 WG := But.to KF k1.size BQ.2
          have HG := HBP.out.1.other BQ.2 (by have := hn01; omega)
          refine hK.out _ _ (HSA.out _ KG) (fun hS => ?_)
          clear hK K
          refine wpAnyH_take (i := 11) (v := .int .i64 0) rfl (by kernel_rfl) (by kernel_rfl) (by kernel_rfl) (fun _ _ _ h => h) (Or.inl ⟨by kernel_rfl, ?_⟩) hS ?_
          · intro w hS; go_simp
          refine wpAnyH_done (by kernel_rfl) ?_ _
          go_wp2_with fail
          go_meet
          exact ⟨_, _, rfl, rfl, rfl, HG.c1, BQ.1, KG⟩
    · go_simp
      have hb : Keeps V0 (V0.alloc (.cells #[.int .i64 0, .int .i64 0, .slice none 0 0] 24)) := (Keeps.refl _).alloc _
      have HA1 : Hid (StuBox V0.heap.size zeroStu (.slice none 0 0) (V0.alloc (.cells #[.int .i64 0, .int .i64 0, .slice none 0 0] 24))) := StuBox.new V0 zeroStu (.slice none 0 0) rfl 24
      generalize V0.alloc (.cells #[.int .i64 0, .int .i64 0, .slice none 0 0] 24) = V1 at *
      have k1 := k0.trans hb
      clear hb
      refine hK.out _ _ (HSA.out _ k1) (fun hS => ?_)
      clear hK K
      refine wpAnyH_ready (rs := [1, 8]) (by kernel_rfl) (by simp) ?_
      refine AllReadyH.cons rfl (fun K hK => ?_) (AllReadyH.cons rfl (fun K hK => ?_) (AllReadyH.nil))
      · go_simp
        refine (mk_add 1 V1).mono ?_
        rintro y V2 ⟨rfl, hb⟩
        have k2 := k1.trans hb
        have HA2 : Hid (StuBox V0.heap.size zeroStu (.slice none 0 0) V2) := HA1.out.keep hb
        clear hb
        go_simp
        refine hK.out _ _ (HSA.out _ k2) (fun hS => ?_)
        clear hK K
        refine wpAnyH_ready (rs := [2, 8]) (by kernel_rfl) (by simp) ?_
        refine AllReadyH.cons rfl (fun K hK => ?_) (AllReadyH.cons rfl (fun K hK => ?_) (AllReadyH.nil))
        · go_simp
          refine (HCN.out V2 k2).mono ?_
          rintro y V3 ⟨ra, rc, rfl, hb⟩
          have k3 := k2.trans hb
          have HA3 : Hid (StuBox V0.heap.size zeroStu (.slice none 0 0) V3) := HA2.out.keep hb
          clear hb
          go_simp
          refine hK.out _ _ (HSA.out _ k3) (fun hS => ?_)
          clear hK K
          refine wpAnyH_take (i := 3) (v := .tuple #[.agg #[.int .i64 2, .int .i64 6, .slice ra 3 rc], .agg #[.int .i64 2, .int .i64 7, .int .i64 2, .int .i64 5, .int .i64 2, .int .i64 2, .int .i64 0, .int .i64 0, .int .i64 1], .int .i64 0]) rfl (by kernel_rfl) (by kernel_rfl) (by kernel_rfl) (fun _ _ _ h => h) (Or.inl ⟨by kernel_rfl, ?_⟩) hS ?_
          · intro w hS; go_simp
          refine wpAnyH_take (i := 4) (v := .agg #[.int .i64 2, .int .i64 6, .slice ra 3 rc]) rfl (by kernel_rfl) (by kernel_rfl) (by kernel_rfl) (fun _ _ _ h => h) (Or.inl ⟨by kernel_rfl, ?_⟩) hS ?_
          · intro w hS; go_simp
          refine wpAnyH_take (i := 5) (v := .agg #[.int .i64 2, .int .i64 7, .int .i64 2, .int .i64 5, .int .i64 2, .int .i64 2, .int .i64 0, .int .i64 0, .int .i64 1]) rfl (by kernel_rfl) (by kernel_rfl) (by kernel_rfl) (fun _ _ _ h => h) (Or.inl ⟨by kernel_rfl, ?_⟩) hS ?_
          · intro w hS; go_simp
          refine wpAnyH_take (i := 6) (v := .int .i64 0) rfl (by kernel_rfl) (by kernel_rfl) (by kernel_rfl) (fun _ _ _ h => h) (Or.inl ⟨by kernel_rfl, ?_⟩) hS ?_
          · intro w hS; go_simp
          refine wpAnyH_ready (rs := [8]) (by kernel_rfl) (by simp) ?_
          refine AllReadyH.cons rfl (fun K hK => ?_) (AllReadyH.nil)
          go_simp
          have hb : Keeps V3 (V3.alloc (.cells #[.int .i64 0, .int .i64 0, .int .i64 0, .int .i64 0, .int .i64 0, .int .i64 0, .int .i64 0, .int .i64 0, .int .i64 0] 28)) := (Keeps.refl _).alloc _
          have HE4 : Hid (EBox V3.heap.size zeroE (V3.alloc (.cells #[.int .i64 0, .int .i64 0, .int .i64 0, .int .i64 0, .int .i64 0, .int .i64 0, .int .i64 0, .int .i64 0, .int .i64 0] 28))) := EBox.new V3 zeroE 28
          have HA4 : Hid (StuBox V0.heap.size zeroStu (.slice none 0 0) (V3.alloc (.cells #[.int .i64 0, .int .i64 0, .int .i64 0, .int .i64 0, .int .i64 0, .int .i64 0, .int .i64 0, .int .i64 0, .int .i64 0] 28))) := HA3.out.keep hb
          have hn01 : V0.heap.size < V3.heap.size := HA3.out.lt
          generalize V3.alloc (.cells #[.int .i64 0, .int .i64 0, .int .i64 0, .int .i64 0, .int .i64 0, .int .i64 0, .int .i64 0, .int .i64 0, .int .i64 0] 28) = V4 at *
          have k4 := k3.trans hb
          clear hb
          refine hK.out _ _ (HSA.out _ k4) (fun hS => ?_)
          clear hK K
          refine wpAnyH_ready (rs := [9]) (by kernel_rfl) (by simp) ?_
          refine AllReadyH.cons rfl (fun K hK => ?_) (AllReadyH.nil)
          have z0 := HA4.out.c0
          have z1 := HA4.out.c1
          have z2 := HA4.out.c2
          have zf := HA4.out.fz
          have zl := HA4.out.lt
          go_simp
          have BP := HA4.out.put ⟨2, 6, [1, 2, 4]⟩ (.slice ra 3 rc)
          obtain ⟨WF, hWF⟩ : ∃ z, z = ((V4.setCell ⟨V0.heap.size, 0, none⟩ (.int .i64 2)).setCell ⟨V0.heap.size, 1, none⟩ (.int .i64 6)).setCell ⟨V0.heap.size, 2, none⟩ (.slice ra 3 rc) := ⟨_, rfl⟩
          rw [← hWF] at BP ⊢
          clear hWF z0 z1 z2 zf zl
          have HYF : Hid (EBox V3.heap.size zeroE WF) := HE4.out.other BP.2 (by have := hn01; omega)
          have KF : Keeps W1 WF := But.to k4 k0.size BP.2
          have HBP := (show Hid _ from BP)
          clear BP
          refine hK.out _ _ (HSA.out _ KF) (fun hS => ?_)
          clear hK K
          refine wpAnyH_ready (rs := [10]) (by kernel_rfl) (by simp) ?_
          refine AllReadyH.cons rfl (fun K hK => ?_) (AllReadyH.nil)
          have y0 := HYF.out.c0
          have y1 := HYF.out.c1
          have y2 := HYF.out.c2
          have y3 := HYF.out.c3
          have y4 := HYF.out.c4
          have y5 := HYF.out.c5
          have y6 := HYF.out.c6
          have y7 := HYF.out.c7
          have y8 := HYF.out.c8
          have yf := HYF.out.fz
          have yl := HYF.out.lt
          go_simp
          have BQ := HYF.out.put ⟨2, 7, 2, 5, 2, 2, 0, 0, 1⟩
          obtain ⟨WG, hWG⟩ : ∃ z, z = (((((((((WF.setCell ⟨V3.heap.size, 0, none⟩ (.int .i64 2)).setCell ⟨V3.heap.size, 1, none⟩ (.int .i64 7)).setCell ⟨V3.heap.size, 2, none⟩ (.int .i64 2)).setCell ⟨V3.heap.size, 3, none⟩ (.int .i64 5)).setCell ⟨V3.heap.size, 4, none⟩ (.int .i64 2)).setCell ⟨V3.heap.size, 5, none⟩ (.int .i64 2)).setCell ⟨V3.heap.size, 6, none⟩ (.int .i64 0)).setCell ⟨V3.heap.size, 7, none⟩ (.int .i64 0)).setCell ⟨V3.heap.size, 8, none⟩ (.int .i64 1)) := ⟨_, rfl⟩
          simp only [] at BQ
          rw [← hWG] at BQ ⊢
          clear hWG y0 y1 y2 y3 y4 y5 y6 y7 y8 yf yl
          have KG : Keeps W1 WG := But.to KF k3.size BQ.2
          have HG := HBP.out.1.other BQ.2 (by have := hn01; omega)
          refine hK.out _ _ (HSA.out _ KG) (fun hS => ?_)
          clear hK K
          refine wpAnyH_take (i := 11) (v := .int .i64 0) rfl (by kernel_rfl) (by kernel_rfl) (by kernel_rfl) (fun _ _ _ h => h) (Or.inl ⟨by kernel_rfl, ?_⟩) hS ?_
          · intro w hS; go_simp
          refine wpAnyH_done (by kernel_rfl) ?_ _
          go_wp2_with fail
          go_meet
          exact ⟨_, _, rfl, rfl, rfl, HG.c1, BQ.1, KG⟩
        · go_simp
          have hb : Keeps V2 (V2.alloc (.cells #[.int .i64 0, .int .i64 0, .int .i64 0, .int .i64 0, .int .i64 0, .int .i64 0, .int .i64 0, .int .i64 0, .int .i64 0] 28)) := (Keeps.refl _).alloc _
          have HE3 : Hid (EBox V2.heap.size zeroE (V2.alloc (.cells #[.int .i64 0, .int .i64 0, .int .i64 0, .int .i64 0, .int .i64 0, .int .i64 0, .int .i64 0, .int .i64 0, .int .i64 0] 28))) := EBox.new V2 zeroE 28
          have HA3 : Hid (StuBox V0.heap.size zeroStu (.slice none 0 0) (V2.alloc (.cells #[.int .i64 0, .int .i64 0, .int .i64 0, .int .i64 0, .int .i64 0, .int .i64 0, .int .i64 0, .int .i64 0, .int .i64 0] 28))) := HA2.out.keep hb
          have hn01 : V0.heap.size < V2.heap.size := HA2.out.lt
          generalize V2.alloc (.cells #[.int .i64 0, .int .i64 0, .int .i64 0, .int .i64 0, .int .i64 0, .int .i64 0, .int .i64 0, .int .i64 0, .int .i64 0] 28) = V3 at *
          have k3 := k2.trans hb
          clear hb
          refine hK.out _ _ (HSA.out _ k3) (fun hS => ?_)
          clear hK K
          refine wpAnyH_ready (rs := [2]) (by kernel_rfl) (by simp) ?_
          refine AllReadyH.cons rfl (fun K hK => ?_) (AllReadyH.nil)
          go_simp
          refine (HCN.out V3 k3).mono ?_
          rintro y V4 ⟨ra, rc, rfl, hb⟩
          have k4 := k3.trans hb
          have HA4 : Hid (StuBox V0.heap.size zeroStu (.slice none 0 0) V4) := HA3.out.keep hb
          have HE4 : Hid (EBox V2.heap.size zeroE V4) := HE3.out.keep hb
          clear hb
          go_simp
          refine hK.out _ _ (HSA.out _ k4) (fun hS => ?_)
          clear hK K
          refine wpAnyH_take (i := 3) (v := .tuple #[.agg #[.int .i64 2, .int .i64 6, .slice ra 3 rc], .agg #[.int .i64 2, .int .i64 7, .int .i64 2, .int .i64 5, .int .i64 2, .int .i64 2, .int .i64 0, .int .i64 0, .int .i64 1], .int .i64 0]) rfl (by kernel_rfl) (by kernel_rfl) (by kernel_rfl) (fun _ _ _ h => h) (Or.inl ⟨by kernel_rfl, ?_⟩) hS ?_
          · intro w hS; go_simp
          refine wpAnyH_take (i := 4) (v := .agg #[.int .i64 2, .int .i64 6, .slice ra 3 rc]) rfl (by kernel_rfl) (by kernel_rfl) (by kernel_rfl) (fun _ _ _ h => h) (Or.inl ⟨by kernel_rfl, ?_⟩) hS ?_
          · intro w hS; go_simp
          refine wpAnyH_take (i := 5) (v := .agg #[.int .i64 2, .int .i64 7, .int .i64 2, .int .i64 5, .int .i64 2, .int .i64 2, .int .i64 0, .int .i64 0, .int .i64 1]) rfl (by kernel_rfl) (by kernel_rfl) (by kernel_rfl) (fun _ _ _ h => h) (Or.inl ⟨by kernel_rfl, ?_⟩) hS ?_
          · intro w hS; go_simp
          refine wpAnyH_take (i := 6) (v := .int .i64 0) rfl (by kernel_rfl) (by kernel_rfl) (by kernel_rfl) (fun _ _ _ h => h) (Or.inl ⟨by kernel_rfl, ?_⟩) hS ?_
          · intro w hS; go_simp
          refine wpAnyH_ready (rs := [9]) (by kernel_rfl) (by simp) ?_
          refine AllReadyH.cons rfl (fun K hK => ?_) (AllReadyH.nil)
          have z0 := HA4.out.c0
          have z1 := HA4.out.c1
          have z2 := HA4.out.c2
          have zf := HA4.out.fz
          have zl := HA4.out.lt
          go_simp
          have BP := HA4.out.put ⟨2, 6, [1, 2, 4]⟩ (.slice ra 3 rc)
          obtain ⟨WF, hWF⟩ : ∃ z, z = ((V4.setCell ⟨V0.heap.size, 0, none⟩ (.int .i64 2)).setCell ⟨V0.heap.size, 1, none⟩ (.int .i64 6)).setCell ⟨V0.heap.size, 2, none⟩ (.slice ra 3 rc) := ⟨_, rfl⟩
          rw [← hWF] at BP ⊢
          clear hWF z0 z1 z2 zf zl
          have HYF : Hid (EBox V2.heap.size zeroE WF) := HE4.out.other BP.2 (by have := hn01; omega)
          have KF : Keeps W1 WF := But.to k4 k0.size BP.2
          have HBP := (show Hid _ from BP)
          clear BP
          refine hK.out _ _ (HSA.out _ KF) (fun hS => ?_)
          clear hK K
          refine wpAnyH_ready (rs := [10]) (by kernel_rfl) (by simp) ?_
          refine AllReadyH.cons rfl (fun K hK => ?_) (AllReadyH.nil)
          have y0 := HYF.out.c0
          have y1 := HYF.out.c1
          have y2 := HYF.out.c2
          have y3 := HYF.out.c3
          have y4 := HYF.out.c4
          have y5 := HYF.out.c5
          have y6 := HYF.out.c6
          have y7 := HYF.out.c7
          have y8 := HYF.out.c8
          have yf := HYF.out.fz
          have yl := HYF.out.lt
          go_simp
          have BQ := HYF.out.put ⟨2, 7, 2, 5, 2, 2, 0, 0, 1⟩
          obtain ⟨WG, hWG⟩ : ∃ z, z = (((((((((WF.setCell ⟨V2.heap.size, 0, none⟩ (.int .i64 2)).setCell ⟨V2.heap.size, 1, none⟩ (.int .i64 7)).setCell ⟨V2.heap.size, 2, none⟩ (.int .i64 2)).setCell ⟨V2.heap.size, 3, none⟩ (.int .i64 5)).setCell ⟨V2.heap.size, 4, none⟩ (.int .i64 2)).setCell ⟨V2.heap.size, 5, none⟩ (.int .i64 2)).setCell ⟨V2.heap.size, 6, none⟩ (.int .i64 0)).setCell ⟨V2.heap.size, 7, none⟩ (.int .i64 0)).setCell ⟨V2.heap.size, 8, none⟩ (.int .i64 1)) := ⟨_, rfl⟩
          simp only [] at BQ
          rw [← hWG] at BQ ⊢
          clear hWG y0 y1 y2 y3 y4 y5 y6 y7 y8 yf yl
          have KG : Keeps W1 WG := But.to KF k2.size BQ.2
          have HG := HBP.out.1.other BQ.2 (by have := hn01; omega)
          refine hK.out _ _ (HSA.out _ KG) (fun hS => ?_)
          clear hK K
          refine wpAnyH_take (i := 11) (v := .int .i64 0) rfl (by kernel_rfl) (by kernel_rfl) (by kernel_rfl) (fun _ _ _ h => h) (Or.inl ⟨by kernel_rfl, ?_⟩) hS ?_
          · intro w hS; go_simp
          refine wpAnyH_done (by kernel_rfl) ?_ _
          go_wp2_with fail
          go_meet
          exact ⟨_, _, rfl, rfl, rfl, HG.c1, BQ.1, KG⟩
      · go_simp
        have hb : Keeps V1 (V1.alloc (.cells #[.int .i64 0, .int .i64 0, .int .i64 0, .int .i64 0, .int .i64 0, .int .i64 0, .int .i64 0, .int .i64 0, .int .i64 0] 28)) := (Keeps.refl _).alloc _
        have HE2 : Hid (EBox V1.heap.size zeroE (V1.alloc (.cells #[.int .i64 0, .int .i64 0, .int .i64 0, .int .i64 0, .int .i64 0, .int .i64 0, .int .i64 0, .int .i64 0, .int .i64 0] 28))) := EBox.new V1 zeroE 28
        have HA2 : Hid (StuBox V0.heap.size zeroStu (.slice none 0 0) (V1.alloc (.cells #[.int .i64 0, .int .i64 0, .int .i64 0, .int .i64 0, .int .i64 0, .int .i64 0, .int .i64 0, .int .i64 0, .int .i64 0] 28))) := HA1.out.keep hb
        have hn01 : V0.heap.size < V1.heap.size := HA1.out.lt
        generalize V1.alloc (.cells #[.int .i64 0, .int .i64 0, .int .i64 0, .int .i64 0, .int .i64 0, .int .i64 0, .int .i64 0, .int .i64 0, .int .i64 0] 28) = V2 at *
        have k2 := k1.trans hb
        clear hb
        refine hK.out _ _ (HSA.out _ k2) (fun hS => ?_)
        clear hK K
        refine wpAnyH_ready (rs := [1]) (by kernel_rfl) (by simp) ?_
        refine AllReadyH.cons rfl (fun K hK => ?_) (AllReadyH.nil)
        go_simp
        refine (mk_add 1 V2).mono ?_
        rintro y V3 ⟨rfl, hb⟩
        have k3 := k2.trans hb
        have HA3 : Hid (StuBox V0.heap.size zeroStu (.slice none 0 0) V3) := HA2.out.keep hb
        have HE3 : Hid (EBox V1.heap.size zeroE V3) := HE2.out.keep hb
        clear hb
        go_simp
        refine hK.out _ _ (HSA.out _ k3) (fun hS => ?_)
        clear hK K
        refine wpAnyH_ready (rs := [2]) (by kernel_rfl) (by simp) ?_
        refine AllReadyH.cons rfl (fun K hK => ?_) (AllReadyH.nil)
        go_simp
        refine (HCN.out V3 k3).mono ?_
        rintro y V4 ⟨ra, rc, rfl, hb⟩
        have k4 := k3.trans hb
        have HA4 : Hid (StuBox V0.heap.size zeroStu (.slice none 0 0) V4) := HA3.out.keep hb
        have HE4 : Hid (EBox V1.heap.size zeroE V4) := HE3.out.keep hb
        clear hb
        go_simp
        refine hK.out _ _ (HSA.out _ k4) (fun hS => ?_)
        clear hK K
        refine wpAnyH_take (i := 3) (v := .tuple #[.agg #[.int .i64 2, .int .i64 6, .slice ra 3 rc], .agg #[.int .i64 2, .int .i64 7, .int .i64 2, .int .i64 5, .int .i64 2, .int .i64 2, .int .i64 0, .int .i64 0, .int .i64 1], .int .i64 0]) rfl (by kernel_rfl) (by kernel_rfl) (by kernel_rfl) (fun _ _ _ h => h) (Or.inl ⟨by kernel_rfl, ?_⟩) hS ?_
        · intro w hS; go_simp
        refine wpAnyH_take (i := 4) (v := .agg #[.int .i64 2, .int .i64 6, .slice ra 3 rc]) rfl (by kernel_rfl) (by kernel_rfl) (by kernel_rfl) (fun _ _ _ h => h) (Or.inl ⟨by kernel_rfl, ?_⟩) hS ?_
        · intro w hS; go_simp
        refine wpAnyH_take (i := 5) (v := .agg #[.int .i64 2, .int .i64 7, .int .i64 2, .int .i64 5, .int .i64 2, .int .i64 2, .int .i64 0, .int .i64 0, .int .i64 1]) rfl (by kernel_rfl) (by kernel_rfl) (by kernel_rfl) (fun _ _ _ h => h) (Or.inl ⟨by kernel_rfl, ?_⟩) hS ?_
        · intro w hS; go_simp
        refine wpAnyH_take (i := 6) (v := .int .i64 0) rfl (by kernel_rfl) (by kernel_rfl) (by kernel_rfl) (fun _ _ _ h => h) (Or.inl ⟨by kernel_rfl, ?_⟩) hS ?_
        · intro w hS; go_simp
        refine wpAnyH_ready (rs := [9]) (by kernel_rfl) (by simp) ?_
        refine AllReadyH.cons rfl (fun K hK => ?_) (AllReadyH.nil)
        have z0 := HA4.out.c0
        have z1 := HA4.out.c1
        have z2 := HA4.out.c2
        have zf := HA4.out.fz
        have zl := HA4.out.lt
        go_simp
        have BP := HA4.out.put ⟨2, 6, [1, 2, 4]⟩ (.slice ra 3 rc)
        obtain ⟨WF, hWF⟩ : ∃ z, z = ((V4.setCell ⟨V0.heap.size, 0, none⟩ (.int .i64 2)).setCell ⟨V0.heap.size, 1, none⟩ (.int .i64 6)).setCell ⟨V0.heap.size, 2, none⟩ (.slice ra 3 rc) := ⟨_, rfl⟩
        rw [← hWF] at BP ⊢
        clear hWF z0 z1 z2 zf zl
        have HYF : Hid (EBox V1.heap.size zeroE WF) := HE4.out.other BP.2 (by have := hn01; omega)
        have KF : Keeps W1 WF := But.to k4 k0.size BP.2
        have HBP := (show Hid _ from BP)
        clear BP
        refine hK.out _ _ (HSA.out _ KF) (fun hS => ?_)
        clear hK K
        refine wpAnyH_ready (rs := [10]) (by kernel_rfl) (by simp) ?_
        refine AllReadyH.cons rfl (fun K hK => ?_) (AllReadyH.nil)
        have y0 := HYF.out.c0
        have y1 := HYF.out.c1
        have y2 := HYF.out.c2
        have y3 := HYF.out.c3
        have y4 := HYF.out.c4
        have y5 := HYF.out.c5
        have y6 := HYF.out.c6
        have y7 := HYF.out.c7
        have y8 := HYF.out.c8
        have yf := HYF.out.fz
        have yl := HYF.out.lt
        go_simp
        have BQ := HYF.out.put ⟨2, 7, 2, 5, 2, 2, 0, 0, 1⟩
        obtain ⟨WG, hWG⟩ : ∃ z, z = (((((((((WF.setCell ⟨V1.heap.size, 0, none⟩ (.int .i64 2)).setCell ⟨V1.heap.size, 1, none⟩ (.int .i64 7)).setCell ⟨V1.heap.size, 2, none⟩ (.int .i64 2)).setCell ⟨V1.heap.size, 3, none⟩ (.int .i64 5)).setCell ⟨V1.heap.size, 4, none⟩ (.int .i64 2)).setCell ⟨V1.heap.size, 5, none⟩ (.int .i64 2)).setCell ⟨V1.heap.size, 6, none⟩ (.int .i64 0)).setCell ⟨V1.heap.size, 7, none⟩ (.int .i64 0)).setCell ⟨V1.heap.size, 8, none⟩ (.int .i64 1)) := ⟨_, rfl⟩
        simp only [] at BQ
        rw [← hWG] at BQ ⊢
        clear hWG y0 y1 y2 y3 y4 y5 y6 y7 y8 yf yl
        have KG : Keeps W1 WG := But.to KF k1.size BQ.2
        have HG := HBP.out.1.other BQ.2 (by have := hn01; omega)
        refine hK.out _ _ (HSA.out _ KG) (fun hS => ?_)
        clear hK K
        refine wpAnyH_take (i := 11) (v := .int .i64 0) rfl (by kernel_rfl) (by kernel_rfl) (by kernel_rfl) (fun _ _ _ h => h) (Or.inl ⟨by kernel_rfl, ?_⟩) hS ?_
        · intro w hS; go_simp
        refine wpAnyH_done (by kernel_rfl) ?_ _
        go_wp2_with fail
        go_meet
        exact ⟨_, _, rfl, rfl, rfl, HG.c1, BQ.1, KG⟩
    · go_simp
      have hb : Keeps V0 (V0.alloc (.cells #[.int .i64 0, .int .i64 0, .int .i64 0, .int .i64 0, .int .i64 0, .int .i64 0, .int .i64 0, .int .i64 0, .int .i64 0] 28)) := (Keeps.refl _).alloc _
      have HE1 : Hid (EBox V0.heap.size zeroE (V0.alloc (.cells #[.int .i64 0, .int .i64 0, .int .i64 0, .int .i64 0, .int .i64 0, .int .i64 0, .int .i64 0, .int .i64 0, .int .i64 0] 28))) := EBox.new V0 zeroE 28
      generalize V0.alloc (.cells #[.int .i64 0, .int .i64 0, .int .i64 0, .int .i64 0, .int .i64 0, .int .i64 0, .int .i64 0, .int .i64 0, .int .i64 0] 28) = V1 at *
      have k1 := k0.trans hb
      clear hb
      refine hK.out _ _ (HSA.out _ k1) (fun hS => ?_)
      clear hK K
      refine wpAnyH_ready (rs := [1, 7]) (by kernel_rfl) (by simp) ?_
      refine AllReadyH.cons rfl (fun K hK => ?_) (AllReadyH.cons rfl (fun K hK => ?_) (AllReadyH.nil))
      · go_simp
        refine (mk_add 1 V1).mono ?_
        rintro y V2 ⟨rfl, hb⟩
        have k2 := k1.trans hb
        have HE2 : Hid (EBox V0.heap.size zeroE V2) := HE1.out.keep hb
        clear hb
        go_simp
        refine hK.out _ _ (HSA.out _ k2) (fun hS => ?_)
        clear hK K
        refine wpAnyH_ready (rs := [2, 7]) (by kernel_rfl) (by simp) ?_
        refine AllReadyH.cons rfl (fun K hK => ?_) (AllReadyH.cons rfl (fun K hK => ?_) (AllReadyH.nil))
        · go_simp
          refine (HCN.out V2 k2).mono ?_
          rintro y V3 ⟨ra, rc, rfl, hb⟩
          have k3 := k2.trans hb
          have HE3 : Hid (EBox V0.heap.size zeroE V3) := HE2.out.keep hb
          clear hb
          go_simp
          refine hK.out _ _ (HSA.out _ k3) (fun hS => ?_)
          clear hK K
          refine wpAnyH_take (i := 3) (v := .tuple #[.agg #[.int .i64 2, .int .i64 6, .slice ra 3 rc], .agg #[.int .i64 2, .int .i64 7, .int .i64 2, .int .i64 5, .int .i64 2, .int .i64 2, .int .i64 0, .int .i64 0, .int .i64 1], .int .i64 0]) rfl (by kernel_rfl) (by kernel_rfl) (by kernel_rfl) (fun _ _ _ h => h) (Or.inl ⟨by kernel_rfl, ?_⟩) hS ?_
          · intro w hS; go_simp
          refine wpAnyH_take (i := 4) (v := .agg #[.int .i64 2, .int .i64 6, .slice ra 3 rc]) rfl (by kernel_rfl) (by kernel_rfl) (by kernel_rfl) (fun _ _ _ h => h) (Or.inl ⟨by kernel_rfl, ?_⟩) hS ?_
          · intro w hS; go_simp
          refine wpAnyH_take (i := 5) (v := .agg #[.int .i64 2, .int .i64 7, .int .i64 2, .int .i64 5, .int .i64 2, .int .i64 2, .int .i64 0, .int .i64 0, .int .i64 1]) rfl (by kernel_rfl) (by kernel_rfl) (by kernel_rfl) (fun _ _ _ h => h) (Or.inl ⟨by kernel_rfl, ?_⟩) hS ?_
          · intro w hS; go_simp
          refine wpAnyH_take (i := 6) (v := .int .i64 0) rfl (by kernel_rfl) (by kernel_rfl) (by kernel_rfl) (fun _ _ _ h => h) (Or.inl ⟨by kernel_rfl, ?_⟩) hS ?_
          · intro w hS; go_simp
          refine wpAnyH_ready (rs := [7]) (by kernel_rfl) (by simp) ?_
          refine AllReadyH.cons rfl (fun K hK => ?_) (AllReadyH.nil)
          go_simp
          have hb : Keeps V3 (V3.alloc (.cells #[.int .i64 0, .int .i64 0, .slice none 0 0] 24)) := (Keeps.refl _).alloc _
          have HA4 : Hid (StuBox V3.heap.size zeroStu (.slice none 0 0) (V3.alloc (.cells #[.int .i64 0, .int .i64 0, .slice none 0 0] 24))) := StuBox.new V3 zeroStu (.slice none 0 0) rfl 24
          have HE4 : Hid (EBox V0.heap.size zeroE (V3.alloc (.cells #[.int .i64 0, .int .i64 0, .slice none 0 0] 24))) := HE3.out.keep hb
          have hn01 : V0.heap.size < V3.heap.size := HE3.out.lt
          generalize V3.alloc (.cells #[.int .i64 0, .int .i64 0, .slice none 0 0] 24) = V4 at *
          have k4 := k3.trans hb
          clear hb
          refine hK.out _ _ (HSA.out _ k4) (fun hS => ?_)
          clear hK K
          refine wpAnyH_ready (rs := [9]) (by kernel_rfl) (by simp) ?_
          refine AllReadyH.cons rfl (fun K hK => ?_) (AllReadyH.nil)
          have z0 := HA4.out.c0
          have z1 := HA4.out.c1
          have z2 := HA4.out.c2
          have zf := HA4.out.fz
          have zl := HA4.out.lt
          go_simp
          have BP := HA4.out.put ⟨2, 6, [1, 2, 4]⟩ (.slice ra 3 rc)
          obtain ⟨WF, hWF⟩ : ∃ z, z = ((V4.setCell ⟨V3.heap.size, 0, none⟩ (.int .i64 2)).setCell ⟨V3.heap.size, 1, none⟩ (.int .i64 6)).setCell ⟨V3.heap.size, 2, none⟩ (.slice ra 3 rc) := ⟨_, rfl⟩
          rw [← hWF] at BP ⊢
          clear hWF z0 z1 z2 zf zl
          have HYF : Hid (EBox V0.heap.size zeroE WF) := HE4.out.other BP.2 (by have := hn01; omega)
          have KF : Keeps W1 WF := But.to k4 k3.size BP.2
          have HBP := (show Hid _ from BP)
          clear BP
          refine hK.out _ _ (HSA.out _ KF) (fun hS => ?_)
          clear hK K
          refine wpAnyH_ready (rs := [10]) (by kernel_rfl) (by simp) ?_
          refine AllReadyH.cons rfl (fun K hK => ?_) (AllReadyH.nil)
          have y0 := HYF.out.c0
          have y1 := HYF.out.c1
          have y2 := HYF.out.c2
          have y3 := HYF.out.c3
          have y4 := HYF.out.c4
          have y5 := HYF.out.c5
          have y6 := HYF.out.c6
          have y7 := HYF.out.c7
          have y8 := HYF.out.c8
          have yf := HYF.out.fz
          have yl := HYF.out.lt
          go_simp
          have BQ := HYF.out.put ⟨2, 7, 2, 5, 2, 2, 0, 0, 1⟩
          obtain ⟨WG, hWG⟩ : ∃ z, z = (((((((((WF.setCell ⟨V0.heap.size, 0, none⟩ (.int .i64 2)).setCell ⟨V0.heap.size, 1, none⟩ (.int .i64 7)).setCell ⟨V0.heap.size, 2, none⟩ (.int .i64 2)).setCell ⟨V0.heap.size, 3, none⟩ (.int .i64 5)).setCell ⟨V0.heap.size, 4, none⟩ (.int .i64 2)).setCell ⟨V0.heap.size, 5, none⟩ (.int .i64 2)).setCell ⟨V0.heap.size, 6, none⟩ (.int .i64 0)).setCell ⟨V0.heap.size, 7, none⟩ (.int .i64 0)).setCell ⟨V0.heap.size, 8, none⟩ (.int .i64 1)) := ⟨_, rfl⟩
          simp only [] at BQ
          rw [← hWG] at BQ ⊢
          clear hWG y0 y1 y2 y3 y4 y5 y6 y7 y8 yf yl
          have KG : Keeps W1 WG := But.to KF k0.size BQ.2
          have HG := HBP.out.1.other BQ.2 (by have := hn01; omega)
          refine hK.out _ _ (HSA.out _ KG) (fun hS => ?_)
          clear hK K
          refine wpAnyH_take (i := 11) (v := .int .i64 0) rfl (by kernel_rfl) (by kernel_rfl) (by kernel_rfl) (fun _ _ _ h => h) (Or.inl ⟨by kernel_rfl, ?_⟩) hS ?_
          · intro w hS; go_simp
          refine wpAnyH_done (by kernel_rfl) ?_ _
          go_wp2_with fail
          go_meet
          exact ⟨_, _, rfl, rfl, rfl, HG.c1, BQ.1, KG⟩
        · go_simp
          have hb : Keeps V2 (V2.alloc (.cells #[.int .i64 0, .int .i64 0, .slice none 0 0] 24)) := (Keeps.refl _).alloc _
          have HA3 : Hid (StuBox V2.heap.size zeroStu (.slice none 0 0) (V2.alloc (.cells #[.int .i64 0, .int .i64 0, .slice none 0 0] 24))) := StuBox.new V2 zeroStu (.slice none 0 0) rfl 24
          have HE3 : Hid (EBox V0.heap.size zeroE (V2.alloc (.cells #[.int .i64 0, .int .i64 0, .slice none 0 0] 24))) := HE2.out.keep hb
          have hn01 : V0.heap.size < V2.heap.size := HE2.out.lt
          generalize V2.alloc (.cells #[.int .i64 0, .int .i64 0, .slice none 0 0] 24) = V3 at *
          have k3 := k2.trans hb
          clear hb
          refine hK.out _ _ (HSA.out _ k3) (fun hS => ?_)
          clear hK K
          refine wpAnyH_ready (rs := [2]) (by kernel_rfl) (by simp) ?_
          refine AllReadyH.cons rfl (fun K hK => ?_) (AllReadyH.nil)
          go_simp
          refine (HCN.out V3 k3).mono ?_
          rintro y V4 ⟨ra, rc, rfl, hb⟩
          have k4 := k3.trans hb
          have HE4 : Hid (EBox V0.heap.size zeroE V4) := HE3.out.keep hb
          have HA4 : Hid (StuBox V2.heap.size zeroStu (.slice none 0 0) V4) := HA3.out.keep hb
          clear hb
          go_simp
          refine hK.out _ _ (HSA.out _ k4) (fun hS => ?_)
          clear hK K
          refine wpAnyH_take (i := 3) (v := .tuple #[.agg #[.int .i64 2, .int .i64 6, .slice ra 3 rc], .agg #[.int .i64 2, .int .i64 7, .int .i64 2, .int .i64 5, .int .i64 2, .int .i64 2, .int .i64 0, .int .i64 0, .int .i64 1], .int .i64 0]) rfl (by kernel_rfl) (by kernel_rfl) (by kernel_rfl) (fun _ _ _ h => h) (Or.inl ⟨by kernel_rfl, ?_⟩) hS ?_
          · intro w hS; go_simp
          refine wpAnyH_take (i := 4) (v := .agg #[.int .i64 2, .int .i64 6, .slice ra 3 rc]) rfl (by kernel_rfl) (by kernel_rfl) (by kernel_rfl) (fun _ _ _ h => h) (Or.inl ⟨by kernel_rfl, ?_⟩) hS ?_
          · intro w hS; go_simp
          refine wpAnyH_take (i := 5) (v := .agg #[.int .i64 2, .int .i64 7, .int .i64 2, .int .i64 5, .int .i64 2, .int .i64 2, .int .i64 0, .int .i64 0, .int .i64 1]) rfl (by kernel_rfl) (by kernel_rfl) (by kernel_rfl) (fun _ _ _ h => h) (Or.inl ⟨by kernel_rfl, ?_⟩) hS ?_
          · intro w hS; go_simp
          refine wpAnyH_take (i := 6) (v := .int .i64 0) rfl (by kernel_rfl) (by kernel_rfl) (by kernel_rfl) (fun _ _ _ h => h) (Or.inl ⟨by kernel_rfl, ?_⟩) hS ?_
          · intro w hS; go_simp
          refine wpAnyH_ready (rs := [9]) (by kernel_rfl) (by simp) ?_
          refine AllReadyH.cons rfl (fun K hK => ?_) (AllReadyH.nil)
          have z0 := HA4.out.c0
          have z1 := HA4.out.c1
          have z2 := HA4.out.c2
          have zf := HA4.out.fz
          have zl := HA4.out.lt
          go_simp
          have BP := HA4.out.put ⟨2, 6, [1, 2, 4]⟩ (.slice ra 3 rc)
          obtain ⟨WF, hWF⟩ : ∃ z, z = ((V4.setCell ⟨V2.heap.size, 0, none⟩ (.int .i64 2)).setCell ⟨V2.heap.size, 1, none⟩ (.int .i64 6)).setCell ⟨V2.heap.size, 2, none⟩ (.slice ra 3 rc) := ⟨_, rfl⟩
          rw [← hWF] at BP ⊢
          clear hWF z0 z1 z2 zf zl
          have HYF : Hid (EBox V0.heap.size zeroE WF) := HE4.out.other BP.2 (by have := hn01; omega)
          have KF : Keeps W1 WF := But.to k4 k2.size BP.2
          have HBP := (show Hid _ from BP)
          clear BP
          refine hK.out _ _ (HSA.out _ KF) (fun hS => ?_)
          clear hK K
          refine wpAnyH_ready (rs := [10]) (by kernel_rfl) (by simp) ?_
          refine AllReadyH.cons rfl (fun K hK => ?_) (AllReadyH.nil)
          have y0 := HYF.out.c0
          have y1 := HYF.out.c1
          have y2 := HYF.out.c2
          have y3 := HYF.out.c3
          have y4 := HYF.out.c4
          have y5 := HYF.out.c5
          have y6 := HYF.out.c6
          have y7 := HYF.out.c7
          have y8 := HYF.out.c8
          have yf := HYF.out.fz
          have yl := HYF.out.lt
          go_simp
          have BQ := HYF.out.put ⟨2, 7, 2, 5, 2, 2, 0, 0, 1⟩
          obtain ⟨WG, hWG⟩ : ∃ z, z = (((((((((WF.setCell ⟨V0.heap.size, 0, none⟩ (.int .i64 2)).setCell ⟨V0.heap.size, 1, none⟩ (.int .i64 7)).setCell ⟨V0.heap.size, 2, none⟩ (.int .i64 2)).setCell ⟨V0.heap.size, 3, none⟩ (.int .i64 5)).setCell ⟨V0.heap.size, 4, none⟩ (.int .i64 2)).setCell ⟨V0.heap.size, 5, none⟩ (.int .i64 2)).setCell ⟨V0.heap.size, 6, none⟩ (.int .i64 0)).setCell ⟨V0.heap.size, 7, none⟩ (.int .i64 0)).setCell ⟨V0.heap.size, 8, none⟩ (.int .i64 1)) := ⟨_, rfl⟩
          simp only [] at BQ
          rw [← hWG] at BQ ⊢
          clear hWG y0 y1 y2 y3 y4 y5 y6 y7 y8 yf yl
          have KG : Keeps W1 WG := But.to KF k0.size BQ.2
          have HG := HBP.out.1.other BQ.2 (by have := hn01; omega)
          refine hK.out _ _ (HSA.out _ KG) (fun hS => ?_)
          clear hK K
          refine wpAnyH_take (i := 11) (v := .int .i64 0) rfl (by kernel_rfl) (by kernel_rfl) (by kernel_rfl) (fun _ _ _ h => h) (Or.inl ⟨by kernel_rfl, ?_⟩) hS ?_
          · intro w hS; go_simp
          refine wpAnyH_done (by kernel_rfl) ?_ _
          go_wp2_with fail
          go_meet
          exact ⟨_, _, rfl, rfl, rfl, HG.c1, BQ.1, KG⟩
      · go_simp
        have hb : Keeps V1 (V1.alloc (.cells #[.int .i64 0, .int .i64 0, .slice none 0 0] 24)) := (Keeps.refl _).alloc _
        have HA2 : Hid (StuBox V1.heap.size zeroStu (.slice none 0 0) (V1.alloc (.cells #[.int .i64 0, .int .i64 0, .slice none 0 0] 24))) := StuBox.new V1 zeroStu (.slice none 0 0) rfl 24
        have HE2 : Hid (EBox V0.heap.size zeroE (V1.alloc (.cells #[.int .i64 0, .int .i64 0, .slice none 0 0] 24))) := HE1.out.keep hb
        have hn01 : V0.heap.size < V1.heap.size := HE1.out.lt
        generalize V1.alloc (.cells #[.int .i64 0, .int .i64 0, .slice none 0 0] 24) = V2 at *
        have k2 := k1.trans hb
        clear hb
        refine hK.out _ _ (HSA.out _ k2) (fun hS => ?_)
        clear hK K
        refine wpAnyH_ready (rs := [1]) (by kernel_rfl) (by simp) ?_
        refine AllReadyH.cons rfl (fun K hK => ?_) (AllReadyH.nil)
        go_simp
        refine (mk_add 1 V2).mono ?_
        rintro y V3 ⟨rfl, hb⟩
        have k3 := k2.trans hb
        have HE3 : Hid (EBox V0.heap.size zeroE V3) := HE2.out.keep hb
        have HA3 : Hid (StuBox V1.heap.size zeroStu (.slice none 0 0) V3) := HA2.out.keep hb
        clear hb
        go_simp
        refine hK.out _ _ (HSA.out _ k3) (fun hS => ?_)
        clear hK K
        refine wpAnyH_ready (rs := [2]) (by kernel_rfl) (by simp) ?_
        refine AllReadyH.cons rfl (fun K hK => ?_) (AllReadyH.nil)
        go_simp
        refine (HCN.out V3 k3).mono ?_
        rintro y V4 ⟨ra, rc, rfl, hb⟩
        have k4 := k3.trans hb
        have HE4 : Hid (EBox V0.heap.size zeroE V4) := HE3.out.keep hb
        have HA4 : Hid (StuBox V1.heap.size zeroStu (.slice none 0 0) V4) := HA3.out.keep hb
        clear hb
        go_simp
        refine hK.out _ _ (HSA.out _ k4) (fun hS => ?_)
        clear hK K
        refine wpAnyH_take (i := 3) (v := .tuple #[.agg #[.int .i64 2, .int .i64 6, .slice ra 3 rc], .agg #[.int .i64 2, .int .i64 7, .int .i64 2, .int .i64 5, .int .i64 2, .int .i64 2, .int .i64 0, .int .i64 0, .int .i64 1], .int .i64 0]) rfl (by kernel_rfl) (by kernel_rfl) (by kernel_rfl) (fun _ _ _ h => h) (Or.inl ⟨by kernel_rfl, ?_⟩) hS ?_
        · intro w hS; go_simp
        refine wpAnyH_take (i := 4) (v := .agg #[.int .i64 2, .int .i64 6, .slice ra 3 rc]) rfl (by kernel_rfl) (by kernel_rfl) (by kernel_rfl) (fun _ _ _ h => h) (Or.inl ⟨by kernel_rfl, ?_⟩) hS ?_
        · intro w hS; go_simp
        refine wpAnyH_take (i := 5) (v := .agg #[.int .i64 2, .int .i64 7, .int .i64 2, .int .i64 5, .int .i64 2, .int .i64 2, .int .i64 0, .int .i64 0, .int .i64 1]) rfl (by kernel_rfl) (by kernel_rfl) (by kernel_rfl) (fun _ _ _ h => h) (Or.inl ⟨by kernel_rfl, ?_⟩) hS ?_
        · intro w hS; go_simp
        refine wpAnyH_take (i := 6) (v := .int .i64 0) rfl (by kernel_rfl) (by kernel_rfl) (by kernel_rfl) (fun _ _ _ h => h) (Or.inl ⟨by kernel_rfl, ?_⟩) hS ?_
        · intro w hS; go_simp
        refine wpAnyH_ready (rs := [9]) (by kernel_rfl) (by simp) ?_
        refine AllReadyH.cons rfl (fun K hK => ?_) (AllReadyH.nil)
        have z0 := HA4.out.c0
        have z1 := HA4.out.c1
        have z2 := HA4.out.c2
        have zf := HA4.out.fz
        have zl := HA4.out.lt
        go_simp
        have BP := HA4.out.put ⟨2, 6, [1, 2, 4]⟩ (.slice ra 3 rc)
        obtain ⟨WF, hWF⟩ : ∃ z, z = ((V4.setCell ⟨V1.heap.size, 0, none⟩ (.int .i64 2)).setCell ⟨V1.heap.size, 1, none⟩ (.int .i64 6)).setCell ⟨V1.heap.size, 2, none⟩ (.slice ra 3 rc) := ⟨_, rfl⟩
        rw [← hWF] at BP ⊢
        clear hWF z0 z1 z2 zf zl
        have HYF : Hid (EBox V0.heap.size zeroE WF) := HE4.out.other BP.2 (by have := hn01; omega)
        have KF : Keeps W1 WF := But.to k4 k1.size BP.2
        have HBP := (show Hid _ from BP)
        clear BP
        refine hK.out _ _ (HSA.out _ KF) (fun hS => ?_)
        clear hK K
        refine wpAnyH_ready (rs := [10]) (by kernel_rfl) (by simp) ?_
        refine AllReadyH.cons rfl (fun K hK => ?_) (AllReadyH.nil)
        have y0 := HYF.out.c0
        have y1 := HYF.out.c1
        have y2 := HYF.out.c2
        have y3 := HYF.out.c3
        have y4 := HYF.out.c4
        have y5 := HYF.out.c5
        have y6 := HYF.out.c6
        have y7 := HYF.out.c7
        have y8 := HYF.out.c8
        have yf := HYF.out.fz
        have yl := HYF.out.lt
        go_simp
        have BQ := HYF.out.put ⟨2, 7, 2, 5, 2, 2, 0, 0, 1⟩
        obtain ⟨WG, hWG⟩ : ∃ z, z = (((((((((WF.setCell ⟨V0.heap.size, 0, none⟩ (.int .i64 2)).setCell ⟨V0.heap.size, 1, none⟩ (.int .i64 7)).setCell ⟨V0.heap.size, 2, none⟩ (.int .i64 2)).setCell ⟨V0.heap.size, 3, none⟩ (.int .i64 5)).setCell ⟨V0.heap.size, 4, none⟩ (.int .i64 2)).setCell ⟨V0.heap.size, 5, none⟩ (.int .i64 2)).setCell ⟨V0.heap.size, 6, none⟩ (.int .i64 0)).setCell ⟨V0.heap.size, 7, none⟩ (.int .i64 0)).setCell ⟨V0.heap.size, 8, none⟩ (.int .i64 1)) := ⟨_, rfl⟩
        simp only [] at BQ
        rw [← hWG] at BQ ⊢
        clear hWG y0 y1 y2 y3 y4 y5 y6 y7 y8 yf yl
        have KG : Keeps W1 WG := But.to KF k0.size BQ.2
        have HG := HBP.out.1.other BQ.2 (by have := hn01; omega)
        refine hK.out _ _ (HSA.out _ KG) (fun hS => ?_)
        clear hK K
        refine wpAnyH_take (i := 11) (v := .int .i64 0) rfl (by kernel_rfl) (by kernel_rfl) (by kernel_rfl) (fun _ _ _ h => h) (Or.inl ⟨by kernel_rfl, ?_⟩) hS ?_
        · intro w hS; go_simp
        refine wpAnyH_done (by kernel_rfl) ?_ _
        go_wp2_with fail
        go_meet
        exact ⟨_, _, rfl, rfl, rfl, HG.c1, BQ.1, KG⟩
  case rest =>
    obtain ⟨ab, eb, rfl, rfl, rfl, ha, hE, hk⟩ := hcut
    obtain ⟨w2, hw2⟩ : ∃ z, z = wc := ⟨_, rfl⟩
    rw [← hw2] at ha hE hk ⊢
    clear hw2
    have HA2 : Hid (w2.cell? ⟨ab, 1, none⟩ = some (.int .i64 6)) := ha
    have HE2 : Hid (EBox eb ⟨2, 7, 2, 5, 2, 2, 0, 0, 1⟩ w2) := hE
    have HK2 : Hid (Keeps W1 w2) := hk
    have HSA : Hid (∀ W, Keeps w2 W → W.cell? ⟨sb, 0, none⟩ = some (.int .i64 2) ∧ W.cell? ⟨sb, 1, none⟩ = some (.int .i64 5) ∧ W.cell? ⟨sb, 2, none⟩ = some (.slice (some ⟨w.heap.size, 0, none⟩) 3 3)) := fun W hk => HS1.out W (HK2.out.trans hk)
    have HCA : Hid (∀ W, Keeps w2 W → Calls Try.prog 12 #[stuV ⟨2, 5, [1, 2, 4]⟩ (.slice (some ⟨w.heap.size, 0, none⟩) 3 3), .int .i64 7, .int .i64 3, opV 2 0 0 1] W fun e w' => e = .returned (.tuple #[.agg #[.int .i64 2, .int .i64 7, .int .i64 2, .int .i64 3, .int .i64 2, .int .i64 2, .int .i64 0, .int .i64 0, .int .i64 1], .int .i64 0]) ∧ Keeps W w') := fun W hk => HCA0.out W (HK2.out.trans hk)
    clear ha hE hk HCN HCA0
    go_wp2_with fail
    go_cut [5, 6] (fun p r wc => ∃ fb, p = .pointer (some ⟨fb, 0, none⟩) ∧ r = .int .i64 0 ∧ EBox fb ⟨2, 7, 2, 3, 2, 2, 0, 0, 1⟩ wc ∧ Keeps w2 wc)
    case first =>
      obtain ⟨V0, hV0⟩ : ∃ z, z = w2.drew := ⟨_, rfl⟩
      have k0 : Keeps w2 V0 := by rw [hV0]; exact (Keeps.refl _).drew
      refine wp_region_held_drew (S := fun W => W.cell? ⟨sb, 0, none⟩ = some (.int .i64 2) ∧ W.cell? ⟨sb, 1, none⟩ = some (.int .i64 5) ∧ W.cell? ⟨sb, 2, none⟩ = some (.slice (some ⟨w.heap.size, 0, none⟩) 3 3)) (by kernel_rfl) (HSA.out _ (Keeps.refl _).drew) (fun hS => ?_)
      rw [← hV0] at hS ⊢
      clear hV0
      refine wpAnyH_take (i := 0) (v := stuV ⟨2, 5, [1, 2, 4]⟩ (.slice (some ⟨w.heap.size, 0, none⟩) 3 3)) rfl (by kernel_rfl) (by kernel_rfl) (by kernel_rfl) (fun _ _ _ h => h) (Or.inl ⟨by kernel_rfl, ?_⟩) hS ?_
      · intro w hS; go_simp
      refine wpAnyH_ready (rs := [1, 6]) (by kernel_rfl) (by simp) ?_
      refine AllReadyH.cons rfl (fun K hK => ?_) (AllReadyH.cons rfl (fun K hK => ?_) (AllReadyH.nil))
      · go_simp
        refine (mk_add 1 V0).mono ?_
        rintro y V1 ⟨rfl, hb⟩
        have k1 := k0.trans hb
        clear hb
        go_simp
        refine hK.out _ _ (HSA.out _ k1) (fun hS => ?_)
        clear hK K
        refine wpAnyH_ready (rs := [2, 6]) (by kernel_rfl) (by simp) ?_
        refine AllReadyH.cons rfl (fun K hK => ?_) (AllReadyH.cons rfl (fun K hK => ?_) (AllReadyH.nil))
        · go_simp
          refine (HCA.out V1 k1).mono ?_
          rintro y V2 ⟨rfl, hb⟩
          have k2 := k1.trans hb
          clear hb
          go_simp
          refine hK.out _ _ (HSA.out _ k2) (fun hS => ?_)
          clear hK K
          refine wpAnyH_take (i := 3) (v := .tuple #[.agg #[.int .i64 2, .int .i64 7, .int .i64 2, .int .i64 3, .int .i64 2, .int .i64 2, .int .i64 0, .int .i64 0, .int .i64 1], .int .i64 0]) rfl (by kernel_rfl) (by kernel_rfl) (by kernel_rfl) (fun _ _ _ h => h) (Or.inl ⟨by kernel_rfl, ?_⟩) hS ?_
          · intro w hS; go_simp
          refine wpAnyH_take (i := 4) (v := .agg #[.int .i64 2, .int .i64 7, .int .i64 2, .int .i64 3, .int .i64 2, .int .i64 2, .int .i64 0, .int .i64 0, .int .i64 1]) rfl (by kernel_rfl) (by kernel_rfl) (by kernel_rfl) (fun _ _ _ h => h) (Or.inl ⟨by kernel_rfl, ?_⟩) hS ?_
          · intro w hS; go_simp
          refine wpAnyH_take (i := 5) (v := .int .i64 0) rfl (by kernel_rfl) (by kernel_rfl) (by kernel_rfl) (fun _ _ _ h => h) (Or.inl ⟨by kernel_rfl, ?_⟩) hS ?_
          · intro w hS; go_simp
          refine wpAnyH_ready (rs := [6]) (by kernel_rfl) (by simp) ?_
          refine AllReadyH.cons rfl (fun K hK => ?_) (AllReadyH.nil)
          go_simp
          have hb : Keeps V2 (V2.alloc (.cells #[.int .i64 0, .int .i64 0, .int .i64 0, .int .i64 0, .int .i64 0, .int .i64 0, .int .i64 0, .int .i64 0, .int .i64 0] 28)) := (Keeps.refl _).alloc _
          have HE3 : Hid (EBox V2.heap.size zeroE (V2.alloc (.cells #[.int .i64 0, .int .i64 0, .int .i64 0, .int .i64 0, .int .i64 0, .int .i64 0, .int .i64 0, .int .i64 0, .int .i64 0] 28))) := EBox.new V2 zeroE 28
          generalize V2.alloc (.cells #[.int .i64 0, .int .i64 0, .int .i64 0, .int .i64 0, .int .i64 0, .int .i64 0, .int .i64 0, .int .i64 0, .int .i64 0] 28) = V3 at *
          have k3 := k2.trans hb
          clear hb
          refine hK.out _ _ (HSA.out _ k3) (fun hS => ?_)
          clear hK K
          refine wpAnyH_ready (rs := [7]) (by kernel_rfl) (by simp) ?_
          refine AllReadyH.cons rfl (fun K hK => ?_) (AllReadyH.nil)
          have y0 := HE3.out.c0
          have y1 := HE3.out.c1
          have y2 := HE3.out.c2
          have y3 := HE3.out.c3
          have y4 := HE3.out.c4
          have y5 := HE3.out.c5
          have y6 := HE3.out.c6
          have y7 := HE3.out.c7
          have y8 := HE3.out.c8
          have yf := HE3.out.fz
          have yl := HE3.out.lt
          go_simp
          have BQ := HE3.out.put ⟨2, 7, 2, 3, 2, 2, 0, 0, 1⟩
          obtain ⟨WG, hWG⟩ : ∃ z, z = (((((((((V3.setCell ⟨V2.heap.size, 0, none⟩ (.int .i64 2)).setCell ⟨V2.heap.size, 1, none⟩ (.int .i64 7)).setCell ⟨V2.heap.size, 2, none⟩ (.int .i64 2)).setCell ⟨V2.heap.size, 3, none⟩ (.int .i64 3)).setCell ⟨V2.heap.size, 4, none⟩ (.int .i64 2)).setCell ⟨V2.heap.size, 5, none⟩ (.int .i64 2)).setCell ⟨V2.heap.size, 6, none⟩ (.int .i64 0)).setCell ⟨V2.heap.size, 7, none⟩ (.int .i64 0)).setCell ⟨V2.heap.size, 8, none⟩ (.int .i64 1)) := ⟨_, rfl⟩
          simp only [] at BQ
          rw [← hWG] at BQ ⊢
          clear hWG y0 y1 y2 y3 y4 y5 y6 y7 y8 yf yl
          have KG : Keeps w2 WG := But.to k3 k2.size BQ.2
          refine hK.out _ _ (HSA.out _ KG) (fun hS => ?_)
          clear hK K
          refine wpAnyH_take (i := 8) (v := .int .i64 0) rfl (by kernel_rfl) (by kernel_rfl) (by kernel_rfl) (fun _ _ _ h => h) (Or.inl ⟨by kernel_rfl, ?_⟩) hS ?_
          · intro w hS; go_simp
          refine wpAnyH_done (by kernel_rfl) ?_ _
          go_wp2_with fail
          go_meet
          exact ⟨_, rfl, rfl, BQ.1, KG⟩
        · go_simp
          have hb : Keeps V1 (V1.alloc (.cells #[.int .i64 0, .int .i64 0, .int .i64 0, .int .i64 0, .int .i64 0, .int .i64 0, .int .i64 0, .int .i64 0, .int .i64 0] 28)) := (Keeps.refl _).alloc _
          have HE2 : Hid (EBox V1.heap.size zeroE (V1.alloc (.cells #[.int .i64 0, .int .i64 0, .int .i64 0, .int .i64 0, .int .i64 0, .int .i64 0, .int .i64 0, .int .i64 0, .int .i64 0] 28))) := EBox.new V1 zeroE 28
          generalize V1.alloc (.cells #[.int .i64 0, .int .i64 0, .int .i64 0, .int .i64 0, .int .i64 0, .int .i64 0, .int .i64 0, .int .i64 0, .int .i64 0] 28) = V2 at *
          have k2 := k1.trans hb
          clear hb
          refine hK.out _ _ (HSA.out _ k2) (fun hS => ?_)
          clear hK K
          refine wpAnyH_ready (rs := [2]) (by kernel_rfl) (by simp) ?_
          refine AllReadyH.cons rfl (fun K hK => ?_) (AllReadyH.nil)
          go_simp
          refine (HCA.out V2 k2).mono ?_
          rintro y V3 ⟨rfl, hb⟩
          have k3 := k2.trans hb
          have HE3 : Hid (EBox V1.heap.size zeroE V3) := HE2.out.keep hb
          clear hb
          go_simp
          refine hK.out _ _ (HSA.out _ k3) (fun hS => ?_)
          clear hK K
          refine wpAnyH_take (i := 3) (v := .tuple #[.agg #[.int .i64 2, .int .i64 7, .int .i64 2, .int .i64 3, .int .i64 2, .int .i64 2, .int .i64 0, .int .i64 0, .int .i64 1], .int .i64 0]) rfl (by kernel_rfl) (by kernel_rfl) (by kernel_rfl) (fun _ _ _ h => h) (Or.inl ⟨by kernel_rfl, ?_⟩) hS ?_
          · intro w hS; go_simp
          refine wpAnyH_take (i := 4) (v := .agg #[.int .i64 2, .int .i64 7, .int .i64 2, .int .i64 3, .int .i64 2, .int .i64 2, .int .i64 0, .int .i64 0, .int .i64 1]) rfl (by kernel_rfl) (by kernel_rfl) (by kernel_rfl) (fun _ _ _ h => h) (Or.inl ⟨by kernel_rfl, ?_⟩) hS ?_
          · intro w hS; go_simp
          refine wpAnyH_take (i := 5) (v := .int .i64 0) rfl (by kernel_rfl) (by kernel_rfl) (by kernel_rfl) (fun _ _ _ h => h) (Or.inl ⟨by kernel_rfl, ?_⟩) hS ?_
          · intro w hS; go_simp
          refine wpAnyH_ready (rs := [7]) (by kernel_rfl) (by simp) ?_
          refine AllReadyH.cons rfl (fun K hK => ?_) (AllReadyH.nil)
          have y0 := HE3.out.c0
          have y1 := HE3.out.c1
          have y2 := HE3.out.c2
          have y3 := HE3.out.c3
          have y4 := HE3.out.c4
          have y5 := HE3.out.c5
          have y6 := HE3.out.c6
          have y7 := HE3.out.c7
          have y8 := HE3.out.c8
          have yf := HE3.out.fz
          have yl := HE3.out.lt
          go_simp
          have BQ := HE3.out.put ⟨2, 7, 2, 3, 2, 2, 0, 0, 1⟩
          obtain ⟨WG, hWG⟩ : ∃ z, z = (((((((((V3.setCell ⟨V1.heap.size, 0, none⟩ (.int .i64 2)).setCell ⟨V1.heap.size, 1, none⟩ (.int .i64 7)).setCell ⟨V1.heap.size, 2, none⟩ (.int .i64 2)).setCell ⟨V1.heap.size, 3, none⟩ (.int .i64 3)).setCell ⟨V1.heap.size, 4, none⟩ (.int .i64 2)).setCell ⟨V1.heap.size, 5, none⟩ (.int .i64 2)).setCell ⟨V1.heap.size, 6, none⟩ (.int .i64 0)).setCell ⟨V1.heap.size, 7, none⟩ (.int .i64 0)).setCell ⟨V1.heap.size, 8, none⟩ (.int .i64 1)) := ⟨_, rfl⟩
          simp only [] at BQ
          rw [← hWG] at BQ ⊢
          clear hWG y0 y1 y2 y3 y4 y5 y6 y7 y8 yf yl
          have KG : Keeps w2 WG := But.to k3 k1.size BQ.2
          refine hK.out _ _ (HSA.out _ KG) (fun hS => ?_)
          clear hK K
          refine wpAnyH_take (i := 8) (v := .int .i64 0) rfl (by kernel_rfl) (by kernel_rfl) (by kernel_rfl) (fun _ _ _ h => h) (Or.inl ⟨by kernel_rfl, ?_⟩) hS ?_
          · intro w hS; go_simp
          refine wpAnyH_done (by kernel_rfl) ?_ _
          go_wp2_with fail
          go_meet
          exact ⟨_, rfl, rfl, BQ.1, KG⟩
      · go_simp
        have hb : Keeps V0 (V0.alloc (.cells #[.int .i64 0, .int .i64 0, .int .i64 0, .int .i64 0, .int .i64 0, .int .i64 0, .int .i64 0, .int .i64 0, .int .i64 0] 28)) := (Keeps.refl _).alloc _
        have HE1 : Hid (EBox V0.heap.size zeroE (V0.alloc (.cells #[.int .i64 0, .int .i64 0, .int .i64 0, .int .i64 0, .int .i64 0, .int .i64 0, .int .i64 0, .int .i64 0, .int .i64 0] 28))) := EBox.new V0 zeroE 28
        generalize V0.alloc (.cells #[.int .i64 0, .int .i64 0, .int .i64 0, .int .i64 0, .int .i64 0, .int .i64 0, .int .i64 0, .int .i64 0, .int .i64 0] 28) = V1 at *
        have k1 := k0.trans hb
        clear hb
        refine hK.out _ _ (HSA.out _ k1) (fun hS => ?_)
        clear hK K
        refine wpAnyH_ready (rs := [1]) (by kernel_rfl) (by simp) ?_
        refine AllReadyH.cons rfl (fun K hK => ?_) (AllReadyH.nil)
        go_simp
        refine (mk_add 1 V1).mono ?_
        rintro y V2 ⟨rfl, hb⟩
        have k2 := k1.trans hb
        have HE2 : Hid (EBox V0.heap.size zeroE V2) := HE1.out.keep hb
        clear hb
        go_simp
        refine hK.out _ _ (HSA.out _ k2) (fun hS => ?_)
        clear hK K
        refine wpAnyH_ready (rs := [2]) (by kernel_rfl) (by simp) ?_
        refine AllReadyH.cons rfl (fun K hK => ?_) (AllReadyH.nil)
        go_simp
        refine (HCA.out V2 k2).mono ?_
        rintro y V3 ⟨rfl, hb⟩
        have k3 := k2.trans hb
        have HE3 : Hid (EBox V0.heap.size zeroE V3) := HE2.out.keep hb
        clear hb
        go_simp
        refine hK.out _ _ (HSA.out _ k3) (fun hS => ?_)
        clear hK K
        refine wpAnyH_take (i := 3) (v := .tuple #[.agg #[.int .i64 2, .int .i64 7, .int .i64 2, .int .i64 3, .int .i64 2, .int .i64 2, .int .i64 0, .int .i64 0, .int .i64 1], .int .i64 0]) rfl (by kernel_rfl) (by kernel_rfl) (by kernel_rfl) (fun _ _ _ h => h) (Or.inl ⟨by kernel_rfl, ?_⟩) hS ?_
        · intro w hS; go_simp
        refine wpAnyH_take (i := 4) (v := .agg #[.int .i64 2, .int .i64 7, .int .i64 2, .int .i64 3, .int .i64 2, .int .i64 2, .int .i64 0, .int .i64 0, .int .i64 1]) rfl (by kernel_rfl) (by kernel_rfl) (by kernel_rfl) (fun _ _ _ h => h) (Or.inl ⟨by kernel_rfl, ?_⟩) hS ?_
        · intro w hS; go_simp
        refine wpAnyH_take (i := 5) (v := .int .i64 0) rfl (by kernel_rfl) (by kernel_rfl) (by kernel_rfl) (fun _ _ _ h => h) (Or.inl ⟨by kernel_rfl, ?_⟩) hS ?_
        · intro w hS; go_simp
        refine wpAnyH_ready (rs := [7]) (by kernel_rfl) (by simp) ?_
        refine AllReadyH.cons rfl (fun K hK => ?_) (AllReadyH.nil)
        have y0 := HE3.out.c0
        have y1 := HE3.out.c1
        have y2 := HE3.out.c2
        have y3 := HE3.out.c3
        have y4 := HE3.out.c4
        have y5 := HE3.out.c5
        have y6 := HE3.out.c6
        have y7 := HE3.out.c7
        have y8 := HE3.out.c8
        have yf := HE3.out.fz
        have yl := HE3.out.lt
        go_simp
        have BQ := HE3.out.put ⟨2, 7, 2, 3, 2, 2, 0, 0, 1⟩
        obtain ⟨WG, hWG⟩ : ∃ z, z = (((((((((V3.setCell ⟨V0.heap.size, 0, none⟩ (.int .i64 2)).setCell ⟨V0.heap.size, 1, none⟩ (.int .i64 7)).setCell ⟨V0.heap.size, 2, none⟩ (.int .i64 2)).setCell ⟨V0.heap.size, 3, none⟩ (.int .i64 3)).setCell ⟨V0.heap.size, 4, none⟩ (.int .i64 2)).setCell ⟨V0.heap.size, 5, none⟩ (.int .i64 2)).setCell ⟨V0.heap.size, 6, none⟩ (.int .i64 0)).setCell ⟨V0.heap.size, 7, none⟩ (.int .i64 0)).setCell ⟨V0.heap.size, 8, none⟩ (.int .i64 1)) := ⟨_, rfl⟩
        simp only [] at BQ
        rw [← hWG] at BQ ⊢
        clear hWG y0 y1 y2 y3 y4 y5 y6 y7 y8 yf yl
        have KG : Keeps w2 WG := But.to k3 k0.size BQ.2
        refine hK.out _ _ (HSA.out _ KG) (fun hS => ?_)
        clear hK K
        refine wpAnyH_take (i := 8) (v := .int .i64 0) rfl (by kernel_rfl) (by kernel_rfl) (by kernel_rfl) (fun _ _ _ h => h) (Or.inl ⟨by kernel_rfl, ?_⟩) hS ?_
        · intro w hS; go_simp
        refine wpAnyH_done (by kernel_rfl) ?_ _
        go_wp2_with fail
        go_meet
        exact ⟨_, rfl, rfl, BQ.1, KG⟩
    case rest =>
      obtain ⟨fb, rfl, rfl, hE, hk⟩ := hcut
      obtain ⟨w3, hw3⟩ : ∃ z, z = wc := ⟨_, rfl⟩
      rw [← hw3] at hE hk ⊢
      clear hw3
      have HF3 : Hid (EBox fb ⟨2, 7, 2, 3, 2, 2, 0, 0, 1⟩ w3) := hE
      have HK3 : Hid (Keeps w2 w3) := hk
      have HSA : Hid (∀ W, Keeps w3 W → W.cell? ⟨sb, 0, none⟩ = some (.int .i64 2) ∧ W.cell? ⟨sb, 1, none⟩ = some (.int .i64 5) ∧ W.cell? ⟨sb, 2, none⟩ = some (.slice (some ⟨w.heap.size, 0, none⟩) 3 3)) := fun W hk => HS1.out W ((HK2.out.trans HK3.out).trans hk)
      have HCB : Hid (∀ W, Keeps w3 W → Calls Try.prog 12 #[stuV ⟨2, 5, [1, 2, 4]⟩ (.slice (some ⟨w.heap.size, 0, none⟩) 3 3), .int .i64 7, .int .i64 4, opV 2 0 0 1] W fun e w' => e = .returned (.tuple #[.agg #[.int .i64 0, .int .i64 0, .int .i64 0, .int .i64 0, .int .i64 0, .int .i64 0, .int .i64 0, .int .i64 0, .int .i64 0], .int .i64 5]) ∧ Keeps W w') := fun W hk => HCB0.out W ((HK2.out.trans HK3.out).trans hk)
      clear hE hk HCA HCB0
      go_wp2_with fail
      go_cut [7, 8] (fun p r wc => ∃ gb, p = .pointer (some ⟨gb, 0, none⟩) ∧ r = .int .i64 5 ∧ EBox gb ⟨0, 0, 0, 0, 0, 0, 0, 0, 0⟩ wc ∧ Keeps w3 wc)
      case first =>
        obtain ⟨V0, hV0⟩ : ∃ z, z = w3.drew := ⟨_, rfl⟩
        have k0 : Keeps w3 V0 := by rw [hV0]; exact (Keeps.refl _).drew
        refine wp_region_held_drew (S := fun W => W.cell? ⟨sb, 0, none⟩ = some (.int .i64 2) ∧ W.cell? ⟨sb, 1, none⟩ = some (.int .i64 5) ∧ W.cell? ⟨sb, 2, none⟩ = some (.slice (some ⟨w.heap.size, 0, none⟩) 3 3)) (by kernel_rfl) (HSA.out _ (Keeps.refl _).drew) (fun hS => ?_)
        rw [← hV0] at hS ⊢
        clear hV0
        refine wpAnyH_take (i := 0) (v := stuV ⟨2, 5, [1, 2, 4]⟩ (.slice (some ⟨w.heap.size, 0, none⟩) 3 3)) rfl (by kernel_rfl) (by kernel_rfl) (by kernel_rfl) (fun _ _ _ h => h) (Or.inl ⟨by kernel_rfl, ?_⟩) hS ?_
        · intro w hS; go_simp
        refine wpAnyH_ready (rs := [1, 6]) (by kernel_rfl) (by simp) ?_
        refine AllReadyH.cons rfl (fun K hK => ?_) (AllReadyH.cons rfl (fun K hK => ?_) (AllReadyH.nil))
        · go_simp
          refine (mk_add 1 V0).mono ?_
          rintro y V1 ⟨rfl, hb⟩
          have k1 := k0.trans hb
          clear hb
          go_simp
          refine hK.out _ _ (HSA.out _ k1) (fun hS => ?_)
          clear hK K
          refine wpAnyH_ready (rs := [2, 6]) (by kernel_rfl) (by simp) ?_
          refine AllReadyH.cons rfl (fun K hK => ?_) (AllReadyH.cons rfl (fun K hK => ?_) (AllReadyH.nil))
          · go_simp
            refine (HCB.out V1 k1).mono ?_
            rintro y V2 ⟨rfl, hb⟩
            have k2 := k1.trans hb
            clear hb
            go_simp
            refine hK.out _ _ (HSA.out _ k2) (fun hS => ?_)
            clear hK K
            refine wpAnyH_take (i := 3) (v := .tuple #[.agg #[.int .i64 0, .int .i64 0, .int .i64 0, .int .i64 0, .int .i64 0, .int .i64 0, .int .i64 0, .int .i64 0, .int .i64 0], .int .i64 5]) rfl (by kernel_rfl) (by kernel_rfl) (by kernel_rfl) (fun _ _ _ h => h) (Or.inl ⟨by kernel_rfl, ?_⟩) hS ?_
            · intro w hS; go_simp
            refine wpAnyH_take (i := 4) (v := .agg #[.int .i64 0, .int .i64 0, .int .i64 0, .int .i64 0, .int .i64 0, .int .i64 0, .int .i64 0, .int .i64 0, .int .i64 0]) rfl (by kernel_rfl) (by kernel_rfl) (by kernel_rfl) (fun _ _ _ h => h) (Or.inl ⟨by kernel_rfl, ?_⟩) hS ?_
            · intro w hS; go_simp
            refine wpAnyH_take (i := 5) (v := .int .i64 5) rfl (by kernel_rfl) (by kernel_rfl) (by kernel_rfl) (fun _ _ _ h => h) (Or.inl ⟨by kernel_rfl, ?_⟩) hS ?_
            · intro w hS; go_simp
            refine wpAnyH_ready (rs := [6]) (by kernel_rfl) (by simp) ?_
            refine AllReadyH.cons rfl (fun K hK => ?_) (AllReadyH.nil)
            go_simp
            have hb : Keeps V2 (V2.alloc (.cells #[.int .i64 0, .int .i64 0, .int .i64 0, .int .i64 0, .int .i64 0, .int .i64 0, .int .i64 0, .int .i64 0, .int .i64 0] 28)) := (Keeps.refl _).alloc _
            have HE3 : Hid (EBox V2.heap.size zeroE (V2.alloc (.cells #[.int .i64 0, .int .i64 0, .int .i64 0, .int .i64 0, .int .i64 0, .int .i64 0, .int .i64 0, .int .i64 0, .int .i64 0] 28))) := EBox.new V2 zeroE 28
            generalize V2.alloc (.cells #[.int .i64 0, .int .i64 0, .int .i64 0, .int .i64 0, .int .i64 0, .int .i64 0, .int .i64 0, .int .i64 0, .int .i64 0] 28) = V3 at *
            have k3 := k2.trans hb
            clear hb
            refine hK.out _ _ (HSA.out _ k3) (fun hS => ?_)
            clear hK K
            refine wpAnyH_ready (rs := [7]) (by kernel_rfl) (by simp) ?_
            refine AllReadyH.cons rfl (fun K hK => ?_) (AllReadyH.nil)
            have y0 := HE3.out.c0
            have y1 := HE3.out.c1
            have y2 := HE3.out.c2
            have y3 := HE3.out.c3
            have y4 := HE3.out.c4
            have y5 := HE3.out.c5
            have y6 := HE3.out.c6
            have y7 := HE3.out.c7
            have y8 := HE3.out.c8
            have yf := HE3.out.fz
            have yl := HE3.out.lt
            go_simp
            have BQ := HE3.out.put ⟨0, 0, 0, 0, 0, 0, 0, 0, 0⟩
            obtain ⟨WG, hWG⟩ : ∃ z, z = (((((((((V3.setCell ⟨V2.heap.size, 0, none⟩ (.int .i64 0)).setCell ⟨V2.heap.size, 1, none⟩ (.int .i64 0)).setCell ⟨V2.heap.size, 2, none⟩ (.int .i64 0)).setCell ⟨V2.heap.size, 3, none⟩ (.int .i64 0)).setCell ⟨V2.heap.size, 4, none⟩ (.int .i64 0)).setCell ⟨V2.heap.size, 5, none⟩ (.int .i64 0)).setCell ⟨V2.heap.size, 6, none⟩ (.int .i64 0)).setCell ⟨V2.heap.size, 7, none⟩ (.int .i64 0)).setCell ⟨V2.heap.size, 8, none⟩ (.int .i64 0)) := ⟨_, rfl⟩
            simp only [] at BQ
            rw [← hWG] at BQ ⊢
            clear hWG y0 y1 y2 y3 y4 y5 y6 y7 y8 yf yl
            have KG : Keeps w3 WG := But.to k3 k2.size BQ.2
            refine hK.out _ _ (HSA.out _ KG) (fun hS => ?_)
            clear hK K
            refine wpAnyH_take (i := 8) (v := .int .i64 5) rfl (by kernel_rfl) (by kernel_rfl) (by kernel_rfl) (fun _ _ _ h => h) (Or.inl ⟨by kernel_rfl, ?_⟩) hS ?_
            · intro w hS; go_simp
            refine wpAnyH_done (by kernel_rfl) ?_ _
            go_wp2_with fail
            go_meet
            exact ⟨_, rfl, rfl, BQ.1, KG⟩
          · go_simp
            have hb : Keeps V1 (V1.alloc (.cells #[.int .i64 0, .int .i64 0, .int .i64 0, .int .i64 0, .int .i64 0, .int .i64 0, .int .i64 0, .int .i64 0, .int .i64 0] 28)) := (Keeps.refl _).alloc _
            have HE2 : Hid (EBox V1.heap.size zeroE (V1.alloc (.cells #[.int .i64 0, .int .i64 0, .int .i64 0, .int .i64 0, .int .i64 0, .int .i64 0, .int .i64 0, .int .i64 0, .int .i64 0] 28))) := EBox.new V1 zeroE 28
            generalize V1.alloc (.cells #[.int .i64 0, .int .i64 0, .int .i64 0, .int .i64 0, .int .i64 0, .int .i64 0, .int .i64 0, .int .i64 0, .int .i64 0] 28) = V2 at *
            have k2 := k1.trans hb
            clear hb
            refine hK.out _ _ (HSA.out _ k2) (fun hS => ?_)
            clear hK K
            refine wpAnyH_ready (rs := [2]) (by kernel_rfl) (by simp) ?_
            refine AllReadyH.cons rfl (fun K hK => ?_) (AllReadyH.nil)
            go_simp
            refine (HCB.out V2 k2).mono ?_
            rintro y V3 ⟨rfl, hb⟩
            have k3 := k2.trans hb
            have HE3 : Hid (EBox V1.heap.size zeroE V3) := HE2.out.keep hb
            clear hb
            go_simp
            refine hK.out _ _ (HSA.out _ k3) (fun hS => ?_)
            clear hK K
            refine wpAnyH_take (i := 3) (v := .tuple #[.agg #[.int .i64 0, .int .i64 0, .int .i64 0, .int .i64 0, .int .i64 0, .int .i64 0, .int .i64 0, .int .i64 0, .int .i64 0], .int .i64 5]) rfl (by kernel_rfl) (by kernel_rfl) (by kernel_rfl) (fun _ _ _ h => h) (Or.inl ⟨by kernel_rfl, ?_⟩) hS ?_
            · intro w hS; go_simp
            refine wpAnyH_take (i := 4) (v := .agg #[.int .i64 0, .int .i64 0, .int .i64 0, .int .i64 0, .int .i64 0, .int .i64 0, .int .i64 0, .int .i64 0, .int .i64 0]) rfl (by kernel_rfl) (by kernel_rfl) (by kernel_rfl) (fun _ _ _ h => h) (Or.inl ⟨by kernel_rfl, ?_⟩) hS ?_
            · intro w hS; go_simp
            refine wpAnyH_take (i := 5) (v := .int .i64 5) rfl (by kernel_rfl) (by kernel_rfl) (by kernel_rfl) (fun _ _ _ h => h) (Or.inl ⟨by kernel_rfl, ?_⟩) hS ?_
            · intro w hS; go_simp
            refine wpAnyH_ready (rs := [7]) (by kernel_rfl) (by simp) ?_
            refine AllReadyH.cons rfl (fun K hK => ?_) (AllReadyH.nil)
            have y0 := HE3.out.c0
            have y1 := HE3.out.c1
            have y2 := HE3.out.c2
            have y3 := HE3.out.c3
            have y4 := HE3.out.c4
            have y5 := HE3.out.c5
            have y6 := HE3.out.c6
            have y7 := HE3.out.c7
            have y8 := HE3.out.c8
            have yf := HE3.out.fz
            have yl := HE3.out.lt
            go_simp
            have BQ := HE3.out.put ⟨0, 0, 0, 0, 0, 0, 0, 0, 0⟩
            obtain ⟨WG, hWG⟩ : ∃ z, z = (((((((((V3.setCell ⟨V1.heap.size, 0, none⟩ (.int .i64 0)).setCell ⟨V1.heap.size, 1, none⟩ (.int .i64 0)).setCell ⟨V1.heap.size, 2, none⟩ (.int .i64 0)).setCell ⟨V1.heap.size, 3, none⟩ (.int .i64 0)).setCell ⟨V1.heap.size, 4, none⟩ (.int .i64 0)).setCell ⟨V1.heap.size, 5, none⟩ (.int .i64 0)).setCell ⟨V1.heap.size, 6, none⟩ (.int .i64 0)).setCell ⟨V1.heap.size, 7, none⟩ (.int .i64 0)).setCell ⟨V1.heap.size, 8, none⟩ (.int .i64 0)) := ⟨_, rfl⟩
            simp only [] at BQ
            rw [← hWG] at BQ ⊢
            clear hWG y0 y1 y2 y3 y4 y5 y6 y7 y8 yf yl
            have KG : Keeps w3 WG := But.to k3 k1.size BQ.2
            refine hK.out _ _ (HSA.out _ KG) (fun hS => ?_)
            clear hK K
            refine wpAnyH_take (i := 8) (v := .int .i64 5) rfl (by kernel_rfl) (by kernel_rfl) (by kernel_rfl) (fun _ _ _ h => h) (Or.inl ⟨by kernel_rfl, ?_⟩) hS ?_
            · intro w hS; go_simp
            refine wpAnyH_done (by kernel_rfl) ?_ _
            go_wp2_with fail
            go_meet
            exact ⟨_, rfl, rfl, BQ.1, KG⟩
        · go_simp
          have hb : Keeps V0 (V0.alloc (.cells #[.int .i64 0, .int .i64 0, .int .i64 0, .int .i64 0, .int .i64 0, .int .i64 0, .int .i64 0, .int .i64 0, .int .i64 0] 28)) := (Keeps.refl _).alloc _
          have HE1 : Hid (EBox V0.heap.size zeroE (V0.alloc (.cells #[.int .i64 0, .int .i64 0, .int .i64 0, .int .i64 0, .int .i64 0, .int .i64 0, .int .i64 0, .int .i64 0, .int .i64 0] 28))) := EBox.new V0 zeroE 28
          generalize V0.alloc (.cells #[.int .i64 0, .int .i64 0, .int .i64 0, .int .i64 0, .int .i64 0, .int .i64 0, .int .i64 0, .int .i64 0, .int .i64 0] 28) = V1 at *
          have k1 := k0.trans hb
          clear hb
          refine hK.out _ _ (HSA.out _ k1) (fun hS => ?_)
          clear hK K
          refine wpAnyH_ready (rs := [1]) (by kernel_rfl) (by simp) ?_
          refine AllReadyH.cons rfl (fun K hK => ?_) (AllReadyH.nil)
          go_simp
          refine (mk_add 1 V1).mono ?_
          rintro y V2 ⟨rfl, hb⟩
          have k2 := k1.trans hb
          have HE2 : Hid (EBox V0.heap.size zeroE V2) := HE1.out.keep hb
          clear hb
          go_simp
          refine hK.out _ _ (HSA.out _ k2) (fun hS => ?_)
          clear hK K
          refine wpAnyH_ready (rs := [2]) (by kernel_rfl) (by simp) ?_
          refine AllReadyH.cons rfl (fun K hK => ?_) (AllReadyH.nil)
          go_simp
          refine (HCB.out V2 k2).mono ?_
          rintro y V3 ⟨rfl, hb⟩
          have k3 := k2.trans hb
          have HE3 : Hid (EBox V0.heap.size zeroE V3) := HE2.out.keep hb
          clear hb
          go_simp
          refine hK.out _ _ (HSA.out _ k3) (fun hS => ?_)
          clear hK K
          refine wpAnyH_take (i := 3) (v := .tuple #[.agg #[.int .i64 0, .int .i64 0, .int .i64 0, .int .i64 0, .int .i64 0, .int .i64 0, .int .i64 0, .int .i64 0, .int .i64 0], .int .i64 5]) rfl (by kernel_rfl) (by kernel_rfl) (by kernel_rfl) (fun _ _ _ h => h) (Or.inl ⟨by kernel_rfl, ?_⟩) hS ?_
          · intro w hS; go_simp
          refine wpAnyH_take (i := 4) (v := .agg #[.int .i64 0, .int .i64 0, .int .i64 0, .int .i64 0, .int .i64 0, .int .i64 0, .int .i64 0, .int .i64 0, .int .i64 0]) rfl (by kernel_rfl) (by kernel_rfl) (by kernel_rfl) (fun _ _ _ h => h) (Or.inl ⟨by kernel_rfl, ?_⟩) hS ?_
          · intro w hS; go_simp
          refine wpAnyH_take (i := 5) (v := .int .i64 5) rfl (by kernel_rfl) (by kernel_rfl) (by kernel_rfl) (fun _ _ _ h => h) (Or.inl ⟨by kernel_rfl, ?_⟩) hS ?_
          · intro w hS; go_simp
          refine wpAnyH_ready (rs := [7]) (by kernel_rfl) (by simp) ?_
          refine AllReadyH.cons rfl (fun K hK => ?_) (AllReadyH.nil)
          have y0 := HE3.out.c0
          have y1 := HE3.out.c1
          have y2 := HE3.out.c2
          have y3 := HE3.out.c3
          have y4 := HE3.out.c4
          have y5 := HE3.out.c5
          have y6 := HE3.out.c6
          have y7 := HE3.out.c7
          have y8 := HE3.out.c8
          have yf := HE3.out.fz
          have yl := HE3.out.lt
          go_simp
          have BQ := HE3.out.put ⟨0, 0, 0, 0, 0, 0, 0, 0, 0⟩
          obtain ⟨WG, hWG⟩ : ∃ z, z = (((((((((V3.setCell ⟨V0.heap.size, 0, none⟩ (.int .i64 0)).setCell ⟨V0.heap.size, 1, none⟩ (.int .i64 0)).setCell ⟨V0.heap.size, 2, none⟩ (.int .i64 0)).setCell ⟨V0.heap.size, 3, none⟩ (.int .i64 0)).setCell ⟨V0.heap.size, 4, none⟩ (.int .i64 0)).setCell ⟨V0.heap.size, 5, none⟩ (.int .i64 0)).setCell ⟨V0.heap.size, 6, none⟩ (.int .i64 0)).setCell ⟨V0.heap.size, 7, none⟩ (.int .i64 0)).setCell ⟨V0.heap.size, 8, none⟩ (.int .i64 0)) := ⟨_, rfl⟩
          simp only [] at BQ
          rw [← hWG] at BQ ⊢
          clear hWG y0 y1 y2 y3 y4 y5 y6 y7 y8 yf yl
          have KG : Keeps w3 WG := But.to k3 k0.size BQ.2
          refine hK.out _ _ (HSA.out _ KG) (fun hS => ?_)
          clear hK K
          refine wpAnyH_take (i := 8) (v := .int .i64 5) rfl (by kernel_rfl) (by kernel_rfl) (by kernel_rfl) (fun _ _ _ h => h) (Or.inl ⟨by kernel_rfl, ?_⟩) hS ?_
          · intro w hS; go_simp
          refine wpAnyH_done (by kernel_rfl) ?_ _
          go_wp2_with fail
          go_meet
          exact ⟨_, rfl, rfl, BQ.1, KG⟩
      case rest =>
        obtain ⟨gb, rfl, rfl, _, hk⟩ := hcut
        obtain ⟨w4, hw4⟩ : ∃ z, z = wc := ⟨_, rfl⟩
        rw [← hw4] at hk ⊢
        clear hw4
        have HK4 : Hid (Keeps w3 w4) := hk
        have HK14 : Hid (Keeps W1 w4) := (HK2.out.trans HK3.out).trans hk
        clear hk HCB HSA
        obtain ⟨s0, s1, s2⟩ := HS1.out w4 HK14.out
        have sl := World.block_lt_of_cell? _ _ s0
        simp only [] at sl
        have HCC : Hid (∀ W, Keeps w4 W → Calls Try.prog 13 #[stuV ⟨2, 5, [1, 2, 4]⟩ (.slice (some ⟨w.heap.size, 0, none⟩) 3 3), .int .i64 3] W fun e w' => ∃ ra rc, IntsAt w' (.slice ra 4 rc) [1, 2, 3, 4] ∧ e = .returned (.tuple #[.agg #[.int .i64 2, .int .i64 5, .slice ra 4 rc], .int .i64 0]) ∧ Keeps W w') := by
          intro W hk
          refine (stub_came ⟨2, 5, [1, 2, 4]⟩ 3 _ W (HI1.out.keep (HK14.out.trans hk))).mono ?_
          rintro y w' ⟨ra, rc, hI, rfl, hb⟩
          rw [came5.2.1] at hI
          rw [came5.1, came5.2.1]
          exact ⟨ra, rc, hI, rfl, hb⟩
        have HCD : Hid (∀ W, Keeps w4 W → Calls Try.prog 13 #[stuV ⟨2, 5, [1, 2, 4]⟩ (.slice (some ⟨w.heap.size, 0, none⟩) 3 3), .int .i64 5] W fun e w' => ∃ ra rc, e = .returned (.tuple #[.agg #[.int .i64 0, .int .i64 0, .slice ra 0 rc], .int .i64 5]) ∧ Keeps W w') := by
          intro W hk
          refine (stub_came ⟨2, 5, [1, 2, 4]⟩ 5 _ W (HI1.out.keep (HK14.out.trans hk))).mono ?_
          rintro y w' ⟨ra, rc, hI, rfl, hb⟩
          rw [came5.2.2.1, came5.2.2.2]
          exact ⟨ra, rc, rfl, hb⟩
        go_wp2_with fail
        refine (HCC.out w4 (Keeps.refl _)).mono ?_
        rintro y w5 ⟨ca, cc, hI, rfl, hb⟩
        have k45 := hb.alloc (.cells #[.int .i64 2, .int .i64 5, .slice ca 4 cc] 24)
        have HC5 : Hid (StuBox w5.heap.size ⟨2, 5, [1, 2, 3, 4]⟩ (.slice ca 4 cc) (w5.alloc (.cells #[.int .i64 2, .int .i64 5, .slice ca 4 cc] 24))) := StuBox.new w5 ⟨2, 5, [1, 2, 3, 4]⟩ _ rfl 24
        have HI5 : Hid (IntsAt (w5.alloc (.cells #[.int .i64 2, .int .i64 5, .slice ca 4 cc] 24)) (.slice ca 4 cc) [1, 2, 3, 4]) := hI.keep ((Keeps.refl _).alloc _)
        clear hb hI HCC s0 s1 s2 sl
        obtain ⟨s0, s1, s2⟩ := HS1.out _ (HK14.out.trans k45)
        have sl := World.block_lt_of_cell? _ _ s0
        simp only [] at sl
        go_wp2_with fail
        generalize w5.alloc (.cells #[.int .i64 2, .int .i64 5, .slice ca 4 cc] 24) = w5' at *
        generalize w5.heap.size = cb at *
        refine (HCD.out w5' k45).mono ?_
        rintro y v6 ⟨da, dc, rfl, hb⟩
        clear s0 s1 s2 sl
        have HKZ : Hid (Keeps w5' (v6.alloc (.cells #[.int .i64 0, .int .i64 0, .slice da 0 dc] 24))) := hb.alloc _
        clear hb
        go_wp2_with fail
        generalize v6.alloc (.cells #[.int .i64 0, .int .i64 0, .slice da 0 dc] 24) = w6 at *
        have HK16 : Hid (Keeps W1 w6) := (HK14.out.trans k45).trans HKZ.out
        have HK6 : Hid (Keeps w w6) := HK1.out.trans HK16.out
        have HSZ : Hid (∀ W, Keeps w6 W → W.cell? ⟨sb, 0, none⟩ = some (.int .i64 2) ∧ W.cell? ⟨sb, 1, none⟩ = some (.int .i64 5) ∧ W.cell? ⟨sb, 2, none⟩ = some (.slice (some ⟨w.heap.size, 0, none⟩) 3 3) ∧ W.cell? ⟨ab, 1, none⟩ = some (.int .i64 6) ∧ W.cell? ⟨cb, 2, none⟩ = some (.slice ca 4 cc) ∧ W.cell? ⟨eb, 0, none⟩ = some (.int .i64 2) ∧ W.cell? ⟨eb, 1, none⟩ = some (.int .i64 7) ∧ W.cell? ⟨eb, 2, none⟩ = some (.int .i64 2) ∧ W.cell? ⟨eb, 3, none⟩ = some (.int .i64 5) ∧ W.cell? ⟨eb, 4, none⟩ = some (.int .i64 2) ∧ W.cell? ⟨eb, 5, none⟩ = some (.int .i64 2) ∧ W.cell? ⟨eb, 6, none⟩ = some (.int .i64 0) ∧ W.cell? ⟨eb, 7, none⟩ = some (.int .i64 0) ∧ W.cell? ⟨eb, 8, none⟩ = some (.int .i64 1) ∧ W.cell? ⟨fb, 0, none⟩ = some (.int .i64 2) ∧ W.cell? ⟨fb, 1, none⟩ = some (.int .i64 7) ∧ W.cell? ⟨fb, 2, none⟩ = some (.int .i64 2) ∧ W.cell? ⟨fb, 3, none⟩ = some (.int .i64 3) ∧ W.cell? ⟨fb, 4, none⟩ = some (.int .i64 2) ∧ W.cell? ⟨fb, 5, none⟩ = some (.int .i64 2) ∧ W.cell? ⟨fb, 6, none⟩ = some (.int .i64 0) ∧ W.cell? ⟨fb, 7, none⟩ = some (.int .i64 0) ∧ W.cell? ⟨fb, 8, none⟩ = some (.int .i64 1)) := by
          intro W hk
          have h1 := HS1.out W (HK16.out.trans hk)
          have h46 := (HK4.out.trans (k45.trans HKZ.out)).trans hk
          have h36 := HK3.out.trans h46
          have he := HE2.out.keep h36
          have hf := HF3.out.keep h46
          have hc := HC5.out.keep (HKZ.out.trans hk)
          exact ⟨h1.1, h1.2.1, h1.2.2, cell_stays HA2.out h36, hc.c2, he.c0, he.c1, he.c2, he.c3, he.c4, he.c5, he.c6, he.c7, he.c8, hf.c0, hf.c1, hf.c2, hf.c3, hf.c4, hf.c5, hf.c6, hf.c7, hf.c8⟩
        have HSI : Hid (∀ W, Keeps w6 W → ∀ m, IntsAt W m [1, 2, 3, 4] → Calls Try.prog 27 #[.slice ca 4 cc, m] W fun e w' => e = .returned (.bool true) ∧ Keeps W w') := by
          intro W hk m hm
          have := same_ints [1, 2, 3, 4] [1, 2, 3, 4] _ _ W (HI5.out.keep (HKZ.out.trans hk)) hm
          exact this
        have HC1 : Hid (∀ W, Keeps w6 W → Calls Try.prog 9 #[stuV ⟨2, 5, [1, 2, 4]⟩ (.slice (some ⟨w.heap.size, 0, none⟩) 3 3)] W fun e w' => e = .returned (.int .i64 0) ∧ Keeps W w') := fun W hk => stub_check ⟨2, 5, [1, 2, 4]⟩ _ W (HI1.out.keep (HK16.out.trans hk))
        have HC2 : Hid (∀ W m, IntsAt W m [1] → Calls Try.prog 9 #[.agg #[.int .i64 1, .int .i64 1, m]] W fun e w' => e = .returned (.int .i64 1) ∧ Keeps W w') := fun W m hm => stub_check ⟨1, 1, [1]⟩ _ W hm
        have HC3 : Hid (∀ W, Calls Try.prog 9 #[.agg #[.int .i64 0, .int .i64 0, .slice none 0 0]] W fun e w' => e = .returned (.int .i64 3) ∧ Keeps W w') := fun W => stub_check ⟨0, 0, []⟩ _ W (ints_nil _)
        clear k45 HKZ HCD HC5 HI5 HE2 HF3 HA2
        obtain ⟨V0, hV0⟩ : ∃ z, z = w6.drew := ⟨_, rfl⟩
        have k0 : Keeps w6 V0 := by rw [hV0]; exact (Keeps.refl _).drew
        refine wp_region_held_drew (S := fun W => W.cell? ⟨sb, 0, none⟩ = some (.int .i64 2) ∧ W.cell? ⟨sb, 1, none⟩ = some (.int .i64 5) ∧ W.cell? ⟨sb, 2, none⟩ = some (.slice (some ⟨w.heap.size, 0, none⟩) 3 3) ∧ W.cell? ⟨ab, 1, none⟩ = some (.int .i64 6) ∧ W.cell? ⟨cb, 2, none⟩ = some (.slice ca 4 cc) ∧ W.cell? ⟨eb, 0, none⟩ = some (.int .i64 2) ∧ W.cell? ⟨eb, 1, none⟩ = some (.int .i64 7) ∧ W.cell? ⟨eb, 2, none⟩ = some (.int .i64 2) ∧ W.cell? ⟨eb, 3, none⟩ = some (.int .i64 5) ∧ W.cell? ⟨eb, 4, none⟩ = some (.int .i64 2) ∧ W.cell? ⟨eb, 5, none⟩ = some (.int .i64 2) ∧ W.cell? ⟨eb, 6, none⟩ = some (.int .i64 0) ∧ W.cell? ⟨eb, 7, none⟩ = some (.int .i64 0) ∧ W.cell? ⟨eb, 8, none⟩ = some (.int .i64 1) ∧ W.cell? ⟨fb, 0, none⟩ = some (.int .i64 2) ∧ W.cell? ⟨fb, 1, none⟩ = some (.int .i64 7) ∧ W.cell? ⟨fb, 2, none⟩ = some (.int .i64 2) ∧ W.cell? ⟨fb, 3, none⟩ = some (.int .i64 3) ∧ W.cell? ⟨fb, 4, none⟩ = some (.int .i64 2) ∧ W.cell? ⟨fb, 5, none⟩ = some (.int .i64 2) ∧ W.cell? ⟨fb, 6, none⟩ = some (.int .i64 0) ∧ W.cell? ⟨fb, 7, none⟩ = some (.int .i64 0) ∧ W.cell? ⟨fb, 8, none⟩ = some (.int .i64 1)) (by kernel_rfl) (HSZ.out _ (Keeps.refl _).drew) (fun hS => ?_)
        rw [← hV0] at hS ⊢
        clear hV0
        refine wpAnyH_take (i := 0) (v := .int .i64 0) rfl (by kernel_rfl) (by kernel_rfl) (by kernel_rfl) (fun _ _ _ h => h) (Or.inl ⟨by kernel_rfl, ?_⟩) hS ?_
        · intro w hS; go_simp
        refine wpAnyH_take (i := 1) (v := .bool true) rfl (by kernel_rfl) (by kernel_rfl) (by kernel_rfl) (fun _ _ _ h => h) (Or.inl ⟨by kernel_rfl, ?_⟩) hS ?_
        · intro w hS; go_simp
        refine wpAnyH_take (i := 2) (v := .bool true) rfl (by kernel_rfl) (by kernel_rfl) (by kernel_rfl) (fun _ _ _ h => h) (Or.inl ⟨by kernel_rfl, ?_⟩) hS ?_
        · intro w hS; go_simp
        refine wpAnyH_take (i := 3) (v := .int .i64 0) rfl (by kernel_rfl) (by kernel_rfl) (by kernel_rfl) (fun _ _ _ h => h) (Or.inl ⟨by kernel_rfl, ?_⟩) hS ?_
        · intro w hS; go_simp
        refine wpAnyH_take (i := 4) (v := .bool true) rfl (by kernel_rfl) (by kernel_rfl) (by kernel_rfl) (fun _ _ _ h => h) (Or.inl ⟨by kernel_rfl, ?_⟩) hS ?_
        · intro w hS; go_simp
        refine wpAnyH_take (i := 5) (v := .bool true) rfl (by kernel_rfl) (by kernel_rfl) (by kernel_rfl) (fun _ _ _ h => h) (Or.inl ⟨by kernel_rfl, ?_⟩) hS ?_
        · intro w hS; go_simp
        refine wpAnyH_take (i := 6) (v := .bool true) rfl (by kernel_rfl) (by kernel_rfl) (by kernel_rfl) (fun _ _ _ h => h) (Or.inl ⟨by kernel_rfl, ?_⟩) hS ?_
        · intro w hS; go_simp
        refine wpAnyH_take (i := 7) (v := .int .i64 5) rfl (by kernel_rfl) (by kernel_rfl) (by kernel_rfl) (fun _ _ _ h => h) (Or.inl ⟨by kernel_rfl, ?_⟩) hS ?_
        · intro w hS; go_simp
        refine wpAnyH_take (i := 8) (v := .bool true) rfl (by kernel_rfl) (by kernel_rfl) (by kernel_rfl) (fun _ _ _ h => h) (Or.inl ⟨by kernel_rfl, ?_⟩) hS ?_
        · intro w hS; go_simp
        refine wpAnyH_take (i := 9) (v := .bool true) rfl (by kernel_rfl) (by kernel_rfl) (by kernel_rfl) (fun _ _ _ h => h) (Or.inl ⟨by kernel_rfl, ?_⟩) hS ?_
        · intro w hS; go_simp
        refine wpAnyH_take (i := 10) (v := .bool true) rfl (by kernel_rfl) (by kernel_rfl) (by kernel_rfl) (fun _ _ _ h => h) (Or.inl ⟨by kernel_rfl, ?_⟩) hS ?_
        · intro w hS; go_simp
        refine wpAnyH_take (i := 11) (v := .int .i64 0) rfl (by kernel_rfl) (by kernel_rfl) (by kernel_rfl) (fun _ _ _ h => h) (Or.inl ⟨by kernel_rfl, ?_⟩) hS ?_
        · intro w hS; go_simp
        refine wpAnyH_take (i := 12) (v := .bool true) rfl (by kernel_rfl) (by kernel_rfl) (by kernel_rfl) (fun _ _ _ h => h) (Or.inl ⟨by kernel_rfl, ?_⟩) hS ?_
        · intro w hS; go_simp
        refine wpAnyH_take (i := 13) (v := .bool true) rfl (by kernel_rfl) (by kernel_rfl) (by kernel_rfl) (fun _ _ _ h => h) (Or.inl ⟨by kernel_rfl, ?_⟩) hS ?_
        · intro w hS; go_simp
        refine wpAnyH_take (i := 14) (v := .bool true) rfl (by kernel_rfl) (by kernel_rfl) (by kernel_rfl) (fun _ _ _ h => h) (Or.inl ⟨by kernel_rfl, ?_⟩) hS ?_
        · intro w hS; go_simp
        refine wpAnyH_take (i := 15) (v := .int .i64 5) rfl (by kernel_rfl) (by kernel_rfl) (by kernel_rfl) (fun _ _ _ h => h) (Or.inl ⟨by kernel_rfl, ?_⟩) hS ?_
        · intro w hS; go_simp
        refine wpAnyH_take (i := 16) (v := .bool true) rfl (by kernel_rfl) (by kernel_rfl) (by kernel_rfl) (fun _ _ _ h => h) (Or.inl ⟨by kernel_rfl, ?_⟩) hS ?_
        · intro w hS; go_simp
        refine wpAnyH_take (i := 17) (v := .bool true) rfl (by kernel_rfl) (by kernel_rfl) (by kernel_rfl) (fun _ _ _ h => h) (Or.inl ⟨by kernel_rfl, ?_⟩) hS ?_
        · intro w hS; go_simp
        refine wpAnyH_take (i := 18) (v := .bool true) rfl (by kernel_rfl) (by kernel_rfl) (by kernel_rfl) (fun _ _ _ h => h) (Or.inl ⟨by kernel_rfl, ?_⟩) hS ?_
        · intro w hS; go_simp
        refine wpAnyH_take (i := 19) (v := .pointer (some ⟨ab, 1, none⟩)) rfl (by kernel_rfl) (by kernel_rfl) (by kernel_rfl) (fun _ _ _ h => h) (Or.inl ⟨by kernel_rfl, ?_⟩) hS ?_
        · intro w hS; go_simp
        refine wpAnyH_take (i := 20) (v := .int .i64 6) rfl (by kernel_rfl) (by kernel_rfl) (by kernel_rfl) (fun _ _ _ h => h) (Or.inl ⟨by kernel_rfl, ?_⟩) hS ?_
        · intro w hS; go_simp
        refine wpAnyH_take (i := 21) (v := .bool true) rfl (by kernel_rfl) (by kernel_rfl) (by kernel_rfl) (fun _ _ _ h => h) (Or.inl ⟨by kernel_rfl, ?_⟩) hS ?_
        · intro w hS; go_simp
        refine wpAnyH_take (i := 22) (v := .bool true) rfl (by kernel_rfl) (by kernel_rfl) (by kernel_rfl) (fun _ _ _ h => h) (Or.inl ⟨by kernel_rfl, ?_⟩) hS ?_
        · intro w hS; go_simp
        refine wpAnyH_take (i := 23) (v := .bool true) rfl (by kernel_rfl) (by kernel_rfl) (by kernel_rfl) (fun _ _ _ h => h) (Or.inl ⟨by kernel_rfl, ?_⟩) hS ?_
        · intro w hS; go_simp
        refine wpAnyH_take (i := 24) (v := .agg #[.int .i64 2, .int .i64 7, .int .i64 2, .int .i64 5, .int .i64 2, .int .i64 2, .int .i64 0, .int .i64 0, .int .i64 1]) rfl (by kernel_rfl) (by kernel_rfl) (by kernel_rfl) (fun _ _ _ h => h) (Or.inl ⟨by kernel_rfl, ?_⟩) hS ?_
        · intro w hS; go_simp
        refine wpAnyH_ready (rs := [25]) (by kernel_rfl) (by simp) ?_
        refine AllReadyH.cons rfl (fun K hK => ?_) (AllReadyH.nil)
        go_simp
        refine (mk_add 1 V0).mono ?_
        rintro y V1 ⟨rfl, hb⟩
        have k1 := k0.trans hb
        clear hb
        go_simp
        refine hK.out _ _ (HSZ.out _ k1) (fun hS => ?_)
        clear hK K
        refine wpAnyH_ready (rs := [26]) (by kernel_rfl) (by simp) ?_
        refine AllReadyH.cons rfl (fun K hK => ?_) (AllReadyH.nil)
        go_simp
        refine (mk_call 7 2 5 2 2 0 0 1 V1).mono ?_
        rintro y V2 ⟨rfl, hb⟩
        have k2 := k1.trans hb
        clear hb
        go_simp
        refine hK.out _ _ (HSZ.out _ k2) (fun hS => ?_)
        clear hK K
        refine wpAnyH_take (i := 27) (v := .bool true) rfl (by kernel_rfl) (by kernel_rfl) (by kernel_rfl) (fun _ _ _ h => h) (Or.inl ⟨by kernel_rfl, ?_⟩) hS ?_
        · intro w hS; go_simp
        refine wpAnyH_take (i := 28) (v := .bool true) rfl (by kernel_rfl) (by kernel_rfl) (by kernel_rfl) (fun _ _ _ h => h) (Or.inl ⟨by kernel_rfl, ?_⟩) hS ?_
        · intro w hS; go_simp
        refine wpAnyH_take (i := 29) (v := .bool true) rfl (by kernel_rfl) (by kernel_rfl) (by kernel_rfl) (fun _ _ _ h => h) (Or.inl ⟨by kernel_rfl, ?_⟩) hS ?_
        · intro w hS; go_simp
        refine wpAnyH_take (i := 30) (v := .agg #[.int .i64 2, .int .i64 7, .int .i64 2, .int .i64 3, .int .i64 2, .int .i64 2, .int .i64 0, .int .i64 0, .int .i64 1]) rfl (by kernel_rfl) (by kernel_rfl) (by kernel_rfl) (fun _ _ _ h => h) (Or.inl ⟨by kernel_rfl, ?_⟩) hS ?_
        · intro w hS; go_simp
        refine wpAnyH_ready (rs := [31]) (by kernel_rfl) (by simp) ?_
        refine AllReadyH.cons rfl (fun K hK => ?_) (AllReadyH.nil)
        go_simp
        refine (mk_add 1 V2).mono ?_
        rintro y V3 ⟨rfl, hb⟩
        have k3 := k2.trans hb
        clear hb
        go_simp
        refine hK.out _ _ (HSZ.out _ k3) (fun hS => ?_)
        clear hK K
        refine wpAnyH_ready (rs := [32]) (by kernel_rfl) (by simp) ?_
        refine AllReadyH.cons rfl (fun K hK => ?_) (AllReadyH.nil)
        go_simp
        refine (mk_call 7 2 3 2 2 0 0 1 V3).mono ?_
        rintro y V4 ⟨rfl, hb⟩
        have k4 := k3.trans hb
        clear hb
        go_simp
        refine hK.out _ _ (HSZ.out _ k4) (fun hS => ?_)
        clear hK K
        refine wpAnyH_take (i := 33) (v := .bool true) rfl (by kernel_rfl) (by kernel_rfl) (by kernel_rfl) (fun _ _ _ h => h) (Or.inl ⟨by kernel_rfl, ?_⟩) hS ?_
        · intro w hS; go_simp
        refine wpAnyH_take (i := 34) (v := .bool true) rfl (by kernel_rfl) (by kernel_rfl) (by kernel_rfl) (fun _ _ _ h => h) (Or.inl ⟨by kernel_rfl, ?_⟩) hS ?_
        · intro w hS; go_simp
        refine wpAnyH_take (i := 35) (v := .bool true) rfl (by kernel_rfl) (by kernel_rfl) (by kernel_rfl) (fun _ _ _ h => h) (Or.inl ⟨by kernel_rfl, ?_⟩) hS ?_
        · intro w hS; go_simp
        refine wpAnyH_take (i := 36) (v := .pointer (some ⟨cb, 2, none⟩)) rfl (by kernel_rfl) (by kernel_rfl) (by kernel_rfl) (fun _ _ _ h => h) (Or.inl ⟨by kernel_rfl, ?_⟩) hS ?_
        · intro w hS; go_simp
        refine wpAnyH_take (i := 37) (v := .slice ca 4 cc) rfl (by kernel_rfl) (by kernel_rfl) (by kernel_rfl) (fun _ _ _ h => h) (Or.inl ⟨by kernel_rfl, ?_⟩) hS ?_
        · intro w hS; go_simp
        refine wpAnyH_ready (rs := [38]) (by kernel_rfl) (by simp) ?_
        refine AllReadyH.cons rfl (fun K hK => ?_) (AllReadyH.nil)
        go_simp
        have hb : Keeps V4 (V4.alloc (.cells #[.int .i64 1, .int .i64 2, .int .i64 3, .int .i64 4] 3)) := (Keeps.refl _).alloc _
        have HM : Hid (IntsAt (V4.alloc (.cells #[.int .i64 1, .int .i64 2, .int .i64 3, .int .i64 4] 3)) (.slice (some ⟨V4.heap.size, 0, none⟩) 4 4) [1, 2, 3, 4]) := ints_made V4 [1, 2, 3, 4] (by decide)
        generalize V4.alloc (.cells #[.int .i64 1, .int .i64 2, .int .i64 3, .int .i64 4] 3) = V5 at *
        have k5 := k4.trans hb
        clear hb
        refine hK.out _ _ (HSZ.out _ k5) (fun hS => ?_)
        clear hK K
        refine wpAnyH_ready (rs := [39]) (by kernel_rfl) (by simp) ?_
        refine AllReadyH.cons rfl (fun K hK => ?_) (AllReadyH.nil)
        go_simp
        refine (HSI.out V5 k5 _ HM.out).mono ?_
        rintro y V6 ⟨rfl, hb⟩
        have k6 := k5.trans hb
        clear hb
        go_simp
        refine hK.out _ _ (HSZ.out _ k6) (fun hS => ?_)
        clear hK K
        refine wpAnyH_take (i := 40) (v := .bool true) rfl (by kernel_rfl) (by kernel_rfl) (by kernel_rfl) (fun _ _ _ h => h) (Or.inl ⟨by kernel_rfl, ?_⟩) hS ?_
        · intro w hS; go_simp
        refine wpAnyH_take (i := 41) (v := .bool true) rfl (by kernel_rfl) (by kernel_rfl) (by kernel_rfl) (fun _ _ _ h => h) (Or.inl ⟨by kernel_rfl, ?_⟩) hS ?_
        · intro w hS; go_simp
        refine wpAnyH_take (i := 42) (v := stuV ⟨2, 5, [1, 2, 4]⟩ (.slice (some ⟨w.heap.size, 0, none⟩) 3 3)) rfl (by kernel_rfl) (by kernel_rfl) (by kernel_rfl) (fun _ _ _ h => h) (Or.inl ⟨by kernel_rfl, ?_⟩) hS ?_
        · intro w hS; go_simp
        refine wpAnyH_ready (rs := [43]) (by kernel_rfl) (by simp) ?_
        refine AllReadyH.cons rfl (fun K hK => ?_) (AllReadyH.nil)
        go_simp
        refine (HC1.out V6 k6).mono ?_
        rintro y V7 ⟨rfl, hb⟩
        have k7 := k6.trans hb
        clear hb
        go_simp
        refine hK.out _ _ (HSZ.out _ k7) (fun hS => ?_)
        clear hK K
        refine wpAnyH_take (i := 44) (v := .bool true) rfl (by kernel_rfl) (by kernel_rfl) (by kernel_rfl) (fun _ _ _ h => h) (Or.inl ⟨by kernel_rfl, ?_⟩) hS ?_
        · intro w hS; go_simp
        refine wpAnyH_take (i := 45) (v := .bool true) rfl (by kernel_rfl) (by kernel_rfl) (by kernel_rfl) (fun _ _ _ h => h) (Or.inl ⟨by kernel_rfl, ?_⟩) hS ?_
        · intro w hS; go_simp
        refine wpAnyH_take (i := 46) (v := .bool true) rfl (by kernel_rfl) (by kernel_rfl) (by kernel_rfl) (fun _ _ _ h => h) (Or.inl ⟨by kernel_rfl, ?_⟩) hS ?_
        · intro w hS; go_simp
        refine wpAnyH_ready (rs := [47]) (by kernel_rfl) (by simp) ?_
        refine AllReadyH.cons rfl (fun K hK => ?_) (AllReadyH.nil)
        go_simp
        have hb : Keeps V7 (V7.alloc (.cells #[.int .i64 1] 3)) := (Keeps.refl _).alloc _
        have HN1 : Hid (IntsAt (V7.alloc (.cells #[.int .i64 1] 3)) (.slice (some ⟨V7.heap.size, 0, none⟩) 1 1) [1]) := ints_made V7 [1] (by decide)
        generalize V7.alloc (.cells #[.int .i64 1] 3) = V8 at *
        have k8 := k7.trans hb
        clear hb
        refine hK.out _ _ (HSZ.out _ k8) (fun hS => ?_)
        clear hK K
        refine wpAnyH_take (i := 48) (v := .agg #[.int .i64 1, .int .i64 1, .slice (some ⟨V7.heap.size, 0, none⟩) 1 1]) rfl (by kernel_rfl) (by kernel_rfl) (by kernel_rfl) (fun _ _ _ h => h) (Or.inl ⟨by kernel_rfl, ?_⟩) hS ?_
        · intro w hS; go_simp
        refine wpAnyH_ready (rs := [49]) (by kernel_rfl) (by simp) ?_
        refine AllReadyH.cons rfl (fun K hK => ?_) (AllReadyH.nil)
        go_simp
        refine (HC2.out V8 _ HN1.out).mono ?_
        rintro y V9 ⟨rfl, hb⟩
        have k9 := k8.trans hb
        clear hb
        go_simp
        refine hK.out _ _ (HSZ.out _ k9) (fun hS => ?_)
        clear hK K
        refine wpAnyH_take (i := 50) (v := .bool true) rfl (by kernel_rfl) (by kernel_rfl) (by kernel_rfl) (fun _ _ _ h => h) (Or.inl ⟨by kernel_rfl, ?_⟩) hS ?_
        · intro w hS; go_simp
        refine wpAnyH_take (i := 51) (v := .bool true) rfl (by kernel_rfl) (by kernel_rfl) (by kernel_rfl) (fun _ _ _ h => h) (Or.inl ⟨by kernel_rfl, ?_⟩) hS ?_
        · intro w hS; go_simp
        refine wpAnyH_take (i := 52) (v := .bool true) rfl (by kernel_rfl) (by kernel_rfl) (by kernel_rfl) (fun _ _ _ h => h) (Or.inl ⟨by kernel_rfl, ?_⟩) hS ?_
        · intro w hS; go_simp
        refine wpAnyH_take (i := 53) (v := .agg #[.int .i64 0, .int .i64 0, .slice none 0 0]) rfl (by kernel_rfl) (by kernel_rfl) (by kernel_rfl) (fun _ _ _ h => h) (Or.inl ⟨by kernel_rfl, ?_⟩) hS ?_
        · intro w hS; go_simp
        refine wpAnyH_ready (rs := [54]) (by kernel_rfl) (by simp) ?_
        refine AllReadyH.cons rfl (fun K hK => ?_) (AllReadyH.nil)
        go_simp
        refine (HC3.out V9).mono ?_
        rintro y V10 ⟨rfl, hb⟩
        have k10 := k9.trans hb
        clear hb
        go_simp
        refine hK.out _ _ (HSZ.out _ k10) (fun hS => ?_)
        clear hK K
        refine wpAnyH_take (i := 55) (v := .bool true) rfl (by kernel_rfl) (by kernel_rfl) (by kernel_rfl) (fun _ _ _ h => h) (Or.inl ⟨by kernel_rfl, ?_⟩) hS ?_
        · intro w hS; go_simp
        refine wpAnyH_take (i := 56) (v := .bool true) rfl (by kernel_rfl) (by kernel_rfl) (by kernel_rfl) (fun _ _ _ h => h) (Or.inl ⟨by kernel_rfl, ?_⟩) hS ?_
        · intro w hS; go_simp
        refine wpAnyH_take (i := 57) (v := .bool true) rfl (by kernel_rfl) (by kernel_rfl) (by kernel_rfl) (fun _ _ _ h => h) (Or.inl ⟨by kernel_rfl, ?_⟩) hS ?_
        · intro w hS; go_simp
        refine wpAnyH_done (by kernel_rfl) ?_ _
        go_wp2_with fail
        go_ret
        exact ⟨rfl, HK6.out.trans k10⟩
end Go.Proofs.Yteabfjpajgakiag
