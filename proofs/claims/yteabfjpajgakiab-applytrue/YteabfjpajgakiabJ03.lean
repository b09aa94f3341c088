/- StH, StI, OpA. -/
import Derived.Test.YteabfjpajgakiabJ00
import Derived.Test.YteabfjpajgakiabJ01
import Derived.Test.YteabfjpajgakiabJ02
/- States: what must be in any case. -/
set_option linter.unusedSimpArgs false
set_option linter.unusedVariables false
set_option maxRecDepth 10000
namespace Go.Proofs.Yteabfjpajgakiab
open Go.RowKit

theorem ck_st (s : St) (n : Int) (hn : stErr s = n) (x : Value) (w : World) (hT : TabAt w x s.tab) : Calls Try.prog 10 #[stV s x] w fun e w' => e = .returned (.int .i64 n) ∧ Keeps w w' := hn ▸ state_check s x w hT
theorem same_st (s t : St) (r : Bool) (hr : sameSt s t = r) (x y : Value) (w : World) (h1 : TabAt w x s.tab) (h2 : TabAt w y t.tab) : Calls Try.prog 12 #[stV s x, stV t y] w fun e w' => e = .returned (.bool r) ∧ Keeps w w' := hr ▸ state_same s t x y w h1 h2
theorem same_of0 (w : World) : Calls Try.prog 13 #[stV ⟨0, 0, 0, 0, 0, 0, []⟩ (.slice none 0 0), stV ⟨0, 0, 0, 0, 0, 0, []⟩ (.slice none 0 0)] w fun e w' => e = .returned (.bool true) ∧ Keeps w w' :=
  same_of ⟨0, 0, 0, 0, 0, 0, []⟩ ⟨0, 0, 0, 0, 0, 0, []⟩ _ _ w ⟨[], trivial, rfl, by unfold maxLen; simp, .inl ⟨rfl, rfl⟩⟩ ⟨[], trivial, rfl, by unfold maxLen; simp, .inl ⟨rfl, rfl⟩⟩
theorem tab_nil (w : World) : TabAt w (.slice none 0 0) [] := ⟨[], trivial, rfl, by unfold maxLen; simp, .inl ⟨rfl, rfl⟩⟩

theorem tab_one {w : World} {b : Nat} {s : Ses} {k : Value} (c0 : w.cell? ⟨b, 0, none⟩ = some (.int .i64 s.client)) (c1 : w.cell? ⟨b, 1, none⟩ = some (.int .i64 s.acked)) (c2 : w.cell? ⟨b, 2, none⟩ = some (.int .i64 s.seen)) (c3 : w.cell? ⟨b, 3, none⟩ = some k) (hk : KeptAt w k s.kept) :
    TabAt w (.slice (some ⟨b, 0, none⟩) 1 1) [s] := by
  refine ⟨[k], ⟨hk, trivial⟩, rfl, by unfold maxLen; simp, .inr ⟨_, _, rfl, fun j u hu => ?_⟩⟩
  rw [Addr.add_lit, Nat.zero_add]
  match j, hu with
  | 0, hu => simp [sesCells] at hu; subst hu; exact c0
  | 1, hu => simp [sesCells] at hu; subst hu; exact c1
  | 2, hu => simp [sesCells] at hu; subst hu; exact c2
  | 3, hu => simp [sesCells] at hu; subst hu; exact c3

theorem kept_none (w : World) (a : Addr) (c : Nat) : KeptAt w (.slice (some a) 0 c) [] := ⟨rfl, by unfold maxLen; simp, .inr ⟨_, _, rfl, fun j u hu => by simp [repCells] at hu⟩⟩

theorem same_last (a b e : Nat) (w : World) (a0 : w.cell? ⟨a, 0, none⟩ = some (.int .i64 1)) (a1 : w.cell? ⟨a, 1, none⟩ = some (.int .i64 0)) (a2 : w.cell? ⟨a, 2, none⟩ = some (.int .i64 0)) (a3 : w.cell? ⟨a, 3, none⟩ = some (.slice (some ⟨e, 0, none⟩) 0 0))
    (b0 : w.cell? ⟨b, 0, none⟩ = some (.int .i64 1)) (b1 : w.cell? ⟨b, 1, none⟩ = some (.int .i64 0)) (b2 : w.cell? ⟨b, 2, none⟩ = some (.int .i64 0)) (b3 : w.cell? ⟨b, 3, none⟩ = some (.slice none 0 0)) :
    Calls Try.prog 12 #[stV ⟨0, 0, 0, 0, 0, 0, [⟨1, 0, 0, []⟩]⟩ (.slice (some ⟨a, 0, none⟩) 1 1), stV ⟨0, 0, 0, 0, 0, 0, [⟨1, 0, 0, []⟩]⟩ (.slice (some ⟨b, 0, none⟩) 1 1)] w fun e w' => e = .returned (.bool true) ∧ Keeps w w' :=
  same_st ⟨0, 0, 0, 0, 0, 0, [⟨1, 0, 0, []⟩]⟩ ⟨0, 0, 0, 0, 0, 0, [⟨1, 0, 0, []⟩]⟩ true (by decide +kernel) _ _ w (tab_one (s := ⟨1, 0, 0, []⟩) a0 a1 a2 a3 (kept_none _ _ _)) (tab_one (s := ⟨1, 0, 0, []⟩) b0 b1 b2 b3 (kept_nil _))

theorem wpAny_at {P : Program} {ops : Array Oper} {Q : Exit → Act → World → Prop} {m k : Nat} {listed : Array Bool} {a : Act} {w : World} (h : listed = upTo ops.size k) (hw : wpAny P .any ops Q m (upTo ops.size k) a w) : wpAny P .any ops Q m listed a w := h ▸ hw

set_option maxHeartbeats 4000000 in
theorem state_begun (w : World) : Calls Try.prog 9 #[] w fun e w' => e = .returned (.bool true) ∧ Keeps w w' := by
  go_enter Try.func9, Try.ntmps9
  go_wp2_with fail
  refine (shop_c _).mono ?_
  rintro e w1 ⟨b1, ka1, kc1, la1, lc1, hg1, hs1, -, rfl, hb1⟩
  have T1 : Hid (TabAt w1 (.slice (some ⟨b1, 0, none⟩) 2 2) [rowS 2, rowS 4]) := hs1.tab
  clear hs1 hg1
  go_wp2_with fail
  refine (shop_c _).mono ?_
  rintro e w2 ⟨b2, ka2, kc2, la2, lc2, hg2, hs2, -, rfl, hb2⟩
  have T2 : Hid (TabAt w2 (.slice (some ⟨b2, 0, none⟩) 2 2) [rowS 2, rowS 4]) := hs2.tab
  have HX : Hid (Keeps (w1.alloc (.cells #[.int .i64 6, .int .i64 8, .int .i64 7, .int .i64 0, .int .i64 0, .int .i64 1, .slice (some ⟨b1, 0, none⟩) 2 2] 25)) w2) := hb2
  clear hb2 hs2 hg2
  go_wp2_with fail
  refine (shop_c _).mono ?_
  rintro e w3 ⟨b3, ka3, kc3, la3, lc3, hg3, hs3, hf3, rfl, hb3⟩
  have HY : Hid (Keeps (w2.alloc (.cells #[.int .i64 6, .int .i64 30, .int .i64 7, .int .i64 0, .int .i64 0, .int .i64 1, .slice (some ⟨b2, 0, none⟩) 2 2] 25)) w3) := hb3
  have HS3 : Hid (ShopAt w3 b3 ka3 kc3 la3 lc3) := hs3
  have HF3 : Hid (KeptFar b3 w3 (.slice la3 2 lc3) [(3, 7), (5, -1)]) := hf3
  have hc3 := hs3.c3
  have hz3 := hs3.fz
  have hl3 := World.block_lt_of_cell? _ _ hc3
  simp only [] at hl3
  clear hb3 hs3 hf3
  go_wp2_with fail
  have hsz2 : w2.heap.size + 1 ≤ b3 := by simpa using hg3
  have hsz1 : w1.heap.size + 1 ≤ w2.heap.size := by simpa using HX.out.size
  have hbt : But b3 w3 ((w3.setCell ⟨b3, 3, none⟩ (.slice none 0 0)).alloc (.cells #[.int .i64 6, .int .i64 10, .int .i64 7, .int .i64 0, .int .i64 0, .int .i64 1, .slice (some ⟨b3, 0, none⟩) 2 2] 25)) := ((But.refl _ _).set 3 _).keeps ((Keeps.refl _).alloc _)
  have hz0 : ∀ i, ((w3.setCell ⟨b3, 3, none⟩ (.slice none 0 0)).alloc (.cells #[.int .i64 6, .int .i64 10, .int .i64 7, .int .i64 0, .int .i64 0, .int .i64 1, .slice (some ⟨b3, 0, none⟩) 2 2] 25)).cell? ⟨w3.heap.size, i, none⟩ = #[.int .i64 6, .int .i64 10, .int .i64 7, .int .i64 0, .int .i64 0, .int .i64 1, Value.slice (some ⟨b3, 0, none⟩) 2 2][i]? := fun i => by
    have e : w3.heap.size = (w3.setCell ⟨b3, 3, none⟩ (.slice none 0 0)).heap.size := by simp
    rw [World.cell?_alloc_at _ _ _ _ e]
  have hk3 : ((w3.setCell ⟨b3, 3, none⟩ (.slice none 0 0)).alloc (.cells #[.int .i64 6, .int .i64 10, .int .i64 7, .int .i64 0, .int .i64 0, .int .i64 1, .slice (some ⟨b3, 0, none⟩) 2 2] 25)).cell? ⟨b3, 3, none⟩ = some (.slice none 0 0) := by
    rw [World.cell?_alloc_past _ _ _ (by simpa using hl3)]; exact World.cell?_setCell_same _ _ _ hc3
  have hko : ∀ i u, i ≠ 3 → w3.cell? ⟨b3, i, none⟩ = some u → ((w3.setCell ⟨b3, 3, none⟩ (.slice none 0 0)).alloc (.cells #[.int .i64 6, .int .i64 10, .int .i64 7, .int .i64 0, .int .i64 0, .int .i64 1, .slice (some ⟨b3, 0, none⟩) 2 2] 25)).cell? ⟨b3, i, none⟩ = some u := fun i u hi hu => by
    rw [World.cell?_alloc_past _ _ _ (by simpa using hl3), World.cell?_setCell_other _ _ _ _ (by intro e; injection e with _ e _; exact hi e.symm)]; exact hu
  generalize ((w3.setCell ⟨b3, 3, none⟩ (.slice none 0 0)).alloc (.cells #[.int .i64 6, .int .i64 10, .int .i64 7, .int .i64 0, .int .i64 0, .int .i64 1, .slice (some ⟨b3, 0, none⟩) 2 2] 25)) = W at *
  have TX : Hid (TabAt W (.slice (some ⟨b1, 0, none⟩) 2 2) [rowS 2, rowS 4]) := (T1.out.far (((Keeps.refl _).alloc _).trans (HX.out.trans (((Keeps.refl _).alloc _).trans HY.out))) (by omega)) W hbt
  have TY : Hid (TabAt W (.slice (some ⟨b2, 0, none⟩) 2 2) [rowS 2, rowS 4]) := (T2.out.far (((Keeps.refl _).alloc _).trans HY.out) (by omega)) W hbt
  have TZ : Hid (TabAt W (.slice (some ⟨b3, 0, none⟩) 2 2) [⟨2, 2, 9, []⟩, rowS 4]) := tab_cells (s := ⟨2, 2, 9, []⟩) (t := rowS 4) (hko _ _ (by decide) HS3.out.c0) (hko _ _ (by decide) HS3.out.c1) (hko _ _ (by decide) HS3.out.c2) hk3 (hko _ _ (by decide) HS3.out.c4) (hko _ _ (by decide) HS3.out.c5) (hko _ _ (by decide) HS3.out.c6) (hko _ _ (by decide) HS3.out.c7) (kept_nil _) (HF3.out _ hbt)
  have KW : Hid (Keeps w W) := But.to (hb1.trans (((Keeps.refl _).alloc _).trans (HX.out.trans (((Keeps.refl _).alloc _).trans HY.out)))) (by have := hb1.size; omega) hbt
  have HXC : ∀ i u, #[.int .i64 6, .int .i64 8, .int .i64 7, .int .i64 0, .int .i64 0, .int .i64 1, Value.slice (some ⟨b1, 0, none⟩) 2 2][i]? = some u → W.cell? ⟨w1.heap.size, i, none⟩ = some u := fun i u hu =>
    hbt.at (cell_kept (cell_kept (by simpa [go_sem] using hu) HX.out) (((Keeps.refl _).alloc _).trans HY.out)) (by simp; omega)
  have HYC : ∀ i u, #[.int .i64 6, .int .i64 30, .int .i64 7, .int .i64 0, .int .i64 0, .int .i64 1, Value.slice (some ⟨b2, 0, none⟩) 2 2][i]? = some u → W.cell? ⟨w2.heap.size, i, none⟩ = some u := fun i u hu =>
    hbt.at (cell_kept (by simpa [go_sem] using hu) HY.out) (by simp; omega)
  have AX : Hid (∀ i u, #[.int .i64 6, .int .i64 8, .int .i64 7, .int .i64 0, .int .i64 0, .int .i64 1, Value.slice (some ⟨b1, 0, none⟩) 2 2][i]? = some u → W.cell? ⟨w1.heap.size, i, none⟩ = some u) := HXC
  have AY : Hid (∀ i u, #[.int .i64 6, .int .i64 30, .int .i64 7, .int .i64 0, .int .i64 0, .int .i64 1, Value.slice (some ⟨b2, 0, none⟩) 2 2][i]? = some u → W.cell? ⟨w2.heap.size, i, none⟩ = some u) := HYC
  have AZ : Hid (∀ i u, #[.int .i64 6, .int .i64 10, .int .i64 7, .int .i64 0, .int .i64 0, .int .i64 1, Value.slice (some ⟨b3, 0, none⟩) 2 2][i]? = some u → W.cell? ⟨w3.heap.size, i, none⟩ = some u) := fun i u hu => (hz0 i).trans hu
  clear HXC HYC hz0 hk3 hko hbt hsz1 hsz2 hc3 hz3 hl3 hg3 HS3 HF3 T1 T2 HX HY hb1
  generalize w1.heap.size = X at *
  generalize w2.heap.size = Y at *
  generalize w3.heap.size = Z at *
  clear w1 w2 w3
  refine wp_region_pre 29 21 (by kernel_rfl) rfl (by kernel_rfl) ?_
  simp only [List.take_succ_cons, List.take_zero]
  go_wp2_with fail
  refine (begin_c _).mono ?_
  rintro e v1 ⟨rfl, hb⟩
  have K1 : Hid (Keeps W v1) := ((Keeps.refl W).drew).trans hb
  clear hb
  go_wp2_with fail
  refine (ck_st ⟨0, 0, 0, 0, 0, 0, []⟩ 0 (by decide +kernel) _ _ (tab_nil _)).mono ?_
  rintro e v2 ⟨rfl, hb⟩
  have K2 : Hid (Keeps W v2) := K1.out.trans hb
  clear hb K1
  go_wp2_with fail
  refine (shop_c _).mono ?_
  rintro e v3 ⟨g3, ka3, kc3, la3, lc3, -, hs3, -, rfl, hb⟩
  have S3 : Hid (TabAt v3 (.slice (some ⟨g3, 0, none⟩) 2 2) [rowS 2, rowS 4]) := hs3.tab
  have K3 : Hid (Keeps W v3) := K2.out.trans hb
  clear hb K2 hs3
  go_wp2_with fail
  refine (ck_st shopS 0 (by decide +kernel) _ _ S3.out).mono ?_
  rintro e v4 ⟨rfl, hb⟩
  have K4 : Hid (Keeps W v4) := K3.out.trans hb
  clear hb K3 S3
  have x0 := cell_kept (AX.out 0 _ rfl) K4.out
  have x1 := cell_kept (AX.out 1 _ rfl) K4.out
  have x2 := cell_kept (AX.out 2 _ rfl) K4.out
  have x3 := cell_kept (AX.out 3 _ rfl) K4.out
  have x4 := cell_kept (AX.out 4 _ rfl) K4.out
  have x5 := cell_kept (AX.out 5 _ rfl) K4.out
  have x6 := cell_kept (AX.out 6 _ rfl) K4.out
  have xl := World.block_lt_of_cell? _ _ x0
  simp only [] at xl
  go_wp2_with fail
  clear x0 x1 x2 x3 x4 x5 x6 xl
  refine (ck_st ⟨6, 8, 7, 0, 0, 1, [rowS 2, rowS 4]⟩ 1 (by decide +kernel) _ _ (TX.out.keep K4.out)).mono ?_
  rintro e v5 ⟨rfl, hb⟩
  have K5 : Hid (Keeps W v5) := K4.out.trans hb
  clear hb K4
  have y0 := cell_kept (AY.out 0 _ rfl) K5.out
  have y1 := cell_kept (AY.out 1 _ rfl) K5.out
  have y2 := cell_kept (AY.out 2 _ rfl) K5.out
  have y3 := cell_kept (AY.out 3 _ rfl) K5.out
  have y4 := cell_kept (AY.out 4 _ rfl) K5.out
  have y5 := cell_kept (AY.out 5 _ rfl) K5.out
  have y6 := cell_kept (AY.out 6 _ rfl) K5.out
  have yl := World.block_lt_of_cell? _ _ y0
  simp only [] at yl
  go_wp2_with fail
  clear y0 y1 y2 y3 y4 y5 y6 yl
  refine (ck_st ⟨6, 30, 7, 0, 0, 1, [rowS 2, rowS 4]⟩ 1 (by decide +kernel) _ _ (TY.out.keep K5.out)).mono ?_
  rintro e v6 ⟨rfl, hb⟩
  have K6 : Hid (Keeps W v6) := K5.out.trans hb
  clear hb K5
  go_wp2_with fail
  refine (ck_st ⟨51, 0, 0, 0, 0, 0, []⟩ 3 (by decide +kernel) _ _ (tab_nil _)).mono ?_
  rintro e v7 ⟨rfl, hb⟩
  have K7 : Hid (Keeps W v7) := K6.out.trans hb
  clear hb K6
  go_wp2_with fail
  refine (shop_c _).mono ?_
  rintro e v8 ⟨g8, ka8, kc8, la8, lc8, -, hs8, -, rfl, hb⟩
  have S8 : Hid (TabAt v8 (.slice (some ⟨g8, 0, none⟩) 2 2) [rowS 2, rowS 4]) := hs8.tab
  have K8 : Hid (Keeps W v8) := K7.out.trans hb
  clear hb K7 hs8
  go_wp2_with fail
  refine (shop_c _).mono ?_
  rintro e v9 ⟨g9, ka9, kc9, la9, lc9, -, hs9, -, rfl, hb⟩
  have S9 : Hid (TabAt v9 (.slice (some ⟨g9, 0, none⟩) 2 2) [rowS 2, rowS 4]) := hs9.tab
  have S8 : Hid (TabAt v9 (.slice (some ⟨g8, 0, none⟩) 2 2) [rowS 2, rowS 4]) := S8.out.keep hb
  have K9 : Hid (Keeps W v9) := K8.out.trans hb
  clear hb K8 hs9
  go_wp2_with fail
  refine (same_st shopS shopS true (by decide +kernel) _ _ _ S8.out S9.out).mono ?_
  rintro e v10 ⟨rfl, hb⟩
  have K10 : Hid (Keeps W v10) := K9.out.trans hb
  clear hb K9 S8 S9
  go_wp2_with fail
  refine wpAny_pair 29 19 _ _ rfl rfl (by kernel_rfl) ?_ ?_
  · go_wp2_with fail
    refine (shop_c _).mono ?_
    rintro e v11 ⟨g11, ka11, kc11, la11, lc11, -, hs11, -, rfl, hb⟩
    have S11 : Hid (TabAt v11 (.slice (some ⟨g11, 0, none⟩) 2 2) [rowS 2, rowS 4]) := hs11.tab
    have K11 : Hid (Keeps W v11) := K10.out.trans hb
    clear hb K10 hs11
    have z0 := cell_kept (AZ.out 0 _ rfl) K11.out
    have z1 := cell_kept (AZ.out 1 _ rfl) K11.out
    have z2 := cell_kept (AZ.out 2 _ rfl) K11.out
    have z3 := cell_kept (AZ.out 3 _ rfl) K11.out
    have z4 := cell_kept (AZ.out 4 _ rfl) K11.out
    have z5 := cell_kept (AZ.out 5 _ rfl) K11.out
    have z6 := cell_kept (AZ.out 6 _ rfl) K11.out
    have zl := World.block_lt_of_cell? _ _ z0
    simp only [] at zl
    go_wp2_with fail
    clear z0 z1 z2 z3 z4 z5 z6 zl
    refine wpAny_on 31 4 15 rfl (by kernel_rfl) ?_
    simp only [List.drop_succ_cons, List.drop_zero, List.take_succ_cons, List.take_zero]
    go_wp2_with fail
    refine (same_st shopS ⟨6, 10, 7, 0, 0, 1, [⟨2, 2, 9, []⟩, rowS 4]⟩ false (by decide +kernel) _ _ _ S11.out (TZ.out.keep K11.out)).mono ?_
    rintro e v12 ⟨rfl, hb⟩
    have K12 : Hid (Keeps W v12) := K11.out.trans hb
    clear hb K11 S11
    go_wp2_with fail
    refine wpAny_pair 35 13 _ _ rfl rfl (by kernel_rfl) ?_ ?_
    · go_wp2_with fail
      refine (begin_c _).mono ?_
      rintro e v13 ⟨rfl, hb⟩
      have K13 : Hid (Keeps W v13) := K12.out.trans hb
      clear hb K12
      go_wp2_with fail
      refine wpAny_on 37 3 10 rfl (by kernel_rfl) ?_
      simp only [List.drop_succ_cons, List.drop_zero, List.take_succ_cons, List.take_zero]
      go_wp2_with fail
      refine (same_of0 _).mono ?_
      rintro e v14 ⟨rfl, hb⟩
      have K14 : Hid (Keeps W v14) := K13.out.trans hb
      clear hb K13
      go_wp2_with fail
      refine wpAny_take (i := 44) (v := .agg #[.int .i64 1, .int .i64 0, .int .i64 0, .slice none 0 0]) rfl (by kernel_rfl) (by kernel_rfl) (by kernel_rfl) (fun _ _ _ h => h) (Or.inl ⟨by rfl, ?_⟩) ?_
      · intro w; go_simp
      refine wpAny_ready (rs := [40, 45]) (by kernel_rfl) (by simp) ?_
      refine AllReady.cons rfl (fun K hK => ?_) ?_
      · go_simp
        refine hK _ _ ?_
        clear hK K
        refine wpAny_take (i := 41) (v := .agg #[.int .i64 1, .int .i64 0, .int .i64 0, .slice (some ⟨v14.heap.size, 0, none⟩) 0 0]) rfl (by kernel_rfl) (by kernel_rfl) (by kernel_rfl) (fun _ _ _ h => h) (Or.inl ⟨by rfl, ?_⟩) ?_
        · intro w; go_simp
        refine wpAny_ready (rs := [42, 45]) (by kernel_rfl) (by simp) ?_
        refine AllReady.cons rfl (fun K hK => ?_) ?_
        · go_simp
          refine hK _ _ ?_
          clear hK K
          refine wpAny_take (i := 43) (v := .agg #[.int .i64 0, .int .i64 0, .int .i64 0, .int .i64 0, .int .i64 0, .int .i64 0, .slice (some ⟨v14.heap.size + 1, 0, none⟩) 1 1]) rfl (by kernel_rfl) (by kernel_rfl) (by kernel_rfl) (fun _ _ _ h => h) (Or.inl ⟨by rfl, ?_⟩) ?_
          · intro w; go_simp
          refine wpAny_ready (rs := [45]) (by kernel_rfl) (by simp) ?_
          refine AllReady.cons rfl (fun K hK => ?_) ?_
          · go_simp
            refine hK _ _ ?_
            clear hK K
            refine wpAny_take (i := 46) (v := .agg #[.int .i64 0, .int .i64 0, .int .i64 0, .int .i64 0, .int .i64 0, .int .i64 0, .slice (some ⟨v14.heap.size + 2, 0, none⟩) 1 1]) rfl (by kernel_rfl) (by kernel_rfl) (by kernel_rfl) (fun _ _ _ h => h) (Or.inl ⟨by rfl, ?_⟩) ?_
            · intro w; go_simp
            refine wpAny_at (k := 47) (by kernel_rfl) ?_
            refine wpAny_on 47 3 0 rfl (by kernel_rfl) ?_
            simp only [List.drop_succ_cons, List.drop_zero, List.take_succ_cons, List.take_zero]
            go_wp2_with fail
            refine (same_last (v14.heap.size + 1) (v14.heap.size + 2) (v14.heap.size) _ (by simp [go_sem]) (by simp [go_sem]) (by simp [go_sem]) (by simp [go_sem]) (by simp [go_sem]) (by simp [go_sem]) (by simp [go_sem]) (by simp [go_sem])).mono ?_
            rintro e v15 ⟨rfl, hb⟩
            have KE : Keeps w v15 := KW.out.trans (K14.out.trans ((((Keeps.refl _).alloc _).alloc _).alloc _ |>.trans hb))
            clear hb K14
            go_wp2_with fail
            refine wpAny_done (by kernel_rfl) ?_ _
            go_wp2_with fail
            go_ret
            exact ⟨rfl, KE⟩
          exact AllReady.nil
        refine AllReady.cons rfl (fun K hK => ?_) ?_
        · go_simp
          refine hK _ _ ?_
          clear hK K
          refine wpAny_take (i := 46) (v := .agg #[.int .i64 0, .int .i64 0, .int .i64 0, .int .i64 0, .int .i64 0, .int .i64 0, .slice (some ⟨v14.heap.size + 1, 0, none⟩) 1 1]) rfl (by kernel_rfl) (by kernel_rfl) (by kernel_rfl) (fun _ _ _ h => h) (Or.inl ⟨by rfl, ?_⟩) ?_
          · intro w; go_simp
          refine wpAny_ready (rs := [42]) (by kernel_rfl) (by simp) ?_
          refine AllReady.cons rfl (fun K hK => ?_) ?_
          · go_simp
            refine hK _ _ ?_
            clear hK K
            refine wpAny_take (i := 43) (v := .agg #[.int .i64 0, .int .i64 0, .int .i64 0, .int .i64 0, .int .i64 0, .int .i64 0, .slice (some ⟨v14.heap.size + 2, 0, none⟩) 1 1]) rfl (by kernel_rfl) (by kernel_rfl) (by kernel_rfl) (fun _ _ _ h => h) (Or.inl ⟨by rfl, ?_⟩) ?_
            · intro w; go_simp
            refine wpAny_at (k := 47) (by kernel_rfl) ?_
            refine wpAny_on 47 3 0 rfl (by kernel_rfl) ?_
            simp only [List.drop_succ_cons, List.drop_zero, List.take_succ_cons, List.take_zero]
            go_wp2_with fail
            refine (same_last (v14.heap.size + 2) (v14.heap.size + 1) (v14.heap.size) _ (by simp [go_sem]) (by simp [go_sem]) (by simp [go_sem]) (by simp [go_sem]) (by simp [go_sem]) (by simp [go_sem]) (by simp [go_sem]) (by simp [go_sem])).mono ?_
            rintro e v15 ⟨rfl, hb⟩
            have KE : Keeps w v15 := KW.out.trans (K14.out.trans ((((Keeps.refl _).alloc _).alloc _).alloc _ |>.trans hb))
            clear hb K14
            go_wp2_with fail
            refine wpAny_done (by kernel_rfl) ?_ _
            go_wp2_with fail
            go_ret
            exact ⟨rfl, KE⟩
          exact AllReady.nil
        exact AllReady.nil
      refine AllReady.cons rfl (fun K hK => ?_) ?_
      · go_simp
        refine hK _ _ ?_
        clear hK K
        refine wpAny_take (i := 46) (v := .agg #[.int .i64 0, .int .i64 0, .int .i64 0, .int .i64 0, .int .i64 0, .int .i64 0, .slice (some ⟨v14.heap.size, 0, none⟩) 1 1]) rfl (by kernel_rfl) (by kernel_rfl) (by kernel_rfl) (fun _ _ _ h => h) (Or.inl ⟨by rfl, ?_⟩) ?_
        · intro w; go_simp
        refine wpAny_ready (rs := [40]) (by kernel_rfl) (by simp) ?_
        refine AllReady.cons rfl (fun K hK => ?_) ?_
        · go_simp
          refine hK _ _ ?_
          clear hK K
          refine wpAny_take (i := 41) (v := .agg #[.int .i64 1, .int .i64 0, .int .i64 0, .slice (some ⟨v14.heap.size + 1, 0, none⟩) 0 0]) rfl (by kernel_rfl) (by kernel_rfl) (by kernel_rfl) (fun _ _ _ h => h) (Or.inl ⟨by rfl, ?_⟩) ?_
          · intro w; go_simp
          refine wpAny_ready (rs := [42]) (by kernel_rfl) (by simp) ?_
          refine AllReady.cons rfl (fun K hK => ?_) ?_
          · go_simp
            refine hK _ _ ?_
            clear hK K
            refine wpAny_take (i := 43) (v := .agg #[.int .i64 0, .int .i64 0, .int .i64 0, .int .i64 0, .int .i64 0, .int .i64 0, .slice (some ⟨v14.heap.size + 2, 0, none⟩) 1 1]) rfl (by kernel_rfl) (by kernel_rfl) (by kernel_rfl) (fun _ _ _ h => h) (Or.inl ⟨by rfl, ?_⟩) ?_
            · intro w; go_simp
            refine wpAny_at (k := 47) (by kernel_rfl) ?_
            refine wpAny_on 47 3 0 rfl (by kernel_rfl) ?_
            simp only [List.drop_succ_cons, List.drop_zero, List.take_succ_cons, List.take_zero]
            go_wp2_with fail
            refine (same_last (v14.heap.size + 2) (v14.heap.size) (v14.heap.size + 1) _ (by simp [go_sem]) (by simp [go_sem]) (by simp [go_sem]) (by simp [go_sem]) (by simp [go_sem]) (by simp [go_sem]) (by simp [go_sem]) (by simp [go_sem])).mono ?_
            rintro e v15 ⟨rfl, hb⟩
            have KE : Keeps w v15 := KW.out.trans (K14.out.trans ((((Keeps.refl _).alloc _).alloc _).alloc _ |>.trans hb))
            clear hb K14
            go_wp2_with fail
            refine wpAny_done (by kernel_rfl) ?_ _
            go_wp2_with fail
            go_ret
            exact ⟨rfl, KE⟩
          exact AllReady.nil
        exact AllReady.nil
      exact AllReady.nil
    · go_wp2_with fail
      refine (begin_c _).mono ?_
      rintro e v13 ⟨rfl, hb⟩
      have K13 : Hid (Keeps W v13) := K12.out.trans hb
      clear hb K12
      go_wp2_with fail
      refine wpAny_on 37 3 10 rfl (by kernel_rfl) ?_
      simp only [List.drop_succ_cons, List.drop_zero, List.take_succ_cons, List.take_zero]
      go_wp2_with fail
      refine (same_of0 _).mono ?_
      rintro e v14 ⟨rfl, hb⟩
      have K14 : Hid (Keeps W v14) := K13.out.trans hb
      clear hb K13
      go_wp2_with fail
      refine wpAny_take (i := 44) (v := .agg #[.int .i64 1, .int .i64 0, .int .i64 0, .slice none 0 0]) rfl (by kernel_rfl) (by kernel_rfl) (by kernel_rfl) (fun _ _ _ h => h) (Or.inl ⟨by rfl, ?_⟩) ?_
      · intro w; go_simp
      refine wpAny_ready (rs := [40, 45]) (by kernel_rfl) (by simp) ?_
      refine AllReady.cons rfl (fun K hK => ?_) ?_
      · go_simp
        refine hK _ _ ?_
        clear hK K
        refine wpAny_take (i := 41) (v := .agg #[.int .i64 1, .int .i64 0, .int .i64 0, .slice (some ⟨v14.heap.size, 0, none⟩) 0 0]) rfl (by kernel_rfl) (by kernel_rfl) (by kernel_rfl) (fun _ _ _ h => h) (Or.inl ⟨by rfl, ?_⟩) ?_
        · intro w; go_simp
        refine wpAny_ready (rs := [42, 45]) (by kernel_rfl) (by simp) ?_
        refine AllReady.cons rfl (fun K hK => ?_) ?_
        · go_simp
          refine hK _ _ ?_
          clear hK K
          refine wpAny_take (i := 43) (v := .agg #[.int .i64 0, .int .i64 0, .int .i64 0, .int .i64 0, .int .i64 0, .int .i64 0, .slice (some ⟨v14.heap.size + 1, 0, none⟩) 1 1]) rfl (by kernel_rfl) (by kernel_rfl) (by kernel_rfl) (fun _ _ _ h => h) (Or.inl ⟨by rfl, ?_⟩) ?_
          · intro w; go_simp
          refine wpAny_ready (rs := [45]) (by kernel_rfl) (by simp) ?_
          refine AllReady.cons rfl (fun K hK => ?_) ?_
          · go_simp
            refine hK _ _ ?_
            clear hK K
            refine wpAny_take (i := 46) (v := .agg #[.int .i64 0, .int .i64 0, .int .i64 0, .int .i64 0, .int .i64 0, .int .i64 0, .slice (some ⟨v14.heap.size + 2, 0, none⟩) 1 1]) rfl (by kernel_rfl) (by kernel_rfl) (by kernel_rfl) (fun _ _ _ h => h) (Or.inl ⟨by rfl, ?_⟩) ?_
            · intro w; go_simp
            refine wpAny_at (k := 47) (by kernel_rfl) ?_
            refine wpAny_on 47 3 0 rfl (by kernel_rfl) ?_
            simp only [List.drop_succ_cons, List.drop_zero, List.take_succ_cons, List.take_zero]
            go_wp2_with fail
            refine (same_last (v14.heap.size + 1) (v14.heap.size + 2) (v14.heap.size) _ (by simp [go_sem]) (by simp [go_sem]) (by simp [go_sem]) (by simp [go_sem]) (by simp [go_sem]) (by simp [go_sem]) (by simp [go_sem]) (by simp [go_sem])).mono ?_
            rintro e v15 ⟨rfl, hb⟩
            have KE : Keeps w v15 := KW.out.trans (K14.out.trans ((((Keeps.refl _).alloc _).alloc _).alloc _ |>.trans hb))
            clear hb K14
            go_wp2_with fail
            refine wpAny_done (by kernel_rfl) ?_ _
            go_wp2_with fail
            go_ret
            exact ⟨rfl, KE⟩
          exact AllReady.nil
        refine AllReady.cons rfl (fun K hK => ?_) ?_
        · go_simp
          refine hK _ _ ?_
          clear hK K
          refine wpAny_take (i := 46) (v := .agg #[.int .i64 0, .int .i64 0, .int .i64 0, .int .i64 0, .int .i64 0, .int .i64 0, .slice (some ⟨v14.heap.size + 1, 0, none⟩) 1 1]) rfl (by kernel_rfl) (by kernel_rfl) (by kernel_rfl) (fun _ _ _ h => h) (Or.inl ⟨by rfl, ?_⟩) ?_
          · intro w; go_simp
          refine wpAny_ready (rs := [42]) (by kernel_rfl) (by simp) ?_
          refine AllReady.cons rfl (fun K hK => ?_) ?_
          · go_simp
            refine hK _ _ ?_
            clear hK K
            refine wpAny_take (i := 43) (v := .agg #[.int .i64 0, .int .i64 0, .int .i64 0, .int .i64 0, .int .i64 0, .int .i64 0, .slice (some ⟨v14.heap.size + 2, 0, none⟩) 1 1]) rfl (by kernel_rfl) (by kernel_rfl) (by kernel_rfl) (fun _ _ _ h => h) (Or.inl ⟨by rfl, ?_⟩) ?_
            · intro w; go_simp
            refine wpAny_at (k := 47) (by kernel_rfl) ?_
            refine wpAny_on 47 3 0 rfl (by kernel_rfl) ?_
            simp only [List.drop_succ_cons, List.drop_zero, List.take_succ_cons, List.take_zero]
            go_wp2_with fail
            refine (same_last (v14.heap.size + 2) (v14.heap.size + 1) (v14.heap.size) _ (by simp [go_sem]) (by simp [go_sem]) (by simp [go_sem]) (by simp [go_sem]) (by simp [go_sem]) (by simp [go_sem]) (by simp [go_sem]) (by simp [go_sem])).mono ?_
            rintro e v15 ⟨rfl, hb⟩
            have KE : Keeps w v15 := KW.out.trans (K14.out.trans ((((Keeps.refl _).alloc _).alloc _).alloc _ |>.trans hb))
            clear hb K14
            go_wp2_with fail
            refine wpAny_done (by kernel_rfl) ?_ _
            go_wp2_with fail
            go_ret
            exact ⟨rfl, KE⟩
          exact AllReady.nil
        exact AllReady.nil
      refine AllReady.cons rfl (fun K hK => ?_) ?_
      · go_simp
        refine hK _ _ ?_
        clear hK K
        refine wpAny_take (i := 46) (v := .agg #[.int .i64 0, .int .i64 0, .int .i64 0, .int .i64 0, .int .i64 0, .int .i64 0, .slice (some ⟨v14.heap.size, 0, none⟩) 1 1]) rfl (by kernel_rfl) (by kernel_rfl) (by kernel_rfl) (fun _ _ _ h => h) (Or.inl ⟨by rfl, ?_⟩) ?_
        · intro w; go_simp
        refine wpAny_ready (rs := [40]) (by kernel_rfl) (by simp) ?_
        refine AllReady.cons rfl (fun K hK => ?_) ?_
        · go_simp
          refine hK _ _ ?_
          clear hK K
          refine wpAny_take (i := 41) (v := .agg #[.int .i64 1, .int .i64 0, .int .i64 0, .slice (some ⟨v14.heap.size + 1, 0, none⟩) 0 0]) rfl (by kernel_rfl) (by kernel_rfl) (by kernel_rfl) (fun _ _ _ h => h) (Or.inl ⟨by rfl, ?_⟩) ?_
          · intro w; go_simp
          refine wpAny_ready (rs := [42]) (by kernel_rfl) (by simp) ?_
          refine AllReady.cons rfl (fun K hK => ?_) ?_
          · go_simp
            refine hK _ _ ?_
            clear hK K
            refine wpAny_take (i := 43) (v := .agg #[.int .i64 0, .int .i64 0, .int .i64 0, .int .i64 0, .int .i64 0, .int .i64 0, .slice (some ⟨v14.heap.size + 2, 0, none⟩) 1 1]) rfl (by kernel_rfl) (by kernel_rfl) (by kernel_rfl) (fun _ _ _ h => h) (Or.inl ⟨by rfl, ?_⟩) ?_
            · intro w; go_simp
            refine wpAny_at (k := 47) (by kernel_rfl) ?_
            refine wpAny_on 47 3 0 rfl (by kernel_rfl) ?_
            simp only [List.drop_succ_cons, List.drop_zero, List.take_succ_cons, List.take_zero]
            go_wp2_with fail
            refine (same_last (v14.heap.size + 2) (v14.heap.size) (v14.heap.size + 1) _ (by simp [go_sem]) (by simp [go_sem]) (by simp [go_sem]) (by simp [go_sem]) (by simp [go_sem]) (by simp [go_sem]) (by simp [go_sem]) (by simp [go_sem])).mono ?_
            rintro e v15 ⟨rfl, hb⟩
            have KE : Keeps w v15 := KW.out.trans (K14.out.trans ((((Keeps.refl _).alloc _).alloc _).alloc _ |>.trans hb))
            clear hb K14
            go_wp2_with fail
            refine wpAny_done (by kernel_rfl) ?_ _
            go_wp2_with fail
            go_ret
            exact ⟨rfl, KE⟩
          exact AllReady.nil
        exact AllReady.nil
      exact AllReady.nil
  · have z0 := cell_kept (AZ.out 0 _ rfl) K10.out
    have z1 := cell_kept (AZ.out 1 _ rfl) K10.out
    have z2 := cell_kept (AZ.out 2 _ rfl) K10.out
    have z3 := cell_kept (AZ.out 3 _ rfl) K10.out
    have z4 := cell_kept (AZ.out 4 _ rfl) K10.out
    have z5 := cell_kept (AZ.out 5 _ rfl) K10.out
    have z6 := cell_kept (AZ.out 6 _ rfl) K10.out
    have zl := World.block_lt_of_cell? _ _ z0
    simp only [] at zl
    go_wp2_with fail
    clear z0 z1 z2 z3 z4 z5 z6 zl
    refine (shop_c _).mono ?_
    rintro e v11 ⟨g11, ka11, kc11, la11, lc11, -, hs11, -, rfl, hb⟩
    have S11 : Hid (TabAt v11 (.slice (some ⟨g11, 0, none⟩) 2 2) [rowS 2, rowS 4]) := hs11.tab
    have K11 : Hid (Keeps W v11) := K10.out.trans hb
    clear hb K10 hs11
    go_wp2_with fail
    refine wpAny_on 31 4 15 rfl (by kernel_rfl) ?_
    simp only [List.drop_succ_cons, List.drop_zero, List.take_succ_cons, List.take_zero]
    go_wp2_with fail
    refine (same_st shopS ⟨6, 10, 7, 0, 0, 1, [⟨2, 2, 9, []⟩, rowS 4]⟩ false (by decide +kernel) _ _ _ S11.out (TZ.out.keep K11.out)).mono ?_
    rintro e v12 ⟨rfl, hb⟩
    have K12 : Hid (Keeps W v12) := K11.out.trans hb
    clear hb K11 S11
    go_wp2_with fail
    refine wpAny_pair 35 13 _ _ rfl rfl (by kernel_rfl) ?_ ?_
    · go_wp2_with fail
      refine (begin_c _).mono ?_
      rintro e v13 ⟨rfl, hb⟩
      have K13 : Hid (Keeps W v13) := K12.out.trans hb
      clear hb K12
      go_wp2_with fail
      refine wpAny_on 37 3 10 rfl (by kernel_rfl) ?_
      simp only [List.drop_succ_cons, List.drop_zero, List.take_succ_cons, List.take_zero]
      go_wp2_with fail
      refine (same_of0 _).mono ?_
      rintro e v14 ⟨rfl, hb⟩
      have K14 : Hid (Keeps W v14) := K13.out.trans hb
      clear hb K13
      go_wp2_with fail
      refine wpAny_take (i := 44) (v := .agg #[.int .i64 1, .int .i64 0, .int .i64 0, .slice none 0 0]) rfl (by kernel_rfl) (by kernel_rfl) (by kernel_rfl) (fun _ _ _ h => h) (Or.inl ⟨by rfl, ?_⟩) ?_
      · intro w; go_simp
      refine wpAny_ready (rs := [40, 45]) (by kernel_rfl) (by simp) ?_
      refine AllReady.cons rfl (fun K hK => ?_) ?_
      · go_simp
        refine hK _ _ ?_
        clear hK K
        refine wpAny_take (i := 41) (v := .agg #[.int .i64 1, .int .i64 0, .int .i64 0, .slice (some ⟨v14.heap.size, 0, none⟩) 0 0]) rfl (by kernel_rfl) (by kernel_rfl) (by kernel_rfl) (fun _ _ _ h => h) (Or.inl ⟨by rfl, ?_⟩) ?_
        · intro w; go_simp
        refine wpAny_ready (rs := [42, 45]) (by kernel_rfl) (by simp) ?_
        refine AllReady.cons rfl (fun K hK => ?_) ?_
        · go_simp
          refine hK _ _ ?_
          clear hK K
          refine wpAny_take (i := 43) (v := .agg #[.int .i64 0, .int .i64 0, .int .i64 0, .int .i64 0, .int .i64 0, .int .i64 0, .slice (some ⟨v14.heap.size + 1, 0, none⟩) 1 1]) rfl (by kernel_rfl) (by kernel_rfl) (by kernel_rfl) (fun _ _ _ h => h) (Or.inl ⟨by rfl, ?_⟩) ?_
          · intro w; go_simp
          refine wpAny_ready (rs := [45]) (by kernel_rfl) (by simp) ?_
          refine AllReady.cons rfl (fun K hK => ?_) ?_
          · go_simp
            refine hK _ _ ?_
            clear hK K
            refine wpAny_take (i := 46) (v := .agg #[.int .i64 0, .int .i64 0, .int .i64 0, .int .i64 0, .int .i64 0, .int .i64 0, .slice (some ⟨v14.heap.size + 2, 0, none⟩) 1 1]) rfl (by kernel_rfl) (by kernel_rfl) (by kernel_rfl) (fun _ _ _ h => h) (Or.inl ⟨by rfl, ?_⟩) ?_
            · intro w; go_simp
            refine wpAny_at (k := 47) (by kernel_rfl) ?_
            refine wpAny_on 47 3 0 rfl (by kernel_rfl) ?_
            simp only [List.drop_succ_cons, List.drop_zero, List.take_succ_cons, List.take_zero]
            go_wp2_with fail
            refine (same_last (v14.heap.size + 1) (v14.heap.size + 2) (v14.heap.size) _ (by simp [go_sem]) (by simp [go_sem]) (by simp [go_sem]) (by simp [go_sem]) (by simp [go_sem]) (by simp [go_sem]) (by simp [go_sem]) (by simp [go_sem])).mono ?_
            rintro e v15 ⟨rfl, hb⟩
            have KE : Keeps w v15 := KW.out.trans (K14.out.trans ((((Keeps.refl _).alloc _).alloc _).alloc _ |>.trans hb))
            clear hb K14
            go_wp2_with fail
            refine wpAny_done (by kernel_rfl) ?_ _
            go_wp2_with fail
            go_ret
            exact ⟨rfl, KE⟩
          exact AllReady.nil
        refine AllReady.cons rfl (fun K hK => ?_) ?_
        · go_simp
          refine hK _ _ ?_
          clear hK K
          refine wpAny_take (i := 46) (v := .agg #[.int .i64 0, .int .i64 0, .int .i64 0, .int .i64 0, .int .i64 0, .int .i64 0, .slice (some ⟨v14.heap.size + 1, 0, none⟩) 1 1]) rfl (by kernel_rfl) (by kernel_rfl) (by kernel_rfl) (fun _ _ _ h => h) (Or.inl ⟨by rfl, ?_⟩) ?_
          · intro w; go_simp
          refine wpAny_ready (rs := [42]) (by kernel_rfl) (by simp) ?_
          refine AllReady.cons rfl (fun K hK => ?_) ?_
          · go_simp
            refine hK _ _ ?_
            clear hK K
            refine wpAny_take (i := 43) (v := .agg #[.int .i64 0, .int .i64 0, .int .i64 0, .int .i64 0, .int .i64 0, .int .i64 0, .slice (some ⟨v14.heap.size + 2, 0, none⟩) 1 1]) rfl (by kernel_rfl) (by kernel_rfl) (by kernel_rfl) (fun _ _ _ h => h) (Or.inl ⟨by rfl, ?_⟩) ?_
            · intro w; go_simp
            refine wpAny_at (k := 47) (by kernel_rfl) ?_
            refine wpAny_on 47 3 0 rfl (by kernel_rfl) ?_
            simp only [List.drop_succ_cons, List.drop_zero, List.take_succ_cons, List.take_zero]
            go_wp2_with fail
            refine (same_last (v14.heap.size + 2) (v14.heap.size + 1) (v14.heap.size) _ (by simp [go_sem]) (by simp [go_sem]) (by simp [go_sem]) (by simp [go_sem]) (by simp [go_sem]) (by simp [go_sem]) (by simp [go_sem]) (by simp [go_sem])).mono ?_
            rintro e v15 ⟨rfl, hb⟩
            have KE : Keeps w v15 := KW.out.trans (K14.out.trans ((((Keeps.refl _).alloc _).alloc _).alloc _ |>.trans hb))
            clear hb K14
            go_wp2_with fail
            refine wpAny_done (by kernel_rfl) ?_ _
            go_wp2_with fail
            go_ret
            exact ⟨rfl, KE⟩
          exact AllReady.nil
        exact AllReady.nil
      refine AllReady.cons rfl (fun K hK => ?_) ?_
      · go_simp
        refine hK _ _ ?_
        clear hK K
        refine wpAny_take (i := 46) (v := .agg #[.int .i64 0, .int .i64 0, .int .i64 0, .int .i64 0, .int .i64 0, .int .i64 0, .slice (some ⟨v14.heap.size, 0, none⟩) 1 1]) rfl (by kernel_rfl) (by kernel_rfl) (by kernel_rfl) (fun _ _ _ h => h) (Or.inl ⟨by rfl, ?_⟩) ?_
        · intro w; go_simp
        refine wpAny_ready (rs := [40]) (by kernel_rfl) (by simp) ?_
        refine AllReady.cons rfl (fun K hK => ?_) ?_
        · go_simp
          refine hK _ _ ?_
          clear hK K
          refine wpAny_take (i := 41) (v := .agg #[.int .i64 1, .int .i64 0, .int .i64 0, .slice (some ⟨v14.heap.size + 1, 0, none⟩) 0 0]) rfl (by kernel_rfl) (by kernel_rfl) (by kernel_rfl) (fun _ _ _ h => h) (Or.inl ⟨by rfl, ?_⟩) ?_
          · intro w; go_simp
          refine wpAny_ready (rs := [42]) (by kernel_rfl) (by simp) ?_
          refine AllReady.cons rfl (fun K hK => ?_) ?_
          · go_simp
            refine hK _ _ ?_
            clear hK K
            refine wpAny_take (i := 43) (v := .agg #[.int .i64 0, .int .i64 0, .int .i64 0, .int .i64 0, .int .i64 0, .int .i64 0, .slice (some ⟨v14.heap.size + 2, 0, none⟩) 1 1]) rfl (by kernel_rfl) (by kernel_rfl) (by kernel_rfl) (fun _ _ _ h => h) (Or.inl ⟨by rfl, ?_⟩) ?_
            · intro w; go_simp
            refine wpAny_at (k := 47) (by kernel_rfl) ?_
            refine wpAny_on 47 3 0 rfl (by kernel_rfl) ?_
            simp only [List.drop_succ_cons, List.drop_zero, List.take_succ_cons, List.take_zero]
            go_wp2_with fail
            refine (same_last (v14.heap.size + 2) (v14.heap.size) (v14.heap.size + 1) _ (by simp [go_sem]) (by simp [go_sem]) (by simp [go_sem]) (by simp [go_sem]) (by simp [go_sem]) (by simp [go_sem]) (by simp [go_sem]) (by simp [go_sem])).mono ?_
            rintro e v15 ⟨rfl, hb⟩
            have KE : Keeps w v15 := KW.out.trans (K14.out.trans ((((Keeps.refl _).alloc _).alloc _).alloc _ |>.trans hb))
            clear hb K14
            go_wp2_with fail
            refine wpAny_done (by kernel_rfl) ?_ _
            go_wp2_with fail
            go_ret
            exact ⟨rfl, KE⟩
          exact AllReady.nil
        exact AllReady.nil
      exact AllReady.nil
    · go_wp2_with fail
      refine (begin_c _).mono ?_
      rintro e v13 ⟨rfl, hb⟩
      have K13 : Hid (Keeps W v13) := K12.out.trans hb
      clear hb K12
      go_wp2_with fail
      refine wpAny_on 37 3 10 rfl (by kernel_rfl) ?_
      simp only [List.drop_succ_cons, List.drop_zero, List.take_succ_cons, List.take_zero]
      go_wp2_with fail
      refine (same_of0 _).mono ?_
      rintro e v14 ⟨rfl, hb⟩
      have K14 : Hid (Keeps W v14) := K13.out.trans hb
      clear hb K13
      go_wp2_with fail
      refine wpAny_take (i := 44) (v := .agg #[.int .i64 1, .int .i64 0, .int .i64 0, .slice none 0 0]) rfl (by kernel_rfl) (by kernel_rfl) (by kernel_rfl) (fun _ _ _ h => h) (Or.inl ⟨by rfl, ?_⟩) ?_
      · intro w; go_simp
      refine wpAny_ready (rs := [40, 45]) (by kernel_rfl) (by simp) ?_
      refine AllReady.cons rfl (fun K hK => ?_) ?_
      · go_simp
        refine hK _ _ ?_
        clear hK K
        refine wpAny_take (i := 41) (v := .agg #[.int .i64 1, .int .i64 0, .int .i64 0, .slice (some ⟨v14.heap.size, 0, none⟩) 0 0]) rfl (by kernel_rfl) (by kernel_rfl) (by kernel_rfl) (fun _ _ _ h => h) (Or.inl ⟨by rfl, ?_⟩) ?_
        · intro w; go_simp
        refine wpAny_ready (rs := [42, 45]) (by kernel_rfl) (by simp) ?_
        refine AllReady.cons rfl (fun K hK => ?_) ?_
        · go_simp
          refine hK _ _ ?_
          clear hK K
          refine wpAny_take (i := 43) (v := .agg #[.int .i64 0, .int .i64 0, .int .i64 0, .int .i64 0, .int .i64 0, .int .i64 0, .slice (some ⟨v14.heap.size + 1, 0, none⟩) 1 1]) rfl (by kernel_rfl) (by kernel_rfl) (by kernel_rfl) (fun _ _ _ h => h) (Or.inl ⟨by rfl, ?_⟩) ?_
          · intro w; go_simp
          refine wpAny_ready (rs := [45]) (by kernel_rfl) (by simp) ?_
          refine AllReady.cons rfl (fun K hK => ?_) ?_
          · go_simp
            refine hK _ _ ?_
            clear hK K
            refine wpAny_take (i := 46) (v := .agg #[.int .i64 0, .int .i64 0, .int .i64 0, .int .i64 0, .int .i64 0, .int .i64 0, .slice (some ⟨v14.heap.size + 2, 0, none⟩) 1 1]) rfl (by kernel_rfl) (by kernel_rfl) (by kernel_rfl) (fun _ _ _ h => h) (Or.inl ⟨by rfl, ?_⟩) ?_
            · intro w; go_simp
            refine wpAny_at (k := 47) (by kernel_rfl) ?_
            refine wpAny_on 47 3 0 rfl (by kernel_rfl) ?_
            simp only [List.drop_succ_cons, List.drop_zero, List.take_succ_cons, List.take_zero]
            go_wp2_with fail
            refine (same_last (v14.heap.size + 1) (v14.heap.size + 2) (v14.heap.size) _ (by simp [go_sem]) (by simp [go_sem]) (by simp [go_sem]) (by simp [go_sem]) (by simp [go_sem]) (by simp [go_sem]) (by simp [go_sem]) (by simp [go_sem])).mono ?_
            rintro e v15 ⟨rfl, hb⟩
            have KE : Keeps w v15 := KW.out.trans (K14.out.trans ((((Keeps.refl _).alloc _).alloc _).alloc _ |>.trans hb))
            clear hb K14
            go_wp2_with fail
            refine wpAny_done (by kernel_rfl) ?_ _
            go_wp2_with fail
            go_ret
            exact ⟨rfl, KE⟩
          exact AllReady.nil
        refine AllReady.cons rfl (fun K hK => ?_) ?_
        · go_simp
          refine hK _ _ ?_
          clear hK K
          refine wpAny_take (i := 46) (v := .agg #[.int .i64 0, .int .i64 0, .int .i64 0, .int .i64 0, .int .i64 0, .int .i64 0, .slice (some ⟨v14.heap.size + 1, 0, none⟩) 1 1]) rfl (by kernel_rfl) (by kernel_rfl) (by kernel_rfl) (fun _ _ _ h => h) (Or.inl ⟨by rfl, ?_⟩) ?_
          · intro w; go_simp
          refine wpAny_ready (rs := [42]) (by kernel_rfl) (by simp) ?_
          refine AllReady.cons rfl (fun K hK => ?_) ?_
          · go_simp
            refine hK _ _ ?_
            clear hK K
            refine wpAny_take (i := 43) (v := .agg #[.int .i64 0, .int .i64 0, .int .i64 0, .int .i64 0, .int .i64 0, .int .i64 0, .slice (some ⟨v14.heap.size + 2, 0, none⟩) 1 1]) rfl (by kernel_rfl) (by kernel_rfl) (by kernel_rfl) (fun _ _ _ h => h) (Or.inl ⟨by rfl, ?_⟩) ?_
            · intro w; go_simp
            refine wpAny_at (k := 47) (by kernel_rfl) ?_
            refine wpAny_on 47 3 0 rfl (by kernel_rfl) ?_
            simp only [List.drop_succ_cons, List.drop_zero, List.take_succ_cons, List.take_zero]
            go_wp2_with fail
            refine (same_last (v14.heap.size + 2) (v14.heap.size + 1) (v14.heap.size) _ (by simp [go_sem]) (by simp [go_sem]) (by simp [go_sem]) (by simp [go_sem]) (by simp [go_sem]) (by simp [go_sem]) (by simp [go_sem]) (by simp [go_sem])).mono ?_
            rintro e v15 ⟨rfl, hb⟩
            have KE : Keeps w v15 := KW.out.trans (K14.out.trans ((((Keeps.refl _).alloc _).alloc _).alloc _ |>.trans hb))
            clear hb K14
            go_wp2_with fail
            refine wpAny_done (by kernel_rfl) ?_ _
            go_wp2_with fail
            go_ret
            exact ⟨rfl, KE⟩
          exact AllReady.nil
        exact AllReady.nil
      refine AllReady.cons rfl (fun K hK => ?_) ?_
      · go_simp
        refine hK _ _ ?_
        clear hK K
        refine wpAny_take (i := 46) (v := .agg #[.int .i64 0, .int .i64 0, .int .i64 0, .int .i64 0, .int .i64 0, .int .i64 0, .slice (some ⟨v14.heap.size, 0, none⟩) 1 1]) rfl (by kernel_rfl) (by kernel_rfl) (by kernel_rfl) (fun _ _ _ h => h) (Or.inl ⟨by rfl, ?_⟩) ?_
        · intro w; go_simp
        refine wpAny_ready (rs := [40]) (by kernel_rfl) (by simp) ?_
        refine AllReady.cons rfl (fun K hK => ?_) ?_
        · go_simp
          refine hK _ _ ?_
          clear hK K
          refine wpAny_take (i := 41) (v := .agg #[.int .i64 1, .int .i64 0, .int .i64 0, .slice (some ⟨v14.heap.size + 1, 0, none⟩) 0 0]) rfl (by kernel_rfl) (by kernel_rfl) (by kernel_rfl) (fun _ _ _ h => h) (Or.inl ⟨by rfl, ?_⟩) ?_
          · intro w; go_simp
          refine wpAny_ready (rs := [42]) (by kernel_rfl) (by simp) ?_
          refine AllReady.cons rfl (fun K hK => ?_) ?_
          · go_simp
            refine hK _ _ ?_
            clear hK K
            refine wpAny_take (i := 43) (v := .agg #[.int .i64 0, .int .i64 0, .int .i64 0, .int .i64 0, .int .i64 0, .int .i64 0, .slice (some ⟨v14.heap.size + 2, 0, none⟩) 1 1]) rfl (by kernel_rfl) (by kernel_rfl) (by kernel_rfl) (fun _ _ _ h => h) (Or.inl ⟨by rfl, ?_⟩) ?_
            · intro w; go_simp
            refine wpAny_at (k := 47) (by kernel_rfl) ?_
            refine wpAny_on 47 3 0 rfl (by kernel_rfl) ?_
            simp only [List.drop_succ_cons, List.drop_zero, List.take_succ_cons, List.take_zero]
            go_wp2_with fail
            refine (same_last (v14.heap.size + 2) (v14.heap.size) (v14.heap.size + 1) _ (by simp [go_sem]) (by simp [go_sem]) (by simp [go_sem]) (by simp [go_sem]) (by simp [go_sem]) (by simp [go_sem]) (by simp [go_sem]) (by simp [go_sem])).mono ?_
            rintro e v15 ⟨rfl, hb⟩
            have KE : Keeps w v15 := KW.out.trans (K14.out.trans ((((Keeps.refl _).alloc _).alloc _).alloc _ |>.trans hb))
            clear hb K14
            go_wp2_with fail
            refine wpAny_done (by kernel_rfl) ?_ _
            go_wp2_with fail
            go_ret
            exact ⟨rfl, KE⟩
          exact AllReady.nil
        exact AllReady.nil
      exact AllReady.nil
end Go.Proofs.Yteabfjpajgakiab

/- StateTells: the law's walk. -/
set_option linter.unusedSimpArgs false
set_option linter.unusedVariables false
set_option maxRecDepth 10000
namespace Go.Proofs.Yteabfjpajgakiab
open Go.RowKit

set_option maxHeartbeats 4000000 in
theorem state_tells (s t : St) (x y : Value) (w : World) (h1 : TabAt w x s.tab) (h2 : TabAt w y t.tab) :
    Calls Try.prog 3 #[stV s x, stV t y] w fun e w' => e = .returned (.bool true) ∧ Keeps w w' := by
  obtain ⟨a, c, rfl, _⟩ := h1.len
  obtain ⟨a', c', rfl, _⟩ := h2.len
  have hkk : Keeps w ((w.alloc (.cells #[.int .i64 s.at_, .int .i64 s.clock, .int .i64 s.v0, .int .i64 s.v1, .int .i64 s.v2, .int .i64 s.v3, .slice a s.tab.length c] 25)).alloc (.cells #[.int .i64 t.at_, .int .i64 t.clock, .int .i64 t.v0, .int .i64 t.v1, .int .i64 t.v2, .int .i64 t.v3, .slice a' t.tab.length c'] 25)) := ((Keeps.refl _).alloc _).alloc _
  have C1 : Hid (∀ W, Keeps w W → Calls Try.prog 10 #[stV s (.slice a s.tab.length c)] W fun e w' => e = .returned (.int .i64 (stErr s)) ∧ Keeps W w') := fun W hk => state_check s _ W (h1.keep hk)
  have C2 : Hid (∀ W, Keeps w W → Calls Try.prog 11 #[stV s (.slice a s.tab.length c)] W fun e w' => e = .returned (.int .i64 (stErr s)) ∧ Keeps W w') := fun W hk => state_error s _ W (h1.keep hk)
  have C3 : Hid (∀ W, Keeps w W → Calls Try.prog 12 #[stV s (.slice a s.tab.length c), stV t (.slice a' t.tab.length c')] W fun e w' => e = .returned (.bool (sameSt s t)) ∧ Keeps W w') := fun W hk => state_same s t _ _ W (h1.keep hk) (h2.keep hk)
  have C4 : Hid (∀ W, Keeps w W → Calls Try.prog 13 #[stV s (.slice a s.tab.length c), stV t (.slice a' t.tab.length c')] W fun e w' => e = .returned (.bool (sameSt s t)) ∧ Keeps W w') := fun W hk => same_of s t _ _ W (h1.keep hk) (h2.keep hk)
  clear h1 h2
  generalize stErr s = er at C1 C2
  generalize sameSt s t = sm at C3 C4
  generalize s.tab.length = n at *
  generalize t.tab.length = n' at *
  go_enter Try.func3, Try.ntmps3
  go_wp2_with fail
  have hne := After.some ((w.alloc (.cells #[.int .i64 s.at_, .int .i64 s.clock, .int .i64 s.v0, .int .i64 s.v1, .int .i64 s.v2, .int .i64 s.v3, .slice a n c] 25)).alloc (.cells #[.int .i64 t.at_, .int .i64 t.clock, .int .i64 t.v0, .int .i64 t.v1, .int .i64 t.v2, .int .i64 t.v3, .slice a' n' c'] 25))
  have KA : Hid (∀ r : After ((w.alloc (.cells #[.int .i64 s.at_, .int .i64 s.clock, .int .i64 s.v0, .int .i64 s.v1, .int .i64 s.v2, .int .i64 s.v3, .slice a n c] 25)).alloc (.cells #[.int .i64 t.at_, .int .i64 t.clock, .int .i64 t.v0, .int .i64 t.v1, .int .i64 t.v2, .int .i64 t.v3, .slice a' n' c'] 25)), Keeps w r.w) := fun r => hkk.trans r.h
  have XA : ∀ (i : Nat) (u : Value), #[.int .i64 s.at_, .int .i64 s.clock, .int .i64 s.v0, .int .i64 s.v1, .int .i64 s.v2, .int .i64 s.v3, Value.slice a n c][i]? = some u → ∀ r : After ((w.alloc (.cells #[.int .i64 s.at_, .int .i64 s.clock, .int .i64 s.v0, .int .i64 s.v1, .int .i64 s.v2, .int .i64 s.v3, .slice a n c] 25)).alloc (.cells #[.int .i64 t.at_, .int .i64 t.clock, .int .i64 t.v0, .int .i64 t.v1, .int .i64 t.v2, .int .i64 t.v3, .slice a' n' c'] 25)), r.w.cell? ⟨w.heap.size, i, none⟩ = some u := fun i u hu r =>
    cell_kept (cell_kept (W := w.alloc (.cells #[.int .i64 s.at_, .int .i64 s.clock, .int .i64 s.v0, .int .i64 s.v1, .int .i64 s.v2, .int .i64 s.v3, .slice a n c] 25)) (by rw [World.cell?_alloc_at _ _ _ _ rfl]; exact hu) ((Keeps.refl _).alloc _)) r.h
  have YA : ∀ (i : Nat) (u : Value), #[.int .i64 t.at_, .int .i64 t.clock, .int .i64 t.v0, .int .i64 t.v1, .int .i64 t.v2, .int .i64 t.v3, Value.slice a' n' c'][i]? = some u → ∀ r : After ((w.alloc (.cells #[.int .i64 s.at_, .int .i64 s.clock, .int .i64 s.v0, .int .i64 s.v1, .int .i64 s.v2, .int .i64 s.v3, .slice a n c] 25)).alloc (.cells #[.int .i64 t.at_, .int .i64 t.clock, .int .i64 t.v0, .int .i64 t.v1, .int .i64 t.v2, .int .i64 t.v3, .slice a' n' c'] 25)), r.w.cell? ⟨w.heap.size + 1, i, none⟩ = some u := fun i u hu r =>
    cell_kept (by rw [World.cell?_alloc_at _ _ _ _ (by simp)]; exact hu) r.h
  have x0 := XA 0 _ rfl
  have x1 := XA 1 _ rfl
  have x2 := XA 2 _ rfl
  have x3 := XA 3 _ rfl
  have x4 := XA 4 _ rfl
  have x5 := XA 5 _ rfl
  have x6 := XA 6 _ rfl
  have y0 := YA 0 _ rfl
  have y1 := YA 1 _ rfl
  have y2 := YA 2 _ rfl
  have y3 := YA 3 _ rfl
  have y4 := YA 4 _ rfl
  have y5 := YA 5 _ rfl
  have y6 := YA 6 _ rfl
  clear XA YA
  generalize ((w.alloc (.cells #[.int .i64 s.at_, .int .i64 s.clock, .int .i64 s.v0, .int .i64 s.v1, .int .i64 s.v2, .int .i64 s.v3, .slice a n c] 25)).alloc (.cells #[.int .i64 t.at_, .int .i64 t.clock, .int .i64 t.v0, .int .i64 t.v1, .int .i64 t.v2, .int .i64 t.v3, .slice a' n' c'] 25)) = W at *
  refine wp_region_after (by kernel_rfl) (by kernel_rfl) ?_
  repeat (first | go_big_quiet_skip | (go_big_quiet_want; go_big_quiet_op; first | go_big_quiet_on | (apply Exists.intro; refine ⟨fun _ => ?_, ?_⟩; (first | (go_at_call 9; exact calls_after (state_begun _)) | (go_at_call 10; exact calls_after (C1.out _ (KA.out _))) | (go_at_call 11; exact calls_after (C2.out _ (KA.out _))) | (go_at_call 12; exact calls_after (C3.out _ (KA.out _))) | (go_at_call 13; exact calls_after (C4.out _ (KA.out _)))); go_big_quiet_on)))
  refine wpQuiet_nil ?_
  rintro _ ⟨r, rfl⟩
  go_wp2_with fail
  go_ret
  exact ⟨rfl, KA.out r⟩
end Go.Proofs.Yteabfjpajgakiab

/- Leaf contracts of package op. -/
namespace Go.Proofs.Yteabfjpajgakiab
open Go.RowKit

abbrev opV (k key tk n : Int) : Value := .agg #[.int .i64 k, .int .i64 key, .int .i64 tk, .int .i64 n]
theorem is_val (n : Int) (w : World) :
    Calls Try.prog 43 #[.int .i64 n] w fun e w' => e = .returned (.bool (inB n 0 999)) ∧ w = w' := by
  go_enter Try.func43, Try.ntmps43
  go_wp2_with (go_at_call 26; refine (bound_in _ _ _ _).mono ?_; rintro e w' ⟨rfl, rfl⟩)
  go_ret
  exact ⟨rfl, rfl⟩

theorem is_key (n : Int) (w : World) :
    Calls Try.prog 67 #[.int .i64 n] w fun e w' => e = .returned (.bool (inB n 0 3)) ∧ w = w' := by
  go_enter Try.func67, Try.ntmps67
  go_wp2_with (go_at_call 26; refine (bound_in _ _ _ _).mono ?_; rintro e w' ⟨rfl, rfl⟩)
  go_ret
  exact ⟨rfl, rfl⟩

theorem has_to (k key tk n : Int) (w : World) :
    Calls Try.prog 51 #[opV k key tk n] w fun e w' => e = .returned (.bool (k == 3)) ∧ w' = w.alloc (.cells #[.int .i64 k, .int .i64 key, .int .i64 tk, .int .i64 n] 31) := by
  unfold opV
  go_enter Try.func51, Try.ntmps51
  go_wp2
  go_ret
  exact ⟨rfl, rfl⟩

theorem has_n (k key tk n : Int) (w : World) :
    Calls Try.prog 52 #[opV k key tk n] w fun e w' => e = .returned (.bool (k != 4)) ∧ w' = w.alloc (.cells #[.int .i64 k, .int .i64 key, .int .i64 tk, .int .i64 n] 31) := by
  unfold opV
  go_enter Try.func52, Try.ntmps52
  go_wp2
  go_ret
  exact ⟨rfl, rfl⟩

def stepsMap : Obj := .map #[⟨.int .i64 1, .func (.func 62) #[] #[], 0⟩, ⟨.int .i64 2, .func (.func 63) #[] #[], 1⟩, ⟨.int .i64 3, .func (.func 65) #[] #[], 2⟩, ⟨.int .i64 4, .func (.func 66) #[] #[], 3⟩] 4


theorem ck_run (em : Bool) (n : Nat) (c : Int) (w : World) : (Instr.checkKey em (n + 1) 3 (.int .i64 c)).run Try.prog w = .ok () w := by
  simp [Instr.checkKey, run_underlying Try.underlying3]

theorem fk_run (c : Int) (es : List MapEntry) (r : Option (Nat × Value)) (w : World) (hf : Instr.findNow (.int .i64) (.int .i64 c) es 0 = some r) :
    (Instr.findKey 3 (.int .i64 c) es).run Try.prog w = .ok r w := by
  simp [Instr.findKey, run_underlying Try.underlying3, hf]

theorem set_run (w : World) (a b : Obj) (ha : (match a with | .cells .. => true | _ => false) = false) : (setObj w.heap.size b).run Try.prog (w.alloc a) = .ok () (w.alloc b) := by
  simp only [setObj, Sem.run]
  have h1 : (w.alloc a).heap[w.heap.size]? = some a := by simp only [World.alloc, Array.getElem?_push_size]
  rw [h1]
  cases a <;> first | (simp at ha; done) | (simp only [World.alloc, Array.setIfInBounds_push_size] ; done) | skip
  all_goals (simp only [World.alloc]; congr 2; simp [Array.setIfInBounds, Array.set_push]; done)

theorem ins_run (w : World) (es : Array MapEntry) (cl : Nat) (c : Int) (v : Value) (hf : Instr.findNow (.int .i64) (.int .i64 c) es.toList 0 = some none) :
    (Instr.mapUpdate 71 (.map (some w.heap.size)) (.int .i64 c) v).run Try.prog (w.alloc (.map es cl)) = .ok () (w.alloc (.map (es.push ⟨.int .i64 c, v, cl⟩) (cl + 1))) := by
  have h1 : (w.alloc (.map es cl)).heap[w.heap.size]? = some (.map es cl) := by simp only [World.alloc, Array.getElem?_push_size]
  have h2 := run_getObj_map (P := Try.prog) (w.alloc (.map es cl)) w.heap.size es cl h1
  have h3 := ck_run false 9999 c (w.alloc (.map es cl))
  have h4 := fk_run c es.toList none (w.alloc (.map es cl)) hf
  have h5 := set_run w (.map es cl) (.map (es.push ⟨.int .i64 c, v, cl⟩) (cl + 1)) rfl
  unfold Instr.mapUpdate
  simp [run_underlying Try.underlying71, h2, h3, h4, h5]

theorem steps_c (w : World) : Calls Try.prog 44 #[] w fun e w' => e = .returned (.map (some w.heap.size)) ∧ w' = w.alloc stepsMap := by
  have hmm := @run_makeMap Try.prog
  have i1 := ins_run w #[] 0 1 (.func (.func 62) #[] #[]) rfl
  have i2 := ins_run w #[⟨.int .i64 1, .func (.func 62) #[] #[], 0⟩] 1 2 (.func (.func 63) #[] #[]) rfl
  have i3 := ins_run w #[⟨.int .i64 1, .func (.func 62) #[] #[], 0⟩, ⟨.int .i64 2, .func (.func 63) #[] #[], 1⟩] 2 3 (.func (.func 65) #[] #[]) rfl
  have i4 := ins_run w #[⟨.int .i64 1, .func (.func 62) #[] #[], 0⟩, ⟨.int .i64 2, .func (.func 63) #[] #[], 1⟩, ⟨.int .i64 3, .func (.func 65) #[] #[], 2⟩] 3 4 (.func (.func 66) #[] #[]) rfl
  go_enter Try.func44, Try.ntmps44
  go_wp2
  go_ret
  exact ⟨rfl, rfl⟩
end Go.Proofs.Yteabfjpajgakiab
