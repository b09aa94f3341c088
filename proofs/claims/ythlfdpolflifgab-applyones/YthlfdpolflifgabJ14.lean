/- StH. -/
import Derived.Test.YthlfdpolflifgabJ13
/- States: what must be in any case. -/
set_option linter.unusedSimpArgs false
set_option linter.unusedVariables false
set_option maxRecDepth 10000
namespace Go.Proofs.Ythlfdpolflifgab
open Go.RowKit

theorem ck_st (s : St) (n : Int) (hn : stErr s = n) (x : Value) (w : World) (hT : TabAt w x s.tab) : Calls Try.prog 10 #[stV s x] w fun e w' => e = .returned (.int .i64 n) ∧ Keeps w w' := hn ▸ state_check s x w hT
theorem same_st (s t : St) (r : Bool) (hr : sameSt s t = r) (x y : Value) (w : World) (h1 : TabAt w x s.tab) (h2 : TabAt w y t.tab) : Calls Try.prog 12 #[stV s x, stV t y] w fun e w' => e = .returned (.bool r) ∧ Keeps w w' := hr ▸ state_same s t x y w h1 h2
theorem same_of0 (w : World) : Calls Try.prog 13 #[stV ⟨0, 0, 0, 0, 0, 0, []⟩ (.slice none 0 0), stV ⟨0, 0, 0, 0, 0, 0, []⟩ (.slice none 0 0)] w fun e w' => e = .returned (.bool true) ∧ Keeps w w' :=
  same_of ⟨0, 0, 0, 0, 0, 0, []⟩ ⟨0, 0, 0, 0, 0, 0, []⟩ _ _ w ⟨[], trivial, rfl, by unfold maxLen; simp, .inl ⟨rfl, rfl⟩⟩ ⟨[], trivial, rfl, by unfold maxLen; simp, .inl ⟨rfl, rfl⟩⟩
theorem tab_nil (w : World) : TabAt w (.slice none 0 0) [] := ⟨[], trivial, rfl, by unfold maxLen; simp, .inl ⟨rfl, rfl⟩⟩

theorem tab_one {w : World} {b : Nat} {s : Ses} {k : Value} (c0 : w.cell? ⟨b, 0, none⟩ = some (.int .i64 s.client)) (c1 : w.cell? ⟨b, 1, none⟩ = some (.int .i64 s.acked)) (c2 : w.cell? ⟨b, 2, none⟩ = some (.int .i64 s.seen)) (c3 : w.cell? ⟨b, 3, none⟩ = some k) (hk : KeptAt w k s.kept) :
    TabAt w (.slice (some ⟨b, 0, none⟩) 1 1) [s] := by
  refine ⟨[k], ⟨hk, trivial⟩, rfl, by unfold maxLen; simp, .inr ⟨_, _, rfl, fun j u hu => ?_⟩⟩
  rw [Addr.add_lit, Nat.zero_add]
  match j, hu with
  | 0, hu => simp [sesCells] at hu; subst hu; exact c0
  | 1, hu => simp [sesCells] at hu; subst hu; exact c1
  | 2, hu => simp [sesCells] at hu; subst hu; exact c2
  | 3, hu => simp [sesCells] at hu; subst hu; exact c3

theorem kept_none (w : World) (a : Addr) (c : Nat) : KeptAt w (.slice (some a) 0 c) [] := ⟨rfl, by unfold maxLen; simp, .inr ⟨_, _, rfl, fun j u hu => by simp [repCells] at hu⟩⟩

theorem same_last (a b e : Nat) (w : World) (a0 : w.cell? ⟨a, 0, none⟩ = some (.int .i64 1)) (a1 : w.cell? ⟨a, 1, none⟩ = some (.int .i64 0)) (a2 : w.cell? ⟨a, 2, none⟩ = some (.int .i64 0)) (a3 : w.cell? ⟨a, 3, none⟩ = some (.slice (some ⟨e, 0, none⟩) 0 0))
    (b0 : w.cell? ⟨b, 0, none⟩ = some (.int .i64 1)) (b1 : w.cell? ⟨b, 1, none⟩ = some (.int .i64 0)) (b2 : w.cell? ⟨b, 2, none⟩ = some (.int .i64 0)) (b3 : w.cell? ⟨b, 3, none⟩ = some (.slice none 0 0)) :
    Calls Try.prog 12 #[stV ⟨0, 0, 0, 0, 0, 0, [⟨1, 0, 0, []⟩]⟩ (.slice (some ⟨a, 0, none⟩) 1 1), stV ⟨0, 0, 0, 0, 0, 0, [⟨1, 0, 0, []⟩]⟩ (.slice (some ⟨b, 0, none⟩) 1 1)] w fun e w' => e = .returned (.bool true) ∧ Keeps w w' :=
  same_st ⟨0, 0, 0, 0, 0, 0, [⟨1, 0, 0, []⟩]⟩ ⟨0, 0, 0, 0, 0, 0, [⟨1, 0, 0, []⟩]⟩ true (by decide +kernel) _ _ w (tab_one (s := ⟨1, 0, 0, []⟩) a0 a1 a2 a3 (kept_none _ _ _)) (tab_one (s := ⟨1, 0, 0, []⟩) b0 b1 b2 b3 (kept_nil _))

theorem wpAny_at {P : Program} {ops : Array Oper} {Q : Exit → Act → World → Prop} {m k : Nat} {listed : Array Bool} {a : Act} {w : World} (h : listed = upTo ops.size k) (hw : wpAny P .any ops Q m (upTo ops.size k) a w) : wpAny P .any ops Q m listed a w := h ▸ hw

set_option maxHeartbeats 4000000 in
theorem state_begun (w : World) : Calls Try.prog 9 #[] w fun e w' => e = .returned (.bool true) ∧ Keeps w w' := by
  go_enter Try.func9, Try.ntmps9
  go_wp2_with fail
  refine (shop_c _).mono ?_
  rintro e w1 ⟨b1, ka1, kc1, la1, lc1, hg1, hs1, -, rfl, hb1⟩
  have T1 : Hid (TabAt w1 (.slice (some ⟨b1, 0, none⟩) 2 2) [rowS 2, rowS 4]) := hs1.tab
  clear hs1 hg1
  go_wp2_with fail
  refine (shop_c _).mono ?_
  rintro e w2 ⟨b2, ka2, kc2, la2, lc2, hg2, hs2, -, rfl, hb2⟩
  have T2 : Hid (TabAt w2 (.slice (some ⟨b2, 0, none⟩) 2 2) [rowS 2, rowS 4]) := hs2.tab
  have HX : Hid (Keeps (w1.alloc (.cells #[.int .i64 6, .int .i64 8, .int .i64 7, .int .i64 0, .int .i64 0, .int .i64 1, .slice (some ⟨b1, 0, none⟩) 2 2] 25)) w2) := hb2
  clear hb2 hs2 hg2
  go_wp2_with fail
  refine (shop_c _).mono ?_
  rintro e w3 ⟨b3, ka3, kc3, la3, lc3, hg3, hs3, hf3, rfl, hb3⟩
  have HY : Hid (Keeps (w2.alloc (.cells #[.int .i64 6, .int .i64 30, .int .i64 7, .int .i64 0, .int .i64 0, .int .i64 1, .slice (some ⟨b2, 0, none⟩) 2 2] 25)) w3) := hb3
  have HS3 : Hid (ShopAt w3 b3 ka3 kc3 la3 lc3) := hs3
  have HF3 : Hid (KeptFar b3 w3 (.slice la3 2 lc3) [(3, 7), (5, -1)]) := hf3
  have hc3 := hs3.c3
  have hz3 := hs3.fz
  have hl3 := World.block_lt_of_cell? _ _ hc3
  simp only [] at hl3
  clear hb3 hs3 hf3
  go_wp2_with fail
  have hsz2 : w2.heap.size + 1 ≤ b3 := by simpa using hg3
  have hsz1 : w1.heap.size + 1 ≤ w2.heap.size := by simpa using HX.out.size
  have hbt : But b3 w3 ((w3.setCell ⟨b3, 3, none⟩ (.slice none 0 0)).alloc (.cells #[.int .i64 6, .int .i64 10, .int .i64 7, .int .i64 0, .int .i64 0, .int .i64 1, .slice (some ⟨b3, 0, none⟩) 2 2] 25)) := ((But.refl _ _).set 3 _).keeps ((Keeps.refl _).alloc _)
  have hz0 : ∀ i, ((w3.setCell ⟨b3, 3, none⟩ (.slice none 0 0)).alloc (.cells #[.int .i64 6, .int .i64 10, .int .i64 7, .int .i64 0, .int .i64 0, .int .i64 1, .slice (some ⟨b3, 0, none⟩) 2 2] 25)).cell? ⟨w3.heap.size, i, none⟩ = #[.int .i64 6, .int .i64 10, .int .i64 7, .int .i64 0, .int .i64 0, .int .i64 1, Value.slice (some ⟨b3, 0, none⟩) 2 2][i]? := fun i => by
    have e : w3.heap.size = (w3.setCell ⟨b3, 3, none⟩ (.slice none 0 0)).heap.size := by simp
    rw [World.cell?_alloc_at _ _ _ _ e]
  have hk3 : ((w3.setCell ⟨b3, 3, none⟩ (.slice none 0 0)).alloc (.cells #[.int .i64 6, .int .i64 10, .int .i64 7, .int .i64 0, .int .i64 0, .int .i64 1, .slice (some ⟨b3, 0, none⟩) 2 2] 25)).cell? ⟨b3, 3, none⟩ = some (.slice none 0 0) := by
    rw [World.cell?_alloc_past _ _ _ (by simpa using hl3)]; exact World.cell?_setCell_same _ _ _ hc3
  have hko : ∀ i u, i ≠ 3 → w3.cell? ⟨b3, i, none⟩ = some u → ((w3.setCell ⟨b3, 3, none⟩ (.slice none 0 0)).alloc (.cells #[.int .i64 6, .int .i64 10, .int .i64 7, .int .i64 0, .int .i64 0, .int .i64 1, .slice (some ⟨b3, 0, none⟩) 2 2] 25)).cell? ⟨b3, i, none⟩ = some u := fun i u hi hu => by
    rw [World.cell?_alloc_past _ _ _ (by simpa using hl3), World.cell?_setCell_other _ _ _ _ (by intro e; injection e with _ e _; exact hi e.symm)]; exact hu
  generalize ((w3.setCell ⟨b3, 3, none⟩ (.slice none 0 0)).alloc (.cells #[.int .i64 6, .int .i64 10, .int .i64 7, .int .i64 0, .int .i64 0, .int .i64 1, .slice (some ⟨b3, 0, none⟩) 2 2] 25)) = W at *
  have TX : Hid (TabAt W (.slice (some ⟨b1, 0, none⟩) 2 2) [rowS 2, rowS 4]) := (T1.out.far (((Keeps.refl _).alloc _).trans (HX.out.trans (((Keeps.refl _).alloc _).trans HY.out))) (by omega)) W hbt
  have TY : Hid (TabAt W (.slice (some ⟨b2, 0, none⟩) 2 2) [rowS 2, rowS 4]) := (T2.out.far (((Keeps.refl _).alloc _).trans HY.out) (by omega)) W hbt
  have TZ : Hid (TabAt W (.slice (some ⟨b3, 0, none⟩) 2 2) [⟨2, 2, 9, []⟩, rowS 4]) := tab_cells (s := ⟨2, 2, 9, []⟩) (t := rowS 4) (hko _ _ (by decide) HS3.out.c0) (hko _ _ (by decide) HS3.out.c1) (hko _ _ (by decide) HS3.out.c2) hk3 (hko _ _ (by decide) HS3.out.c4) (hko _ _ (by decide) HS3.out.c5) (hko _ _ (by decide) HS3.out.c6) (hko _ _ (by decide) HS3.out.c7) (kept_nil _) (HF3.out _ hbt)
  have KW : Hid (Keeps w W) := But.to (hb1.trans (((Keeps.refl _).alloc _).trans (HX.out.trans (((Keeps.refl _).alloc _).trans HY.out)))) (by have := hb1.size; omega) hbt
  have HXC : ∀ i u, #[.int .i64 6, .int .i64 8, .int .i64 7, .int .i64 0, .int .i64 0, .int .i64 1, Value.slice (some ⟨b1, 0, none⟩) 2 2][i]? = some u → W.cell? ⟨w1.heap.size, i, none⟩ = some u := fun i u hu =>
    hbt.at (cell_kept (cell_kept (by simpa [go_sem] using hu) HX.out) (((Keeps.refl _).alloc _).trans HY.out)) (by simp; omega)
  have HYC : ∀ i u, #[.int .i64 6, .int .i64 30, .int .i64 7, .int .i64 0, .int .i64 0, .int .i64 1, Value.slice (some ⟨b2, 0, none⟩) 2 2][i]? = some u → W.cell? ⟨w2.heap.size, i, none⟩ = some u := fun i u hu =>
    hbt.at (cell_kept (by simpa [go_sem] using hu) HY.out) (by simp; omega)
  have AX : Hid (∀ i u, #[.int .i64 6, .int .i64 8, .int .i64 7, .int .i64 0, .int .i64 0, .int .i64 1, Value.slice (some ⟨b1, 0, none⟩) 2 2][i]? = some u → W.cell? ⟨w1.heap.size, i, none⟩ = some u) := HXC
  have AY : Hid (∀ i u, #[.int .i64 6, .int .i64 30, .int .i64 7, .int .i64 0, .int .i64 0, .int .i64 1, Value.slice (some ⟨b2, 0, none⟩) 2 2][i]? = some u → W.cell? ⟨w2.heap.size, i, none⟩ = some u) := HYC
  have AZ : Hid (∀ i u, #[.int .i64 6, .int .i64 10, .int .i64 7, .int .i64 0, .int .i64 0, .int .i64 1, Value.slice (some ⟨b3, 0, none⟩) 2 2][i]? = some u → W.cell? ⟨w3.heap.size, i, none⟩ = some u) := fun i u hu => (hz0 i).trans hu
  clear HXC HYC hz0 hk3 hko hbt hsz1 hsz2 hc3 hz3 hl3 hg3 HS3 HF3 T1 T2 HX HY hb1
  generalize w1.heap.size = X at *
  generalize w2.heap.size = Y at *
  generalize w3.heap.size = Z at *
  clear w1 w2 w3
  refine wp_region_pre 29 21 (by kernel_rfl) rfl (by kernel_rfl) ?_
  simp only [List.take_succ_cons, List.take_zero]
  go_wp2_with fail
  refine (begin_c _).mono ?_
  rintro e v1 ⟨rfl, hb⟩
  have K1 : Hid (Keeps W v1) := ((Keeps.refl W).drew).trans hb
  clear hb
  go_wp2_with fail
  refine (ck_st ⟨0, 0, 0, 0, 0, 0, []⟩ 0 (by decide +kernel) _ _ (tab_nil _)).mono ?_
  rintro e v2 ⟨rfl, hb⟩
  have K2 : Hid (Keeps W v2) := K1.out.trans hb
  clear hb K1
  go_wp2_with fail
  refine (shop_c _).mono ?_
  rintro e v3 ⟨g3, ka3, kc3, la3, lc3, -, hs3, -, rfl, hb⟩
  have S3 : Hid (TabAt v3 (.slice (some ⟨g3, 0, none⟩) 2 2) [rowS 2, rowS 4]) := hs3.tab
  have K3 : Hid (Keeps W v3) := K2.out.trans hb
  clear hb K2 hs3
  go_wp2_with fail
  refine (ck_st shopS 0 (by decide +kernel) _ _ S3.out).mono ?_
  rintro e v4 ⟨rfl, hb⟩
  have K4 : Hid (Keeps W v4) := K3.out.trans hb
  clear hb K3 S3
  have x0 := cell_kept (AX.out 0 _ rfl) K4.out
  have x1 := cell_kept (AX.out 1 _ rfl) K4.out
  have x2 := cell_kept (AX.out 2 _ rfl) K4.out
  have x3 := cell_kept (AX.out 3 _ rfl) K4.out
  have x4 := cell_kept (AX.out 4 _ rfl) K4.out
  have x5 := cell_kept (AX.out 5 _ rfl) K4.out
  have x6 := cell_kept (AX.out 6 _ rfl) K4.out
  have xl := World.block_lt_of_cell? _ _ x0
  simp only [] at xl
  go_wp2_with fail
  clear x0 x1 x2 x3 x4 x5 x6 xl
  refine (ck_st ⟨6, 8, 7, 0, 0, 1, [rowS 2, rowS 4]⟩ 1 (by decide +kernel) _ _ (TX.out.keep K4.out)).mono ?_
  rintro e v5 ⟨rfl, hb⟩
  have K5 : Hid (Keeps W v5) := K4.out.trans hb
  clear hb K4
  have y0 := cell_kept (AY.out 0 _ rfl) K5.out
  have y1 := cell_kept (AY.out 1 _ rfl) K5.out
  have y2 := cell_kept (AY.out 2 _ rfl) K5.out
  have y3 := cell_kept (AY.out 3 _ rfl) K5.out
  have y4 := cell_kept (AY.out 4 _ rfl) K5.out
  have y5 := cell_kept (AY.out 5 _ rfl) K5.out
  have y6 := cell_kept (AY.out 6 _ rfl) K5.out
  have yl := World.block_lt_of_cell? _ _ y0
  simp only [] at yl
  go_wp2_with fail
  clear y0 y1 y2 y3 y4 y5 y6 yl
  refine (ck_st ⟨6, 30, 7, 0, 0, 1, [rowS 2, rowS 4]⟩ 1 (by decide +kernel) _ _ (TY.out.keep K5.out)).mono ?_
  rintro e v6 ⟨rfl, hb⟩
  have K6 : Hid (Keeps W v6) := K5.out.trans hb
  clear hb K5
  go_wp2_with fail
  refine (ck_st ⟨51, 0, 0, 0, 0, 0, []⟩ 3 (by decide +kernel) _ _ (tab_nil _)).mono ?_
  rintro e v7 ⟨rfl, hb⟩
  have K7 : Hid (Keeps W v7) := K6.out.trans hb
  clear hb K6
  go_wp2_with fail
  refine (shop_c _).mono ?_
  rintro e v8 ⟨g8, ka8, kc8, la8, lc8, -, hs8, -, rfl, hb⟩
  have S8 : Hid (TabAt v8 (.slice (some ⟨g8, 0, none⟩) 2 2) [rowS 2, rowS 4]) := hs8.tab
  have K8 : Hid (Keeps W v8) := K7.out.trans hb
  clear hb K7 hs8
  go_wp2_with fail
  refine (shop_c _).mono ?_
  rintro e v9 ⟨g9, ka9, kc9, la9, lc9, -, hs9, -, rfl, hb⟩
  have S9 : Hid (TabAt v9 (.slice (some ⟨g9, 0, none⟩) 2 2) [rowS 2, rowS 4]) := hs9.tab
  have S8 : Hid (TabAt v9 (.slice (some ⟨g8, 0, none⟩) 2 2) [rowS 2, rowS 4]) := S8.out.keep hb
  have K9 : Hid (Keeps W v9) := K8.out.trans hb
  clear hb K8 hs9
  go_wp2_with fail
  refine (same_st shopS shopS true (by decide +kernel) _ _ _ S8.out S9.out).mono ?_
  rintro e v10 ⟨rfl, hb⟩
  have K10 : Hid (Keeps W v10) := K9.out.trans hb
  clear hb K9 S8 S9
  go_wp2_with fail
  refine wpAny_pair 29 19 _ _ rfl rfl (by kernel_rfl) ?_ ?_
  · go_wp2_with fail
    refine (shop_c _).mono ?_
    rintro e v11 ⟨g11, ka11, kc11, la11, lc11, -, hs11, -, rfl, hb⟩
    have S11 : Hid (TabAt v11 (.slice (some ⟨g11, 0, none⟩) 2 2) [rowS 2, rowS 4]) := hs11.tab
    have K11 : Hid (Keeps W v11) := K10.out.trans hb
    clear hb K10 hs11
    have z0 := cell_kept (AZ.out 0 _ rfl) K11.out
    have z1 := cell_kept (AZ.out 1 _ rfl) K11.out
    have z2 := cell_kept (AZ.out 2 _ rfl) K11.out
    have z3 := cell_kept (AZ.out 3 _ rfl) K11.out
    have z4 := cell_kept (AZ.out 4 _ rfl) K11.out
    have z5 := cell_kept (AZ.out 5 _ rfl) K11.out
    have z6 := cell_kept (AZ.out 6 _ rfl) K11.out
    have zl := World.block_lt_of_cell? _ _ z0
    simp only [] at zl
    go_wp2_with fail
    clear z0 z1 z2 z3 z4 z5 z6 zl
    refine wpAny_on 31 4 15 rfl (by kernel_rfl) ?_
    simp only [List.drop_succ_cons, List.drop_zero, List.take_succ_cons, List.take_zero]
    go_wp2_with fail
    refine (same_st shopS ⟨6, 10, 7, 0, 0, 1, [⟨2, 2, 9, []⟩, rowS 4]⟩ false (by decide +kernel) _ _ _ S11.out (TZ.out.keep K11.out)).mono ?_
    rintro e v12 ⟨rfl, hb⟩
    have K12 : Hid (Keeps W v12) := K11.out.trans hb
    clear hb K11 S11
    go_wp2_with fail
    refine wpAny_pair 35 13 _ _ rfl rfl (by kernel_rfl) ?_ ?_
    · go_wp2_with fail
      refine (begin_c _).mono ?_
      rintro e v13 ⟨rfl, hb⟩
      have K13 : Hid (Keeps W v13) := K12.out.trans hb
      clear hb K12
      go_wp2_with fail
      refine wpAny_on 37 3 10 rfl (by kernel_rfl) ?_
      simp only [List.drop_succ_cons, List.drop_zero, List.take_succ_cons, List.take_zero]
      go_wp2_with fail
      refine (same_of0 _).mono ?_
      rintro e v14 ⟨rfl, hb⟩
      have K14 : Hid (Keeps W v14) := K13.out.trans hb
      clear hb K13
      go_wp2_with fail
      refine wpAny_take (i := 44) (v := .agg #[.int .i64 1, .int .i64 0, .int .i64 0, .slice none 0 0]) rfl (by kernel_rfl) (by kernel_rfl) (by kernel_rfl) (fun _ _ _ h => h) (Or.inl ⟨by rfl, ?_⟩) ?_
      · intro w; go_simp
      refine wpAny_ready (rs := [40, 45]) (by kernel_rfl) (by simp) ?_
      refine AllReady.cons rfl (fun K hK => ?_) ?_
      · go_simp
        refine hK _ _ ?_
        clear hK K
        refine wpAny_take (i := 41) (v := .agg #[.int .i64 1, .int .i64 0, .int .i64 0, .slice (some ⟨v14.heap.size, 0, none⟩) 0 0]) rfl (by kernel_rfl) (by kernel_rfl) (by kernel_rfl) (fun _ _ _ h => h) (Or.inl ⟨by rfl, ?_⟩) ?_
        · intro w; go_simp
        refine wpAny_ready (rs := [42, 45]) (by kernel_rfl) (by simp) ?_
        refine AllReady.cons rfl (fun K hK => ?_) ?_
        · go_simp
          refine hK _ _ ?_
          clear hK K
          refine wpAny_take (i := 43) (v := .agg #[.int .i64 0, .int .i64 0, .int .i64 0, .int .i64 0, .int .i64 0, .int .i64 0, .slice (some ⟨v14.heap.size + 1, 0, none⟩) 1 1]) rfl (by kernel_rfl) (by kernel_rfl) (by kernel_rfl) (fun _ _ _ h => h) (Or.inl ⟨by rfl, ?_⟩) ?_
          · intro w; go_simp
          refine wpAny_ready (rs := [45]) (by kernel_rfl) (by simp) ?_
          refine AllReady.cons rfl (fun K hK => ?_) ?_
          · go_simp
            refine hK _ _ ?_
            clear hK K
            refine wpAny_take (i := 46) (v := .agg #[.int .i64 0, .int .i64 0, .int .i64 0, .int .i64 0, .int .i64 0, .int .i64 0, .slice (some ⟨v14.heap.size + 2, 0, none⟩) 1 1]) rfl (by kernel_rfl) (by kernel_rfl) (by kernel_rfl) (fun _ _ _ h => h) (Or.inl ⟨by rfl, ?_⟩) ?_
            · intro w; go_simp
            refine wpAny_at (k := 47) (by kernel_rfl) ?_
            refine wpAny_on 47 3 0 rfl (by kernel_rfl) ?_
            simp only [List.drop_succ_cons, List.drop_zero, List.take_succ_cons, List.take_zero]
            go_wp2_with fail
            refine (same_last (v14.heap.size + 1) (v14.heap.size + 2) (v14.heap.size) _ (by simp [go_sem]) (by simp [go_sem]) (by simp [go_sem]) (by simp [go_sem]) (by simp [go_sem]) (by simp [go_sem]) (by simp [go_sem]) (by simp [go_sem])).mono ?_
            rintro e v15 ⟨rfl, hb⟩
            have KE : Keeps w v15 := KW.out.trans (K14.out.trans ((((Keeps.refl _).alloc _).alloc _).alloc _ |>.trans hb))
            clear hb K14
            go_wp2_with fail
            refine wpAny_done (by kernel_rfl) ?_ _
            go_wp2_with fail
            go_ret
            exact ⟨rfl, KE⟩
          exact AllReady.nil
        refine AllReady.cons rfl (fun K hK => ?_) ?_
        · go_simp
          refine hK _ _ ?_
          clear hK K
          refine wpAny_take (i := 46) (v := .agg #[.int .i64 0, .int .i64 0, .int .i64 0, .int .i64 0, .int .i64 0, .int .i64 0, .slice (some ⟨v14.heap.size + 1, 0, none⟩) 1 1]) rfl (by kernel_rfl) (by kernel_rfl) (by kernel_rfl) (fun _ _ _ h => h) (Or.inl ⟨by rfl, ?_⟩) ?_
          · intro w; go_simp
          refine wpAny_ready (rs := [42]) (by kernel_rfl) (by simp) ?_
          refine AllReady.cons rfl (fun K hK => ?_) ?_
          · go_simp
            refine hK _ _ ?_
            clear hK K
            refine wpAny_take (i := 43) (v := .agg #[.int .i64 0, .int .i64 0, .int .i64 0, .int .i64 0, .int .i64 0, .int .i64 0, .slice (some ⟨v14.heap.size + 2, 0, none⟩) 1 1]) rfl (by kernel_rfl) (by kernel_rfl) (by kernel_rfl) (fun _ _ _ h => h) (Or.inl ⟨by rfl, ?_⟩) ?_
            · intro w; go_simp
            refine wpAny_at (k := 47) (by kernel_rfl) ?_
            refine wpAny_on 47 3 0 rfl (by kernel_rfl) ?_
            simp only [List.drop_succ_cons, List.drop_zero, List.take_succ_cons, List.take_zero]
            go_wp2_with fail
            refine (same_last (v14.heap.size + 2) (v14.heap.size + 1) (v14.heap.size) _ (by simp [go_sem]) (by simp [go_sem]) (by simp [go_sem]) (by simp [go_sem]) (by simp [go_sem]) (by simp [go_sem]) (by simp [go_sem]) (by simp [go_sem])).mono ?_
            rintro e v15 ⟨rfl, hb⟩
            have KE : Keeps w v15 := KW.out.trans (K14.out.trans ((((Keeps.refl _).alloc _).alloc _).alloc _ |>.trans hb))
            clear hb K14
            go_wp2_with fail
            refine wpAny_done (by kernel_rfl) ?_ _
            go_wp2_with fail
            go_ret
            exact ⟨rfl, KE⟩
          exact AllReady.nil
        exact AllReady.nil
      refine AllReady.cons rfl (fun K hK => ?_) ?_
      · go_simp
        refine hK _ _ ?_
        clear hK K
        refine wpAny_take (i := 46) (v := .agg #[.int .i64 0, .int .i64 0, .int .i64 0, .int .i64 0, .int .i64 0, .int .i64 0, .slice (some ⟨v14.heap.size, 0, none⟩) 1 1]) rfl (by kernel_rfl) (by kernel_rfl) (by kernel_rfl) (fun _ _ _ h => h) (Or.inl ⟨by rfl, ?_⟩) ?_
        · intro w; go_simp
        refine wpAny_ready (rs := [40]) (by kernel_rfl) (by simp) ?_
        refine AllReady.cons rfl (fun K hK => ?_) ?_
        · go_simp
          refine hK _ _ ?_
          clear hK K
          refine wpAny_take (i := 41) (v := .agg #[.int .i64 1, .int .i64 0, .int .i64 0, .slice (some ⟨v14.heap.size + 1, 0, none⟩) 0 0]) rfl (by kernel_rfl) (by kernel_rfl) (by kernel_rfl) (fun _ _ _ h => h) (Or.inl ⟨by rfl, ?_⟩) ?_
          · intro w; go_simp
          refine wpAny_ready (rs := [42]) (by kernel_rfl) (by simp) ?_
          refine AllReady.cons rfl (fun K hK => ?_) ?_
          · go_simp
            refine hK _ _ ?_
            clear hK K
            refine wpAny_take (i := 43) (v := .agg #[.int .i64 0, .int .i64 0, .int .i64 0, .int .i64 0, .int .i64 0, .int .i64 0, .slice (some ⟨v14.heap.size + 2, 0, none⟩) 1 1]) rfl (by kernel_rfl) (by kernel_rfl) (by kernel_rfl) (fun _ _ _ h => h) (Or.inl ⟨by rfl, ?_⟩) ?_
            · intro w; go_simp
            refine wpAny_at (k := 47) (by kernel_rfl) ?_
            refine wpAny_on 47 3 0 rfl (by kernel_rfl) ?_
            simp only [List.drop_succ_cons, List.drop_zero, List.take_succ_cons, List.take_zero]
            go_wp2_with fail
            refine (same_last (v14.heap.size + 2) (v14.heap.size) (v14.heap.size + 1) _ (by simp [go_sem]) (by simp [go_sem]) (by simp [go_sem]) (by simp [go_sem]) (by simp [go_sem]) (by simp [go_sem]) (by simp [go_sem]) (by simp [go_sem])).mono ?_
            rintro e v15 ⟨rfl, hb⟩
            have KE : Keeps w v15 := KW.out.trans (K14.out.trans ((((Keeps.refl _).alloc _).alloc _).alloc _ |>.trans hb))
            clear hb K14
            go_wp2_with fail
            refine wpAny_done (by kernel_rfl) ?_ _
            go_wp2_with fail
            go_ret
            exact ⟨rfl, KE⟩
          exact AllReady.nil
        exact AllReady.nil
      exact AllReady.nil
    · go_wp2_with fail
      refine (begin_c _).mono ?_
      rintro e v13 ⟨rfl, hb⟩
      have K13 : Hid (Keeps W v13) := K12.out.trans hb
      clear hb K12
      go_wp2_with fail
      refine wpAny_on 37 3 10 rfl (by kernel_rfl) ?_
      simp only [List.drop_succ_cons, List.drop_zero, List.take_succ_cons, List.take_zero]
      go_wp2_with fail
      refine (same_of0 _).mono ?_
      rintro e v14 ⟨rfl, hb⟩
      have K14 : Hid (Keeps W v14) := K13.out.trans hb
      clear hb K13
      go_wp2_with fail
      refine wpAny_take (i := 44) (v := .agg #[.int .i64 1, .int .i64 0, .int .i64 0, .slice none 0 0]) rfl (by kernel_rfl) (by kernel_rfl) (by kernel_rfl) (fun _ _ _ h => h) (Or.inl ⟨by rfl, ?_⟩) ?_
      · intro w; go_simp
      refine wpAny_ready (rs := [40, 45]) (by kernel_rfl) (by simp) ?_
      refine AllReady.cons rfl (fun K hK => ?_) ?_
      · go_simp
        refine hK _ _ ?_
        clear hK K
        refine wpAny_take (i := 41) (v := .agg #[.int .i64 1, .int .i64 0, .int .i64 0, .slice (some ⟨v14.heap.size, 0, none⟩) 0 0]) rfl (by kernel_rfl) (by kernel_rfl) (by kernel_rfl) (fun _ _ _ h => h) (Or.inl ⟨by rfl, ?_⟩) ?_
        · intro w; go_simp
        refine wpAny_ready (rs := [42, 45]) (by kernel_rfl) (by simp) ?_
        refine AllReady.cons rfl (fun K hK => ?_) ?_
        · go_simp
          refine hK _ _ ?_
          clear hK K
          refine wpAny_take (i := 43) (v := .agg #[.int .i64 0, .int .i64 0, .int .i64 0, .int .i64 0, .int .i64 0, .int .i64 0, .slice (some ⟨v14.heap.size + 1, 0, none⟩) 1 1]) rfl (by kernel_rfl) (by kernel_rfl) (by kernel_rfl) (fun _ _ _ h => h) (Or.inl ⟨by rfl, ?_⟩) ?_
          · intro w; go_simp
          refine wpAny_ready (rs := [45]) (by kernel_rfl) (by simp) ?_
          refine AllReady.cons rfl (fun K hK => ?_) ?_
          · go_simp
            refine hK _ _ ?_
            clear hK K
            refine wpAny_take (i := 46) (v := .agg #[.int .i64 0, .int .i64 0, .int .i64 0, .int .i64 0, .int .i64 0, .int .i64 0, .slice (some ⟨v14.heap.size + 2, 0, none⟩) 1 1]) rfl (by kernel_rfl) (by kernel_rfl) (by kernel_rfl) (fun _ _ _ h => h) (Or.inl ⟨by rfl, ?_⟩) ?_
            · intro w; go_simp
            refine wpAny_at (k := 47) (by kernel_rfl) ?_
            refine wpAny_on 47 3 0 rfl (by kernel_rfl) ?_
            simp only [List.drop_succ_cons, List.drop_zero, List.take_succ_cons, List.take_zero]
            go_wp2_with fail
            refine (same_last (v14.heap.size + 1) (v14.heap.size + 2) (v14.heap.size) _ (by simp [go_sem]) (by simp [go_sem]) (by simp [go_sem]) (by simp [go_sem]) (by simp [go_sem]) (by simp [go_sem]) (by simp [go_sem]) (by simp [go_sem])).mono ?_
            rintro e v15 ⟨rfl, hb⟩
            have KE : Keeps w v15 := KW.out.trans (K14.out.trans ((((Keeps.refl _).alloc _).alloc _).alloc _ |>.trans hb))
            clear hb K14
            go_wp2_with fail
            refine wpAny_done (by kernel_rfl) ?_ _
            go_wp2_with fail
            go_ret
            exact ⟨rfl, KE⟩
          exact AllReady.nil
        refine AllReady.cons rfl (fun K hK => ?_) ?_
        · go_simp
          refine hK _ _ ?_
          clear hK K
          refine wpAny_take (i := 46) (v := .agg #[.int .i64 0, .int .i64 0, .int .i64 0, .int .i64 0, .int .i64 0, .int .i64 0, .slice (some ⟨v14.heap.size + 1, 0, none⟩) 1 1]) rfl (by kernel_rfl) (by kernel_rfl) (by kernel_rfl) (fun _ _ _ h => h) (Or.inl ⟨by rfl, ?_⟩) ?_
          · intro w; go_simp
          refine wpAny_ready (rs := [42]) (by kernel_rfl) (by simp) ?_
          refine AllReady.cons rfl (fun K hK => ?_) ?_
          · go_simp
            refine hK _ _ ?_
            clear hK K
            refine wpAny_take (i := 43) (v := .agg #[.int .i64 0, .int .i64 0, .int .i64 0, .int .i64 0, .int .i64 0, .int .i64 0, .slice (some ⟨v14.heap.size + 2, 0, none⟩) 1 1]) rfl (by kernel_rfl) (by kernel_rfl) (by kernel_rfl) (fun _ _ _ h => h) (Or.inl ⟨by rfl, ?_⟩) ?_
            · intro w; go_simp
            refine wpAny_at (k := 47) (by kernel_rfl) ?_
            refine wpAny_on 47 3 0 rfl (by kernel_rfl) ?_
            simp only [List.drop_succ_cons, List.drop_zero, List.take_succ_cons, List.take_zero]
            go_wp2_with fail
            refine (same_last (v14.heap.size + 2) (v14.heap.size + 1) (v14.heap.size) _ (by simp [go_sem]) (by simp [go_sem]) (by simp [go_sem]) (by simp [go_sem]) (by simp [go_sem]) (by simp [go_sem]) (by simp [go_sem]) (by simp [go_sem])).mono ?_
            rintro e v15 ⟨rfl, hb⟩
            have KE : Keeps w v15 := KW.out.trans (K14.out.trans ((((Keeps.refl _).alloc _).alloc _).alloc _ |>.trans hb))
            clear hb K14
            go_wp2_with fail
            refine wpAny_done (by kernel_rfl) ?_ _
            go_wp2_with fail
            go_ret
            exact ⟨rfl, KE⟩
          exact AllReady.nil
        exact AllReady.nil
      refine AllReady.cons rfl (fun K hK => ?_) ?_
      · go_simp
        refine hK _ _ ?_
        clear hK K
        refine wpAny_take (i := 46) (v := .agg #[.int .i64 0, .int .i64 0, .int .i64 0, .int .i64 0, .int .i64 0, .int .i64 0, .slice (some ⟨v14.heap.size, 0, none⟩) 1 1]) rfl (by kernel_rfl) (by kernel_rfl) (by kernel_rfl) (fun _ _ _ h => h) (Or.inl ⟨by rfl, ?_⟩) ?_
        · intro w; go_simp
        refine wpAny_ready (rs := [40]) (by kernel_rfl) (by simp) ?_
        refine AllReady.cons rfl (fun K hK => ?_) ?_
        · go_simp
          refine hK _ _ ?_
          clear hK K
          refine wpAny_take (i := 41) (v := .agg #[.int .i64 1, .int .i64 0, .int .i64 0, .slice (some ⟨v14.heap.size + 1, 0, none⟩) 0 0]) rfl (by kernel_rfl) (by kernel_rfl) (by kernel_rfl) (fun _ _ _ h => h) (Or.inl ⟨by rfl, ?_⟩) ?_
          · intro w; go_simp
          refine wpAny_ready (rs := [42]) (by kernel_rfl) (by simp) ?_
          refine AllReady.cons rfl (fun K hK => ?_) ?_
          · go_simp
            refine hK _ _ ?_
            clear hK K
            refine wpAny_take (i := 43) (v := .agg #[.int .i64 0, .int .i64 0, .int .i64 0, .int .i64 0, .int .i64 0, .int .i64 0, .slice (some ⟨v14.heap.size + 2, 0, none⟩) 1 1]) rfl (by kernel_rfl) (by kernel_rfl) (by kernel_rfl) (fun _ _ _ h => h) (Or.inl ⟨by rfl, ?_⟩) ?_
            · intro w; go_simp
            refine wpAny_at (k := 47) (by kernel_rfl) ?_
            refine wpAny_on 47 3 0 rfl (by kernel_rfl) ?_
            simp only [List.drop_succ_cons, List.drop_zero, List.take_succ_cons, List.take_zero]
            go_wp2_with fail
            refine (same_last (v14.heap.size + 2) (v14.heap.size) (v14.heap.size + 1) _ (by simp [go_sem]) (by simp [go_sem]) (by simp [go_sem]) (by simp [go_sem]) (by simp [go_sem]) (by simp [go_sem]) (by simp [go_sem]) (by simp [go_sem])).mono ?_
            rintro e v15 ⟨rfl, hb⟩
            have KE : Keeps w v15 := KW.out.trans (K14.out.trans ((((Keeps.refl _).alloc _).alloc _).alloc _ |>.trans hb))
            clear hb K14
            go_wp2_with fail
            refine wpAny_done (by kernel_rfl) ?_ _
            go_wp2_with fail
            go_ret
            exact ⟨rfl, KE⟩
          exact AllReady.nil
        exact AllReady.nil
      exact AllReady.nil
  · have z0 := cell_kept (AZ.out 0 _ rfl) K10.out
    have z1 := cell_kept (AZ.out 1 _ rfl) K10.out
    have z2 := cell_kept (AZ.out 2 _ rfl) K10.out
    have z3 := cell_kept (AZ.out 3 _ rfl) K10.out
    have z4 := cell_kept (AZ.out 4 _ rfl) K10.out
    have z5 := cell_kept (AZ.out 5 _ rfl) K10.out
    have z6 := cell_kept (AZ.out 6 _ rfl) K10.out
    have zl := World.block_lt_of_cell? _ _ z0
    simp only [] at zl
    go_wp2_with fail
    clear z0 z1 z2 z3 z4 z5 z6 zl
    refine (shop_c _).mono ?_
    rintro e v11 ⟨g11, ka11, kc11, la11, lc11, -, hs11, -, rfl, hb⟩
    have S11 : Hid (TabAt v11 (.slice (some ⟨g11, 0, none⟩) 2 2) [rowS 2, rowS 4]) := hs11.tab
    have K11 : Hid (Keeps W v11) := K10.out.trans hb
    clear hb K10 hs11
    go_wp2_with fail
    refine wpAny_on 31 4 15 rfl (by kernel_rfl) ?_
    simp only [List.drop_succ_cons, List.drop_zero, List.take_succ_cons, List.take_zero]
    go_wp2_with fail
    refine (same_st shopS ⟨6, 10, 7, 0, 0, 1, [⟨2, 2, 9, []⟩, rowS 4]⟩ false (by decide +kernel) _ _ _ S11.out (TZ.out.keep K11.out)).mono ?_
    rintro e v12 ⟨rfl, hb⟩
    have K12 : Hid (Keeps W v12) := K11.out.trans hb
    clear hb K11 S11
    go_wp2_with fail
    refine wpAny_pair 35 13 _ _ rfl rfl (by kernel_rfl) ?_ ?_
    · go_wp2_with fail
      refine (begin_c _).mono ?_
      rintro e v13 ⟨rfl, hb⟩
      have K13 : Hid (Keeps W v13) := K12.out.trans hb
      clear hb K12
      go_wp2_with fail
      refine wpAny_on 37 3 10 rfl (by kernel_rfl) ?_
      simp only [List.drop_succ_cons, List.drop_zero, List.take_succ_cons, List.take_zero]
      go_wp2_with fail
      refine (same_of0 _).mono ?_
      rintro e v14 ⟨rfl, hb⟩
      have K14 : Hid (Keeps W v14) := K13.out.trans hb
      clear hb K13
      go_wp2_with fail
      refine wpAny_take (i := 44) (v := .agg #[.int .i64 1, .int .i64 0, .int .i64 0, .slice none 0 0]) rfl (by kernel_rfl) (by kernel_rfl) (by kernel_rfl) (fun _ _ _ h => h) (Or.inl ⟨by rfl, ?_⟩) ?_
      · intro w; go_simp
      refine wpAny_ready (rs := [40, 45]) (by kernel_rfl) (by simp) ?_
      refine AllReady.cons rfl (fun K hK => ?_) ?_
      · go_simp
        refine hK _ _ ?_
        clear hK K
        refine wpAny_take (i := 41) (v := .agg #[.int .i64 1, .int .i64 0, .int .i64 0, .slice (some ⟨v14.heap.size, 0, none⟩) 0 0]) rfl (by kernel_rfl) (by kernel_rfl) (by kernel_rfl) (fun _ _ _ h => h) (Or.inl ⟨by rfl, ?_⟩) ?_
        · intro w; go_simp
        refine wpAny_ready (rs := [42, 45]) (by kernel_rfl) (by simp) ?_
        refine AllReady.cons rfl (fun K hK => ?_) ?_
        · go_simp
          refine hK _ _ ?_
          clear hK K
          refine wpAny_take (i := 43) (v := .agg #[.int .i64 0, .int .i64 0, .int .i64 0, .int .i64 0, .int .i64 0, .int .i64 0, .slice (some ⟨v14.heap.size + 1, 0, none⟩) 1 1]) rfl (by kernel_rfl) (by kernel_rfl) (by kernel_rfl) (fun _ _ _ h => h) (Or.inl ⟨by rfl, ?_⟩) ?_
          · intro w; go_simp
          refine wpAny_ready (rs := [45]) (by kernel_rfl) (by simp) ?_
          refine AllReady.cons rfl (fun K hK => ?_) ?_
          · go_simp
            refine hK _ _ ?_
            clear hK K
            refine wpAny_take (i := 46) (v := .agg #[.int .i64 0, .int .i64 0, .int .i64 0, .int .i64 0, .int .i64 0, .int .i64 0, .slice (some ⟨v14.heap.size + 2, 0, none⟩) 1 1]) rfl (by kernel_rfl) (by kernel_rfl) (by kernel_rfl) (fun _ _ _ h => h) (Or.inl ⟨by rfl, ?_⟩) ?_
            · intro w; go_simp
            refine wpAny_at (k := 47) (by kernel_rfl) ?_
            refine wpAny_on 47 3 0 rfl (by kernel_rfl) ?_
            simp only [List.drop_succ_cons, List.drop_zero, List.take_succ_cons, List.take_zero]
            go_wp2_with fail
            refine (same_last (v14.heap.size + 1) (v14.heap.size + 2) (v14.heap.size) _ (by simp [go_sem]) (by simp [go_sem]) (by simp [go_sem]) (by simp [go_sem]) (by simp [go_sem]) (by simp [go_sem]) (by simp [go_sem]) (by simp [go_sem])).mono ?_
            rintro e v15 ⟨rfl, hb⟩
            have KE : Keeps w v15 := KW.out.trans (K14.out.trans ((((Keeps.refl _).alloc _).alloc _).alloc _ |>.trans hb))
            clear hb K14
            go_wp2_with fail
            refine wpAny_done (by kernel_rfl) ?_ _
            go_wp2_with fail
            go_ret
            exact ⟨rfl, KE⟩
          exact AllReady.nil
        refine AllReady.cons rfl (fun K hK => ?_) ?_
        · go_simp
          refine hK _ _ ?_
          clear hK K
          refine wpAny_take (i := 46) (v := .agg #[.int .i64 0, .int .i64 0, .int .i64 0, .int .i64 0, .int .i64 0, .int .i64 0, .slice (some ⟨v14.heap.size + 1, 0, none⟩) 1 1]) rfl (by kernel_rfl) (by kernel_rfl) (by kernel_rfl) (fun _ _ _ h => h) (Or.inl ⟨by rfl, ?_⟩) ?_
          · intro w; go_simp
          refine wpAny_ready (rs := [42]) (by kernel_rfl) (by simp) ?_
          refine AllReady.cons rfl (fun K hK => ?_) ?_
          · go_simp
            refine hK _ _ ?_
            clear hK K
            refine wpAny_take (i := 43) (v := .agg #[.int .i64 0, .int .i64 0, .int .i64 0, .int .i64 0, .int .i64 0, .int .i64 0, .slice (some ⟨v14.heap.size + 2, 0, none⟩) 1 1]) rfl (by kernel_rfl) (by kernel_rfl) (by kernel_rfl) (fun _ _ _ h => h) (Or.inl ⟨by rfl, ?_⟩) ?_
            · intro w; go_simp
            refine wpAny_at (k := 47) (by kernel_rfl) ?_
            refine wpAny_on 47 3 0 rfl (by kernel_rfl) ?_
            simp only [List.drop_succ_cons, List.drop_zero, List.take_succ_cons, List.take_zero]
            go_wp2_with fail
            refine (same_last (v14.heap.size + 2) (v14.heap.size + 1) (v14.heap.size) _ (by simp [go_sem]) (by simp [go_sem]) (by simp [go_sem]) (by simp [go_sem]) (by simp [go_sem]) (by simp [go_sem]) (by simp [go_sem]) (by simp [go_sem])).mono ?_
            rintro e v15 ⟨rfl, hb⟩
            have KE : Keeps w v15 := KW.out.trans (K14.out.trans ((((Keeps.refl _).alloc _).alloc _).alloc _ |>.trans hb))
            clear hb K14
            go_wp2_with fail
            refine wpAny_done (by kernel_rfl) ?_ _
            go_wp2_with fail
            go_ret
            exact ⟨rfl, KE⟩
          exact AllReady.nil
        exact AllReady.nil
      refine AllReady.cons rfl (fun K hK => ?_) ?_
      · go_simp
        refine hK _ _ ?_
        clear hK K
        refine wpAny_take (i := 46) (v := .agg #[.int .i64 0, .int .i64 0, .int .i64 0, .int .i64 0, .int .i64 0, .int .i64 0, .slice (some ⟨v14.heap.size, 0, none⟩) 1 1]) rfl (by kernel_rfl) (by kernel_rfl) (by kernel_rfl) (fun _ _ _ h => h) (Or.inl ⟨by rfl, ?_⟩) ?_
        · intro w; go_simp
        refine wpAny_ready (rs := [40]) (by kernel_rfl) (by simp) ?_
        refine AllReady.cons rfl (fun K hK => ?_) ?_
        · go_simp
          refine hK _ _ ?_
          clear hK K
          refine wpAny_take (i := 41) (v := .agg #[.int .i64 1, .int .i64 0, .int .i64 0, .slice (some ⟨v14.heap.size + 1, 0, none⟩) 0 0]) rfl (by kernel_rfl) (by kernel_rfl) (by kernel_rfl) (fun _ _ _ h => h) (Or.inl ⟨by rfl, ?_⟩) ?_
          · intro w; go_simp
          refine wpAny_ready (rs := [42]) (by kernel_rfl) (by simp) ?_
          refine AllReady.cons rfl (fun K hK => ?_) ?_
          · go_simp
            refine hK _ _ ?_
            clear hK K
            refine wpAny_take (i := 43) (v := .agg #[.int .i64 0, .int .i64 0, .int .i64 0, .int .i64 0, .int .i64 0, .int .i64 0, .slice (some ⟨v14.heap.size + 2, 0, none⟩) 1 1]) rfl (by kernel_rfl) (by kernel_rfl) (by kernel_rfl) (fun _ _ _ h => h) (Or.inl ⟨by rfl, ?_⟩) ?_
            · intro w; go_simp
            refine wpAny_at (k := 47) (by kernel_rfl) ?_
            refine wpAny_on 47 3 0 rfl (by kernel_rfl) ?_
            simp only [List.drop_succ_cons, List.drop_zero, List.take_succ_cons, List.take_zero]
            go_wp2_with fail
            refine (same_last (v14.heap.size + 2) (v14.heap.size) (v14.heap.size + 1) _ (by simp [go_sem]) (by simp [go_sem]) (by simp [go_sem]) (by simp [go_sem]) (by simp [go_sem]) (by simp [go_sem]) (by simp [go_sem]) (by simp [go_sem])).mono ?_
            rintro e v15 ⟨rfl, hb⟩
            have KE : Keeps w v15 := KW.out.trans (K14.out.trans ((((Keeps.refl _).alloc _).alloc _).alloc _ |>.trans hb))
            clear hb K14
            go_wp2_with fail
            refine wpAny_done (by kernel_rfl) ?_ _
            go_wp2_with fail
            go_ret
            exact ⟨rfl, KE⟩
          exact AllReady.nil
        exact AllReady.nil
      exact AllReady.nil
    · go_wp2_with fail
      refine (begin_c _).mono ?_
      rintro e v13 ⟨rfl, hb⟩
      have K13 : Hid (Keeps W v13) := K12.out.trans hb
      clear hb K12
      go_wp2_with fail
      refine wpAny_on 37 3 10 rfl (by kernel_rfl) ?_
      simp only [List.drop_succ_cons, List.drop_zero, List.take_succ_cons, List.take_zero]
      go_wp2_with fail
      refine (same_of0 _).mono ?_
      rintro e v14 ⟨rfl, hb⟩
      have K14 : Hid (Keeps W v14) := K13.out.trans hb
      clear hb K13
      go_wp2_with fail
      refine wpAny_take (i := 44) (v := .agg #[.int .i64 1, .int .i64 0, .int .i64 0, .slice none 0 0]) rfl (by kernel_rfl) (by kernel_rfl) (by kernel_rfl) (fun _ _ _ h => h) (Or.inl ⟨by rfl, ?_⟩) ?_
      · intro w; go_simp
      refine wpAny_ready (rs := [40, 45]) (by kernel_rfl) (by simp) ?_
      refine AllReady.cons rfl (fun K hK => ?_) ?_
      · go_simp
        refine hK _ _ ?_
        clear hK K
        refine wpAny_take (i := 41) (v := .agg #[.int .i64 1, .int .i64 0, .int .i64 0, .slice (some ⟨v14.heap.size, 0, none⟩) 0 0]) rfl (by kernel_rfl) (by kernel_rfl) (by kernel_rfl) (fun _ _ _ h => h) (Or.inl ⟨by rfl, ?_⟩) ?_
        · intro w; go_simp
        refine wpAny_ready (rs := [42, 45]) (by kernel_rfl) (by simp) ?_
        refine AllReady.cons rfl (fun K hK => ?_) ?_
        · go_simp
          refine hK _ _ ?_
          clear hK K
          refine wpAny_take (i := 43) (v := .agg #[.int .i64 0, .int .i64 0, .int .i64 0, .int .i64 0, .int .i64 0, .int .i64 0, .slice (some ⟨v14.heap.size + 1, 0, none⟩) 1 1]) rfl (by kernel_rfl) (by kernel_rfl) (by kernel_rfl) (fun _ _ _ h => h) (Or.inl ⟨by rfl, ?_⟩) ?_
          · intro w; go_simp
          refine wpAny_ready (rs := [45]) (by kernel_rfl) (by simp) ?_
          refine AllReady.cons rfl (fun K hK => ?_) ?_
          · go_simp
            refine hK _ _ ?_
            clear hK K
            refine wpAny_take (i := 46) (v := .agg #[.int .i64 0, .int .i64 0, .int .i64 0, .int .i64 0, .int .i64 0, .int .i64 0, .slice (some ⟨v14.heap.size + 2, 0, none⟩) 1 1]) rfl (by kernel_rfl) (by kernel_rfl) (by kernel_rfl) (fun _ _ _ h => h) (Or.inl ⟨by rfl, ?_⟩) ?_
            · intro w; go_simp
            refine wpAny_at (k := 47) (by kernel_rfl) ?_
            refine wpAny_on 47 3 0 rfl (by kernel_rfl) ?_
            simp only [List.drop_succ_cons, List.drop_zero, List.take_succ_cons, List.take_zero]
            go_wp2_with fail
            refine (same_last (v14.heap.size + 1) (v14.heap.size + 2) (v14.heap.size) _ (by simp [go_sem]) (by simp [go_sem]) (by simp [go_sem]) (by simp [go_sem]) (by simp [go_sem]) (by simp [go_sem]) (by simp [go_sem]) (by simp [go_sem])).mono ?_
            rintro e v15 ⟨rfl, hb⟩
            have KE : Keeps w v15 := KW.out.trans (K14.out.trans ((((Keeps.refl _).alloc _).alloc _).alloc _ |>.trans hb))
            clear hb K14
            go_wp2_with fail
            refine wpAny_done (by kernel_rfl) ?_ _
            go_wp2_with fail
            go_ret
            exact ⟨rfl, KE⟩
          exact AllReady.nil
        refine AllReady.cons rfl (fun K hK => ?_) ?_
        · go_simp
          refine hK _ _ ?_
          clear hK K
          refine wpAny_take (i := 46) (v := .agg #[.int .i64 0, .int .i64 0, .int .i64 0, .int .i64 0, .int .i64 0, .int .i64 0, .slice (some ⟨v14.heap.size + 1, 0, none⟩) 1 1]) rfl (by kernel_rfl) (by kernel_rfl) (by kernel_rfl) (fun _ _ _ h => h) (Or.inl ⟨by rfl, ?_⟩) ?_
          · intro w; go_simp
          refine wpAny_ready (rs := [42]) (by kernel_rfl) (by simp) ?_
          refine AllReady.cons rfl (fun K hK => ?_) ?_
          · go_simp
            refine hK _ _ ?_
            clear hK K
            refine wpAny_take (i := 43) (v := .agg #[.int .i64 0, .int .i64 0, .int .i64 0, .int .i64 0, .int .i64 0, .int .i64 0, .slice (some ⟨v14.heap.size + 2, 0, none⟩) 1 1]) rfl (by kernel_rfl) (by kernel_rfl) (by kernel_rfl) (fun _ _ _ h => h) (Or.inl ⟨by rfl, ?_⟩) ?_
            · intro w; go_simp
            refine wpAny_at (k := 47) (by kernel_rfl) ?_
            refine wpAny_on 47 3 0 rfl (by kernel_rfl) ?_
            simp only [List.drop_succ_cons, List.drop_zero, List.take_succ_cons, List.take_zero]
            go_wp2_with fail
            refine (same_last (v14.heap.size + 2) (v14.heap.size + 1) (v14.heap.size) _ (by simp [go_sem]) (by simp [go_sem]) (by simp [go_sem]) (by simp [go_sem]) (by simp [go_sem]) (by simp [go_sem]) (by simp [go_sem]) (by simp [go_sem])).mono ?_
            rintro e v15 ⟨rfl, hb⟩
            have KE : Keeps w v15 := KW.out.trans (K14.out.trans ((((Keeps.refl _).alloc _).alloc _).alloc _ |>.trans hb))
            clear hb K14
            go_wp2_with fail
            refine wpAny_done (by kernel_rfl) ?_ _
            go_wp2_with fail
            go_ret
            exact ⟨rfl, KE⟩
          exact AllReady.nil
        exact AllReady.nil
      refine AllReady.cons rfl (fun K hK => ?_) ?_
      · go_simp
        refine hK _ _ ?_
        clear hK K
        refine wpAny_take (i := 46) (v := .agg #[.int .i64 0, .int .i64 0, .int .i64 0, .int .i64 0, .int .i64 0, .int .i64 0, .slice (some ⟨v14.heap.size, 0, none⟩) 1 1]) rfl (by kernel_rfl) (by kernel_rfl) (by kernel_rfl) (fun _ _ _ h => h) (Or.inl ⟨by rfl, ?_⟩) ?_
        · intro w; go_simp
        refine wpAny_ready (rs := [40]) (by kernel_rfl) (by simp) ?_
        refine AllReady.cons rfl (fun K hK => ?_) ?_
        · go_simp
          refine hK _ _ ?_
          clear hK K
          refine wpAny_take (i := 41) (v := .agg #[.int .i64 1, .int .i64 0, .int .i64 0, .slice (some ⟨v14.heap.size + 1, 0, none⟩) 0 0]) rfl (by kernel_rfl) (by kernel_rfl) (by kernel_rfl) (fun _ _ _ h => h) (Or.inl ⟨by rfl, ?_⟩) ?_
          · intro w; go_simp
          refine wpAny_ready (rs := [42]) (by kernel_rfl) (by simp) ?_
          refine AllReady.cons rfl (fun K hK => ?_) ?_
          · go_simp
            refine hK _ _ ?_
            clear hK K
            refine wpAny_take (i := 43) (v := .agg #[.int .i64 0, .int .i64 0, .int .i64 0, .int .i64 0, .int .i64 0, .int .i64 0, .slice (some ⟨v14.heap.size + 2, 0, none⟩) 1 1]) rfl (by kernel_rfl) (by kernel_rfl) (by kernel_rfl) (fun _ _ _ h => h) (Or.inl ⟨by rfl, ?_⟩) ?_
            · intro w; go_simp
            refine wpAny_at (k := 47) (by kernel_rfl) ?_
            refine wpAny_on 47 3 0 rfl (by kernel_rfl) ?_
            simp only [List.drop_succ_cons, List.drop_zero, List.take_succ_cons, List.take_zero]
            go_wp2_with fail
            refine (same_last (v14.heap.size + 2) (v14.heap.size) (v14.heap.size + 1) _ (by simp [go_sem]) (by simp [go_sem]) (by simp [go_sem]) (by simp [go_sem]) (by simp [go_sem]) (by simp [go_sem]) (by simp [go_sem]) (by simp [go_sem])).mono ?_
            rintro e v15 ⟨rfl, hb⟩
            have KE : Keeps w v15 := KW.out.trans (K14.out.trans ((((Keeps.refl _).alloc _).alloc _).alloc _ |>.trans hb))
            clear hb K14
            go_wp2_with fail
            refine wpAny_done (by kernel_rfl) ?_ _
            go_wp2_with fail
            go_ret
            exact ⟨rfl, KE⟩
          exact AllReady.nil
        exact AllReady.nil
      exact AllReady.nil
end Go.Proofs.Ythlfdpolflifgab
