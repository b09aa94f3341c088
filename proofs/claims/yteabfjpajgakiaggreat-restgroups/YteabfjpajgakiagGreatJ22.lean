/- GrS, NoH, SomeC, PaE, PaG. -/
import Derived.Test.YteabfjpajgakiagGreatJ13
import Derived.Test.YteabfjpajgakiagGreatJ17
import Derived.Test.YteabfjpajgakiagGreatJ19
import Derived.Test.YteabfjpajgakiagGreatJ21
/- groupBegun. -/
set_option linter.unusedSimpArgs false
set_option linter.unusedVariables false
set_option maxRecDepth 10000
namespace Go.Proofs.YteabfjpajgakiagGreat
open Go.RowKit

set_option maxHeartbeats 8000000 in
theorem group_begun (w : World) : Calls Tryz.prog 5 #[] w fun y w' => y = .returned (.bool true) ∧ Keeps w w' := by
  obtain ⟨p1, p2, p3, p4, p5, p6, p7, p8, p9⟩ := gr_runs
  have HP1 : Hid (∀ W, Calls Tryz.prog 8 #[.agg (GL zeroGrp zeroAd).toArray, entV bE1] W fun y w' => ∃ B, GrOwn W.heap.size w' bG1 B ∧ y = .returned (.tuple #[.agg (GL bG1 B).toArray, .int .i64 0, .int .i64 0]) ∧ Keeps W w') := fun W => by
    have := group_put zeroGrp zeroAd bE1 W (GrOwn.zero 0 _).at
    rw [p1.1, p1.2] at this
    exact this
  have HP2 : Hid (∀ A W, GrAt W bG1 A → Calls Tryz.prog 8 #[.agg (GL bG1 A).toArray, entV bE2] W fun y w' => ∃ B, GrOwn W.heap.size w' bG2 B ∧ y = .returned (.tuple #[.agg (GL bG2 B).toArray, .int .i64 5, .int .i64 0]) ∧ Keeps W w') := fun A W h => by
    have := group_put bG1 A bE2 W h
    rw [p2.1, p2.2] at this
    exact this
  have HP3 : Hid (∀ A W, GrAt W bG2 A → Calls Tryz.prog 9 #[.agg (GL bG2 A).toArray, .int .i64 1, .int .i64 9] W fun y w' => ∃ B, GrOwn W.heap.size w' bH B ∧ y = .returned (.tuple #[.agg (GL bH B).toArray, .int .i64 2, .int .i64 0]) ∧ Keeps W w') := fun A W h => by
    have := group_run bG2 A 1 9 W h
    rw [p3.1, p3.2] at this
    exact this
  have HP4 : Hid (∀ A W, GrAt W bH A → Calls Tryz.prog 10 #[.agg (GL bH A).toArray, .int .i64 2] W fun y w' => ∃ B, GrOwn W.heap.size w' bJ B ∧ y = .returned (.tuple #[.agg (GL bJ B).toArray, .int .i64 0]) ∧ Keeps W w') := fun A W h => by
    have := group_cut bH A 2 W h
    rw [p4] at this
    exact this
  have HP5 : Hid (∀ A W, GrAt W bJ A → Calls Tryz.prog 9 #[.agg (GL bJ A).toArray, .int .i64 0, .int .i64 0] W fun y w' => ∃ B, GrOwn W.heap.size w' bP B ∧ y = .returned (.tuple #[.agg (GL bP B).toArray, .int .i64 0, .int .i64 0]) ∧ Keeps W w') := fun A W h => by
    have := group_run bJ A 0 0 W h
    rw [p5.1, p5.2] at this
    exact this
  have HP6 : Hid (∀ A W, GrAt W bJ A → Calls Tryz.prog 9 #[.agg (GL bJ A).toArray, .int .i64 3, .int .i64 0] W fun y w' => ∃ Z B nu, GrOwn W.heap.size w' Z B ∧ y = .returned (.tuple #[.agg (GL Z B).toArray, .int .i64 nu, .int .i64 3]) ∧ Keeps W w') := fun A W h => by
    have := group_run bJ A 3 0 W h
    rw [p6] at this
    exact this.mono fun y w' ⟨B, h1, h2, h3⟩ => ⟨_, B, _, h1, h2, h3⟩
  have HP8 : Hid (∀ W, Calls Tryz.prog 23 #[.agg (GL zeroGrp zeroAd).toArray] W fun e w' => e = .returned (.int .i64 0) ∧ Keeps W w') := fun W => by
    have := group_check zeroGrp zeroAd W (GrOwn.zero 0 _).at
    rw [p8] at this
    exact this
  have HP9 : Hid (∀ A W, GrAt W bH A → Calls Tryz.prog 23 #[.agg (GL (setV bH) A).toArray] W fun e w' => e = .returned (.int .i64 1) ∧ Keeps W w') := fun A W h => by
    have := group_check (setV bH) A W h.setV
    rw [p9] at this
    exact this
  obtain ⟨v1, v2, v3⟩ := p7
  clear p1 p2 p3 p4 p5 p6 p8 p9
  generalize bG1 = G1 at *
  generalize bG2 = G2 at *
  generalize bH = H at *
  generalize bJ = J at *
  generalize bP = PP at *
  go_enter Tryz.func5, Tryz.ntmps5
  go_wp2_with fail
  refine (group_begin w).mono ?_
  rintro y w1 ⟨rfl, hb1⟩
  go_wp2_with fail
  refine (mk_open 1 1 w1).mono ?_
  rintro y w2 ⟨rfl, hb2⟩
  go_wp2_with fail
  refine (HP1.out w2).mono ?_
  rintro y w3 ⟨B1, ho, rfl, hb3⟩
  have hk3 : Keeps w w3 := (hb1.trans hb2).trans hb3
  have HO3 : Hid (GrOwn w2.heap.size w3 G1 B1) := ho
  clear ho hb1 hb2 hb3 HP1
  go_wp2_with (first | (refine alloc31 rfl rfl ?_; intro w4 gb hBgb hkgb hlgb hggb) | (refine store31 rfl rfl gb rfl rfl hBgb ?_; intro w5 hSw5 hTw5))
  have hk35 : Keeps w3 w5 := But.to hkgb hggb hTw5
  obtain ⟨base, hbase⟩ : ∃ z, z = w5.heap.size := ⟨_, rfl⟩
  have HGL : Hid (gb < base) := by rw [hbase]; exact hSw5.lt (by rw [GL_len]; decide)
  have HGG : Hid (w.heap.size ≤ gb) := Nat.le_trans hk3.size hggb
  have HI0 : Hid ((fun W => Keeps w W ∧ base ≤ W.heap.size) w5.drew) := ⟨(hk3.trans hk35).drew, by rw [hbase]; exact Nat.le_refl _⟩
  have HJ0 : Hid (CBox gb (GL G1 B1) w5.drew ∧ GrAt w5.drew G1 B1) := ⟨hSw5.keep (Keeps.refl _).drew (by rw [GL_len]; decide), (HO3.out.at.keep hk35).keep (Keeps.refl _).drew⟩
  clear hbase hBgb hkgb hlgb hggb hSw5 hTw5 hk3 hk35 HO3
  refine wp_region_growI (fun W => Keeps w W ∧ base ≤ W.heap.size) HI0.out ⟨fun _ W => CBox gb (GL G1 B1) W ∧ GrAt W G1 B1, fun _ W W' h hk => ⟨h.1.keep hk (by rw [GL_len]; decide), h.2.keep hk⟩⟩ HJ0.out [some 26, some 27, some 28, some 29, some 25, some 30, some 31, some 32, none, some 4, some 5] [
  Pr.is (.agg (GL G1 B1).toArray),
  Pr.is (.agg #[.int .i64 2, .int .i64 0, .int .i64 0, .int .i64 5]),
  Pr.is (entV bE2),
  ⟨fun v W => ∃ B, v = .tuple #[.agg (GL G2 B).toArray, .int .i64 5, .int .i64 0] ∧ GrOwn base W G2 B, fun v W W' ⟨B, h1, h2⟩ hk => ⟨B, h1, h2.keep hk⟩⟩,
  ⟨fun v W => ∃ B, v = .tuple #[.agg (GL G2 B).toArray, .int .i64 5, .int .i64 0] ∧ GrOwn base W G2 B, fun v W W' ⟨B, h1, h2⟩ hk => ⟨B, h1, h2.keep hk⟩⟩,
  ⟨fun v W => ∃ B, v = .agg (GL G2 B).toArray ∧ GrOwn base W G2 B, fun v W W' ⟨B, h1, h2⟩ hk => ⟨B, h1, h2.keep hk⟩⟩,
  Pr.is (.int .i64 5),
  Pr.is (.int .i64 0),
  ⟨fun v W => ∃ B, CBox gb (GL G2 B) W ∧ GrOwn base W G2 B, fun v W W' ⟨B, h1, h2⟩ hk => ⟨B, h1.keep hk (by rw [GL_len]; decide), h2.keep hk⟩⟩,
  Pr.is (.int .i64 5),
  Pr.is (.int .i64 0)] [⟨8, [], fun W W' => But gb W W'⟩] (by kernel_rfl) (by kernel_rfl) (by kernel_rfl) (by kernel_rfl) ?_ ?_ ?_
  · intro i hi
    match i, hi with
    | 0, _ =>
      refine GrowStepI.wrp rfl rfl ?_
      intro vs W hI hJ hR K hK
      have hb : CBox gb (GL G1 B1) W ∧ GrAt W G1 B1 := hJ (by kernel_rfl)
      refine h_load rfl (p := .pointer (some ⟨gb, 0, none⟩)) (by kernel_rfl) (load31_run hb.1) ?_
      refine hK.out _ (.agg (GL G1 B1).toArray) _ (by kernel_rfl) (FrI.of (by simp) ⟨hI.1.trans (Keeps.refl W), Nat.le_trans hI.2 (Keeps.size (Keeps.refl W))⟩ (Keeps.refl W)) ?_
      exact rfl
    | 1, _ =>
      refine GrowStepI.wrp rfl rfl ?_
      intro vs W hI hJ hR K hK
      refine h_call ?_
      go_simp
      refine (mk_add 5 W).mono ?_
      rintro y W' ⟨rfl, hb⟩
      go_simp
      refine hK.out _ (.agg #[.int .i64 2, .int .i64 0, .int .i64 0, .int .i64 5]) _ (by kernel_rfl) (FrI.of (by simp) ⟨hI.1.trans (hb), Nat.le_trans hI.2 (Keeps.size (hb))⟩ (hb)) ?_
      exact rfl
    | 2, _ =>
      refine GrowStepI.wrp rfl rfl ?_
      intro vs W hI hJ hR K hK
      have h1 : vs 1 = .agg #[.int .i64 2, .int .i64 0, .int .i64 0, .int .i64 5] := hR 1 (by kernel_rfl)
      refine h_call ?_
      simp only [fillL, Nat.zero_add, Nat.reduceAdd, h1] at hK ⊢
      go_simp
      refine (mk_call 2 1 1 0 2 0 0 5 W).mono ?_
      rintro y W' ⟨rfl, hb⟩
      go_simp
      refine hK.out _ (entV bE2) _ (by kernel_rfl) (FrI.of (by simp) ⟨hI.1.trans (hb), Nat.le_trans hI.2 (Keeps.size (hb))⟩ (hb)) ?_
      exact rfl
    | 3, _ =>
      refine GrowStepI.wrp rfl rfl ?_
      intro vs W hI hJ hR K hK
      have h0 : vs 0 = .agg (GL G1 B1).toArray := hR 0 (by kernel_rfl)
      have h2 : vs 2 = entV bE2 := hR 2 (by kernel_rfl)
      have hj : CBox gb (GL G1 B1) W ∧ GrAt W G1 B1 := hJ (by kernel_rfl)
      refine h_call ?_
      simp only [fillL, Nat.zero_add, Nat.reduceAdd, h0, h2] at hK ⊢
      go_simp
      refine (HP2.out B1 W hj.2).mono ?_
      rintro y W' ⟨B, ho, rfl, hb⟩
      go_simp
      refine hK.out _ (.tuple #[.agg (GL G2 B).toArray, .int .i64 5, .int .i64 0]) _ (by kernel_rfl) (FrI.of (by simp) ⟨hI.1.trans (hb), Nat.le_trans hI.2 (Keeps.size (hb))⟩ (hb)) ?_
      exact ⟨B, rfl, ho.mono hI.2⟩
    | 4, _ =>
      refine GrowStepI.wrp rfl rfl ?_
      intro vs W hI hJ hR K hK
      obtain ⟨B, h3, ho⟩ : ∃ B, vs 3 = .tuple #[.agg (GL G2 B).toArray, .int .i64 5, .int .i64 0] ∧ GrOwn base W G2 B := hR 3 (by kernel_rfl)
      refine h_move rfl ((show _ = vs 3 from by kernel_rfl).trans h3) ?_
      refine hK.out _ (.tuple #[.agg (GL G2 B).toArray, .int .i64 5, .int .i64 0]) _ (by kernel_rfl) (FrI.of (by simp) ⟨hI.1.trans (Keeps.refl W), Nat.le_trans hI.2 (Keeps.size (Keeps.refl W))⟩ (Keeps.refl W)) ?_
      exact ⟨B, rfl, ho⟩
    | 5, _ =>
      refine GrowStepI.wrp rfl rfl ?_
      intro vs W hI hJ hR K hK
      obtain ⟨B, h4, ho⟩ : ∃ B, vs 4 = .tuple #[.agg (GL G2 B).toArray, .int .i64 5, .int .i64 0] ∧ GrOwn base W G2 B := hR 4 (by kernel_rfl)
      refine h_extract rfl ((show _ = vs 4 from by kernel_rfl).trans h4) rfl ?_
      refine hK.out _ (.agg (GL G2 B).toArray) _ (by kernel_rfl) (FrI.of (by simp) ⟨hI.1.trans (Keeps.refl W), Nat.le_trans hI.2 (Keeps.size (Keeps.refl W))⟩ (Keeps.refl W)) ?_
      exact ⟨B, rfl, ho⟩
    | 6, _ =>
      refine GrowStepI.wrp rfl rfl ?_
      intro vs W hI hJ hR K hK
      obtain ⟨B, h4, ho⟩ : ∃ B, vs 4 = .tuple #[.agg (GL G2 B).toArray, .int .i64 5, .int .i64 0] ∧ GrOwn base W G2 B := hR 4 (by kernel_rfl)
      refine h_extract rfl ((show _ = vs 4 from by kernel_rfl).trans h4) rfl ?_
      refine hK.out _ (.int .i64 5) _ (by kernel_rfl) (FrI.of (by simp) ⟨hI.1.trans (Keeps.refl W), Nat.le_trans hI.2 (Keeps.size (Keeps.refl W))⟩ (Keeps.refl W)) ?_
      exact rfl
    | 7, _ =>
      refine GrowStepI.wrp rfl rfl ?_
      intro vs W hI hJ hR K hK
      obtain ⟨B, h4, ho⟩ : ∃ B, vs 4 = .tuple #[.agg (GL G2 B).toArray, .int .i64 5, .int .i64 0] ∧ GrOwn base W G2 B := hR 4 (by kernel_rfl)
      refine h_extract rfl ((show _ = vs 4 from by kernel_rfl).trans h4) rfl ?_
      refine hK.out _ (.int .i64 0) _ (by kernel_rfl) (FrI.of (by simp) ⟨hI.1.trans (Keeps.refl W), Nat.le_trans hI.2 (Keeps.size (Keeps.refl W))⟩ (Keeps.refl W)) ?_
      exact rfl
    | 8, _ =>
      refine GrowStepI.wrp rfl rfl ?_
      intro vs W hI hJ hR K hK
      obtain ⟨B, h5, ho⟩ : ∃ B, vs 5 = .agg (GL G2 B).toArray ∧ GrOwn base W G2 B := hR 5 (by kernel_rfl)
      have hj : CBox gb (GL G1 B1) W ∧ GrAt W G1 B1 := hJ (by kernel_rfl)
      refine h_store31 rfl gb (by kernel_rfl) (g' := G2) (A' := B) ((show _ = vs 5 from by kernel_rfl).trans h5) hj.1 ?_
      intro W' hS hT
      refine hK.out _ undef _ (by kernel_rfl) ⟨fun h => absurd rfl (h _ (List.mem_cons_self ..)), ⟨But.to hI.1 HGG.out hT, Nat.le_trans hI.2 hT.size⟩, fun x hx e => ?_⟩ ?_
      · rcases List.mem_cons.1 hx with rfl | hx
        · exact hT
        · cases hx
      · exact ⟨B, hS, ho.but HGL.out hT⟩
    | 9, _ =>
      refine GrowStepI.wrp rfl rfl ?_
      intro vs W hI hJ hR K hK
      have h6 : vs 6 = .int .i64 5 := hR 6 (by kernel_rfl)
      refine h_assign rfl ((show _ = vs 6 from by kernel_rfl).trans h6) ?_
      refine hK.out _ (.int .i64 5) _ (by kernel_rfl) (FrI.of (by simp) ⟨hI.1.trans (Keeps.refl W), Nat.le_trans hI.2 (Keeps.size (Keeps.refl W))⟩ (Keeps.refl W)) ?_
      exact rfl
    | 10, _ =>
      refine GrowStepI.wrp rfl rfl ?_
      intro vs W hI hJ hR K hK
      have h7 : vs 7 = .int .i64 0 := hR 7 (by kernel_rfl)
      refine h_assign rfl ((show _ = vs 7 from by kernel_rfl).trans h7) ?_
      refine hK.out _ (.int .i64 0) _ (by kernel_rfl) (FrI.of (by simp) ⟨hI.1.trans (Keeps.refl W), Nat.le_trans hI.2 (Keeps.size (Keeps.refl W))⟩ (Keeps.refl W)) ?_
      exact rfl
    | k + 11, h => exact absurd h (by simp)
  · intro x hx j hj hd hn hr v W W' hp hf
    rcases List.mem_cons.1 hx with rfl | hx
    · match j, hj with
      | 0, _ => exact hp
      | 1, _ => exact hp
      | 2, _ => exact hp
      | 3, _ =>
        obtain ⟨B, h1, h2⟩ := hp
        exact ⟨B, h1, h2.but HGL.out hf⟩
      | 4, _ =>
        obtain ⟨B, h1, h2⟩ := hp
        exact ⟨B, h1, h2.but HGL.out hf⟩
      | 5, _ =>
        obtain ⟨B, h1, h2⟩ := hp
        exact ⟨B, h1, h2.but HGL.out hf⟩
      | 6, _ => exact hp
      | 7, _ => exact hp
      | 8, _ => exact absurd rfl hn
      | 9, _ => exact hp
      | 10, _ => exact hp
      | k + 11, h => exact absurd h (by simp)
    · cases hx
  · intro vs W0 hI hR
    obtain ⟨B2, hB, hO⟩ : ∃ B, CBox gb (GL G2 B) W0 ∧ GrOwn base W0 G2 B := hR 8 (by decide) (by simp)
    have h9 : vs 9 = .int .i64 5 := hR 9 (by decide) (by simp)
    have h10 : vs 10 = .int .i64 0 := hR 10 (by decide) (by simp)
    have HK0 : Hid (Keeps w W0) := hI.1
    have HO0 : Hid (GrAt W0 G2 B2) := hO.at
    clear hI hR hO HI0 HJ0 HP2
    simp only [fillL, Nat.zero_add, Nat.reduceAdd, h9, h10]
    go_wp2_with (first | (refine load31 rfl rfl gb (by kernel_rfl) hB ?_))
    refine (HP3.out B2 W0 HO0.out).mono ?_
    rintro y W1 ⟨B3, ho, rfl, hb⟩
    have HK1 : Hid (Keeps w W1) := HK0.out.trans hb
    have HO1 : Hid (GrAt W1 H B3) := ho.at
    clear ho hb HP3 hB h9 h10 HK0 HO0
    go_wp2_with (first | (refine alloc31 rfl rfl ?_; intro V1 qh hBqh hkqh hlqh hgqh) | (refine store31 rfl rfl qh rfl rfl hBqh ?_; intro U1 hSU1 hTU1) | (refine load31 rfl rfl qh rfl hSU1 ?_))
    have hk1 : Keeps W1 U1 := But.to hkqh hgqh hTU1
    refine (HP4.out B3 U1 (HO1.out.keep hk1)).mono ?_
    rintro y W2 ⟨B4, ho, rfl, hb⟩
    have HK2 : Hid (Keeps w W2) := (HK1.out.trans hk1).trans hb
    have HH2 : Hid (CBox qh (GL H B3) W2) := hSU1.keep hb (by rw [GL_len]; decide)
    have HOH2 : Hid (GrAt W2 H B3) := (HO1.out.keep hk1).keep hb
    have HO2 : Hid (GrAt W2 J B4) := ho.at
    clear ho hb HP4 hBqh hkqh hlqh hgqh hSU1 hTU1 hk1 HK1 HO1
    go_wp2_with (first | (refine alloc31 rfl rfl ?_; intro V2 jb hBjb hkjb hljb hgjb) | (refine store31 rfl rfl jb rfl rfl hBjb ?_; intro U2 hSU2 hTU2) | (refine load31 rfl rfl jb rfl hSU2 ?_))
    have hk2 : Keeps W2 U2 := But.to hkjb hgjb hTU2
    refine (HP5.out B4 U2 (HO2.out.keep hk2)).mono ?_
    rintro y W3 ⟨B5, ho, rfl, hb⟩
    have hk23 : Keeps W2 W3 := hk2.trans hb
    have HK3 : Hid (Keeps w W3) := HK2.out.trans hk23
    have HH3 : Hid (CBox qh (GL H B3) W3) := HH2.out.keep hk23 (by rw [GL_len]; decide)
    have HOH3 : Hid (GrAt W3 H B3) := HOH2.out.keep hk23
    have HJ3 : Hid (CBox jb (GL J B4) W3) := hSU2.keep hb (by rw [GL_len]; decide)
    have HOJ3 : Hid (GrAt W3 J B4) := HO2.out.keep hk23
    clear ho hb HP5 hBjb hkjb hljb hgjb hSU2 hTU2 hk2 hk23 HK2 HO2 HH2 HOH2
    go_wp2_with (first | (refine alloc31 rfl rfl ?_; intro V3 pb hBpb hkpb hlpb hgpb) | (refine store31 rfl rfl pb rfl rfl hBpb ?_; intro U3 hSU3 hTU3) | (refine load31 rfl rfl jb rfl (HJ3.out.keep (But.to hkpb hgpb hTU3) (by rw [GL_len]; decide)) ?_))
    have hk3 : Keeps W3 U3 := But.to hkpb hgpb hTU3
    refine (HP6.out B4 U3 (HOJ3.out.keep hk3)).mono ?_
    rintro y W4 ⟨Z, BZ, nu, ho, rfl, hb⟩
    have hk34 : Keeps W3 W4 := hk3.trans hb
    have HK4 : Hid (Keeps w W4) := HK3.out.trans hk34
    have HH4 : Hid (CBox qh (GL H B3) W4) := HH3.out.keep hk34 (by rw [GL_len]; decide)
    have HOH4 : Hid (GrAt W4 H B3) := HOH3.out.keep hk34
    have HJ4 : Hid (CBox jb (GL J B4) W4) := HJ3.out.keep hk34 (by rw [GL_len]; decide)
    have HPB4 : Hid (CBox pb (GL PP B5) W4) := hSU3.keep hb (by rw [GL_len]; decide)
    clear ho hb HP6 hBpb hkpb hlpb hgpb hSU3 hTU3 hk3 hk34 HK3 HJ3 HOJ3 HH3 HOH3
    go_wp2_with (first | (have _h := hBzb; refine alloc31 rfl rfl ?_; intro V5 xb hBxb hkxb hlxb hgxb) | (refine alloc31 rfl rfl ?_; intro V4 zb hBzb hkzb hlzb hgzb) | (refine store31 rfl rfl zb rfl rfl hBzb ?_; intro U4 hSU4 hTU4) | (refine store31 rfl rfl xb rfl rfl hBxb ?_; intro U5 hSU5 hTU5) | (refine load31 rfl rfl qh rfl (HH4.out.keep (But.to hkzb hgzb hTU4) (by rw [GL_len]; decide)) ?_) | (refine store_cell rfl rfl xb 17 rfl rfl hSU5 (by rw [GL_len]; decide) (GL_setV H B3) ?_; intro U6 hSU6 hTU6))
    have k4 : Keeps W4 U4 := But.to hkzb hgzb hTU4
    have k5 : Keeps U4 U6 := But.to (But.to hkxb hgxb hTU5) hgxb hTU6
    have HK6 : Hid (Keeps w U6) := HK4.out.trans (k4.trans k5)
    have HH6 : Hid (CBox qh (GL H B3) U6) := HH4.out.keep (k4.trans k5) (by rw [GL_len]; decide)
    have HOH6 : Hid (GrAt U6 H B3) := HOH4.out.keep (k4.trans k5)
    have HJ6 : Hid (CBox jb (GL J B4) U6) := HJ4.out.keep (k4.trans k5) (by rw [GL_len]; decide)
    have HPB6 : Hid (CBox pb (GL PP B5) U6) := HPB4.out.keep (k4.trans k5) (by rw [GL_len]; decide)
    have HX6 : Hid (CBox xb (GL (setV H) B3) U6) := hSU6
    clear k4 k5 HK4 HH4 HOH4 HJ4 HPB4 hSU6 hTU6 hSU5 hTU5 hSU4 hTU4 hBzb hkzb hlzb hgzb hBxb hkxb hlxb hgxb
    refine (group_begin U6).mono ?_
    rintro y X1 ⟨rfl, hb1⟩
    go_wp2_with fail
    refine (HP8.out X1).mono ?_
    rintro y X2 ⟨rfl, hb2⟩
    have hX2 := (HX6.out.keep hb1 (by rw [GL_len]; decide)).keep hb2 (by rw [GL_len]; decide)
    simp only [List.append_eq, List.cons_append, List.nil_append] at *
    go_wp2_with (first | (refine load31w (by kernel_rfl) rfl xb (by kernel_rfl) hX2 ?_))
    clear hX2
    refine (HP9.out B3 X2 ((HOH6.out.keep hb1).keep hb2)).mono ?_
    rintro y X3 ⟨rfl, hb3⟩
    have hk63 : Keeps U6 X3 := (hb1.trans hb2).trans hb3
    have HK3 : Hid (Keeps w X3) := HK6.out.trans hk63
    have bH := HH6.out.keep hk63 (by rw [GL_len]; decide)
    have bJ := HJ6.out.keep hk63 (by rw [GL_len]; decide)
    have bP := HPB6.out.keep hk63 (by rw [GL_len]; decide)
    have cH : X3.cell? ⟨qh, 17, none⟩ = some (.int .i64 5) := by rw [← v1]; exact bH.1 17 _ rfl
    have cJ : X3.cell? ⟨jb, 7, none⟩ = some (.slice B4.ta 0 B4.tc) := by rw [← v2]; exact bJ.1 7 _ rfl
    have cP : X3.cell? ⟨pb, 10, none⟩ = some (.int .i64 5) := by rw [← v3]; exact bP.1 10 _ rfl
    have lH := bH.lt (by rw [GL_len]; decide)
    have lJ := bJ.lt (by rw [GL_len]; decide)
    have lP := bP.lt (by rw [GL_len]; decide)
    clear bH bJ bP hb1 hb2 hb3 hk63 HK6 HH6 HOH6 HJ6 HPB6 HX6 v1 v2 v3 HP8 HP9
    go_wp2_with fail
    go_ret
    exact ⟨rfl, HK3.out⟩
end Go.Proofs.YteabfjpajgakiagGreat

/- Who fits, and runs: plain facts. -/
set_option linter.unusedSimpArgs false
set_option linter.unusedVariables false
set_option maxRecDepth 10000
namespace Go.Proofs.YteabfjpajgakiagGreat
open Go.RowKit

def runTo (l : Lg) (j : Nat) : St := runSt l.base (l.tail.take j)
theorem runTo_at {l : Lg} (hl : lgErr l = 0) {j : Nat} (hj : j ≤ l.tail.length) : stErr (runTo l j) = 0 ∧ (runTo l j).at_ = l.base.at_ + j := by
  obtain ⟨h1, h2, h3⟩ := fold_right hl
  have := run_right (L := l.tail.take j) h1 (fun x hx => h2 x (List.mem_of_mem_take hx)) (by simp; omega)
  refine ⟨this.1, ?_⟩
  have h4 := this.2
  unfold runTo
  rw [h4]
  simp
  omega
theorem from_to {l : Lg} {s : St} (hf : fitsB l s = true) : runFrom l s = runTo l (runLo l s) := by
  unfold fitsB at hf
  unfold runLo runFrom runTo
  split at hf
  · rename_i h
    rw [if_pos h]
    simp [runSt]
  · rename_i h
    split at hf
    · cases hf
    · rename_i h'
      rw [if_neg h]
      exact (same_st_iff.1 hf).symm
theorem fits_to {l : Lg} {s : St} (hf : fitsB l s = true) : s.at_ < l.base.at_ ∨ ∃ k : Nat, k ≤ l.tail.length ∧ s.at_ - l.base.at_ = k ∧ s = runTo l k := by
  by_cases h : s.at_ < l.base.at_
  · exact Or.inl h
  · right
    have h1 := from_to hf
    unfold runFrom at h1
    rw [if_neg h] at h1
    have h2 : runLo l s = (s.at_ - l.base.at_).toNat := by unfold runLo runFrom; rw [if_neg h]
    unfold fitsB at hf
    rw [if_neg h] at hf
    split at hf
    · cases hf
    · exact ⟨runLo l s, by omega, by omega, h1⟩
theorem cut_plain {l : Lg} (h : lgErr l = 0) {n : Nat} (hn : n ≤ l.tail.length) : cutErr l n = 0 ∧ cutLg l n = ⟨runSt l.base (l.tail.take n), l.tail.drop n⟩ ∧ lgErr (cutLg l n) = 0 := by
  have e1 : cutErr l n = 0 := by
    unfold cutErr
    rw [h]
    simp only [beq_self_eq_true, if_true]
    rw [if_pos (inB_iff.2 ⟨by omega, by omega⟩)]
  have e2 : cutLg l n = ⟨runSt l.base (l.tail.take n), l.tail.drop n⟩ := by
    unfold cutLg
    rw [e1]
    simp
  exact ⟨e1, e2, by rw [e2]; exact (split_right h n).2.1⟩
theorem fits_cut {l : Lg} {s : St} (hl : lgErr l = 0) (hs : stErr s = 0) (hf : fitsB l s = true) {n : Nat} (hn : n ≤ l.tail.length) : nodeErr (cutLg l n) s = 0 ∧ fitsOk (cutLg l n) s = true := by
  obtain ⟨a1, a2, a3⟩ := cut_plain hl hn
  have e1 : nodeErr (cutLg l n) s = 0 := by unfold nodeErr; rw [a3]; exact hs
  refine ⟨e1, ?_⟩
  unfold fitsOk
  rw [e1]
  simp only [beq_self_eq_true, if_true]
  have hat := (runTo_at hl hn).2
  unfold runTo at hat
  rw [a2]
  unfold fitsB
  simp only []
  rw [hat]
  split
  · rfl
  · rename_i h
    rcases fits_to hf with h1 | ⟨k, hk, hk1, hk2⟩
    · omega
    · rw [if_neg (by simp; omega)]
      have e3 : (s.at_ - (l.base.at_ + n)).toNat = k - n := by omega
      rw [e3, ← runSt_append]
      have e4 : l.tail.take n ++ (l.tail.drop n).take (k - n) = l.tail.take k := by
        rw [← List.take_add]
        congr 1
        omega
      rw [e4, hk2]
      exact same_self _
end Go.Proofs.YteabfjpajgakiagGreat

/- Some entries of a log: how much room is behind them. -/
set_option linter.unusedSimpArgs false
set_option linter.unusedVariables false
set_option maxRecDepth 10000
namespace Go.Proofs.YteabfjpajgakiagGreat
open Go.RowKit

end Go.Proofs.YteabfjpajgakiagGreat

/- packBegun. -/
set_option linter.unusedSimpArgs false
set_option linter.unusedVariables false
set_option maxRecDepth 10000
namespace Go.Proofs.YteabfjpajgakiagGreat
open Go.RowKit

end Go.Proofs.YteabfjpajgakiagGreat

/- The reference's PackPut; PackPuts: the walk. -/
set_option linter.unusedSimpArgs false
set_option linter.unusedVariables false
set_option maxRecDepth 10000
namespace Go.Proofs.YteabfjpajgakiagGreat
open Go.RowKit

theorem row_same {w w' : World} {size n c b o : Nat} {xs : List Value} (h : RowAt w size (.slice (some ⟨b, o, none⟩) n c) n xs) (hb : w'.heap[b]? = w.heap[b]?) : RowAt w' size (.slice (some ⟨b, o, none⟩) n c) n xs := by
  obtain ⟨h1, h2, h3⟩ := h
  refine ⟨h1, h2, ?_⟩
  rcases h3 with ⟨e, _⟩ | ⟨a, cap, e, h3⟩
  · cases e
  · injection e with e1 e2 e3
    injection e1 with e1
    subst e1
    refine .inr ⟨_, cap, by rw [e3], fun j u hu => ?_⟩
    have := h3 j u hu
    rw [Addr.add_lit] at this ⊢
    exact (World.cell?_of_block hb).trans this

theorem ents_snoc {w : World} {base gc : Nat} {ga : Option Addr} {L : List Ent} {e : Ent} (h : w.ownsRow base 35 9 (.slice ga (L.length + 1) gc) (L.length + 1) (entCells L ++ entCells [e])) : EntsAt w (.slice ga (L.length + 1) gc) (L ++ [e]) := by
  have := RowAt.of_owns h
  unfold EntsAt
  rw [List.length_append, entCells_append]
  exact this

end Go.Proofs.YteabfjpajgakiagGreat
