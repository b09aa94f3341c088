/- GrX. -/
import Derived.Test.YteabfjpajgakiafJ15
import Derived.Test.YteabfjpajgakiafJ22
/- GroupEnd: the walk. -/
set_option linter.unusedSimpArgs false
set_option linter.unusedVariables false
set_option maxRecDepth 10000
namespace Go.Proofs.Yteabfjpajgakiaf
open Go.RowKit

theorem node_set (g : Grp) (s : St) : ∀ k, k < 3 → nodeAt (setNode g k s) k = s
  | 0, _ => rfl
  | 1, _ => rfl
  | 2, _ => rfl
  | _ + 3, h => absurd h (by omega)
theorem set_log (g : Grp) (s : St) : ∀ k, (setNode g k s).log = g.log
  | 0 => rfl
  | 1 => rfl
  | _ + 2 => rfl
/-- A node that runs to the end. -/
theorem run_to_end {G : Grp} (h : grErr G = 0) (B : Ad) (k : Nat) (hk : k < 3) (W : World) (hG : GrAt W G B) : ∃ nu, Calls Try.prog 11 #[.agg (GL G B).toArray, .int .i64 (k : Int), .int .i64 50] W fun y w' => ∃ B', GrOwn W.heap.size w' (setNode G k (runSt G.log.base G.log.tail)) B' ∧ y = .returned (.tuple #[.agg (GL (setNode G k (runSt G.log.base G.log.tail)) B').toArray, .int .i64 nu, .int .i64 0]) ∧ Keeps W w' := by
  obtain ⟨a1, a2, a3⟩ := gr_end h k
  have e1 : rgErr G (k : Int) 50 = 0 := by
    unfold rgErr rnErr
    rw [if_pos (by rw [h]; rfl), if_pos (inB_iff.2 ⟨by omega, by omega⟩)]
    exact a1
  have e2 : rgG G (k : Int) 50 = setNode G k (runSt G.log.base G.log.tail) := by
    unfold rgG rnOut
    rw [if_pos (by rw [e1]; rfl)]
    have : ((k : Int)).toNat = k := by omega
    rw [this, a2]
  have := group_run G B (k : Int) 50 W hG
  rw [e1, e2] at this
  exact ⟨_, this⟩

set_option maxHeartbeats 8000000 in
theorem group_end (g : Grp) (A : Ad) (n : Int) (hn0 : -9223372036854775808 ≤ n) (hn1 : n ≤ 9223372036854775807) (w : World) (hG : GrAt w g A) : Calls Try.prog 4 #[.agg (GL g A).toArray, .int .i64 n] w fun y w' => y = .returned (.bool true) ∧ Keeps w w' := by
  have HG : Hid (GrAt w g A) := hG
  clear hG
  have HC0 : Hid (∀ W, Keeps w W → Calls Try.prog 7 #[.agg (GL g A).toArray] W fun y w' => y = .returned (.int .i64 (grErr g)) ∧ Keeps W w') := fun W hk => group_check g A W (HG.out.keep hk)
  have HCE : Hid (∀ W, Keeps w W → Calls Try.prog 14 #[logV g A] W fun y w' => ∃ qa qc, TabAt w' (.slice qa (allSt g.log.base g.log.tail).tab.length qc) (allSt g.log.base g.log.tail).tab ∧ y = .returned (.tuple #[stV (allSt g.log.base g.log.tail) (.slice qa (allSt g.log.base g.log.tail).tab.length qc), .int .i64 (lgErr g.log)]) ∧ Keeps W w') := fun W hk => by
    have hg := HG.out.keep hk
    refine (pack_end g.log _ A.ta A.tc W hg.base hg.tail hg.cap).mono ?_
    rintro y w' ⟨qa, qc, h1, h2, h3⟩
    exact ⟨qa, qc, h1.tab, h2, h3⟩
  have HAE : Hid (lgErr g.log = 0 → allSt g.log.base g.log.tail = (runSt g.log.base g.log.tail)) := fun h => by
    have h' : foldErr g.log.base g.log.tail = 0 := h
    simp [allSt, h']
  have HP : Hid (grErr g = 0 → g.log.tail.length ≤ 50 ∧ cgErr g (chF n ((g.log.tail.length : Int) + 1)) = 0 ∧ grErr (cgG g (chF n ((g.log.tail.length : Int) + 1))) = 0 ∧ runSt (cgG g (chF n ((g.log.tail.length : Int) + 1))).log.base (cgG g (chF n ((g.log.tail.length : Int) + 1))).log.tail = (runSt g.log.base g.log.tail)) := fun hz => by
    have hlen := (gr_right hz).2.2.1
    have hct := chF_in (c := n) (n := (g.log.tail.length : Int) + 1) (by omega)
    have hC := gr_cut hz (n := (chF n ((g.log.tail.length : Int) + 1)).toNat) (by omega)
    have hE := cut_end (gr_right hz).1 (n := (chF n ((g.log.tail.length : Int) + 1)).toNat) (by omega)
    rw [Int.toNat_of_nonneg hct.1] at hC hE
    have hCE : cgErr g (chF n ((g.log.tail.length : Int) + 1)) = 0 := by
      unfold cgErr
      rw [if_pos (by rw [hz]; rfl)]
      exact hC.1
    have hCG : cgG g (chF n ((g.log.tail.length : Int) + 1)) = setLog g (cutLg g.log (chF n ((g.log.tail.length : Int) + 1))) := by
      unfold cgG
      rw [if_pos (by rw [hCE]; rfl)]
    refine ⟨hlen, hCE, ?_, ?_⟩
    · rw [hCG]; exact hC.2
    · rw [hCG]; exact hE
  have HCT : Hid (grErr g = 0 → ∀ W, Calls Try.prog 12 #[.int .i64 n, .int .i64 ((g.log.tail.length : Int) + 1)] W fun e w' => e = .returned (.int .i64 (chF n ((g.log.tail.length : Int) + 1))) ∧ W = w') := fun hz W => by
    have hlen := (gr_right hz).2.2.1
    exact choose_f n _ W hn0 hn1 (by omega) (by omega)
  have HCC : Hid (grErr g = 0 → ∀ W, Keeps w W → Calls Try.prog 13 #[.agg (GL g A).toArray, .int .i64 (chF n ((g.log.tail.length : Int) + 1))] W fun y w' => ∃ B, GrOwn W.heap.size w' (cgG g (chF n ((g.log.tail.length : Int) + 1))) B ∧ y = .returned (.tuple #[.agg (GL (cgG g (chF n ((g.log.tail.length : Int) + 1))) B).toArray, .int .i64 0]) ∧ Keeps W w') := fun hz W hk => by
    have := group_cut g A (chF n ((g.log.tail.length : Int) + 1)) W (HG.out.keep hk)
    rw [(HP.out hz).2.1] at this
    exact this
  clear hn0 hn1
  generalize cgG g (chF n ((g.log.tail.length : Int) + 1)) = GC_ at *
  generalize hct : chF n ((g.log.tail.length : Int) + 1) = ct at *
  clear hct
  generalize allSt g.log.base g.log.tail = ES at *
  generalize lgErr g.log = le at *
  generalize grErr g = ge at *
  go_enter Try.func4, Try.ntmps4
  go_wp2_with (first | (refine box31 rfl rfl rfl ?_; intro w1 bb hBbb hkbb hlbb hgbb) | (refine load28 rfl rfl bb rfl hBbb ?_))
  refine (HCE.out w1 hkbb).mono ?_
  rintro y w2 ⟨qa, qc, hT, rfl, hb⟩
  have HK2 : Hid (Keeps w w2) := hkbb.trans hb
  have HB2 : Hid (CBox bb (GL g A) w2) := hBbb.keep hb (by rw [GL_len]; decide)
  have HT2 : Hid (TabAt w2 (.slice qa ES.tab.length qc) ES.tab) := hT
  clear hT hb hBbb hkbb hlbb hgbb HCE
  cases ql : (le == 0) with
  | false =>
    have ql' : (le != 0) = true := by simp [bne, ql]
    go_wp2_with (first | (refine alloc25 rfl rfl ?_; intro w3 sb hBsb hksb hlsb hgsb) | (refine store25b rfl rfl sb rfl rfl hBsb ?_; intro w4 hSw4 hTw4))
    have k24 : Keeps w2 w4 := But.to hksb hgsb hTw4
    have HK4 : Hid (Keeps w w4) := HK2.out.trans k24
    have HB4 : Hid (CBox bb (GL g A) w4) := HB2.out.keep k24 (by rw [GL_len]; decide)
    have HT4 : Hid (TabAt w4 (.slice qa ES.tab.length qc) ES.tab) := HT2.out.keep k24
    have HS4 : Hid (CBox sb (SC ES (.slice qa ES.tab.length qc)) w4) := hSw4
    clear k24 HK2 HB2 HT2 hBsb hksb hlsb hgsb hSw4 hTw4
    refine (group_begun w4).mono ?_
    rintro y w5 ⟨rfl, hb⟩
    go_wp2_with fail
    go_ret
    exact ⟨rfl, HK4.out.trans hb⟩
  | true =>
    have ql' : (le != 0) = false := by simp [bne, ql]
    have l0 : le = 0 := by simpa using ql
    have HE1 : Hid (ES = (runSt g.log.base g.log.tail)) := HAE.out l0
    subst l0
    clear ql ql' HAE
    go_wp2_with (first | (refine alloc25 rfl rfl ?_; intro w3 sb hBsb hksb hlsb hgsb) | (refine store25b rfl rfl sb rfl rfl hBsb ?_; intro w4 hSw4 hTw4) | (refine load31w (by kernel_rfl) rfl bb rfl (HB2.out.keep (But.to hksb hgsb hTw4) (by rw [GL_len]; decide)) ?_))
    have k24 : Keeps w2 w4 := But.to hksb hgsb hTw4
    have HK4 : Hid (Keeps w w4) := HK2.out.trans k24
    have HB4 : Hid (CBox bb (GL g A) w4) := HB2.out.keep k24 (by rw [GL_len]; decide)
    have HT4 : Hid (TabAt w4 (.slice qa ES.tab.length qc) ES.tab) := HT2.out.keep k24
    have HS4 : Hid (CBox sb (SC ES (.slice qa ES.tab.length qc)) w4) := hSw4
    clear k24 HK2 HB2 HT2 hBsb hksb hlsb hgsb hSw4 hTw4
    refine (HC0.out w4 HK4.out).mono ?_
    rintro y w5 ⟨rfl, hb⟩
    have HK5 : Hid (Keeps w w5) := HK4.out.trans hb
    have HB5 : Hid (CBox bb (GL g A) w5) := HB4.out.keep hb (by rw [GL_len]; decide)
    have HT5 : Hid (TabAt w5 (.slice qa ES.tab.length qc) ES.tab) := HT4.out.keep hb
    have HS5 : Hid (CBox sb (SC ES (.slice qa ES.tab.length qc)) w5) := HS4.out.keep hb (Nat.le_of_ble_eq_true rfl)
    clear hb HK4 HB4 HT4 HS4 HC0
    cases qg : (ge == 0) with
    | false =>
      have qg' : (ge != 0) = true := by simp [bne, qg]
      go_wp2_with fail
      refine (group_begun w5).mono ?_
      rintro y w6 ⟨rfl, hb⟩
      go_wp2_with fail
      go_ret
      exact ⟨rfl, HK5.out.trans hb⟩
    | true =>
      have qg' : (ge != 0) = false := by simp [bne, qg]
      have g0 : ge = 0 := by simpa using qg
      obtain ⟨hlen, _, hGC, hGE⟩ := HP.out g0
      have HCT2 := HCT.out g0
      have HCC2 := HCC.out g0
      have HCTn : Hid (∀ W, Calls Try.prog 12 #[.int .i64 n, .int .i64 ((g.log.tail.length : Int) + 1)] W fun e w' => e = .returned (.int .i64 ct) ∧ W = w') := HCT2
      have HCCn : Hid (∀ W, Keeps w W → Calls Try.prog 13 #[.agg (GL g A).toArray, .int .i64 ct] W fun y w' => ∃ B, GrOwn W.heap.size w' GC_ B ∧ y = .returned (.tuple #[.agg (GL (GC_) B).toArray, .int .i64 0]) ∧ Keeps W w') := HCC2
      have HGC : Hid (grErr GC_ = 0 ∧ runSt GC_.log.base GC_.log.tail = ES) := ⟨hGC, hGE.trans HE1.out.symm⟩
      have HWR : Hid (IntKind.i64.wrap ((g.log.tail.length : Int) + 1) = (g.log.tail.length : Int) + 1) := wrap_small (by omega) (by omega)
      subst g0
      clear qg qg' HP HCT2 HCC2 HCT HCC hGC hGE HE1
      go_wp2_with fail
      go_cut [7, 8] (fun p q wc => ∃ xb B, p = .pointer (some ⟨xb, 0, none⟩) ∧ q = .int .i64 0 ∧ CBox xb (GL GC_ B) wc ∧ GrAt wc GC_ B ∧ Keeps w5 wc ∧ w5.heap.size ≤ xb)
      case first =>
        refine wp_region_held_drew (S := fun W => Keeps w5 W) (by kernel_rfl) (Keeps.refl _).drew (fun hS => ?_)
        obtain ⟨V0, hV0⟩ : ∃ z, z = w5.drew := ⟨_, rfl⟩
        rw [← hV0] at hS ⊢
        clear hV0
        refine wpAnyH_take (i := 0) (v := .agg (GL g A).toArray) rfl (by kernel_rfl) (by kernel_rfl) (by kernel_rfl) (fun _ _ _ h => h) (y_load31 (by kernel_rfl) rfl bb (by kernel_rfl) (fun W h => HB5.out.keep h (by rw [GL_len]; decide))) hS ?_
        refine wpAnyH_take (i := 1) (v := .int .i64 n) rfl (by kernel_rfl) (by kernel_rfl) (by kernel_rfl) (fun _ _ _ h => h) (Or.inl ⟨by kernel_rfl, fun w _ => by kernel_rfl⟩) hS ?_
        refine wpAnyH_take (i := 2) (v := .pointer (some ⟨bb, 0, none⟩)) rfl (by kernel_rfl) (by kernel_rfl) (by kernel_rfl) (fun _ _ _ h => h) (Or.inl ⟨by kernel_rfl, fun w _ => by kernel_rfl⟩) hS ?_
        refine wpAnyH_take (i := 3) (v := .pointer (some ⟨bb, 7, none⟩)) rfl (by kernel_rfl) (by kernel_rfl) (by kernel_rfl) (fun _ _ _ h => h) (Or.inl ⟨by kernel_rfl, fun w _ => by kernel_rfl⟩) hS ?_
        refine wpAnyH_take (i := 4) (v := .slice A.ta g.log.tail.length A.tc) rfl (by kernel_rfl) (by kernel_rfl) (by kernel_rfl) (fun _ _ _ h => h) (y_tail (by kernel_rfl) rfl bb (by kernel_rfl) (fun W h => HB5.out.keep h (by rw [GL_len]; decide))) hS ?_
        refine wpAnyH_take (i := 5) (v := .int .i64 (g.log.tail.length : Int)) rfl (by kernel_rfl) (by kernel_rfl) (by kernel_rfl) (fun _ _ _ h => h) (Or.inl ⟨by kernel_rfl, ?_⟩) hS ?_
        · intro w hS; go_simp
        refine wpAnyH_take (i := 6) (v := .int .i64 ((g.log.tail.length : Int) + 1)) rfl (by kernel_rfl) (by kernel_rfl) (by kernel_rfl) (fun _ _ _ h => h) (Or.inl ⟨by kernel_rfl, fun w _ => Eq.trans (b := .ok (.value (.int .i64 (IntKind.i64.wrap ((g.log.tail.length : Int) + 1)))) w) (by kernel_rfl) (by rw [HWR.out])⟩) hS ?_
        refine wpAnyH_ready (rs := [7, 12]) (by kernel_rfl) (by simp) ?_
        refine AllReadyH.wrp rfl (by kernel_rfl) (fun K hK => ?_) (AllReadyH.wrp rfl (by kernel_rfl) (fun K hK => ?_) (AllReadyH.nil))
        · refine h_call ?_
          go_simp
          refine (HCTn.out _).mono ?_
          rintro y _ ⟨rfl, rfl⟩
          go_simp
          refine hK.out _ _ hS (fun hS => ?_)
          clear hK K
          refine wpAnyH_ready (rs := [8, 12]) (by kernel_rfl) (by simp) ?_
          refine AllReadyH.wrp rfl (by kernel_rfl) (fun K hK => ?_) (AllReadyH.wrp rfl (by kernel_rfl) (fun K hK => ?_) (AllReadyH.nil))
          · have hS1 := hS
            refine h_call ?_
            go_simp
            refine (HCCn.out _ (HK5.out.trans hS)).mono ?_
            rintro y w2 ⟨B, ho, rfl, hb⟩
            go_simp
            refine hK.out _ _ (hS.trans hb) (fun hS => ?_)
            clear hK K
            refine wpAnyH_take (i := 9) (v := (.tuple #[.agg (GL (GC_) B).toArray, .int .i64 0])) rfl (by kernel_rfl) (by kernel_rfl) (by kernel_rfl) (fun _ _ _ h => h) (Or.inl ⟨by kernel_rfl, fun w _ => by kernel_rfl⟩) hS ?_
            refine wpAnyH_take (i := 10) (v := .agg (GL (GC_) B).toArray) rfl (by kernel_rfl) (by kernel_rfl) (by kernel_rfl) (fun _ _ _ h => h) (Or.inl ⟨by kernel_rfl, fun w _ => by kernel_rfl⟩) hS ?_
            refine wpAnyH_take (i := 11) (v := .int .i64 0) rfl (by kernel_rfl) (by kernel_rfl) (by kernel_rfl) (fun _ _ _ h => h) (Or.inl ⟨by kernel_rfl, fun w _ => by kernel_rfl⟩) hS ?_
            refine wpAnyH_ready (rs := [12]) (by kernel_rfl) (by simp) ?_
            refine AllReadyH.wrp rfl (by kernel_rfl) (fun K hK => ?_) (AllReadyH.nil)
            have hS0 := hS
            refine h_alloc31 rfl ?_
            intro w3 zb hBz hkz hlz hgz
            have hzg := Nat.le_trans hS.size hgz
            refine hK.out _ _ (hS.trans hkz) (fun hS => ?_)
            clear hK K
            refine wpAnyH_ready (rs := [13]) (by kernel_rfl) (by simp) ?_
            refine AllReadyH.wrp rfl (by kernel_rfl) (fun K hK => ?_) (AllReadyH.nil)
            refine h_store31 rfl zb (by kernel_rfl) (g' := GC_) (A' := B) (by kernel_rfl) hBz ?_
            intro w4 hS4 hT4
            refine hK.out _ _ (But.to hS hzg hT4) (fun hS => ?_)
            clear hK K
            refine wpAnyH_take (i := 14) (v := .int .i64 0) rfl (by kernel_rfl) (by kernel_rfl) (by kernel_rfl) (fun _ _ _ h => h) (Or.inl ⟨by kernel_rfl, fun w _ => by kernel_rfl⟩) hS ?_
            refine wpAnyH_done (by kernel_rfl) ?_ _
            go_wp2_with fail
            go_meet
            exact ⟨zb, B, rfl, rfl, hS4, (ho.at.keep (But.to hkz hgz hT4)), hS, hzg⟩
          · have hS0 := hS
            refine h_alloc31 rfl ?_
            intro w3 zb hBz hkz hlz hgz
            have hzg := Nat.le_trans hS.size hgz
            refine hK.out _ _ (hS.trans hkz) (fun hS => ?_)
            clear hK K
            refine wpAnyH_ready (rs := [8]) (by kernel_rfl) (by simp) ?_
            refine AllReadyH.wrp rfl (by kernel_rfl) (fun K hK => ?_) (AllReadyH.nil)
            have hS1 := hS
            refine h_call ?_
            go_simp
            refine (HCCn.out _ (HK5.out.trans hS)).mono ?_
            rintro y w2 ⟨B, ho, rfl, hb⟩
            go_simp
            refine hK.out _ _ (hS.trans hb) (fun hS => ?_)
            clear hK K
            refine wpAnyH_take (i := 9) (v := (.tuple #[.agg (GL (GC_) B).toArray, .int .i64 0])) rfl (by kernel_rfl) (by kernel_rfl) (by kernel_rfl) (fun _ _ _ h => h) (Or.inl ⟨by kernel_rfl, fun w _ => by kernel_rfl⟩) hS ?_
            refine wpAnyH_take (i := 10) (v := .agg (GL (GC_) B).toArray) rfl (by kernel_rfl) (by kernel_rfl) (by kernel_rfl) (fun _ _ _ h => h) (Or.inl ⟨by kernel_rfl, fun w _ => by kernel_rfl⟩) hS ?_
            refine wpAnyH_take (i := 11) (v := .int .i64 0) rfl (by kernel_rfl) (by kernel_rfl) (by kernel_rfl) (fun _ _ _ h => h) (Or.inl ⟨by kernel_rfl, fun w _ => by kernel_rfl⟩) hS ?_
            refine wpAnyH_ready (rs := [13]) (by kernel_rfl) (by simp) ?_
            refine AllReadyH.wrp rfl (by kernel_rfl) (fun K hK => ?_) (AllReadyH.nil)
            refine h_store31 rfl zb (by kernel_rfl) (g' := GC_) (A' := B) (by kernel_rfl) (hBz.keep hb (by rw [GL_len]; decide)) ?_
            intro w4 hS4 hT4
            refine hK.out _ _ (But.to hS hzg hT4) (fun hS => ?_)
            clear hK K
            refine wpAnyH_take (i := 14) (v := .int .i64 0) rfl (by kernel_rfl) (by kernel_rfl) (by kernel_rfl) (fun _ _ _ h => h) (Or.inl ⟨by kernel_rfl, fun w _ => by kernel_rfl⟩) hS ?_
            refine wpAnyH_done (by kernel_rfl) ?_ _
            go_wp2_with fail
            go_meet
            exact ⟨zb, B, rfl, rfl, hS4, (ho.but (Nat.lt_of_lt_of_le hlz (Nat.le_refl _)) hT4).at, hS, hzg⟩
        · have hS0 := hS
          refine h_alloc31 rfl ?_
          intro w3 zb hBz hkz hlz hgz
          have hzg := Nat.le_trans hS.size hgz
          refine hK.out _ _ (hS.trans hkz) (fun hS => ?_)
          clear hK K
          refine wpAnyH_ready (rs := [7]) (by kernel_rfl) (by simp) ?_
          refine AllReadyH.wrp rfl (by kernel_rfl) (fun K hK => ?_) (AllReadyH.nil)
          refine h_call ?_
          go_simp
          refine (HCTn.out _).mono ?_
          rintro y _ ⟨rfl, rfl⟩
          go_simp
          refine hK.out _ _ hS (fun hS => ?_)
          clear hK K
          refine wpAnyH_ready (rs := [8]) (by kernel_rfl) (by simp) ?_
          refine AllReadyH.wrp rfl (by kernel_rfl) (fun K hK => ?_) (AllReadyH.nil)
          have hS1 := hS
          refine h_call ?_
          go_simp
          refine (HCCn.out _ (HK5.out.trans hS)).mono ?_
          rintro y w2 ⟨B, ho, rfl, hb⟩
          go_simp
          refine hK.out _ _ (hS.trans hb) (fun hS => ?_)
          clear hK K
          refine wpAnyH_take (i := 9) (v := (.tuple #[.agg (GL (GC_) B).toArray, .int .i64 0])) rfl (by kernel_rfl) (by kernel_rfl) (by kernel_rfl) (fun _ _ _ h => h) (Or.inl ⟨by kernel_rfl, fun w _ => by kernel_rfl⟩) hS ?_
          refine wpAnyH_take (i := 10) (v := .agg (GL (GC_) B).toArray) rfl (by kernel_rfl) (by kernel_rfl) (by kernel_rfl) (fun _ _ _ h => h) (Or.inl ⟨by kernel_rfl, fun w _ => by kernel_rfl⟩) hS ?_
          refine wpAnyH_take (i := 11) (v := .int .i64 0) rfl (by kernel_rfl) (by kernel_rfl) (by kernel_rfl) (fun _ _ _ h => h) (Or.inl ⟨by kernel_rfl, fun w _ => by kernel_rfl⟩) hS ?_
          refine wpAnyH_ready (rs := [13]) (by kernel_rfl) (by simp) ?_
          refine AllReadyH.wrp rfl (by kernel_rfl) (fun K hK => ?_) (AllReadyH.nil)
          refine h_store31 rfl zb (by kernel_rfl) (g' := GC_) (A' := B) (by kernel_rfl) (hBz.keep hb (by rw [GL_len]; decide)) ?_
          intro w4 hS4 hT4
          refine hK.out _ _ (But.to hS hzg hT4) (fun hS => ?_)
          clear hK K
          refine wpAnyH_take (i := 14) (v := .int .i64 0) rfl (by kernel_rfl) (by kernel_rfl) (by kernel_rfl) (fun _ _ _ h => h) (Or.inl ⟨by kernel_rfl, fun w _ => by kernel_rfl⟩) hS ?_
          refine wpAnyH_done (by kernel_rfl) ?_ _
          go_wp2_with fail
          go_meet
          exact ⟨zb, B, rfl, rfl, hS4, (ho.but (Nat.lt_of_lt_of_le hlz (Nat.le_refl _)) hT4).at, hS, hzg⟩
      case rest =>
        obtain ⟨xb, B0, rfl, rfl, hX, hXG, hk, hxb⟩ := hcut
        generalize wc = w6 at *
        have HX6 : Hid (CBox xb (GL GC_ B0) w6) := hX
        have HQ6 : Hid (GrAt w6 GC_ B0) := hXG
        have HXB : Hid (w5.heap.size ≤ xb) := hxb
        have HK6 : Hid (Keeps w5 w6) := hk
        clear hX hXG hk hxb HCTn HCCn HB5 HWR
        go_wp2_with fail
        go_loopw [9] (fun x wr => ∃ (k : Nat) (G : Grp) (B : Ad), k ≤ 3 ∧ x = .int .i64 k ∧ Hid (grErr G = 0 ∧ runSt G.log.base G.log.tail = ES) ∧ Hid (CBox xb (GL G B) wr) ∧ Hid (GrAt wr G B) ∧ Hid (Keeps w5 wr)) (fun x _ => 3 - (intOf x).toNat)
        case atStart => exact ⟨0, GC_, B0, by omega, rfl, HGC, HX6, HQ6, HK6⟩
        case round =>
          obtain ⟨k, G, B, hk3, rfl, HG1, HX1, HQ1, HK1⟩ := hrel
          by_cases hk : k < 3
          · obtain ⟨nu, hrun⟩ := run_to_end HG1.out.1 B k hk wr HQ1.out
            rw [HG1.out.2] at hrun
            have hG2 := (gr_end HG1.out.1 k).2.2
            rw [HG1.out.2] at hG2
            have HG2 : Hid (grErr (setNode G k ES) = 0 ∧ runSt (setNode G k ES).log.base (setNode G k ES).log.tail = ES ∧ nodeAt (setNode G k ES) k = ES) := ⟨hG2, by rw [set_log]; exact HG1.out.2, node_set G ES k hk⟩
            have HRUN : Hid (Calls Try.prog 11 #[.agg (GL G B).toArray, .int .i64 (k : Int), .int .i64 50] wr fun y w' => ∃ B', GrOwn wr.heap.size w' (setNode G k ES) B' ∧ y = .returned (.tuple #[.agg (GL (setNode G k ES) B').toArray, .int .i64 nu, .int .i64 0]) ∧ Keeps wr w') := hrun
            clear hrun hG2
            generalize setNode G k ES = G' at *
            go_wp2_with (first | (refine load31 rfl rfl xb rfl HX1.out ?_))
            refine HRUN.out.mono ?_
            rintro y v1 ⟨B', ho, rfl, hb⟩
            have HO1 : Hid (GrOwn wr.heap.size v1 G' B') := ho
            have hb1 := hb
            clear ho hb HRUN
            go_wp2_with (first | (refine alloc31 rfl rfl ?_; intro v2 yb hByb hkyb hlyb hgyb) | (refine store31 rfl rfl yb rfl rfl hByb ?_; intro v3 hSv3 hTv3))
            have k13 : Keeps v1 v3 := But.to hkyb hgyb hTv3
            have HY3 : Hid (CBox yb (GL G' B') v3) := hSv3
            have HO3 : Hid (GrOwn wr.heap.size v3 G' B') := HO1.out.keep k13
            have HR3 : Hid (Keeps wr v3) := hb1.trans k13
            have HXL : Hid (xb < wr.heap.size) := HX1.out.lt (by rw [GL_len]; decide)
            have HYX : Hid (xb < yb) := Nat.lt_of_lt_of_le HXL.out (Nat.le_trans hb1.size hgyb)
            clear hb1 k13 HO1 hByb hkyb hlyb hgyb hSv3 hTv3
            have HX3 : Hid (CBox xb (GL G B) v3) := HX1.out.keep HR3.out (by rw [GL_len]; decide)
            have HS3 : Hid (CBox sb (SC ES (.slice qa ES.tab.length qc)) v3) := HS5.out.keep (HK1.out.trans HR3.out) (Nat.le_of_ble_eq_true rfl)
            have HSM : Hid (∀ W, Keeps v3 W → Calls Try.prog 9 #[nodeV G' B' k, stV ES (.slice qa ES.tab.length qc)] W fun e w' => e = .returned (.bool true) ∧ Keeps W w') := fun W hkk => by
              have := same_of (nodeAt G' k) ES (tabV G' B' k) (.slice qa ES.tab.length qc) W ((HO3.out.at.keep hkk).tab k) ((HT5.out.keep (HK1.out.trans HR3.out)).keep hkk)
              rw [show sameSt (nodeAt G' k) ES = true from by rw [HG2.out.2.2]; exact same_self _] at this
              exact this
            go_wp2_with fail
            go_cut [62] (fun p wc => p = .bool false ∧ Keeps v3 wc)
            case first =>
              refine wp_region_held_drew (S := fun W => Keeps v3 W) (by kernel_rfl) (Keeps.refl _).drew (fun hS => ?_)
              obtain ⟨V0, hV0⟩ : ∃ z, z = v3.drew := ⟨_, rfl⟩
              rw [← hV0] at hS ⊢
              clear hV0
              refine wpAnyH_take (i := 0) (v := .int .i64 0) rfl (by kernel_rfl) (by kernel_rfl) (by kernel_rfl) (fun _ _ _ h => h) (Or.inl ⟨by kernel_rfl, fun w _ => by kernel_rfl⟩) hS ?_
              refine wpAnyH_take (i := 1) (v := .bool false) rfl (by kernel_rfl) (by kernel_rfl) (by kernel_rfl) (fun _ _ _ h => h) (Or.inl ⟨by kernel_rfl, fun w _ => by kernel_rfl⟩) hS ?_
              refine wpAnyH_take (i := 2) (v := .bool false) rfl (by kernel_rfl) (by kernel_rfl) (by kernel_rfl) (fun _ _ _ h => h) (Or.inl ⟨by kernel_rfl, fun w _ => by kernel_rfl⟩) hS ?_
              refine wpAnyH_take (i := 3) (v := .int .i64 k) rfl (by kernel_rfl) (by kernel_rfl) (by kernel_rfl) (fun _ _ _ h => h) (Or.inl ⟨by kernel_rfl, fun w _ => by kernel_rfl⟩) hS ?_
              refine wpAnyH_take (i := 4) (v := .pointer (some ⟨yb, 8, none⟩)) rfl (by kernel_rfl) (by kernel_rfl) (by kernel_rfl) (fun _ _ _ h => h) (Or.inl ⟨by kernel_rfl, fun w _ => by kernel_rfl⟩) hS ?_
              refine wpAnyH_take (i := 5) (v := .pointer (some ⟨yb, 8 + k * 7, none⟩)) rfl (by kernel_rfl) (by kernel_rfl) (by kernel_rfl) (fun _ _ _ h => h) (y_index (by kernel_rfl) rfl yb k hk (by kernel_rfl) (by kernel_rfl)) hS ?_
              refine wpAnyH_take (i := 6) (v := nodeV G' B' k) rfl (by kernel_rfl) (by kernel_rfl) (by kernel_rfl) (fun _ _ _ h => h) (y_load25 (by kernel_rfl) rfl yb k hk (8 + k * 7) rfl (by kernel_rfl) (fun W h => HY3.out.keep h (by rw [GL_len]; decide))) hS ?_
              refine wpAnyH_take (i := 7) (v := stV ES (.slice qa ES.tab.length qc)) rfl (by kernel_rfl) (by kernel_rfl) (by kernel_rfl) (fun _ _ _ h => h) (y_load25b (by kernel_rfl) rfl sb (by kernel_rfl) (fun W h => HS3.out.keep h (Nat.le_of_ble_eq_true rfl))) hS ?_
              refine wpAnyH_ready (rs := [8]) (by kernel_rfl) (by simp) ?_
              refine AllReadyH.wrp rfl (by kernel_rfl) (fun K hK => ?_) (AllReadyH.nil)
              refine h_call ?_
              go_simp
              refine (HSM.out _ hS).mono ?_
              rintro y x1 ⟨rfl, hb⟩
              go_simp
              refine hK.out _ _ (hS.trans hb) (fun hS => ?_)
              clear hK K
              clear hb
              refine wpAnyH_take (i := 9) (v := .bool false) rfl (by kernel_rfl) (by kernel_rfl) (by kernel_rfl) (fun _ _ _ h => h) (Or.inl ⟨by kernel_rfl, fun w _ => by kernel_rfl⟩) hS ?_
              refine wpAnyH_ready (rs := [10]) (by kernel_rfl) (by simp) ?_
              refine AllReadyH.wrp rfl (by kernel_rfl) (fun K hK => ?_) (AllReadyH.nil)
              refine h_call ?_
              go_simp
              refine hK.out _ _ hS (fun hS => ?_)
              clear hK K
              refine wpAnyH_done (by kernel_rfl) ?_ _
              go_wp2_with fail
              go_meet
              exact ⟨by first | rfl | kernel_rfl | simp, hS⟩
            case rest =>
              obtain ⟨rfl, hkc⟩ := hcut
              generalize wc = v4 at *
              have HO4 : Hid (GrOwn wr.heap.size v4 G' B') := HO3.out.keep hkc
              have HY4 : Hid (CBox yb (GL G' B') v4) := HY3.out.keep hkc (by rw [GL_len]; decide)
              have HX4 : Hid (CBox xb (GL G B) v4) := HX3.out.keep hkc (by rw [GL_len]; decide)
              have HK4 : Hid (Keeps w5 v4) := (HK1.out.trans HR3.out).trans hkc
              clear hkc HO3 HY3 HX3 HS3 HSM HR3 HX1 HQ1 HK1
              go_wp2_with (first | (refine load31 rfl rfl yb rfl HY4.out ?_) | (refine store31 rfl rfl xb rfl rfl HX4.out ?_; intro v5 hSv5 hTv5))
              go_roundw
              case rel => exact ⟨k + 1, G', B', by omega, by go_num, ⟨HG2.out.1, HG2.out.2.1⟩, hSv5, (HO4.out.but HXL.out hTv5).at, But.to HK4.out HXB.out hTv5⟩
              case measure => simp [intOf]; omega
          · have HCX : Hid (∀ W, GrAt W G B → Calls Try.prog 7 #[.agg (GL G B).toArray] W fun y w' => y = .returned (.int .i64 0) ∧ Keeps W w') := fun W h => by
              have := group_check G B W h
              rw [HG1.out.1] at this
              exact this
            go_wp2_with fail
            refine (group_begun wr).mono ?_
            rintro y v1 ⟨rfl, hb⟩
            have HX2 : Hid (CBox xb (GL G B) v1) := HX1.out.keep hb (by rw [GL_len]; decide)
            have HQ2 : Hid (GrAt v1 G B) := HQ1.out.keep hb
            have HK2 : Hid (Keeps w5 v1) := HK1.out.trans hb
            clear hb HX1 HQ1 HK1
            go_wp2_with (first | (refine load31w (by kernel_rfl) rfl xb rfl HX2.out ?_))
            refine (HCX.out v1 HQ2.out).mono ?_
            rintro y v2 ⟨rfl, hb⟩
            have HK3 : Hid (Keeps w v2) := (HK5.out.trans HK2.out).trans hb
            clear hb
            go_wp2_with fail
            go_ret
            exact ⟨rfl, HK3.out⟩
end Go.Proofs.Yteabfjpajgakiaf
