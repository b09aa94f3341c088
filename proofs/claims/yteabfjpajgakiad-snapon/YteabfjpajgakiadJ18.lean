/- SnO. -/
import Derived.Test.YteabfjpajgakiadJ13
import Derived.Test.YteabfjpajgakiadJ17
/- SnapOn: the walk. -/
set_option linter.unusedSimpArgs false
set_option linter.unusedVariables false
set_option maxRecDepth 10000
namespace Go.Proofs.Yteabfjpajgakiad
open Go.RowKit

theorem h_alloc25 {o : Oper} {a : Act} {w : World} {K : Act → World → Prop} {Q : Exit → Act → World → Prop} (ho : o.op = .alloc 25)
    (h : ∀ (w' : World) (b : Nat), CBox b (C7 z7 (.slice none 0 0)) w' → Keeps w w' → b < w'.heap.size → w.heap.size ≤ b → K (a.put o.dst (.pointer (some ⟨b, 0, none⟩))) w') : Wrp (Oper.wp Try.prog o a w K Q) := ⟨wp_alloc_new _ ho _ _ zero25 rfl h⟩

set_option maxHeartbeats 8000000 in
theorem snap_on (L : List Ent) (n : Int) (la : Option Addr) (lc : Nat) (w : World) (hL : EntsAt w (.slice la L.length lc) L) (hcap : L.length ≤ lc) (n0 : -9223372036854775808 ≤ n) (n1' : n ≤ 9223372036854775807) :
    Calls Try.prog 6 #[.slice la L.length lc, .int .i64 n] w fun y w' => y = .returned (.bool true) ∧ Keeps w w' := by
  have HL : Hid (EntsAt w (.slice la L.length lc) L) := hL
  have hlen := hL.2.1
  unfold maxLen at hlen
  clear hL
  have HBE : Hid ((⟨0, 0, 0, 0, 0, 0, []⟩ : St) = z7) := rfl
  go_enter Try.func6, Try.ntmps6
  go_wp2_with fail
  refine (begin_c w).mono ?_
  rintro y w1 ⟨rfl, hb⟩
  rw [HBE.out]
  have HK1 : Hid (Keeps w w1) := hb
  clear hb
  go_wp2_with fail
  cases q : (foldErr z7 L == 0) with
  | false =>
    have q' : (foldErr z7 L != 0) = true := by simp [bne, q]
    refine (fold_all z7 L (.slice none 0 0) _ w1 (OwnTab.nil 0 w1).tab (HL.out.keep HK1.out)).mono ?_
    rintro y w2 ⟨x1, av1, ho, hr, rfl, hb⟩
    obtain ⟨pa, pc, rfl, _⟩ := ho.tab.len
    have HK2 : Hid (Keeps w w2) := HK1.out.trans hb
    clear ho hr hb HK1
    generalize allSt z7 L = t at *
    generalize foldErr z7 L = fe at *
    go_wp2_with (first | (refine alloc25 rfl rfl ?_; intro w3 xb hBx hkx hlx hgx) | (refine store25 rfl rfl xb rfl t pa t.tab.length pc rfl hBx ?_; intro w4 hS4 hT4))
    have HK4 : Hid (Keeps w w4) := HK2.out.trans (But.to hkx hgx hT4)
    refine (snap_begun w4).mono ?_
    rintro y w5 ⟨rfl, hb⟩
    go_wp2_with fail
    go_ret
    exact ⟨rfl, HK4.out.trans hb⟩
  | true =>
    have h0 : foldErr z7 L = 0 := by simpa using q
    have HSP : Hid (∀ k, foldErr z7 (L.take k) = 0 ∧ foldErr (runSt z7 (L.take k)) (L.drop k) = 0 ∧ stErr (runSt z7 (L.take k)) = 0) := fun k => by
      obtain ⟨h1, h2, _⟩ := split_right h0 k
      have h3 := (split_right h1 0).2.2
      exact ⟨h1, h2, h3⟩
    have hl50 : L.length ≤ 50 := by
      have h2 := (fold_right h0).2.2
      have h3 : z7.at_ = 0 := rfl
      omega
    have HLN : Hid ((runAns z7 L).length ≤ 1000) := by
      show _ ≤ _
      rw [runAns_len]
      omega
    refine (all_right h0 (.slice none 0 0) _ w1 (OwnTab.nil 0 w1).tab (HL.out.keep HK1.out)).mono ?_
    rintro y w2 ⟨pa, pc, aa, ac, ho, hr, rfl, hb⟩
    have HK2 : Hid (Keeps w w2) := HK1.out.trans hb
    have HT2 : Hid (TabAt w2 (.slice pa (runSt z7 L).tab.length pc) (runSt z7 L).tab) := ho.out.tab
    have HI2 : Hid (IntsAt w2 (.slice aa (runAns z7 L).length ac) (runAns z7 L)) := IntsAt.of hr.out
    clear ho hr hb HK1 q h0
    obtain ⟨t, ht⟩ : ∃ t, t = runSt z7 L := ⟨_, rfl⟩
    obtain ⟨an, han⟩ : ∃ t, t = runAns z7 L := ⟨_, rfl⟩
    rw [← ht] at HT2 ⊢
    rw [← han] at HI2 HLN ⊢
    have HTT : Hid (t = runSt z7 L) := ht
    have HAN : Hid (an = runAns z7 L) := han
    clear ht han
    go_wp2_with (first | (refine alloc25 rfl rfl ?_; intro w3 xb hBx hkx hlx hgx) | (refine store25 rfl rfl xb rfl t pa t.tab.length pc rfl hBx ?_; intro w4 hS4 hT4))
    have k24 : Keeps w2 w4 := But.to hkx hgx hT4
    have HK4 : Hid (Keeps w w4) := HK2.out.trans k24
    have HT4 : Hid (TabAt w4 (.slice pa t.tab.length pc) t.tab) := HT2.out.keep k24
    have HI4 : Hid (IntsAt w4 (.slice aa an.length ac) an) := HI2.out.keep k24
    have HX4 : Hid (CBox xb (C7 t (.slice pa t.tab.length pc)) w4) := hS4
    clear k24 hBx hkx hlx hgx hS4 hT4 HK2 HT2 HI2
    refine (choose_n n (L.length + 1) w4 n0 n1' (by omega) (by omega)).mono ?_
    rintro y w4' ⟨r, hr0, hr1, rfl, hw⟩
    subst hw
    obtain ⟨kk, rfl⟩ : ∃ kk : Nat, r = kk := ⟨r.toNat, by omega⟩
    have hkk : kk ≤ L.length := by omega
    have hkc : (kk : Int) ≤ (lc : Int) := by omega
    have hkl : (kk : Int) ≤ (L.length : Int) := by omega
    have hz9 : ∀ w, (Go.sizeOf 89).run Try.prog w = .ok 9 w := fun _ => by kernel_rfl
    clear hr0 hr1
    have HCA : Hid (∀ W, Keeps w W → Calls Try.prog 17 #[stV z7 (.slice none 0 0), .slice la kk lc] W fun y w' => ∃ qa qc ra rc, Hid (OwnTab W.heap.size w' (.slice qa (runSt z7 (L.take kk)).tab.length qc) (runSt z7 (L.take kk)).tab) ∧ Hid (w'.ownsRow W.heap.size 3 1 (.slice ra (runAns z7 (L.take kk)).length rc) (runAns z7 (L.take kk)).length (intCells (runAns z7 (L.take kk)))) ∧ y = .returned (.tuple #[stV (runSt z7 (L.take kk)) (.slice qa (runSt z7 (L.take kk)).tab.length qc), .slice ra (runAns z7 (L.take kk)).length rc, .int .i64 0]) ∧ Keeps W w') := by
      intro W hk
      exact all_right (HSP.out kk).1 _ _ W (OwnTab.nil 0 W).tab (ents_prefix (HL.out.keep hk) hkk)
    obtain ⟨t1, ht1⟩ : ∃ t1, t1 = runSt z7 (L.take kk) := ⟨_, rfl⟩
    obtain ⟨n1, hn1⟩ : ∃ n1, n1 = runAns z7 (L.take kk) := ⟨_, rfl⟩
    rw [← ht1, ← hn1] at HCA
    have HT1 : Hid (t1 = runSt z7 (L.take kk)) := ht1
    have HN1 : Hid (n1 = runAns z7 (L.take kk)) := hn1
    have HE1 : Hid (stErr t1 = 0) := by show _ = _; rw [ht1]; exact (HSP.out kk).2.2
    clear ht1 hn1
    go_wp2_with fail
    go_cut [9, 10, 11] (fun p q f wc => f = .int .i64 0 ∧ ∃ yb qa qc ra rc, p = .pointer (some ⟨yb, 0, none⟩) ∧ q = .slice ra n1.length rc ∧ CBox yb (C7 t1 (.slice qa t1.tab.length qc)) wc ∧ TabAt wc (.slice qa t1.tab.length qc) t1.tab ∧ IntsAt wc (.slice ra n1.length rc) n1 ∧ Keeps w4 wc)
    case first =>
      refine wp_region_held_drew (S := fun W => Keeps w4 W) (by kernel_rfl) (Keeps.refl _).drew (fun hS => ?_)
      obtain ⟨V0, hV0⟩ : ∃ z, z = w4.drew := ⟨_, rfl⟩
      rw [← hV0] at hS ⊢
      clear hV0
      refine wpAnyH_take (i := 1) (v := .slice la L.length lc) rfl (by kernel_rfl) (by kernel_rfl) (by kernel_rfl) (fun _ _ _ h => h) (Or.inl ⟨by kernel_rfl, ?_⟩) hS ?_
      · intro w hS; go_simp
      refine wpAnyH_take (i := 2) (v := .int .i64 kk) rfl (by kernel_rfl) (by kernel_rfl) (by kernel_rfl) (fun _ _ _ h => h) (Or.inl ⟨by kernel_rfl, ?_⟩) hS ?_
      · intro w hS; go_simp
      refine wpAnyH_take (i := 3) (v := .slice (if lc = 0 then la else Option.map (fun x : Addr => x.add 0) la) kk lc) rfl (by kernel_rfl) (by kernel_rfl) (by kernel_rfl) (fun _ _ _ h => h) (Or.inl ⟨by kernel_rfl, ?_⟩) hS ?_
      · intro w hS; go_simp
      refine wpAnyH_ready (rs := [0, 9]) (by kernel_rfl) (by simp) ?_
      refine AllReadyH.wrp rfl (by kernel_rfl) (fun K hK => ?_) (AllReadyH.wrp rfl (by kernel_rfl) (fun K hK => ?_) (AllReadyH.nil))
      · refine h_call ?_
        go_simp
        refine (begin_c _).mono ?_
        rintro y V ⟨rfl, hb⟩
        go_simp
        refine hK.out _ _ (hS.trans hb) (fun hS => ?_)
        clear hK K
        clear hb
        refine wpAnyH_ready (rs := [4, 9]) (by kernel_rfl) (by simp) ?_
        refine AllReadyH.wrp rfl (by kernel_rfl) (fun K hK => ?_) (AllReadyH.wrp rfl (by kernel_rfl) (fun K hK => ?_) (AllReadyH.nil))
        · refine h_call ?_
          go_simp
          refine (HCA.out _ (HK4.out.trans hS)).mono ?_
          rintro y V2 ⟨qa, qc, ra, rc, HQ, HN, rfl, hb⟩
          go_simp
          refine hK.out _ _ (hS.trans hb) (fun hS => ?_)
          clear hK K
          refine wpAnyH_take (i := 5) (v := .tuple #[stV t1 (.slice qa t1.tab.length qc), .slice ra n1.length rc, .int .i64 0]) rfl (by kernel_rfl) (by kernel_rfl) (by kernel_rfl) (fun _ _ _ h => h) (Or.inl ⟨by kernel_rfl, fun w _ => by kernel_rfl⟩) hS ?_
          refine wpAnyH_take (i := 6) (v := stV t1 (.slice qa t1.tab.length qc)) rfl (by kernel_rfl) (by kernel_rfl) (by kernel_rfl) (fun _ _ _ h => h) (Or.inl ⟨by kernel_rfl, fun w _ => by kernel_rfl⟩) hS ?_
          refine wpAnyH_take (i := 7) (v := .slice ra n1.length rc) rfl (by kernel_rfl) (by kernel_rfl) (by kernel_rfl) (fun _ _ _ h => h) (Or.inl ⟨by kernel_rfl, fun w _ => by kernel_rfl⟩) hS ?_
          refine wpAnyH_take (i := 8) (v := .int .i64 0) rfl (by kernel_rfl) (by kernel_rfl) (by kernel_rfl) (fun _ _ _ h => h) (Or.inl ⟨by kernel_rfl, fun w _ => by kernel_rfl⟩) hS ?_
          refine wpAnyH_ready (rs := [9]) (by kernel_rfl) (by simp) ?_
          refine AllReadyH.wrp rfl (by kernel_rfl) (fun K hK => ?_) (AllReadyH.nil)
          refine h_alloc25 rfl ?_
          intro V3 zb hBz hkz hlz hgz
          have hzg := Nat.le_trans hS.size hgz
          refine hK.out _ _ (hS.trans hkz) (fun hS => ?_)
          clear hK K
          refine wpAnyH_ready (rs := [10]) (by kernel_rfl) (by simp) ?_
          refine AllReadyH.wrp rfl (by kernel_rfl) (fun K hK => ?_) (AllReadyH.nil)
          refine h_store25 rfl zb (by kernel_rfl) t1 qa t1.tab.length qc (by kernel_rfl) hBz ?_
          intro V4 hS4 hT4
          refine hK.out _ _ (But.to hS hzg hT4) (fun hS => ?_)
          clear hK K
          refine wpAnyH_take (i := 11) (v := .slice ra n1.length rc) rfl (by kernel_rfl) (by kernel_rfl) (by kernel_rfl) (fun _ _ _ h => h) (Or.inl ⟨by kernel_rfl, fun w _ => by kernel_rfl⟩) hS ?_
          refine wpAnyH_take (i := 12) (v := .int .i64 0) rfl (by kernel_rfl) (by kernel_rfl) (by kernel_rfl) (fun _ _ _ h => h) (Or.inl ⟨by kernel_rfl, fun w _ => by kernel_rfl⟩) hS ?_
          refine wpAnyH_done (by kernel_rfl) ?_ _
          go_wp2_with fail
          go_meet
          exact ⟨rfl, zb, qa, qc, ra, rc, rfl, rfl, hS4, (HQ.out.tab.keep (But.to hkz hgz hT4)), ((IntsAt.of HN.out).keep (But.to hkz hgz hT4)), hS⟩
        · refine h_alloc25 rfl ?_
          intro V3 zb hBz hkz hlz hgz
          have hzg := Nat.le_trans hS.size hgz
          refine hK.out _ _ (hS.trans hkz) (fun hS => ?_)
          clear hK K
          refine wpAnyH_ready (rs := [4]) (by kernel_rfl) (by simp) ?_
          refine AllReadyH.wrp rfl (by kernel_rfl) (fun K hK => ?_) (AllReadyH.nil)
          refine h_call ?_
          go_simp
          refine (HCA.out _ (HK4.out.trans hS)).mono ?_
          rintro y V2 ⟨qa, qc, ra, rc, HQ, HN, rfl, hb⟩
          go_simp
          refine hK.out _ _ (hS.trans hb) (fun hS => ?_)
          clear hK K
          refine wpAnyH_take (i := 5) (v := .tuple #[stV t1 (.slice qa t1.tab.length qc), .slice ra n1.length rc, .int .i64 0]) rfl (by kernel_rfl) (by kernel_rfl) (by kernel_rfl) (fun _ _ _ h => h) (Or.inl ⟨by kernel_rfl, fun w _ => by kernel_rfl⟩) hS ?_
          refine wpAnyH_take (i := 6) (v := stV t1 (.slice qa t1.tab.length qc)) rfl (by kernel_rfl) (by kernel_rfl) (by kernel_rfl) (fun _ _ _ h => h) (Or.inl ⟨by kernel_rfl, fun w _ => by kernel_rfl⟩) hS ?_
          refine wpAnyH_take (i := 7) (v := .slice ra n1.length rc) rfl (by kernel_rfl) (by kernel_rfl) (by kernel_rfl) (fun _ _ _ h => h) (Or.inl ⟨by kernel_rfl, fun w _ => by kernel_rfl⟩) hS ?_
          refine wpAnyH_take (i := 8) (v := .int .i64 0) rfl (by kernel_rfl) (by kernel_rfl) (by kernel_rfl) (fun _ _ _ h => h) (Or.inl ⟨by kernel_rfl, fun w _ => by kernel_rfl⟩) hS ?_
          refine wpAnyH_ready (rs := [10]) (by kernel_rfl) (by simp) ?_
          refine AllReadyH.wrp rfl (by kernel_rfl) (fun K hK => ?_) (AllReadyH.nil)
          refine h_store25 rfl zb (by kernel_rfl) t1 qa t1.tab.length qc (by kernel_rfl) (hBz.keep hb (Nat.le_of_ble_eq_true rfl)) ?_
          intro V4 hS4 hT4
          refine hK.out _ _ (But.to hS hzg hT4) (fun hS => ?_)
          clear hK K
          refine wpAnyH_take (i := 11) (v := .slice ra n1.length rc) rfl (by kernel_rfl) (by kernel_rfl) (by kernel_rfl) (fun _ _ _ h => h) (Or.inl ⟨by kernel_rfl, fun w _ => by kernel_rfl⟩) hS ?_
          refine wpAnyH_take (i := 12) (v := .int .i64 0) rfl (by kernel_rfl) (by kernel_rfl) (by kernel_rfl) (fun _ _ _ h => h) (Or.inl ⟨by kernel_rfl, fun w _ => by kernel_rfl⟩) hS ?_
          refine wpAnyH_done (by kernel_rfl) ?_ _
          go_wp2_with fail
          go_meet
          exact ⟨rfl, zb, qa, qc, ra, rc, rfl, rfl, hS4, (HQ.out.but hlz hT4).tab, (IntsAt.of (owns_far HN.out hlz hT4)), hS⟩
      · refine h_alloc25 rfl ?_
        intro V3 zb hBz hkz hlz hgz
        have hzg := Nat.le_trans hS.size hgz
        refine hK.out _ _ (hS.trans hkz) (fun hS => ?_)
        clear hK K
        refine wpAnyH_ready (rs := [0]) (by kernel_rfl) (by simp) ?_
        refine AllReadyH.wrp rfl (by kernel_rfl) (fun K hK => ?_) (AllReadyH.nil)
        refine h_call ?_
        go_simp
        refine (begin_c _).mono ?_
        rintro y V ⟨rfl, hb⟩
        go_simp
        refine hK.out _ _ (hS.trans hb) (fun hS => ?_)
        clear hK K
        have hBz := hBz.keep hb (Nat.le_of_ble_eq_true rfl)
        have hlz := Nat.lt_of_lt_of_le hlz hb.size
        clear hb
        refine wpAnyH_ready (rs := [4]) (by kernel_rfl) (by simp) ?_
        refine AllReadyH.wrp rfl (by kernel_rfl) (fun K hK => ?_) (AllReadyH.nil)
        refine h_call ?_
        go_simp
        refine (HCA.out _ (HK4.out.trans hS)).mono ?_
        rintro y V2 ⟨qa, qc, ra, rc, HQ, HN, rfl, hb⟩
        go_simp
        refine hK.out _ _ (hS.trans hb) (fun hS => ?_)
        clear hK K
        refine wpAnyH_take (i := 5) (v := .tuple #[stV t1 (.slice qa t1.tab.length qc), .slice ra n1.length rc, .int .i64 0]) rfl (by kernel_rfl) (by kernel_rfl) (by kernel_rfl) (fun _ _ _ h => h) (Or.inl ⟨by kernel_rfl, fun w _ => by kernel_rfl⟩) hS ?_
        refine wpAnyH_take (i := 6) (v := stV t1 (.slice qa t1.tab.length qc)) rfl (by kernel_rfl) (by kernel_rfl) (by kernel_rfl) (fun _ _ _ h => h) (Or.inl ⟨by kernel_rfl, fun w _ => by kernel_rfl⟩) hS ?_
        refine wpAnyH_take (i := 7) (v := .slice ra n1.length rc) rfl (by kernel_rfl) (by kernel_rfl) (by kernel_rfl) (fun _ _ _ h => h) (Or.inl ⟨by kernel_rfl, fun w _ => by kernel_rfl⟩) hS ?_
        refine wpAnyH_take (i := 8) (v := .int .i64 0) rfl (by kernel_rfl) (by kernel_rfl) (by kernel_rfl) (fun _ _ _ h => h) (Or.inl ⟨by kernel_rfl, fun w _ => by kernel_rfl⟩) hS ?_
        refine wpAnyH_ready (rs := [10]) (by kernel_rfl) (by simp) ?_
        refine AllReadyH.wrp rfl (by kernel_rfl) (fun K hK => ?_) (AllReadyH.nil)
        refine h_store25 rfl zb (by kernel_rfl) t1 qa t1.tab.length qc (by kernel_rfl) (hBz.keep hb (Nat.le_of_ble_eq_true rfl)) ?_
        intro V4 hS4 hT4
        refine hK.out _ _ (But.to hS hzg hT4) (fun hS => ?_)
        clear hK K
        refine wpAnyH_take (i := 11) (v := .slice ra n1.length rc) rfl (by kernel_rfl) (by kernel_rfl) (by kernel_rfl) (fun _ _ _ h => h) (Or.inl ⟨by kernel_rfl, fun w _ => by kernel_rfl⟩) hS ?_
        refine wpAnyH_take (i := 12) (v := .int .i64 0) rfl (by kernel_rfl) (by kernel_rfl) (by kernel_rfl) (fun _ _ _ h => h) (Or.inl ⟨by kernel_rfl, fun w _ => by kernel_rfl⟩) hS ?_
        refine wpAnyH_done (by kernel_rfl) ?_ _
        go_wp2_with fail
        go_meet
        exact ⟨rfl, zb, qa, qc, ra, rc, rfl, rfl, hS4, (HQ.out.but hlz hT4).tab, (IntsAt.of (owns_far HN.out hlz hT4)), hS⟩
    case rest =>
      obtain ⟨rfl, yb, ya, yc, ba, bc, rfl, rfl, hY, hTY, hIY, k45⟩ := hcut
      generalize wc = w5 at *
      have HK5 : Hid (Keeps w w5) := HK4.out.trans k45
      have HT5 : Hid (TabAt w5 (.slice pa t.tab.length pc) t.tab) := HT4.out.keep k45
      have HI5 : Hid (IntsAt w5 (.slice aa an.length ac) an) := HI4.out.keep k45
      have HX5 : Hid (CBox xb (C7 t (.slice pa t.tab.length pc)) w5) := HX4.out.keep k45 (Nat.le_of_ble_eq_true rfl)
      have HY5 : Hid (CBox yb (C7 t1 (.slice ya t1.tab.length yc)) w5) := hY
      have HTY5 : Hid (TabAt w5 (.slice ya t1.tab.length yc) t1.tab) := hTY
      have HIY5 : Hid (IntsAt w5 (.slice ba n1.length bc) n1) := hIY
      clear hY hTY hIY k45 HK4 HT4 HI4 HX4 HCA
      have HW : Hid (∀ W, TabAt W (.slice ya t1.tab.length yc) t1.tab → Calls Try.prog 9 #[stV t1 (.slice ya t1.tab.length yc)] W fun y w' => y = .returned (.tuple #[.string (bt (stBs t1)), .int .i64 0]) ∧ Keeps W w') := fun W h => by
        have := snap_write t1 _ W h
        rw [show snBs t1 = stBs t1 from if_pos (by rw [HE1.out]; rfl), HE1.out] at this
        exact this
      have HR : Hid (∀ W, Calls Try.prog 12 #[.string (bt (stBs t1))] W fun y w' => ∃ a c, TabAt w' (.slice a t1.tab.length c) t1.tab ∧ y = .returned (.tuple #[stV t1 (.slice a t1.tab.length c), .int .i64 0]) ∧ Keeps W w') := fun W => by
        refine (snap_read (stBs t1) W).mono ?_
        obtain ⟨r1, r2⟩ := rd_of HE1.out
        rw [r1, r2]
        rintro y w' ⟨a, c, h1, h2, h3⟩
        exact ⟨a, c, h1.tab, h2, h3⟩
      generalize bt (stBs t1) = bs at *
      go_wp2_with (first | (refine load25 rfl rfl yb rfl HY5.out ?_))
      refine (HW.out w5 HTY5.out).mono ?_
      rintro y w6 ⟨rfl, hb⟩
      have HK56 : Hid (Keeps w5 w6) := hb
      clear hb HW
      go_wp2_with fail
      refine (HR.out w6).mono ?_
      rintro y w7 ⟨ra, rc, hTR, rfl, hb⟩
      have HK57 : Hid (Keeps w5 w7) := HK56.out.trans hb
      have HTR : Hid (TabAt w7 (.slice ra t1.tab.length rc) t1.tab) := hTR
      clear hb hTR HR HK56
      go_wp2_with (first | (refine alloc25 rfl rfl ?_; intro w8 zb hBz hkz hlz hgz) | (refine store25 rfl rfl zb rfl t1 ra t1.tab.length rc rfl hBz ?_; intro w9 hS9 hT9))
      have k79 : Keeps w7 w9 := But.to hkz hgz hT9
      have HK59 : Hid (Keeps w5 w9) := HK57.out.trans k79
      have HZ9 : Hid (CBox zb (C7 t1 (.slice ra t1.tab.length rc)) w9) := hS9
      have HTZ9 : Hid (TabAt w9 (.slice ra t1.tab.length rc) t1.tab) := HTR.out.keep k79
      have HK9 : Hid (Keeps w w9) := HK5.out.trans HK59.out
      clear k79 hBz hkz hlz hgz hS9 hT9 HK57 HTR
      obtain ⟨sv, hsv⟩ : ∃ sv, sv = (if lc = kk then la else Option.map (fun x : Addr => x.add (kk * 9)) la) := ⟨_, rfl⟩
      have HSV : Hid (sv = (if lc = kk then la else Option.map (fun x : Addr => x.add (kk * 9)) la)) := hsv
      clear hsv
      have HCB : Hid (∀ W, Keeps w9 W → Calls Try.prog 17 #[stV t1 (.slice ra t1.tab.length rc), .slice sv (L.length - kk) (lc - kk)] W fun y w' => ∃ qa qc ra rc, Hid (OwnTab W.heap.size w' (.slice qa (runSt t1 (L.drop kk)).tab.length qc) (runSt t1 (L.drop kk)).tab) ∧ Hid (w'.ownsRow W.heap.size 3 1 (.slice ra (runAns t1 (L.drop kk)).length rc) (runAns t1 (L.drop kk)).length (intCells (runAns t1 (L.drop kk)))) ∧ y = .returned (.tuple #[stV (runSt t1 (L.drop kk)) (.slice qa (runSt t1 (L.drop kk)).tab.length qc), .slice ra (runAns t1 (L.drop kk)).length rc, .int .i64 0]) ∧ Keeps W w') := by
        intro W hk
        have h2 := (HSP.out kk).2.1
        rw [← HT1.out] at h2
        rw [HSV.out]
        exact all_right h2 _ _ W (HTZ9.out.keep hk) (ents_suffix (HL.out.keep (HK9.out.trans hk)) hkk hcap)
      obtain ⟨t2, ht2⟩ : ∃ t2, t2 = runSt t1 (L.drop kk) := ⟨_, rfl⟩
      obtain ⟨n2, hn2⟩ : ∃ n2, n2 = runAns t1 (L.drop kk) := ⟨_, rfl⟩
      rw [← ht2, ← hn2] at HCB
      have HT2 : Hid (t2 = t) := by
        show _ = _
        rw [ht2, HT1.out, HTT.out, ← runSt_append, List.take_append_drop]
      have HN2 : Hid (n1 ++ n2 = an) := by
        show _ = _
        rw [hn2, HN1.out, HT1.out, HAN.out, ← runAns_append, List.take_append_drop]
      clear ht2 hn2
      have HKR : Hid (Keeps w9 w9) := Keeps.refl _
      go_wp2_with fail
      go_cut [16, 17, 18] (fun p q f wc => f = .int .i64 0 ∧ ∃ yb qa qc ra rc, p = .pointer (some ⟨yb, 0, none⟩) ∧ q = .slice ra n2.length rc ∧ CBox yb (C7 t2 (.slice qa t2.tab.length qc)) wc ∧ TabAt wc (.slice qa t2.tab.length qc) t2.tab ∧ IntsAt wc (.slice ra n2.length rc) n2 ∧ Keeps w9 wc)
      case first =>
        refine wp_region_held_drew (S := fun W => Keeps w9 W) (by kernel_rfl) (Keeps.refl _).drew (fun hS => ?_)
        obtain ⟨V0, hV0⟩ : ∃ z, z = w9.drew := ⟨_, rfl⟩
        rw [← hV0] at hS ⊢
        clear hV0
        refine wpAnyH_take (i := 0) (v := stV t1 (.slice ra t1.tab.length rc)) rfl (by kernel_rfl) (by kernel_rfl) (by kernel_rfl) (fun _ _ _ h => h) (y_load25 (by kernel_rfl) rfl zb (by kernel_rfl) (fun W h => HZ9.out.keep h (Nat.le_of_ble_eq_true rfl))) hS ?_
        refine wpAnyH_take (i := 1) (v := .slice la L.length lc) rfl (by kernel_rfl) (by kernel_rfl) (by kernel_rfl) (fun _ _ _ h => h) (Or.inl ⟨by kernel_rfl, ?_⟩) hS ?_
        · intro w hS; go_simp
        refine wpAnyH_take (i := 2) (v := .int .i64 kk) rfl (by kernel_rfl) (by kernel_rfl) (by kernel_rfl) (fun _ _ _ h => h) (Or.inl ⟨by kernel_rfl, ?_⟩) hS ?_
        · intro w hS; go_simp
        refine wpAnyH_take (i := 3) (v := .slice sv (L.length - kk) (lc - kk)) rfl (by kernel_rfl) (by kernel_rfl) (by kernel_rfl) (fun _ _ _ h => h) (Or.inl ⟨by kernel_rfl, ?_⟩) hS ?_
        · intro w hS
          go_simp
          exact HSV.out.symm
        refine wpAnyH_ready (rs := [4, 9]) (by kernel_rfl) (by simp) ?_
        refine AllReadyH.wrp rfl (by kernel_rfl) (fun K hK => ?_) (AllReadyH.wrp rfl (by kernel_rfl) (fun K hK => ?_) (AllReadyH.nil))
        · refine h_call ?_
          go_simp
          refine (HCB.out _ (HKR.out.trans hS)).mono ?_
          rintro y V2 ⟨qa, qc, rb, rd, HQ, HN, rfl, hb⟩
          go_simp
          refine hK.out _ _ (hS.trans hb) (fun hS => ?_)
          clear hK K
          refine wpAnyH_take (i := 5) (v := .tuple #[stV t2 (.slice qa t2.tab.length qc), .slice rb n2.length rd, .int .i64 0]) rfl (by kernel_rfl) (by kernel_rfl) (by kernel_rfl) (fun _ _ _ h => h) (Or.inl ⟨by kernel_rfl, fun w _ => by kernel_rfl⟩) hS ?_
          refine wpAnyH_take (i := 6) (v := stV t2 (.slice qa t2.tab.length qc)) rfl (by kernel_rfl) (by kernel_rfl) (by kernel_rfl) (fun _ _ _ h => h) (Or.inl ⟨by kernel_rfl, fun w _ => by kernel_rfl⟩) hS ?_
          refine wpAnyH_take (i := 7) (v := .slice rb n2.length rd) rfl (by kernel_rfl) (by kernel_rfl) (by kernel_rfl) (fun _ _ _ h => h) (Or.inl ⟨by kernel_rfl, fun w _ => by kernel_rfl⟩) hS ?_
          refine wpAnyH_take (i := 8) (v := .int .i64 0) rfl (by kernel_rfl) (by kernel_rfl) (by kernel_rfl) (fun _ _ _ h => h) (Or.inl ⟨by kernel_rfl, fun w _ => by kernel_rfl⟩) hS ?_
          refine wpAnyH_ready (rs := [9]) (by kernel_rfl) (by simp) ?_
          refine AllReadyH.wrp rfl (by kernel_rfl) (fun K hK => ?_) (AllReadyH.nil)
          refine h_alloc25 rfl ?_
          intro V3 zb9 hBz hkz hlz hgz
          have hzg := Nat.le_trans hS.size hgz
          refine hK.out _ _ (hS.trans hkz) (fun hS => ?_)
          clear hK K
          refine wpAnyH_ready (rs := [10]) (by kernel_rfl) (by simp) ?_
          refine AllReadyH.wrp rfl (by kernel_rfl) (fun K hK => ?_) (AllReadyH.nil)
          refine h_store25 rfl zb9 (by kernel_rfl) t2 qa t2.tab.length qc (by kernel_rfl) hBz ?_
          intro V4 hS4 hT4
          refine hK.out _ _ (But.to hS hzg hT4) (fun hS => ?_)
          clear hK K
          refine wpAnyH_take (i := 11) (v := .slice rb n2.length rd) rfl (by kernel_rfl) (by kernel_rfl) (by kernel_rfl) (fun _ _ _ h => h) (Or.inl ⟨by kernel_rfl, fun w _ => by kernel_rfl⟩) hS ?_
          refine wpAnyH_take (i := 12) (v := .int .i64 0) rfl (by kernel_rfl) (by kernel_rfl) (by kernel_rfl) (fun _ _ _ h => h) (Or.inl ⟨by kernel_rfl, fun w _ => by kernel_rfl⟩) hS ?_
          refine wpAnyH_done (by kernel_rfl) ?_ _
          go_wp2_with fail
          go_meet
          exact ⟨rfl, zb9, qa, qc, rb, rd, rfl, rfl, hS4, (HQ.out.tab.keep (But.to hkz hgz hT4)), ((IntsAt.of HN.out).keep (But.to hkz hgz hT4)), hS⟩
        · refine h_alloc25 rfl ?_
          intro V3 zb9 hBz hkz hlz hgz
          have hzg := Nat.le_trans hS.size hgz
          refine hK.out _ _ (hS.trans hkz) (fun hS => ?_)
          clear hK K
          refine wpAnyH_ready (rs := [4]) (by kernel_rfl) (by simp) ?_
          refine AllReadyH.wrp rfl (by kernel_rfl) (fun K hK => ?_) (AllReadyH.nil)
          refine h_call ?_
          go_simp
          refine (HCB.out _ (HKR.out.trans hS)).mono ?_
          rintro y V2 ⟨qa, qc, rb, rd, HQ, HN, rfl, hb⟩
          go_simp
          refine hK.out _ _ (hS.trans hb) (fun hS => ?_)
          clear hK K
          refine wpAnyH_take (i := 5) (v := .tuple #[stV t2 (.slice qa t2.tab.length qc), .slice rb n2.length rd, .int .i64 0]) rfl (by kernel_rfl) (by kernel_rfl) (by kernel_rfl) (fun _ _ _ h => h) (Or.inl ⟨by kernel_rfl, fun w _ => by kernel_rfl⟩) hS ?_
          refine wpAnyH_take (i := 6) (v := stV t2 (.slice qa t2.tab.length qc)) rfl (by kernel_rfl) (by kernel_rfl) (by kernel_rfl) (fun _ _ _ h => h) (Or.inl ⟨by kernel_rfl, fun w _ => by kernel_rfl⟩) hS ?_
          refine wpAnyH_take (i := 7) (v := .slice rb n2.length rd) rfl (by kernel_rfl) (by kernel_rfl) (by kernel_rfl) (fun _ _ _ h => h) (Or.inl ⟨by kernel_rfl, fun w _ => by kernel_rfl⟩) hS ?_
          refine wpAnyH_take (i := 8) (v := .int .i64 0) rfl (by kernel_rfl) (by kernel_rfl) (by kernel_rfl) (fun _ _ _ h => h) (Or.inl ⟨by kernel_rfl, fun w _ => by kernel_rfl⟩) hS ?_
          refine wpAnyH_ready (rs := [10]) (by kernel_rfl) (by simp) ?_
          refine AllReadyH.wrp rfl (by kernel_rfl) (fun K hK => ?_) (AllReadyH.nil)
          refine h_store25 rfl zb9 (by kernel_rfl) t2 qa t2.tab.length qc (by kernel_rfl) (hBz.keep hb (Nat.le_of_ble_eq_true rfl)) ?_
          intro V4 hS4 hT4
          refine hK.out _ _ (But.to hS hzg hT4) (fun hS => ?_)
          clear hK K
          refine wpAnyH_take (i := 11) (v := .slice rb n2.length rd) rfl (by kernel_rfl) (by kernel_rfl) (by kernel_rfl) (fun _ _ _ h => h) (Or.inl ⟨by kernel_rfl, fun w _ => by kernel_rfl⟩) hS ?_
          refine wpAnyH_take (i := 12) (v := .int .i64 0) rfl (by kernel_rfl) (by kernel_rfl) (by kernel_rfl) (fun _ _ _ h => h) (Or.inl ⟨by kernel_rfl, fun w _ => by kernel_rfl⟩) hS ?_
          refine wpAnyH_done (by kernel_rfl) ?_ _
          go_wp2_with fail
          go_meet
          exact ⟨rfl, zb9, qa, qc, rb, rd, rfl, rfl, hS4, (HQ.out.but hlz hT4).tab, (IntsAt.of (owns_far HN.out hlz hT4)), hS⟩
      case rest =>
        obtain ⟨rfl, ub, ua, uc, da, dc, rfl, rfl, hU, hTU, hIU, kA⟩ := hcut
        generalize wc = wA at *
        have HKA : Hid (Keeps w5 wA) := HK59.out.trans kA
        have HUA : Hid (CBox ub (C7 t2 (.slice ua t2.tab.length uc)) wA) := hU
        have HTU : Hid (TabAt wA (.slice ua t2.tab.length uc) t2.tab) := hTU
        have HIU : Hid (IntsAt wA (.slice da n2.length dc) n2) := hIU
        have HXA : Hid (CBox xb (C7 t (.slice pa t.tab.length pc)) wA) := HX5.out.keep HKA.out (Nat.le_of_ble_eq_true rfl)
        clear hU hTU hIU kA HCB HZ9 HTZ9 HK59 HK9 HKR
        go_wp2_with fail
        refine (snap_begun wA).mono ?_
        rintro y wB ⟨rfl, hb⟩
        have HKB : Hid (Keeps w5 wB) := HKA.out.trans hb
        have HAB : Hid (Keeps wA wB) := hb
        clear hb
        go_wp2_with (first | (refine load25w (by kernel_rfl) rfl xb rfl (HXA.out.keep HAB.out (Nat.le_of_ble_eq_true rfl)) ?_) | (refine load25w (by kernel_rfl) rfl ub rfl (HUA.out.keep HAB.out (Nat.le_of_ble_eq_true rfl)) ?_))
        refine (same_of t t2 _ _ wB (HT5.out.keep HKB.out) (HTU.out.keep HAB.out)).mono ?_
        rintro y w7 ⟨rfl, hb⟩
        have hss : sameSt t t2 = true := same_st_iff.2 HT2.out.symm
        rw [hss]
        have HK57 : Hid (Keeps w5 w7) := HKB.out.trans hb
        have HA7 : Hid (Keeps wA w7) := HAB.out.trans hb
        clear hb hss
        have hmade := World.ownsRow_made (base := w7.heap.size) (e := 3) (size := 1) w7 #[] 0 (Nat.le_refl _) (by unfold maxLen; omega) rfl
        have hln : n1.length + n2.length ≤ 1000 := by
          have h1 := HLN.out
          have h2 := congrArg List.length HN2.out
          rw [List.length_append] at h2
          omega
        have kA : Keeps w7 (w7.alloc (.cells #[] 3)) := (Keeps.refl _).alloc _
        obtain ⟨v1, w8, hr1, ho1, hg1⟩ := run_append_read _ w7.heap.size 39 39 3 1 8 _ infoInt Try.underlying39 rfl (by decide) _ 0 [] hmade _ n1.length (intCells n1) ((HIY5.out.keep HK57.out).keep kA) (by intro u hu; simp [intCells] at hu; obtain ⟨a, _, rfl⟩ := hu; rfl) (by unfold maxLen; omega) (by omega) (by simp)
        have k8 : Keeps w7 w8 := keeps_grown kA hg1 (fun k h => by simp [Value.ownBlock] at h; omega)
        simp only [Nat.zero_add, List.nil_append] at ho1
        obtain ⟨ga, gc, hv1, _⟩ := (RowAt.of_owns ho1).len
        subst hv1
        obtain ⟨v2, w9', hr2, ho2, hg2⟩ := run_append_read w8 w7.heap.size 39 39 3 1 8 _ infoInt Try.underlying39 rfl (by decide) _ n1.length (intCells n1) ho1 _ n2.length (intCells n2) ((HIU.out.keep HA7.out).keep k8) (by intro u hu; simp [intCells] at hu; obtain ⟨a, _, rfl⟩ := hu; rfl) (by unfold maxLen; omega) (by omega) k8.size
        have k9 : Keeps w7 w9' := keeps_grown k8 hg2 (fun k h => (ho1.lt k h).1)
        obtain ⟨ha, hc, hv2, _⟩ := (RowAt.of_owns ho2).len
        subst hv2
        have HI9 : Hid (IntsAt w9' (.slice ha (n1.length + n2.length) hc) (n1 ++ n2)) := by
          show RowAt _ _ _ _ _
          have := RowAt.of_owns ho2
          rw [show intCells (n1 ++ n2) = intCells n1 ++ intCells n2 by simp [intCells], List.length_append]
          exact this
        have Hr1 := (show Hid (_ = _) from hr1)
        have Hr2 := (show Hid (_ = _) from hr2)
        have HK9' : Hid (Keeps w5 w9') := HK57.out.trans k9
        clear hr1 hr2 ho1 ho2 hg1 hg2 hmade kA k8 k9 hln
        go_wp2_with (at_builtin; first | refine wpList_append_wanted (by rfl) _ _ _ rfl rfl rfl Hr1.out ?_ | refine wpList_append_wanted (by rfl) _ _ _ rfl rfl rfl Hr2.out ?_)
        refine (same_ints an (n1 ++ n2) _ _ w9' (HI5.out.keep HK9'.out) HI9.out).mono ?_
        rintro y w10 ⟨rfl, hb⟩
        have hsm : sameInts an (n1 ++ n2) = true := sameInts_iff.2 HN2.out.symm
        rw [hsm]
        have HK10 : Hid (Keeps w w10) := HK5.out.trans (HK9'.out.trans hb)
        clear hb hsm Hr1 Hr2
        go_wp2_with fail
        go_ret
        exact ⟨rfl, HK10.out⟩
end Go.Proofs.Yteabfjpajgakiad
