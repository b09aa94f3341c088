/- SoC. -/
import Derived.Test.YteabfjpajgakiagJ20
/- StubOnce: the walk. -/
set_option linter.unusedSimpArgs false
set_option linter.unusedVariables false
set_option maxRecDepth 10000
namespace Go.Proofs.Yteabfjpajgakiag
open Go.RowKit

set_option maxHeartbeats 40000000 in
theorem stub_once (PS : List Int) (pa : Option Addr) (pc : Nat) (w : World) (hP : IntsAt w (.slice pa PS.length pc) PS) (hr : ∀ x ∈ PS, -9223372036854775808 ≤ x ∧ x ≤ 9223372036854775807) :
    Calls Try.prog 5 #[.slice pa PS.length pc] w fun y w' => y = .returned (.bool true) ∧ Keeps w w' := by
  have HP : Hid (IntsAt w (.slice pa PS.length pc) PS) := hP
  have HRG : Hid (∀ x ∈ PS, -9223372036854775808 ≤ x ∧ x ≤ 9223372036854775807) := hr
  have hpl := hP.2.1
  unfold maxLen at hpl
  clear hP hr
  go_enter Try.func5, Try.ntmps5
  go_wp2_with fail
  refine (mk_open 0 1 w).mono ?_
  rintro y w1 ⟨rfl, hb⟩
  have hr1 : EnOwn w.heap.size (w1.alloc (.cells #[.int .i64 1, .int .i64 0, .int .i64 1, .int .i64 0, .int .i64 0, .int .i64 0, .int .i64 0, .int .i64 0, .int .i64 0] 28)) (.slice (some ⟨w1.heap.size, 0, none⟩) 1 1) [openE] := ⟨rfl, .inr ⟨w1.heap.size, 1, _, rfl, hb.size, heap_alloc_new w1 _, Nat.le_refl _, by unfold maxLen; omega, rfl, rfl⟩⟩
  have HR1 : Hid (EnOwn w.heap.size (w1.alloc (.cells #[.int .i64 1, .int .i64 0, .int .i64 1, .int .i64 0, .int .i64 0, .int .i64 0, .int .i64 0, .int .i64 0, .int .i64 0] 28)) (.slice (some ⟨w1.heap.size, 0, none⟩) 1 1) [openE]) := hr1
  have HK1 : Hid (Keeps w w1) := hb
  clear hb hr1
  go_wp2_with (first | (refine allocS rfl rfl ?_; intro w3 sb hBs hks hls hgs) | (refine storeS rfl rfl sb rfl ⟨1, 1, []⟩ none 0 0 rfl hBs rfl ?_; intro w4 hS4 hT4))
  have HS0 : Hid (Std w w4 sb (.slice (some ⟨w1.heap.size, 0, none⟩) [openE].length 1) (.slice none ([] : List Ent).length 0) (.slice none ([] : List Int).length 0) [openE] [] ⟨1, 1, []⟩) := by
    have hg1 : w1.heap.size + 1 ≤ sb := by simpa using hgs
    have hr3 := owns_keep HR1.out hks
    have hw := HK1.out.size
    refine ⟨owns_but hr3 hT4 (by simp [Value.ownBlock]; omega), ⟨rfl, .inl ⟨rfl, rfl⟩⟩, ⟨rfl, .inl ⟨rfl, rfl⟩⟩, hS4, But.to ((HK1.out.alloc _).trans hks) (by omega) hT4, by omega, by simp [Value.ownBlock]; omega, by simp [Value.ownBlock], by simp [Value.ownBlock], fun k _ => by simp [Value.ownBlock], fun k _ => by simp [Value.ownBlock], fun k _ => by simp [Value.ownBlock]⟩
  clear hBs hks hls hgs hS4 hT4 HR1 HK1
  go_loopw [3, 5, 6] (fun lv sv i wr => ∃ (k : Nat) (L T : List Ent) (S : Stu) (la : Option Addr) (lc : Nat) (sa : Option Addr) (sc : Nat) (ca : Option Addr) (cc : Nat), lv = .slice la L.length lc ∧ sv = .slice sa T.length sc ∧ i = .int .i64 k ∧ k ≤ 30 ∧ L.length ≤ k + 1 ∧ T.length ≤ k ∧ Hid (Std w wr sb (.slice la L.length lc) (.slice sa T.length sc) (.slice ca S.came.length cc) (L) (T) (S)) ∧ Hid (Onced L S T)) (fun _ _ i _ => 30 - (intOf i).toNat)
  case atStart => exact ⟨0, [openE], [], ⟨1, 1, []⟩, some ⟨w1.heap.size, 0, none⟩, 1, none, 0, none, 0, rfl, rfl, rfl, by omega, by simp, by simp, HS0, onced_begun⟩
  case round =>
    obtain ⟨k, L, T, S, la, lc, sa, sc, ca, cc, rfl, rfl, rfl, hk30, hL, hT, HS, HON⟩ := hrel
    by_cases hk : k < PS.length
    · by_cases h30 : k < 30
      · obtain ⟨pb, po, pcap, hv, hc⟩ := (HP.out.keep HS.out.keeps).at hk
        injection hv with hv1 hv2 hv3
        subst hv1
        clear hv2 hv3
        have hX := HRG.out _ (List.getElem_mem hk)
        generalize PS[k] = X at *
        have hxl := World.block_lt_of_cell? _ _ hc
        simp only [] at hxl
        have HX4 : Hid (-9223372036854775808 ≤ X.tdiv 4 ∧ X.tdiv 4 ≤ 9223372036854775807) := tdiv4 hX
        skip
        go_wp2_with (first | (refine allocO rfl rfl ?_; intro v1 ob hBo hko hlo hgo) | (refine storeO rfl rfl ob rfl 2 1 0 1 rfl hBo rfl ?_; intro v2 hS2 hT2; have k2 := But.to hko hgo hT2; have hc2 := cell_kept hc k2; have hl2 := World.block_lt_of_cell? _ _ hc2; simp only [] at hl2))
        have HS2 : Hid (Std w v2 sb (.slice la L.length lc) (.slice sa T.length sc) (.slice ca S.came.length cc) (L) (T) (S)) := HS.out.keep k2
        have HO2 : Hid (CBox ob (O4 2 1 0 1) v2) := hS2
        have HC2 : Hid (v2.cell? ⟨pb, po + k, none⟩ = some (.int .i64 X)) := hc2
        clear k2 hc2 hl2 hBo hko hlo hgo hS2 hT2 hc hxl HS
        refine (choose_n X 4 v2 hX.1 hX.2 (by decide) (by decide)).mono ?_
        rintro y _ ⟨r, hr0, hr1, rfl, rfl⟩
        have HNX : Hid (∀ W, Std w W sb (.slice la L.length lc) (.slice sa T.length sc) (.slice ca S.came.length cc) (L) (T) (S) → Calls Try.prog 6 #[stuV S (.slice ca S.came.length cc), .int .i64 0, opV 2 1 0 1] W fun y w' => ∃ ra rc, InOwn W.heap.size w' (.slice ra (nextS S 0 addO).came.length rc) (nextS S 0 addO).came ∧ y = .returned (.tuple #[stuV (nextS S 0 addO) (.slice ra (nextS S 0 addO).came.length rc), entV (nextE S 0 addO), .int .i64 (nextErr S 0 addO)]) ∧ Keeps W w') := fun W h => by
          refine (stub_next_on S 0 2 1 0 1 _ W (RowAt.of_owns h.c)).mono ?_
          rintro y w' ⟨ra, rc, ⟨g, hg, hgb⟩, h2, hb⟩
          exact ⟨ra, rc, hg.inOwn hgb, h2, hb⟩
        have HAG : Hid (∀ n W, Std w W sb (.slice la L.length lc) (.slice sa T.length sc) (.slice ca S.came.length cc) (L) (T) (S) → Calls Try.prog 12 #[stuV S (.slice ca S.came.length cc), .int .i64 0, .int .i64 n, opV 2 1 0 1] W fun y w' => y = .returned (.tuple #[entV (againE S 0 n addO), .int .i64 (againErr S 0 n addO)]) ∧ Keeps W w') := fun n W h => stub_again S 0 n 2 1 0 1 _ W (RowAt.of_owns h.c)
        have HPN : Hid (nextErr S 0 addO = 0 → Onced L (nextS S 0 addO) (T ++ [nextE S 0 addO])) := fun h => (lives_next HON.out h).1
        have HPA : Hid (∀ n, againErr S 0 n addO = 0 → Onced L S (T ++ [againE S 0 n addO])) := fun n h => lives_again HON.out h
        by_cases r0 : r = 0
        · clear HAG HPA
          generalize nextS S 0 addO = S1 at *
          generalize nextE S 0 addO = e1 at *
          generalize nextErr S 0 addO = er1 at *
          have r0e : r = 0 := r0
          subst r0e
          go_wp2_with (first | (refine loadS rfl rfl sb rfl HS2.out.box ?_) | (refine loadO rfl rfl ob rfl HO2.out ?_))
          refine (HNX.out v2 HS2.out).mono ?_
          rintro y v3 ⟨ra, rc, hI3, rfl, hb⟩
          have HS3 : Hid (Std w v3 sb (.slice la L.length lc) (.slice sa T.length sc) (.slice ca S.came.length cc) (L) (T) (S)) := HS2.out.keep hb
          have HI3 : Hid (InOwn v2.heap.size v3 (.slice ra S1.came.length rc) S1.came) := hI3
          have HK23 : Hid (Keeps v2 v3) := hb
          clear hb hI3 HNX
          cases q : (er1 == 0) with
          | false =>
            have q' : (er1 != 0) = true := by simp [bne, q]
            go_wp2_with (first | (refine allocS rfl rfl ?_; intro v4 nb hBn hkn hln hgn) | (refine allocE rfl rfl ?_; intro v5 eb hBe hke hle hge) | (have _h := hBe; refine storeS rfl rfl nb rfl S1 ra S1.came.length rc rfl (hBn.keep hke (Nat.le_of_ble_eq_true rfl)) rfl ?_; intro v6 hS6 hT6) | (refine storeE rfl rfl eb rfl e1 rfl (hBe.other hT6 (by omega) (Nat.le_of_ble_eq_true rfl)) rfl ?_; intro v7 hS7 hT7; have k37 : Keeps v3 v7 := But.to (But.to (hkn.trans hke) hgn hT6) (Nat.le_trans hkn.size hge) hT7))
            have HS7 : Hid (Std w v7 sb (.slice la L.length lc) (.slice sa T.length sc) (.slice ca S.came.length cc) (L) (T) (S)) := HS3.out.keep k37
            clear k37 hBn hkn hln hgn hBe hke hle hge hS6 hT6 hS7 hT7 HS3 HI3 HK23
            go_roundw
            case rel => exact ⟨k + 1, L, T, S, la, lc, sa, sc, ca, cc, by first | rfl | simp, by first | rfl | simp, by go_num, by omega, by first | omega | (simp only [List.length_append, List.length_cons, List.length_nil]; omega), by first | omega | (simp only [List.length_append, List.length_cons, List.length_nil]; omega), HS7, HON⟩
            case measure => simp [intOf]; omega
          | true =>
            have q0 : er1 = 0 := by simpa using q
            have HO1 := (show Hid _ from HPN.out q0)
            go_wp2_with (first | (have _h := k37; refine storeS rfl rfl sb rfl S1 ra S1.came.length rc rfl (HS3.out.keep k37).box rfl ?_; intro v8 hS8 hT8; have hE8 := hS7.other hT8 (by have h1 := HS3.out.sbl; have h2 := hkn.size; omega) (Nat.le_of_ble_eq_true rfl); have hD8 := HS2.out.put (HK23.out.trans k37) (owns_keep HI3.out k37) hS8 hT8) | (have _h := k37; refine loadS rfl rfl nb rfl (hS6.other hT7 (by omega) (Nat.le_of_ble_eq_true rfl)) ?_) | (refine loadE rfl rfl eb rfl hE8 ?_) | (refine app_en rfl _ _ rfl w.heap.size (Nat.le_trans hD8.keeps.size (by simp)) (.slice sa T.length sc) T rfl (owns_keep hD8.t ((Keeps.refl _).alloc _)) e1 ⟨v8.heap.size, 0, none⟩ 1 rfl (ent_row v8 e1) (by omega) ?_; intro ua uc v9 hO9 hG9) | (refine allocS rfl rfl ?_; intro v4 nb hBn hkn hln hgn) | (refine allocE rfl rfl ?_; intro v5 eb hBe hke hle hge) | (have _h := hBe; refine storeS rfl rfl nb rfl S1 ra S1.came.length rc rfl (hBn.keep hke (Nat.le_of_ble_eq_true rfl)) rfl ?_; intro v6 hS6 hT6) | (refine storeE rfl rfl eb rfl e1 rfl (hBe.other hT6 (by omega) (Nat.le_of_ble_eq_true rfl)) rfl ?_; intro v7 hS7 hT7; have k37 : Keeps v3 v7 := But.to (But.to (hkn.trans hke) hgn hT6) (Nat.le_trans hkn.size hge) hT7))
            have HD9 : Hid (Std w v9 sb (.slice la L.length lc) (.slice ua (T.length + 1) uc) (.slice ra S1.came.length rc) (L) (T ++ [e1]) (S1)) := (hD8.keep ((Keeps.refl _).alloc _)).growT hO9 hG9
            clear k37 hBn hkn hln hgn hBe hke hle hge hS6 hT6 hS7 hT7 HS3 HI3 HK23 hS8 hT8 hE8 hD8 hO9 hG9
            go_roundw
            case rel => exact ⟨k + 1, L, T ++ [e1], S1, la, lc, ua, uc, ra, rc, by first | rfl | simp, by first | rfl | simp, by go_num, by omega, by first | omega | (simp only [List.length_append, List.length_cons, List.length_nil]; omega), by first | omega | (simp only [List.length_append, List.length_cons, List.length_nil]; omega), (show Hid _ from by show Std _ _ _ _ _ _ _ _ _; rw [List.length_append]; exact HD9.out), HO1⟩
            case measure => simp [intOf]; omega
        · by_cases r1 : r = 1
          · clear HNX HPN
            have r1e : r = 1 := r1
            subst r1e
            go_wp2_with fail
            go_cut [11, 12] (fun p q wc => ∃ zb n, p = .pointer (some ⟨zb, 0, none⟩) ∧ q = .int .i64 (againErr S 0 n addO) ∧ CBox zb (E9 (againE S 0 n addO)) wc ∧ Keeps v2 wc)
            case first =>
              refine wp_region_held_drew (S := fun W => Keeps v2 W) (by kernel_rfl) (Keeps.refl _).drew (fun hS => ?_)
              obtain ⟨V0, hV0⟩ : ∃ z, z = v2.drew := ⟨_, rfl⟩
              rw [← hV0] at hS ⊢
              clear hV0
              refine wpAnyH_take (i := 0) (v := stuV S (.slice ca S.came.length cc)) rfl (by kernel_rfl) (by kernel_rfl) (by kernel_rfl) (fun _ _ _ h => h) (y_loadS (by kernel_rfl) rfl sb (by kernel_rfl) (fun W h => HS2.out.box.keep h (Nat.le_of_ble_eq_true rfl))) hS ?_
              refine wpAnyH_take (i := 1) (v := .slice (some ⟨pb, po, none⟩) PS.length pc) rfl (by kernel_rfl) (by kernel_rfl) (by kernel_rfl) (fun _ _ _ h => h) (Or.inl ⟨by kernel_rfl, fun w _ => by kernel_rfl⟩) hS ?_
              refine wpAnyH_take (i := 2) (v := .int .i64 (k : Int)) rfl (by kernel_rfl) (by kernel_rfl) (by kernel_rfl) (fun _ _ _ h => h) (Or.inl ⟨by kernel_rfl, fun w _ => by kernel_rfl⟩) hS ?_
              refine wpAnyH_take (i := 3) (v := .pointer (some ⟨pb, po + k, none⟩)) rfl (by kernel_rfl) (by kernel_rfl) (by kernel_rfl) (fun _ _ _ h => h) (Or.inl ⟨by kernel_rfl, ?_⟩) hS ?_
              · intro w hS; go_simp
              refine wpAnyH_take (i := 4) (v := .int .i64 X) rfl (by kernel_rfl) (by kernel_rfl) (by kernel_rfl) (fun _ _ _ h => h) (y_at (by kernel_rfl) rfl pb (po + k) (by kernel_rfl) (fun W h => cell_kept HC2.out h)) hS ?_
              refine wpAnyH_take (i := 5) (v := .int .i64 (X.tdiv 4)) rfl (by kernel_rfl) (by kernel_rfl) (by kernel_rfl) (fun _ _ _ h => h) (Or.inl ⟨by kernel_rfl, ?_⟩) hS ?_
              · intro w hS
                go_simp
                exact wrap_in HX4.out
              refine wpAnyH_take (i := 8) (v := opV 2 1 0 1) rfl (by kernel_rfl) (by kernel_rfl) (by kernel_rfl) (fun _ _ _ h => h) (y_loadO (by kernel_rfl) rfl ob (by kernel_rfl) (fun W h => HO2.out.keep h (Nat.le_of_ble_eq_true rfl))) hS ?_
              refine wpAnyH_ready (rs := [6, 13]) (by kernel_rfl) (by simp) ?_
              refine AllReadyH.wrp rfl (by kernel_rfl) (fun K hK => ?_) (AllReadyH.wrp rfl (by kernel_rfl) (fun K hK => ?_) (AllReadyH.nil))
              · refine h_call ?_
                go_simp
                refine (choose_n (X.tdiv 4) 9 _ HX4.out.1 HX4.out.2 (by decide) (by decide)).mono ?_
                rintro y _ ⟨m, hm0, hm1, rfl, rfl⟩
                go_simp
                refine hK.out _ _ hS (fun hS => ?_)
                clear hK K
                refine wpAnyH_take (i := 7) (v := .int .i64 (1 + m)) rfl (by kernel_rfl) (by kernel_rfl) (by kernel_rfl) (fun _ _ _ h => h) (Or.inl ⟨by kernel_rfl, ?_⟩) hS ?_
                · intro w hS
                  go_simp
                  first | done | exact wrap_in ⟨by omega, by omega⟩
                refine wpAnyH_ready (rs := [9, 13]) (by kernel_rfl) (by simp) ?_
                refine AllReadyH.wrp rfl (by kernel_rfl) (fun K hK => ?_) (AllReadyH.wrp rfl (by kernel_rfl) (fun K hK => ?_) (AllReadyH.nil))
                · refine h_call ?_
                  go_simp
                  refine (HAG.out (1 + m) _ (HS2.out.keep hS)).mono ?_
                  rintro y V2 ⟨rfl, hb⟩
                  go_simp
                  refine hK.out _ _ (hS.trans hb) (fun hS => ?_)
                  clear hK K
                  refine wpAnyH_take (i := 10) (v := .tuple #[entV (againE S 0 (1 + m) addO), .int .i64 (againErr S 0 (1 + m) addO)]) rfl (by kernel_rfl) (by kernel_rfl) (by kernel_rfl) (fun _ _ _ h => h) (Or.inl ⟨by kernel_rfl, fun w _ => by kernel_rfl⟩) hS ?_
                  refine wpAnyH_take (i := 11) (v := entV (againE S 0 (1 + m) addO)) rfl (by kernel_rfl) (by kernel_rfl) (by kernel_rfl) (fun _ _ _ h => h) (Or.inl ⟨by kernel_rfl, fun w _ => by kernel_rfl⟩) hS ?_
                  refine wpAnyH_take (i := 12) (v := .int .i64 (againErr S 0 (1 + m) addO)) rfl (by kernel_rfl) (by kernel_rfl) (by kernel_rfl) (fun _ _ _ h => h) (Or.inl ⟨by kernel_rfl, fun w _ => by kernel_rfl⟩) hS ?_
                  refine wpAnyH_ready (rs := [13]) (by kernel_rfl) (by simp) ?_
                  refine AllReadyH.wrp rfl (by kernel_rfl) (fun K hK => ?_) (AllReadyH.nil)
                  refine h_allocE rfl ?_
                  intro V3 zb hBz hkz hlz hgz
                  have hzg := Nat.le_trans hS.size hgz
                  refine hK.out _ _ (hS.trans hkz) (fun hS => ?_)
                  clear hK K
                  refine wpAnyH_ready (rs := [14]) (by kernel_rfl) (by simp) ?_
                  refine AllReadyH.wrp rfl (by kernel_rfl) (fun K hK => ?_) (AllReadyH.nil)
                  refine h_storeE rfl zb (by kernel_rfl) (againE S 0 (1 + m) addO) (by kernel_rfl) hBz rfl ?_
                  intro V4 hS4 hT4
                  refine hK.out _ _ (But.to hS hzg hT4) (fun hS => ?_)
                  clear hK K
                  refine wpAnyH_take (i := 15) (v := .int .i64 (againErr S 0 (1 + m) addO)) rfl (by kernel_rfl) (by kernel_rfl) (by kernel_rfl) (fun _ _ _ h => h) (Or.inl ⟨by kernel_rfl, fun w _ => by kernel_rfl⟩) hS ?_
                  refine wpAnyH_done (by kernel_rfl) ?_ _
                  go_wp2_with fail
                  go_meet
                  exact ⟨zb, 1 + m, rfl, rfl, hS4, hS⟩
                · refine h_allocE rfl ?_
                  intro V3 zb hBz hkz hlz hgz
                  have hzg := Nat.le_trans hS.size hgz
                  refine hK.out _ _ (hS.trans hkz) (fun hS => ?_)
                  clear hK K
                  refine wpAnyH_ready (rs := [9]) (by kernel_rfl) (by simp) ?_
                  refine AllReadyH.wrp rfl (by kernel_rfl) (fun K hK => ?_) (AllReadyH.nil)
                  refine h_call ?_
                  go_simp
                  refine (HAG.out (1 + m) _ (HS2.out.keep hS)).mono ?_
                  rintro y V2 ⟨rfl, hb⟩
                  go_simp
                  refine hK.out _ _ (hS.trans hb) (fun hS => ?_)
                  clear hK K
                  refine wpAnyH_take (i := 10) (v := .tuple #[entV (againE S 0 (1 + m) addO), .int .i64 (againErr S 0 (1 + m) addO)]) rfl (by kernel_rfl) (by kernel_rfl) (by kernel_rfl) (fun _ _ _ h => h) (Or.inl ⟨by kernel_rfl, fun w _ => by kernel_rfl⟩) hS ?_
                  refine wpAnyH_take (i := 11) (v := entV (againE S 0 (1 + m) addO)) rfl (by kernel_rfl) (by kernel_rfl) (by kernel_rfl) (fun _ _ _ h => h) (Or.inl ⟨by kernel_rfl, fun w _ => by kernel_rfl⟩) hS ?_
                  refine wpAnyH_take (i := 12) (v := .int .i64 (againErr S 0 (1 + m) addO)) rfl (by kernel_rfl) (by kernel_rfl) (by kernel_rfl) (fun _ _ _ h => h) (Or.inl ⟨by kernel_rfl, fun w _ => by kernel_rfl⟩) hS ?_
                  refine wpAnyH_ready (rs := [14]) (by kernel_rfl) (by simp) ?_
                  refine AllReadyH.wrp rfl (by kernel_rfl) (fun K hK => ?_) (AllReadyH.nil)
                  refine h_storeE rfl zb (by kernel_rfl) (againE S 0 (1 + m) addO) (by kernel_rfl) (hBz.keep hb (Nat.le_of_ble_eq_true rfl)) rfl ?_
                  intro V4 hS4 hT4
                  refine hK.out _ _ (But.to hS hzg hT4) (fun hS => ?_)
                  clear hK K
                  refine wpAnyH_take (i := 15) (v := .int .i64 (againErr S 0 (1 + m) addO)) rfl (by kernel_rfl) (by kernel_rfl) (by kernel_rfl) (fun _ _ _ h => h) (Or.inl ⟨by kernel_rfl, fun w _ => by kernel_rfl⟩) hS ?_
                  refine wpAnyH_done (by kernel_rfl) ?_ _
                  go_wp2_with fail
                  go_meet
                  exact ⟨zb, 1 + m, rfl, rfl, hS4, hS⟩
              · refine h_allocE rfl ?_
                intro V3 zb hBz hkz hlz hgz
                have hzg := Nat.le_trans hS.size hgz
                refine hK.out _ _ (hS.trans hkz) (fun hS => ?_)
                clear hK K
                refine wpAnyH_ready (rs := [6]) (by kernel_rfl) (by simp) ?_
                refine AllReadyH.wrp rfl (by kernel_rfl) (fun K hK => ?_) (AllReadyH.nil)
                refine h_call ?_
                go_simp
                refine (choose_n (X.tdiv 4) 9 _ HX4.out.1 HX4.out.2 (by decide) (by decide)).mono ?_
                rintro y _ ⟨m, hm0, hm1, rfl, rfl⟩
                go_simp
                refine hK.out _ _ hS (fun hS => ?_)
                clear hK K
                refine wpAnyH_take (i := 7) (v := .int .i64 (1 + m)) rfl (by kernel_rfl) (by kernel_rfl) (by kernel_rfl) (fun _ _ _ h => h) (Or.inl ⟨by kernel_rfl, ?_⟩) hS ?_
                · intro w hS
                  go_simp
                  first | done | exact wrap_in ⟨by omega, by omega⟩
                refine wpAnyH_ready (rs := [9]) (by kernel_rfl) (by simp) ?_
                refine AllReadyH.wrp rfl (by kernel_rfl) (fun K hK => ?_) (AllReadyH.nil)
                refine h_call ?_
                go_simp
                refine (HAG.out (1 + m) _ (HS2.out.keep hS)).mono ?_
                rintro y V2 ⟨rfl, hb⟩
                go_simp
                refine hK.out _ _ (hS.trans hb) (fun hS => ?_)
                clear hK K
                refine wpAnyH_take (i := 10) (v := .tuple #[entV (againE S 0 (1 + m) addO), .int .i64 (againErr S 0 (1 + m) addO)]) rfl (by kernel_rfl) (by kernel_rfl) (by kernel_rfl) (fun _ _ _ h => h) (Or.inl ⟨by kernel_rfl, fun w _ => by kernel_rfl⟩) hS ?_
                refine wpAnyH_take (i := 11) (v := entV (againE S 0 (1 + m) addO)) rfl (by kernel_rfl) (by kernel_rfl) (by kernel_rfl) (fun _ _ _ h => h) (Or.inl ⟨by kernel_rfl, fun w _ => by kernel_rfl⟩) hS ?_
                refine wpAnyH_take (i := 12) (v := .int .i64 (againErr S 0 (1 + m) addO)) rfl (by kernel_rfl) (by kernel_rfl) (by kernel_rfl) (fun _ _ _ h => h) (Or.inl ⟨by kernel_rfl, fun w _ => by kernel_rfl⟩) hS ?_
                refine wpAnyH_ready (rs := [14]) (by kernel_rfl) (by simp) ?_
                refine AllReadyH.wrp rfl (by kernel_rfl) (fun K hK => ?_) (AllReadyH.nil)
                refine h_storeE rfl zb (by kernel_rfl) (againE S 0 (1 + m) addO) (by kernel_rfl) (hBz.keep hb (Nat.le_of_ble_eq_true rfl)) rfl ?_
                intro V4 hS4 hT4
                refine hK.out _ _ (But.to hS hzg hT4) (fun hS => ?_)
                clear hK K
                refine wpAnyH_take (i := 15) (v := .int .i64 (againErr S 0 (1 + m) addO)) rfl (by kernel_rfl) (by kernel_rfl) (by kernel_rfl) (fun _ _ _ h => h) (Or.inl ⟨by kernel_rfl, fun w _ => by kernel_rfl⟩) hS ?_
                refine wpAnyH_done (by kernel_rfl) ?_ _
                go_wp2_with fail
                go_meet
                exact ⟨zb, 1 + m, rfl, rfl, hS4, hS⟩
            case rest =>
              obtain ⟨zb, n, rfl, rfl, hZ, hk⟩ := hcut
              generalize wc = v3 at *
              have HS3 : Hid (Std w v3 sb (.slice la L.length lc) (.slice sa T.length sc) (.slice ca S.came.length cc) (L) (T) (S)) := HS2.out.keep hk
              have HE3 : Hid (CBox zb (E9 (againE S 0 n addO)) v3) := hZ
              have HPA2 := (show Hid _ from HPA.out n)
              clear hZ hk HAG HPA
              generalize againE S 0 n addO = e1 at *
              generalize againErr S 0 n addO = er1 at *
              cases q : (er1 == 0) with
              | false =>
                have q' : (er1 != 0) = true := by simp [bne, q]
                go_wp2_with fail
                go_roundw
                case rel => exact ⟨k + 1, L, T, S, la, lc, sa, sc, ca, cc, by first | rfl | simp, by first | rfl | simp, by go_num, by omega, by first | omega | (simp only [List.length_append, List.length_cons, List.length_nil]; omega), by first | omega | (simp only [List.length_append, List.length_cons, List.length_nil]; omega), HS3, HON⟩
                case measure => simp [intOf]; omega
              | true =>
                have q0 : er1 = 0 := by simpa using q
                have HO1 := (show Hid _ from HPA2.out q0)
                go_wp2_with (first | (refine loadE rfl rfl zb rfl HE3.out ?_) | (refine app_en rfl _ _ rfl w.heap.size (Nat.le_trans HS3.out.keeps.size (by simp)) (.slice sa T.length sc) T rfl (owns_keep HS3.out.t ((Keeps.refl _).alloc _)) e1 ⟨v3.heap.size, 0, none⟩ 1 rfl (ent_row v3 e1) (by omega) ?_; intro ua uc v9 hO9 hG9))
                have HD9 : Hid (Std w v9 sb (.slice la L.length lc) (.slice ua (T.length + 1) uc) (.slice ca S.came.length cc) (L) (T ++ [e1]) (S)) := (HS3.out.keep ((Keeps.refl _).alloc _)).growT hO9 hG9
                clear hO9 hG9
                go_roundw
                case rel => exact ⟨k + 1, L, T ++ [e1], S, la, lc, ua, uc, ca, cc, by first | rfl | simp, by first | rfl | simp, by go_num, by omega, by first | omega | (simp only [List.length_append, List.length_cons, List.length_nil]; omega), by first | omega | (simp only [List.length_append, List.length_cons, List.length_nil]; omega), (show Hid _ from by show Std _ _ _ _ _ _ _ _ _; rw [List.length_append]; exact HD9.out), HO1⟩
                case measure => simp [intOf]; omega
          · have rn0 : (r == 0) = false := beq_false_of_ne r0
            have rn1 : (r == 1) = false := beq_false_of_ne r1
            by_cases ht0 : T.length = 0
            · have htb : ((T.length : Int) == 0) = true := by rw [ht0]; rfl
              clear ht0
              go_wp2_with fail
              go_roundw
              case rel => exact ⟨k + 1, L, T, S, la, lc, sa, sc, ca, cc, by first | rfl | simp, by first | rfl | simp, by go_num, by omega, by first | omega | (simp only [List.length_append, List.length_cons, List.length_nil]; omega), by first | omega | (simp only [List.length_append, List.length_cons, List.length_nil]; omega), HS2, HON⟩
              case measure => simp [intOf]; omega
            · have htb : ((T.length : Int) == 0) = false := beq_false_of_ne (by omega)
              have hwq := wrap_in HX4.out
              have hc2 := HC2.out
              have hl2 := World.block_lt_of_cell? _ _ hc2
              simp only [] at hl2
              go_wp2_with fail
              clear hc2 hl2
              refine (choose_n (X.tdiv 4) T.length v2 HX4.out.1 HX4.out.2 (by omega) (by omega)).mono ?_
              rintro y _ ⟨rm, hm0, hm1, rfl, rfl⟩
              obtain ⟨m, rfl⟩ : ∃ m : Nat, rm = m := ⟨rm.toNat, by omega⟩
              have hm : m < T.length := by omega
              obtain ⟨gb, go_, gcap, hv, t0, t1, t2, t3, t4, t5, t6, t7, t8⟩ := EntsAt.at (show EntsAt v2 (.slice sa T.length sc) T from RowAt.of_owns HS2.out.t) hm
              injection hv with hv1 hv2 hv3
              subst hv1
              clear hv2 hv3
              have HPU := (show Hid _ from once_put HON.out (List.getElem_mem hm) (by omega))
              generalize T[m] = e at *
              have tl := World.block_lt_of_cell? _ _ t0
              simp only [] at tl
              go_wp2_with (first | (refine allocE rfl rfl ?_; intro v3 eb hBe hke hle hge) | (refine storeE rfl rfl eb rfl e rfl hBe rfl ?_; intro W1 hS4 hT4))
              have k24 : Keeps v2 W1 := But.to hke hge hT4
              have HS4 : Hid (Std w W1 sb (.slice la L.length lc) (.slice (some ⟨gb, go_, none⟩) T.length sc) (.slice ca S.came.length cc) L T S) := HS2.out.keep k24
              have HE1 : Hid (CBox eb (E9 e) W1) := hS4
              have HEB : Hid (sb < eb) := by have h1 := HS2.out.sbl; show _ < _; omega
              have HEL0 : Hid ((Value.slice la L.length lc).ownBlock ≠ some eb) := fun h => by have h1 := (owns_lt HS2.out.l h).2; omega
              have HL1 : Hid (EntsAt W1 (.slice la L.length lc) L) := RowAt.of_owns HS4.out.l
              clear k24 hBe hke hle hge hS4 hT4 t0 t1 t2 t3 t4 t5 t6 t7 t8 tl HS2 HC2 HO2 HX4 HNX HAG HPN HPA
              obtain ⟨A, hA⟩ : ∃ A, A = allAns zeroSt (L ++ [e]) := ⟨_, rfl⟩
              obtain ⟨SS, hSS⟩ : ∃ SS, SS = allSt zeroSt (L ++ [e]) := ⟨_, rfl⟩
              have HAll : Hid (∀ W v, EntsAt W v (L ++ [e]) → Calls Try.prog 18 #[stV zeroSt (.slice none 0 0), v] W fun y w' => ∃ qa qn qc ra rc, w'.ownsRow W.heap.size 3 1 (.slice ra A.length rc) A.length (intCells A) ∧ y = .returned (.tuple #[stV SS (.slice qa qn qc), .slice ra A.length rc, .int .i64 0]) ∧ Keeps W w') := by
                intro W v hv
                have h0 := HPU.out.2.1
                have := fold_all zeroSt (L ++ [e]) (.slice none 0 0) v W (OwnTab.nil 0 _).tab hv
                rw [h0, ← hA, ← hSS] at this
                refine this.mono ?_
                rintro y w' ⟨x', av, hT, hr, rfl, hb⟩
                obtain ⟨qa, qc, rfl, _⟩ := hT.tab.len
                obtain ⟨ra, rc, rfl, _⟩ := (RowAt.of_owns hr).len
                exact ⟨qa, _, qc, ra, rc, hr, rfl, hb⟩
              have HA : Hid (A = runAns zeroSt L ++ [oneAns (runSt zeroSt L) e]) := hA.trans HPU.out.2.2.1
              clear hA hSS
              have HAl : Hid (A.length = L.length + 1) := by show _ = _; rw [HA.out]; simp [runAns_len]
              go_simp
              go_cut [15, 16] (fun p q wc => ∃ ra rc, p = .slice ra A.length rc ∧ q = .int .i64 0 ∧ wc.ownsRow W1.heap.size 3 1 (.slice ra A.length rc) A.length (intCells A) ∧ Keeps W1 wc)
              case first =>
                obtain ⟨base, hbase⟩ : ∃ z, z = W1.heap.size := ⟨_, rfl⟩
                have HBS : Hid (base = W1.heap.size) := hbase
                clear hbase
                refine wp_region_grow [some 63, some 64, some 65, some 66, some 67, some 68, some 69, some 70, some 62, some 71, some 72, some 73, some 14, none, some 15, some 16] [
                  Pr.is (stV zeroSt (.slice none 0 0)),
                  ⟨fun v W => ∃ b, v = .slice (some ⟨b, 0, none⟩) 0 0 ∧ W.ownsRow base 28 9 (.slice (some ⟨b, 0, none⟩) 0 0) 0 [], fun v W W' ⟨b, h1, h2⟩ hk => ⟨b, h1, owns_keep h2 hk⟩⟩,
                  Pr.is (.slice la L.length lc),
                  ⟨fun v W => W.ownsRow base 28 9 v L.length (entCells L), fun v W W' h hk => owns_keep h hk⟩,
                  Pr.is (entV e),
                  ⟨fun v W => EntsAt W v [e], fun v W W' h hk => h.keep hk⟩,
                  ⟨fun v W => EntsAt W v (L ++ [e]), fun v W W' h hk => h.keep hk⟩,
                  ⟨fun v W => ∃ qa qn qc ra rc, W.ownsRow base 3 1 (.slice ra A.length rc) A.length (intCells A) ∧ v = .tuple #[stV SS (.slice qa qn qc), .slice ra A.length rc, .int .i64 0], fun v W W' ⟨qa, qn, qc, ra, rc, h1, h2⟩ hk => ⟨qa, qn, qc, ra, rc, owns_keep h1 hk, h2⟩⟩,
                  ⟨fun v W => ∃ qa qn qc ra rc, W.ownsRow base 3 1 (.slice ra A.length rc) A.length (intCells A) ∧ v = .tuple #[stV SS (.slice qa qn qc), .slice ra A.length rc, .int .i64 0], fun v W W' ⟨qa, qn, qc, ra, rc, h1, h2⟩ hk => ⟨qa, qn, qc, ra, rc, owns_keep h1 hk, h2⟩⟩,
                  ⟨fun v W => ∃ qa qn qc, v = stV SS (.slice qa qn qc), fun v W W' h hk => h⟩,
                  ⟨fun v W => ∃ ra rc, W.ownsRow base 3 1 (.slice ra A.length rc) A.length (intCells A) ∧ v = .slice ra A.length rc, fun v W W' ⟨ra, rc, h1, h2⟩ hk => ⟨ra, rc, owns_keep h1 hk, h2⟩⟩,
                  Pr.is (.int .i64 0),
                  ⟨fun v W => ∃ b, v = .pointer (some ⟨b, 0, none⟩) ∧ base ≤ b ∧ W.heap[b]? = some (.cells #[.int .i64 0, .int .i64 0, .int .i64 0, .int .i64 0, .int .i64 0, .int .i64 0, .slice none 0 0] 47 (0, 0)), fun v W W' ⟨b, h1, h2, h3⟩ hk => ⟨b, h1, h2, (hk.block b (Array.getElem?_eq_some_iff.1 h3).1).trans h3⟩⟩,
                  Pr.any,
                  ⟨fun v W => ∃ ra rc, W.ownsRow base 3 1 (.slice ra A.length rc) A.length (intCells A) ∧ v = .slice ra A.length rc, fun v W W' ⟨ra, rc, h1, h2⟩ hk => ⟨ra, rc, owns_keep h1 hk, h2⟩⟩,
                  Pr.is (.int .i64 0)] [⟨6, [1, 3, 5], (fun (W W' : World) => ∀ (b : Nat) (c : Array Value) (f : Nat × Nat), W.heap[b]? = some (Obj.cells c 47 f) → W'.heap[b]? = some (Obj.cells c 47 f))⟩, ⟨13, [1, 3, 5, 6, 12], (fun (W W' : World) => ∃ (b : Nat) (c : Array Value) (f : Nat × Nat), W.heap[b]? = some (Obj.cells c 47 f) ∧ But b W W')⟩] (by kernel_rfl) (by kernel_rfl) (by kernel_rfl) (by kernel_rfl) ?_ ?_ ?_
                · intro i hi
                  match i, hi with
                  | 0, _ =>
                    intro vs W hk hR K hK
                    have hbW : base ≤ W.heap.size := by have h1 : W1.heap.size ≤ W.heap.size := hk.size; have h2 := HBS.out; omega
                    go_simp
                    refine (begin_c W).mono ?_
                    rintro y W' ⟨rfl, hb⟩
                    go_simp
                    refine hK.out _ (stV zeroSt (.slice none 0 0)) _ (by kernel_rfl) ?_ ?_
                    · exact Fr.of (by simp) hk (hb)
                    · exact rfl
                  | 1, _ =>
                    intro vs W hk hR K hK
                    have hbW : base ≤ W.heap.size := by have h1 : W1.heap.size ≤ W.heap.size := hk.size; have h2 := HBS.out; omega
                    go_simp
                    refine hK.out _ (.slice (some ⟨W.heap.size, 0, none⟩) 0 0) _ (by kernel_rfl) ?_ ?_
                    · exact Fr.of (by simp) hk (((Keeps.refl _).alloc _))
                    · exact ⟨W.heap.size, rfl, World.ownsRow_made (base := base) (e := 28) (size := 9) W #[] 0 hbW (by unfold maxLen; omega) rfl⟩
                  | 2, _ =>
                    intro vs W hk hR K hK
                    have hbW : base ≤ W.heap.size := by have h1 : W1.heap.size ≤ W.heap.size := hk.size; have h2 := HBS.out; omega
                    go_simp
                    refine hK.out _ (.slice la L.length lc) _ (by kernel_rfl) ?_ ?_
                    · exact Fr.of (by simp) hk ((Keeps.refl _))
                    · exact rfl
                  | 3, _ =>
                    intro vs W hk hR K hK
                    have hbW : base ≤ W.heap.size := by have h1 : W1.heap.size ≤ W.heap.size := hk.size; have h2 := HBS.out; omega
                    have HX : ∃ b, vs 1 = .slice (some ⟨b, 0, none⟩) 0 0 ∧ W.ownsRow base 28 9 (.slice (some ⟨b, 0, none⟩) 0 0) 0 [] := hR 1 (by kernel_rfl)
                    refine Bx.out ?_
                    refine Exists.elim HX (fun b1 HX => ?_)
                    have h1 := HX.1
                    have ho1 := HX.2
                    refine ⟨?_⟩
                    have h2 : vs 2 = .slice la L.length lc := hR 2 (by kernel_rfl)
                    simp only [fillL, Nat.zero_add, Nat.reduceAdd, h1, h2] at hK ⊢
                    obtain ⟨v', V2, hr, ho, hkk⟩ := run_append_bare W base b1 ho1 (.slice la L.length lc) L.length (entCells L) (HL1.out.keep ((Keeps.refl _).drew.trans hk)) (entCells_one _) (by unfold maxLen; omega) (by omega) hbW 42
                    simp only [List.getElem?_cons_succ, List.getElem?_cons_zero]
                    refine step_append_run rfl _ _ 42 rfl (by simp [Act.eval, Act.put]) (by simp [Act.eval, Act.put]) hr ?_
                    refine hK.out _ (v') _ (by kernel_rfl) ?_ ?_
                    · exact Fr.of (by simp) hk (hkk)
                    · exact ho
                  | 4, _ =>
                    intro vs W hk hR K hK
                    have hbW : base ≤ W.heap.size := by have h1 : W1.heap.size ≤ W.heap.size := hk.size; have h2 := HBS.out; omega
                    have EB := HE1.out.keep ((Keeps.refl _).drew.trans hk) (Nat.le_of_ble_eq_true rfl)
                    have e0 : W.cell? ⟨eb, 0, none⟩ = some (.int .i64 e.kind) := EB.1 0 _ rfl
                    have e1 : W.cell? ⟨eb, 1, none⟩ = some (.int .i64 e.time) := EB.1 1 _ rfl
                    have e2 : W.cell? ⟨eb, 2, none⟩ = some (.int .i64 e.client) := EB.1 2 _ rfl
                    have e3 : W.cell? ⟨eb, 3, none⟩ = some (.int .i64 e.seq) := EB.1 3 _ rfl
                    have e4 : W.cell? ⟨eb, 4, none⟩ = some (.int .i64 e.ack) := EB.1 4 _ rfl
                    have e5 : W.cell? ⟨eb, 5, none⟩ = some (.int .i64 e.ok) := EB.1 5 _ rfl
                    have e6 : W.cell? ⟨eb, 6, none⟩ = some (.int .i64 e.okey) := EB.1 6 _ rfl
                    have e7 : W.cell? ⟨eb, 7, none⟩ = some (.int .i64 e.oto) := EB.1 7 _ rfl
                    have e8 : W.cell? ⟨eb, 8, none⟩ = some (.int .i64 e.on) := EB.1 8 _ rfl
                    have el := EB.lt (Nat.le_of_ble_eq_true rfl)
                    clear EB
                    simp only [fillL, Nat.zero_add, Nat.reduceAdd] at hK ⊢
                    go_simp
                    refine hK.out _ (entV e) _ (by kernel_rfl) ?_ ?_
                    · exact Fr.of (by simp) hk ((Keeps.refl _))
                    · exact rfl
                  | 5, _ =>
                    intro vs W hk hR K hK
                    have hbW : base ≤ W.heap.size := by have h1 : W1.heap.size ≤ W.heap.size := hk.size; have h2 := HBS.out; omega
                    have h4 : vs 4 = entV e := hR 4 (by kernel_rfl)
                    simp only [fillL, Nat.zero_add, Nat.reduceAdd, h4] at hK ⊢
                    go_simp
                    refine hK.out _ (.slice (some ⟨W.heap.size, 0, none⟩) 1 1) _ (by kernel_rfl) ?_ ?_
                    · exact Fr.of (by simp) hk (((Keeps.refl _).alloc _))
                    · exact EntsAt.new W [e] (by simp) 1
                  | 6, _ =>
                    intro vs W hk hR K hK
                    have hbW : base ≤ W.heap.size := by have h1 : W1.heap.size ≤ W.heap.size := hk.size; have h2 := HBS.out; omega
                    have h3 : W.ownsRow base 28 9 (vs 3) L.length (entCells L) := hR 3 (by kernel_rfl)
                    have h5 : EntsAt W (vs 5) [e] := hR 5 (by kernel_rfl)
                    simp only [fillL, Nat.zero_add, Nat.reduceAdd] at hK ⊢
                    obtain ⟨v', V2, hr, ho, hg⟩ := run_append_read W base 42 42 28 9 72 _ infoEnt Try.underlying42 rfl (by decide) (vs 3) L.length (entCells L) h3 (vs 5) 1 (entCells [e]) (h5) (entCells_one _) (by unfold maxLen; omega) (by omega) hbW
                    simp only [List.getElem?_cons_succ, List.getElem?_cons_zero]
                    refine step_append_run rfl _ _ 42 rfl (by simp [Act.eval, Act.put]) (by simp [Act.eval, Act.put]) hr ?_
                    have hke : Keeps W1.drew V2 := keeps_grown hk hg (fun g h => by have h1 := (h3.lt g h).1; have h2 := HBS.out; show W1.heap.size ≤ g; omega)
                    have hF : ∀ (b : Nat) (c : Array Value) (f : Nat × Nat), W.heap[b]? = some (Obj.cells c 47 f) → V2.heap[b]? = some (Obj.cells c 47 f) := fun b c f hb => (hg.block b (Array.getElem?_eq_some_iff.1 hb).1 (fun e' => owns_not h3 hb (by decide) e'.symm)).trans hb
                    have hx : EntsAt V2 v' (L ++ [e]) := by
                      have := RowAt.of_owns ho
                      rw [← entCells_append] at this
                      simpa [EntsAt] using this
                    refine hK.out _ (v') _ (by kernel_rfl) ?_ ?_
                    · refine ⟨fun h => absurd rfl (h _ (List.mem_cons_self ..)), hke, fun x hx e => ?_⟩
                      rcases List.mem_cons.1 hx with rfl | hx
                      · exact hF
                      · rcases List.mem_cons.1 hx with rfl | hx
                        · exact absurd e (by decide)
                        · cases hx
                    · exact hx
                  | 7, _ =>
                    intro vs W hk hR K hK
                    have hbW : base ≤ W.heap.size := by have h1 : W1.heap.size ≤ W.heap.size := hk.size; have h2 := HBS.out; omega
                    have h0 : vs 0 = stV zeroSt (.slice none 0 0) := hR 0 (by kernel_rfl)
                    have h6 : EntsAt W (vs 6) (L ++ [e]) := hR 6 (by kernel_rfl)
                    simp only [fillL, Nat.zero_add, Nat.reduceAdd, h0] at hK ⊢
                    go_simp
                    refine (HAll.out W (vs 6) h6).mono ?_
                    rintro y W' ⟨qa, qn, qc, ra, rc, hI, rfl, hb⟩
                    go_simp
                    refine hK.out _ (.tuple #[stV SS (.slice qa qn qc), .slice ra A.length rc, .int .i64 0]) _ (by kernel_rfl) ?_ ?_
                    · exact Fr.of (by simp) hk (hb)
                    · exact ⟨qa, qn, qc, ra, rc, owns_base hI hbW, rfl⟩
                  | 8, _ =>
                    intro vs W hk hR K hK
                    have hbW : base ≤ W.heap.size := by have h1 : W1.heap.size ≤ W.heap.size := hk.size; have h2 := HBS.out; omega
                    have h7 := hR 7 (by kernel_rfl)
                    simp only [fillL, Nat.zero_add, Nat.reduceAdd] at hK ⊢
                    go_simp
                    refine hK.out _ (vs 7) _ (by kernel_rfl) ?_ ?_
                    · exact Fr.of (by simp) hk ((Keeps.refl _))
                    · exact h7
                  | 9, _ =>
                    intro vs W hk hR K hK
                    have hbW : base ≤ W.heap.size := by have h1 : W1.heap.size ≤ W.heap.size := hk.size; have h2 := HBS.out; omega
                    have HX : ∃ qa qn qc ra rc, W.ownsRow base 3 1 (.slice ra A.length rc) A.length (intCells A) ∧ vs 8 = .tuple #[stV SS (.slice qa qn qc), .slice ra A.length rc, .int .i64 0] := hR 8 (by kernel_rfl)
                    refine Bx.out ?_
                    refine Exists.elim HX (fun qa HX => ?_)
                    refine Exists.elim HX (fun qn HX => ?_)
                    refine Exists.elim HX (fun qc HX => ?_)
                    refine Exists.elim HX (fun ra HX => ?_)
                    refine Exists.elim HX (fun rc HX => ?_)
                    have hI := HX.1
                    have h8 := HX.2
                    refine ⟨?_⟩
                    simp only [fillL, Nat.zero_add, Nat.reduceAdd, h8] at hK ⊢
                    go_simp
                    refine hK.out _ (stV SS (.slice qa qn qc)) _ (by kernel_rfl) ?_ ?_
                    · exact Fr.of (by simp) hk ((Keeps.refl _))
                    · exact ⟨qa, qn, qc, rfl⟩
                  | 10, _ =>
                    intro vs W hk hR K hK
                    have hbW : base ≤ W.heap.size := by have h1 : W1.heap.size ≤ W.heap.size := hk.size; have h2 := HBS.out; omega
                    have HX : ∃ qa qn qc ra rc, W.ownsRow base 3 1 (.slice ra A.length rc) A.length (intCells A) ∧ vs 8 = .tuple #[stV SS (.slice qa qn qc), .slice ra A.length rc, .int .i64 0] := hR 8 (by kernel_rfl)
                    refine Bx.out ?_
                    refine Exists.elim HX (fun qa HX => ?_)
                    refine Exists.elim HX (fun qn HX => ?_)
                    refine Exists.elim HX (fun qc HX => ?_)
                    refine Exists.elim HX (fun ra HX => ?_)
                    refine Exists.elim HX (fun rc HX => ?_)
                    have hI := HX.1
                    have h8 := HX.2
                    refine ⟨?_⟩
                    simp only [fillL, Nat.zero_add, Nat.reduceAdd, h8] at hK ⊢
                    go_simp
                    refine hK.out _ (.slice ra A.length rc) _ (by kernel_rfl) ?_ ?_
                    · exact Fr.of (by simp) hk ((Keeps.refl _))
                    · exact ⟨ra, rc, hI, rfl⟩
                  | 11, _ =>
                    intro vs W hk hR K hK
                    have hbW : base ≤ W.heap.size := by have h1 : W1.heap.size ≤ W.heap.size := hk.size; have h2 := HBS.out; omega
                    have HX : ∃ qa qn qc ra rc, W.ownsRow base 3 1 (.slice ra A.length rc) A.length (intCells A) ∧ vs 8 = .tuple #[stV SS (.slice qa qn qc), .slice ra A.length rc, .int .i64 0] := hR 8 (by kernel_rfl)
                    refine Bx.out ?_
                    refine Exists.elim HX (fun qa HX => ?_)
                    refine Exists.elim HX (fun qn HX => ?_)
                    refine Exists.elim HX (fun qc HX => ?_)
                    refine Exists.elim HX (fun ra HX => ?_)
                    refine Exists.elim HX (fun rc HX => ?_)
                    have hI := HX.1
                    have h8 := HX.2
                    refine ⟨?_⟩
                    simp only [fillL, Nat.zero_add, Nat.reduceAdd, h8] at hK ⊢
                    go_simp
                    refine hK.out _ (.int .i64 0) _ (by kernel_rfl) ?_ ?_
                    · exact Fr.of (by simp) hk ((Keeps.refl _))
                    · exact rfl
                  | 12, _ =>
                    intro vs W hk hR K hK
                    have hbW : base ≤ W.heap.size := by have h1 : W1.heap.size ≤ W.heap.size := hk.size; have h2 := HBS.out; omega
                    go_simp
                    refine hK.out _ (.pointer (some ⟨W.heap.size, 0, none⟩)) _ (by kernel_rfl) ?_ ?_
                    · exact Fr.of (by simp) hk (((Keeps.refl _).alloc _))
                    · exact ⟨W.heap.size, rfl, hbW, heap_alloc_new W _⟩
                  | 13, _ =>
                    intro vs W hk hR K hK
                    have hbW : base ≤ W.heap.size := by have h1 : W1.heap.size ≤ W.heap.size := hk.size; have h2 := HBS.out; omega
                    have HX : ∃ qa qn qc, vs 9 = stV SS (.slice qa qn qc) := hR 9 (by kernel_rfl)
                    refine Bx.out ?_
                    refine Exists.elim HX (fun qa HX => ?_)
                    refine Exists.elim HX (fun qn HX => ?_)
                    refine Exists.elim HX (fun qc HX => ?_)
                    have h9 := HX
                    refine ⟨?_⟩
                    have HY : ∃ b, vs 12 = .pointer (some ⟨b, 0, none⟩) ∧ base ≤ b ∧ W.heap[b]? = some (.cells #[.int .i64 0, .int .i64 0, .int .i64 0, .int .i64 0, .int .i64 0, .int .i64 0, .slice none 0 0] 47 (0, 0)) := hR 12 (by kernel_rfl)
                    refine Bx.out ?_
                    refine Exists.elim HY (fun b HY => ?_)
                    have h12 := HY.1
                    have hb1 := HY.2.1
                    have hb2 := HY.2.2
                    refine ⟨?_⟩
                    simp only [fillL, Nat.zero_add, Nat.reduceAdd, h9, h12] at hK ⊢
                    have ZB := stbox_of hb2
                    have z0 := ZB.c0
                    have z1 := ZB.c1
                    have z2 := ZB.c2
                    have z3 := ZB.c3
                    have z4 := ZB.c4
                    have z5 := ZB.c5
                    have z6 := ZB.c6
                    have zf := ZB.fz
                    have zl := ZB.lt
                    go_simp
                    have BT := But.puts (b := b) W SS (.slice qa qn qc)
                    refine hK.out _ undef _ (by kernel_rfl) ?_ trivial
                    refine ⟨fun h => absurd rfl (h _ (List.mem_cons_of_mem _ (List.mem_cons_self ..))), But.to hk (by show W1.heap.size ≤ b; have h2 := HBS.out; omega) BT, fun x hx e => ?_⟩
                    rcases List.mem_cons.1 hx with rfl | hx
                    · exact absurd e (by decide)
                    · rcases List.mem_cons.1 hx with rfl | hx
                      · exact ⟨b, _, _, hb2, BT⟩
                      · cases hx
                  | 14, _ =>
                    intro vs W hk hR K hK
                    have hbW : base ≤ W.heap.size := by have h1 : W1.heap.size ≤ W.heap.size := hk.size; have h2 := HBS.out; omega
                    have HX : ∃ ra rc, W.ownsRow base 3 1 (.slice ra A.length rc) A.length (intCells A) ∧ vs 10 = .slice ra A.length rc := hR 10 (by kernel_rfl)
                    refine Bx.out ?_
                    refine Exists.elim HX (fun ra HX => ?_)
                    refine Exists.elim HX (fun rc HX => ?_)
                    have hI := HX.1
                    have h10 := HX.2
                    refine ⟨?_⟩
                    simp only [fillL, Nat.zero_add, Nat.reduceAdd, h10] at hK ⊢
                    go_simp
                    refine hK.out _ (.slice ra A.length rc) _ (by kernel_rfl) ?_ ?_
                    · exact Fr.of (by simp) hk ((Keeps.refl _))
                    · exact ⟨ra, rc, hI, rfl⟩
                  | 15, _ =>
                    intro vs W hk hR K hK
                    have hbW : base ≤ W.heap.size := by have h1 : W1.heap.size ≤ W.heap.size := hk.size; have h2 := HBS.out; omega
                    have h11 : vs 11 = .int .i64 0 := hR 11 (by kernel_rfl)
                    simp only [fillL, Nat.zero_add, Nat.reduceAdd, h11] at hK ⊢
                    go_simp
                    refine hK.out _ (.int .i64 0) _ (by kernel_rfl) ?_ ?_
                    · exact Fr.of (by simp) hk ((Keeps.refl _))
                    · exact rfl
                  | k + 16, h => exact absurd h (by simp)
                · intro x hx j hj hd hn hr v W W' hp hf
                  rcases List.mem_cons.1 hx with rfl | hx
                  · match j, hj with
                    | 0, _ => exact hp
                    | 1, _ => exact absurd (by decide) hd
                    | 2, _ => exact hp
                    | 3, _ => exact absurd (by decide) hd
                    | 4, _ => exact hp
                    | 5, _ => exact absurd (by decide) hd
                    | 6, _ => exact absurd rfl hn
                    | 7, _ => exact absurd hr (by rw [show reachB _ _ 7 6 = true from by kernel_rfl]; decide)
                    | 8, _ => exact absurd hr (by rw [show reachB _ _ 8 6 = true from by kernel_rfl]; decide)
                    | 9, _ => exact absurd hr (by rw [show reachB _ _ 9 6 = true from by kernel_rfl]; decide)
                    | 10, _ => exact absurd hr (by rw [show reachB _ _ 10 6 = true from by kernel_rfl]; decide)
                    | 11, _ => exact absurd hr (by rw [show reachB _ _ 11 6 = true from by kernel_rfl]; decide)
                    | 12, _ =>
                      obtain ⟨b, h1, h2, h3⟩ := hp
                      exact ⟨b, h1, h2, hf b _ _ h3⟩
                    | 13, _ => trivial
                    | 14, _ => exact absurd hr (by rw [show reachB _ _ 14 6 = true from by kernel_rfl]; decide)
                    | 15, _ => exact absurd hr (by rw [show reachB _ _ 15 6 = true from by kernel_rfl]; decide)
                    | k + 16, h => exact absurd h (by simp)
                  · rcases List.mem_cons.1 hx with rfl | hx
                    · obtain ⟨b, c, f, hb, hbt⟩ := hf
                      match j, hj with
                      | 0, _ => exact hp
                      | 1, _ => exact absurd (by decide) hd
                      | 2, _ => exact hp
                      | 3, _ => exact absurd (by decide) hd
                      | 4, _ => exact hp
                      | 5, _ => exact absurd (by decide) hd
                      | 6, _ => exact absurd (by decide) hd
                      | 7, _ =>
                        obtain ⟨qa, qn, qc, ra, rc, h1, h2⟩ := hp
                        exact ⟨qa, qn, qc, ra, rc, owns_typed h1 hb (by decide) hbt, h2⟩
                      | 8, _ =>
                        obtain ⟨qa, qn, qc, ra, rc, h1, h2⟩ := hp
                        exact ⟨qa, qn, qc, ra, rc, owns_typed h1 hb (by decide) hbt, h2⟩
                      | 9, _ => exact hp
                      | 10, _ =>
                        obtain ⟨ra, rc, h1, h2⟩ := hp
                        exact ⟨ra, rc, owns_typed h1 hb (by decide) hbt, h2⟩
                      | 11, _ => exact hp
                      | 12, _ => exact absurd (by decide) hd
                      | 13, _ => exact absurd rfl hn
                      | 14, _ =>
                        obtain ⟨ra, rc, h1, h2⟩ := hp
                        exact ⟨ra, rc, owns_typed h1 hb (by decide) hbt, h2⟩
                      | 15, _ => exact hp
                      | k + 16, h => exact absurd h (by simp)
                    · cases hx
                · intro vs W hk hR
                  have H14 : ∃ ra rc, W.ownsRow base 3 1 (.slice ra A.length rc) A.length (intCells A) ∧ vs 14 = .slice ra A.length rc := hR 14 (by decide) (by simp)
                  have h15 : vs 15 = .int .i64 0 := hR 15 (by decide) (by simp)
                  refine Exists.elim H14 (fun ra H14 => ?_)
                  refine Exists.elim H14 (fun rc H14 => ?_)
                  have hI := H14.1
                  have h14 := H14.2
                  clear H14
                  simp only [fillL, Nat.zero_add, Nat.reduceAdd, h14, h15]
                  go_simp
                  go_wp2_with fail
                  go_meet
                  exact ⟨ra, rc, rfl, rfl, (by rw [← HBS.out]; exact hI), (Keeps.refl _).drew.trans hk⟩
              case rest =>
                have hAl := HAl.out
                obtain ⟨ra, rc, rfl, rfl, hI, hk⟩ := hcut
                generalize wc = v5 at *
                have HS5 : Hid (Std w v5 sb (.slice la L.length lc) (.slice (some ⟨gb, go_, none⟩) T.length sc) (.slice ca S.came.length cc) L T S) := HS4.out.keep hk
                have HE5 : Hid (CBox eb (E9 e) v5) := HE1.out.keep hk (Nat.le_of_ble_eq_true rfl)
                have HI5 : Hid (v5.ownsRow W1.heap.size 3 1 (.slice ra (L.length + 1) rc) (L.length + 1) (intCells A)) := by show World.ownsRow _ _ _ _ _ _ _; rw [← hAl]; exact hI
                have HLB : Hid (∀ g, (Value.slice la L.length lc).ownBlock = some g → g < W1.heap.size) := fun g h => (owns_lt HS4.out.l h).2
                have HEL : Hid ((Value.slice la L.length lc).ownBlock ≠ some eb) := HEL0
                clear hI hk HAll HL1 HS4 HE1 HEL0
                rw [hAl]
                obtain ⟨an, han⟩ : ∃ an, an = oneAns (runSt zeroSt L) e := ⟨_, rfl⟩
                rw [← han] at HPU HA
                clear han
                by_cases hge : -1 ≤ an
                · have ha' : decide (an < -1) = false := by simp; omega
                  go_wp2_with (first | (refine loadE rfl rfl eb rfl HE5.out ?_) | (refine app_en rfl _ _ rfl w.heap.size (Nat.le_trans HS5.out.keeps.size (by simp)) (.slice la L.length lc) L rfl (owns_keep HS5.out.l ((Keeps.refl _).alloc _)) e ⟨v5.heap.size, 0, none⟩ 1 rfl (ent_row v5 e) (by omega) ?_; intro ua uc v6 hO6 hG6; have hI6 : v6.ownsRow W1.heap.size 3 1 (.slice ra (L.length + 1) rc) (L.length + 1) (intCells A) := owns_grown (owns_keep HI5.out ((Keeps.refl _).alloc _)) hG6 (fun g h h2 => by have h3 := HLB.out g h2; have h4 := (owns_lt HI5.out h).1; omega); obtain ⟨ab, aoff, acap, hav, hac⟩ := last_at hI6 HA.out; injection hav with hav1 hav2 hav3; subst hav1; clear hav2 hav3; have al := World.block_lt_of_cell? _ _ hac; simp only [] at al; have hD6 : Std w v6 sb (.slice ua (L.length + 1) uc) (.slice (some ⟨gb, go_, none⟩) T.length sc) (.slice ca S.came.length cc) (L ++ [e]) T S := (HS5.out.keep ((Keeps.refl _).alloc _)).growL hO6 hG6; have hE6 : CBox eb (E9 e) v6 := (HE5.out.keep ((Keeps.refl _).alloc _) (Nat.le_of_ble_eq_true rfl)).same (hG6.grown.block eb (Nat.lt_of_lt_of_le (HE5.out.lt (Nat.le_of_ble_eq_true rfl)) (by simp)) (fun h => HEL.out h.symm)); have e3 : v6.cell? ⟨eb, 3, none⟩ = some (.int .i64 e.seq) := hE6.1 3 _ rfl; have el := hE6.lt (Nat.le_of_ble_eq_true rfl)) | (refine loadS rfl rfl sb rfl hD6.box ?_))
                  have HD6 : Hid (Std w v6 sb (.slice ua (L.length + 1) uc) (.slice (some ⟨gb, go_, none⟩) T.length sc) (.slice ca S.came.length cc) (L ++ [e]) T S) := hD6
                  clear hO6 hG6 hI6 hD6 hE6 e3 el hac al HS5 HE5 HI5 HLB HEL
                  have HCM : Hid (∀ W, Keeps v6 W → Calls Try.prog 13 #[stuV S (.slice ca S.came.length cc), .int .i64 e.seq] W fun y w' => ∃ ya yc, InOwn W.heap.size w' (.slice ya (cameS S e.seq).came.length yc) (cameS S e.seq).came ∧ y = .returned (.tuple #[stuV (cameS S e.seq) (.slice ya (cameS S e.seq).came.length yc), .int .i64 0]) ∧ Keeps W w') := fun W hk => by
                    have := stub_came_on S e.seq _ W (RowAt.of_owns (HD6.out.keep hk).c)
                    rw [(HPU.out.2.2.2 hge).1] at this
                    refine this.mono ?_
                    rintro y w' ⟨ya, yc, ⟨g, hg, hgb⟩, rfl, hb⟩
                    exact ⟨ya, yc, hg.inOwn hgb, rfl, hb⟩
                  have HO7 := (show Hid _ from (HPU.out.2.2.2 hge).2)
                  generalize cameS S e.seq = S1 at *
                  refine (HCM.out v6 (Keeps.refl _)).mono ?_
                  rintro y v7 ⟨ya, yc, hI7, rfl, hb⟩
                  have HI7 : Hid (InOwn v6.heap.size v7 (.slice ya S1.came.length yc) S1.came) := hI7
                  have HK7 : Hid (Keeps v6 v7) := hb
                  clear hI7 hb HCM
                  go_wp2_with (first | (refine allocS rfl rfl ?_; intro v8 nb hBn hkn hln hgn) | (have _h := hS9; refine storeS rfl rfl sb rfl S1 ya S1.came.length yc rfl (HD6.out.keep (HK7.out.trans k79)).box rfl ?_; intro v10 hS10 hT10) | (refine storeS rfl rfl nb rfl S1 ya S1.came.length yc rfl hBn rfl ?_; intro v9 hS9 hT9; have k79 := But.to hkn hgn hT9) | (refine loadS rfl rfl nb rfl hS9 ?_))
                  have HD10 : Hid (Std w v10 sb (.slice ua (L.length + 1) uc) (.slice (some ⟨gb, go_, none⟩) T.length sc) (.slice ya S1.came.length yc) (L ++ [e]) T S1) := HD6.out.put (HK7.out.trans k79) (owns_keep HI7.out k79) hS10 hT10
                  clear k79 hBn hkn hln hgn hS9 hT9 hS10 hT10
                  go_roundw
                  case rel => exact ⟨k + 1, L ++ [e], T, S1, ua, uc, some ⟨gb, go_, none⟩, sc, ya, yc, by first | rfl | simp, by first | rfl | simp, by go_num, by omega, by first | omega | (simp only [List.length_append, List.length_cons, List.length_nil]; omega), by first | omega | (simp only [List.length_append, List.length_cons, List.length_nil]; omega), (show Hid _ from by show Std _ _ _ _ _ _ _ _ _; rw [List.length_append]; exact HD10.out), HO7⟩
                  case measure => simp [intOf]; omega
                · have ha' : decide (an < -1) = true := by simp; omega
                  go_wp2_with (first | (refine loadE rfl rfl eb rfl HE5.out ?_) | (refine app_en rfl _ _ rfl w.heap.size (Nat.le_trans HS5.out.keeps.size (by simp)) (.slice la L.length lc) L rfl (owns_keep HS5.out.l ((Keeps.refl _).alloc _)) e ⟨v5.heap.size, 0, none⟩ 1 rfl (ent_row v5 e) (by omega) ?_; intro ua uc v6 hO6 hG6; have hI6 : v6.ownsRow W1.heap.size 3 1 (.slice ra (L.length + 1) rc) (L.length + 1) (intCells A) := owns_grown (owns_keep HI5.out ((Keeps.refl _).alloc _)) hG6 (fun g h h2 => by have h3 := HLB.out g h2; have h4 := (owns_lt HI5.out h).1; omega); obtain ⟨ab, aoff, acap, hav, hac⟩ := last_at hI6 HA.out; injection hav with hav1 hav2 hav3; subst hav1; clear hav2 hav3; have al := World.block_lt_of_cell? _ _ hac; simp only [] at al; have hD6 : Std w v6 sb (.slice ua (L.length + 1) uc) (.slice (some ⟨gb, go_, none⟩) T.length sc) (.slice ca S.came.length cc) (L ++ [e]) T S := (HS5.out.keep ((Keeps.refl _).alloc _)).growL hO6 hG6; have hE6 : CBox eb (E9 e) v6 := (HE5.out.keep ((Keeps.refl _).alloc _) (Nat.le_of_ble_eq_true rfl)).same (hG6.grown.block eb (Nat.lt_of_lt_of_le (HE5.out.lt (Nat.le_of_ble_eq_true rfl)) (by simp)) (fun h => HEL.out h.symm)); have e3 : v6.cell? ⟨eb, 3, none⟩ = some (.int .i64 e.seq) := hE6.1 3 _ rfl; have el := hE6.lt (Nat.le_of_ble_eq_true rfl)))
                  have HD6 : Hid (Std w v6 sb (.slice ua (L.length + 1) uc) (.slice (some ⟨gb, go_, none⟩) T.length sc) (.slice ca S.came.length cc) (L ++ [e]) T S) := hD6
                  have HP1 := (show Hid _ from HPU.out.1)
                  clear hO6 hG6 hI6 hD6 hE6 e3 el hac al HS5 HE5 HI5 HLB HEL
                  go_roundw
                  case rel => exact ⟨k + 1, L ++ [e], T, S, ua, uc, some ⟨gb, go_, none⟩, sc, ca, cc, by first | rfl | simp, by first | rfl | simp, by go_num, by omega, by first | omega | (simp only [List.length_append, List.length_cons, List.length_nil]; omega), by first | omega | (simp only [List.length_append, List.length_cons, List.length_nil]; omega), (show Hid _ from by show Std _ _ _ _ _ _ _ _ _; rw [List.length_append]; exact HD6.out), HP1⟩
                  case measure => simp [intOf]; omega
      · have h30d : decide ((k : Int) < 30) = false := by simp; omega
        have HEN := (show Hid _ from once_end HON.out (by omega))
        have HKE : Hid (Keeps w wr) := HS.out.keeps
        have HLE : Hid (EntsAt wr (.slice la L.length lc) L) := RowAt.of_owns HS.out.l
        have HCE : Hid (IntsAt wr (.slice ca S.came.length cc) S.came) := RowAt.of_owns HS.out.c
        have HBE : Hid (CBox sb (S3 S (.slice ca S.came.length cc)) wr) := HS.out.box
        obtain ⟨hs1, ⟨hs2, hs3⟩, hs4⟩ := stu_right HON.out.stu
        have HBD := (show Hid _ from came_bounds hs4)
        have hl60 : S.came.length ≤ 60 := by have := came_len hs4 (by omega); omega
        clear hs1 hs4
        have HAl : Hid (∀ W, Keeps wr W → Calls Try.prog 18 #[stV zeroSt (.slice none 0 0), .slice la L.length lc] W fun y w' => ∃ qa qc ra rn rc, y = .returned (.tuple #[stV (runSt zeroSt L) (.slice qa (runSt zeroSt L).tab.length qc), .slice ra rn rc, .int .i64 0]) ∧ Keeps W w') := by
          intro W hk
          have := fold_all zeroSt L (.slice none 0 0) _ W (OwnTab.nil 0 _).tab (HLE.out.keep hk)
          rw [HEN.out.1] at this
          refine this.mono ?_
          rintro y w' ⟨x', av, hT, hr, rfl, hb⟩
          obtain ⟨qa, qc, rfl, _⟩ := hT.tab.len
          obtain ⟨ra, rc, rfl, _⟩ := (RowAt.of_owns hr).len
          have e1 : allSt zeroSt L = runSt zeroSt L := by unfold allSt; rw [HEN.out.1]; rfl
          rw [e1]
          exact ⟨qa, qc, ra, _, rc, rfl, hb⟩
        have HV1 := (show Hid _ from HEN.out.2.2.2)
        generalize runSt zeroSt L = F at *
        go_wp2_with fail
        refine (begin_c wr).mono ?_
        rintro y x1 ⟨rfl, hb⟩
        have HK1 : Hid (Keeps wr x1) := hb
        clear hb
        go_wp2_with fail
        refine (HAl.out x1 HK1.out).mono ?_
        rintro y x2 ⟨qa, qc, ra, rn, rc, rfl, hb⟩
        have HK2 : Hid (Keeps wr x2) := HK1.out.trans hb
        clear hb HAl HK1
        skip
        by_cases hnx : S.next ≤ 60
        · have hnd : decide ((60 : Int) < S.next) = false := by simp; omega
          obtain ⟨N, hN⟩ : ∃ N : Nat, S.next = N + 1 := ⟨(S.next - 1).toNat, by omega⟩
          have HNN : Hid (S.next = (N : Int) + 1) := hN
          have hN60 : N < 60 := by omega
          go_wp2_with (first | (refine allocT rfl rfl ?_; intro x3 fb hBf hkf hlf hgf) | (refine storeT rfl rfl fb rfl F qa F.tab.length qc rfl hBf rfl ?_; intro x4 hS4 hT4; have k4 := HK2.out.trans (But.to hkf hgf hT4); have b1 : x4.cell? ⟨sb, 1, none⟩ = some (.int .i64 S.next) := (HBE.out.keep k4 (Nat.le_of_ble_eq_true rfl)).1 1 _ rfl; have bl := World.block_lt_of_cell? _ _ b1; simp only [] at bl))
          have HF4 : Hid (CBox fb (T7 F (.slice qa F.tab.length qc)) x4) := hS4
          have HK4 : Hid (Keeps wr x4) := k4
          clear k4 b1 bl hBf hkf hlf hgf hS4 hT4 hN hnd hnx HK2
          go_loopw [22, 23] (fun d i wq => ∃ (n : Nat), n ≤ N ∧ i = .int .i64 ((n : Int) + 1) ∧ d = .int .i64 (onceSum L n) ∧ 0 ≤ onceSum L n ∧ onceSum L n ≤ n ∧ Hid (Keeps x4 wq)) (fun _ i _ => 100 - (intOf i).toNat)
          case atStart => exact ⟨0, Nat.zero_le _, by go_num, rfl, Int.le_refl _, Int.le_refl _, Keeps.refl _⟩
          case round =>
            obtain ⟨n, hn, rfl, rfl, hd0, hd1, HKQ⟩ := hrel
            have b1 : wr.cell? ⟨sb, 1, none⟩ = some (.int .i64 ((N : Int) + 1)) := by rw [← HNN.out]; exact ((HBE.out.keep (HK4.out.trans HKQ.out) (Nat.le_of_ble_eq_true rfl)).1 1 _ rfl)
            have bl := World.block_lt_of_cell? _ _ b1
            simp only [] at bl
            by_cases hlt : n < N
            · obtain ⟨z1, z2, z3, z4⟩ := HEN.out.2.1 ((n : Int) + 1) (by omega) (by have := HNN.out; omega) (by omega)
              have hsum : onceSum L (n + 1) = onceSum L n + onceAll L ((n : Int) + 1) := rfl
              have HTO : Hid (∀ W, Keeps x4 W → Calls Try.prog 20 #[.slice la L.length lc, .int .i64 1, .int .i64 ((n : Int) + 1)] W fun y w' => y = .returned (.tuple #[.int .i64 (onceAll L ((n : Int) + 1)), .int .i64 0]) ∧ Keeps W w') := fun W hk => by
                have := trace_once L 1 ((n : Int) + 1) _ W (HLE.out.keep (HK4.out.trans hk))
                rw [z1, z2] at this
                exact this
              clear z1 z2
              generalize onceAll L ((n : Int) + 1) = on at *
              have HSU : Hid (onceSum L (n + 1) = onceSum L n + on) := hsum
              clear hsum
              generalize onceSum L n = ds at *
              have hgt : decide ((1 : Int) < on) = false := by simp; omega
              go_wp2_with fail
              refine (HTO.out wr HKQ.out).mono ?_
              rintro y x6 ⟨rfl, hb⟩
              have HK6 : Hid (Keeps x4 x6) := HKQ.out.trans hb
              clear hb HTO
              go_wp2_with fail
              go_roundw
              case rel => exact ⟨n + 1, by omega, by go_num, by rw [HSU.out], by rw [HSU.out]; omega, by rw [HSU.out]; omega, HK6⟩
              case measure => simp [intOf]; omega
            · have hnN : n = N := by omega
              subst hnN
              have hV : Hid (F.v1 = onceSum L n) := by
                show _ = _
                have h1 := HV1.out
                rw [HNN.out] at h1
                rw [h1]
                congr 1
                omega
              generalize onceSum L n = ds at *
              have HK5 : Hid (Keeps x4 wr) := HKQ.out
              clear HKQ
              go_wp2_with fail
              clear b1 bl
              go_loopw [26] (fun i wq => ∃ (j : Nat), j ≤ S.came.length ∧ i = .int .i64 j ∧ Hid (Keeps x4 wq)) (fun i _ => 100 - (intOf i).toNat)
              case atStart => exact ⟨0, Nat.zero_le _, rfl, HK5⟩
              case round =>
                obtain ⟨j, hj, rfl, HKJ⟩ := hrel
                clear HK5
                have b2 : wr.cell? ⟨sb, 2, none⟩ = some (.slice ca S.came.length cc) := ((HBE.out.keep (HK4.out.trans HKJ.out) (Nat.le_of_ble_eq_true rfl)).1 2 _ rfl)
                have bl := World.block_lt_of_cell? _ _ b2
                simp only [] at bl
                by_cases hjl : j < S.came.length
                · obtain ⟨gb, go_, gcap, hv, hc⟩ := (HCE.out.keep (HK4.out.trans HKJ.out)).at hjl
                  injection hv with hv1 hv2 hv3
                  subst hv1
                  clear hv2 hv3
                  have hcl := World.block_lt_of_cell? _ _ hc
                  simp only [] at hcl
                  have hmem := List.getElem_mem hjl
                  have hbd := HBD.out _ hmem
                  obtain ⟨z1, z2, _, _⟩ := HEN.out.2.1 S.came[j] (by omega) hbd.2 (by have := HNN.out; omega)
                  have z3 := HEN.out.2.2.1 _ hmem
                  have HTO : Hid (∀ W, Keeps x4 W → Calls Try.prog 20 #[.slice la L.length lc, .int .i64 1, .int .i64 S.came[j]] W fun y w' => y = .returned (.tuple #[.int .i64 1, .int .i64 0]) ∧ Keeps W w') := fun W hk => by
                    have := trace_once L 1 S.came[j] _ W (HLE.out.keep (HK4.out.trans hk))
                    rw [z1, z2, z3] at this
                    exact this
                  clear z1 z2 z3 hmem hbd
                  generalize S.came[j] = cj at *
                  go_wp2_with fail
                  refine (HTO.out wr HKJ.out).mono ?_
                  rintro y x6 ⟨rfl, hb⟩
                  have HK6 : Hid (Keeps x4 x6) := HKJ.out.trans hb
                  clear hb HTO
                  go_wp2_with fail
                  go_roundw
                  case rel => exact ⟨j + 1, by omega, by go_num, HK6⟩
                  case measure => simp [intOf]; omega
                · go_wp2_with fail
                  refine (stub_begun wr).mono ?_
                  rintro y x7 ⟨rfl, hb⟩
                  have HK7 : Hid (Keeps x4 x7) := HKJ.out.trans hb
                  have f3 : x7.cell? ⟨fb, 3, none⟩ = some (.int .i64 F.v1) := (HF4.out.keep HK7.out (Nat.le_of_ble_eq_true rfl)).1 3 _ rfl
                  rw [hV.out] at f3
                  have fl := World.block_lt_of_cell? _ _ f3
                  simp only [] at fl
                  clear hb b2 bl
                  go_wp2_with fail
                  go_ret
                  exact ⟨by first | rfl | simp, HKE.out.trans (HK4.out.trans HK7.out)⟩
        · have hnd : decide ((60 : Int) < S.next) = true := by simp; omega
          go_wp2_with (first | (refine allocT rfl rfl ?_; intro x3 fb hBf hkf hlf hgf) | (refine storeT rfl rfl fb rfl F qa F.tab.length qc rfl hBf rfl ?_; intro x4 hS4 hT4; have k4 := HK2.out.trans (But.to hkf hgf hT4); have b1 : x4.cell? ⟨sb, 1, none⟩ = some (.int .i64 S.next) := (HBE.out.keep k4 (Nat.le_of_ble_eq_true rfl)).1 1 _ rfl; have bl := World.block_lt_of_cell? _ _ b1; simp only [] at bl))
          have HK4 : Hid (Keeps w x4) := HKE.out.trans k4
          clear k4 b1 bl hBf hkf hlf hgf hS4 hT4
          refine (stub_begun x4).mono ?_
          rintro y wz ⟨rfl, hb⟩
          go_wp2_with fail
          go_ret
          exact ⟨rfl, (HK4.out).trans hb⟩
    · have hkd : decide ((k : Int) < (PS.length : Int)) = false := by simp; omega
      have HEN := (show Hid _ from once_end HON.out (by omega))
      have HKE : Hid (Keeps w wr) := HS.out.keeps
      have HLE : Hid (EntsAt wr (.slice la L.length lc) L) := RowAt.of_owns HS.out.l
      have HCE : Hid (IntsAt wr (.slice ca S.came.length cc) S.came) := RowAt.of_owns HS.out.c
      have HBE : Hid (CBox sb (S3 S (.slice ca S.came.length cc)) wr) := HS.out.box
      obtain ⟨hs1, ⟨hs2, hs3⟩, hs4⟩ := stu_right HON.out.stu
      have HBD := (show Hid _ from came_bounds hs4)
      have hl60 : S.came.length ≤ 60 := by have := came_len hs4 (by omega); omega
      clear hs1 hs4
      have HAl : Hid (∀ W, Keeps wr W → Calls Try.prog 18 #[stV zeroSt (.slice none 0 0), .slice la L.length lc] W fun y w' => ∃ qa qc ra rn rc, y = .returned (.tuple #[stV (runSt zeroSt L) (.slice qa (runSt zeroSt L).tab.length qc), .slice ra rn rc, .int .i64 0]) ∧ Keeps W w') := by
        intro W hk
        have := fold_all zeroSt L (.slice none 0 0) _ W (OwnTab.nil 0 _).tab (HLE.out.keep hk)
        rw [HEN.out.1] at this
        refine this.mono ?_
        rintro y w' ⟨x', av, hT, hr, rfl, hb⟩
        obtain ⟨qa, qc, rfl, _⟩ := hT.tab.len
        obtain ⟨ra, rc, rfl, _⟩ := (RowAt.of_owns hr).len
        have e1 : allSt zeroSt L = runSt zeroSt L := by unfold allSt; rw [HEN.out.1]; rfl
        rw [e1]
        exact ⟨qa, qc, ra, _, rc, rfl, hb⟩
      have HV1 := (show Hid _ from HEN.out.2.2.2)
      generalize runSt zeroSt L = F at *
      go_wp2_with fail
      refine (begin_c wr).mono ?_
      rintro y x1 ⟨rfl, hb⟩
      have HK1 : Hid (Keeps wr x1) := hb
      clear hb
      go_wp2_with fail
      refine (HAl.out x1 HK1.out).mono ?_
      rintro y x2 ⟨qa, qc, ra, rn, rc, rfl, hb⟩
      have HK2 : Hid (Keeps wr x2) := HK1.out.trans hb
      clear hb HAl HK1
      skip
      by_cases hnx : S.next ≤ 60
      · have hnd : decide ((60 : Int) < S.next) = false := by simp; omega
        obtain ⟨N, hN⟩ : ∃ N : Nat, S.next = N + 1 := ⟨(S.next - 1).toNat, by omega⟩
        have HNN : Hid (S.next = (N : Int) + 1) := hN
        have hN60 : N < 60 := by omega
        go_wp2_with (first | (refine allocT rfl rfl ?_; intro x3 fb hBf hkf hlf hgf) | (refine storeT rfl rfl fb rfl F qa F.tab.length qc rfl hBf rfl ?_; intro x4 hS4 hT4; have k4 := HK2.out.trans (But.to hkf hgf hT4); have b1 : x4.cell? ⟨sb, 1, none⟩ = some (.int .i64 S.next) := (HBE.out.keep k4 (Nat.le_of_ble_eq_true rfl)).1 1 _ rfl; have bl := World.block_lt_of_cell? _ _ b1; simp only [] at bl))
        have HF4 : Hid (CBox fb (T7 F (.slice qa F.tab.length qc)) x4) := hS4
        have HK4 : Hid (Keeps wr x4) := k4
        clear k4 b1 bl hBf hkf hlf hgf hS4 hT4 hN hnd hnx HK2
        go_loopw [22, 23] (fun d i wq => ∃ (n : Nat), n ≤ N ∧ i = .int .i64 ((n : Int) + 1) ∧ d = .int .i64 (onceSum L n) ∧ 0 ≤ onceSum L n ∧ onceSum L n ≤ n ∧ Hid (Keeps x4 wq)) (fun _ i _ => 100 - (intOf i).toNat)
        case atStart => exact ⟨0, Nat.zero_le _, by go_num, rfl, Int.le_refl _, Int.le_refl _, Keeps.refl _⟩
        case round =>
          obtain ⟨n, hn, rfl, rfl, hd0, hd1, HKQ⟩ := hrel
          have b1 : wr.cell? ⟨sb, 1, none⟩ = some (.int .i64 ((N : Int) + 1)) := by rw [← HNN.out]; exact ((HBE.out.keep (HK4.out.trans HKQ.out) (Nat.le_of_ble_eq_true rfl)).1 1 _ rfl)
          have bl := World.block_lt_of_cell? _ _ b1
          simp only [] at bl
          by_cases hlt : n < N
          · obtain ⟨z1, z2, z3, z4⟩ := HEN.out.2.1 ((n : Int) + 1) (by omega) (by have := HNN.out; omega) (by omega)
            have hsum : onceSum L (n + 1) = onceSum L n + onceAll L ((n : Int) + 1) := rfl
            have HTO : Hid (∀ W, Keeps x4 W → Calls Try.prog 20 #[.slice la L.length lc, .int .i64 1, .int .i64 ((n : Int) + 1)] W fun y w' => y = .returned (.tuple #[.int .i64 (onceAll L ((n : Int) + 1)), .int .i64 0]) ∧ Keeps W w') := fun W hk => by
              have := trace_once L 1 ((n : Int) + 1) _ W (HLE.out.keep (HK4.out.trans hk))
              rw [z1, z2] at this
              exact this
            clear z1 z2
            generalize onceAll L ((n : Int) + 1) = on at *
            have HSU : Hid (onceSum L (n + 1) = onceSum L n + on) := hsum
            clear hsum
            generalize onceSum L n = ds at *
            have hgt : decide ((1 : Int) < on) = false := by simp; omega
            go_wp2_with fail
            refine (HTO.out wr HKQ.out).mono ?_
            rintro y x6 ⟨rfl, hb⟩
            have HK6 : Hid (Keeps x4 x6) := HKQ.out.trans hb
            clear hb HTO
            go_wp2_with fail
            go_roundw
            case rel => exact ⟨n + 1, by omega, by go_num, by rw [HSU.out], by rw [HSU.out]; omega, by rw [HSU.out]; omega, HK6⟩
            case measure => simp [intOf]; omega
          · have hnN : n = N := by omega
            subst hnN
            have hV : Hid (F.v1 = onceSum L n) := by
              show _ = _
              have h1 := HV1.out
              rw [HNN.out] at h1
              rw [h1]
              congr 1
              omega
            generalize onceSum L n = ds at *
            have HK5 : Hid (Keeps x4 wr) := HKQ.out
            clear HKQ
            go_wp2_with fail
            clear b1 bl
            go_loopw [26] (fun i wq => ∃ (j : Nat), j ≤ S.came.length ∧ i = .int .i64 j ∧ Hid (Keeps x4 wq)) (fun i _ => 100 - (intOf i).toNat)
            case atStart => exact ⟨0, Nat.zero_le _, rfl, HK5⟩
            case round =>
              obtain ⟨j, hj, rfl, HKJ⟩ := hrel
              clear HK5
              have b2 : wr.cell? ⟨sb, 2, none⟩ = some (.slice ca S.came.length cc) := ((HBE.out.keep (HK4.out.trans HKJ.out) (Nat.le_of_ble_eq_true rfl)).1 2 _ rfl)
              have bl := World.block_lt_of_cell? _ _ b2
              simp only [] at bl
              by_cases hjl : j < S.came.length
              · obtain ⟨gb, go_, gcap, hv, hc⟩ := (HCE.out.keep (HK4.out.trans HKJ.out)).at hjl
                injection hv with hv1 hv2 hv3
                subst hv1
                clear hv2 hv3
                have hcl := World.block_lt_of_cell? _ _ hc
                simp only [] at hcl
                have hmem := List.getElem_mem hjl
                have hbd := HBD.out _ hmem
                obtain ⟨z1, z2, _, _⟩ := HEN.out.2.1 S.came[j] (by omega) hbd.2 (by have := HNN.out; omega)
                have z3 := HEN.out.2.2.1 _ hmem
                have HTO : Hid (∀ W, Keeps x4 W → Calls Try.prog 20 #[.slice la L.length lc, .int .i64 1, .int .i64 S.came[j]] W fun y w' => y = .returned (.tuple #[.int .i64 1, .int .i64 0]) ∧ Keeps W w') := fun W hk => by
                  have := trace_once L 1 S.came[j] _ W (HLE.out.keep (HK4.out.trans hk))
                  rw [z1, z2, z3] at this
                  exact this
                clear z1 z2 z3 hmem hbd
                generalize S.came[j] = cj at *
                go_wp2_with fail
                refine (HTO.out wr HKJ.out).mono ?_
                rintro y x6 ⟨rfl, hb⟩
                have HK6 : Hid (Keeps x4 x6) := HKJ.out.trans hb
                clear hb HTO
                go_wp2_with fail
                go_roundw
                case rel => exact ⟨j + 1, by omega, by go_num, HK6⟩
                case measure => simp [intOf]; omega
              · go_wp2_with fail
                refine (stub_begun wr).mono ?_
                rintro y x7 ⟨rfl, hb⟩
                have HK7 : Hid (Keeps x4 x7) := HKJ.out.trans hb
                have f3 : x7.cell? ⟨fb, 3, none⟩ = some (.int .i64 F.v1) := (HF4.out.keep HK7.out (Nat.le_of_ble_eq_true rfl)).1 3 _ rfl
                rw [hV.out] at f3
                have fl := World.block_lt_of_cell? _ _ f3
                simp only [] at fl
                clear hb b2 bl
                go_wp2_with fail
                go_ret
                exact ⟨by first | rfl | simp, HKE.out.trans (HK4.out.trans HK7.out)⟩
      · have hnd : decide ((60 : Int) < S.next) = true := by simp; omega
        go_wp2_with (first | (refine allocT rfl rfl ?_; intro x3 fb hBf hkf hlf hgf) | (refine storeT rfl rfl fb rfl F qa F.tab.length qc rfl hBf rfl ?_; intro x4 hS4 hT4; have k4 := HK2.out.trans (But.to hkf hgf hT4); have b1 : x4.cell? ⟨sb, 1, none⟩ = some (.int .i64 S.next) := (HBE.out.keep k4 (Nat.le_of_ble_eq_true rfl)).1 1 _ rfl; have bl := World.block_lt_of_cell? _ _ b1; simp only [] at bl))
        have HK4 : Hid (Keeps w x4) := HKE.out.trans k4
        clear k4 b1 bl hBf hkf hlf hgf hS4 hT4
        refine (stub_begun x4).mono ?_
        rintro y wz ⟨rfl, hb⟩
        go_wp2_with fail
        go_ret
        exact ⟨rfl, (HK4.out).trans hb⟩
end Go.Proofs.Yteabfjpajgakiag
