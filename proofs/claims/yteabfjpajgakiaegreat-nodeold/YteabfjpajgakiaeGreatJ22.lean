/- NoJ. -/
import Derived.Test.YteabfjpajgakiaeGreatJ15
import Derived.Test.YteabfjpajgakiaeGreatJ20
import Derived.Test.YteabfjpajgakiaeGreatJ21
/- NodeOld: the walk. -/
set_option linter.unusedSimpArgs false
set_option linter.unusedVariables false
set_option maxRecDepth 10000
namespace Go.Proofs.YteabfjpajgakiaeGreat
open Go.RowKit

set_option maxHeartbeats 8000000 in
theorem node_old (l : Lg) (s : St) (n : Int) (e : Ent) (x y : Value) (ta : Option Addr) (tc : Nat) (w : World) (hT : TabAt w x l.base.tab) (hL : EntsAt w (.slice ta l.tail.length tc) l.tail) (hY : TabAt w y s.tab) (hcap : l.tail.length ≤ tc) (n0 : -9223372036854775808 ≤ n) (n1 : n ≤ 9223372036854775807) : Calls Tryz.prog 5 #[lgV l x (.slice ta l.tail.length tc), stV s y, .int .i64 n, entV e] w fun e w' => e = .returned (.bool true) ∧ Keeps w w' := by
  obtain ⟨xa, xc, rfl, _⟩ := hT.len
  obtain ⟨ya, yc, rfl, _⟩ := hY.len
  have HT : Hid (TabAt w (.slice xa l.base.tab.length xc) l.base.tab) := hT
  have HL : Hid (EntsAt w (.slice ta l.tail.length tc) l.tail) := hL
  have HY : Hid (TabAt w (.slice ya s.tab.length yc) s.tab) := hY
  have hlen := hL.2.1
  unfold maxLen at hlen
  clear hT hL hY
  have HFI : Hid (∀ W, Keeps w W → Calls Tryz.prog 6 #[lgV l (.slice xa l.base.tab.length xc) (.slice ta l.tail.length tc), stV s (.slice ya s.tab.length yc)] W fun e w' => e = .returned (.tuple #[.bool (fitsOk l s), .int .i64 (nodeErr l s)]) ∧ Keeps W w') := fun W hk => node_fits_c l s _ _ ta tc W (HT.out.keep hk) (HL.out.keep hk) (HY.out.keep hk) hcap
  have HGO : Hid (nodeErr l s = 0 → fitsOk l s = true → l.tail.length ≤ 50 ∧ (∀ W (m : Nat), m ≤ l.tail.length → Keeps w W → Calls Tryz.prog 14 #[lgV l (.slice xa l.base.tab.length xc) (.slice ta l.tail.length tc), .int .i64 m] W fun e w' => ∃ M qa qc na nc, Hid (nodeErr M s = 0 ∧ fitsOk M s = true) ∧ Hid (OwnTab W.heap.size w' (.slice qa M.base.tab.length qc) M.base.tab) ∧ Hid (w'.ownsRow W.heap.size 43 9 (.slice na M.tail.length nc) M.tail.length (entCells M.tail)) ∧ M.tail.length ≤ nc ∧ e = .returned (.tuple #[lgV M (.slice qa M.base.tab.length qc) (.slice na M.tail.length nc), .int .i64 0]) ∧ Keeps W w')) := by
    intro h0 hfo
    have hf : fitsB l s = true := by unfold fitsOk at hfo; rw [h0] at hfo; exact hfo
    obtain ⟨hl0, hs0⟩ := node_right h0
    have h50 := (stErr_bounds (fold_right hl0).1).1
    refine ⟨by have := (fold_right hl0).2.2; omega, fun W m hm hk => ?_⟩
    refine (pack_cut l m _ ta tc W (HT.out.keep hk) (HL.out.keep hk) hcap).mono ?_
    rintro e w' ⟨qa, qc, na, nc, h1, h2, h3, rfl, hb⟩
    rw [(cut_plain hl0 hm).1]
    exact ⟨_, qa, qc, na, nc, fits_cut hl0 hs0 hf hm, h1, h2, h3, rfl, hb⟩
  have HPU : Hid (nodeErr l s = 0 → fitsOk l s = true → ∀ W, Keeps w W → Calls Tryz.prog 15 #[lgV l (.slice xa l.base.tab.length xc) (.slice ta l.tail.length tc), entV e] W fun y w' => ∃ er an P pa pc oa oc, Hid (er = 0 → nodeErr P s = 0 ∧ fitsOk P s = true) ∧ TabAt w' (.slice pa P.base.tab.length pc) P.base.tab ∧ EntsAt w' (.slice oa P.tail.length oc) P.tail ∧ P.tail.length ≤ oc ∧ y = .returned (.tuple #[lgV P (.slice pa P.base.tab.length pc) (.slice oa P.tail.length oc), .int .i64 an, .int .i64 er]) ∧ Keeps W w') := by
    intro h0 hfo W hk
    have hf : fitsB l s = true := by unfold fitsOk at hfo; rw [h0] at hfo; exact hfo
    obtain ⟨hl0, hs0⟩ := node_right h0
    refine (pack_put l e _ ta tc W (HT.out.keep hk) (HL.out.keep hk) hcap).mono ?_
    rintro y w' ⟨pa, pc, oa, oc, h1, h2, h3, rfl, hb⟩
    exact ⟨_, _, _, pa, pc, oa, oc, fun h => fits_put hs0 hf h, h1.tab, RowAt.of_owns h2, h3, rfl, hb⟩
  go_enter Tryz.func5, Tryz.ntmps5
  go_wp2_with fail
  obtain ⟨W1, hW1⟩ : ∃ W1, W1 = ((w.alloc (.cells #[.int .i64 l.base.at_, .int .i64 l.base.clock, .int .i64 l.base.v0, .int .i64 l.base.v1, .int .i64 l.base.v2, .int .i64 l.base.v3, .slice xa l.base.tab.length xc, .slice ta l.tail.length tc] 28)).alloc (.cells #[.int .i64 s.at_, .int .i64 s.clock, .int .i64 s.v0, .int .i64 s.v1, .int .i64 s.v2, .int .i64 s.v3, .slice ya s.tab.length yc] 25)).alloc (.cells #[.int .i64 e.kind, .int .i64 e.time, .int .i64 e.client, .int .i64 e.seq, .int .i64 e.ack, .int .i64 e.ok, .int .i64 e.okey, .int .i64 e.oto, .int .i64 e.on] 43) := ⟨_, rfl⟩
  have k1 : Keeps w W1 := by rw [hW1]; exact (((Keeps.refl _).alloc _).alloc _).alloc _
  have B1 : LgBox w.heap.size l (.slice xa l.base.tab.length xc) (.slice ta l.tail.length tc) W1 := by rw [hW1]; exact (LgBox.new w l _ _ rfl rfl 28).keep (((Keeps.refl _).alloc _).alloc _)
  have C1 : StBox (w.heap.size + 1) s (.slice ya s.tab.length yc) W1 := by
    rw [hW1]
    have := (StBox.new (w.alloc (.cells #[.int .i64 l.base.at_, .int .i64 l.base.clock, .int .i64 l.base.v0, .int .i64 l.base.v1, .int .i64 l.base.v2, .int .i64 l.base.v3, .slice xa l.base.tab.length xc, .slice ta l.tail.length tc] 28)) s (.slice ya s.tab.length yc) 25).keep ((Keeps.refl _).alloc (.cells #[.int .i64 e.kind, .int .i64 e.time, .int .i64 e.client, .int .i64 e.seq, .int .i64 e.ack, .int .i64 e.ok, .int .i64 e.okey, .int .i64 e.oto, .int .i64 e.on] 43))
    simp only [World.size_alloc] at this
    exact this
  have E1 : EntBox (w.heap.size + 1 + 1) e W1 := by
    rw [hW1]
    have := EntBox.new ((w.alloc (.cells #[.int .i64 l.base.at_, .int .i64 l.base.clock, .int .i64 l.base.v0, .int .i64 l.base.v1, .int .i64 l.base.v2, .int .i64 l.base.v3, .slice xa l.base.tab.length xc, .slice ta l.tail.length tc] 28)).alloc (.cells #[.int .i64 s.at_, .int .i64 s.clock, .int .i64 s.v0, .int .i64 s.v1, .int .i64 s.v2, .int .i64 s.v3, .slice ya s.tab.length yc] 25)) e 43
    simp only [World.size_alloc] at this
    exact this
  rw [← hW1]
  clear hW1
  obtain ⟨eb, heb⟩ : ∃ eb, eb = w.heap.size + 1 + 1 := ⟨_, rfl⟩
  rw [← heb] at E1 ⊢
  clear heb
  refine (HFI.out W1 k1).mono ?_
  rintro y w2 ⟨rfl, hb⟩
  have HK2 : Hid (Keeps w w2) := k1.trans hb
  have HB2 := (show Hid _ from B1.keep hb)
  have HC2 := (show Hid _ from C1.keep hb)
  have HE2 := (show Hid _ from E1.keep hb)
  clear k1 B1 C1 E1 hb HFI
  clear W1
  cases q1 : (nodeErr l s == 0) with
  | false =>
    have q1' : (nodeErr l s != 0) = true := by simp [bne, q1]
    go_wp2_with fail
    refine (node_begun _).mono ?_
    rintro y w3 ⟨rfl, hb⟩
    have HKz : Hid (Keeps w w3) := (HK2.out).trans hb
    clear hb
    go_wp2_with fail
    go_ret
    exact ⟨rfl, HKz.out⟩
  | true =>
    have q1' : (nodeErr l s != 0) = false := by simp [bne, q1]
    have q0 : nodeErr l s = 0 := by simpa using q1
    cases q2 : fitsOk l s with
    | false =>
      go_wp2_with fail
      refine (node_begun _).mono ?_
      rintro y w3 ⟨rfl, hb⟩
      have HKz : Hid (Keeps w w3) := (HK2.out).trans hb
      clear hb
      go_wp2_with fail
      go_ret
      exact ⟨rfl, HKz.out⟩
    | true =>
      obtain ⟨h50, hG⟩ := HGO.out q0 q2
      have HPP := (show Hid _ from HPU.out q0 q2)
      have HG : Hid (∀ W (m : Nat), m ≤ l.tail.length → Keeps w2 W → Calls Tryz.prog 14 #[lgV l (.slice xa l.base.tab.length xc) (.slice ta l.tail.length tc), .int .i64 m] W fun e w' => ∃ M qa qc na nc, Hid (nodeErr M s = 0 ∧ fitsOk M s = true) ∧ Hid (OwnTab W.heap.size w' (.slice qa M.base.tab.length qc) M.base.tab) ∧ Hid (w'.ownsRow W.heap.size 43 9 (.slice na M.tail.length nc) M.tail.length (entCells M.tail)) ∧ M.tail.length ≤ nc ∧ e = .returned (.tuple #[lgV M (.slice qa M.base.tab.length qc) (.slice na M.tail.length nc), .int .i64 0]) ∧ Keeps W w') := fun W m hm hk => hG W m hm (HK2.out.trans hk)
      clear hG q0
      have HWR : Hid (IntKind.i64.wrap ((l.tail.length : Int) + 1) = (l.tail.length : Int) + 1) := by
        show _ = _
        simp [IntKind.wrap_i64, wrap64]
        omega
      have HSA : Hid (∀ W, Keeps w2 W → W.cell? ⟨w.heap.size, 0, none⟩ = some (.int .i64 l.base.at_) ∧ W.cell? ⟨w.heap.size, 1, none⟩ = some (.int .i64 l.base.clock) ∧ W.cell? ⟨w.heap.size, 2, none⟩ = some (.int .i64 l.base.v0) ∧ W.cell? ⟨w.heap.size, 3, none⟩ = some (.int .i64 l.base.v1) ∧ W.cell? ⟨w.heap.size, 4, none⟩ = some (.int .i64 l.base.v2) ∧ W.cell? ⟨w.heap.size, 5, none⟩ = some (.int .i64 l.base.v3) ∧ W.cell? ⟨w.heap.size, 6, none⟩ = some (.slice xa l.base.tab.length xc) ∧ W.cell? ⟨w.heap.size, 7, none⟩ = some (.slice ta l.tail.length tc)) := fun W hk => have B := HB2.out.keep hk; ⟨B.c0, B.c1, B.c2, B.c3, B.c4, B.c5, B.c6, B.c7⟩
      go_wp2_with fail
      go_cut [11, 12] (fun p f wc => f = .int .i64 0 ∧ ∃ (M : Lg) (mb : Nat) (qa : Option Addr) (qc : Nat) (na : Option Addr) (nc : Nat), p = .pointer (some ⟨mb, 0, none⟩) ∧ Hid (nodeErr M s = 0 ∧ fitsOk M s = true) ∧ M.tail.length ≤ nc ∧ LgBox mb M (.slice qa M.base.tab.length qc) (.slice na M.tail.length nc) wc ∧ TabAt wc (.slice qa M.base.tab.length qc) M.base.tab ∧ EntsAt wc (.slice na M.tail.length nc) M.tail ∧ Keeps w2 wc)
      case first =>
        obtain ⟨V0, hV0⟩ : ∃ z, z = w2.drew := ⟨_, rfl⟩
        have k0 : Keeps w2 V0 := by rw [hV0]; exact (Keeps.refl _).drew
        refine wp_region_held_drew (S := fun W => W.cell? ⟨w.heap.size, 0, none⟩ = some (.int .i64 l.base.at_) ∧ W.cell? ⟨w.heap.size, 1, none⟩ = some (.int .i64 l.base.clock) ∧ W.cell? ⟨w.heap.size, 2, none⟩ = some (.int .i64 l.base.v0) ∧ W.cell? ⟨w.heap.size, 3, none⟩ = some (.int .i64 l.base.v1) ∧ W.cell? ⟨w.heap.size, 4, none⟩ = some (.int .i64 l.base.v2) ∧ W.cell? ⟨w.heap.size, 5, none⟩ = some (.int .i64 l.base.v3) ∧ W.cell? ⟨w.heap.size, 6, none⟩ = some (.slice xa l.base.tab.length xc) ∧ W.cell? ⟨w.heap.size, 7, none⟩ = some (.slice ta l.tail.length tc)) (by kernel_rfl) (HSA.out _ (Keeps.refl _).drew) (fun hS => ?_)
        rw [← hV0] at hS ⊢
        clear hV0
        refine wpAnyH_take (i := 0) (v := lgV l (.slice xa l.base.tab.length xc) (.slice ta l.tail.length tc)) rfl (by kernel_rfl) (by kernel_rfl) (by kernel_rfl) (fun _ _ _ h => h) (Or.inl ⟨by rfl, ?_⟩) hS ?_
        · intro w hS; go_simp
        refine wpAnyH_take (i := 1) (v := .int .i64 n) rfl (by kernel_rfl) (by kernel_rfl) (by kernel_rfl) (fun _ _ _ h => h) (Or.inl ⟨by rfl, ?_⟩) hS ?_
        · intro w hS; go_simp
        refine wpAnyH_take (i := 2) (v := .pointer (some ⟨w.heap.size, 7, none⟩)) rfl (by kernel_rfl) (by kernel_rfl) (by kernel_rfl) (fun _ _ _ h => h) (Or.inl ⟨by rfl, ?_⟩) hS ?_
        · intro w hS; go_simp
        refine wpAnyH_take (i := 3) (v := .slice ta l.tail.length tc) rfl (by kernel_rfl) (by kernel_rfl) (by kernel_rfl) (fun _ _ _ h => h) (Or.inl ⟨by rfl, ?_⟩) hS ?_
        · intro w hS; go_simp
        refine wpAnyH_take (i := 4) (v := .int .i64 l.tail.length) rfl (by kernel_rfl) (by kernel_rfl) (by kernel_rfl) (fun _ _ _ h => h) (Or.inl ⟨by rfl, ?_⟩) hS ?_
        · intro w hS; go_simp
        refine wpAnyH_take (i := 5) (v := .int .i64 ((l.tail.length : Int) + 1)) rfl (by kernel_rfl) (by kernel_rfl) (by kernel_rfl) (fun _ _ _ h => h) (Or.inl ⟨by rfl, ?_⟩) hS ?_
        · intro w hS
          go_simp
          exact HWR.out
        refine wpAnyH_ready (rs := [6, 11]) (by kernel_rfl) (by simp) ?_
        refine AllReadyH.cons rfl (fun K hK => ?_) (AllReadyH.cons rfl (fun K hK => ?_) (AllReadyH.nil))
        · go_simp
          refine (choose_n n (l.tail.length + 1) V0 n0 n1 (by omega) (by omega)).mono ?_
          rintro y V1 ⟨rm, hr0, hr1, rfl, hw⟩
          have hb : Keeps V0 V1 := by rw [hw]; exact Keeps.refl _
          obtain ⟨m, rfl⟩ : ∃ m : Nat, rm = m := ⟨rm.toNat, by omega⟩
          have hm : m ≤ l.tail.length := by omega
          clear hr0 hr1 hw
          have k1 := k0.trans hb
          clear hb
          go_simp
          refine hK.out _ _ (HSA.out _ k1) (fun hS => ?_)
          clear hK K
          refine wpAnyH_ready (rs := [7, 11]) (by kernel_rfl) (by simp) ?_
          refine AllReadyH.cons rfl (fun K hK => ?_) (AllReadyH.cons rfl (fun K hK => ?_) (AllReadyH.nil))
          · go_simp
            refine (HG.out V1 m hm k1).mono ?_
            rintro y V2 ⟨M, qa, qc, na, nc, HMM, hO2, hN2, hnc, rfl, hb⟩
            have k2 := k1.trans hb
            clear hb
            go_simp
            refine hK.out _ _ (HSA.out _ k2) (fun hS => ?_)
            clear hK K
            refine wpAnyH_take (i := 8) (v := .tuple #[lgV M (.slice qa M.base.tab.length qc) (.slice na M.tail.length nc), .int .i64 0]) rfl (by kernel_rfl) (by kernel_rfl) (by kernel_rfl) (fun _ _ _ h => h) (Or.inl ⟨by rfl, ?_⟩) hS ?_
            · intro w hS; go_simp
            refine wpAnyH_take (i := 9) (v := lgV M (.slice qa M.base.tab.length qc) (.slice na M.tail.length nc)) rfl (by kernel_rfl) (by kernel_rfl) (by kernel_rfl) (fun _ _ _ h => h) (Or.inl ⟨by rfl, ?_⟩) hS ?_
            · intro w hS; go_simp
            refine wpAnyH_take (i := 10) (v := .int .i64 0) rfl (by kernel_rfl) (by kernel_rfl) (by kernel_rfl) (fun _ _ _ h => h) (Or.inl ⟨by rfl, ?_⟩) hS ?_
            · intro w hS; go_simp
            refine wpAnyH_ready (rs := [11]) (by kernel_rfl) (by simp) ?_
            refine AllReadyH.cons rfl (fun K hK => ?_) (AllReadyH.nil)
            go_simp
            have hb : Keeps V2 (V2.alloc (.cells #[.int .i64 0, .int .i64 0, .int .i64 0, .int .i64 0, .int .i64 0, .int .i64 0, .slice none 0 0, .slice none 0 0] 28)) := (Keeps.refl _).alloc _
            have HQ3 : Hid (LgBox V2.heap.size zeroLg (.slice none 0 0) (.slice none 0 0) (V2.alloc (.cells #[.int .i64 0, .int .i64 0, .int .i64 0, .int .i64 0, .int .i64 0, .int .i64 0, .slice none 0 0, .slice none 0 0] 28))) := LgBox.new V2 zeroLg (.slice none 0 0) (.slice none 0 0) rfl rfl 28
            have HTF : Hid (∀ WF, But V2.heap.size (V2.alloc (.cells #[.int .i64 0, .int .i64 0, .int .i64 0, .int .i64 0, .int .i64 0, .int .i64 0, .slice none 0 0, .slice none 0 0] 28)) WF → TabAt WF (.slice qa M.base.tab.length qc) M.base.tab ∧ EntsAt WF (.slice na M.tail.length nc) M.tail) := fun WF hF => ⟨hO2.out.tab.keep (But.to hb (Nat.le_refl _) hF), EntsAt.keep (RowAt.of_owns hN2.out) (But.to hb (Nat.le_refl _) hF)⟩
            generalize V2.alloc (.cells #[.int .i64 0, .int .i64 0, .int .i64 0, .int .i64 0, .int .i64 0, .int .i64 0, .slice none 0 0, .slice none 0 0] 28) = V3 at *
            have k3 := k2.trans hb
            clear hb
            refine hK.out _ _ (HSA.out _ k3) (fun hS => ?_)
            clear hK K
            refine wpAnyH_ready (rs := [12]) (by kernel_rfl) (by simp) ?_
            refine AllReadyH.cons rfl (fun K hK => ?_) (AllReadyH.nil)
            have z0 := HQ3.out.c0
            have z1 := HQ3.out.c1
            have z2 := HQ3.out.c2
            have z3 := HQ3.out.c3
            have z4 := HQ3.out.c4
            have z5 := HQ3.out.c5
            have z6 := HQ3.out.c6
            have z7 := HQ3.out.c7
            have zf := HQ3.out.fz
            have zl := HQ3.out.lt
            go_simp
            have BP := HQ3.out.put M (.slice qa M.base.tab.length qc) (.slice na M.tail.length nc)
            have BT := But.lgputs V2.heap.size V3 M (.slice qa M.base.tab.length qc) (.slice na M.tail.length nc)
            have KF := But.to k3 k2.size BT
            have HTE := HTF.out _ BT
            obtain ⟨WF, hWF⟩ : ∃ z, z = ((((((((V3.setCell ⟨V2.heap.size, 0, none⟩ (.int .i64 M.base.at_)).setCell ⟨V2.heap.size, 1, none⟩ (.int .i64 M.base.clock)).setCell ⟨V2.heap.size, 2, none⟩ (.int .i64 M.base.v0)).setCell ⟨V2.heap.size, 3, none⟩ (.int .i64 M.base.v1)).setCell ⟨V2.heap.size, 4, none⟩ (.int .i64 M.base.v2)).setCell ⟨V2.heap.size, 5, none⟩ (.int .i64 M.base.v3)).setCell ⟨V2.heap.size, 6, none⟩ (.slice qa M.base.tab.length qc)).setCell ⟨V2.heap.size, 7, none⟩ (.slice na M.tail.length nc)) := ⟨_, rfl⟩
            rw [← hWF] at BP BT KF HTE ⊢
            clear hWF z0 z1 z2 z3 z4 z5 z6 z7 zf zl
            refine hK.out _ _ (HSA.out _ KF) (fun hS => ?_)
            clear hK K
            refine wpAnyH_take (i := 13) (v := .int .i64 0) rfl (by kernel_rfl) (by kernel_rfl) (by kernel_rfl) (fun _ _ _ h => h) (Or.inl ⟨by rfl, ?_⟩) hS ?_
            · intro w hS; go_simp
            refine wpAnyH_done (by kernel_rfl) ?_ _
            go_wp2_with fail
            go_meet
            exact ⟨rfl, M, _, _, _, _, _, rfl, HMM, hnc, BP, HTE.1, HTE.2, KF⟩
          · go_simp
            have hb : Keeps V1 (V1.alloc (.cells #[.int .i64 0, .int .i64 0, .int .i64 0, .int .i64 0, .int .i64 0, .int .i64 0, .slice none 0 0, .slice none 0 0] 28)) := (Keeps.refl _).alloc _
            have HQ2 : Hid (LgBox V1.heap.size zeroLg (.slice none 0 0) (.slice none 0 0) (V1.alloc (.cells #[.int .i64 0, .int .i64 0, .int .i64 0, .int .i64 0, .int .i64 0, .int .i64 0, .slice none 0 0, .slice none 0 0] 28))) := LgBox.new V1 zeroLg (.slice none 0 0) (.slice none 0 0) rfl rfl 28
            generalize V1.alloc (.cells #[.int .i64 0, .int .i64 0, .int .i64 0, .int .i64 0, .int .i64 0, .int .i64 0, .slice none 0 0, .slice none 0 0] 28) = V2 at *
            have k2 := k1.trans hb
            clear hb
            refine hK.out _ _ (HSA.out _ k2) (fun hS => ?_)
            clear hK K
            refine wpAnyH_ready (rs := [7]) (by kernel_rfl) (by simp) ?_
            refine AllReadyH.cons rfl (fun K hK => ?_) (AllReadyH.nil)
            go_simp
            refine (HG.out V2 m hm k2).mono ?_
            rintro y V3 ⟨M, qa, qc, na, nc, HMM, hO3, hN3, hnc, rfl, hb⟩
            have k3 := k2.trans hb
            have HQ3 : Hid (LgBox V1.heap.size zeroLg (.slice none 0 0) (.slice none 0 0) V3) := HQ2.out.keep hb
            have HTF : Hid (∀ WF, But V1.heap.size V3 WF → TabAt WF (.slice qa M.base.tab.length qc) M.base.tab ∧ EntsAt WF (.slice na M.tail.length nc) M.tail) := fun WF hF => ⟨(hO3.out.but (by have := HQ2.out.lt; omega) hF).tab, RowAt.of_owns (owns_far hN3.out (by have := HQ2.out.lt; omega) hF)⟩
            clear hb
            go_simp
            refine hK.out _ _ (HSA.out _ k3) (fun hS => ?_)
            clear hK K
            refine wpAnyH_take (i := 8) (v := .tuple #[lgV M (.slice qa M.base.tab.length qc) (.slice na M.tail.length nc), .int .i64 0]) rfl (by kernel_rfl) (by kernel_rfl) (by kernel_rfl) (fun _ _ _ h => h) (Or.inl ⟨by rfl, ?_⟩) hS ?_
            · intro w hS; go_simp
            refine wpAnyH_take (i := 9) (v := lgV M (.slice qa M.base.tab.length qc) (.slice na M.tail.length nc)) rfl (by kernel_rfl) (by kernel_rfl) (by kernel_rfl) (fun _ _ _ h => h) (Or.inl ⟨by rfl, ?_⟩) hS ?_
            · intro w hS; go_simp
            refine wpAnyH_take (i := 10) (v := .int .i64 0) rfl (by kernel_rfl) (by kernel_rfl) (by kernel_rfl) (fun _ _ _ h => h) (Or.inl ⟨by rfl, ?_⟩) hS ?_
            · intro w hS; go_simp
            refine wpAnyH_ready (rs := [12]) (by kernel_rfl) (by simp) ?_
            refine AllReadyH.cons rfl (fun K hK => ?_) (AllReadyH.nil)
            have z0 := HQ3.out.c0
            have z1 := HQ3.out.c1
            have z2 := HQ3.out.c2
            have z3 := HQ3.out.c3
            have z4 := HQ3.out.c4
            have z5 := HQ3.out.c5
            have z6 := HQ3.out.c6
            have z7 := HQ3.out.c7
            have zf := HQ3.out.fz
            have zl := HQ3.out.lt
            go_simp
            have BP := HQ3.out.put M (.slice qa M.base.tab.length qc) (.slice na M.tail.length nc)
            have BT := But.lgputs V1.heap.size V3 M (.slice qa M.base.tab.length qc) (.slice na M.tail.length nc)
            have KF := But.to k3 k1.size BT
            have HTE := HTF.out _ BT
            obtain ⟨WF, hWF⟩ : ∃ z, z = ((((((((V3.setCell ⟨V1.heap.size, 0, none⟩ (.int .i64 M.base.at_)).setCell ⟨V1.heap.size, 1, none⟩ (.int .i64 M.base.clock)).setCell ⟨V1.heap.size, 2, none⟩ (.int .i64 M.base.v0)).setCell ⟨V1.heap.size, 3, none⟩ (.int .i64 M.base.v1)).setCell ⟨V1.heap.size, 4, none⟩ (.int .i64 M.base.v2)).setCell ⟨V1.heap.size, 5, none⟩ (.int .i64 M.base.v3)).setCell ⟨V1.heap.size, 6, none⟩ (.slice qa M.base.tab.length qc)).setCell ⟨V1.heap.size, 7, none⟩ (.slice na M.tail.length nc)) := ⟨_, rfl⟩
            rw [← hWF] at BP BT KF HTE ⊢
            clear hWF z0 z1 z2 z3 z4 z5 z6 z7 zf zl
            refine hK.out _ _ (HSA.out _ KF) (fun hS => ?_)
            clear hK K
            refine wpAnyH_take (i := 13) (v := .int .i64 0) rfl (by kernel_rfl) (by kernel_rfl) (by kernel_rfl) (fun _ _ _ h => h) (Or.inl ⟨by rfl, ?_⟩) hS ?_
            · intro w hS; go_simp
            refine wpAnyH_done (by kernel_rfl) ?_ _
            go_wp2_with fail
            go_meet
            exact ⟨rfl, M, _, _, _, _, _, rfl, HMM, hnc, BP, HTE.1, HTE.2, KF⟩
        · go_simp
          have hb : Keeps V0 (V0.alloc (.cells #[.int .i64 0, .int .i64 0, .int .i64 0, .int .i64 0, .int .i64 0, .int .i64 0, .slice none 0 0, .slice none 0 0] 28)) := (Keeps.refl _).alloc _
          have HQ1 : Hid (LgBox V0.heap.size zeroLg (.slice none 0 0) (.slice none 0 0) (V0.alloc (.cells #[.int .i64 0, .int .i64 0, .int .i64 0, .int .i64 0, .int .i64 0, .int .i64 0, .slice none 0 0, .slice none 0 0] 28))) := LgBox.new V0 zeroLg (.slice none 0 0) (.slice none 0 0) rfl rfl 28
          generalize V0.alloc (.cells #[.int .i64 0, .int .i64 0, .int .i64 0, .int .i64 0, .int .i64 0, .int .i64 0, .slice none 0 0, .slice none 0 0] 28) = V1 at *
          have k1 := k0.trans hb
          clear hb
          refine hK.out _ _ (HSA.out _ k1) (fun hS => ?_)
          clear hK K
          refine wpAnyH_ready (rs := [6]) (by kernel_rfl) (by simp) ?_
          refine AllReadyH.cons rfl (fun K hK => ?_) (AllReadyH.nil)
          go_simp
          refine (choose_n n (l.tail.length + 1) V1 n0 n1 (by omega) (by omega)).mono ?_
          rintro y V2 ⟨rm, hr0, hr1, rfl, hw⟩
          have hb : Keeps V1 V2 := by rw [hw]; exact Keeps.refl _
          obtain ⟨m, rfl⟩ : ∃ m : Nat, rm = m := ⟨rm.toNat, by omega⟩
          have hm : m ≤ l.tail.length := by omega
          clear hr0 hr1 hw
          have k2 := k1.trans hb
          have HQ2 : Hid (LgBox V0.heap.size zeroLg (.slice none 0 0) (.slice none 0 0) V2) := HQ1.out.keep hb
          clear hb
          go_simp
          refine hK.out _ _ (HSA.out _ k2) (fun hS => ?_)
          clear hK K
          refine wpAnyH_ready (rs := [7]) (by kernel_rfl) (by simp) ?_
          refine AllReadyH.cons rfl (fun K hK => ?_) (AllReadyH.nil)
          go_simp
          refine (HG.out V2 m hm k2).mono ?_
          rintro y V3 ⟨M, qa, qc, na, nc, HMM, hO3, hN3, hnc, rfl, hb⟩
          have k3 := k2.trans hb
          have HQ3 : Hid (LgBox V0.heap.size zeroLg (.slice none 0 0) (.slice none 0 0) V3) := HQ2.out.keep hb
          have HTF : Hid (∀ WF, But V0.heap.size V3 WF → TabAt WF (.slice qa M.base.tab.length qc) M.base.tab ∧ EntsAt WF (.slice na M.tail.length nc) M.tail) := fun WF hF => ⟨(hO3.out.but (by have := HQ2.out.lt; omega) hF).tab, RowAt.of_owns (owns_far hN3.out (by have := HQ2.out.lt; omega) hF)⟩
          clear hb
          go_simp
          refine hK.out _ _ (HSA.out _ k3) (fun hS => ?_)
          clear hK K
          refine wpAnyH_take (i := 8) (v := .tuple #[lgV M (.slice qa M.base.tab.length qc) (.slice na M.tail.length nc), .int .i64 0]) rfl (by kernel_rfl) (by kernel_rfl) (by kernel_rfl) (fun _ _ _ h => h) (Or.inl ⟨by rfl, ?_⟩) hS ?_
          · intro w hS; go_simp
          refine wpAnyH_take (i := 9) (v := lgV M (.slice qa M.base.tab.length qc) (.slice na M.tail.length nc)) rfl (by kernel_rfl) (by kernel_rfl) (by kernel_rfl) (fun _ _ _ h => h) (Or.inl ⟨by rfl, ?_⟩) hS ?_
          · intro w hS; go_simp
          refine wpAnyH_take (i := 10) (v := .int .i64 0) rfl (by kernel_rfl) (by kernel_rfl) (by kernel_rfl) (fun _ _ _ h => h) (Or.inl ⟨by rfl, ?_⟩) hS ?_
          · intro w hS; go_simp
          refine wpAnyH_ready (rs := [12]) (by kernel_rfl) (by simp) ?_
          refine AllReadyH.cons rfl (fun K hK => ?_) (AllReadyH.nil)
          have z0 := HQ3.out.c0
          have z1 := HQ3.out.c1
          have z2 := HQ3.out.c2
          have z3 := HQ3.out.c3
          have z4 := HQ3.out.c4
          have z5 := HQ3.out.c5
          have z6 := HQ3.out.c6
          have z7 := HQ3.out.c7
          have zf := HQ3.out.fz
          have zl := HQ3.out.lt
          go_simp
          have BP := HQ3.out.put M (.slice qa M.base.tab.length qc) (.slice na M.tail.length nc)
          have BT := But.lgputs V0.heap.size V3 M (.slice qa M.base.tab.length qc) (.slice na M.tail.length nc)
          have KF := But.to k3 k0.size BT
          have HTE := HTF.out _ BT
          obtain ⟨WF, hWF⟩ : ∃ z, z = ((((((((V3.setCell ⟨V0.heap.size, 0, none⟩ (.int .i64 M.base.at_)).setCell ⟨V0.heap.size, 1, none⟩ (.int .i64 M.base.clock)).setCell ⟨V0.heap.size, 2, none⟩ (.int .i64 M.base.v0)).setCell ⟨V0.heap.size, 3, none⟩ (.int .i64 M.base.v1)).setCell ⟨V0.heap.size, 4, none⟩ (.int .i64 M.base.v2)).setCell ⟨V0.heap.size, 5, none⟩ (.int .i64 M.base.v3)).setCell ⟨V0.heap.size, 6, none⟩ (.slice qa M.base.tab.length qc)).setCell ⟨V0.heap.size, 7, none⟩ (.slice na M.tail.length nc)) := ⟨_, rfl⟩
          rw [← hWF] at BP BT KF HTE ⊢
          clear hWF z0 z1 z2 z3 z4 z5 z6 z7 zf zl
          refine hK.out _ _ (HSA.out _ KF) (fun hS => ?_)
          clear hK K
          refine wpAnyH_take (i := 13) (v := .int .i64 0) rfl (by kernel_rfl) (by kernel_rfl) (by kernel_rfl) (fun _ _ _ h => h) (Or.inl ⟨by rfl, ?_⟩) hS ?_
          · intro w hS; go_simp
          refine wpAnyH_done (by kernel_rfl) ?_ _
          go_wp2_with fail
          go_meet
          exact ⟨rfl, M, _, _, _, _, _, rfl, HMM, hnc, BP, HTE.1, HTE.2, KF⟩
      case rest =>
        obtain ⟨rfl, M, mb, qa, qc, na, nc, rfl, HMM, hnc, hMB, hMT, hME, hkc⟩ := hcut
        obtain ⟨w4, hw4⟩ : ∃ z, z = wc := ⟨_, rfl⟩
        rw [← hw4] at hMB hMT hME hkc ⊢
        clear hw4
        have HK4 : Hid (Keeps w w4) := HK2.out.trans hkc
        have HB4 := (show Hid _ from HB2.out.keep hkc)
        have HC4 := (show Hid _ from HC2.out.keep hkc)
        have HE4 := (show Hid _ from HE2.out.keep hkc)
        have HFM : Hid (Calls Tryz.prog 6 #[lgV M (.slice qa M.base.tab.length qc) (.slice na M.tail.length nc), stV s (.slice ya s.tab.length yc)] w4 fun e w' => e = .returned (.tuple #[.bool true, .int .i64 0]) ∧ Keeps w4 w') := by
          have := node_fits_c M s _ _ na nc w4 hMT hME (HY.out.keep HK4.out) hnc
          rw [HMM.out.1, HMM.out.2] at this
          exact this
        have m0 := hMB.c0
        have m1 := hMB.c1
        have m2 := hMB.c2
        have m3 := hMB.c3
        have m4 := hMB.c4
        have m5 := hMB.c5
        have m6 := hMB.c6
        have m7 := hMB.c7
        have ml := hMB.lt
        have c0 := HC4.out.c0
        have c1 := HC4.out.c1
        have c2 := HC4.out.c2
        have c3 := HC4.out.c3
        have c4 := HC4.out.c4
        have c5 := HC4.out.c5
        have c6 := HC4.out.c6
        have cl := HC4.out.lt
        clear hMB hMT hME hkc HSA HG HK2 HB2 HC2 HE2 HMM hnc
        clear w2
        go_wp2_with fail
        refine HFM.out.mono ?_
        rintro y w5 ⟨rfl, hb⟩
        have HK5 : Hid (Keeps w w5) := HK4.out.trans hb
        have HC5 := (show Hid _ from HC4.out.keep hb)
        have hB := HB4.out.keep hb
        have hE := HE4.out.keep hb
        clear hb HFM HK4 HC4 HB4 HE4 m0 m1 m2 m3 m4 m5 m6 m7 ml c0 c1 c2 c3 c4 c5 c6 cl
        clear w4
        have b0 := hB.c0
        have b1 := hB.c1
        have b2 := hB.c2
        have b3 := hB.c3
        have b4 := hB.c4
        have b5 := hB.c5
        have b6 := hB.c6
        have b7 := hB.c7
        have bl := hB.lt
        have e0 := hE.c0
        have e1 := hE.c1
        have e2 := hE.c2
        have e3 := hE.c3
        have e4 := hE.c4
        have e5 := hE.c5
        have e6 := hE.c6
        have e7 := hE.c7
        have e8 := hE.c8
        have el := hE.lt
        clear hB hE
        go_wp2_with fail
        refine (HPP.out w5 HK5.out).mono ?_
        rintro y w6 ⟨er, an, P, pa, pc, oa, oc, HPF, hPT, hPE, hoc, rfl, hb⟩
        have HK6 : Hid (Keeps w w6) := HK5.out.trans hb
        have HC6 := (show Hid _ from HC5.out.keep hb)
        have HPT : Hid (TabAt w6 (.slice pa P.base.tab.length pc) P.base.tab) := hPT
        have HPE : Hid (EntsAt w6 (.slice oa P.tail.length oc) P.tail) := hPE
        clear hb hPT hPE HPP HK5 HC5 b0 b1 b2 b3 b4 b5 b6 b7 bl e0 e1 e2 e3 e4 e5 e6 e7 e8 el
        clear w5
        cases q3 : (er == 0) with
        | false =>
          have q3' : (er != 0) = true := by simp [bne, q3]
          go_wp2_with fail
          refine (node_begun _).mono ?_
          rintro y w7 ⟨rfl, hb⟩
          have HKz : Hid (Keeps w w7) := (HK6.out.alloc _).trans hb
          clear hb
          go_wp2_with fail
          go_ret
          exact ⟨rfl, HKz.out⟩
        | true =>
          have q3' : (er != 0) = false := by simp [bne, q3]
          have q4 : er = 0 := by simpa using q3
          have HPG := (show Hid _ from HPF.out q4)
          have k67 : Keeps w6 (w6.alloc (.cells #[.int .i64 P.base.at_, .int .i64 P.base.clock, .int .i64 P.base.v0, .int .i64 P.base.v1, .int .i64 P.base.v2, .int .i64 P.base.v3, .slice pa P.base.tab.length pc, .slice oa P.tail.length oc] 28)) := (Keeps.refl _).alloc _
          have C7 := HC6.out
          have c0 := C7.c0
          have c1 := C7.c1
          have c2 := C7.c2
          have c3 := C7.c3
          have c4 := C7.c4
          have c5 := C7.c5
          have c6 := C7.c6
          have cl := C7.lt
          clear C7
          go_wp2_with fail
          generalize (w6.alloc (.cells #[.int .i64 P.base.at_, .int .i64 P.base.clock, .int .i64 P.base.v0, .int .i64 P.base.v1, .int .i64 P.base.v2, .int .i64 P.base.v3, .slice pa P.base.tab.length pc, .slice oa P.tail.length oc] 28)) = w7 at *
          have HFP : Hid (Calls Tryz.prog 6 #[lgV P (.slice pa P.base.tab.length pc) (.slice oa P.tail.length oc), stV s (.slice ya s.tab.length yc)] w7 fun e w' => e = .returned (.tuple #[.bool true, .int .i64 0]) ∧ Keeps w7 w') := by
            have := node_fits_c P s _ _ oa oc w7 (HPT.out.keep k67) (HPE.out.keep k67) (HY.out.keep (HK6.out.trans k67)) hoc
            rw [HPG.out.1, HPG.out.2] at this
            exact this
          refine HFP.out.mono ?_
          rintro y w8 ⟨rfl, hb⟩
          have HK8 : Hid (Keeps w w8) := HK6.out.trans (k67.trans hb)
          clear hb k67 HFP c0 c1 c2 c3 c4 c5 c6 cl
          go_wp2_with fail
          refine (node_begun _).mono ?_
          rintro y w9 ⟨rfl, hb⟩
          have HKz : Hid (Keeps w w9) := (HK8.out).trans hb
          clear hb
          go_wp2_with fail
          go_ret
          exact ⟨rfl, HKz.out⟩
end Go.Proofs.YteabfjpajgakiaeGreat
