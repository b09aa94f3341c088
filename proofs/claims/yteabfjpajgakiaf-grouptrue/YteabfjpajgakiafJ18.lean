/- NoA, NoB, GrA0, GrA, GrB, GrC, OpenGr, GrC2, GrD, GrE, GrF. -/
import Derived.Deep.MidRow
import Derived.Deep.DeepCutAuto
import Derived.Deep.RegionHeld3
import Derived.Test.YteabfjpajgakiafJ02
import Derived.Test.YteabfjpajgakiafJ03
import Derived.Test.YteabfjpajgakiafJ12
import Derived.Test.YteabfjpajgakiafJ15
import Derived.Test.YteabfjpajgakiafJ17
/- node.isBehind, checkBoth, fits, Fits; the reference's NodeError, fits, FitsOf. -/
set_option linter.unusedSimpArgs false
set_option linter.unusedVariables false
set_option maxRecDepth 10000
namespace Go.Proofs.Yteabfjpajgakiaf
open Go.RowKit

def nodeErr (l : Lg) (s : St) : Int := if lgErr l == 0 then stErr s else lgErr l
/-- Whether a state fits a log. -/
def fitsB (l : Lg) (s : St) : Bool := if s.at_ < l.base.at_ then true else if (l.tail.length : Int) < s.at_ - l.base.at_ then false else sameSt (runSt l.base (l.tail.take (s.at_ - l.base.at_).toNat)) s
def fitsOk (l : Lg) (s : St) : Bool := if nodeErr l s == 0 then fitsB l s else false

theorem node_behind (l : Lg) (s : St) (x t y : Value) (w : World) (hx : x.cells = #[x]) (ht : t.cells = #[t]) (hy : y.cells = #[y]) : Calls Try.prog 68 #[lgV l x t, stV s y] w fun e w' => e = .returned (.bool (decide (s.at_ < l.base.at_))) ∧ Keeps w w' := by
  go_enter Try.func68, Try.ntmps68
  go_wp2_with fail
  go_ret
  exact ⟨rfl, ((Keeps.refl _).alloc _).alloc _⟩

set_option maxHeartbeats 2000000 in
theorem node_both (l : Lg) (s : St) (x y : Value) (ta : Option Addr) (tc : Nat) (w : World) (hT : TabAt w x l.base.tab) (hL : EntsAt w (.slice ta l.tail.length tc) l.tail) (hY : TabAt w y s.tab) : Calls Try.prog 61 #[lgV l x (.slice ta l.tail.length tc), stV s y] w fun e w' => e = .returned (.int .i64 (nodeErr l s)) ∧ Keeps w w' := by
  obtain ⟨xa, xc, rfl, _⟩ := hT.len
  obtain ⟨ya, yc, rfl, _⟩ := hY.len
  have HT : Hid (TabAt w (.slice xa l.base.tab.length xc) l.base.tab) := hT
  have HL : Hid (EntsAt w (.slice ta l.tail.length tc) l.tail) := hL
  have HY : Hid (TabAt w (.slice ya s.tab.length yc) s.tab) := hY
  have hlen := hL.2.1
  unfold maxLen at hlen
  clear hT hL hY
  have HE : Hid (nodeErr l s = if lgErr l == 0 then stErr s else lgErr l) := rfl
  go_enter Try.func61, Try.ntmps61
  go_wp2_with fail
  obtain ⟨W1, hW1⟩ : ∃ W1, W1 = (w.alloc (.cells #[.int .i64 l.base.at_, .int .i64 l.base.clock, .int .i64 l.base.v0, .int .i64 l.base.v1, .int .i64 l.base.v2, .int .i64 l.base.v3, .slice xa l.base.tab.length xc, .slice ta l.tail.length tc] 28)).alloc (.cells #[.int .i64 s.at_, .int .i64 s.clock, .int .i64 s.v0, .int .i64 s.v1, .int .i64 s.v2, .int .i64 s.v3, .slice ya s.tab.length yc] 25) := ⟨_, rfl⟩
  have k1 : Keeps w W1 := by rw [hW1]; exact ((Keeps.refl _).alloc _).alloc _
  have B1 : LgBox w.heap.size l (.slice xa l.base.tab.length xc) (.slice ta l.tail.length tc) W1 := by rw [hW1]; exact (LgBox.new w l _ _ rfl rfl 28).keep ((Keeps.refl _).alloc _)
  have C1 : StBox (w.heap.size + 1) s (.slice ya s.tab.length yc) W1 := by
    rw [hW1]
    have := StBox.new (w.alloc (.cells #[.int .i64 l.base.at_, .int .i64 l.base.clock, .int .i64 l.base.v0, .int .i64 l.base.v1, .int .i64 l.base.v2, .int .i64 l.base.v3, .slice xa l.base.tab.length xc, .slice ta l.tail.length tc] 28)) s (.slice ya s.tab.length yc) 25
    simp only [World.size_alloc] at this
    exact this
  rw [← hW1]
  clear hW1
  refine (pack_check l _ _ W1 (HT.out.keep k1) (HL.out.keep k1)).mono ?_
  rintro e w1 ⟨rfl, hb⟩
  have HK1 : Hid (Keeps w w1) := k1.trans hb
  have C2 := C1.keep hb
  have c0 := C2.c0
  have c1 := C2.c1
  have c2 := C2.c2
  have c3 := C2.c3
  have c4 := C2.c4
  have c5 := C2.c5
  have c6 := C2.c6
  have cl := C2.lt
  clear k1 B1 C1 hb C2
  cases q1 : (lgErr l == 0) with
  | false =>
    have q1' : (lgErr l != 0) = true := by simp [bne, q1]
    have HE2 : Hid (nodeErr l s = lgErr l) := by show _ = _; rw [HE.out, q1]; rfl
    go_wp2_with fail
    go_ret
    exact ⟨ret_int HE2.out.symm, HK1.out⟩
  | true =>
    have q1' : (lgErr l != 0) = false := by simp [bne, q1]
    have HE2 : Hid (nodeErr l s = stErr s) := by show _ = _; rw [HE.out, q1]; rfl
    go_wp2_with fail
    refine (state_check s _ w1 (HY.out.keep HK1.out)).mono ?_
    rintro e w2 ⟨rfl, hb⟩
    have HK2 : Hid (Keeps w w2) := HK1.out.trans hb
    clear hb
    go_wp2_with fail
    go_ret
    exact ⟨ret_int HE2.out.symm, HK2.out⟩

set_option maxHeartbeats 4000000 in
theorem node_fits (l : Lg) (s : St) (x y : Value) (ta : Option Addr) (tc : Nat) (w : World) (hT : TabAt w x l.base.tab) (hL : EntsAt w (.slice ta l.tail.length tc) l.tail) (hY : TabAt w y s.tab) (hl0 : lgErr l = 0) (hs0 : stErr s = 0) (hcap : l.tail.length ≤ tc) : Calls Try.prog 62 #[lgV l x (.slice ta l.tail.length tc), stV s y] w fun e w' => e = .returned (.bool (fitsB l s)) ∧ Keeps w w' := by
  obtain ⟨xa, xc, rfl, _⟩ := hT.len
  obtain ⟨ya, yc, rfl, _⟩ := hY.len
  have HT : Hid (TabAt w (.slice xa l.base.tab.length xc) l.base.tab) := hT
  have HL : Hid (EntsAt w (.slice ta l.tail.length tc) l.tail) := hL
  have HY : Hid (TabAt w (.slice ya s.tab.length yc) s.tab) := hY
  have hlen := hL.2.1
  unfold maxLen at hlen
  clear hT hL hY
  obtain ⟨⟨sa0, sa1⟩, _⟩ := stErr_bounds hs0
  obtain ⟨⟨la0, la1⟩, _⟩ := stErr_bounds (fold_right hl0).1
  have HF : Hid (fitsB l s = if s.at_ < l.base.at_ then true else if (l.tail.length : Int) < s.at_ - l.base.at_ then false else sameSt (runSt l.base (l.tail.take (s.at_ - l.base.at_).toNat)) s) := rfl
  have HL0 : Hid (lgErr l = 0) := hl0
  clear hl0 hs0
  go_enter Try.func62, Try.ntmps62
  go_wp2_with fail
  obtain ⟨W1, hW1⟩ : ∃ W1, W1 = (w.alloc (.cells #[.int .i64 l.base.at_, .int .i64 l.base.clock, .int .i64 l.base.v0, .int .i64 l.base.v1, .int .i64 l.base.v2, .int .i64 l.base.v3, .slice xa l.base.tab.length xc, .slice ta l.tail.length tc] 28)).alloc (.cells #[.int .i64 s.at_, .int .i64 s.clock, .int .i64 s.v0, .int .i64 s.v1, .int .i64 s.v2, .int .i64 s.v3, .slice ya s.tab.length yc] 25) := ⟨_, rfl⟩
  have k1 : Keeps w W1 := by rw [hW1]; exact ((Keeps.refl _).alloc _).alloc _
  have B1 : LgBox w.heap.size l (.slice xa l.base.tab.length xc) (.slice ta l.tail.length tc) W1 := by rw [hW1]; exact (LgBox.new w l _ _ rfl rfl 28).keep ((Keeps.refl _).alloc _)
  have C1 : StBox (w.heap.size + 1) s (.slice ya s.tab.length yc) W1 := by
    rw [hW1]
    have := StBox.new (w.alloc (.cells #[.int .i64 l.base.at_, .int .i64 l.base.clock, .int .i64 l.base.v0, .int .i64 l.base.v1, .int .i64 l.base.v2, .int .i64 l.base.v3, .slice xa l.base.tab.length xc, .slice ta l.tail.length tc] 28)) s (.slice ya s.tab.length yc) 25
    simp only [World.size_alloc] at this
    exact this
  rw [← hW1]
  clear hW1
  refine (node_behind l s _ _ _ W1 rfl rfl rfl).mono ?_
  rintro e w1 ⟨rfl, hb⟩
  have HK1 : Hid (Keeps w w1) := k1.trans hb
  have HB1 : Hid (LgBox w.heap.size l (.slice xa l.base.tab.length xc) (.slice ta l.tail.length tc) w1) := B1.keep hb
  have HC1 : Hid (StBox (w.heap.size + 1) s (.slice ya s.tab.length yc) w1) := C1.keep hb
  clear k1 B1 C1 hb
  clear W1
  by_cases h1 : s.at_ < l.base.at_
  · have hd : decide (s.at_ < l.base.at_) = true := by simpa using h1
    have HF2 : Hid (fitsB l s = true) := by show _ = _; rw [HF.out, if_pos h1]
    rw [hd]
    go_wp2_with fail
    go_ret
    rw [HF2.out]
    exact ⟨rfl, HK1.out⟩
  · have hd : decide (s.at_ < l.base.at_) = false := by simpa using h1
    rw [hd]
    have b0 := HB1.out.c0
    have b7 := HB1.out.c7
    have bl := HB1.out.lt
    have c0 := HC1.out.c0
    have cl := HC1.out.lt
    by_cases h2 : (l.tail.length : Int) < s.at_ - l.base.at_
    · have HF2 : Hid (fitsB l s = false) := by show _ = _; rw [HF.out, if_neg h1, if_pos h2]
      go_wp2_with fail
      go_ret
      rw [HF2.out]
      exact ⟨rfl, HK1.out⟩
    · obtain ⟨n, hn'⟩ : ∃ n : Nat, s.at_ - l.base.at_ = n := ⟨(s.at_ - l.base.at_).toNat, by omega⟩
      have hn : n ≤ l.tail.length := by omega
      obtain ⟨r, hr'⟩ : ∃ r, r = runSt l.base (l.tail.take n) := ⟨_, rfl⟩
      obtain ⟨rn, hrn⟩ : ∃ rn, rn = runAns l.base (l.tail.take n) := ⟨_, rfl⟩
      have HF2 : Hid (fitsB l s = sameSt r s) := by
        show _ = _
        rw [HF.out, if_neg h1, if_neg h2, hr', hn']
        simp
      have hnl : (n : Int) ≤ (l.tail.length : Int) := by omega
      have hnc : (n : Int) ≤ (tc : Int) := by omega
      have hz9 : ∀ w, (Go.sizeOf 35).run Try.prog w = .ok 9 w := fun _ => by kernel_rfl
      obtain ⟨W1, hW1⟩ : ∃ z, z = w1 := ⟨_, rfl⟩
      rw [← hW1] at HK1 HB1 HC1 b0 b7 bl c0 cl ⊢
      clear hW1
      have HSA : Hid (∀ W, Keeps W1 W → W.cell? ⟨w.heap.size, 0, none⟩ = some (.int .i64 l.base.at_) ∧ W.cell? ⟨w.heap.size, 1, none⟩ = some (.int .i64 l.base.clock) ∧ W.cell? ⟨w.heap.size, 2, none⟩ = some (.int .i64 l.base.v0) ∧ W.cell? ⟨w.heap.size, 3, none⟩ = some (.int .i64 l.base.v1) ∧ W.cell? ⟨w.heap.size, 4, none⟩ = some (.int .i64 l.base.v2) ∧ W.cell? ⟨w.heap.size, 5, none⟩ = some (.int .i64 l.base.v3) ∧ W.cell? ⟨w.heap.size, 6, none⟩ = some (.slice xa l.base.tab.length xc) ∧ W.cell? ⟨w.heap.size, 7, none⟩ = some (.slice ta l.tail.length tc)) := fun W hk => have B := HB1.out.keep hk; ⟨B.c0, B.c1, B.c2, B.c3, B.c4, B.c5, B.c6, B.c7⟩
      have HC : Hid (∀ W, Keeps W1 W → Calls Try.prog 55 #[stV l.base (.slice xa l.base.tab.length xc), .slice ta n tc] W fun y w' => ∃ qa qc ra rc, Hid (OwnTab W.heap.size w' (.slice qa r.tab.length qc) r.tab) ∧ Hid (w'.ownsRow W.heap.size 3 1 (.slice ra rn.length rc) rn.length (intCells rn)) ∧ y = .returned (.tuple #[stV r (.slice qa r.tab.length qc), .slice ra rn.length rc, .int .i64 0]) ∧ Keeps W w') := by
        intro W hk
        rw [hr', hrn]
        exact all_ok (split_right HL0.out n).1 _ _ W (HT.out.keep (HK1.out.trans hk)) (ents_prefix (HL.out.keep (HK1.out.trans hk)) hn)
      have hgt : ¬ (l.tail.length : Int) < (n : Int) := by omega
      clear hr' hrn h2
      go_wp2_with fail
      clear b0 b7 bl c0 cl
      go_cut [6] (fun p wc => ∃ qb qa qc, p = .pointer (some ⟨qb, 0, none⟩) ∧ StBox qb r (.slice qa r.tab.length qc) wc ∧ OwnTab W1.heap.size wc (.slice qa r.tab.length qc) r.tab ∧ Keeps W1 wc)
      case first =>
        obtain ⟨V0, hV0⟩ : ∃ z, z = W1.drew := ⟨_, rfl⟩
        have k0 : Keeps W1 V0 := by rw [hV0]; exact (Keeps.refl _).drew
        refine wp_region_held_drew (S := fun W => W.cell? ⟨w.heap.size, 0, none⟩ = some (.int .i64 l.base.at_) ∧ W.cell? ⟨w.heap.size, 1, none⟩ = some (.int .i64 l.base.clock) ∧ W.cell? ⟨w.heap.size, 2, none⟩ = some (.int .i64 l.base.v0) ∧ W.cell? ⟨w.heap.size, 3, none⟩ = some (.int .i64 l.base.v1) ∧ W.cell? ⟨w.heap.size, 4, none⟩ = some (.int .i64 l.base.v2) ∧ W.cell? ⟨w.heap.size, 5, none⟩ = some (.int .i64 l.base.v3) ∧ W.cell? ⟨w.heap.size, 6, none⟩ = some (.slice xa l.base.tab.length xc) ∧ W.cell? ⟨w.heap.size, 7, none⟩ = some (.slice ta l.tail.length tc)) (by kernel_rfl) (HSA.out _ (Keeps.refl _).drew) (fun hS => ?_)
        rw [← hV0] at hS ⊢
        clear hV0
        refine wpAnyH_take (i := 0) (v := .pointer (some ⟨w.heap.size, 0, none⟩)) rfl (by kernel_rfl) (by kernel_rfl) (by kernel_rfl) (fun _ _ _ h => h) (Or.inl ⟨by rfl, ?_⟩) hS ?_
        · intro w hS; go_simp
        refine wpAnyH_take (i := 1) (v := stV l.base (.slice xa l.base.tab.length xc)) rfl (by kernel_rfl) (by kernel_rfl) (by kernel_rfl) (fun _ _ _ h => h) (Or.inl ⟨by rfl, ?_⟩) hS ?_
        · intro w hS; go_simp
        refine wpAnyH_take (i := 2) (v := .pointer (some ⟨w.heap.size, 7, none⟩)) rfl (by kernel_rfl) (by kernel_rfl) (by kernel_rfl) (fun _ _ _ h => h) (Or.inl ⟨by rfl, ?_⟩) hS ?_
        · intro w hS; go_simp
        refine wpAnyH_take (i := 3) (v := .slice ta l.tail.length tc) rfl (by kernel_rfl) (by kernel_rfl) (by kernel_rfl) (fun _ _ _ h => h) (Or.inl ⟨by rfl, ?_⟩) hS ?_
        · intro w hS; go_simp
        refine wpAnyH_take (i := 4) (v := .int .i64 n) rfl (by kernel_rfl) (by kernel_rfl) (by kernel_rfl) (fun _ _ _ h => h) (Or.inl ⟨by rfl, ?_⟩) hS ?_
        · intro w hS; go_simp
        refine wpAnyH_take (i := 5) (v := .slice (if tc = 0 then ta else Option.map (fun x : Addr => x.add 0) ta) n tc) rfl (by kernel_rfl) (by kernel_rfl) (by kernel_rfl) (fun _ _ _ h => h) (Or.inl ⟨by rfl, ?_⟩) hS ?_
        · intro w hS; go_simp
        refine wpAnyH_ready (rs := [6, 11]) (by kernel_rfl) (by simp) ?_
        refine AllReadyH.cons rfl (fun K hK => ?_) (AllReadyH.cons rfl (fun K hK => ?_) (AllReadyH.nil))
        · go_simp
          refine (HC.out V0 k0).mono ?_
          rintro y V1 ⟨qa, qc, ra, rc, HO1, HN1, rfl, hb⟩
          have k1 := k0.trans hb
          go_simp
          refine hK.out _ _ (HSA.out _ k1) (fun hS => ?_)
          clear hK K
          clear hb
          refine wpAnyH_take (i := 7) (v := .tuple #[stV r (.slice qa r.tab.length qc), .slice ra rn.length rc, .int .i64 0]) rfl (by kernel_rfl) (by kernel_rfl) (by kernel_rfl) (fun _ _ _ h => h) (Or.inl ⟨by rfl, ?_⟩) hS ?_
          · intro w hS; go_simp
          refine wpAnyH_take (i := 8) (v := stV r (.slice qa r.tab.length qc)) rfl (by kernel_rfl) (by kernel_rfl) (by kernel_rfl) (fun _ _ _ h => h) (Or.inl ⟨by rfl, ?_⟩) hS ?_
          · intro w hS; go_simp
          refine wpAnyH_take (i := 9) (v := .slice ra rn.length rc) rfl (by kernel_rfl) (by kernel_rfl) (by kernel_rfl) (fun _ _ _ h => h) (Or.inl ⟨by rfl, ?_⟩) hS ?_
          · intro w hS; go_simp
          refine wpAnyH_take (i := 10) (v := .int .i64 0) rfl (by kernel_rfl) (by kernel_rfl) (by kernel_rfl) (fun _ _ _ h => h) (Or.inl ⟨by rfl, ?_⟩) hS ?_
          · intro w hS; go_simp
          refine wpAnyH_ready (rs := [11]) (by kernel_rfl) (by simp) ?_
          refine AllReadyH.cons rfl (fun K hK => ?_) (AllReadyH.nil)
          go_simp
          have hb : Keeps V1 (V1.alloc (.cells #[.int .i64 0, .int .i64 0, .int .i64 0, .int .i64 0, .int .i64 0, .int .i64 0, .slice none 0 0] 25)) := (Keeps.refl _).alloc _
          have HQ2 : Hid (StBox V1.heap.size zeroSt (.slice none 0 0) (V1.alloc (.cells #[.int .i64 0, .int .i64 0, .int .i64 0, .int .i64 0, .int .i64 0, .int .i64 0, .slice none 0 0] 25))) := StBox.new V1 zeroSt (.slice none 0 0) 25
          generalize V1.alloc (.cells #[.int .i64 0, .int .i64 0, .int .i64 0, .int .i64 0, .int .i64 0, .int .i64 0, .slice none 0 0] 25) = V2 at *
          have k2 := k1.trans hb
          refine hK.out _ _ (HSA.out _ k2) (fun hS => ?_)
          clear hK K
          have HTF : Hid (∀ WF, But V1.heap.size V2 WF → OwnTab W1.heap.size WF (.slice qa r.tab.length qc) r.tab) := fun WF hF => (HO1.out.keep (But.to hb (Nat.le_refl _) hF)).base k0.size
          clear hb
          refine wpAnyH_ready (rs := [12]) (by kernel_rfl) (by simp) ?_
          refine AllReadyH.cons rfl (fun K hK => ?_) (AllReadyH.nil)
          have z0 := HQ2.out.c0
          have z1 := HQ2.out.c1
          have z2 := HQ2.out.c2
          have z3 := HQ2.out.c3
          have z4 := HQ2.out.c4
          have z5 := HQ2.out.c5
          have z6 := HQ2.out.c6
          have zf := HQ2.out.fz
          have zl := HQ2.out.lt
          go_simp
          have BP := HQ2.out.put r (.slice qa r.tab.length qc)
          have BT := But.puts (b := V1.heap.size) V2 r (.slice qa r.tab.length qc)
          have KF := But.to k2 k1.size BT
          have HTE := HTF.out _ BT
          obtain ⟨WF, hWF⟩ : ∃ z, z = (((((((V2.setCell ⟨V1.heap.size, 0, none⟩ (.int .i64 r.at_)).setCell ⟨V1.heap.size, 1, none⟩ (.int .i64 r.clock)).setCell ⟨V1.heap.size, 2, none⟩ (.int .i64 r.v0)).setCell ⟨V1.heap.size, 3, none⟩ (.int .i64 r.v1)).setCell ⟨V1.heap.size, 4, none⟩ (.int .i64 r.v2)).setCell ⟨V1.heap.size, 5, none⟩ (.int .i64 r.v3)).setCell ⟨V1.heap.size, 6, none⟩ (.slice qa r.tab.length qc)) := ⟨_, rfl⟩
          rw [← hWF] at BP BT KF HTE ⊢
          clear hWF z0 z1 z2 z3 z4 z5 z6 zf zl
          refine hK.out _ _ (HSA.out _ KF) (fun hS => ?_)
          clear hK K
          refine wpAnyH_take (i := 13) (v := .slice ra rn.length rc) rfl (by kernel_rfl) (by kernel_rfl) (by kernel_rfl) (fun _ _ _ h => h) (Or.inl ⟨by rfl, ?_⟩) hS ?_
          · intro w hS; go_simp
          refine wpAnyH_take (i := 14) (v := .int .i64 0) rfl (by kernel_rfl) (by kernel_rfl) (by kernel_rfl) (fun _ _ _ h => h) (Or.inl ⟨by rfl, ?_⟩) hS ?_
          · intro w hS; go_simp
          refine wpAnyH_done (by kernel_rfl) ?_ _
          go_wp2_with fail
          go_meet
          exact ⟨_, _, _, rfl, BP, HTE, KF⟩
        · go_simp
          have hb : Keeps V0 (V0.alloc (.cells #[.int .i64 0, .int .i64 0, .int .i64 0, .int .i64 0, .int .i64 0, .int .i64 0, .slice none 0 0] 25)) := (Keeps.refl _).alloc _
          have HQ1 : Hid (StBox V0.heap.size zeroSt (.slice none 0 0) (V0.alloc (.cells #[.int .i64 0, .int .i64 0, .int .i64 0, .int .i64 0, .int .i64 0, .int .i64 0, .slice none 0 0] 25))) := StBox.new V0 zeroSt (.slice none 0 0) 25
          generalize V0.alloc (.cells #[.int .i64 0, .int .i64 0, .int .i64 0, .int .i64 0, .int .i64 0, .int .i64 0, .slice none 0 0] 25) = V1 at *
          have k1 := k0.trans hb
          refine hK.out _ _ (HSA.out _ k1) (fun hS => ?_)
          clear hK K
          clear hb
          refine wpAnyH_ready (rs := [6]) (by kernel_rfl) (by simp) ?_
          refine AllReadyH.cons rfl (fun K hK => ?_) (AllReadyH.nil)
          go_simp
          refine (HC.out V1 k1).mono ?_
          rintro y V2 ⟨qa, qc, ra, rc, HO2, HN2, rfl, hb⟩
          have k2 := k1.trans hb
          go_simp
          refine hK.out _ _ (HSA.out _ k2) (fun hS => ?_)
          clear hK K
          have HQ2 : Hid (StBox V0.heap.size zeroSt (.slice none 0 0) V2) := HQ1.out.keep hb
          have HTF : Hid (∀ WF, But V0.heap.size V2 WF → OwnTab W1.heap.size WF (.slice qa r.tab.length qc) r.tab) := fun WF hF => (HO2.out.but (by have := HQ1.out.lt; omega) hF).base (by have := k1.size; omega)
          clear hb
          refine wpAnyH_take (i := 7) (v := .tuple #[stV r (.slice qa r.tab.length qc), .slice ra rn.length rc, .int .i64 0]) rfl (by kernel_rfl) (by kernel_rfl) (by kernel_rfl) (fun _ _ _ h => h) (Or.inl ⟨by rfl, ?_⟩) hS ?_
          · intro w hS; go_simp
          refine wpAnyH_take (i := 8) (v := stV r (.slice qa r.tab.length qc)) rfl (by kernel_rfl) (by kernel_rfl) (by kernel_rfl) (fun _ _ _ h => h) (Or.inl ⟨by rfl, ?_⟩) hS ?_
          · intro w hS; go_simp
          refine wpAnyH_take (i := 9) (v := .slice ra rn.length rc) rfl (by kernel_rfl) (by kernel_rfl) (by kernel_rfl) (fun _ _ _ h => h) (Or.inl ⟨by rfl, ?_⟩) hS ?_
          · intro w hS; go_simp
          refine wpAnyH_take (i := 10) (v := .int .i64 0) rfl (by kernel_rfl) (by kernel_rfl) (by kernel_rfl) (fun _ _ _ h => h) (Or.inl ⟨by rfl, ?_⟩) hS ?_
          · intro w hS; go_simp
          refine wpAnyH_ready (rs := [12]) (by kernel_rfl) (by simp) ?_
          refine AllReadyH.cons rfl (fun K hK => ?_) (AllReadyH.nil)
          have z0 := HQ2.out.c0
          have z1 := HQ2.out.c1
          have z2 := HQ2.out.c2
          have z3 := HQ2.out.c3
          have z4 := HQ2.out.c4
          have z5 := HQ2.out.c5
          have z6 := HQ2.out.c6
          have zf := HQ2.out.fz
          have zl := HQ2.out.lt
          go_simp
          have BP := HQ2.out.put r (.slice qa r.tab.length qc)
          have BT := But.puts (b := V0.heap.size) V2 r (.slice qa r.tab.length qc)
          have KF := But.to k2 k0.size BT
          have HTE := HTF.out _ BT
          obtain ⟨WF, hWF⟩ : ∃ z, z = (((((((V2.setCell ⟨V0.heap.size, 0, none⟩ (.int .i64 r.at_)).setCell ⟨V0.heap.size, 1, none⟩ (.int .i64 r.clock)).setCell ⟨V0.heap.size, 2, none⟩ (.int .i64 r.v0)).setCell ⟨V0.heap.size, 3, none⟩ (.int .i64 r.v1)).setCell ⟨V0.heap.size, 4, none⟩ (.int .i64 r.v2)).setCell ⟨V0.heap.size, 5, none⟩ (.int .i64 r.v3)).setCell ⟨V0.heap.size, 6, none⟩ (.slice qa r.tab.length qc)) := ⟨_, rfl⟩
          rw [← hWF] at BP BT KF HTE ⊢
          clear hWF z0 z1 z2 z3 z4 z5 z6 zf zl
          refine hK.out _ _ (HSA.out _ KF) (fun hS => ?_)
          clear hK K
          refine wpAnyH_take (i := 13) (v := .slice ra rn.length rc) rfl (by kernel_rfl) (by kernel_rfl) (by kernel_rfl) (fun _ _ _ h => h) (Or.inl ⟨by rfl, ?_⟩) hS ?_
          · intro w hS; go_simp
          refine wpAnyH_take (i := 14) (v := .int .i64 0) rfl (by kernel_rfl) (by kernel_rfl) (by kernel_rfl) (fun _ _ _ h => h) (Or.inl ⟨by rfl, ?_⟩) hS ?_
          · intro w hS; go_simp
          refine wpAnyH_done (by kernel_rfl) ?_ _
          go_wp2_with fail
          go_meet
          exact ⟨_, _, _, rfl, BP, HTE, KF⟩
      case rest =>
        obtain ⟨qb, qa, qc, rfl, hQ, hO, hkc⟩ := hcut
        have hS := HC1.out.keep hkc
        have HKc : Hid (Keeps w wc) := HK1.out.trans hkc
        have HO : Hid (TabAt wc (.slice qa r.tab.length qc) r.tab) := hO.tab
        have q0 := hQ.c0
        have q1 := hQ.c1
        have q2 := hQ.c2
        have q3 := hQ.c3
        have q4 := hQ.c4
        have q5 := hQ.c5
        have q6 := hQ.c6
        have ql := hQ.lt
        have s0 := hS.c0
        have s1 := hS.c1
        have s2 := hS.c2
        have s3 := hS.c3
        have s4 := hS.c4
        have s5 := hS.c5
        have s6 := hS.c6
        have sl := hS.lt
        clear hQ hO hkc hS HSA HC
        go_wp2_with fail
        refine (state_same r s _ _ wc HO.out (HY.out.keep HKc.out)).mono ?_
        rintro e w2 ⟨rfl, hb⟩
        have HK2 : Hid (Keeps w w2) := HKc.out.trans hb
        clear hb
        go_wp2_with fail
        go_ret
        rw [HF2.out]
        exact ⟨rfl, HK2.out⟩
end Go.Proofs.Yteabfjpajgakiaf

/- The reference's fits, FitsOf; node.Fits, checkRun. -/
set_option linter.unusedSimpArgs false
set_option linter.unusedVariables false
set_option maxRecDepth 10000
namespace Go.Proofs.Yteabfjpajgakiaf
open Go.RowKit

theorem node_right {l : Lg} {s : St} (h : nodeErr l s = 0) : lgErr l = 0 ∧ stErr s = 0 := by
  unfold nodeErr at h
  split at h
  · rename_i h1
    exact ⟨by simpa using h1, h⟩
  · rename_i h1
    simp [h] at h1

set_option maxHeartbeats 2000000 in
theorem node_fits_c (l : Lg) (s : St) (x y : Value) (ta : Option Addr) (tc : Nat) (w : World) (hT : TabAt w x l.base.tab) (hL : EntsAt w (.slice ta l.tail.length tc) l.tail) (hY : TabAt w y s.tab) (hcap : l.tail.length ≤ tc) : Calls Try.prog 44 #[lgV l x (.slice ta l.tail.length tc), stV s y] w fun e w' => e = .returned (.tuple #[.bool (fitsOk l s), .int .i64 (nodeErr l s)]) ∧ Keeps w w' := by
  obtain ⟨xa, xc, rfl, _⟩ := hT.len
  obtain ⟨ya, yc, rfl, _⟩ := hY.len
  have HT : Hid (TabAt w (.slice xa l.base.tab.length xc) l.base.tab) := hT
  have HL : Hid (EntsAt w (.slice ta l.tail.length tc) l.tail) := hL
  have HY : Hid (TabAt w (.slice ya s.tab.length yc) s.tab) := hY
  have hlen := hL.2.1
  unfold maxLen at hlen
  clear hT hL hY
  have HE : Hid (fitsOk l s = if nodeErr l s == 0 then fitsB l s else false) := rfl
  go_enter Try.func44, Try.ntmps44
  go_wp2_with fail
  obtain ⟨W1, hW1⟩ : ∃ W1, W1 = (w.alloc (.cells #[.int .i64 l.base.at_, .int .i64 l.base.clock, .int .i64 l.base.v0, .int .i64 l.base.v1, .int .i64 l.base.v2, .int .i64 l.base.v3, .slice xa l.base.tab.length xc, .slice ta l.tail.length tc] 28)).alloc (.cells #[.int .i64 s.at_, .int .i64 s.clock, .int .i64 s.v0, .int .i64 s.v1, .int .i64 s.v2, .int .i64 s.v3, .slice ya s.tab.length yc] 25) := ⟨_, rfl⟩
  have k1 : Keeps w W1 := by rw [hW1]; exact ((Keeps.refl _).alloc _).alloc _
  have B1 : LgBox w.heap.size l (.slice xa l.base.tab.length xc) (.slice ta l.tail.length tc) W1 := by rw [hW1]; exact (LgBox.new w l _ _ rfl rfl 28).keep ((Keeps.refl _).alloc _)
  have C1 : StBox (w.heap.size + 1) s (.slice ya s.tab.length yc) W1 := by
    rw [hW1]
    have := StBox.new (w.alloc (.cells #[.int .i64 l.base.at_, .int .i64 l.base.clock, .int .i64 l.base.v0, .int .i64 l.base.v1, .int .i64 l.base.v2, .int .i64 l.base.v3, .slice xa l.base.tab.length xc, .slice ta l.tail.length tc] 28)) s (.slice ya s.tab.length yc) 25
    simp only [World.size_alloc] at this
    exact this
  rw [← hW1]
  clear hW1
  refine (node_both l s _ _ ta tc W1 (HT.out.keep k1) (HL.out.keep k1) (HY.out.keep k1)).mono ?_
  rintro e w1 ⟨rfl, hb⟩
  have HK1 : Hid (Keeps w w1) := k1.trans hb
  have B2 := B1.keep hb
  have C2 := C1.keep hb
  have b0 := B2.c0
  have b1 := B2.c1
  have b2 := B2.c2
  have b3 := B2.c3
  have b4 := B2.c4
  have b5 := B2.c5
  have b6 := B2.c6
  have b7 := B2.c7
  have bl := B2.lt
  have c0 := C2.c0
  have c1 := C2.c1
  have c2 := C2.c2
  have c3 := C2.c3
  have c4 := C2.c4
  have c5 := C2.c5
  have c6 := C2.c6
  have cl := C2.lt
  clear k1 B1 C1 hb C2 B2
  cases q1 : (nodeErr l s == 0) with
  | false =>
    have q1' : (nodeErr l s != 0) = true := by simp [bne, q1]
    have HE2 : Hid (fitsOk l s = false) := by show _ = _; rw [HE.out, q1]; rfl
    go_wp2_with fail
    go_ret2
    rw [HE2.out]
    exact ⟨rfl, HK1.out⟩
  | true =>
    have q1' : (nodeErr l s != 0) = false := by simp [bne, q1]
    have q0 : nodeErr l s = 0 := by simpa using q1
    have HE2 : Hid (fitsOk l s = fitsB l s) := by show _ = _; rw [HE.out, q1]; rfl
    have HNR := (show Hid _ from node_right q0)
    go_wp2_with fail
    refine (node_fits l s _ _ ta tc w1 (HT.out.keep HK1.out) (HL.out.keep HK1.out) (HY.out.keep HK1.out) HNR.out.1 HNR.out.2 hcap).mono ?_
    rintro e w2 ⟨rfl, hb⟩
    have HK2 : Hid (Keeps w w2) := HK1.out.trans hb
    clear hb
    go_wp2_with fail
    go_ret2
    rw [HE2.out, q0]
    exact ⟨rfl, HK2.out⟩

def runErr (l : Lg) (s : St) (n : Int) : Int := if nodeErr l s == 0 then (if inB n 0 50 then (if fitsB l s then 0 else 1) else 3) else nodeErr l s

set_option maxHeartbeats 2000000 in
theorem node_check_run (l : Lg) (s : St) (n : Int) (x y : Value) (ta : Option Addr) (tc : Nat) (w : World) (hT : TabAt w x l.base.tab) (hL : EntsAt w (.slice ta l.tail.length tc) l.tail) (hY : TabAt w y s.tab) (hcap : l.tail.length ≤ tc) : Calls Try.prog 67 #[lgV l x (.slice ta l.tail.length tc), stV s y, .int .i64 n] w fun e w' => e = .returned (.int .i64 (runErr l s n)) ∧ Keeps w w' := by
  obtain ⟨xa, xc, rfl, _⟩ := hT.len
  obtain ⟨ya, yc, rfl, _⟩ := hY.len
  have HT : Hid (TabAt w (.slice xa l.base.tab.length xc) l.base.tab) := hT
  have HL : Hid (EntsAt w (.slice ta l.tail.length tc) l.tail) := hL
  have HY : Hid (TabAt w (.slice ya s.tab.length yc) s.tab) := hY
  have hlen := hL.2.1
  unfold maxLen at hlen
  clear hT hL hY
  have HE : Hid (runErr l s n = if nodeErr l s == 0 then (if inB n 0 50 then (if fitsB l s then 0 else 1) else 3) else nodeErr l s) := rfl
  go_enter Try.func67, Try.ntmps67
  go_wp2_with fail
  obtain ⟨W1, hW1⟩ : ∃ W1, W1 = (w.alloc (.cells #[.int .i64 l.base.at_, .int .i64 l.base.clock, .int .i64 l.base.v0, .int .i64 l.base.v1, .int .i64 l.base.v2, .int .i64 l.base.v3, .slice xa l.base.tab.length xc, .slice ta l.tail.length tc] 28)).alloc (.cells #[.int .i64 s.at_, .int .i64 s.clock, .int .i64 s.v0, .int .i64 s.v1, .int .i64 s.v2, .int .i64 s.v3, .slice ya s.tab.length yc] 25) := ⟨_, rfl⟩
  have k1 : Keeps w W1 := by rw [hW1]; exact ((Keeps.refl _).alloc _).alloc _
  have B1 : LgBox w.heap.size l (.slice xa l.base.tab.length xc) (.slice ta l.tail.length tc) W1 := by rw [hW1]; exact (LgBox.new w l _ _ rfl rfl 28).keep ((Keeps.refl _).alloc _)
  have C1 : StBox (w.heap.size + 1) s (.slice ya s.tab.length yc) W1 := by
    rw [hW1]
    have := StBox.new (w.alloc (.cells #[.int .i64 l.base.at_, .int .i64 l.base.clock, .int .i64 l.base.v0, .int .i64 l.base.v1, .int .i64 l.base.v2, .int .i64 l.base.v3, .slice xa l.base.tab.length xc, .slice ta l.tail.length tc] 28)) s (.slice ya s.tab.length yc) 25
    simp only [World.size_alloc] at this
    exact this
  rw [← hW1]
  clear hW1
  refine (node_both l s _ _ ta tc W1 (HT.out.keep k1) (HL.out.keep k1) (HY.out.keep k1)).mono ?_
  rintro e w1 ⟨rfl, hb⟩
  have HK1 : Hid (Keeps w w1) := k1.trans hb
  have B2 := B1.keep hb
  have C2 := C1.keep hb
  have b0 := B2.c0
  have b1 := B2.c1
  have b2 := B2.c2
  have b3 := B2.c3
  have b4 := B2.c4
  have b5 := B2.c5
  have b6 := B2.c6
  have b7 := B2.c7
  have bl := B2.lt
  have c0 := C2.c0
  have c1 := C2.c1
  have c2 := C2.c2
  have c3 := C2.c3
  have c4 := C2.c4
  have c5 := C2.c5
  have c6 := C2.c6
  have cl := C2.lt
  clear k1 B1 C1 hb C2 B2
  cases q1 : (nodeErr l s == 0) with
  | false =>
    have q1' : (nodeErr l s != 0) = true := by simp [bne, q1]
    have HE2 : Hid (runErr l s n = nodeErr l s) := by show _ = _; rw [HE.out, q1]; rfl
    go_wp2_with fail
    go_ret
    exact ⟨ret_int HE2.out.symm, HK1.out⟩
  | true =>
    have q1' : (nodeErr l s != 0) = false := by simp [bne, q1]
    have q0 : nodeErr l s = 0 := by simpa using q1
    have HNR := (show Hid _ from node_right q0)
    cases q2 : inB n 0 50 with
    | false =>
      have HE2 : Hid (runErr l s n = 3) := by show _ = _; rw [HE.out, q1, q2]; rfl
      go_wp2_with (first | (go_at_call 49; refine (bound_in _ _ _ _).mono ?_; rintro e w' ⟨rfl, rfl⟩))
      go_ret
      exact ⟨ret_int HE2.out.symm, HK1.out⟩
    | true =>
      go_wp2_with (first | (go_at_call 49; refine (bound_in _ _ _ _).mono ?_; rintro e w' ⟨rfl, rfl⟩))
      refine (node_fits l s _ _ ta tc w1 (HT.out.keep HK1.out) (HL.out.keep HK1.out) (HY.out.keep HK1.out) HNR.out.1 HNR.out.2 hcap).mono ?_
      rintro e w2 ⟨rfl, hb⟩
      have HK2 : Hid (Keeps w w2) := HK1.out.trans hb
      clear hb
      cases q3 : fitsB l s with
      | false =>
        have HE2 : Hid (runErr l s n = 1) := by show _ = _; rw [HE.out, q1, q2, q3]; rfl
        go_wp2_with fail
        go_ret
        exact ⟨ret_int HE2.out.symm, HK2.out⟩
      | true =>
        have HE2 : Hid (runErr l s n = 0) := by show _ = _; rw [HE.out, q1, q2, q3]; rfl
        go_wp2_with fail
        go_ret
        exact ⟨ret_int HE2.out.symm, HK2.out⟩
end Go.Proofs.Yteabfjpajgakiaf

/- Groups: what they are in memory; group.Check. -/
set_option linter.unusedSimpArgs false
set_option linter.unusedVariables false
set_option maxRecDepth 10000
namespace Go.Proofs.Yteabfjpajgakiaf
open Go.RowKit

structure Grp where
  log : Lg
  n0 : St
  n1 : St
  n2 : St
def zeroGrp : Grp := ⟨⟨zeroSt, []⟩, zeroSt, zeroSt, zeroSt⟩
/-- A variable of cells. -/
def CBox (b : Nat) (cs : List Value) (w : World) : Prop := (∀ i u, cs[i]? = some u → w.cell? ⟨b, i, none⟩ = some u) ∧ ∀ i, w.frozen? ⟨b, i, none⟩ = false
theorem CBox.lt {b : Nat} {cs : List Value} {w : World} (h : CBox b cs w) (hc : 0 < cs.length) : b < w.heap.size := World.block_lt_of_cell? _ _ (h.1 0 _ (List.getElem?_eq_getElem hc))
theorem CBox.same {b : Nat} {cs : List Value} {w w' : World} (h : CBox b cs w) (he : w'.heap[b]? = w.heap[b]?) : CBox b cs w' := ⟨fun i u hu => (World.cell?_of_block he).trans (h.1 i u hu), fun i => (World.frozen?_of_block he).trans (h.2 i)⟩
theorem CBox.keep {b : Nat} {cs : List Value} {w w' : World} (h : CBox b cs w) (hk : Keeps w w') (hc : 0 < cs.length := by simp) : CBox b cs w' := h.same (hk.block b (h.lt hc))
theorem CBox.other {b c : Nat} {cs : List Value} {w w' : World} (h : CBox b cs w) (hk : But c w w') (hb : b ≠ c) (hc : 0 < cs.length := by simp) : CBox b cs w' := h.same (hk.block b (h.lt hc) hb)
theorem CBox.new (w : World) (cs : List Value) (ty : TypeId) : CBox w.heap.size cs (w.alloc (.cells cs.toArray ty)) := by
  refine ⟨fun i u hu => ?_, fun i => ?_⟩
  · unfold World.cell?
    rw [World.alloc_heap_new]
    simpa using hu
  · simp [go_sem]

theorem range_of {b : Nat} {cs : List Value} {w : World} (h : CBox b cs w) (o n : Nat) {ds : List Value} (hd : (cs.drop o).take n = ds) : w.rangeAt b o ds := by
  intro j v hv
  refine h.1 (o + j) v ?_
  rw [← hd] at hv
  rw [List.getElem?_take] at hv
  split at hv
  · rw [List.getElem?_drop] at hv
    exact hv
  · cases hv

def oneErr (l : Lg) (s : St) : Int := if nodeErr l s == 0 then (if fitsOk l s then 0 else 1) else nodeErr l s
def grErr (g : Grp) : Int := if lgErr g.log == 0 then (if oneErr g.log g.n0 == 0 then (if oneErr g.log g.n1 == 0 then oneErr g.log g.n2 else oneErr g.log g.n1) else oneErr g.log g.n0) else lgErr g.log
theorem oneErr_bad {l : Lg} {s : St} (h : (nodeErr l s == 0) = false) : oneErr l s = nodeErr l s := by unfold oneErr; rw [h]; rfl
theorem oneErr_misfit {l : Lg} {s : St} (h : (nodeErr l s == 0) = true) (hf : fitsOk l s = false) : oneErr l s = 1 := by unfold oneErr; rw [h, hf]; rfl
theorem oneErr_fit {l : Lg} {s : St} (h : (nodeErr l s == 0) = true) (hf : fitsOk l s = true) : oneErr l s = 0 := by unfold oneErr; rw [h, hf]; rfl

theorem gr_index0 (c0 c1 c2 c3 c4 c5 c6 c7 c8 c9 c10 c11 c12 c13 c14 c15 c16 c17 c18 c19 c20 : Value) (w : World) : (Instr.index 29 (.agg #[c0, c1, c2, c3, c4, c5, c6, c7, c8, c9, c10, c11, c12, c13, c14, c15, c16, c17, c18, c19, c20]) (.int .i64 0)).run Try.prog w = .ok (.agg #[c0, c1, c2, c3, c4, c5, c6]) w := by kernel_rfl
theorem gr_index1 (c0 c1 c2 c3 c4 c5 c6 c7 c8 c9 c10 c11 c12 c13 c14 c15 c16 c17 c18 c19 c20 : Value) (w : World) : (Instr.index 29 (.agg #[c0, c1, c2, c3, c4, c5, c6, c7, c8, c9, c10, c11, c12, c13, c14, c15, c16, c17, c18, c19, c20]) (.int .i64 1)).run Try.prog w = .ok (.agg #[c7, c8, c9, c10, c11, c12, c13]) w := by kernel_rfl
theorem gr_index2 (c0 c1 c2 c3 c4 c5 c6 c7 c8 c9 c10 c11 c12 c13 c14 c15 c16 c17 c18 c19 c20 : Value) (w : World) : (Instr.index 29 (.agg #[c0, c1, c2, c3, c4, c5, c6, c7, c8, c9, c10, c11, c12, c13, c14, c15, c16, c17, c18, c19, c20]) (.int .i64 2)).run Try.prog w = .ok (.agg #[c14, c15, c16, c17, c18, c19, c20]) w := by kernel_rfl
end Go.Proofs.Yteabfjpajgakiaf

/- group.Check: of a hall. -/
set_option linter.unusedSimpArgs false
set_option linter.unusedVariables false
set_option maxRecDepth 10000
namespace Go.Proofs.Yteabfjpajgakiaf
open Go.RowKit

set_option maxHeartbeats 8000000 in
theorem hall_check (g : Grp) (x y0 y1 y2 : Value) (ta : Option Addr) (tc : Nat) (b : Nat) (w : World) (hT : TabAt w x g.log.base.tab) (hL : EntsAt w (.slice ta g.log.tail.length tc) g.log.tail) (h0 : TabAt w y0 g.n0.tab) (h1 : TabAt w y1 g.n1.tab) (h2 : TabAt w y2 g.n2.tab) (hcap : g.log.tail.length ≤ tc) (hB : CBox b [.int .i64 g.log.base.at_, .int .i64 g.log.base.clock, .int .i64 g.log.base.v0, .int .i64 g.log.base.v1, .int .i64 g.log.base.v2, .int .i64 g.log.base.v3, x, .slice ta g.log.tail.length tc, .int .i64 g.n0.at_, .int .i64 g.n0.clock, .int .i64 g.n0.v0, .int .i64 g.n0.v1, .int .i64 g.n0.v2, .int .i64 g.n0.v3, y0, .int .i64 g.n1.at_, .int .i64 g.n1.clock, .int .i64 g.n1.v0, .int .i64 g.n1.v1, .int .i64 g.n1.v2, .int .i64 g.n1.v3, y1, .int .i64 g.n2.at_, .int .i64 g.n2.clock, .int .i64 g.n2.v0, .int .i64 g.n2.v1, .int .i64 g.n2.v2, .int .i64 g.n2.v3, y2] w) : Calls Try.prog 22 #[.pointer (some ⟨b, 0, none⟩)] w fun e w' => e = .returned (.int .i64 (grErr g)) ∧ Keeps w w' := by
  obtain ⟨xa, xc, rfl, _⟩ := hT.len
  obtain ⟨ya0, yc0, rfl, _⟩ := h0.len
  obtain ⟨ya1, yc1, rfl, _⟩ := h1.len
  obtain ⟨ya2, yc2, rfl, _⟩ := h2.len
  have HT : Hid (TabAt w (.slice xa g.log.base.tab.length xc) g.log.base.tab) := hT
  have HL : Hid (EntsAt w (.slice ta g.log.tail.length tc) g.log.tail) := hL
  have HY0 : Hid (TabAt w (.slice ya0 g.n0.tab.length yc0) g.n0.tab) := h0
  have HY1 : Hid (TabAt w (.slice ya1 g.n1.tab.length yc1) g.n1.tab) := h1
  have HY2 : Hid (TabAt w (.slice ya2 g.n2.tab.length yc2) g.n2.tab) := h2
  clear hT hL h0 h1 h2
  have HB : Hid (CBox b [.int .i64 g.log.base.at_, .int .i64 g.log.base.clock, .int .i64 g.log.base.v0, .int .i64 g.log.base.v1, .int .i64 g.log.base.v2, .int .i64 g.log.base.v3, .slice xa g.log.base.tab.length xc, .slice ta g.log.tail.length tc, .int .i64 g.n0.at_, .int .i64 g.n0.clock, .int .i64 g.n0.v0, .int .i64 g.n0.v1, .int .i64 g.n0.v2, .int .i64 g.n0.v3, .slice ya0 g.n0.tab.length yc0, .int .i64 g.n1.at_, .int .i64 g.n1.clock, .int .i64 g.n1.v0, .int .i64 g.n1.v1, .int .i64 g.n1.v2, .int .i64 g.n1.v3, .slice ya1 g.n1.tab.length yc1, .int .i64 g.n2.at_, .int .i64 g.n2.clock, .int .i64 g.n2.v0, .int .i64 g.n2.v1, .int .i64 g.n2.v2, .int .i64 g.n2.v3, .slice ya2 g.n2.tab.length yc2] w) := hB
  clear hB
  have HE : Hid (grErr g = if lgErr g.log == 0 then (if oneErr g.log g.n0 == 0 then (if oneErr g.log g.n1 == 0 then oneErr g.log g.n2 else oneErr g.log g.n1) else oneErr g.log g.n0) else lgErr g.log) := rfl
  have HF0 : Hid (∀ W, Keeps w W → Calls Try.prog 44 #[lgV g.log (.slice xa g.log.base.tab.length xc) (.slice ta g.log.tail.length tc), stV g.n0 (.slice ya0 g.n0.tab.length yc0)] W fun e w' => e = .returned (.tuple #[.bool (fitsOk g.log g.n0), .int .i64 (nodeErr g.log g.n0)]) ∧ Keeps W w') := fun W hk => node_fits_c g.log g.n0 _ _ ta tc W (HT.out.keep hk) (HL.out.keep hk) (HY0.out.keep hk) hcap
  have HF1 : Hid (∀ W, Keeps w W → Calls Try.prog 44 #[lgV g.log (.slice xa g.log.base.tab.length xc) (.slice ta g.log.tail.length tc), stV g.n1 (.slice ya1 g.n1.tab.length yc1)] W fun e w' => e = .returned (.tuple #[.bool (fitsOk g.log g.n1), .int .i64 (nodeErr g.log g.n1)]) ∧ Keeps W w') := fun W hk => node_fits_c g.log g.n1 _ _ ta tc W (HT.out.keep hk) (HL.out.keep hk) (HY1.out.keep hk) hcap
  have HF2 : Hid (∀ W, Keeps w W → Calls Try.prog 44 #[lgV g.log (.slice xa g.log.base.tab.length xc) (.slice ta g.log.tail.length tc), stV g.n2 (.slice ya2 g.n2.tab.length yc2)] W fun e w' => e = .returned (.tuple #[.bool (fitsOk g.log g.n2), .int .i64 (nodeErr g.log g.n2)]) ∧ Keeps W w') := fun W hk => node_fits_c g.log g.n2 _ _ ta tc W (HT.out.keep hk) (HL.out.keep hk) (HY2.out.keep hk) hcap
  have c0 := HB.out.1 0 _ rfl
  have c1 := HB.out.1 1 _ rfl
  have c2 := HB.out.1 2 _ rfl
  have c3 := HB.out.1 3 _ rfl
  have c4 := HB.out.1 4 _ rfl
  have c5 := HB.out.1 5 _ rfl
  have c6 := HB.out.1 6 _ rfl
  have c7 := HB.out.1 7 _ rfl
  have cl := HB.out.lt (by simp)
  go_enter Try.func22, Try.ntmps22
  go_wp2_with fail
  refine (pack_check g.log _ _ w HT.out HL.out).mono ?_
  rintro e w1 ⟨rfl, hb⟩
  have HK1 : Hid (Keeps w w1) := hb
  clear hb c0 c1 c2 c3 c4 c5 c6 c7 cl
  cases q0 : (lgErr g.log == 0) with
  | false =>
    have q' : (lgErr g.log != 0) = true := by simp [bne, q0]
    have HQ : Hid (grErr g = lgErr g.log) := by show _ = _; rw [HE.out, q0]; rfl
    go_wp2_with fail
    go_ret
    rw [HQ.out]
    exact ⟨rfl, HK1.out⟩
  | true =>
    have q' : (lgErr g.log != 0) = false := by simp [bne, q0]
    have HR8 : w1.rangeAt b 8 [.int .i64 g.n0.at_, .int .i64 g.n0.clock, .int .i64 g.n0.v0, .int .i64 g.n0.v1, .int .i64 g.n0.v2, .int .i64 g.n0.v3, .slice ya0 g.n0.tab.length yc0, .int .i64 g.n1.at_, .int .i64 g.n1.clock, .int .i64 g.n1.v0, .int .i64 g.n1.v1, .int .i64 g.n1.v2, .int .i64 g.n1.v3, .slice ya1 g.n1.tab.length yc1, .int .i64 g.n2.at_, .int .i64 g.n2.clock, .int .i64 g.n2.v0, .int .i64 g.n2.v1, .int .i64 g.n2.v2, .int .i64 g.n2.v3, .slice ya2 g.n2.tab.length yc2] := range_of (HB.out.keep HK1.out) 8 21 rfl
    go_wp2_with (refine wpList_load_mid rfl 29 _ rfl b 8 rfl [.int .i64 g.n0.at_, .int .i64 g.n0.clock, .int .i64 g.n0.v0, .int .i64 g.n0.v1, .int .i64 g.n0.v2, .int .i64 g.n0.v3, .slice ya0 g.n0.tab.length yc0, .int .i64 g.n1.at_, .int .i64 g.n1.clock, .int .i64 g.n1.v0, .int .i64 g.n1.v1, .int .i64 g.n1.v2, .int .i64 g.n1.v3, .slice ya1 g.n1.tab.length yc1, .int .i64 g.n2.at_, .int .i64 g.n2.clock, .int .i64 g.n2.v0, .int .i64 g.n2.v1, .int .i64 g.n2.v2, .int .i64 g.n2.v3, .slice ya2 g.n2.tab.length yc2] _ HR8 Try.underlying29 rfl (by kernel_rfl) ?_)
    clear HR8
    refine wp_loop_rounds 4 ?_
    as_aux_lemma =>
      rw [rounds_succ]
      have ix : ∀ w, (Instr.index 29 (.agg #[.int .i64 g.n0.at_, .int .i64 g.n0.clock, .int .i64 g.n0.v0, .int .i64 g.n0.v1, .int .i64 g.n0.v2, .int .i64 g.n0.v3, .slice ya0 g.n0.tab.length yc0, .int .i64 g.n1.at_, .int .i64 g.n1.clock, .int .i64 g.n1.v0, .int .i64 g.n1.v1, .int .i64 g.n1.v2, .int .i64 g.n1.v3, .slice ya1 g.n1.tab.length yc1, .int .i64 g.n2.at_, .int .i64 g.n2.clock, .int .i64 g.n2.v0, .int .i64 g.n2.v1, .int .i64 g.n2.v2, .int .i64 g.n2.v3, .slice ya2 g.n2.tab.length yc2]) (.int .i64 0)).run Try.prog w = .ok (stV g.n0 (.slice ya0 g.n0.tab.length yc0)) w := fun w => gr_index0 _ _ _ _ _ _ _ _ _ _ _ _ _ _ _ _ _ _ _ _ _ w
      go_wp2_with fail
      have k0 : Keeps w1 (w1.alloc (.cells #[.int .i64 g.n0.at_, .int .i64 g.n0.clock, .int .i64 g.n0.v0, .int .i64 g.n0.v1, .int .i64 g.n0.v2, .int .i64 g.n0.v3, .slice ya0 g.n0.tab.length yc0] 25)) := (Keeps.refl _).alloc _
      have HS0 : Hid (StBox w1.heap.size g.n0 (.slice ya0 g.n0.tab.length yc0) (w1.alloc (.cells #[.int .i64 g.n0.at_, .int .i64 g.n0.clock, .int .i64 g.n0.v0, .int .i64 g.n0.v1, .int .i64 g.n0.v2, .int .i64 g.n0.v3, .slice ya0 g.n0.tab.length yc0] 25))) := StBox.new w1 g.n0 _ 25
      generalize w1.alloc (.cells #[.int .i64 g.n0.at_, .int .i64 g.n0.clock, .int .i64 g.n0.v0, .int .i64 g.n0.v1, .int .i64 g.n0.v2, .int .i64 g.n0.v3, .slice ya0 g.n0.tab.length yc0] 25) = v0 at *
      generalize w1.heap.size = sb0 at *
      have HKv0 : Hid (Keeps w v0) := HK1.out.trans k0
      clear ix k0
      have hne := After.some v0
      have HBv : Hid (CBox b [.int .i64 g.log.base.at_, .int .i64 g.log.base.clock, .int .i64 g.log.base.v0, .int .i64 g.log.base.v1, .int .i64 g.log.base.v2, .int .i64 g.log.base.v3, .slice xa g.log.base.tab.length xc, .slice ta g.log.tail.length tc, .int .i64 g.n0.at_, .int .i64 g.n0.clock, .int .i64 g.n0.v0, .int .i64 g.n0.v1, .int .i64 g.n0.v2, .int .i64 g.n0.v3, .slice ya0 g.n0.tab.length yc0, .int .i64 g.n1.at_, .int .i64 g.n1.clock, .int .i64 g.n1.v0, .int .i64 g.n1.v1, .int .i64 g.n1.v2, .int .i64 g.n1.v3, .slice ya1 g.n1.tab.length yc1, .int .i64 g.n2.at_, .int .i64 g.n2.clock, .int .i64 g.n2.v0, .int .i64 g.n2.v1, .int .i64 g.n2.v2, .int .i64 g.n2.v3, .slice ya2 g.n2.tab.length yc2] v0) := HB.out.keep HKv0.out
      have HCF : Hid (∀ t : After v0, Calls Try.prog 44 #[lgV g.log (.slice xa g.log.base.tab.length xc) (.slice ta g.log.tail.length tc), stV g.n0 (.slice ya0 g.n0.tab.length yc0)] t.w fun e w' => e = .returned (.tuple #[.bool (fitsOk g.log g.n0), .int .i64 (nodeErr g.log g.n0)]) ∧ Keeps t.w w') := fun t => HF0.out t.w (HKv0.out.trans t.h)
      have c0 := fun t : After v0 => (HBv.out.keep t.h).1 0 _ rfl
      have c1 := fun t : After v0 => (HBv.out.keep t.h).1 1 _ rfl
      have c2 := fun t : After v0 => (HBv.out.keep t.h).1 2 _ rfl
      have c3 := fun t : After v0 => (HBv.out.keep t.h).1 3 _ rfl
      have c4 := fun t : After v0 => (HBv.out.keep t.h).1 4 _ rfl
      have c5 := fun t : After v0 => (HBv.out.keep t.h).1 5 _ rfl
      have c6 := fun t : After v0 => (HBv.out.keep t.h).1 6 _ rfl
      have c7 := fun t : After v0 => (HBv.out.keep t.h).1 7 _ rfl
      have cl := fun t : After v0 => (HBv.out.keep t.h).lt (by simp)
      have s0 := fun t : After v0 => (HS0.out.keep t.h).c0
      have s1 := fun t : After v0 => (HS0.out.keep t.h).c1
      have s2 := fun t : After v0 => (HS0.out.keep t.h).c2
      have s3 := fun t : After v0 => (HS0.out.keep t.h).c3
      have s4 := fun t : After v0 => (HS0.out.keep t.h).c4
      have s5 := fun t : After v0 => (HS0.out.keep t.h).c5
      have s6 := fun t : After v0 => (HS0.out.keep t.h).c6
      have sl := fun t : After v0 => (HS0.out.keep t.h).lt
      refine wp_region_after (by kernel_rfl) (by kernel_rfl) ?_
      repeat (first | go_big_quiet_skip | (go_big_quiet_want; go_big_quiet_op; first | go_big_quiet_on | (apply Exists.intro; refine ⟨fun _ => ?_, ?_⟩; (first | (go_at_call 44; exact calls_after (HCF.out _))); go_big_quiet_on)))
      refine wpQuiet_nil ?_
      rintro _ ⟨r, rfl⟩
      have HKr0 : Hid (Keeps w r.w) := HKv0.out.trans r.h
      obtain ⟨u0, hu0⟩ : ∃ z, z = r.w := ⟨_, rfl⟩
      rw [← hu0] at HKr0 ⊢
      clear hne HBv HCF c0 c1 c2 c3 c4 c5 c6 c7 cl s0 s1 s2 s3 s4 s5 s6 sl hu0 r HS0 HKv0
      cases a0 : (nodeErr g.log g.n0 == 0) with
      | false =>
        have a' : (nodeErr g.log g.n0 != 0) = true := by simp [bne, a0]
        have HQ : Hid (grErr g = nodeErr g.log g.n0) := by show _ = _; rw [HE.out, q0, oneErr_bad a0]; simp only [a0]; rfl
        go_wp2_with fail
        go_ret
        rw [HQ.out]
        exact ⟨rfl, HKr0.out⟩
      | true =>
        have a' : (nodeErr g.log g.n0 != 0) = false := by simp [bne, a0]
        cases b0 : fitsOk g.log g.n0 with
        | false =>
          have HQ : Hid (grErr g = 1) := by show _ = _; rw [HE.out, q0, oneErr_misfit a0 b0]; rfl
          go_wp2_with fail
          go_ret
          rw [HQ.out]
          exact ⟨rfl, HKr0.out⟩
        | true =>
          have p0 : (oneErr g.log g.n0 == 0) = true := by rw [oneErr_fit a0 b0]; rfl
          go_wp2_with fail
          as_aux_lemma =>
            rw [rounds_succ]
            have ix : ∀ w, (Instr.index 29 (.agg #[.int .i64 g.n0.at_, .int .i64 g.n0.clock, .int .i64 g.n0.v0, .int .i64 g.n0.v1, .int .i64 g.n0.v2, .int .i64 g.n0.v3, .slice ya0 g.n0.tab.length yc0, .int .i64 g.n1.at_, .int .i64 g.n1.clock, .int .i64 g.n1.v0, .int .i64 g.n1.v1, .int .i64 g.n1.v2, .int .i64 g.n1.v3, .slice ya1 g.n1.tab.length yc1, .int .i64 g.n2.at_, .int .i64 g.n2.clock, .int .i64 g.n2.v0, .int .i64 g.n2.v1, .int .i64 g.n2.v2, .int .i64 g.n2.v3, .slice ya2 g.n2.tab.length yc2]) (.int .i64 1)).run Try.prog w = .ok (stV g.n1 (.slice ya1 g.n1.tab.length yc1)) w := fun w => gr_index1 _ _ _ _ _ _ _ _ _ _ _ _ _ _ _ _ _ _ _ _ _ w
            go_wp2_with fail
            have k1 : Keeps u0 (u0.alloc (.cells #[.int .i64 g.n1.at_, .int .i64 g.n1.clock, .int .i64 g.n1.v0, .int .i64 g.n1.v1, .int .i64 g.n1.v2, .int .i64 g.n1.v3, .slice ya1 g.n1.tab.length yc1] 25)) := (Keeps.refl _).alloc _
            have HS1 : Hid (StBox u0.heap.size g.n1 (.slice ya1 g.n1.tab.length yc1) (u0.alloc (.cells #[.int .i64 g.n1.at_, .int .i64 g.n1.clock, .int .i64 g.n1.v0, .int .i64 g.n1.v1, .int .i64 g.n1.v2, .int .i64 g.n1.v3, .slice ya1 g.n1.tab.length yc1] 25))) := StBox.new u0 g.n1 _ 25
            generalize u0.alloc (.cells #[.int .i64 g.n1.at_, .int .i64 g.n1.clock, .int .i64 g.n1.v0, .int .i64 g.n1.v1, .int .i64 g.n1.v2, .int .i64 g.n1.v3, .slice ya1 g.n1.tab.length yc1] 25) = v1 at *
            generalize u0.heap.size = sb1 at *
            have HKv1 : Hid (Keeps w v1) := HKr0.out.trans k1
            clear ix k1
            have hne := After.some v1
            have HBv : Hid (CBox b [.int .i64 g.log.base.at_, .int .i64 g.log.base.clock, .int .i64 g.log.base.v0, .int .i64 g.log.base.v1, .int .i64 g.log.base.v2, .int .i64 g.log.base.v3, .slice xa g.log.base.tab.length xc, .slice ta g.log.tail.length tc, .int .i64 g.n0.at_, .int .i64 g.n0.clock, .int .i64 g.n0.v0, .int .i64 g.n0.v1, .int .i64 g.n0.v2, .int .i64 g.n0.v3, .slice ya0 g.n0.tab.length yc0, .int .i64 g.n1.at_, .int .i64 g.n1.clock, .int .i64 g.n1.v0, .int .i64 g.n1.v1, .int .i64 g.n1.v2, .int .i64 g.n1.v3, .slice ya1 g.n1.tab.length yc1, .int .i64 g.n2.at_, .int .i64 g.n2.clock, .int .i64 g.n2.v0, .int .i64 g.n2.v1, .int .i64 g.n2.v2, .int .i64 g.n2.v3, .slice ya2 g.n2.tab.length yc2] v1) := HB.out.keep HKv1.out
            have HCF : Hid (∀ t : After v1, Calls Try.prog 44 #[lgV g.log (.slice xa g.log.base.tab.length xc) (.slice ta g.log.tail.length tc), stV g.n1 (.slice ya1 g.n1.tab.length yc1)] t.w fun e w' => e = .returned (.tuple #[.bool (fitsOk g.log g.n1), .int .i64 (nodeErr g.log g.n1)]) ∧ Keeps t.w w') := fun t => HF1.out t.w (HKv1.out.trans t.h)
            have c0 := fun t : After v1 => (HBv.out.keep t.h).1 0 _ rfl
            have c1 := fun t : After v1 => (HBv.out.keep t.h).1 1 _ rfl
            have c2 := fun t : After v1 => (HBv.out.keep t.h).1 2 _ rfl
            have c3 := fun t : After v1 => (HBv.out.keep t.h).1 3 _ rfl
            have c4 := fun t : After v1 => (HBv.out.keep t.h).1 4 _ rfl
            have c5 := fun t : After v1 => (HBv.out.keep t.h).1 5 _ rfl
            have c6 := fun t : After v1 => (HBv.out.keep t.h).1 6 _ rfl
            have c7 := fun t : After v1 => (HBv.out.keep t.h).1 7 _ rfl
            have cl := fun t : After v1 => (HBv.out.keep t.h).lt (by simp)
            have s0 := fun t : After v1 => (HS1.out.keep t.h).c0
            have s1 := fun t : After v1 => (HS1.out.keep t.h).c1
            have s2 := fun t : After v1 => (HS1.out.keep t.h).c2
            have s3 := fun t : After v1 => (HS1.out.keep t.h).c3
            have s4 := fun t : After v1 => (HS1.out.keep t.h).c4
            have s5 := fun t : After v1 => (HS1.out.keep t.h).c5
            have s6 := fun t : After v1 => (HS1.out.keep t.h).c6
            have sl := fun t : After v1 => (HS1.out.keep t.h).lt
            refine wp_region_after (by kernel_rfl) (by kernel_rfl) ?_
            repeat (first | go_big_quiet_skip | (go_big_quiet_want; go_big_quiet_op; first | go_big_quiet_on | (apply Exists.intro; refine ⟨fun _ => ?_, ?_⟩; (first | (go_at_call 44; exact calls_after (HCF.out _))); go_big_quiet_on)))
            refine wpQuiet_nil ?_
            rintro _ ⟨r, rfl⟩
            have HKr1 : Hid (Keeps w r.w) := HKv1.out.trans r.h
            obtain ⟨u1, hu1⟩ : ∃ z, z = r.w := ⟨_, rfl⟩
            rw [← hu1] at HKr1 ⊢
            clear hne HBv HCF c0 c1 c2 c3 c4 c5 c6 c7 cl s0 s1 s2 s3 s4 s5 s6 sl hu1 r HS1 HKv1
            cases a1 : (nodeErr g.log g.n1 == 0) with
            | false =>
              have a' : (nodeErr g.log g.n1 != 0) = true := by simp [bne, a1]
              have HQ : Hid (grErr g = nodeErr g.log g.n1) := by show _ = _; rw [HE.out, q0, p0, oneErr_bad a1]; simp only [a1]; rfl
              go_wp2_with fail
              go_ret
              rw [HQ.out]
              exact ⟨rfl, HKr1.out⟩
            | true =>
              have a' : (nodeErr g.log g.n1 != 0) = false := by simp [bne, a1]
              cases b1 : fitsOk g.log g.n1 with
              | false =>
                have HQ : Hid (grErr g = 1) := by show _ = _; rw [HE.out, q0, p0, oneErr_misfit a1 b1]; rfl
                go_wp2_with fail
                go_ret
                rw [HQ.out]
                exact ⟨rfl, HKr1.out⟩
              | true =>
                have p1 : (oneErr g.log g.n1 == 0) = true := by rw [oneErr_fit a1 b1]; rfl
                go_wp2_with fail
                as_aux_lemma =>
                  rw [rounds_succ]
                  have ix : ∀ w, (Instr.index 29 (.agg #[.int .i64 g.n0.at_, .int .i64 g.n0.clock, .int .i64 g.n0.v0, .int .i64 g.n0.v1, .int .i64 g.n0.v2, .int .i64 g.n0.v3, .slice ya0 g.n0.tab.length yc0, .int .i64 g.n1.at_, .int .i64 g.n1.clock, .int .i64 g.n1.v0, .int .i64 g.n1.v1, .int .i64 g.n1.v2, .int .i64 g.n1.v3, .slice ya1 g.n1.tab.length yc1, .int .i64 g.n2.at_, .int .i64 g.n2.clock, .int .i64 g.n2.v0, .int .i64 g.n2.v1, .int .i64 g.n2.v2, .int .i64 g.n2.v3, .slice ya2 g.n2.tab.length yc2]) (.int .i64 2)).run Try.prog w = .ok (stV g.n2 (.slice ya2 g.n2.tab.length yc2)) w := fun w => gr_index2 _ _ _ _ _ _ _ _ _ _ _ _ _ _ _ _ _ _ _ _ _ w
                  go_wp2_with fail
                  have k2 : Keeps u1 (u1.alloc (.cells #[.int .i64 g.n2.at_, .int .i64 g.n2.clock, .int .i64 g.n2.v0, .int .i64 g.n2.v1, .int .i64 g.n2.v2, .int .i64 g.n2.v3, .slice ya2 g.n2.tab.length yc2] 25)) := (Keeps.refl _).alloc _
                  have HS2 : Hid (StBox u1.heap.size g.n2 (.slice ya2 g.n2.tab.length yc2) (u1.alloc (.cells #[.int .i64 g.n2.at_, .int .i64 g.n2.clock, .int .i64 g.n2.v0, .int .i64 g.n2.v1, .int .i64 g.n2.v2, .int .i64 g.n2.v3, .slice ya2 g.n2.tab.length yc2] 25))) := StBox.new u1 g.n2 _ 25
                  generalize u1.alloc (.cells #[.int .i64 g.n2.at_, .int .i64 g.n2.clock, .int .i64 g.n2.v0, .int .i64 g.n2.v1, .int .i64 g.n2.v2, .int .i64 g.n2.v3, .slice ya2 g.n2.tab.length yc2] 25) = v2 at *
                  generalize u1.heap.size = sb2 at *
                  have HKv2 : Hid (Keeps w v2) := HKr1.out.trans k2
                  clear ix k2
                  have hne := After.some v2
                  have HBv : Hid (CBox b [.int .i64 g.log.base.at_, .int .i64 g.log.base.clock, .int .i64 g.log.base.v0, .int .i64 g.log.base.v1, .int .i64 g.log.base.v2, .int .i64 g.log.base.v3, .slice xa g.log.base.tab.length xc, .slice ta g.log.tail.length tc, .int .i64 g.n0.at_, .int .i64 g.n0.clock, .int .i64 g.n0.v0, .int .i64 g.n0.v1, .int .i64 g.n0.v2, .int .i64 g.n0.v3, .slice ya0 g.n0.tab.length yc0, .int .i64 g.n1.at_, .int .i64 g.n1.clock, .int .i64 g.n1.v0, .int .i64 g.n1.v1, .int .i64 g.n1.v2, .int .i64 g.n1.v3, .slice ya1 g.n1.tab.length yc1, .int .i64 g.n2.at_, .int .i64 g.n2.clock, .int .i64 g.n2.v0, .int .i64 g.n2.v1, .int .i64 g.n2.v2, .int .i64 g.n2.v3, .slice ya2 g.n2.tab.length yc2] v2) := HB.out.keep HKv2.out
                  have HCF : Hid (∀ t : After v2, Calls Try.prog 44 #[lgV g.log (.slice xa g.log.base.tab.length xc) (.slice ta g.log.tail.length tc), stV g.n2 (.slice ya2 g.n2.tab.length yc2)] t.w fun e w' => e = .returned (.tuple #[.bool (fitsOk g.log g.n2), .int .i64 (nodeErr g.log g.n2)]) ∧ Keeps t.w w') := fun t => HF2.out t.w (HKv2.out.trans t.h)
                  have c0 := fun t : After v2 => (HBv.out.keep t.h).1 0 _ rfl
                  have c1 := fun t : After v2 => (HBv.out.keep t.h).1 1 _ rfl
                  have c2 := fun t : After v2 => (HBv.out.keep t.h).1 2 _ rfl
                  have c3 := fun t : After v2 => (HBv.out.keep t.h).1 3 _ rfl
                  have c4 := fun t : After v2 => (HBv.out.keep t.h).1 4 _ rfl
                  have c5 := fun t : After v2 => (HBv.out.keep t.h).1 5 _ rfl
                  have c6 := fun t : After v2 => (HBv.out.keep t.h).1 6 _ rfl
                  have c7 := fun t : After v2 => (HBv.out.keep t.h).1 7 _ rfl
                  have cl := fun t : After v2 => (HBv.out.keep t.h).lt (by simp)
                  have s0 := fun t : After v2 => (HS2.out.keep t.h).c0
                  have s1 := fun t : After v2 => (HS2.out.keep t.h).c1
                  have s2 := fun t : After v2 => (HS2.out.keep t.h).c2
                  have s3 := fun t : After v2 => (HS2.out.keep t.h).c3
                  have s4 := fun t : After v2 => (HS2.out.keep t.h).c4
                  have s5 := fun t : After v2 => (HS2.out.keep t.h).c5
                  have s6 := fun t : After v2 => (HS2.out.keep t.h).c6
                  have sl := fun t : After v2 => (HS2.out.keep t.h).lt
                  refine wp_region_after (by kernel_rfl) (by kernel_rfl) ?_
                  repeat (first | go_big_quiet_skip | (go_big_quiet_want; go_big_quiet_op; first | go_big_quiet_on | (apply Exists.intro; refine ⟨fun _ => ?_, ?_⟩; (first | (go_at_call 44; exact calls_after (HCF.out _))); go_big_quiet_on)))
                  refine wpQuiet_nil ?_
                  rintro _ ⟨r, rfl⟩
                  have HKr2 : Hid (Keeps w r.w) := HKv2.out.trans r.h
                  obtain ⟨u2, hu2⟩ : ∃ z, z = r.w := ⟨_, rfl⟩
                  rw [← hu2] at HKr2 ⊢
                  clear hne HBv HCF c0 c1 c2 c3 c4 c5 c6 c7 cl s0 s1 s2 s3 s4 s5 s6 sl hu2 r HS2 HKv2
                  cases a2 : (nodeErr g.log g.n2 == 0) with
                  | false =>
                    have a' : (nodeErr g.log g.n2 != 0) = true := by simp [bne, a2]
                    have HQ : Hid (grErr g = nodeErr g.log g.n2) := by show _ = _; rw [HE.out, q0, p0, p1, oneErr_bad a2]; simp only [a2]; rfl
                    go_wp2_with fail
                    go_ret
                    rw [HQ.out]
                    exact ⟨rfl, HKr2.out⟩
                  | true =>
                    have a' : (nodeErr g.log g.n2 != 0) = false := by simp [bne, a2]
                    cases b2 : fitsOk g.log g.n2 with
                    | false =>
                      have HQ : Hid (grErr g = 1) := by show _ = _; rw [HE.out, q0, p0, p1, oneErr_misfit a2 b2]; rfl
                      go_wp2_with fail
                      go_ret
                      rw [HQ.out]
                      exact ⟨rfl, HKr2.out⟩
                    | true =>
                      have p2 : (oneErr g.log g.n2 == 0) = true := by rw [oneErr_fit a2 b2]; rfl
                      go_wp2_with fail
                      as_aux_lemma =>
                        have HQ : Hid (grErr g = 0) := by show _ = _; rw [HE.out, q0, p0, p1]; exact oneErr_fit a2 b2
                        rw [rounds_succ]
                        go_wp2_with fail
                        go_ret
                        rw [HQ.out]
                        exact ⟨rfl, HKr2.out⟩
end Go.Proofs.Yteabfjpajgakiaf

/- Variables of many cells, written whole; group.Check. -/
set_option linter.unusedSimpArgs false
set_option linter.unusedVariables false
set_option maxRecDepth 10000
namespace Go.Proofs.Yteabfjpajgakiaf
open Go.RowKit

theorem CBox.there {b : Nat} {cs : List Value} {w : World} (h : CBox b cs w) (o n : Nat) (hn : o + n ≤ cs.length) : w.there b o n := fun j hj => ⟨by rw [h.1 (o + j) _ (List.getElem?_eq_getElem (by omega))]; rfl, h.2 _⟩
theorem frozen_setCells {b : Nat} : ∀ (vs : List Value) (o : Nat) (w : World) (a : Addr), (w.setCells b o vs).frozen? a = w.frozen? a
  | [], _, _, _ => rfl
  | v :: r, o, w, a => (frozen_setCells r (o + 1) _ a).trans (World.frozen?_setCell _ _ _ _)
/-- A variable that is written whole. -/
theorem CBox.puts {b : Nat} {cs : List Value} {w : World} (h : CBox b cs w) (ds : List Value) (hl : ds.length = cs.length) : CBox b ds (w.setCells b 0 ds) := by
  refine ⟨fun i u hu => ?_, fun i => (frozen_setCells ds 0 w _).trans (h.2 i)⟩
  have := World.rangeAt_setCells_same w b 0 ds (h.there 0 ds.length (by omega)) i u hu
  rwa [Nat.zero_add] at this
/-- A part of it. -/
theorem CBox.putAt {b o : Nat} {cs : List Value} {w : World} (h : CBox b cs w) (ds : List Value) (hl : o + ds.length ≤ cs.length) : CBox b (cs.take o ++ ds ++ cs.drop (o + ds.length)) (w.setCells b o ds) := by
  refine ⟨fun i u hu => ?_, fun i => (frozen_setCells ds o w _).trans (h.2 i)⟩
  by_cases h1 : i < o
  · rw [World.cell?_setCells_out b ds o w ⟨b, i, none⟩ (fun _ _ => .inl h1)]
    refine h.1 i u ?_
    rw [List.append_assoc, List.getElem?_append_left (by simp; omega), List.getElem?_take, if_pos h1] at hu
    exact hu
  · by_cases h2 : i < o + ds.length
    · have := World.rangeAt_setCells_same w b o ds (h.there o ds.length hl) (i - o) u (by
        rw [List.append_assoc, List.getElem?_append_right (by simp; omega), List.getElem?_append_left (by simp; omega)] at hu
        rw [List.length_take, Nat.min_eq_left (by omega)] at hu
        exact hu)
      rwa [show o + (i - o) = i by omega] at this
    · rw [World.cell?_setCells_out b ds o w ⟨b, i, none⟩ (fun _ _ => .inr (by simp; omega))]
      refine h.1 i u ?_
      rw [List.getElem?_append_right (by simp; omega), List.getElem?_drop] at hu
      rw [← hu]
      congr 1
      simp
      omega

/-- A parameter laid in memory: what its variable holds, and no more, is handed on. -/
theorem wpList_box_new {P : Program} {ops : Array Oper} {rest : List Oper} {op : Oper} {a : Act} {w : World} {Q : Exit → Act → World → Prop} (hgd : op.guard = none) (ty : TypeId) (x : Operand) (ho : op.op = .box ty x) (cs : List Value) (hx : a.eval x = .agg cs.toArray)
    (h : ∀ (w' : World) (b : Nat), CBox b cs w' → Keeps w w' → b < w'.heap.size → w.heap.size ≤ b → wpList P ops Q rest (a.put op.dst (.pointer (some ⟨b, 0, none⟩))) w') : wpList P ops Q (op :: rest) a w := by
  refine wpList_plain hgd fun K hK => ?_
  have hn := h (w.alloc (.cells cs.toArray ty)) w.heap.size (CBox.new w cs ty) ((Keeps.refl _).alloc _) (by simp) (Nat.le_refl _)
  have e1 : (execOp a.eval op).run P w = .ok (.value (.pointer (some ⟨w.heap.size, 0, none⟩))) (w.alloc (.cells cs.toArray ty)) := by
    generalize a.eval = f at hx
    simp [execOp, ho, hx, go_sem]
  unfold Oper.wp
  rw [e1]
  exact hK _ _ hn

/-- A variable that is made: the same. -/
theorem wpList_alloc_new {P : Program} {ops : Array Oper} {rest : List Oper} {op : Oper} {a : Act} {w : World} {Q : Exit → Act → World → Prop} (hgd : op.guard = none) (ty : TypeId) (ho : op.op = .alloc ty) (z : Value) (cs : List Value) (hz : (P.info? ty).map (·.zero) = some (some z)) (hc : z.cells = cs.toArray)
    (h : ∀ (w' : World) (b : Nat), CBox b cs w' → Keeps w w' → b < w'.heap.size → w.heap.size ≤ b → wpList P ops Q rest (a.put op.dst (.pointer (some ⟨b, 0, none⟩))) w') : wpList P ops Q (op :: rest) a w := by
  refine wpList_plain hgd fun K hK => ?_
  have hn := h (w.alloc (.cells cs.toArray ty)) w.heap.size (CBox.new w cs ty) ((Keeps.refl _).alloc _) (by simp) (Nat.le_refl _)
  obtain ⟨i, hi, hzi⟩ : ∃ i, P.info? ty = some i ∧ i.zero = some z := by
    cases q : P.info? ty with
    | none => rw [q] at hz; cases hz
    | some i => rw [q] at hz; exact ⟨i, rfl, by simpa using hz⟩
  have e1 : (execOp a.eval op).run P w = .ok (.value (.pointer (some ⟨w.heap.size, 0, none⟩))) (w.alloc (.cells cs.toArray ty)) := by
    generalize a.eval = f
    rw [← hc]
    simp [execOp, ho, hi, hzi, go_sem, typeInfo, zeroValue]
  unfold Oper.wp
  rw [e1]
  exact hK _ _ hn

end Go.Proofs.Yteabfjpajgakiaf

/- Groups as lists of cells that are not looked into: laws for the walk; groups in memory. -/
set_option linter.unusedSimpArgs false
set_option linter.unusedVariables false
set_option maxRecDepth 10000
namespace Go.Proofs.Yteabfjpajgakiaf
open Go.RowKit

/-- The cells of a group, of a log, of a state. -/
def GC (g : Grp) (x t y0 y1 y2 : Value) : List Value := [.int .i64 g.log.base.at_, .int .i64 g.log.base.clock, .int .i64 g.log.base.v0, .int .i64 g.log.base.v1, .int .i64 g.log.base.v2, .int .i64 g.log.base.v3, x, t, .int .i64 g.n0.at_, .int .i64 g.n0.clock, .int .i64 g.n0.v0, .int .i64 g.n0.v1, .int .i64 g.n0.v2, .int .i64 g.n0.v3, y0, .int .i64 g.n1.at_, .int .i64 g.n1.clock, .int .i64 g.n1.v0, .int .i64 g.n1.v1, .int .i64 g.n1.v2, .int .i64 g.n1.v3, y1, .int .i64 g.n2.at_, .int .i64 g.n2.clock, .int .i64 g.n2.v0, .int .i64 g.n2.v1, .int .i64 g.n2.v2, .int .i64 g.n2.v3, y2]
def LC (l : Lg) (x t : Value) : List Value := [.int .i64 l.base.at_, .int .i64 l.base.clock, .int .i64 l.base.v0, .int .i64 l.base.v1, .int .i64 l.base.v2, .int .i64 l.base.v3, x, t]
def SC (s : St) (t : Value) : List Value := [.int .i64 s.at_, .int .i64 s.clock, .int .i64 s.v0, .int .i64 s.v1, .int .i64 s.v2, .int .i64 s.v3, t]
abbrev gV (g : Grp) (x t y0 y1 y2 : Value) : Value := .agg (GC g x t y0 y1 y2).toArray
def ZC : List Value := GC zeroGrp (.slice none 0 0) (.slice none 0 0) (.slice none 0 0) (.slice none 0 0) (.slice none 0 0)
theorem zero31 : (Try.prog.info? 31).map (·.zero) = some (some (.agg ZC.toArray)) := by kernel_rfl
theorem zero48 : (Try.prog.info? 61).map (·.zero) = some (some (.agg ZC.toArray)) := by kernel_rfl
theorem size31 : (Try.prog.info? 31).map (·.size) = some 29 := by kernel_rfl
theorem size48 : (Try.prog.info? 61).map (·.size) = some 29 := by kernel_rfl
theorem size28 : (Try.prog.info? 28).map (·.size) = some 8 := by kernel_rfl
theorem size25 : (Try.prog.info? 25).map (·.size) = some 7 := by kernel_rfl
theorem size29 : (Try.prog.info? 29).map (·.size) = some 21 := by kernel_rfl
theorem zero28 : (Try.prog.info? 28).map (·.zero) = some (some (.agg (LC zeroLg (.slice none 0 0) (.slice none 0 0)).toArray)) := by kernel_rfl
theorem zero25 : (Try.prog.info? 25).map (·.zero) = some (some (.agg (SC zeroSt (.slice none 0 0)).toArray)) := by kernel_rfl
theorem build_hall (c0 c1 c2 c3 c4 c5 c6 c7 c8 c9 c10 c11 c12 c13 c14 c15 c16 c17 c18 c19 c20 c21 c22 c23 c24 c25 c26 c27 c28 : Value) (w : World) : (Instr.build 61 #[(0, .agg #[c0, c1, c2, c3, c4, c5, c6, c7, c8, c9, c10, c11, c12, c13, c14, c15, c16, c17, c18, c19, c20, c21, c22, c23, c24, c25, c26, c27, c28])]).run Try.prog w = .ok (.agg #[c0, c1, c2, c3, c4, c5, c6, c7, c8, c9, c10, c11, c12, c13, c14, c15, c16, c17, c18, c19, c20, c21, c22, c23, c24, c25, c26, c27, c28]) w := by kernel_rfl
theorem build_gr0 (w : World) : (Instr.build 31 #[]).run Try.prog w = .ok (.agg ZC.toArray) w := by kernel_rfl
theorem build_hall0 (w : World) : (Instr.build 61 #[]).run Try.prog w = .ok (.agg ZC.toArray) w := by kernel_rfl
theorem hall_built (g : Grp) (x t y0 y1 y2 : Value) (w : World) : (Instr.build 61 #[(0, gV g x t y0 y1 y2)]).run Try.prog w = .ok (gV g x t y0 y1 y2) w := build_hall _ _ _ _ _ _ _ _ _ _ _ _ _ _ _ _ _ _ _ _ _ _ _ _ _ _ _ _ _ w

/-- A value that is built: what is built is told. -/
theorem wpList_build_told {P : Program} {ops : Array Oper} {rest : List Oper} {op : Oper} {a : Act} {w : World} {Q : Exit → Act → World → Prop} (hgd : op.guard = none) (ty : TypeId) (parts : Array (Nat × Operand)) (ho : op.op = .build ty parts) (ps : Array (Nat × Value)) (hps : (parts.map fun (i, x) => (i, a.eval x)) = ps) (v : Value) (hr : ∀ w, (Instr.build ty ps).run P w = .ok v w)
    (h : wpList P ops Q rest (a.put op.dst v) w) : wpList P ops Q (op :: rest) a w := by
  refine wpList_plain hgd fun K hK => ?_
  have e1 : (execOp a.eval op).run P w = .ok (.value v) w := by
    generalize a.eval = f at hps
    simp only [execOp, ho]
    rw [show (parts.map fun (i, x) => (i, f x)) = ps from hps]
    simp only [Sem.run_bind, hr w, Result.andThen_ok, Sem.run_pure]
  unfold Oper.wp
  rw [e1]
  exact hK _ _ h
/-- A part of a variable is read. -/
theorem wpList_load_box {P : Program} {ops : Array Oper} {rest : List Oper} {op : Oper} {a : Act} {w : World} {Q : Exit → Act → World → Prop} (hgd : op.guard = none) (ty : TypeId) (x : Operand) (ho : op.op = .load ty x) (b o : Nat) (hx : a.eval x = .pointer (some ⟨b, o, none⟩)) {cs : List Value} (hB : CBox b cs w) (n : Nat) (ds : List Value) (hds : (cs.drop o).take n = ds) (d : TypeDesc)
    (hu : P.underlying ty = some d) (hd : d.isRow = true) (hi : (P.info? ty).map (·.size) = some ds.length) (h : wpList P ops Q rest (a.put op.dst (.agg ds.toArray)) w) : wpList P ops Q (op :: rest) a w :=
  wpList_load_mid hgd ty x ho b o hx ds d (range_of hB o n hds) hu hd hi h
/-- A part of a variable is written. -/
theorem wpList_store_box {P : Program} {ops : Array Oper} {rest : List Oper} {op : Oper} {a : Act} {w : World} {Q : Exit → Act → World → Prop} (hgd : op.guard = none) (ty : TypeId) (x y : Operand) (ho : op.op = .store ty x y) (b o : Nat) (ds : List Value) (hx : a.eval x = .pointer (some ⟨b, o, none⟩)) (hy : a.eval y = .agg ds.toArray) {cs : List Value} (hB : CBox b cs w) (es : List Value) (hes : cs.take o ++ ds ++ cs.drop (o + ds.length) = es)
    (hl : o + ds.length ≤ cs.length) (hi : (P.info? ty).map (·.size) = some ds.length) (h1 : ds.toArray.all (·.oneCell') = true) (h : ∀ w', CBox b es w' → But b w w' → wpList P ops Q rest (a.put op.dst undef) w') : wpList P ops Q (op :: rest) a w := by
  subst hes
  refine wpList_store_mid hgd ty x y ho b o ds.toArray hx hy (by simpa using hB.there o ds.length hl) (by simpa using hi) h1 ?_
  exact h _ (hB.putAt ds hl) (But.setCells _ _ (But.refl _ _))
/-- A result that lies in memory. -/
theorem read_box {P : Program} {w : World} {b : Nat} {cs : List Value} (hB : CBox b cs w) (ty : TypeId) (d : TypeDesc) (hu : P.underlying ty = some d) (hd : d.isRow = true) (hi : (P.info? ty).map (·.size) = some cs.length) : (loadVar ty ⟨b, 0, none⟩).run P w = .ok (.agg cs.toArray) w :=
  run_loadVar_mid w b 0 ty cs d (range_of hB 0 cs.length (by simp)) hu hd hi

/-- Where its lists lie. -/
structure Ad where
  xa : Option Addr
  ta : Option Addr
  a0 : Option Addr
  a1 : Option Addr
  a2 : Option Addr
  xc : Nat
  tc : Nat
  c0 : Nat
  c1 : Nat
  c2 : Nat
def zeroAd : Ad := ⟨none, none, none, none, none, 0, 0, 0, 0, 0⟩
/-- The cells of a group whose lists lie there. -/
def GL (g : Grp) (A : Ad) : List Value := GC g (.slice A.xa g.log.base.tab.length A.xc) (.slice A.ta g.log.tail.length A.tc) (.slice A.a0 g.n0.tab.length A.c0) (.slice A.a1 g.n1.tab.length A.c1) (.slice A.a2 g.n2.tab.length A.c2)
theorem hall_made (g : Grp) (A : Ad) (w : World) : (Instr.build 61 #[(0, .agg (GL g A).toArray)]).run Try.prog w = .ok (.agg (GL g A).toArray) w := hall_built _ _ _ _ _ _ w
theorem GL_one (g : Grp) (A : Ad) : (GL g A).toArray.all (·.oneCell') = true := by kernel_rfl
/-- A group in memory. -/
structure GrAt (w : World) (g : Grp) (A : Ad) : Prop where
  base : TabAt w (.slice A.xa g.log.base.tab.length A.xc) g.log.base.tab
  tail : EntsAt w (.slice A.ta g.log.tail.length A.tc) g.log.tail
  cap : g.log.tail.length ≤ A.tc
  t0 : TabAt w (.slice A.a0 g.n0.tab.length A.c0) g.n0.tab
  t1 : TabAt w (.slice A.a1 g.n1.tab.length A.c1) g.n1.tab
  t2 : TabAt w (.slice A.a2 g.n2.tab.length A.c2) g.n2.tab
theorem GrAt.keep {w w' : World} {g : Grp} {A : Ad} (h : GrAt w g A) (hk : Keeps w w') : GrAt w' g A :=
  ⟨h.base.keep hk, h.tail.keep hk, h.cap, h.t0.keep hk, h.t1.keep hk, h.t2.keep hk⟩
/-- .. in memory that is not older than base. -/
structure GrOwn (base : Nat) (w : World) (g : Grp) (A : Ad) : Prop where
  b : OwnTab base w (.slice A.xa g.log.base.tab.length A.xc) g.log.base.tab
  tail : w.ownsRow base 35 9 (.slice A.ta g.log.tail.length A.tc) g.log.tail.length (entCells g.log.tail)
  cap : g.log.tail.length ≤ A.tc
  t0 : OwnTab base w (.slice A.a0 g.n0.tab.length A.c0) g.n0.tab
  t1 : OwnTab base w (.slice A.a1 g.n1.tab.length A.c1) g.n1.tab
  t2 : OwnTab base w (.slice A.a2 g.n2.tab.length A.c2) g.n2.tab
theorem GrOwn.at {base : Nat} {w : World} {g : Grp} {A : Ad} (h : GrOwn base w g A) : GrAt w g A :=
  ⟨h.b.tab, RowAt.of_owns h.tail, h.cap, h.t0.tab, h.t1.tab, h.t2.tab⟩
theorem GrOwn.keep {base : Nat} {w w' : World} {g : Grp} {A : Ad} (h : GrOwn base w g A) (hk : Keeps w w') : GrOwn base w' g A :=
  ⟨h.b.keep hk, owns_keep h.tail hk, h.cap, h.t0.keep hk, h.t1.keep hk, h.t2.keep hk⟩
theorem GrOwn.but {b base : Nat} {w w' : World} {g : Grp} {A : Ad} (h : GrOwn base w g A) (hb : b < base) (hk : But b w w') : GrOwn base w' g A :=
  ⟨h.b.but hb hk, owns_far h.tail hb hk, h.cap, h.t0.but hb hk, h.t1.but hb hk, h.t2.but hb hk⟩
theorem GrOwn.mono {base base' : Nat} {w : World} {g : Grp} {A : Ad} (h : GrOwn base w g A) (hb : base' ≤ base) : GrOwn base' w g A :=
  ⟨h.b.base hb, owns_base h.tail hb, h.cap, h.t0.base hb, h.t1.base hb, h.t2.base hb⟩
theorem GrOwn.zero (base : Nat) (w : World) : GrOwn base w zeroGrp zeroAd :=
  ⟨OwnTab.nil _ _, World.ownsRow_nil _ _ _ _, Nat.le_refl _, OwnTab.nil _ _, OwnTab.nil _ _, OwnTab.nil _ _⟩

theorem hall_check_c (g : Grp) (A : Ad) (b : Nat) (w : World) (hG : GrAt w g A) (hB : CBox b (GL g A) w) : Calls Try.prog 22 #[.pointer (some ⟨b, 0, none⟩)] w fun e w' => e = .returned (.int .i64 (grErr g)) ∧ Keeps w w' :=
  hall_check g _ _ _ _ A.ta A.tc b w hG.base hG.tail hG.t0 hG.t1 hG.t2 hG.cap hB
end Go.Proofs.Yteabfjpajgakiaf

/- The arguments of a law: a group. -/
set_option linter.unusedSimpArgs false
set_option linter.unusedVariables false
set_option maxRecDepth 100000
namespace Go.Proofs.Yteabfjpajgakiaf
open Go.ChangeShapes Go.WideShapes Go.ChangeAt Go.RowKit Go.Joins Go.Deep

section
variable {H : Type} {enc : TypeId × Value → H} {w : World} {base : Nat} {spare : Nat → Bool} {held : Bool}
theorem cellsGr : Try.prog.cellsOf 31 = 29 := by kernel_rfl
theorem cellsNs : Try.prog.cellsOf 29 = 21 := by kernel_rfl
set_option maxHeartbeats 1000000 in
/-- A group. -/
theorem open_group {r : Reach} {b0 : Nat} {v : Value} {d : DataW H} {p : List MemPlace} (hv : Value.okWide Try.prog w r b0 31 v) (h : DataW.Trod enc Try.prog w base spare held 31 v d p) :
    ∃ (g : Grp) (A : Ad), v = .agg (GL g A).toArray ∧ GrAt w g A := by
  obtain ⟨cs, rfl, hsz⟩ := okWide_struct Try.underlying31 hv
  rw [cellsGr] at hsz
  obtain ⟨fuel, hf⟩ := h
  obtain ⟨cl⟩ := cs
  match cl, hsz with
  | [c0, c1, c2, c3, c4, c5, c6, c7, c8, c9, c10, c11, c12, c13, c14, c15, c16, c17, c18, c19, c20, c21, c22, c23, c24, c25, c26, c27, c28], _ =>
    obtain ⟨ys, m, _, _, _, hlen, hf⟩ := DataW.trod_struct Try.underlying31 hf
    match ys, hlen with
    | [y0, y1], _ =>
      have g0 := hf 0 _ rfl
      have g1 := hf 1 _ rfl
      simp only [cellsLg, cellsNs, List.drop_zero, List.drop_succ_cons, List.take_succ_cons, List.take_zero, List.getElem?_cons_zero, List.getElem?_cons_succ] at g0 g1
      obtain ⟨l, ta, tc, rfl, rfl, rfl, rfl, rfl, rfl, hT, rfl, hL, hc⟩ := lg_cells g0
      obtain ⟨xs, m2, _, _, _, hlen2, hi⟩ := DataW.trod_array Try.underlying29 g1
      simp only [cellsSt] at hi
      have e : ∀ i (hi' : i < 3), ∃ y, xs[i]? = some y := fun i h' => ⟨xs[i]'(by omega), by rw [List.getElem?_eq_getElem]⟩
      obtain ⟨z0, e0⟩ := e 0 (by decide)
      have n0 := (hi 0 (by decide)).trans e0
      obtain ⟨z1, e1⟩ := e 1 (by decide)
      have n1 := (hi 1 (by decide)).trans e1
      obtain ⟨z2, e2⟩ := e 2 (by decide)
      have n2 := (hi 2 (by decide)).trans e2
      simp only [Nat.zero_mul, Nat.one_mul, Nat.reduceMul, List.drop_zero, List.drop_succ_cons, List.take_succ_cons, List.take_zero] at n0 n1 n2
      obtain ⟨s0, rfl, rfl, rfl, rfl, rfl, rfl, t0⟩ := st_cells n0
      obtain ⟨s1, rfl, rfl, rfl, rfl, rfl, rfl, t1⟩ := st_cells n1
      obtain ⟨s2, rfl, rfl, rfl, rfl, rfl, rfl, t2⟩ := st_cells n2
      obtain ⟨xa, xc, rfl, _⟩ := hT.len
      obtain ⟨a0, p0, rfl, _⟩ := t0.len
      obtain ⟨a1, p1, rfl, _⟩ := t1.len
      obtain ⟨a2, p2, rfl, _⟩ := t2.len
      exact ⟨⟨l, s0, s1, s2⟩, ⟨xa, ta, a0, a1, a2, xc, tc, p0, p1, p2⟩, rfl, ⟨hT, hL, hc, t0, t1, t2⟩⟩
end
end Go.Proofs.Yteabfjpajgakiaf

/- The walk's laws at groups' variables. -/
set_option linter.unusedSimpArgs false
set_option linter.unusedVariables false
set_option maxRecDepth 10000
namespace Go.Proofs.Yteabfjpajgakiaf
open Go.RowKit

abbrev logV (g : Grp) (A : Ad) : Value := lgV g.log (.slice A.xa g.log.base.tab.length A.xc) (.slice A.ta g.log.tail.length A.tc)
/-- Node k of a group. -/
def nodeAt (g : Grp) : Nat → St
  | 0 => g.n0
  | 1 => g.n1
  | _ => g.n2
def tabV (g : Grp) (A : Ad) : Nat → Value
  | 0 => .slice A.a0 g.n0.tab.length A.c0
  | 1 => .slice A.a1 g.n1.tab.length A.c1
  | _ => .slice A.a2 g.n2.tab.length A.c2
abbrev nodeV (g : Grp) (A : Ad) (k : Nat) : Value := stV (nodeAt g k) (tabV g A k)
def setLog (g : Grp) (l : Lg) : Grp := ⟨l, g.n0, g.n1, g.n2⟩
def setLogA (A : Ad) (xa : Option Addr) (xc : Nat) (ta : Option Addr) (tc : Nat) : Ad := ⟨xa, ta, A.a0, A.a1, A.a2, xc, tc, A.c0, A.c1, A.c2⟩
def setNode (g : Grp) (k : Nat) (s : St) : Grp := match k with
  | 0 => ⟨g.log, s, g.n1, g.n2⟩
  | 1 => ⟨g.log, g.n0, s, g.n2⟩
  | _ => ⟨g.log, g.n0, g.n1, s⟩
def setNodeA (A : Ad) (k : Nat) (a : Option Addr) (c : Nat) : Ad := match k with
  | 0 => ⟨A.xa, A.ta, a, A.a1, A.a2, A.xc, A.tc, c, A.c1, A.c2⟩
  | 1 => ⟨A.xa, A.ta, A.a0, a, A.a2, A.xc, A.tc, A.c0, c, A.c2⟩
  | _ => ⟨A.xa, A.ta, A.a0, A.a1, a, A.xc, A.tc, A.c0, A.c1, c⟩
theorem GL_len (g : Grp) (A : Ad) : (GL g A).length = 29 := rfl
theorem GL_all (g : Grp) (A : Ad) : ((GL g A).drop 0).take 29 = GL g A := rfl
theorem GL_log (g : Grp) (A : Ad) : ((GL g A).drop 0).take 8 = LC g.log (.slice A.xa g.log.base.tab.length A.xc) (.slice A.ta g.log.tail.length A.tc) := rfl
theorem GL_node (g : Grp) (A : Ad) : ∀ k, k < 3 → ((GL g A).drop (8 + k * 7)).take 7 = SC (nodeAt g k) (tabV g A k)
  | 0, _ => rfl
  | 1, _ => rfl
  | 2, _ => rfl
  | k + 3, h => by omega
theorem GL_setLog (g : Grp) (A : Ad) (l : Lg) (xa ta : Option Addr) (xc tc : Nat) : (GL g A).take 0 ++ LC l (.slice xa l.base.tab.length xc) (.slice ta l.tail.length tc) ++ (GL g A).drop (0 + (LC l (.slice xa l.base.tab.length xc) (.slice ta l.tail.length tc)).length) = GL (setLog g l) (setLogA A xa xc ta tc) := rfl
theorem GL_setNode (g : Grp) (A : Ad) (s : St) (x : Option Addr) (c : Nat) : ∀ k, k < 3 → (GL g A).take (8 + k * 7) ++ SC s (.slice x s.tab.length c) ++ (GL g A).drop (8 + k * 7 + (SC s (.slice x s.tab.length c)).length) = GL (setNode g k s) (setNodeA A k x c)
  | 0, _ => rfl
  | 1, _ => rfl
  | 2, _ => rfl
  | k + 3, h => by omega
theorem GL_whole (g g' : Grp) (A A' : Ad) : (GL g A).take 0 ++ GL g' A' ++ (GL g A).drop (0 + (GL g' A').length) = GL g' A' := rfl
theorem LC_one (l : Lg) (xa ta : Option Addr) (xc tc xn tn : Nat) : (LC l (.slice xa xn xc) (.slice ta tn tc)).toArray.all (·.oneCell') = true := by kernel_rfl
theorem SC_one (s : St) (xa : Option Addr) (xc xn : Nat) : (SC s (.slice xa xn xc)).toArray.all (·.oneCell') = true := by kernel_rfl
theorem info_size {P : Program} {t : TypeId} {n : Nat} (h : (P.info? t).map (·.size) = some n) {l : List Value} (hl : l.length = n) : (P.info? t).map (·.size) = some l.length := by rw [hl]; exact h
theorem row31 : ∃ d, Try.prog.underlying 31 = some d ∧ d.isRow = true := ⟨_, Try.underlying31, rfl⟩
theorem row48 : ∃ d, Try.prog.underlying 61 = some d ∧ d.isRow = true := ⟨_, Try.underlying61, rfl⟩
theorem row28 : ∃ d, Try.prog.underlying 28 = some d ∧ d.isRow = true := ⟨_, Try.underlying28, rfl⟩
theorem row25 : ∃ d, Try.prog.underlying 25 = some d ∧ d.isRow = true := ⟨_, Try.underlying25, rfl⟩

section
variable {ops : Array Oper} {rest : List Oper} {op : Oper} {a : Act} {w : World} {Q : Exit → Act → World → Prop}
theorem box31 (hgd : op.guard = none) {x : Operand} (ho : op.op = .box 31 x) {g : Grp} {A : Ad} (hx : a.eval x = .agg (GL g A).toArray)
    (h : ∀ (w' : World) (b : Nat), CBox b (GL g A) w' → Keeps w w' → b < w'.heap.size → w.heap.size ≤ b → wpList Try.prog ops Q rest (a.put op.dst (.pointer (some ⟨b, 0, none⟩))) w') : wpList Try.prog ops Q (op :: rest) a w := wpList_box_new hgd _ x ho _ hx h
theorem alloc31 (hgd : op.guard = none) (ho : op.op = .alloc 31)
    (h : ∀ (w' : World) (b : Nat), CBox b (GL zeroGrp zeroAd) w' → Keeps w w' → b < w'.heap.size → w.heap.size ≤ b → wpList Try.prog ops Q rest (a.put op.dst (.pointer (some ⟨b, 0, none⟩))) w') : wpList Try.prog ops Q (op :: rest) a w := wpList_alloc_new hgd _ ho _ _ zero31 rfl h
theorem alloc48 (hgd : op.guard = none) (ho : op.op = .alloc 61)
    (h : ∀ (w' : World) (b : Nat), CBox b (GL zeroGrp zeroAd) w' → Keeps w w' → b < w'.heap.size → w.heap.size ≤ b → wpList Try.prog ops Q rest (a.put op.dst (.pointer (some ⟨b, 0, none⟩))) w') : wpList Try.prog ops Q (op :: rest) a w := wpList_alloc_new hgd _ ho _ _ zero48 rfl h
theorem alloc28 (hgd : op.guard = none) (ho : op.op = .alloc 28)
    (h : ∀ (w' : World) (b : Nat), CBox b (LC zeroLg (.slice none 0 0) (.slice none 0 0)) w' → Keeps w w' → b < w'.heap.size → w.heap.size ≤ b → wpList Try.prog ops Q rest (a.put op.dst (.pointer (some ⟨b, 0, none⟩))) w') : wpList Try.prog ops Q (op :: rest) a w := wpList_alloc_new hgd _ ho _ _ zero28 rfl h
theorem alloc25 (hgd : op.guard = none) (ho : op.op = .alloc 25)
    (h : ∀ (w' : World) (b : Nat), CBox b (SC zeroSt (.slice none 0 0)) w' → Keeps w w' → b < w'.heap.size → w.heap.size ≤ b → wpList Try.prog ops Q rest (a.put op.dst (.pointer (some ⟨b, 0, none⟩))) w') : wpList Try.prog ops Q (op :: rest) a w := wpList_alloc_new hgd _ ho _ _ zero25 rfl h
theorem load31 (hgd : op.guard = none) {x : Operand} (ho : op.op = .load 31 x) (b : Nat) (hx : a.eval x = .pointer (some ⟨b, 0, none⟩)) {g : Grp} {A : Ad} (hB : CBox b (GL g A) w)
    (h : wpList Try.prog ops Q rest (a.put op.dst (.agg (GL g A).toArray)) w) : wpList Try.prog ops Q (op :: rest) a w := by
  obtain ⟨d, h1, h2⟩ := row31
  exact wpList_load_box hgd _ x ho b 0 hx hB 29 _ (GL_all g A) d h1 h2 (info_size size31 (GL_len g A)) h
theorem load28 (hgd : op.guard = none) {x : Operand} (ho : op.op = .load 28 x) (b : Nat) (hx : a.eval x = .pointer (some ⟨b, 0, none⟩)) {g : Grp} {A : Ad} (hB : CBox b (GL g A) w)
    (h : wpList Try.prog ops Q rest (a.put op.dst (logV g A)) w) : wpList Try.prog ops Q (op :: rest) a w := by
  obtain ⟨d, h1, h2⟩ := row28
  exact wpList_load_box hgd _ x ho b 0 hx hB 8 _ (GL_log g A) d h1 h2 (info_size size28 rfl) h
theorem load28b (hgd : op.guard = none) {x : Operand} (ho : op.op = .load 28 x) (b : Nat) (hx : a.eval x = .pointer (some ⟨b, 0, none⟩)) {l : Lg} {y t : Value} (hB : CBox b (LC l y t) w)
    (h : wpList Try.prog ops Q rest (a.put op.dst (lgV l y t)) w) : wpList Try.prog ops Q (op :: rest) a w := by
  obtain ⟨d, h1, h2⟩ := row28
  exact wpList_load_box hgd _ x ho b 0 hx hB 8 _ rfl d h1 h2 (info_size size28 rfl) h
theorem load25b (hgd : op.guard = none) {x : Operand} (ho : op.op = .load 25 x) (b : Nat) (hx : a.eval x = .pointer (some ⟨b, 0, none⟩)) {s : St} {t : Value} (hB : CBox b (SC s t) w)
    (h : wpList Try.prog ops Q rest (a.put op.dst (stV s t)) w) : wpList Try.prog ops Q (op :: rest) a w := by
  obtain ⟨d, h1, h2⟩ := row25
  exact wpList_load_box hgd _ x ho b 0 hx hB 7 _ rfl d h1 h2 (info_size size25 rfl) h
theorem store31 (hgd : op.guard = none) {x y : Operand} (ho : op.op = .store 31 x y) (b : Nat) (hx : a.eval x = .pointer (some ⟨b, 0, none⟩)) {g g' : Grp} {A A' : Ad} (hy : a.eval y = .agg (GL g' A').toArray) (hB : CBox b (GL g A) w)
    (h : ∀ w', CBox b (GL g' A') w' → But b w w' → wpList Try.prog ops Q rest (a.put op.dst undef) w') : wpList Try.prog ops Q (op :: rest) a w :=
  wpList_store_box hgd _ x y ho b 0 _ hx hy hB _ (GL_whole g g' A A') (Nat.le_of_eq rfl) (info_size size31 (GL_len g' A')) (GL_one g' A') h
theorem store48 (hgd : op.guard = none) {x y : Operand} (ho : op.op = .store 61 x y) (b : Nat) (hx : a.eval x = .pointer (some ⟨b, 0, none⟩)) {g g' : Grp} {A A' : Ad} (hy : a.eval y = .agg (GL g' A').toArray) (hB : CBox b (GL g A) w)
    (h : ∀ w', CBox b (GL g' A') w' → But b w w' → wpList Try.prog ops Q rest (a.put op.dst undef) w') : wpList Try.prog ops Q (op :: rest) a w :=
  wpList_store_box hgd _ x y ho b 0 _ hx hy hB _ (GL_whole g g' A A') (Nat.le_of_eq rfl) (info_size size48 (GL_len g' A')) (GL_one g' A') h
theorem store28 (hgd : op.guard = none) {x y : Operand} (ho : op.op = .store 28 x y) (b : Nat) (hx : a.eval x = .pointer (some ⟨b, 0, none⟩)) {g : Grp} {A : Ad} {l : Lg} {xa ta : Option Addr} {xc tc : Nat} (hy : a.eval y = lgV l (.slice xa l.base.tab.length xc) (.slice ta l.tail.length tc)) (hB : CBox b (GL g A) w)
    (h : ∀ w', CBox b (GL (setLog g l) (setLogA A xa xc ta tc)) w' → But b w w' → wpList Try.prog ops Q rest (a.put op.dst undef) w') : wpList Try.prog ops Q (op :: rest) a w :=
  wpList_store_box hgd _ x y ho b 0 (LC l (.slice xa l.base.tab.length xc) (.slice ta l.tail.length tc)) hx hy hB _ (GL_setLog g A l xa ta xc tc) (Nat.le_of_ble_eq_true rfl) (info_size size28 rfl) (LC_one _ _ _ _ _ _ _) h
theorem store25 (hgd : op.guard = none) {x y : Operand} (ho : op.op = .store 25 x y) (b k : Nat) (hk : k < 3) (o : Nat) (e : o = 8 + k * 7) (hx : a.eval x = .pointer (some ⟨b, o, none⟩)) {g : Grp} {A : Ad} {s : St} {xa : Option Addr} {xc : Nat} (hy : a.eval y = stV s (.slice xa s.tab.length xc)) (hB : CBox b (GL g A) w)
    (h : ∀ w', CBox b (GL (setNode g k s) (setNodeA A k xa xc)) w' → But b w w' → wpList Try.prog ops Q rest (a.put op.dst undef) w') : wpList Try.prog ops Q (op :: rest) a w := by
  subst e
  exact wpList_store_box hgd _ x y ho b (8 + k * 7) (SC s (.slice xa s.tab.length xc)) hx hy hB _ (GL_setNode g A s xa xc k hk) (by rw [GL_len]; show 8 + k * 7 + 7 ≤ 29; omega) (info_size size25 rfl) (SC_one _ _ _ _) h
theorem store28b (hgd : op.guard = none) {x y : Operand} (ho : op.op = .store 28 x y) (b : Nat) (hx : a.eval x = .pointer (some ⟨b, 0, none⟩)) {k l : Lg} {p q : Value} {xa ta : Option Addr} {xn tn xc tc : Nat} (hy : a.eval y = lgV l (.slice xa xn xc) (.slice ta tn tc)) (hB : CBox b (LC k p q) w)
    (h : ∀ w', CBox b (LC l (.slice xa xn xc) (.slice ta tn tc)) w' → But b w w' → wpList Try.prog ops Q rest (a.put op.dst undef) w') : wpList Try.prog ops Q (op :: rest) a w :=
  wpList_store_box hgd _ x y ho b 0 (LC l (.slice xa xn xc) (.slice ta tn tc)) hx hy hB _ rfl (Nat.le_of_ble_eq_true rfl) (info_size size28 rfl) (LC_one _ _ _ _ _ _ _) h
theorem store25b (hgd : op.guard = none) {x y : Operand} (ho : op.op = .store 25 x y) (b : Nat) (hx : a.eval x = .pointer (some ⟨b, 0, none⟩)) {k s : St} {p : Value} {xa : Option Addr} {xn xc : Nat} (hy : a.eval y = stV s (.slice xa xn xc)) (hB : CBox b (SC k p) w)
    (h : ∀ w', CBox b (SC s (.slice xa xn xc)) w' → But b w w' → wpList Try.prog ops Q rest (a.put op.dst undef) w') : wpList Try.prog ops Q (op :: rest) a w :=
  wpList_store_box hgd _ x y ho b 0 (SC s (.slice xa xn xc)) hx hy hB _ rfl (Nat.le_of_ble_eq_true rfl) (info_size size25 rfl) (SC_one _ _ _ _) h
theorem build48 (hgd : op.guard = none) {x : Operand} (ho : op.op = .build 61 #[(0, x)]) {g : Grp} {A : Ad} (hx : a.eval x = .agg (GL g A).toArray) (h : wpList Try.prog ops Q rest (a.put op.dst (.agg (GL g A).toArray)) w) : wpList Try.prog ops Q (op :: rest) a w :=
  wpList_build_told hgd _ _ ho #[(0, .agg (GL g A).toArray)] (by simp [hx]) _ (hall_made g A) h
theorem build48z (hgd : op.guard = none) (ho : op.op = .build 61 #[]) (h : wpList Try.prog ops Q rest (a.put op.dst (.agg (GL zeroGrp zeroAd).toArray)) w) : wpList Try.prog ops Q (op :: rest) a w :=
  wpList_build_told hgd _ _ ho #[] (by simp) _ build_hall0 h
theorem build31z (hgd : op.guard = none) (ho : op.op = .build 31 #[]) (h : wpList Try.prog ops Q rest (a.put op.dst (.agg (GL zeroGrp zeroAd).toArray)) w) : wpList Try.prog ops Q (op :: rest) a w :=
  wpList_build_told hgd _ _ ho #[] (by simp) _ build_gr0 h
end
theorem read31 {w : World} {b : Nat} {g : Grp} {A : Ad} (hB : CBox b (GL g A) w) : (loadVar 31 ⟨b, 0, none⟩).run Try.prog w = .ok (.agg (GL g A).toArray) w := by
  obtain ⟨d, h1, h2⟩ := row31
  exact read_box hB _ d h1 h2 (info_size size31 (GL_len g A))
theorem read48 {w : World} {b : Nat} {g : Grp} {A : Ad} (hB : CBox b (GL g A) w) : (loadVar 61 ⟨b, 0, none⟩).run Try.prog w = .ok (.agg (GL g A).toArray) w := by
  obtain ⟨d, h1, h2⟩ := row48
  exact read_box hB _ d h1 h2 (info_size size48 (GL_len g A))
/-- Results of which the first lies in memory. -/
theorem results1 {P : Program} {fn : Func} {tmps : Array Value} {w : World} {i : Nat} {t : TypeId} (hf : fn.results = #[.cell i t]) {p : Addr} (h0 : tmps.getD i undef = .pointer (some p)) {v : Value} (hl : (loadVar t p).run P w = .ok v w) : (results fn tmps).run P w = .ok v w := by
  simp only [results, hf]
  simp [asAddr, ← Array.getD_eq_getD_getElem?, h0, hl]
theorem results2 {P : Program} {fn : Func} {tmps : Array Value} {w : World} {i j : Nat} {t : TypeId} (hf : fn.results = #[.cell i t, .tmp j]) {p : Addr} (h0 : tmps.getD i undef = .pointer (some p)) {u : Value} (h1 : tmps.getD j undef = u) {v : Value} (hl : (loadVar t p).run P w = .ok v w) : (results fn tmps).run P w = .ok (.tuple #[v, u]) w := by
  simp only [results, hf]
  simp [asAddr, ← Array.getD_eq_getD_getElem?, h0, h1, hl]
theorem results3 {P : Program} {fn : Func} {tmps : Array Value} {w : World} {i j k : Nat} {t : TypeId} (hf : fn.results = #[.cell i t, .tmp j, .tmp k]) {p : Addr} (h0 : tmps.getD i undef = .pointer (some p)) {u u' : Value} (h1 : tmps.getD j undef = u) (h2 : tmps.getD k undef = u') {v : Value} (hl : (loadVar t p).run P w = .ok v w) : (results fn tmps).run P w = .ok (.tuple #[v, u, u']) w := by
  simp only [results, hf]
  simp [asAddr, ← Array.getD_eq_getD_getElem?, h0, h1, h2, hl]
/-- The nodes of a group. -/
def NC (g : Grp) (A : Ad) : List Value := [.int .i64 g.n0.at_, .int .i64 g.n0.clock, .int .i64 g.n0.v0, .int .i64 g.n0.v1, .int .i64 g.n0.v2, .int .i64 g.n0.v3, .slice A.a0 g.n0.tab.length A.c0, .int .i64 g.n1.at_, .int .i64 g.n1.clock, .int .i64 g.n1.v0, .int .i64 g.n1.v1, .int .i64 g.n1.v2, .int .i64 g.n1.v3, .slice A.a1 g.n1.tab.length A.c1, .int .i64 g.n2.at_, .int .i64 g.n2.clock, .int .i64 g.n2.v0, .int .i64 g.n2.v1, .int .i64 g.n2.v2, .int .i64 g.n2.v3, .slice A.a2 g.n2.tab.length A.c2]
theorem GL_nodes (g : Grp) (A : Ad) : ((GL g A).drop 8).take 21 = NC g A := rfl
theorem row29 : ∃ d, Try.prog.underlying 29 = some d ∧ d.isRow = true := ⟨_, Try.underlying29, rfl⟩
theorem load29 {ops : Array Oper} {rest : List Oper} {op : Oper} {a : Act} {w : World} {Q : Exit → Act → World → Prop} (hgd : op.guard = none) {x : Operand} (ho : op.op = .load 29 x) (b : Nat) (hx : a.eval x = .pointer (some ⟨b, 8, none⟩)) {g : Grp} {A : Ad} (hB : CBox b (GL g A) w)
    (h : wpList Try.prog ops Q rest (a.put op.dst (.agg (NC g A).toArray)) w) : wpList Try.prog ops Q (op :: rest) a w := by
  obtain ⟨d, h1, h2⟩ := row29
  exact wpList_load_box hgd _ x ho b 8 hx hB 21 _ (GL_nodes g A) d h1 h2 (info_size size29 rfl) h
theorem node_index0 (g : Grp) (A : Ad) (w : World) : (Instr.index 29 (.agg (NC g A).toArray) (.int .i64 0)).run Try.prog w = .ok (stV g.n0 (.slice A.a0 g.n0.tab.length A.c0)) w := gr_index0 _ _ _ _ _ _ _ _ _ _ _ _ _ _ _ _ _ _ _ _ _ w
theorem node_index1 (g : Grp) (A : Ad) (w : World) : (Instr.index 29 (.agg (NC g A).toArray) (.int .i64 1)).run Try.prog w = .ok (stV g.n1 (.slice A.a1 g.n1.tab.length A.c1)) w := gr_index1 _ _ _ _ _ _ _ _ _ _ _ _ _ _ _ _ _ _ _ _ _ w
theorem node_index2 (g : Grp) (A : Ad) (w : World) : (Instr.index 29 (.agg (NC g A).toArray) (.int .i64 2)).run Try.prog w = .ok (stV g.n2 (.slice A.a2 g.n2.tab.length A.c2)) w := gr_index2 _ _ _ _ _ _ _ _ _ _ _ _ _ _ _ _ _ _ _ _ _ w
/-- The log of a group, a node of it, in memory that is not older than base. -/
structure LogOwn (base : Nat) (w : World) (g : Grp) (A : Ad) : Prop where
  b : OwnTab base w (.slice A.xa g.log.base.tab.length A.xc) g.log.base.tab
  tail : w.ownsRow base 35 9 (.slice A.ta g.log.tail.length A.tc) g.log.tail.length (entCells g.log.tail)
  cap : g.log.tail.length ≤ A.tc
theorem LogOwn.keep {base : Nat} {w w' : World} {g : Grp} {A : Ad} (h : LogOwn base w g A) (hk : Keeps w w') : LogOwn base w' g A := ⟨h.b.keep hk, owns_keep h.tail hk, h.cap⟩
theorem LogOwn.but {b base : Nat} {w w' : World} {g : Grp} {A : Ad} (h : LogOwn base w g A) (hk : But b w w') (hb : b < base) : LogOwn base w' g A := ⟨h.b.but hb hk, owns_far h.tail hb hk, h.cap⟩
theorem LogOwn.node {base : Nat} {w : World} {g : Grp} {A : Ad} (h : LogOwn base w g A) (a : Option Addr) (c : Nat) : ∀ k, LogOwn base w g (setNodeA A k a c)
  | 0 => ⟨h.b, h.tail, h.cap⟩
  | 1 => ⟨h.b, h.tail, h.cap⟩
  | _ + 2 => ⟨h.b, h.tail, h.cap⟩
theorem GrOwn.of {base base' : Nat} {w : World} {g : Grp} {A : Ad} (h : LogOwn base w g A) (h0 : OwnTab base w (.slice A.a0 g.n0.tab.length A.c0) g.n0.tab) (h1 : OwnTab base w (.slice A.a1 g.n1.tab.length A.c1) g.n1.tab) (h2 : OwnTab base w (.slice A.a2 g.n2.tab.length A.c2) g.n2.tab) (hb : base' ≤ base) : GrOwn base' w g A :=
  ⟨h.b.base hb, owns_base h.tail hb, h.cap, h0.base hb, h1.base hb, h2.base hb⟩
theorem GrAt.tab {w : World} {g : Grp} {A : Ad} (h : GrAt w g A) : ∀ k, TabAt w (tabV g A k) (nodeAt g k).tab
  | 0 => h.t0
  | 1 => h.t1
  | _ + 2 => h.t2
/-- A right group. -/
theorem gr_right {g : Grp} (h : grErr g = 0) : lgErr g.log = 0 ∧ stErr g.log.base = 0 ∧ g.log.tail.length ≤ 50 ∧ (stErr g.n0 = 0 ∧ stErr g.n1 = 0 ∧ stErr g.n2 = 0) ∧ (fitsB g.log g.n0 = true ∧ fitsB g.log g.n1 = true ∧ fitsB g.log g.n2 = true) := by
  have hl : lgErr g.log = 0 := by
    unfold grErr at h
    split at h
    · rename_i h'
      simpa using h'
    · exact h
  have one : ∀ s, oneErr g.log s = 0 → stErr s = 0 ∧ fitsB g.log s = true := fun s h => by
    unfold oneErr nodeErr at h
    rw [hl] at h
    simp only [beq_self_eq_true, if_true] at h
    split at h
    · rename_i h'
      have hs : stErr s = 0 := by simpa using h'
      refine ⟨hs, ?_⟩
      split at h
      · rename_i hf
        unfold fitsOk nodeErr at hf
        rw [hl, hs] at hf
        exact hf
      · cases h
    · rename_i h'
      simp [h] at h'
  have hg : oneErr g.log g.n0 = 0 ∧ oneErr g.log g.n1 = 0 ∧ oneErr g.log g.n2 = 0 := by
    unfold grErr at h
    rw [hl] at h
    simp only [beq_self_eq_true, if_true] at h
    split at h
    · rename_i h0
      split at h
      · rename_i h1
        exact ⟨by simpa using h0, by simpa using h1, h⟩
      · rename_i h1
        simp [h] at h1
    · rename_i h0
      simp [h] at h0
  obtain ⟨f1, f2, f3⟩ := fold_right (s := g.log.base) (L := g.log.tail) hl
  have := (stErr_bounds f1).1
  exact ⟨hl, f1, by omega, ⟨(one _ hg.1).1, (one _ hg.2.1).1, (one _ hg.2.2).1⟩, (one _ hg.1).2, (one _ hg.2.1).2, (one _ hg.2.2).2⟩
end Go.Proofs.Yteabfjpajgakiaf

/- group.Check. -/
set_option linter.unusedSimpArgs false
set_option linter.unusedVariables false
set_option maxRecDepth 10000
namespace Go.Proofs.Yteabfjpajgakiaf
open Go.RowKit

set_option maxHeartbeats 400000 in
theorem group_check (g : Grp) (A : Ad) (w : World) (hG : GrAt w g A) : Calls Try.prog 7 #[.agg (GL g A).toArray] w fun e w' => e = .returned (.int .i64 (grErr g)) ∧ Keeps w w' := by
  have HG : Hid (GrAt w g A) := hG
  clear hG
  go_enter Try.func7, Try.ntmps7
  go_wp2_with (first | (refine box31 rfl rfl rfl ?_; intro w1 bb hBbb hkbb hlbb hgbb) | (refine load31 rfl rfl bb rfl hBbb ?_) | (refine build48 rfl rfl rfl ?_) | (refine alloc48 rfl rfl ?_; intro w2 nb hBnb hknb hlnb hgnb) | (refine store48 rfl rfl nb rfl rfl hBnb ?_; intro w3 hSw3 hTw3))
  have hk3 : Keeps w w3 := But.to (hkbb.trans hknb) (Nat.le_trans hkbb.size hgnb) hTw3
  refine (hall_check_c g A nb w3 (HG.out.keep hk3) hSw3).mono ?_
  rintro e w4 ⟨rfl, hb⟩
  have HK : Hid (Keeps w w4) := hk3.trans hb
  clear hb hk3 hBbb hkbb hlbb hgbb hBnb hknb hlnb hgnb hSw3 hTw3
  go_wp2_with fail
  go_ret
  exact ⟨rfl, HK.out⟩
end Go.Proofs.Yteabfjpajgakiaf

/- twin.Group, enter. -/
set_option linter.unusedSimpArgs false
set_option linter.unusedVariables false
set_option maxRecDepth 10000
namespace Go.Proofs.Yteabfjpajgakiaf
open Go.RowKit

set_option maxHeartbeats 4000000 in
theorem twin_group (g : Grp) (A : Ad) (w : World) (hG : GrAt w g A) (hb0 : stErr g.log.base = 0) (h50 : g.log.tail.length ≤ 50) (hs : stErr g.n0 = 0 ∧ stErr g.n1 = 0 ∧ stErr g.n2 = 0) :
    Calls Try.prog 47 #[.agg (GL g A).toArray] w fun e w' => ∃ B, GrOwn w.heap.size w' g B ∧ e = .returned (.agg (GL g B).toArray) ∧ Keeps w w' := by
  have HG : Hid (GrAt w g A) := hG
  clear hG
  go_enter Try.func47, Try.ntmps47
  go_wp2_with (first | (refine box31 rfl rfl rfl ?_; intro w1 bb hBbb hkbb hlbb hgbb) | (refine alloc31 rfl rfl ?_; intro w2 r hBr hkr hlr hgr) | (refine load28 rfl rfl bb rfl (hBbb.keep hkr (by rw [GL_len]; decide)) ?_))
  have hk2 : Keeps w w2 := hkbb.trans hkr
  refine (twin_log g.log _ A.ta A.tc w2 (HG.out.keep hk2).base (HG.out.keep hk2).tail hb0 (by omega)).mono ?_
  rintro e w3 ⟨qa, qc, ea, ec, o1, o2, o3, rfl, hb⟩
  have hB3 := (hBbb.keep hkr (by rw [GL_len]; decide)).keep hb (by rw [GL_len]; decide)
  have HR3 : Hid (CBox r (GL zeroGrp zeroAd) w3) := hBr.keep hb (by rw [GL_len]; decide)
  have HBL : Hid (bb < w2.heap.size) := Nat.lt_of_lt_of_le hlbb hkr.size
  have HRL : Hid (r < w2.heap.size) := hlr
  have HBG : Hid (w.heap.size ≤ bb) := hgbb
  have HRG : Hid (w.heap.size ≤ r) := Nat.le_trans hkbb.size hgr
  have HNE : Hid (r ≠ bb) := fun e => by omega
  have HK3 : Hid (Keeps w w3) := hk2.trans hb
  have HW3 : Hid (w2.heap.size ≤ w3.heap.size) := hb.size
  have HWW : Hid (w.heap.size ≤ w2.heap.size) := hk2.size
  have HO3 : Hid (LogOwn w2.heap.size w3 g (setLogA A qa qc ea ec)) := ⟨o1, o2, o3⟩
  clear hb hk2 hBbb hkbb hlbb hgbb hBr hkr hlr hgr o1 o2 o3
  go_wp2_with (first | (refine store28 rfl rfl bb rfl rfl hB3 ?_; intro W0 hSW0 hTW0) | (refine load29 rfl rfl bb rfl hSW0 ?_))
  obtain ⟨A1, hA1⟩ : ∃ z, z = setLogA A qa qc ea ec := ⟨_, rfl⟩
  have HB0 : Hid (CBox bb (GL g A1) W0) := by rw [hA1]; exact hSW0
  have HR0 : Hid (CBox r (GL zeroGrp zeroAd) W0) := HR3.out.other hTW0 HNE.out (by rw [GL_len]; decide)
  have HO0 : Hid (LogOwn w2.heap.size W0 g A1) := by rw [hA1]; exact HO3.out.but hTW0 HBL.out
  have HK0 : Hid (Keeps w W0) := But.to HK3.out HBG.out hTW0
  have HW0 : Hid (w2.heap.size ≤ W0.heap.size) := Nat.le_trans HW3.out hTW0.size
  have eN : NC (setLog g g.log) (setLogA A qa qc ea ec) = NC g A1 := by rw [hA1]; rfl
  rw [eN]
  have hAA : A1.a0 = A.a0 ∧ A1.c0 = A.c0 ∧ A1.a1 = A.a1 ∧ A1.c1 = A.c1 ∧ A1.a2 = A.a2 ∧ A1.c2 = A.c2 := by rw [hA1]; exact ⟨rfl, rfl, rfl, rfl, rfl, rfl⟩
  have hI0 : ∀ w, (Instr.index 29 (.agg (NC g A1).toArray) (.int .i64 0)).run Try.prog w = .ok (stV g.n0 (.slice A.a0 g.n0.tab.length A.c0)) w := fun w => by rw [node_index0, hAA.1, hAA.2.1]
  have hI1 : ∀ w, (Instr.index 29 (.agg (NC g A1).toArray) (.int .i64 1)).run Try.prog w = .ok (stV g.n1 (.slice A.a1 g.n1.tab.length A.c1)) w := fun w => by rw [node_index1, hAA.2.2.1, hAA.2.2.2.1]
  have hI2 : ∀ w, (Instr.index 29 (.agg (NC g A1).toArray) (.int .i64 2)).run Try.prog w = .ok (stV g.n2 (.slice A.a2 g.n2.tab.length A.c2)) w := fun w => by rw [node_index2, hAA.2.2.2.2.1, hAA.2.2.2.2.2]
  obtain ⟨N, hN⟩ : ∃ z, z = (NC g A1).toArray := ⟨_, rfl⟩
  rw [← hN] at hI0 hI1 hI2 ⊢
  clear hSW0 hTW0 hB3 HR3 HO3 HK3 HW3 eN hAA hN hA1
  refine wp_loop_rounds 4 ?_
  rw [rounds_succ]
  have ix := hI0
  go_wp2_with (first | (refine alloc25 rfl rfl ?_; intro v0 s0 hBs0 hks0 hls0 hgs0) | (refine store25b rfl rfl s0 rfl rfl hBs0 ?_; intro x0 hSx0 hTx0) | (refine load25b rfl rfl s0 rfl hSx0 ?_))
  have hkx : Keeps W0 x0 := But.to hks0 hgs0 hTx0
  refine (twin_right _ x0 (HG.out.keep (HK0.out.trans hkx)).t0 hs.1).mono ?_
  rintro e y0 ⟨x', ho, rfl, hb⟩
  obtain ⟨va0, vc0, rfl, _⟩ := ho.tab.len
  have hkb : Keeps W0 y0 := hkx.trans hb
  have hB0b := HB0.out.keep hkb (by rw [GL_len]; decide)
  have hR0b : Hid (CBox r (GL zeroGrp zeroAd) y0) := HR0.out.keep hkb (by rw [GL_len]; decide)
  have HO0b : Hid (LogOwn w2.heap.size y0 g A1) := HO0.out.keep hkb
  have HT0b : Hid (OwnTab w2.heap.size y0 (.slice va0 g.n0.tab.length vc0) g.n0.tab) := ho.base (by have := HW0.out; have := hkx.size; omega)
  have HKb : Hid (Keeps w y0) := HK0.out.trans hkb
  have HWb : Hid (w2.heap.size ≤ y0.heap.size) := by have := HW0.out; have := hkb.size; exact Nat.le_trans HW0.out hkb.size
  clear ho hb hkx hkb ix hBs0 hks0 hls0 hgs0 hSx0 hTx0 HB0 HR0 HO0 HK0 HW0
  go_wp2_with (first | (refine store25 rfl rfl bb 0 (by decide) 8 rfl rfl rfl hB0b ?_; intro W1 hSW1 hTW1))
  obtain ⟨A2, hA2⟩ : ∃ z, z = setNodeA A1 0 va0 vc0 := ⟨_, rfl⟩
  have HB1 : Hid (CBox bb (GL g A2) W1) := by rw [hA2]; exact hSW1
  have HR1 : Hid (CBox r (GL zeroGrp zeroAd) W1) := hR0b.out.other hTW1 HNE.out (by rw [GL_len]; decide)
  have HO1 : Hid (LogOwn w2.heap.size W1 g A2) := by rw [hA2]; exact (HO0b.out.but hTW1 HBL.out).node _ _ 0
  have HT0 : Hid (OwnTab w2.heap.size W1 (.slice A2.a0 g.n0.tab.length A2.c0) g.n0.tab) := by rw [hA2]; exact HT0b.out.but HBL.out hTW1
  have HK1 : Hid (Keeps w W1) := But.to HKb.out HBG.out hTW1
  have HW1 : Hid (w2.heap.size ≤ W1.heap.size) := Nat.le_trans HWb.out hTW1.size
  clear hSW1 hTW1 hB0b hR0b HO0b HKb HWb hA2 HT0b
  rw [rounds_succ]
  have ix := hI1
  go_wp2_with (first | (refine alloc25 rfl rfl ?_; intro v1 s1 hBs1 hks1 hls1 hgs1) | (refine store25b rfl rfl s1 rfl rfl hBs1 ?_; intro x1 hSx1 hTx1) | (refine load25b rfl rfl s1 rfl hSx1 ?_))
  have hkx : Keeps W1 x1 := But.to hks1 hgs1 hTx1
  refine (twin_right _ x1 (HG.out.keep (HK1.out.trans hkx)).t1 hs.2.1).mono ?_
  rintro e y1 ⟨x', ho, rfl, hb⟩
  obtain ⟨va1, vc1, rfl, _⟩ := ho.tab.len
  have hkb : Keeps W1 y1 := hkx.trans hb
  have hB1b := HB1.out.keep hkb (by rw [GL_len]; decide)
  have hR1b : Hid (CBox r (GL zeroGrp zeroAd) y1) := HR1.out.keep hkb (by rw [GL_len]; decide)
  have HO1b : Hid (LogOwn w2.heap.size y1 g A2) := HO1.out.keep hkb
  have HT0b : Hid (OwnTab w2.heap.size y1 (.slice A2.a0 g.n0.tab.length A2.c0) g.n0.tab) := HT0.out.keep hkb
  have HT1b : Hid (OwnTab w2.heap.size y1 (.slice va1 g.n1.tab.length vc1) g.n1.tab) := ho.base (by have := HW1.out; have := hkx.size; omega)
  have HKb : Hid (Keeps w y1) := HK1.out.trans hkb
  have HWb : Hid (w2.heap.size ≤ y1.heap.size) := by have := HW1.out; have := hkb.size; exact Nat.le_trans HW1.out hkb.size
  clear ho hb hkx hkb ix hBs1 hks1 hls1 hgs1 hSx1 hTx1 HB1 HR1 HO1 HK1 HW1 HT0
  go_wp2_with (first | (refine store25 rfl rfl bb 1 (by decide) 15 rfl rfl rfl hB1b ?_; intro W2 hSW2 hTW2))
  obtain ⟨A3, hA3⟩ : ∃ z, z = setNodeA A2 1 va1 vc1 := ⟨_, rfl⟩
  have HB2 : Hid (CBox bb (GL g A3) W2) := by rw [hA3]; exact hSW2
  have HR2 : Hid (CBox r (GL zeroGrp zeroAd) W2) := hR1b.out.other hTW2 HNE.out (by rw [GL_len]; decide)
  have HO2 : Hid (LogOwn w2.heap.size W2 g A3) := by rw [hA3]; exact (HO1b.out.but hTW2 HBL.out).node _ _ 1
  have HT0 : Hid (OwnTab w2.heap.size W2 (.slice A3.a0 g.n0.tab.length A3.c0) g.n0.tab) := by rw [hA3]; exact HT0b.out.but HBL.out hTW2
  have HT1 : Hid (OwnTab w2.heap.size W2 (.slice A3.a1 g.n1.tab.length A3.c1) g.n1.tab) := by rw [hA3]; exact HT1b.out.but HBL.out hTW2
  have HK2 : Hid (Keeps w W2) := But.to HKb.out HBG.out hTW2
  have HW2 : Hid (w2.heap.size ≤ W2.heap.size) := Nat.le_trans HWb.out hTW2.size
  clear hSW2 hTW2 hB1b hR1b HO1b HKb HWb hA3 HT0b HT1b
  rw [rounds_succ]
  have ix := hI2
  go_wp2_with (first | (refine alloc25 rfl rfl ?_; intro v2 s2 hBs2 hks2 hls2 hgs2) | (refine store25b rfl rfl s2 rfl rfl hBs2 ?_; intro x2 hSx2 hTx2) | (refine load25b rfl rfl s2 rfl hSx2 ?_))
  have hkx : Keeps W2 x2 := But.to hks2 hgs2 hTx2
  refine (twin_right _ x2 (HG.out.keep (HK2.out.trans hkx)).t2 hs.2.2).mono ?_
  rintro e y2 ⟨x', ho, rfl, hb⟩
  obtain ⟨va2, vc2, rfl, _⟩ := ho.tab.len
  have hkb : Keeps W2 y2 := hkx.trans hb
  have hB2b := HB2.out.keep hkb (by rw [GL_len]; decide)
  have hR2b : Hid (CBox r (GL zeroGrp zeroAd) y2) := HR2.out.keep hkb (by rw [GL_len]; decide)
  have HO2b : Hid (LogOwn w2.heap.size y2 g A3) := HO2.out.keep hkb
  have HT0b : Hid (OwnTab w2.heap.size y2 (.slice A3.a0 g.n0.tab.length A3.c0) g.n0.tab) := HT0.out.keep hkb
  have HT1b : Hid (OwnTab w2.heap.size y2 (.slice A3.a1 g.n1.tab.length A3.c1) g.n1.tab) := HT1.out.keep hkb
  have HT2b : Hid (OwnTab w2.heap.size y2 (.slice va2 g.n2.tab.length vc2) g.n2.tab) := ho.base (by have := HW2.out; have := hkx.size; omega)
  have HKb : Hid (Keeps w y2) := HK2.out.trans hkb
  have HWb : Hid (w2.heap.size ≤ y2.heap.size) := by have := HW2.out; have := hkb.size; exact Nat.le_trans HW2.out hkb.size
  clear ho hb hkx hkb ix hBs2 hks2 hls2 hgs2 hSx2 hTx2 HB2 HR2 HO2 HK2 HW2 HT0 HT1
  go_wp2_with (first | (refine store25 rfl rfl bb 2 (by decide) 22 rfl rfl rfl hB2b ?_; intro W3 hSW3 hTW3))
  obtain ⟨A4, hA4⟩ : ∃ z, z = setNodeA A3 2 va2 vc2 := ⟨_, rfl⟩
  have HB3 : Hid (CBox bb (GL g A4) W3) := by rw [hA4]; exact hSW3
  have HR3 : Hid (CBox r (GL zeroGrp zeroAd) W3) := hR2b.out.other hTW3 HNE.out (by rw [GL_len]; decide)
  have HO3 : Hid (LogOwn w2.heap.size W3 g A4) := by rw [hA4]; exact (HO2b.out.but hTW3 HBL.out).node _ _ 2
  have HT0 : Hid (OwnTab w2.heap.size W3 (.slice A4.a0 g.n0.tab.length A4.c0) g.n0.tab) := by rw [hA4]; exact HT0b.out.but HBL.out hTW3
  have HT1 : Hid (OwnTab w2.heap.size W3 (.slice A4.a1 g.n1.tab.length A4.c1) g.n1.tab) := by rw [hA4]; exact HT1b.out.but HBL.out hTW3
  have HT2 : Hid (OwnTab w2.heap.size W3 (.slice A4.a2 g.n2.tab.length A4.c2) g.n2.tab) := by rw [hA4]; exact HT2b.out.but HBL.out hTW3
  have HK3 : Hid (Keeps w W3) := But.to HKb.out HBG.out hTW3
  have HW3 : Hid (w2.heap.size ≤ W3.heap.size) := Nat.le_trans HWb.out hTW3.size
  clear hSW3 hTW3 hB2b hR2b HO2b HKb HWb hA4 HT0b HT1b HT2b
  rw [rounds_succ]
  go_wp2_with (first | (refine load31 rfl rfl bb rfl HB3.out ?_) | (refine store31 rfl rfl r rfl rfl HR3.out ?_; intro W4 hSW4 hTW4))
  refine bodyPost_ret (results1 Try.results47 rfl (read31 hSW4)) rfl ?_
  exact ⟨A4, GrOwn.of (HO3.out.but hTW4 HRL.out) (HT0.out.but HRL.out hTW4) (HT1.out.but HRL.out hTW4) (HT2.out.but HRL.out hTW4) HWW.out, rfl, But.to HK3.out HRG.out hTW4⟩
end Go.Proofs.Yteabfjpajgakiaf

/- Laws for drawn regions at variables of many cells. -/
set_option linter.unusedSimpArgs false
set_option linter.unusedVariables false
set_option maxRecDepth 10000
namespace Go.Proofs.Yteabfjpajgakiaf
open Go.RowKit

/-- A goal that is not looked into. -/
structure Wrp (p : Prop) : Prop where
  out : p
/-- An operation that is wanted comes up next. -/
theorem AllReadyH.wrp {P : Program} {ops : Array Oper} {Q : Exit → Act → World → Prop} {md : Region.Mode} {S : World → Prop} {fuel : Nat} {listed : Array Bool} {a : Act} {w : World} {i : Nat} {o : Oper} {rs : List Nat} (ho : ops[i]? = some o) (hw : Region.wanted o (yielded ops a.tmps) = true)
    (h : ∀ K' : Act → World → Prop, Shut (∀ a w, S w → (S w → wpAnyH P md ops Q S fuel (listed.setIfInBounds i true) a w) → K' a w) → Wrp (Oper.wp P o a w K' Q)) (hs : AllReadyH P md ops Q S fuel listed a w rs) : AllReadyH P md ops Q S fuel listed a w (i :: rs) :=
  AllReadyH.cons ho (fun K' hK => by rw [if_pos hw]; exact (h K' hK).out) hs
/-- A call. -/
theorem h_call {P : Program} {o : Oper} {a : Act} {w : World} {K : Act → World → Prop} {Q : Exit → Act → World → Prop} (h : o.wp P a w K Q) : Wrp (Oper.wp P o a w K Q) := ⟨h⟩
def EC (e : Ent) : List Value := [.int .i64 e.kind, .int .i64 e.time, .int .i64 e.client, .int .i64 e.seq, .int .i64 e.ack, .int .i64 e.ok, .int .i64 e.okey, .int .i64 e.oto, .int .i64 e.on]
theorem size35 : (Try.prog.info? 35).map (·.size) = some 9 := by kernel_rfl
theorem row35 : ∃ d, Try.prog.underlying 35 = some d ∧ d.isRow = true := ⟨_, Try.underlying35, rfl⟩
theorem wp_alloc_new {P : Program} {op : Oper} {a : Act} {w : World} {K : Act → World → Prop} {Q : Exit → Act → World → Prop} (ty : TypeId) (ho : op.op = .alloc ty) (z : Value) (cs : List Value) (hz : (P.info? ty).map (·.zero) = some (some z)) (hc : z.cells = cs.toArray)
    (h : ∀ (w' : World) (b : Nat), CBox b cs w' → Keeps w w' → b < w'.heap.size → w.heap.size ≤ b → K (a.put op.dst (.pointer (some ⟨b, 0, none⟩))) w') : op.wp P a w K Q := by
  have hn := h (w.alloc (.cells cs.toArray ty)) w.heap.size (CBox.new w cs ty) ((Keeps.refl _).alloc _) (by simp) (Nat.le_refl _)
  obtain ⟨i, hi, hzi⟩ : ∃ i, P.info? ty = some i ∧ i.zero = some z := by
    cases q : P.info? ty with
    | none => rw [q] at hz; cases hz
    | some i => rw [q] at hz; exact ⟨i, rfl, by simpa using hz⟩
  have e1 : (execOp a.eval op).run P w = .ok (.value (.pointer (some ⟨w.heap.size, 0, none⟩))) (w.alloc (.cells cs.toArray ty)) := by
    generalize a.eval = f
    rw [← hc]
    simp [execOp, ho, hi, hzi, go_sem, typeInfo, zeroValue]
  unfold Oper.wp
  rw [e1]
  exact hn
theorem wp_store_box {P : Program} {op : Oper} {a : Act} {w : World} {K : Act → World → Prop} {Q : Exit → Act → World → Prop} (ty : TypeId) (x y : Operand) (ho : op.op = .store ty x y) (b o : Nat) (ds : List Value) (hx : a.eval x = .pointer (some ⟨b, o, none⟩)) (hy : a.eval y = .agg ds.toArray) {cs : List Value} (hB : CBox b cs w) (es : List Value) (hes : cs.take o ++ ds ++ cs.drop (o + ds.length) = es)
    (hl : o + ds.length ≤ cs.length) (hi : (P.info? ty).map (·.size) = some ds.length) (h1 : ds.toArray.all (·.oneCell') = true) (h : ∀ w', CBox b es w' → But b w w' → K (a.put op.dst undef) w') : op.wp P a w K Q := by
  subst hes
  refine wp_store_mid ty x y ho b o ds.toArray hx hy (by simpa using hB.there o ds.length hl) (by simpa using hi) h1 ?_
  exact h _ (hB.putAt ds hl) (But.setCells _ _ (But.refl _ _))
theorem h_alloc31 {o : Oper} {a : Act} {w : World} {K : Act → World → Prop} {Q : Exit → Act → World → Prop} (ho : o.op = .alloc 31)
    (h : ∀ (w' : World) (b : Nat), CBox b (GL zeroGrp zeroAd) w' → Keeps w w' → b < w'.heap.size → w.heap.size ≤ b → K (a.put o.dst (.pointer (some ⟨b, 0, none⟩))) w') : Wrp (Oper.wp Try.prog o a w K Q) := ⟨wp_alloc_new _ ho _ _ zero31 rfl h⟩
theorem h_alloc28 {o : Oper} {a : Act} {w : World} {K : Act → World → Prop} {Q : Exit → Act → World → Prop} (ho : o.op = .alloc 28)
    (h : ∀ (w' : World) (b : Nat), CBox b (LC zeroLg (.slice none 0 0) (.slice none 0 0)) w' → Keeps w w' → b < w'.heap.size → w.heap.size ≤ b → K (a.put o.dst (.pointer (some ⟨b, 0, none⟩))) w') : Wrp (Oper.wp Try.prog o a w K Q) := ⟨wp_alloc_new _ ho _ _ zero28 rfl h⟩
theorem h_alloc25 {o : Oper} {a : Act} {w : World} {K : Act → World → Prop} {Q : Exit → Act → World → Prop} (ho : o.op = .alloc 25)
    (h : ∀ (w' : World) (b : Nat), CBox b (SC zeroSt (.slice none 0 0)) w' → Keeps w w' → b < w'.heap.size → w.heap.size ≤ b → K (a.put o.dst (.pointer (some ⟨b, 0, none⟩))) w') : Wrp (Oper.wp Try.prog o a w K Q) := ⟨wp_alloc_new _ ho _ _ zero25 rfl h⟩
theorem y_load31 {ops : Array Oper} {S : World → Prop} {op : Oper} {a : Act} (hw : Region.wanted op (yielded ops a.tmps) = true) {x : Operand} (ho : op.op = .load 31 x) (b : Nat) (hx : a.eval x = .pointer (some ⟨b, 0, none⟩)) {g : Grp} {A : Ad} (hS : ∀ w, S w → CBox b (GL g A) w) : YieldsIf Try.prog ops S op (.agg (GL g A).toArray) a := by
  obtain ⟨d, h1, h2⟩ := row31
  exact yieldsIf_load_mid hw _ x ho b _ hx _ d (fun w hs => range_of (hS w hs) 0 29 (GL_all g A)) h1 h2 (info_size size31 (GL_len g A))
theorem y_load28 {ops : Array Oper} {S : World → Prop} {op : Oper} {a : Act} (hw : Region.wanted op (yielded ops a.tmps) = true) {x : Operand} (ho : op.op = .load 28 x) (b : Nat) (hx : a.eval x = .pointer (some ⟨b, 0, none⟩)) {g : Grp} {A : Ad} (hS : ∀ w, S w → CBox b (GL g A) w) : YieldsIf Try.prog ops S op (logV g A) a := by
  obtain ⟨d, h1, h2⟩ := row28
  exact yieldsIf_load_mid hw _ x ho b _ hx _ d (fun w hs => range_of (hS w hs) 0 8 (GL_log g A)) h1 h2 (info_size size28 rfl)
theorem y_load25 {ops : Array Oper} {S : World → Prop} {op : Oper} {a : Act} (hw : Region.wanted op (yielded ops a.tmps) = true) {x : Operand} (ho : op.op = .load 25 x) (b : Nat) (k : Nat) (hk : k < 3) (o : Nat) (e : o = 8 + k * 7) (hx : a.eval x = .pointer (some ⟨b, o, none⟩)) {g : Grp} {A : Ad} (hS : ∀ w, S w → CBox b (GL g A) w) : YieldsIf Try.prog ops S op (nodeV g A k) a := by
  obtain ⟨d, h1, h2⟩ := row25
  subst e
  exact yieldsIf_load_mid hw _ x ho b _ hx _ d (fun w hs => range_of (hS w hs) (8 + k * 7) 7 (GL_node g A k hk)) h1 h2 (info_size size25 rfl)
theorem y_load25b {ops : Array Oper} {S : World → Prop} {op : Oper} {a : Act} (hw : Region.wanted op (yielded ops a.tmps) = true) {x : Operand} (ho : op.op = .load 25 x) (b : Nat) (hx : a.eval x = .pointer (some ⟨b, 0, none⟩)) {s : St} {p : Value} (hS : ∀ w, S w → CBox b (SC s p) w) : YieldsIf Try.prog ops S op (stV s p) a := by
  obtain ⟨d, h1, h2⟩ := row25
  exact yieldsIf_load_mid hw _ x ho b _ hx _ d (fun w hs => range_of (hS w hs) 0 7 (ds := SC s p) rfl) h1 h2 (info_size size25 rfl)
theorem y_load35 {ops : Array Oper} {S : World → Prop} {op : Oper} {a : Act} (hw : Region.wanted op (yielded ops a.tmps) = true) {x : Operand} (ho : op.op = .load 35 x) (b : Nat) (hx : a.eval x = .pointer (some ⟨b, 0, none⟩)) {e : Ent} (hS : ∀ w, S w → CBox b (EC e) w) : YieldsIf Try.prog ops S op (entV e) a := by
  obtain ⟨d, h1, h2⟩ := row35
  exact yieldsIf_load_mid hw _ x ho b _ hx _ d (fun w hs => range_of (hS w hs) 0 9 (ds := EC e) rfl) h1 h2 (info_size size35 rfl)
theorem h_store28b {o : Oper} {a : Act} {w : World} {K : Act → World → Prop} {Q : Exit → Act → World → Prop} {x y : Operand} (ho : o.op = .store 28 x y) (b : Nat) (hx : a.eval x = .pointer (some ⟨b, 0, none⟩)) {k l : Lg} {p q : Value} {xa ta : Option Addr} {xn tn xc tc : Nat} (hy : a.eval y = lgV l (.slice xa xn xc) (.slice ta tn tc)) (hB : CBox b (LC k p q) w)
    (h : ∀ w', CBox b (LC l (.slice xa xn xc) (.slice ta tn tc)) w' → But b w w' → K (a.put o.dst undef) w') : Wrp (Oper.wp Try.prog o a w K Q) := by
  exact ⟨wp_store_box _ x y ho b 0 (LC l (.slice xa xn xc) (.slice ta tn tc)) hx hy hB _ rfl (Nat.le_of_ble_eq_true rfl) (info_size size28 rfl) (LC_one _ _ _ _ _ _ _) h⟩
theorem h_store25b {o : Oper} {a : Act} {w : World} {K : Act → World → Prop} {Q : Exit → Act → World → Prop} {x y : Operand} (ho : o.op = .store 25 x y) (b : Nat) (hx : a.eval x = .pointer (some ⟨b, 0, none⟩)) {k s : St} {p : Value} {xa : Option Addr} {xn xc : Nat} (hy : a.eval y = stV s (.slice xa xn xc)) (hB : CBox b (SC k p) w)
    (h : ∀ w', CBox b (SC s (.slice xa xn xc)) w' → But b w w' → K (a.put o.dst undef) w') : Wrp (Oper.wp Try.prog o a w K Q) := by
  exact ⟨wp_store_box _ x y ho b 0 (SC s (.slice xa xn xc)) hx hy hB _ rfl (Nat.le_of_ble_eq_true rfl) (info_size size25 rfl) (SC_one _ _ _ _) h⟩
theorem h_store31 {o : Oper} {a : Act} {w : World} {K : Act → World → Prop} {Q : Exit → Act → World → Prop} {x y : Operand} (ho : o.op = .store 31 x y) (b : Nat) (hx : a.eval x = .pointer (some ⟨b, 0, none⟩)) {g g' : Grp} {A A' : Ad} (hy : a.eval y = .agg (GL g' A').toArray) (hB : CBox b (GL g A) w)
    (h : ∀ w', CBox b (GL g' A') w' → But b w w' → K (a.put o.dst undef) w') : Wrp (Oper.wp Try.prog o a w K Q) := by
  exact ⟨wp_store_box _ x y ho b 0 _ hx hy hB _ (GL_whole g g' A A') (Nat.le_of_eq rfl) (info_size size31 (GL_len g' A')) (GL_one g' A') h⟩
theorem h_store25 {o : Oper} {a : Act} {w : World} {K : Act → World → Prop} {Q : Exit → Act → World → Prop} {x y : Operand} (ho : o.op = .store 25 x y) (b : Nat) (k : Nat) (hk : k < 3) (i : Nat) (e : i = 8 + k * 7) (hx : a.eval x = .pointer (some ⟨b, i, none⟩)) {g : Grp} {A : Ad} {s : St} {xa : Option Addr} {xc : Nat} (hy : a.eval y = stV s (.slice xa s.tab.length xc)) (hB : CBox b (GL g A) w)
    (h : ∀ w', CBox b (GL (setNode g k s) (setNodeA A k xa xc)) w' → But b w w' → K (a.put o.dst undef) w') : Wrp (Oper.wp Try.prog o a w K Q) := by
  subst e
  exact ⟨wp_store_box _ x y ho b (8 + k * 7) (SC s (.slice xa s.tab.length xc)) hx hy hB _ (GL_setNode g A s xa xc k hk) (by rw [GL_len]; show 8 + k * 7 + 7 ≤ 29; omega) (info_size size25 rfl) (SC_one _ _ _ _) h⟩
section
variable {ops : Array Oper} {rest : List Oper} {op : Oper} {a : Act} {w : World} {Q : Exit → Act → World → Prop}
theorem box35 (hgd : op.guard = none) {x : Operand} (ho : op.op = .box 35 x) {e : Ent} (hx : a.eval x = entV e)
    (h : ∀ (w' : World) (b : Nat), CBox b (EC e) w' → Keeps w w' → b < w'.heap.size → w.heap.size ≤ b → wpList Try.prog ops Q rest (a.put op.dst (.pointer (some ⟨b, 0, none⟩))) w') : wpList Try.prog ops Q (op :: rest) a w := wpList_box_new hgd _ x ho (EC e) hx h
theorem load35 (hgd : op.guard = none) {x : Operand} (ho : op.op = .load 35 x) (b : Nat) (hx : a.eval x = .pointer (some ⟨b, 0, none⟩)) {e : Ent} (hB : CBox b (EC e) w)
    (h : wpList Try.prog ops Q rest (a.put op.dst (entV e)) w) : wpList Try.prog ops Q (op :: rest) a w := by
  obtain ⟨d, h1, h2⟩ := row35
  exact wpList_load_box hgd _ x ho b 0 hx hB 9 (EC e) rfl d h1 h2 (info_size size35 rfl) h
end
end Go.Proofs.Yteabfjpajgakiaf
