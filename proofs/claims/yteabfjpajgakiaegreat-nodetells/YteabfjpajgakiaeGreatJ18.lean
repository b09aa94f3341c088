/- NoA, NoB, NoC, NoD. -/
import Derived.Lib.MinMax
import Derived.Test.YteabfjpajgakiaeGreatJ17
/- node.isBehind, checkBoth, fits, Fits; the reference's NodeError, fits, FitsOf. -/
set_option linter.unusedSimpArgs false
set_option linter.unusedVariables false
set_option maxRecDepth 10000
namespace Go.Proofs.YteabfjpajgakiaeGreat
open Go.RowKit

def nodeErr (l : Lg) (s : St) : Int := if lgErr l == 0 then stErr s else lgErr l
/-- Whether a state fits a log. -/
def fitsB (l : Lg) (s : St) : Bool := if s.at_ < l.base.at_ then true else if (l.tail.length : Int) < s.at_ - l.base.at_ then false else sameSt (runSt l.base (l.tail.take (s.at_ - l.base.at_).toNat)) s
def fitsOk (l : Lg) (s : St) : Bool := if nodeErr l s == 0 then fitsB l s else false

theorem node_behind (l : Lg) (s : St) (x t y : Value) (w : World) (hx : x.cells = #[x]) (ht : t.cells = #[t]) (hy : y.cells = #[y]) : Calls Tryz.prog 19 #[lgV l x t, stV s y] w fun e w' => e = .returned (.bool (decide (s.at_ < l.base.at_))) ∧ Keeps w w' := by
  go_enter Tryz.func19, Tryz.ntmps19
  go_wp2_with fail
  go_ret
  exact ⟨rfl, ((Keeps.refl _).alloc _).alloc _⟩

set_option maxHeartbeats 2000000 in
theorem node_both (l : Lg) (s : St) (x y : Value) (ta : Option Addr) (tc : Nat) (w : World) (hT : TabAt w x l.base.tab) (hL : EntsAt w (.slice ta l.tail.length tc) l.tail) (hY : TabAt w y s.tab) : Calls Tryz.prog 16 #[lgV l x (.slice ta l.tail.length tc), stV s y] w fun e w' => e = .returned (.int .i64 (nodeErr l s)) ∧ Keeps w w' := by
  obtain ⟨xa, xc, rfl, _⟩ := hT.len
  obtain ⟨ya, yc, rfl, _⟩ := hY.len
  have HT : Hid (TabAt w (.slice xa l.base.tab.length xc) l.base.tab) := hT
  have HL : Hid (EntsAt w (.slice ta l.tail.length tc) l.tail) := hL
  have HY : Hid (TabAt w (.slice ya s.tab.length yc) s.tab) := hY
  have hlen := hL.2.1
  unfold maxLen at hlen
  clear hT hL hY
  have HE : Hid (nodeErr l s = if lgErr l == 0 then stErr s else lgErr l) := rfl
  go_enter Tryz.func16, Tryz.ntmps16
  go_wp2_with fail
  obtain ⟨W1, hW1⟩ : ∃ W1, W1 = (w.alloc (.cells #[.int .i64 l.base.at_, .int .i64 l.base.clock, .int .i64 l.base.v0, .int .i64 l.base.v1, .int .i64 l.base.v2, .int .i64 l.base.v3, .slice xa l.base.tab.length xc, .slice ta l.tail.length tc] 28)).alloc (.cells #[.int .i64 s.at_, .int .i64 s.clock, .int .i64 s.v0, .int .i64 s.v1, .int .i64 s.v2, .int .i64 s.v3, .slice ya s.tab.length yc] 25) := ⟨_, rfl⟩
  have k1 : Keeps w W1 := by rw [hW1]; exact ((Keeps.refl _).alloc _).alloc _
  have B1 : LgBox w.heap.size l (.slice xa l.base.tab.length xc) (.slice ta l.tail.length tc) W1 := by rw [hW1]; exact (LgBox.new w l _ _ rfl rfl 28).keep ((Keeps.refl _).alloc _)
  have C1 : StBox (w.heap.size + 1) s (.slice ya s.tab.length yc) W1 := by
    rw [hW1]
    have := StBox.new (w.alloc (.cells #[.int .i64 l.base.at_, .int .i64 l.base.clock, .int .i64 l.base.v0, .int .i64 l.base.v1, .int .i64 l.base.v2, .int .i64 l.base.v3, .slice xa l.base.tab.length xc, .slice ta l.tail.length tc] 28)) s (.slice ya s.tab.length yc) 25
    simp only [World.size_alloc] at this
    exact this
  rw [← hW1]
  clear hW1
  refine (pack_check l _ _ W1 (HT.out.keep k1) (HL.out.keep k1)).mono ?_
  rintro e w1 ⟨rfl, hb⟩
  have HK1 : Hid (Keeps w w1) := k1.trans hb
  have C2 := C1.keep hb
  have c0 := C2.c0
  have c1 := C2.c1
  have c2 := C2.c2
  have c3 := C2.c3
  have c4 := C2.c4
  have c5 := C2.c5
  have c6 := C2.c6
  have cl := C2.lt
  clear k1 B1 C1 hb C2
  cases q1 : (lgErr l == 0) with
  | false =>
    have q1' : (lgErr l != 0) = true := by simp [bne, q1]
    have HE2 : Hid (nodeErr l s = lgErr l) := by show _ = _; rw [HE.out, q1]; rfl
    go_wp2_with fail
    go_ret
    exact ⟨ret_int HE2.out.symm, HK1.out⟩
  | true =>
    have q1' : (lgErr l != 0) = false := by simp [bne, q1]
    have HE2 : Hid (nodeErr l s = stErr s) := by show _ = _; rw [HE.out, q1]; rfl
    go_wp2_with fail
    refine (state_check s _ w1 (HY.out.keep HK1.out)).mono ?_
    rintro e w2 ⟨rfl, hb⟩
    have HK2 : Hid (Keeps w w2) := HK1.out.trans hb
    clear hb
    go_wp2_with fail
    go_ret
    exact ⟨ret_int HE2.out.symm, HK2.out⟩

set_option maxHeartbeats 2000000 in
theorem node_error (l : Lg) (s : St) (x y : Value) (ta : Option Addr) (tc : Nat) (w : World) (hT : TabAt w x l.base.tab) (hL : EntsAt w (.slice ta l.tail.length tc) l.tail) (hY : TabAt w y s.tab) : Calls Tryz.prog 21 #[lgV l x (.slice ta l.tail.length tc), stV s y] w fun e w' => e = .returned (.int .i64 (nodeErr l s)) ∧ Keeps w w' := by
  obtain ⟨xa, xc, rfl, _⟩ := hT.len
  obtain ⟨ya, yc, rfl, _⟩ := hY.len
  have HT : Hid (TabAt w (.slice xa l.base.tab.length xc) l.base.tab) := hT
  have HL : Hid (EntsAt w (.slice ta l.tail.length tc) l.tail) := hL
  have HY : Hid (TabAt w (.slice ya s.tab.length yc) s.tab) := hY
  have hlen := hL.2.1
  unfold maxLen at hlen
  clear hT hL hY
  have HE : Hid (nodeErr l s = if lgErr l == 0 then stErr s else lgErr l) := rfl
  go_enter Tryz.func21, Tryz.ntmps21
  go_wp2_with fail
  obtain ⟨W1, hW1⟩ : ∃ W1, W1 = (w.alloc (.cells #[.int .i64 l.base.at_, .int .i64 l.base.clock, .int .i64 l.base.v0, .int .i64 l.base.v1, .int .i64 l.base.v2, .int .i64 l.base.v3, .slice xa l.base.tab.length xc, .slice ta l.tail.length tc] 28)).alloc (.cells #[.int .i64 s.at_, .int .i64 s.clock, .int .i64 s.v0, .int .i64 s.v1, .int .i64 s.v2, .int .i64 s.v3, .slice ya s.tab.length yc] 25) := ⟨_, rfl⟩
  have k1 : Keeps w W1 := by rw [hW1]; exact ((Keeps.refl _).alloc _).alloc _
  have B1 : LgBox w.heap.size l (.slice xa l.base.tab.length xc) (.slice ta l.tail.length tc) W1 := by rw [hW1]; exact (LgBox.new w l _ _ rfl rfl 28).keep ((Keeps.refl _).alloc _)
  have C1 : StBox (w.heap.size + 1) s (.slice ya s.tab.length yc) W1 := by
    rw [hW1]
    have := StBox.new (w.alloc (.cells #[.int .i64 l.base.at_, .int .i64 l.base.clock, .int .i64 l.base.v0, .int .i64 l.base.v1, .int .i64 l.base.v2, .int .i64 l.base.v3, .slice xa l.base.tab.length xc, .slice ta l.tail.length tc] 28)) s (.slice ya s.tab.length yc) 25
    simp only [World.size_alloc] at this
    exact this
  rw [← hW1]
  clear hW1
  refine (log_error l _ _ W1 (HT.out.keep k1) (HL.out.keep k1)).mono ?_
  rintro e w1 ⟨rfl, hb⟩
  have HK1 : Hid (Keeps w w1) := k1.trans hb
  have C2 := C1.keep hb
  have c0 := C2.c0
  have c1 := C2.c1
  have c2 := C2.c2
  have c3 := C2.c3
  have c4 := C2.c4
  have c5 := C2.c5
  have c6 := C2.c6
  have cl := C2.lt
  clear k1 B1 C1 hb C2
  cases q1 : (lgErr l == 0) with
  | false =>
    have q1' : (lgErr l != 0) = true := by simp [bne, q1]
    have HE2 : Hid (nodeErr l s = lgErr l) := by show _ = _; rw [HE.out, q1]; rfl
    go_wp2_with fail
    go_ret
    exact ⟨ret_int HE2.out.symm, HK1.out⟩
  | true =>
    have q1' : (lgErr l != 0) = false := by simp [bne, q1]
    have HE2 : Hid (nodeErr l s = stErr s) := by show _ = _; rw [HE.out, q1]; rfl
    go_wp2_with fail
    refine (state_error s _ w1 (HY.out.keep HK1.out)).mono ?_
    rintro e w2 ⟨rfl, hb⟩
    have HK2 : Hid (Keeps w w2) := HK1.out.trans hb
    clear hb
    go_wp2_with fail
    go_ret
    exact ⟨ret_int HE2.out.symm, HK2.out⟩

set_option maxHeartbeats 4000000 in
theorem node_fits (l : Lg) (s : St) (x y : Value) (ta : Option Addr) (tc : Nat) (w : World) (hT : TabAt w x l.base.tab) (hL : EntsAt w (.slice ta l.tail.length tc) l.tail) (hY : TabAt w y s.tab) (hl0 : lgErr l = 0) (hs0 : stErr s = 0) (hcap : l.tail.length ≤ tc) : Calls Tryz.prog 17 #[lgV l x (.slice ta l.tail.length tc), stV s y] w fun e w' => e = .returned (.bool (fitsB l s)) ∧ Keeps w w' := by
  obtain ⟨xa, xc, rfl, _⟩ := hT.len
  obtain ⟨ya, yc, rfl, _⟩ := hY.len
  have HT : Hid (TabAt w (.slice xa l.base.tab.length xc) l.base.tab) := hT
  have HL : Hid (EntsAt w (.slice ta l.tail.length tc) l.tail) := hL
  have HY : Hid (TabAt w (.slice ya s.tab.length yc) s.tab) := hY
  have hlen := hL.2.1
  unfold maxLen at hlen
  clear hT hL hY
  obtain ⟨⟨sa0, sa1⟩, _⟩ := stErr_bounds hs0
  obtain ⟨⟨la0, la1⟩, _⟩ := stErr_bounds (fold_right hl0).1
  have HF : Hid (fitsB l s = if s.at_ < l.base.at_ then true else if (l.tail.length : Int) < s.at_ - l.base.at_ then false else sameSt (runSt l.base (l.tail.take (s.at_ - l.base.at_).toNat)) s) := rfl
  have HL0 : Hid (lgErr l = 0) := hl0
  clear hl0 hs0
  go_enter Tryz.func17, Tryz.ntmps17
  go_wp2_with fail
  obtain ⟨W1, hW1⟩ : ∃ W1, W1 = (w.alloc (.cells #[.int .i64 l.base.at_, .int .i64 l.base.clock, .int .i64 l.base.v0, .int .i64 l.base.v1, .int .i64 l.base.v2, .int .i64 l.base.v3, .slice xa l.base.tab.length xc, .slice ta l.tail.length tc] 28)).alloc (.cells #[.int .i64 s.at_, .int .i64 s.clock, .int .i64 s.v0, .int .i64 s.v1, .int .i64 s.v2, .int .i64 s.v3, .slice ya s.tab.length yc] 25) := ⟨_, rfl⟩
  have k1 : Keeps w W1 := by rw [hW1]; exact ((Keeps.refl _).alloc _).alloc _
  have B1 : LgBox w.heap.size l (.slice xa l.base.tab.length xc) (.slice ta l.tail.length tc) W1 := by rw [hW1]; exact (LgBox.new w l _ _ rfl rfl 28).keep ((Keeps.refl _).alloc _)
  have C1 : StBox (w.heap.size + 1) s (.slice ya s.tab.length yc) W1 := by
    rw [hW1]
    have := StBox.new (w.alloc (.cells #[.int .i64 l.base.at_, .int .i64 l.base.clock, .int .i64 l.base.v0, .int .i64 l.base.v1, .int .i64 l.base.v2, .int .i64 l.base.v3, .slice xa l.base.tab.length xc, .slice ta l.tail.length tc] 28)) s (.slice ya s.tab.length yc) 25
    simp only [World.size_alloc] at this
    exact this
  rw [← hW1]
  clear hW1
  refine (node_behind l s _ _ _ W1 rfl rfl rfl).mono ?_
  rintro e w1 ⟨rfl, hb⟩
  have HK1 : Hid (Keeps w w1) := k1.trans hb
  have HB1 : Hid (LgBox w.heap.size l (.slice xa l.base.tab.length xc) (.slice ta l.tail.length tc) w1) := B1.keep hb
  have HC1 : Hid (StBox (w.heap.size + 1) s (.slice ya s.tab.length yc) w1) := C1.keep hb
  clear k1 B1 C1 hb
  clear W1
  by_cases h1 : s.at_ < l.base.at_
  · have hd : decide (s.at_ < l.base.at_) = true := by simpa using h1
    have HF2 : Hid (fitsB l s = true) := by show _ = _; rw [HF.out, if_pos h1]
    rw [hd]
    go_wp2_with fail
    go_ret
    rw [HF2.out]
    exact ⟨rfl, HK1.out⟩
  · have hd : decide (s.at_ < l.base.at_) = false := by simpa using h1
    rw [hd]
    have b0 := HB1.out.c0
    have b7 := HB1.out.c7
    have bl := HB1.out.lt
    have c0 := HC1.out.c0
    have cl := HC1.out.lt
    by_cases h2 : (l.tail.length : Int) < s.at_ - l.base.at_
    · have HF2 : Hid (fitsB l s = false) := by show _ = _; rw [HF.out, if_neg h1, if_pos h2]
      go_wp2_with fail
      go_ret
      rw [HF2.out]
      exact ⟨rfl, HK1.out⟩
    · obtain ⟨n, hn'⟩ : ∃ n : Nat, s.at_ - l.base.at_ = n := ⟨(s.at_ - l.base.at_).toNat, by omega⟩
      have hn : n ≤ l.tail.length := by omega
      obtain ⟨r, hr'⟩ : ∃ r, r = runSt l.base (l.tail.take n) := ⟨_, rfl⟩
      obtain ⟨rn, hrn⟩ : ∃ rn, rn = runAns l.base (l.tail.take n) := ⟨_, rfl⟩
      have HF2 : Hid (fitsB l s = sameSt r s) := by
        show _ = _
        rw [HF.out, if_neg h1, if_neg h2, hr', hn']
        simp
      have hnl : (n : Int) ≤ (l.tail.length : Int) := by omega
      have hnc : (n : Int) ≤ (tc : Int) := by omega
      have hz9 : ∀ w, (Go.sizeOf 43).run Tryz.prog w = .ok 9 w := fun _ => by kernel_rfl
      obtain ⟨W1, hW1⟩ : ∃ z, z = w1 := ⟨_, rfl⟩
      rw [← hW1] at HK1 HB1 HC1 b0 b7 bl c0 cl ⊢
      clear hW1
      have HSA : Hid (∀ W, Keeps W1 W → W.cell? ⟨w.heap.size, 0, none⟩ = some (.int .i64 l.base.at_) ∧ W.cell? ⟨w.heap.size, 1, none⟩ = some (.int .i64 l.base.clock) ∧ W.cell? ⟨w.heap.size, 2, none⟩ = some (.int .i64 l.base.v0) ∧ W.cell? ⟨w.heap.size, 3, none⟩ = some (.int .i64 l.base.v1) ∧ W.cell? ⟨w.heap.size, 4, none⟩ = some (.int .i64 l.base.v2) ∧ W.cell? ⟨w.heap.size, 5, none⟩ = some (.int .i64 l.base.v3) ∧ W.cell? ⟨w.heap.size, 6, none⟩ = some (.slice xa l.base.tab.length xc) ∧ W.cell? ⟨w.heap.size, 7, none⟩ = some (.slice ta l.tail.length tc)) := fun W hk => have B := HB1.out.keep hk; ⟨B.c0, B.c1, B.c2, B.c3, B.c4, B.c5, B.c6, B.c7⟩
      have HC : Hid (∀ W, Keeps W1 W → Calls Tryz.prog 20 #[stV l.base (.slice xa l.base.tab.length xc), .slice ta n tc] W fun y w' => ∃ qa qc ra rc, Hid (OwnTab W.heap.size w' (.slice qa r.tab.length qc) r.tab) ∧ Hid (w'.ownsRow W.heap.size 3 1 (.slice ra rn.length rc) rn.length (intCells rn)) ∧ y = .returned (.tuple #[stV r (.slice qa r.tab.length qc), .slice ra rn.length rc, .int .i64 0]) ∧ Keeps W w') := by
        intro W hk
        rw [hr', hrn]
        exact all_ok (split_right HL0.out n).1 _ _ W (HT.out.keep (HK1.out.trans hk)) (ents_prefix (HL.out.keep (HK1.out.trans hk)) hn)
      have hgt : ¬ (l.tail.length : Int) < (n : Int) := by omega
      clear hr' hrn h2
      go_wp2_with fail
      clear b0 b7 bl c0 cl
      go_cut [6] (fun p wc => ∃ qb qa qc, p = .pointer (some ⟨qb, 0, none⟩) ∧ StBox qb r (.slice qa r.tab.length qc) wc ∧ OwnTab W1.heap.size wc (.slice qa r.tab.length qc) r.tab ∧ Keeps W1 wc)
      case first =>
        obtain ⟨V0, hV0⟩ : ∃ z, z = W1.drew := ⟨_, rfl⟩
        have k0 : Keeps W1 V0 := by rw [hV0]; exact (Keeps.refl _).drew
        refine wp_region_held_drew (S := fun W => W.cell? ⟨w.heap.size, 0, none⟩ = some (.int .i64 l.base.at_) ∧ W.cell? ⟨w.heap.size, 1, none⟩ = some (.int .i64 l.base.clock) ∧ W.cell? ⟨w.heap.size, 2, none⟩ = some (.int .i64 l.base.v0) ∧ W.cell? ⟨w.heap.size, 3, none⟩ = some (.int .i64 l.base.v1) ∧ W.cell? ⟨w.heap.size, 4, none⟩ = some (.int .i64 l.base.v2) ∧ W.cell? ⟨w.heap.size, 5, none⟩ = some (.int .i64 l.base.v3) ∧ W.cell? ⟨w.heap.size, 6, none⟩ = some (.slice xa l.base.tab.length xc) ∧ W.cell? ⟨w.heap.size, 7, none⟩ = some (.slice ta l.tail.length tc)) (by kernel_rfl) (HSA.out _ (Keeps.refl _).drew) (fun hS => ?_)
        rw [← hV0] at hS ⊢
        clear hV0
        refine wpAnyH_take (i := 0) (v := .pointer (some ⟨w.heap.size, 0, none⟩)) rfl (by kernel_rfl) (by kernel_rfl) (by kernel_rfl) (fun _ _ _ h => h) (Or.inl ⟨by rfl, ?_⟩) hS ?_
        · intro w hS; go_simp
        refine wpAnyH_take (i := 1) (v := stV l.base (.slice xa l.base.tab.length xc)) rfl (by kernel_rfl) (by kernel_rfl) (by kernel_rfl) (fun _ _ _ h => h) (Or.inl ⟨by rfl, ?_⟩) hS ?_
        · intro w hS; go_simp
        refine wpAnyH_take (i := 2) (v := .pointer (some ⟨w.heap.size, 7, none⟩)) rfl (by kernel_rfl) (by kernel_rfl) (by kernel_rfl) (fun _ _ _ h => h) (Or.inl ⟨by rfl, ?_⟩) hS ?_
        · intro w hS; go_simp
        refine wpAnyH_take (i := 3) (v := .slice ta l.tail.length tc) rfl (by kernel_rfl) (by kernel_rfl) (by kernel_rfl) (fun _ _ _ h => h) (Or.inl ⟨by rfl, ?_⟩) hS ?_
        · intro w hS; go_simp
        refine wpAnyH_take (i := 4) (v := .int .i64 n) rfl (by kernel_rfl) (by kernel_rfl) (by kernel_rfl) (fun _ _ _ h => h) (Or.inl ⟨by rfl, ?_⟩) hS ?_
        · intro w hS; go_simp
        refine wpAnyH_take (i := 5) (v := .slice (if tc = 0 then ta else Option.map (fun x : Addr => x.add 0) ta) n tc) rfl (by kernel_rfl) (by kernel_rfl) (by kernel_rfl) (fun _ _ _ h => h) (Or.inl ⟨by rfl, ?_⟩) hS ?_
        · intro w hS; go_simp
        refine wpAnyH_ready (rs := [6, 11]) (by kernel_rfl) (by simp) ?_
        refine AllReadyH.cons rfl (fun K hK => ?_) (AllReadyH.cons rfl (fun K hK => ?_) (AllReadyH.nil))
        · go_simp
          refine (HC.out V0 k0).mono ?_
          rintro y V1 ⟨qa, qc, ra, rc, HO1, HN1, rfl, hb⟩
          have k1 := k0.trans hb
          go_simp
          refine hK.out _ _ (HSA.out _ k1) (fun hS => ?_)
          clear hK K
          clear hb
          refine wpAnyH_take (i := 7) (v := .tuple #[stV r (.slice qa r.tab.length qc), .slice ra rn.length rc, .int .i64 0]) rfl (by kernel_rfl) (by kernel_rfl) (by kernel_rfl) (fun _ _ _ h => h) (Or.inl ⟨by rfl, ?_⟩) hS ?_
          · intro w hS; go_simp
          refine wpAnyH_take (i := 8) (v := stV r (.slice qa r.tab.length qc)) rfl (by kernel_rfl) (by kernel_rfl) (by kernel_rfl) (fun _ _ _ h => h) (Or.inl ⟨by rfl, ?_⟩) hS ?_
          · intro w hS; go_simp
          refine wpAnyH_take (i := 9) (v := .slice ra rn.length rc) rfl (by kernel_rfl) (by kernel_rfl) (by kernel_rfl) (fun _ _ _ h => h) (Or.inl ⟨by rfl, ?_⟩) hS ?_
          · intro w hS; go_simp
          refine wpAnyH_take (i := 10) (v := .int .i64 0) rfl (by kernel_rfl) (by kernel_rfl) (by kernel_rfl) (fun _ _ _ h => h) (Or.inl ⟨by rfl, ?_⟩) hS ?_
          · intro w hS; go_simp
          refine wpAnyH_ready (rs := [11]) (by kernel_rfl) (by simp) ?_
          refine AllReadyH.cons rfl (fun K hK => ?_) (AllReadyH.nil)
          go_simp
          have hb : Keeps V1 (V1.alloc (.cells #[.int .i64 0, .int .i64 0, .int .i64 0, .int .i64 0, .int .i64 0, .int .i64 0, .slice none 0 0] 25)) := (Keeps.refl _).alloc _
          have HQ2 : Hid (StBox V1.heap.size zeroSt (.slice none 0 0) (V1.alloc (.cells #[.int .i64 0, .int .i64 0, .int .i64 0, .int .i64 0, .int .i64 0, .int .i64 0, .slice none 0 0] 25))) := StBox.new V1 zeroSt (.slice none 0 0) 25
          generalize V1.alloc (.cells #[.int .i64 0, .int .i64 0, .int .i64 0, .int .i64 0, .int .i64 0, .int .i64 0, .slice none 0 0] 25) = V2 at *
          have k2 := k1.trans hb
          refine hK.out _ _ (HSA.out _ k2) (fun hS => ?_)
          clear hK K
          have HTF : Hid (∀ WF, But V1.heap.size V2 WF → OwnTab W1.heap.size WF (.slice qa r.tab.length qc) r.tab) := fun WF hF => (HO1.out.keep (But.to hb (Nat.le_refl _) hF)).base k0.size
          clear hb
          refine wpAnyH_ready (rs := [12]) (by kernel_rfl) (by simp) ?_
          refine AllReadyH.cons rfl (fun K hK => ?_) (AllReadyH.nil)
          have z0 := HQ2.out.c0
          have z1 := HQ2.out.c1
          have z2 := HQ2.out.c2
          have z3 := HQ2.out.c3
          have z4 := HQ2.out.c4
          have z5 := HQ2.out.c5
          have z6 := HQ2.out.c6
          have zf := HQ2.out.fz
          have zl := HQ2.out.lt
          go_simp
          have BP := HQ2.out.put r (.slice qa r.tab.length qc)
          have BT := But.puts (b := V1.heap.size) V2 r (.slice qa r.tab.length qc)
          have KF := But.to k2 k1.size BT
          have HTE := HTF.out _ BT
          obtain ⟨WF, hWF⟩ : ∃ z, z = (((((((V2.setCell ⟨V1.heap.size, 0, none⟩ (.int .i64 r.at_)).setCell ⟨V1.heap.size, 1, none⟩ (.int .i64 r.clock)).setCell ⟨V1.heap.size, 2, none⟩ (.int .i64 r.v0)).setCell ⟨V1.heap.size, 3, none⟩ (.int .i64 r.v1)).setCell ⟨V1.heap.size, 4, none⟩ (.int .i64 r.v2)).setCell ⟨V1.heap.size, 5, none⟩ (.int .i64 r.v3)).setCell ⟨V1.heap.size, 6, none⟩ (.slice qa r.tab.length qc)) := ⟨_, rfl⟩
          rw [← hWF] at BP BT KF HTE ⊢
          clear hWF z0 z1 z2 z3 z4 z5 z6 zf zl
          refine hK.out _ _ (HSA.out _ KF) (fun hS => ?_)
          clear hK K
          refine wpAnyH_take (i := 13) (v := .slice ra rn.length rc) rfl (by kernel_rfl) (by kernel_rfl) (by kernel_rfl) (fun _ _ _ h => h) (Or.inl ⟨by rfl, ?_⟩) hS ?_
          · intro w hS; go_simp
          refine wpAnyH_take (i := 14) (v := .int .i64 0) rfl (by kernel_rfl) (by kernel_rfl) (by kernel_rfl) (fun _ _ _ h => h) (Or.inl ⟨by rfl, ?_⟩) hS ?_
          · intro w hS; go_simp
          refine wpAnyH_done (by kernel_rfl) ?_ _
          go_wp2_with fail
          go_meet
          exact ⟨_, _, _, rfl, BP, HTE, KF⟩
        · go_simp
          have hb : Keeps V0 (V0.alloc (.cells #[.int .i64 0, .int .i64 0, .int .i64 0, .int .i64 0, .int .i64 0, .int .i64 0, .slice none 0 0] 25)) := (Keeps.refl _).alloc _
          have HQ1 : Hid (StBox V0.heap.size zeroSt (.slice none 0 0) (V0.alloc (.cells #[.int .i64 0, .int .i64 0, .int .i64 0, .int .i64 0, .int .i64 0, .int .i64 0, .slice none 0 0] 25))) := StBox.new V0 zeroSt (.slice none 0 0) 25
          generalize V0.alloc (.cells #[.int .i64 0, .int .i64 0, .int .i64 0, .int .i64 0, .int .i64 0, .int .i64 0, .slice none 0 0] 25) = V1 at *
          have k1 := k0.trans hb
          refine hK.out _ _ (HSA.out _ k1) (fun hS => ?_)
          clear hK K
          clear hb
          refine wpAnyH_ready (rs := [6]) (by kernel_rfl) (by simp) ?_
          refine AllReadyH.cons rfl (fun K hK => ?_) (AllReadyH.nil)
          go_simp
          refine (HC.out V1 k1).mono ?_
          rintro y V2 ⟨qa, qc, ra, rc, HO2, HN2, rfl, hb⟩
          have k2 := k1.trans hb
          go_simp
          refine hK.out _ _ (HSA.out _ k2) (fun hS => ?_)
          clear hK K
          have HQ2 : Hid (StBox V0.heap.size zeroSt (.slice none 0 0) V2) := HQ1.out.keep hb
          have HTF : Hid (∀ WF, But V0.heap.size V2 WF → OwnTab W1.heap.size WF (.slice qa r.tab.length qc) r.tab) := fun WF hF => (HO2.out.but (by have := HQ1.out.lt; omega) hF).base (by have := k1.size; omega)
          clear hb
          refine wpAnyH_take (i := 7) (v := .tuple #[stV r (.slice qa r.tab.length qc), .slice ra rn.length rc, .int .i64 0]) rfl (by kernel_rfl) (by kernel_rfl) (by kernel_rfl) (fun _ _ _ h => h) (Or.inl ⟨by rfl, ?_⟩) hS ?_
          · intro w hS; go_simp
          refine wpAnyH_take (i := 8) (v := stV r (.slice qa r.tab.length qc)) rfl (by kernel_rfl) (by kernel_rfl) (by kernel_rfl) (fun _ _ _ h => h) (Or.inl ⟨by rfl, ?_⟩) hS ?_
          · intro w hS; go_simp
          refine wpAnyH_take (i := 9) (v := .slice ra rn.length rc) rfl (by kernel_rfl) (by kernel_rfl) (by kernel_rfl) (fun _ _ _ h => h) (Or.inl ⟨by rfl, ?_⟩) hS ?_
          · intro w hS; go_simp
          refine wpAnyH_take (i := 10) (v := .int .i64 0) rfl (by kernel_rfl) (by kernel_rfl) (by kernel_rfl) (fun _ _ _ h => h) (Or.inl ⟨by rfl, ?_⟩) hS ?_
          · intro w hS; go_simp
          refine wpAnyH_ready (rs := [12]) (by kernel_rfl) (by simp) ?_
          refine AllReadyH.cons rfl (fun K hK => ?_) (AllReadyH.nil)
          have z0 := HQ2.out.c0
          have z1 := HQ2.out.c1
          have z2 := HQ2.out.c2
          have z3 := HQ2.out.c3
          have z4 := HQ2.out.c4
          have z5 := HQ2.out.c5
          have z6 := HQ2.out.c6
          have zf := HQ2.out.fz
          have zl := HQ2.out.lt
          go_simp
          have BP := HQ2.out.put r (.slice qa r.tab.length qc)
          have BT := But.puts (b := V0.heap.size) V2 r (.slice qa r.tab.length qc)
          have KF := But.to k2 k0.size BT
          have HTE := HTF.out _ BT
          obtain ⟨WF, hWF⟩ : ∃ z, z = (((((((V2.setCell ⟨V0.heap.size, 0, none⟩ (.int .i64 r.at_)).setCell ⟨V0.heap.size, 1, none⟩ (.int .i64 r.clock)).setCell ⟨V0.heap.size, 2, none⟩ (.int .i64 r.v0)).setCell ⟨V0.heap.size, 3, none⟩ (.int .i64 r.v1)).setCell ⟨V0.heap.size, 4, none⟩ (.int .i64 r.v2)).setCell ⟨V0.heap.size, 5, none⟩ (.int .i64 r.v3)).setCell ⟨V0.heap.size, 6, none⟩ (.slice qa r.tab.length qc)) := ⟨_, rfl⟩
          rw [← hWF] at BP BT KF HTE ⊢
          clear hWF z0 z1 z2 z3 z4 z5 z6 zf zl
          refine hK.out _ _ (HSA.out _ KF) (fun hS => ?_)
          clear hK K
          refine wpAnyH_take (i := 13) (v := .slice ra rn.length rc) rfl (by kernel_rfl) (by kernel_rfl) (by kernel_rfl) (fun _ _ _ h => h) (Or.inl ⟨by rfl, ?_⟩) hS ?_
          · intro w hS; go_simp
          refine wpAnyH_take (i := 14) (v := .int .i64 0) rfl (by kernel_rfl) (by kernel_rfl) (by kernel_rfl) (fun _ _ _ h => h) (Or.inl ⟨by rfl, ?_⟩) hS ?_
          · intro w hS; go_simp
          refine wpAnyH_done (by kernel_rfl) ?_ _
          go_wp2_with fail
          go_meet
          exact ⟨_, _, _, rfl, BP, HTE, KF⟩
      case rest =>
        obtain ⟨qb, qa, qc, rfl, hQ, hO, hkc⟩ := hcut
        have hS := HC1.out.keep hkc
        have HKc : Hid (Keeps w wc) := HK1.out.trans hkc
        have HO : Hid (TabAt wc (.slice qa r.tab.length qc) r.tab) := hO.tab
        have q0 := hQ.c0
        have q1 := hQ.c1
        have q2 := hQ.c2
        have q3 := hQ.c3
        have q4 := hQ.c4
        have q5 := hQ.c5
        have q6 := hQ.c6
        have ql := hQ.lt
        have s0 := hS.c0
        have s1 := hS.c1
        have s2 := hS.c2
        have s3 := hS.c3
        have s4 := hS.c4
        have s5 := hS.c5
        have s6 := hS.c6
        have sl := hS.lt
        clear hQ hO hkc hS HSA HC
        go_wp2_with fail
        refine (state_same r s _ _ wc HO.out (HY.out.keep HKc.out)).mono ?_
        rintro e w2 ⟨rfl, hb⟩
        have HK2 : Hid (Keeps w w2) := HKc.out.trans hb
        clear hb
        go_wp2_with fail
        go_ret
        rw [HF2.out]
        exact ⟨rfl, HK2.out⟩
end Go.Proofs.YteabfjpajgakiaeGreat

/- The reference's fits, FitsOf; node.Fits, checkRun. -/
set_option linter.unusedSimpArgs false
set_option linter.unusedVariables false
set_option maxRecDepth 10000
namespace Go.Proofs.YteabfjpajgakiaeGreat
open Go.RowKit

theorem node_right {l : Lg} {s : St} (h : nodeErr l s = 0) : lgErr l = 0 ∧ stErr s = 0 := by
  unfold nodeErr at h
  split at h
  · rename_i h1
    exact ⟨by simpa using h1, h⟩
  · rename_i h1
    simp [h] at h1

set_option maxHeartbeats 4000000 in
theorem fits_ref (l : Lg) (s : St) (x y : Value) (ta : Option Addr) (tc : Nat) (w : World) (hT : TabAt w x l.base.tab) (hL : EntsAt w (.slice ta l.tail.length tc) l.tail) (hY : TabAt w y s.tab) (hl0 : lgErr l = 0) (hs0 : stErr s = 0) (hcap : l.tail.length ≤ tc) : Calls Tryz.prog 22 #[lgV l x (.slice ta l.tail.length tc), stV s y] w fun e w' => e = .returned (.bool (fitsB l s)) ∧ Keeps w w' := by
  obtain ⟨xa, xc, rfl, _⟩ := hT.len
  obtain ⟨ya, yc, rfl, _⟩ := hY.len
  have HT : Hid (TabAt w (.slice xa l.base.tab.length xc) l.base.tab) := hT
  have HL : Hid (EntsAt w (.slice ta l.tail.length tc) l.tail) := hL
  have HY : Hid (TabAt w (.slice ya s.tab.length yc) s.tab) := hY
  have hlen := hL.2.1
  unfold maxLen at hlen
  clear hT hL hY
  obtain ⟨⟨sa0, sa1⟩, _⟩ := stErr_bounds hs0
  obtain ⟨⟨la0, la1⟩, _⟩ := stErr_bounds (fold_right hl0).1
  have HF : Hid (fitsB l s = if s.at_ < l.base.at_ then true else if (l.tail.length : Int) < s.at_ - l.base.at_ then false else sameSt (runSt l.base (l.tail.take (s.at_ - l.base.at_).toNat)) s) := rfl
  have HL0 : Hid (lgErr l = 0) := hl0
  clear hl0 hs0
  go_enter Tryz.func22, Tryz.ntmps22
  obtain ⟨w1, hw1⟩ : ∃ z, z = (w.alloc (.cells #[.int .i64 l.base.at_, .int .i64 l.base.clock, .int .i64 l.base.v0, .int .i64 l.base.v1, .int .i64 l.base.v2, .int .i64 l.base.v3, .slice xa l.base.tab.length xc, .slice ta l.tail.length tc] 28)).alloc (.cells #[.int .i64 s.at_, .int .i64 s.clock, .int .i64 s.v0, .int .i64 s.v1, .int .i64 s.v2, .int .i64 s.v3, .slice ya s.tab.length yc] 25) := ⟨_, rfl⟩
  have HK1 : Hid (Keeps w w1) := by rw [hw1]; exact ((Keeps.refl _).alloc _).alloc _
  have HB1 : Hid (LgBox w.heap.size l (.slice xa l.base.tab.length xc) (.slice ta l.tail.length tc) w1) := by rw [hw1]; exact (LgBox.new w l _ _ rfl rfl 28).keep ((Keeps.refl _).alloc _)
  have HC1 : Hid (StBox (w.heap.size + 1) s (.slice ya s.tab.length yc) w1) := by
    rw [hw1]
    have := StBox.new (w.alloc (.cells #[.int .i64 l.base.at_, .int .i64 l.base.clock, .int .i64 l.base.v0, .int .i64 l.base.v1, .int .i64 l.base.v2, .int .i64 l.base.v3, .slice xa l.base.tab.length xc, .slice ta l.tail.length tc] 28)) s (.slice ya s.tab.length yc) 25
    simp only [World.size_alloc] at this
    exact this
  have HW1 := (show Hid _ from hw1)
  clear hw1
  by_cases h1 : s.at_ < l.base.at_
  · have h1' : s.at_ - l.base.at_ < 0 := by omega
    have HF2 : Hid (fitsB l s = true) := by show _ = _; rw [HF.out, if_pos h1]
    go_wp2_with fail
    go_ret
    rw [HF2.out]
    exact ⟨rfl, ((Keeps.refl _).alloc _).alloc _⟩
  · have h1' : ¬ s.at_ - l.base.at_ < 0 := by omega
    by_cases h2 : (l.tail.length : Int) < s.at_ - l.base.at_
    · have HF2 : Hid (fitsB l s = false) := by show _ = _; rw [HF.out, if_neg h1, if_pos h2]
      go_wp2_with fail
      go_ret
      rw [HF2.out]
      exact ⟨rfl, ((Keeps.refl _).alloc _).alloc _⟩
    · obtain ⟨n, hn'⟩ : ∃ n : Nat, s.at_ - l.base.at_ = n := ⟨(s.at_ - l.base.at_).toNat, by omega⟩
      have hn : n ≤ l.tail.length := by omega
      obtain ⟨r, hr'⟩ : ∃ r, r = runSt l.base (l.tail.take n) := ⟨_, rfl⟩
      have HF2 : Hid (fitsB l s = sameSt r s) := by
        show _ = _
        rw [HF.out, if_neg h1, if_neg h2, hr', hn']
        simp
      have hnl : (n : Int) ≤ (l.tail.length : Int) := by omega
      have hnc : (n : Int) ≤ (tc : Int) := by omega
      have hz9 : ∀ w, (Go.sizeOf 43).run Tryz.prog w = .ok 9 w := fun _ => by kernel_rfl
      have HSA : Hid (∀ W, Keeps w1 W → W.cell? ⟨w.heap.size, 0, none⟩ = some (.int .i64 l.base.at_) ∧ W.cell? ⟨w.heap.size, 1, none⟩ = some (.int .i64 l.base.clock) ∧ W.cell? ⟨w.heap.size, 2, none⟩ = some (.int .i64 l.base.v0) ∧ W.cell? ⟨w.heap.size, 3, none⟩ = some (.int .i64 l.base.v1) ∧ W.cell? ⟨w.heap.size, 4, none⟩ = some (.int .i64 l.base.v2) ∧ W.cell? ⟨w.heap.size, 5, none⟩ = some (.int .i64 l.base.v3) ∧ W.cell? ⟨w.heap.size, 6, none⟩ = some (.slice xa l.base.tab.length xc) ∧ W.cell? ⟨w.heap.size, 7, none⟩ = some (.slice ta l.tail.length tc)) := fun W hk => have B := HB1.out.keep hk; ⟨B.c0, B.c1, B.c2, B.c3, B.c4, B.c5, B.c6, B.c7⟩
      have hfr := fold_right (split_right HL0.out n).1
      have HC : Hid (∀ W, Keeps w1 W → Calls Tryz.prog 24 #[stV l.base (.slice xa l.base.tab.length xc), .slice ta n tc] W fun y w' => ∃ qa qc ra rc da dc, Hid (OwnTab W.heap.size w' (.slice qa r.tab.length qc) r.tab) ∧ y = .returned (.tuple #[stV r (.slice qa r.tab.length qc), .slice ra n rc, .slice da n dc]) ∧ Keeps W w') := by
        intro W hk
        rw [hr']
        refine (folded_c l.base (l.tail.take n) _ _ W (HT.out.keep (HK1.out.trans hk)) (ents_prefix (HL.out.keep (HK1.out.trans hk)) hn) hfr.1 hfr.2.1 hfr.2.2).mono ?_
        rintro y w' ⟨qa, qc, ra, rc, da, dc, h1, _, _, rfl, hb⟩
        have e1 : (l.tail.take n).length = n := by simp; omega
        rw [e1]
        exact ⟨qa, qc, ra, rc, da, dc, h1, rfl, hb⟩
      have hgt : ¬ (l.tail.length : Int) < (n : Int) := by omega
      clear hr' hfr
      go_wp2_with fail
      rw [← HW1.out]
      go_cut [6] (fun p wc => ∃ qb qa qc, p = .pointer (some ⟨qb, 0, none⟩) ∧ StBox qb r (.slice qa r.tab.length qc) wc ∧ OwnTab w1.heap.size wc (.slice qa r.tab.length qc) r.tab ∧ Keeps w1 wc)
      case first =>
        obtain ⟨V0, hV0⟩ : ∃ z, z = w1.drew := ⟨_, rfl⟩
        have k0 : Keeps w1 V0 := by rw [hV0]; exact (Keeps.refl _).drew
        refine wp_region_held_drew (S := fun W => W.cell? ⟨w.heap.size, 0, none⟩ = some (.int .i64 l.base.at_) ∧ W.cell? ⟨w.heap.size, 1, none⟩ = some (.int .i64 l.base.clock) ∧ W.cell? ⟨w.heap.size, 2, none⟩ = some (.int .i64 l.base.v0) ∧ W.cell? ⟨w.heap.size, 3, none⟩ = some (.int .i64 l.base.v1) ∧ W.cell? ⟨w.heap.size, 4, none⟩ = some (.int .i64 l.base.v2) ∧ W.cell? ⟨w.heap.size, 5, none⟩ = some (.int .i64 l.base.v3) ∧ W.cell? ⟨w.heap.size, 6, none⟩ = some (.slice xa l.base.tab.length xc) ∧ W.cell? ⟨w.heap.size, 7, none⟩ = some (.slice ta l.tail.length tc)) (by kernel_rfl) (HSA.out _ (Keeps.refl _).drew) (fun hS => ?_)
        rw [← hV0] at hS ⊢
        clear hV0
        refine wpAnyH_take (i := 0) (v := .pointer (some ⟨w.heap.size, 0, none⟩)) rfl (by kernel_rfl) (by kernel_rfl) (by kernel_rfl) (fun _ _ _ h => h) (Or.inl ⟨by rfl, ?_⟩) hS ?_
        · intro w hS; go_simp
        refine wpAnyH_take (i := 1) (v := stV l.base (.slice xa l.base.tab.length xc)) rfl (by kernel_rfl) (by kernel_rfl) (by kernel_rfl) (fun _ _ _ h => h) (Or.inl ⟨by rfl, ?_⟩) hS ?_
        · intro w hS; go_simp
        refine wpAnyH_take (i := 2) (v := .pointer (some ⟨w.heap.size, 7, none⟩)) rfl (by kernel_rfl) (by kernel_rfl) (by kernel_rfl) (fun _ _ _ h => h) (Or.inl ⟨by rfl, ?_⟩) hS ?_
        · intro w hS; go_simp
        refine wpAnyH_take (i := 3) (v := .slice ta l.tail.length tc) rfl (by kernel_rfl) (by kernel_rfl) (by kernel_rfl) (fun _ _ _ h => h) (Or.inl ⟨by rfl, ?_⟩) hS ?_
        · intro w hS; go_simp
        refine wpAnyH_take (i := 4) (v := .int .i64 n) rfl (by kernel_rfl) (by kernel_rfl) (by kernel_rfl) (fun _ _ _ h => h) (Or.inl ⟨by rfl, ?_⟩) hS ?_
        · intro w hS; go_simp
        refine wpAnyH_take (i := 5) (v := .slice (if tc = 0 then ta else Option.map (fun x : Addr => x.add 0) ta) n tc) rfl (by kernel_rfl) (by kernel_rfl) (by kernel_rfl) (fun _ _ _ h => h) (Or.inl ⟨by rfl, ?_⟩) hS ?_
        · intro w hS; go_simp
        refine wpAnyH_ready (rs := [6, 11]) (by kernel_rfl) (by simp) ?_
        refine AllReadyH.cons rfl (fun K hK => ?_) (AllReadyH.cons rfl (fun K hK => ?_) (AllReadyH.nil))
        · go_simp
          refine (HC.out V0 k0).mono ?_
          rintro y V1 ⟨qa, qc, ra, rc, da, dc, HO1, rfl, hb⟩
          have k1 := k0.trans hb
          go_simp
          refine hK.out _ _ (HSA.out _ k1) (fun hS => ?_)
          clear hK K
          clear hb
          refine wpAnyH_take (i := 7) (v := .tuple #[stV r (.slice qa r.tab.length qc), .slice ra n rc, .slice da n dc]) rfl (by kernel_rfl) (by kernel_rfl) (by kernel_rfl) (fun _ _ _ h => h) (Or.inl ⟨by rfl, ?_⟩) hS ?_
          · intro w hS; go_simp
          refine wpAnyH_take (i := 8) (v := stV r (.slice qa r.tab.length qc)) rfl (by kernel_rfl) (by kernel_rfl) (by kernel_rfl) (fun _ _ _ h => h) (Or.inl ⟨by rfl, ?_⟩) hS ?_
          · intro w hS; go_simp
          refine wpAnyH_take (i := 9) (v := .slice ra n rc) rfl (by kernel_rfl) (by kernel_rfl) (by kernel_rfl) (fun _ _ _ h => h) (Or.inl ⟨by rfl, ?_⟩) hS ?_
          · intro w hS; go_simp
          refine wpAnyH_take (i := 10) (v := .slice da n dc) rfl (by kernel_rfl) (by kernel_rfl) (by kernel_rfl) (fun _ _ _ h => h) (Or.inl ⟨by rfl, ?_⟩) hS ?_
          · intro w hS; go_simp
          refine wpAnyH_ready (rs := [11]) (by kernel_rfl) (by simp) ?_
          refine AllReadyH.cons rfl (fun K hK => ?_) (AllReadyH.nil)
          go_simp
          have hb : Keeps V1 (V1.alloc (.cells #[.int .i64 0, .int .i64 0, .int .i64 0, .int .i64 0, .int .i64 0, .int .i64 0, .slice none 0 0] 25)) := (Keeps.refl _).alloc _
          have HQ2 : Hid (StBox V1.heap.size zeroSt (.slice none 0 0) (V1.alloc (.cells #[.int .i64 0, .int .i64 0, .int .i64 0, .int .i64 0, .int .i64 0, .int .i64 0, .slice none 0 0] 25))) := StBox.new V1 zeroSt (.slice none 0 0) 25
          generalize V1.alloc (.cells #[.int .i64 0, .int .i64 0, .int .i64 0, .int .i64 0, .int .i64 0, .int .i64 0, .slice none 0 0] 25) = V2 at *
          have k2 := k1.trans hb
          refine hK.out _ _ (HSA.out _ k2) (fun hS => ?_)
          clear hK K
          have HTF : Hid (∀ WF, But V1.heap.size V2 WF → OwnTab w1.heap.size WF (.slice qa r.tab.length qc) r.tab) := fun WF hF => (HO1.out.keep (But.to hb (Nat.le_refl _) hF)).base k0.size
          clear hb
          refine wpAnyH_ready (rs := [12]) (by kernel_rfl) (by simp) ?_
          refine AllReadyH.cons rfl (fun K hK => ?_) (AllReadyH.nil)
          have z0 := HQ2.out.c0
          have z1 := HQ2.out.c1
          have z2 := HQ2.out.c2
          have z3 := HQ2.out.c3
          have z4 := HQ2.out.c4
          have z5 := HQ2.out.c5
          have z6 := HQ2.out.c6
          have zf := HQ2.out.fz
          have zl := HQ2.out.lt
          go_simp
          have BP := HQ2.out.put r (.slice qa r.tab.length qc)
          have BT := But.puts (b := V1.heap.size) V2 r (.slice qa r.tab.length qc)
          have KF := But.to k2 k1.size BT
          have HTE := HTF.out _ BT
          obtain ⟨WF, hWF⟩ : ∃ z, z = (((((((V2.setCell ⟨V1.heap.size, 0, none⟩ (.int .i64 r.at_)).setCell ⟨V1.heap.size, 1, none⟩ (.int .i64 r.clock)).setCell ⟨V1.heap.size, 2, none⟩ (.int .i64 r.v0)).setCell ⟨V1.heap.size, 3, none⟩ (.int .i64 r.v1)).setCell ⟨V1.heap.size, 4, none⟩ (.int .i64 r.v2)).setCell ⟨V1.heap.size, 5, none⟩ (.int .i64 r.v3)).setCell ⟨V1.heap.size, 6, none⟩ (.slice qa r.tab.length qc)) := ⟨_, rfl⟩
          rw [← hWF] at BP BT KF HTE ⊢
          clear hWF z0 z1 z2 z3 z4 z5 z6 zf zl
          refine hK.out _ _ (HSA.out _ KF) (fun hS => ?_)
          clear hK K
          refine wpAnyH_take (i := 13) (v := .slice ra n rc) rfl (by kernel_rfl) (by kernel_rfl) (by kernel_rfl) (fun _ _ _ h => h) (Or.inl ⟨by rfl, ?_⟩) hS ?_
          · intro w hS; go_simp
          refine wpAnyH_take (i := 14) (v := .slice da n dc) rfl (by kernel_rfl) (by kernel_rfl) (by kernel_rfl) (fun _ _ _ h => h) (Or.inl ⟨by rfl, ?_⟩) hS ?_
          · intro w hS; go_simp
          refine wpAnyH_done (by kernel_rfl) ?_ _
          go_wp2_with fail
          go_meet
          exact ⟨_, _, _, rfl, BP, HTE, KF⟩
        · go_simp
          have hb : Keeps V0 (V0.alloc (.cells #[.int .i64 0, .int .i64 0, .int .i64 0, .int .i64 0, .int .i64 0, .int .i64 0, .slice none 0 0] 25)) := (Keeps.refl _).alloc _
          have HQ1 : Hid (StBox V0.heap.size zeroSt (.slice none 0 0) (V0.alloc (.cells #[.int .i64 0, .int .i64 0, .int .i64 0, .int .i64 0, .int .i64 0, .int .i64 0, .slice none 0 0] 25))) := StBox.new V0 zeroSt (.slice none 0 0) 25
          generalize V0.alloc (.cells #[.int .i64 0, .int .i64 0, .int .i64 0, .int .i64 0, .int .i64 0, .int .i64 0, .slice none 0 0] 25) = V1 at *
          have k1 := k0.trans hb
          refine hK.out _ _ (HSA.out _ k1) (fun hS => ?_)
          clear hK K
          clear hb
          refine wpAnyH_ready (rs := [6]) (by kernel_rfl) (by simp) ?_
          refine AllReadyH.cons rfl (fun K hK => ?_) (AllReadyH.nil)
          go_simp
          refine (HC.out V1 k1).mono ?_
          rintro y V2 ⟨qa, qc, ra, rc, da, dc, HO2, rfl, hb⟩
          have k2 := k1.trans hb
          go_simp
          refine hK.out _ _ (HSA.out _ k2) (fun hS => ?_)
          clear hK K
          have HQ2 : Hid (StBox V0.heap.size zeroSt (.slice none 0 0) V2) := HQ1.out.keep hb
          have HTF : Hid (∀ WF, But V0.heap.size V2 WF → OwnTab w1.heap.size WF (.slice qa r.tab.length qc) r.tab) := fun WF hF => (HO2.out.but (by have := HQ1.out.lt; omega) hF).base (by have := k1.size; omega)
          clear hb
          refine wpAnyH_take (i := 7) (v := .tuple #[stV r (.slice qa r.tab.length qc), .slice ra n rc, .slice da n dc]) rfl (by kernel_rfl) (by kernel_rfl) (by kernel_rfl) (fun _ _ _ h => h) (Or.inl ⟨by rfl, ?_⟩) hS ?_
          · intro w hS; go_simp
          refine wpAnyH_take (i := 8) (v := stV r (.slice qa r.tab.length qc)) rfl (by kernel_rfl) (by kernel_rfl) (by kernel_rfl) (fun _ _ _ h => h) (Or.inl ⟨by rfl, ?_⟩) hS ?_
          · intro w hS; go_simp
          refine wpAnyH_take (i := 9) (v := .slice ra n rc) rfl (by kernel_rfl) (by kernel_rfl) (by kernel_rfl) (fun _ _ _ h => h) (Or.inl ⟨by rfl, ?_⟩) hS ?_
          · intro w hS; go_simp
          refine wpAnyH_take (i := 10) (v := .slice da n dc) rfl (by kernel_rfl) (by kernel_rfl) (by kernel_rfl) (fun _ _ _ h => h) (Or.inl ⟨by rfl, ?_⟩) hS ?_
          · intro w hS; go_simp
          refine wpAnyH_ready (rs := [12]) (by kernel_rfl) (by simp) ?_
          refine AllReadyH.cons rfl (fun K hK => ?_) (AllReadyH.nil)
          have z0 := HQ2.out.c0
          have z1 := HQ2.out.c1
          have z2 := HQ2.out.c2
          have z3 := HQ2.out.c3
          have z4 := HQ2.out.c4
          have z5 := HQ2.out.c5
          have z6 := HQ2.out.c6
          have zf := HQ2.out.fz
          have zl := HQ2.out.lt
          go_simp
          have BP := HQ2.out.put r (.slice qa r.tab.length qc)
          have BT := But.puts (b := V0.heap.size) V2 r (.slice qa r.tab.length qc)
          have KF := But.to k2 k0.size BT
          have HTE := HTF.out _ BT
          obtain ⟨WF, hWF⟩ : ∃ z, z = (((((((V2.setCell ⟨V0.heap.size, 0, none⟩ (.int .i64 r.at_)).setCell ⟨V0.heap.size, 1, none⟩ (.int .i64 r.clock)).setCell ⟨V0.heap.size, 2, none⟩ (.int .i64 r.v0)).setCell ⟨V0.heap.size, 3, none⟩ (.int .i64 r.v1)).setCell ⟨V0.heap.size, 4, none⟩ (.int .i64 r.v2)).setCell ⟨V0.heap.size, 5, none⟩ (.int .i64 r.v3)).setCell ⟨V0.heap.size, 6, none⟩ (.slice qa r.tab.length qc)) := ⟨_, rfl⟩
          rw [← hWF] at BP BT KF HTE ⊢
          clear hWF z0 z1 z2 z3 z4 z5 z6 zf zl
          refine hK.out _ _ (HSA.out _ KF) (fun hS => ?_)
          clear hK K
          refine wpAnyH_take (i := 13) (v := .slice ra n rc) rfl (by kernel_rfl) (by kernel_rfl) (by kernel_rfl) (fun _ _ _ h => h) (Or.inl ⟨by rfl, ?_⟩) hS ?_
          · intro w hS; go_simp
          refine wpAnyH_take (i := 14) (v := .slice da n dc) rfl (by kernel_rfl) (by kernel_rfl) (by kernel_rfl) (fun _ _ _ h => h) (Or.inl ⟨by rfl, ?_⟩) hS ?_
          · intro w hS; go_simp
          refine wpAnyH_done (by kernel_rfl) ?_ _
          go_wp2_with fail
          go_meet
          exact ⟨_, _, _, rfl, BP, HTE, KF⟩
      case rest =>
        obtain ⟨qb, qa, qc, rfl, hQ, hO, hkc⟩ := hcut
        have hS := HC1.out.keep hkc
        have HKc : Hid (Keeps w wc) := HK1.out.trans hkc
        have HO : Hid (TabAt wc (.slice qa r.tab.length qc) r.tab) := hO.tab
        have q0 := hQ.c0
        have q1 := hQ.c1
        have q2 := hQ.c2
        have q3 := hQ.c3
        have q4 := hQ.c4
        have q5 := hQ.c5
        have q6 := hQ.c6
        have ql := hQ.lt
        have s0 := hS.c0
        have s1 := hS.c1
        have s2 := hS.c2
        have s3 := hS.c3
        have s4 := hS.c4
        have s5 := hS.c5
        have s6 := hS.c6
        have sl := hS.lt
        clear hQ hO hkc hS HSA HC
        go_wp2_with fail
        refine (same_of r s _ _ wc HO.out (HY.out.keep HKc.out)).mono ?_
        rintro e w2 ⟨rfl, hb⟩
        have HK2 : Hid (Keeps w w2) := HKc.out.trans hb
        clear hb
        go_wp2_with fail
        go_ret
        rw [HF2.out]
        exact ⟨rfl, HK2.out⟩

set_option maxHeartbeats 2000000 in
theorem node_fits_c (l : Lg) (s : St) (x y : Value) (ta : Option Addr) (tc : Nat) (w : World) (hT : TabAt w x l.base.tab) (hL : EntsAt w (.slice ta l.tail.length tc) l.tail) (hY : TabAt w y s.tab) (hcap : l.tail.length ≤ tc) : Calls Tryz.prog 6 #[lgV l x (.slice ta l.tail.length tc), stV s y] w fun e w' => e = .returned (.tuple #[.bool (fitsOk l s), .int .i64 (nodeErr l s)]) ∧ Keeps w w' := by
  obtain ⟨xa, xc, rfl, _⟩ := hT.len
  obtain ⟨ya, yc, rfl, _⟩ := hY.len
  have HT : Hid (TabAt w (.slice xa l.base.tab.length xc) l.base.tab) := hT
  have HL : Hid (EntsAt w (.slice ta l.tail.length tc) l.tail) := hL
  have HY : Hid (TabAt w (.slice ya s.tab.length yc) s.tab) := hY
  have hlen := hL.2.1
  unfold maxLen at hlen
  clear hT hL hY
  have HE : Hid (fitsOk l s = if nodeErr l s == 0 then fitsB l s else false) := rfl
  go_enter Tryz.func6, Tryz.ntmps6
  go_wp2_with fail
  obtain ⟨W1, hW1⟩ : ∃ W1, W1 = (w.alloc (.cells #[.int .i64 l.base.at_, .int .i64 l.base.clock, .int .i64 l.base.v0, .int .i64 l.base.v1, .int .i64 l.base.v2, .int .i64 l.base.v3, .slice xa l.base.tab.length xc, .slice ta l.tail.length tc] 28)).alloc (.cells #[.int .i64 s.at_, .int .i64 s.clock, .int .i64 s.v0, .int .i64 s.v1, .int .i64 s.v2, .int .i64 s.v3, .slice ya s.tab.length yc] 25) := ⟨_, rfl⟩
  have k1 : Keeps w W1 := by rw [hW1]; exact ((Keeps.refl _).alloc _).alloc _
  have B1 : LgBox w.heap.size l (.slice xa l.base.tab.length xc) (.slice ta l.tail.length tc) W1 := by rw [hW1]; exact (LgBox.new w l _ _ rfl rfl 28).keep ((Keeps.refl _).alloc _)
  have C1 : StBox (w.heap.size + 1) s (.slice ya s.tab.length yc) W1 := by
    rw [hW1]
    have := StBox.new (w.alloc (.cells #[.int .i64 l.base.at_, .int .i64 l.base.clock, .int .i64 l.base.v0, .int .i64 l.base.v1, .int .i64 l.base.v2, .int .i64 l.base.v3, .slice xa l.base.tab.length xc, .slice ta l.tail.length tc] 28)) s (.slice ya s.tab.length yc) 25
    simp only [World.size_alloc] at this
    exact this
  rw [← hW1]
  clear hW1
  refine (node_both l s _ _ ta tc W1 (HT.out.keep k1) (HL.out.keep k1) (HY.out.keep k1)).mono ?_
  rintro e w1 ⟨rfl, hb⟩
  have HK1 : Hid (Keeps w w1) := k1.trans hb
  have B2 := B1.keep hb
  have C2 := C1.keep hb
  have b0 := B2.c0
  have b1 := B2.c1
  have b2 := B2.c2
  have b3 := B2.c3
  have b4 := B2.c4
  have b5 := B2.c5
  have b6 := B2.c6
  have b7 := B2.c7
  have bl := B2.lt
  have c0 := C2.c0
  have c1 := C2.c1
  have c2 := C2.c2
  have c3 := C2.c3
  have c4 := C2.c4
  have c5 := C2.c5
  have c6 := C2.c6
  have cl := C2.lt
  clear k1 B1 C1 hb C2 B2
  cases q1 : (nodeErr l s == 0) with
  | false =>
    have q1' : (nodeErr l s != 0) = true := by simp [bne, q1]
    have HE2 : Hid (fitsOk l s = false) := by show _ = _; rw [HE.out, q1]; rfl
    go_wp2_with fail
    go_ret2
    rw [HE2.out]
    exact ⟨rfl, HK1.out⟩
  | true =>
    have q1' : (nodeErr l s != 0) = false := by simp [bne, q1]
    have q0 : nodeErr l s = 0 := by simpa using q1
    have HE2 : Hid (fitsOk l s = fitsB l s) := by show _ = _; rw [HE.out, q1]; rfl
    have HNR := (show Hid _ from node_right q0)
    go_wp2_with fail
    refine (node_fits l s _ _ ta tc w1 (HT.out.keep HK1.out) (HL.out.keep HK1.out) (HY.out.keep HK1.out) HNR.out.1 HNR.out.2 hcap).mono ?_
    rintro e w2 ⟨rfl, hb⟩
    have HK2 : Hid (Keeps w w2) := HK1.out.trans hb
    clear hb
    go_wp2_with fail
    go_ret2
    rw [HE2.out, q0]
    exact ⟨rfl, HK2.out⟩

set_option maxHeartbeats 2000000 in
theorem fits_of (l : Lg) (s : St) (x y : Value) (ta : Option Addr) (tc : Nat) (w : World) (hT : TabAt w x l.base.tab) (hL : EntsAt w (.slice ta l.tail.length tc) l.tail) (hY : TabAt w y s.tab) (hcap : l.tail.length ≤ tc) : Calls Tryz.prog 8 #[lgV l x (.slice ta l.tail.length tc), stV s y] w fun e w' => e = .returned (.tuple #[.bool (fitsOk l s), .int .i64 (nodeErr l s)]) ∧ Keeps w w' := by
  obtain ⟨xa, xc, rfl, _⟩ := hT.len
  obtain ⟨ya, yc, rfl, _⟩ := hY.len
  have HT : Hid (TabAt w (.slice xa l.base.tab.length xc) l.base.tab) := hT
  have HL : Hid (EntsAt w (.slice ta l.tail.length tc) l.tail) := hL
  have HY : Hid (TabAt w (.slice ya s.tab.length yc) s.tab) := hY
  have hlen := hL.2.1
  unfold maxLen at hlen
  clear hT hL hY
  have HE : Hid (fitsOk l s = if nodeErr l s == 0 then fitsB l s else false) := rfl
  go_enter Tryz.func8, Tryz.ntmps8
  go_wp2_with fail
  obtain ⟨W1, hW1⟩ : ∃ W1, W1 = (w.alloc (.cells #[.int .i64 l.base.at_, .int .i64 l.base.clock, .int .i64 l.base.v0, .int .i64 l.base.v1, .int .i64 l.base.v2, .int .i64 l.base.v3, .slice xa l.base.tab.length xc, .slice ta l.tail.length tc] 28)).alloc (.cells #[.int .i64 s.at_, .int .i64 s.clock, .int .i64 s.v0, .int .i64 s.v1, .int .i64 s.v2, .int .i64 s.v3, .slice ya s.tab.length yc] 25) := ⟨_, rfl⟩
  have k1 : Keeps w W1 := by rw [hW1]; exact ((Keeps.refl _).alloc _).alloc _
  have B1 : LgBox w.heap.size l (.slice xa l.base.tab.length xc) (.slice ta l.tail.length tc) W1 := by rw [hW1]; exact (LgBox.new w l _ _ rfl rfl 28).keep ((Keeps.refl _).alloc _)
  have C1 : StBox (w.heap.size + 1) s (.slice ya s.tab.length yc) W1 := by
    rw [hW1]
    have := StBox.new (w.alloc (.cells #[.int .i64 l.base.at_, .int .i64 l.base.clock, .int .i64 l.base.v0, .int .i64 l.base.v1, .int .i64 l.base.v2, .int .i64 l.base.v3, .slice xa l.base.tab.length xc, .slice ta l.tail.length tc] 28)) s (.slice ya s.tab.length yc) 25
    simp only [World.size_alloc] at this
    exact this
  rw [← hW1]
  clear hW1
  refine (node_error l s _ _ ta tc W1 (HT.out.keep k1) (HL.out.keep k1) (HY.out.keep k1)).mono ?_
  rintro e w1 ⟨rfl, hb⟩
  have HK1 : Hid (Keeps w w1) := k1.trans hb
  have B2 := B1.keep hb
  have C2 := C1.keep hb
  have b0 := B2.c0
  have b1 := B2.c1
  have b2 := B2.c2
  have b3 := B2.c3
  have b4 := B2.c4
  have b5 := B2.c5
  have b6 := B2.c6
  have b7 := B2.c7
  have bl := B2.lt
  have c0 := C2.c0
  have c1 := C2.c1
  have c2 := C2.c2
  have c3 := C2.c3
  have c4 := C2.c4
  have c5 := C2.c5
  have c6 := C2.c6
  have cl := C2.lt
  clear k1 B1 C1 hb C2 B2
  cases q1 : (nodeErr l s == 0) with
  | false =>
    have q1' : (nodeErr l s != 0) = true := by simp [bne, q1]
    have HE2 : Hid (fitsOk l s = false) := by show _ = _; rw [HE.out, q1]; rfl
    go_wp2_with fail
    go_ret2
    rw [HE2.out]
    exact ⟨rfl, HK1.out⟩
  | true =>
    have q1' : (nodeErr l s != 0) = false := by simp [bne, q1]
    have q0 : nodeErr l s = 0 := by simpa using q1
    have HE2 : Hid (fitsOk l s = fitsB l s) := by show _ = _; rw [HE.out, q1]; rfl
    have HNR := (show Hid _ from node_right q0)
    go_wp2_with fail
    refine (fits_ref l s _ _ ta tc w1 (HT.out.keep HK1.out) (HL.out.keep HK1.out) (HY.out.keep HK1.out) HNR.out.1 HNR.out.2 hcap).mono ?_
    rintro e w2 ⟨rfl, hb⟩
    have HK2 : Hid (Keeps w w2) := HK1.out.trans hb
    clear hb
    go_wp2_with fail
    go_ret2
    rw [HE2.out, q0]
    exact ⟨rfl, HK2.out⟩

def runErr (l : Lg) (s : St) (n : Int) : Int := if nodeErr l s == 0 then (if inB n 0 50 then (if fitsB l s then 0 else 1) else 3) else nodeErr l s

set_option maxHeartbeats 2000000 in
theorem node_check_run (l : Lg) (s : St) (n : Int) (x y : Value) (ta : Option Addr) (tc : Nat) (w : World) (hT : TabAt w x l.base.tab) (hL : EntsAt w (.slice ta l.tail.length tc) l.tail) (hY : TabAt w y s.tab) (hcap : l.tail.length ≤ tc) : Calls Tryz.prog 18 #[lgV l x (.slice ta l.tail.length tc), stV s y, .int .i64 n] w fun e w' => e = .returned (.int .i64 (runErr l s n)) ∧ Keeps w w' := by
  obtain ⟨xa, xc, rfl, _⟩ := hT.len
  obtain ⟨ya, yc, rfl, _⟩ := hY.len
  have HT : Hid (TabAt w (.slice xa l.base.tab.length xc) l.base.tab) := hT
  have HL : Hid (EntsAt w (.slice ta l.tail.length tc) l.tail) := hL
  have HY : Hid (TabAt w (.slice ya s.tab.length yc) s.tab) := hY
  have hlen := hL.2.1
  unfold maxLen at hlen
  clear hT hL hY
  have HE : Hid (runErr l s n = if nodeErr l s == 0 then (if inB n 0 50 then (if fitsB l s then 0 else 1) else 3) else nodeErr l s) := rfl
  go_enter Tryz.func18, Tryz.ntmps18
  go_wp2_with fail
  obtain ⟨W1, hW1⟩ : ∃ W1, W1 = (w.alloc (.cells #[.int .i64 l.base.at_, .int .i64 l.base.clock, .int .i64 l.base.v0, .int .i64 l.base.v1, .int .i64 l.base.v2, .int .i64 l.base.v3, .slice xa l.base.tab.length xc, .slice ta l.tail.length tc] 28)).alloc (.cells #[.int .i64 s.at_, .int .i64 s.clock, .int .i64 s.v0, .int .i64 s.v1, .int .i64 s.v2, .int .i64 s.v3, .slice ya s.tab.length yc] 25) := ⟨_, rfl⟩
  have k1 : Keeps w W1 := by rw [hW1]; exact ((Keeps.refl _).alloc _).alloc _
  have B1 : LgBox w.heap.size l (.slice xa l.base.tab.length xc) (.slice ta l.tail.length tc) W1 := by rw [hW1]; exact (LgBox.new w l _ _ rfl rfl 28).keep ((Keeps.refl _).alloc _)
  have C1 : StBox (w.heap.size + 1) s (.slice ya s.tab.length yc) W1 := by
    rw [hW1]
    have := StBox.new (w.alloc (.cells #[.int .i64 l.base.at_, .int .i64 l.base.clock, .int .i64 l.base.v0, .int .i64 l.base.v1, .int .i64 l.base.v2, .int .i64 l.base.v3, .slice xa l.base.tab.length xc, .slice ta l.tail.length tc] 28)) s (.slice ya s.tab.length yc) 25
    simp only [World.size_alloc] at this
    exact this
  rw [← hW1]
  clear hW1
  refine (node_both l s _ _ ta tc W1 (HT.out.keep k1) (HL.out.keep k1) (HY.out.keep k1)).mono ?_
  rintro e w1 ⟨rfl, hb⟩
  have HK1 : Hid (Keeps w w1) := k1.trans hb
  have B2 := B1.keep hb
  have C2 := C1.keep hb
  have b0 := B2.c0
  have b1 := B2.c1
  have b2 := B2.c2
  have b3 := B2.c3
  have b4 := B2.c4
  have b5 := B2.c5
  have b6 := B2.c6
  have b7 := B2.c7
  have bl := B2.lt
  have c0 := C2.c0
  have c1 := C2.c1
  have c2 := C2.c2
  have c3 := C2.c3
  have c4 := C2.c4
  have c5 := C2.c5
  have c6 := C2.c6
  have cl := C2.lt
  clear k1 B1 C1 hb C2 B2
  cases q1 : (nodeErr l s == 0) with
  | false =>
    have q1' : (nodeErr l s != 0) = true := by simp [bne, q1]
    have HE2 : Hid (runErr l s n = nodeErr l s) := by show _ = _; rw [HE.out, q1]; rfl
    go_wp2_with fail
    go_ret
    exact ⟨ret_int HE2.out.symm, HK1.out⟩
  | true =>
    have q1' : (nodeErr l s != 0) = false := by simp [bne, q1]
    have q0 : nodeErr l s = 0 := by simpa using q1
    have HNR := (show Hid _ from node_right q0)
    cases q2 : inB n 0 50 with
    | false =>
      have HE2 : Hid (runErr l s n = 3) := by show _ = _; rw [HE.out, q1, q2]; rfl
      go_wp2_with (first | (go_at_call 32; refine (bound_in _ _ _ _).mono ?_; rintro e w' ⟨rfl, rfl⟩))
      go_ret
      exact ⟨ret_int HE2.out.symm, HK1.out⟩
    | true =>
      go_wp2_with (first | (go_at_call 32; refine (bound_in _ _ _ _).mono ?_; rintro e w' ⟨rfl, rfl⟩))
      refine (node_fits l s _ _ ta tc w1 (HT.out.keep HK1.out) (HL.out.keep HK1.out) (HY.out.keep HK1.out) HNR.out.1 HNR.out.2 hcap).mono ?_
      rintro e w2 ⟨rfl, hb⟩
      have HK2 : Hid (Keeps w w2) := HK1.out.trans hb
      clear hb
      cases q3 : fitsB l s with
      | false =>
        have HE2 : Hid (runErr l s n = 1) := by show _ = _; rw [HE.out, q1, q2, q3]; rfl
        go_wp2_with fail
        go_ret
        exact ⟨ret_int HE2.out.symm, HK2.out⟩
      | true =>
        have HE2 : Hid (runErr l s n = 0) := by show _ = _; rw [HE.out, q1, q2, q3]; rfl
        go_wp2_with fail
        go_ret
        exact ⟨ret_int HE2.out.symm, HK2.out⟩
end Go.Proofs.YteabfjpajgakiaeGreat

/- node.Run. -/
set_option linter.unusedSimpArgs false
set_option linter.unusedVariables false
set_option maxRecDepth 10000
namespace Go.Proofs.YteabfjpajgakiaeGreat
open Go.RowKit

def runFrom (l : Lg) (s : St) : St := if s.at_ < l.base.at_ then l.base else s
def runLo (l : Lg) (s : St) : Nat := ((runFrom l s).at_ - l.base.at_).toNat
def runCnt (l : Lg) (s : St) (n : Int) : Nat := min n.toNat (l.tail.length - runLo l s)
def runL (l : Lg) (s : St) (n : Int) : List Ent := (l.tail.drop (runLo l s)).take (runCnt l s n)
def runOut (l : Lg) (s : St) (n : Int) : St := if runErr l s n == 0 then runSt (runFrom l s) (runL l s n) else zeroSt
def runNum (l : Lg) (s : St) (n : Int) : Int := if runErr l s n == 0 then runCnt l s n else 0

theorem run_chk {l : Lg} {s : St} {n : Int} (h : runErr l s n = 0) : lgErr l = 0 ∧ stErr s = 0 ∧ (0 ≤ n ∧ n ≤ 50) ∧ fitsB l s = true := by
  unfold runErr at h
  split at h
  · rename_i h1
    split at h
    · rename_i h2
      split at h
      · rename_i h3
        have := node_right (by simpa using h1)
        exact ⟨this.1, this.2, inB_iff.1 h2, h3⟩
      · cases h
    · cases h
  · rename_i h1
    simp [h] at h1

theorem fold_mk {t : St} {M : List Ent} (a : stErr t = 0) (b : ∀ e ∈ M, entErr e = 0) (c : t.at_ + M.length ≤ 50) : foldErr t M = 0 := by
  have hb := (stErr_bounds a).1
  have hl : listErr M = 0 := by unfold listErr; rw [if_neg (by omega)]; exact fent_zero.2 b
  simp only [foldErr, a, hl, beq_self_eq_true, if_true]
  rw [if_neg (by omega)]

theorem fits_at {l : Lg} {s : St} (hl : lgErr l = 0) (hs : stErr s = 0) (hf : fitsB l s = true) : stErr (runFrom l s) = 0 ∧ (runFrom l s).at_ - l.base.at_ = runLo l s ∧ runLo l s ≤ l.tail.length ∧ l.base.at_ + l.tail.length ≤ 50 := by
  obtain ⟨h1, h2, h3⟩ := fold_right hl
  unfold fitsB at hf
  unfold runLo runFrom
  split at hf
  · rename_i h
    rw [if_pos h]
    refine ⟨h1, by omega, by omega, h3⟩
  · rename_i h
    split at hf
    · cases hf
    · rename_i h'
      rw [if_neg h]
      exact ⟨hs, by omega, by omega, h3⟩

theorem run_fold {l : Lg} {s : St} {n : Int} (h : runErr l s n = 0) : foldErr (runFrom l s) (runL l s n) = 0 ∧ (runFrom l s).at_ - l.base.at_ = runLo l s ∧ runLo l s ≤ l.tail.length ∧ l.base.at_ + l.tail.length ≤ 50 := by
  obtain ⟨h1, h2, h3, h4⟩ := run_chk h
  obtain ⟨g1, g2, g3, g4⟩ := fits_at h1 h2 h4
  obtain ⟨f1, f2, f3⟩ := fold_right h1
  refine ⟨fold_mk g1 (fun e he => f2 e (List.mem_of_mem_drop (List.mem_of_mem_take he))) ?_, g2, g3, g4⟩
  have : (runL l s n).length ≤ l.tail.length - runLo l s := by unfold runL; simp; omega
  omega

set_option maxHeartbeats 4000000 in
theorem node_run (l : Lg) (s : St) (n : Int) (x y : Value) (ta : Option Addr) (tc : Nat) (w : World) (hT : TabAt w x l.base.tab) (hL : EntsAt w (.slice ta l.tail.length tc) l.tail) (hY : TabAt w y s.tab) (hcap : l.tail.length ≤ tc) : Calls Tryz.prog 7 #[lgV l x (.slice ta l.tail.length tc), stV s y, .int .i64 n] w fun e w' => ∃ qa qc, OwnTab w.heap.size w' (.slice qa (runOut l s n).tab.length qc) (runOut l s n).tab ∧ e = .returned (.tuple #[stV (runOut l s n) (.slice qa (runOut l s n).tab.length qc), .int .i64 (runNum l s n), .int .i64 (runErr l s n)]) ∧ Keeps w w' := by
  obtain ⟨xa, xc, rfl, _⟩ := hT.len
  obtain ⟨ya, yc, rfl, _⟩ := hY.len
  have HT : Hid (TabAt w (.slice xa l.base.tab.length xc) l.base.tab) := hT
  have HL : Hid (EntsAt w (.slice ta l.tail.length tc) l.tail) := hL
  have HY : Hid (TabAt w (.slice ya s.tab.length yc) s.tab) := hY
  have hlen := hL.2.1
  unfold maxLen at hlen
  clear hT hL hY
  have HOZ : Hid ((runErr l s n == 0) = false → runOut l s n = zeroSt ∧ runNum l s n = 0) := fun h => ⟨by unfold runOut; rw [h]; rfl, by unfold runNum; rw [h]; rfl⟩
  have HON : Hid (runErr l s n = 0 → runOut l s n = runSt (runFrom l s) (runL l s n)) := fun h => by unfold runOut; rw [h]; rfl
  have HNN : Hid (runErr l s n = 0 → runNum l s n = runCnt l s n) := fun h => by unfold runNum; rw [h]; rfl
  have HZT : Hid (zeroSt.tab = []) := rfl
  go_enter Tryz.func7, Tryz.ntmps7
  go_wp2_with fail
  obtain ⟨W1, hW1⟩ : ∃ W1, W1 = ((w.alloc (.cells #[.int .i64 l.base.at_, .int .i64 l.base.clock, .int .i64 l.base.v0, .int .i64 l.base.v1, .int .i64 l.base.v2, .int .i64 l.base.v3, .slice xa l.base.tab.length xc, .slice ta l.tail.length tc] 28)).alloc (.cells #[.int .i64 s.at_, .int .i64 s.clock, .int .i64 s.v0, .int .i64 s.v1, .int .i64 s.v2, .int .i64 s.v3, .slice ya s.tab.length yc] 25)).alloc (.cells #[.int .i64 0, .int .i64 0, .int .i64 0, .int .i64 0, .int .i64 0, .int .i64 0, .slice none 0 0] 25) := ⟨_, rfl⟩
  have k1 : Keeps w W1 := by rw [hW1]; exact (((Keeps.refl _).alloc _).alloc _).alloc _
  have B1 : LgBox w.heap.size l (.slice xa l.base.tab.length xc) (.slice ta l.tail.length tc) W1 := by rw [hW1]; exact (LgBox.new w l _ _ rfl rfl 28).keep (((Keeps.refl _).alloc _).alloc _)
  have C1 : StBox (w.heap.size + 1) s (.slice ya s.tab.length yc) W1 := by
    rw [hW1]
    have := (StBox.new (w.alloc (.cells #[.int .i64 l.base.at_, .int .i64 l.base.clock, .int .i64 l.base.v0, .int .i64 l.base.v1, .int .i64 l.base.v2, .int .i64 l.base.v3, .slice xa l.base.tab.length xc, .slice ta l.tail.length tc] 28)) s (.slice ya s.tab.length yc) 25).keep ((Keeps.refl _).alloc (.cells #[.int .i64 0, .int .i64 0, .int .i64 0, .int .i64 0, .int .i64 0, .int .i64 0, .slice none 0 0] 25))
    simp only [World.size_alloc] at this
    exact this
  have Z1 : StBox (w.heap.size + 2) zeroSt (.slice none 0 0) W1 := by
    rw [hW1]
    have := StBox.new ((w.alloc (.cells #[.int .i64 l.base.at_, .int .i64 l.base.clock, .int .i64 l.base.v0, .int .i64 l.base.v1, .int .i64 l.base.v2, .int .i64 l.base.v3, .slice xa l.base.tab.length xc, .slice ta l.tail.length tc] 28)).alloc (.cells #[.int .i64 s.at_, .int .i64 s.clock, .int .i64 s.v0, .int .i64 s.v1, .int .i64 s.v2, .int .i64 s.v3, .slice ya s.tab.length yc] 25)) zeroSt (.slice none 0 0) 25
    simp only [World.size_alloc] at this
    exact this
  rw [← hW1]
  clear hW1
  have Z2 : StBox (w.heap.size + 1 + 1) zeroSt (.slice none 0 0) W1 := Z1
  clear Z1
  obtain ⟨zb, hzb⟩ : ∃ zb, zb = w.heap.size + 1 + 1 := ⟨_, rfl⟩
  rw [← hzb] at Z2 ⊢
  have HZB : Hid (zb = w.heap.size + 1 + 1) := hzb
  clear hzb
  refine (node_check_run l s n _ _ ta tc W1 (HT.out.keep k1) (HL.out.keep k1) (HY.out.keep k1) hcap).mono ?_
  rintro e w1 ⟨rfl, hb⟩
  have HK1 : Hid (Keeps w w1) := k1.trans hb
  have HB1 := (show Hid _ from B1.keep hb)
  have HC1 := (show Hid _ from C1.keep hb)
  have HZ1 := (show Hid _ from Z2.keep hb)
  clear k1 B1 C1 Z2 hb
  clear W1
  cases q1 : (runErr l s n == 0) with
  | false =>
    have q1' : (runErr l s n != 0) = true := by simp [bne, q1]
    have H1 := (show Hid _ from HOZ.out q1)
    have z0 := HZ1.out.c0
    have z1 := HZ1.out.c1
    have z2 := HZ1.out.c2
    have z3 := HZ1.out.c3
    have z4 := HZ1.out.c4
    have z5 := HZ1.out.c5
    have z6 := HZ1.out.c6
    have zf := HZ1.out.fz
    have zl := HZ1.out.lt
    have hk := HK1.out
    go_wp2_with fail
    refine bodyPost_ret (v := .tuple #[stV zeroSt (.slice none 0 0), .int .i64 0, .int .i64 (runErr l s n)]) ?_ rfl ?_
    · simp [results, Tryz.results7, go_sem, zeroSt, z0, z1, z2, z3, z4, z5, z6]
    · rw [H1.out.1, H1.out.2, HZT.out]
      have hzz := HZB.out
      refine ⟨none, 0, OwnTab.nil _ _, rfl, ?_⟩
      repeat refine Keeps.set ?_ (by simp <;> omega) _
      exact hk
  | true =>
    have q1' : (runErr l s n != 0) = false := by simp [bne, q1]
    have q0 : runErr l s n = 0 := by simpa using q1
    have hch := run_chk q0
    obtain ⟨m, rfl⟩ : ∃ m : Nat, n = m := ⟨n.toNat, by omega⟩
    have hm50 : m ≤ 50 := by omega
    have HR0 : Hid (runErr l s m = 0) := q0
    obtain ⟨⟨sa0, sa1⟩, _⟩ := stErr_bounds hch.2.1
    obtain ⟨⟨la0, la1⟩, _⟩ := stErr_bounds (fold_right hch.1).1
    clear hch q0
    have b0 := HB1.out.c0
    have b1 := HB1.out.c1
    have b2 := HB1.out.c2
    have b3 := HB1.out.c3
    have b4 := HB1.out.c4
    have b5 := HB1.out.c5
    have b6 := HB1.out.c6
    have b7 := HB1.out.c7
    have bl := HB1.out.lt
    have c0 := HC1.out.c0
    have c1 := HC1.out.c1
    have c2 := HC1.out.c2
    have c3 := HC1.out.c3
    have c4 := HC1.out.c4
    have c5 := HC1.out.c5
    have c6 := HC1.out.c6
    have cl := HC1.out.lt
    go_wp2_with fail
    refine (node_behind l s _ _ _ w1 rfl rfl rfl).mono ?_
    rintro e w2 ⟨rfl, hb⟩
    have HK2 : Hid (Keeps w w2) := HK1.out.trans hb
    have HB2 := (show Hid _ from HB1.out.keep hb)
    have HC2 := (show Hid _ from HC1.out.keep hb)
    have HZ2 := (show Hid _ from HZ1.out.keep hb)
    clear hb HB1 HC1 HZ1 HK1 b0 b1 b2 b3 b4 b5 b6 b7 bl c0 c1 c2 c3 c4 c5 c6 cl
    clear w1
    by_cases h1 : s.at_ < l.base.at_
    · have hd : decide (s.at_ < l.base.at_) = true := by simpa using h1
      have hfrom : runFrom l s = l.base := by unfold runFrom; rw [if_pos h1]
      rw [hd]
      have b0 := HB2.out.c0
      have b1 := HB2.out.c1
      have b2 := HB2.out.c2
      have b3 := HB2.out.c3
      have b4 := HB2.out.c4
      have b5 := HB2.out.c5
      have b6 := HB2.out.c6
      have b7 := HB2.out.c7
      have bl := HB2.out.lt
      have c0 := HC2.out.c0
      have c1 := HC2.out.c1
      have c2 := HC2.out.c2
      have c3 := HC2.out.c3
      have c4 := HC2.out.c4
      have c5 := HC2.out.c5
      have c6 := HC2.out.c6
      have cl := HC2.out.lt
      have cf := HC2.out.fz
      have HD3 := (show Hid _ from HC2.out.put l.base (.slice xa l.base.tab.length xc))
      have HBT := (show Hid _ from But.puts (b := w.heap.size + 1) w2 l.base (.slice xa l.base.tab.length xc))
      have HTT : Hid (TabAt w (.slice xa l.base.tab.length xc) l.base.tab) := HT.out
      obtain ⟨lo, hlo⟩ : ∃ lo : Nat, lo = runLo l s := ⟨_, rfl⟩
      obtain ⟨hf0, hf1, hf2, hf3⟩ := run_fold HR0.out
      have hls : l.base.at_ - l.base.at_ = (lo : Int) := by rw [hlo, ← hf1, hfrom]
      have hll : lo ≤ l.tail.length := by omega
      have hll' : (lo : Int) ≤ (l.tail.length : Int) := by omega
      have hlc : (lo : Int) ≤ (tc : Int) := by omega
      obtain ⟨k, hk'⟩ : ∃ k : Nat, k = min m (l.tail.length - lo) := ⟨_, rfl⟩
      have hkl : k ≤ l.tail.length - lo := by omega
      obtain ⟨r, hr'⟩ : ∃ r, r = runSt l.base ((l.tail.drop lo).take k) := ⟨_, rfl⟩
      obtain ⟨rn, hrn⟩ : ∃ rn, rn = runAns l.base ((l.tail.drop lo).take k) := ⟨_, rfl⟩
      have hcnt : runCnt l s m = k := by unfold runCnt; rw [← hlo, hk']; simp
      have HOUT : Hid (runOut l s m = r) := by
        show _ = _
        rw [HON.out HR0.out]
        unfold runL
        rw [hcnt, ← hlo, hfrom, hr']
      have HNUM : Hid (runNum l s m = k) := by show _ = _; rw [HNN.out HR0.out, hcnt]
      have h0 : foldErr l.base ((l.tail.drop lo).take k) = 0 := by
        have := hf0
        unfold runL at this
        rw [hcnt, ← hlo, hfrom] at this
        exact this
      have HCG : Hid (∀ W, Keeps w W → Calls Tryz.prog 20 #[stV l.base (.slice xa l.base.tab.length xc), .slice (if tc = lo then ta else Option.map (fun x : Addr => x.add (lo * 9)) ta) k (tc - lo)] W fun y w' => ∃ qa qc ra rc, Hid (OwnTab W.heap.size w' (.slice qa r.tab.length qc) r.tab) ∧ Hid (w'.ownsRow W.heap.size 3 1 (.slice ra rn.length rc) rn.length (intCells rn)) ∧ y = .returned (.tuple #[stV r (.slice qa r.tab.length qc), .slice ra rn.length rc, .int .i64 0]) ∧ Keeps W w') := by
        intro W hk
        have h1 := ents_suffix (HL.out.keep hk) hll hcap
        have e1 : l.tail.length - lo = (l.tail.drop lo).length := by simp
        rw [e1] at h1
        rw [hr', hrn]
        exact all_ok h0 _ _ W (HTT.out.keep hk) (ents_prefix h1 (by rw [← e1]; exact hkl))
      have hz9 : ∀ w, (Go.sizeOf 43).run Tryz.prog w = .ok 9 w := fun _ => by kernel_rfl
      have hlo0 : lo = 0 := by omega
      subst hlo0
      have hm3 : min (m : Int) (l.tail.length : Int) = (k : Int) := by omega
      have hkk2 : (k : Int) ≤ (l.tail.length : Int) := by omega
      have hkc1 : (k : Int) ≤ (tc : Int) := by omega
      clear hr' hrn hcnt hf0 hf1 hf2 hf3 hfrom hlo h0 hk' hls hll hll' hlc
      have HC : Hid (∀ W, Keeps w W → Calls Tryz.prog 20 #[stV l.base (.slice xa l.base.tab.length xc), .slice ta k tc] W fun y w' => ∃ qa qc ra rc, Hid (OwnTab W.heap.size w' (.slice qa r.tab.length qc) r.tab) ∧ Hid (w'.ownsRow W.heap.size 3 1 (.slice ra rn.length rc) rn.length (intCells rn)) ∧ y = .returned (.tuple #[stV r (.slice qa r.tab.length qc), .slice ra rn.length rc, .int .i64 0]) ∧ Keeps W w') := by
        have := HCG.out
        have e1 : (if tc = 0 then ta else Option.map (fun x : Addr => x.add (0 * 9)) ta) = ta := by
          split
          · rfl
          · cases ta <;> simp [Addr.add]
        rw [e1, Nat.sub_zero] at this
        exact this
      clear HCG
      go_wp2_with fail
      obtain ⟨W2, hW2⟩ : ∃ z, z = (((((((w2.setCell ⟨w.heap.size + 1, 0, none⟩ (.int .i64 l.base.at_)).setCell ⟨w.heap.size + 1, 1, none⟩ (.int .i64 l.base.clock)).setCell ⟨w.heap.size + 1, 2, none⟩ (.int .i64 l.base.v0)).setCell ⟨w.heap.size + 1, 3, none⟩ (.int .i64 l.base.v1)).setCell ⟨w.heap.size + 1, 4, none⟩ (.int .i64 l.base.v2)).setCell ⟨w.heap.size + 1, 5, none⟩ (.int .i64 l.base.v3)).setCell ⟨w.heap.size + 1, 6, none⟩ (.slice xa l.base.tab.length xc)) := ⟨_, rfl⟩
      have HK3 : Hid (Keeps w W2) := by rw [hW2]; exact But.to HK2.out (by omega) HBT.out
      have HZ3 : Hid (StBox zb zeroSt (.slice none 0 0) W2) := by rw [hW2]; exact HZ2.out.other HBT.out (by have := HZB.out; omega)
      rw [← hW2]
      clear hW2 HBT HD3
      refine (HC.out W2 HK3.out).mono ?_
      rintro y w3 ⟨qa, qc, ra, rc, HO, _, rfl, hb⟩
      have HZ4 : Hid (StBox zb zeroSt (.slice none 0 0) w3) := HZ3.out.keep hb
      have HK4 : Hid (Keeps w w3) := HK3.out.trans hb
      have hsz := HZ3.out.lt
      clear hb HZ3 HC b0 b1 b2 b3 b4 b5 b6 b7 bl c0 c1 c2 c3 c4 c5 c6 cl cf
      have z0 := HZ4.out.c0
      have z1 := HZ4.out.c1
      have z2 := HZ4.out.c2
      have z3 := HZ4.out.c3
      have z4 := HZ4.out.c4
      have z5 := HZ4.out.c5
      have z6 := HZ4.out.c6
      have zf := HZ4.out.fz
      have zl := HZ4.out.lt
      have hzz := HZB.out
      have HBT := (show Hid _ from But.puts (b := zb) w3 r (.slice qa r.tab.length qc))
      have HBF := (show Hid _ from (HZ4.out.put r (.slice qa r.tab.length qc)).keep ((Keeps.refl _).alloc (.cells #[.int .i64 r.at_, .int .i64 r.clock, .int .i64 r.v0, .int .i64 r.v1, .int .i64 r.v2, .int .i64 r.v3, .slice qa r.tab.length qc] 25)))
      have HOF := (show Hid _ from ((HO.out.but (by omega) HBT.out).base (by omega : w.heap.size ≤ _)).keep ((Keeps.refl _).alloc (.cells #[.int .i64 r.at_, .int .i64 r.clock, .int .i64 r.v0, .int .i64 r.v1, .int .i64 r.v2, .int .i64 r.v3, .slice qa r.tab.length qc] 25)))
      have HKF := (show Hid _ from (But.to HK4.out (by omega) HBT.out).alloc (.cells #[.int .i64 r.at_, .int .i64 r.clock, .int .i64 r.v0, .int .i64 r.v1, .int .i64 r.v2, .int .i64 r.v3, .slice qa r.tab.length qc] 25))
      clear hzz hsz
      go_wp2_with fail
      have c0 := HBF.out.c0
      have c1 := HBF.out.c1
      have c2 := HBF.out.c2
      have c3 := HBF.out.c3
      have c4 := HBF.out.c4
      have c5 := HBF.out.c5
      have c6 := HBF.out.c6
      refine bodyPost_ret (v := .tuple #[stV r (.slice qa r.tab.length qc), .int .i64 k, .int .i64 0]) ?_ rfl ?_
      · simp only [results, Tryz.results7, go_sem, c0, c1, c2, c3, c4, c5, c6]
        simp [go_sem, c0, c1, c2, c3, c4, c5, c6]
      · rw [HOUT.out, HNUM.out, HR0.out]
        exact ⟨qa, qc, HOF.out, rfl, HKF.out⟩
    · have hd : decide (s.at_ < l.base.at_) = false := by simpa using h1
      have hfrom : runFrom l s = s := by unfold runFrom; rw [if_neg h1]
      rw [hd]
      have HTT : Hid (TabAt w (.slice ya s.tab.length yc) s.tab) := HY.out
      obtain ⟨W2, hW2⟩ : ∃ z, z = w2 := ⟨_, rfl⟩
      rw [← hW2] at HK2 HB2 HC2 HZ2 ⊢
      clear hW2 w2
      obtain ⟨lo, hlo⟩ : ∃ lo : Nat, lo = runLo l s := ⟨_, rfl⟩
      obtain ⟨hf0, hf1, hf2, hf3⟩ := run_fold HR0.out
      have hls : s.at_ - l.base.at_ = (lo : Int) := by rw [hlo, ← hf1, hfrom]
      have hll : lo ≤ l.tail.length := by omega
      have hll' : (lo : Int) ≤ (l.tail.length : Int) := by omega
      have hlc : (lo : Int) ≤ (tc : Int) := by omega
      obtain ⟨k, hk'⟩ : ∃ k : Nat, k = min m (l.tail.length - lo) := ⟨_, rfl⟩
      have hkl : k ≤ l.tail.length - lo := by omega
      obtain ⟨r, hr'⟩ : ∃ r, r = runSt s ((l.tail.drop lo).take k) := ⟨_, rfl⟩
      obtain ⟨rn, hrn⟩ : ∃ rn, rn = runAns s ((l.tail.drop lo).take k) := ⟨_, rfl⟩
      have hcnt : runCnt l s m = k := by unfold runCnt; rw [← hlo, hk']; simp
      have HOUT : Hid (runOut l s m = r) := by
        show _ = _
        rw [HON.out HR0.out]
        unfold runL
        rw [hcnt, ← hlo, hfrom, hr']
      have HNUM : Hid (runNum l s m = k) := by show _ = _; rw [HNN.out HR0.out, hcnt]
      have h0 : foldErr s ((l.tail.drop lo).take k) = 0 := by
        have := hf0
        unfold runL at this
        rw [hcnt, ← hlo, hfrom] at this
        exact this
      have HCG : Hid (∀ W, Keeps w W → Calls Tryz.prog 20 #[stV s (.slice ya s.tab.length yc), .slice (if tc = lo then ta else Option.map (fun x : Addr => x.add (lo * 9)) ta) k (tc - lo)] W fun y w' => ∃ qa qc ra rc, Hid (OwnTab W.heap.size w' (.slice qa r.tab.length qc) r.tab) ∧ Hid (w'.ownsRow W.heap.size 3 1 (.slice ra rn.length rc) rn.length (intCells rn)) ∧ y = .returned (.tuple #[stV r (.slice qa r.tab.length qc), .slice ra rn.length rc, .int .i64 0]) ∧ Keeps W w') := by
        intro W hk
        have h1 := ents_suffix (HL.out.keep hk) hll hcap
        have e1 : l.tail.length - lo = (l.tail.drop lo).length := by simp
        rw [e1] at h1
        rw [hr', hrn]
        exact all_ok h0 _ _ W (HTT.out.keep hk) (ents_prefix h1 (by rw [← e1]; exact hkl))
      have hz9 : ∀ w, (Go.sizeOf 43).run Tryz.prog w = .ok 9 w := fun _ => by kernel_rfl
      have hm3 : min (m : Int) ((l.tail.length - lo : Nat) : Int) = (k : Int) := by omega
      have hkk2 : (k : Int) ≤ ((l.tail.length - lo : Nat) : Int) := by omega
      have hkc1 : (k : Int) ≤ ((tc - lo : Nat) : Int) := by omega
      clear hr' hrn hcnt hf0 hf1 hf2 hf3 hfrom hlo h0 hk'
      have b0 := HB2.out.c0
      have b7 := HB2.out.c7
      have bl := HB2.out.lt
      have c0 := HC2.out.c0
      have c1 := HC2.out.c1
      have c2 := HC2.out.c2
      have c3 := HC2.out.c3
      have c4 := HC2.out.c4
      have c5 := HC2.out.c5
      have c6 := HC2.out.c6
      have cl := HC2.out.lt
      have HK3 : Hid (Keeps w W2) := HK2.out
      have HZ3 := (show Hid _ from HZ2.out)
      clear HK2 HZ2
      by_cases hcl : tc = lo
      · have hk0 : k = 0 := by omega
        subst hk0
        subst hcl
        have hm4 : min (m : Int) 0 = 0 := by omega
        have HC : Hid (∀ W, Keeps w W → Calls Tryz.prog 20 #[stV s (.slice ya s.tab.length yc), .slice ta 0 0] W fun y w' => ∃ qa qc ra rc, Hid (OwnTab W.heap.size w' (.slice qa r.tab.length qc) r.tab) ∧ Hid (w'.ownsRow W.heap.size 3 1 (.slice ra rn.length rc) rn.length (intCells rn)) ∧ y = .returned (.tuple #[stV r (.slice qa r.tab.length qc), .slice ra rn.length rc, .int .i64 0]) ∧ Keeps W w') := by
          have := HCG.out
          simp only [if_true, Nat.sub_self] at this
          exact this
        clear HCG
        go_wp2_with fail
        refine (HC.out W2 HK3.out).mono ?_
        rintro y w3 ⟨qa, qc, ra, rc, HO, _, rfl, hb⟩
        have HZ4 : Hid (StBox zb zeroSt (.slice none 0 0) w3) := HZ3.out.keep hb
        have HK4 : Hid (Keeps w w3) := HK3.out.trans hb
        have hsz := HZ3.out.lt
        clear hb HZ3 HC b0 b7 bl c0 c1 c2 c3 c4 c5 c6 cl
        have z0 := HZ4.out.c0
        have z1 := HZ4.out.c1
        have z2 := HZ4.out.c2
        have z3 := HZ4.out.c3
        have z4 := HZ4.out.c4
        have z5 := HZ4.out.c5
        have z6 := HZ4.out.c6
        have zf := HZ4.out.fz
        have zl := HZ4.out.lt
        have hzz := HZB.out
        have HBT := (show Hid _ from But.puts (b := zb) w3 r (.slice qa r.tab.length qc))
        have HBF := (show Hid _ from (HZ4.out.put r (.slice qa r.tab.length qc)).keep ((Keeps.refl _).alloc (.cells #[.int .i64 r.at_, .int .i64 r.clock, .int .i64 r.v0, .int .i64 r.v1, .int .i64 r.v2, .int .i64 r.v3, .slice qa r.tab.length qc] 25)))
        have HOF := (show Hid _ from ((HO.out.but (by omega) HBT.out).base (by omega : w.heap.size ≤ _)).keep ((Keeps.refl _).alloc (.cells #[.int .i64 r.at_, .int .i64 r.clock, .int .i64 r.v0, .int .i64 r.v1, .int .i64 r.v2, .int .i64 r.v3, .slice qa r.tab.length qc] 25)))
        have HKF := (show Hid _ from (But.to HK4.out (by omega) HBT.out).alloc (.cells #[.int .i64 r.at_, .int .i64 r.clock, .int .i64 r.v0, .int .i64 r.v1, .int .i64 r.v2, .int .i64 r.v3, .slice qa r.tab.length qc] 25))
        clear hzz hsz
        go_wp2_with fail
        have c0 := HBF.out.c0
        have c1 := HBF.out.c1
        have c2 := HBF.out.c2
        have c3 := HBF.out.c3
        have c4 := HBF.out.c4
        have c5 := HBF.out.c5
        have c6 := HBF.out.c6
        refine bodyPost_ret (v := .tuple #[stV r (.slice qa r.tab.length qc), .int .i64 0, .int .i64 0]) ?_ rfl ?_
        · simp only [results, Tryz.results7, go_sem, c0, c1, c2, c3, c4, c5, c6]
          simp [go_sem, c0, c1, c2, c3, c4, c5, c6]
        · rw [HOUT.out, HNUM.out, HR0.out]
          exact ⟨qa, qc, HOF.out, rfl, HKF.out⟩
      · have hcl2 : ¬ (tc : Int) = (lo : Int) := by omega
        have HC : Hid (∀ W, Keeps w W → Calls Tryz.prog 20 #[stV s (.slice ya s.tab.length yc), .slice (Option.map (fun x : Addr => x.add (lo * 9)) ta) k (tc - lo)] W fun y w' => ∃ qa qc ra rc, Hid (OwnTab W.heap.size w' (.slice qa r.tab.length qc) r.tab) ∧ Hid (w'.ownsRow W.heap.size 3 1 (.slice ra rn.length rc) rn.length (intCells rn)) ∧ y = .returned (.tuple #[stV r (.slice qa r.tab.length qc), .slice ra rn.length rc, .int .i64 0]) ∧ Keeps W w') := by
          have := HCG.out
          simp only [if_neg hcl] at this
          exact this
        clear HCG
        go_wp2_with fail
        refine (HC.out W2 HK3.out).mono ?_
        rintro y w3 ⟨qa, qc, ra, rc, HO, _, rfl, hb⟩
        have HZ4 : Hid (StBox zb zeroSt (.slice none 0 0) w3) := HZ3.out.keep hb
        have HK4 : Hid (Keeps w w3) := HK3.out.trans hb
        have hsz := HZ3.out.lt
        clear hb HZ3 HC b0 b7 bl c0 c1 c2 c3 c4 c5 c6 cl
        have z0 := HZ4.out.c0
        have z1 := HZ4.out.c1
        have z2 := HZ4.out.c2
        have z3 := HZ4.out.c3
        have z4 := HZ4.out.c4
        have z5 := HZ4.out.c5
        have z6 := HZ4.out.c6
        have zf := HZ4.out.fz
        have zl := HZ4.out.lt
        have hzz := HZB.out
        have HBT := (show Hid _ from But.puts (b := zb) w3 r (.slice qa r.tab.length qc))
        have HBF := (show Hid _ from (HZ4.out.put r (.slice qa r.tab.length qc)).keep ((Keeps.refl _).alloc (.cells #[.int .i64 r.at_, .int .i64 r.clock, .int .i64 r.v0, .int .i64 r.v1, .int .i64 r.v2, .int .i64 r.v3, .slice qa r.tab.length qc] 25)))
        have HOF := (show Hid _ from ((HO.out.but (by omega) HBT.out).base (by omega : w.heap.size ≤ _)).keep ((Keeps.refl _).alloc (.cells #[.int .i64 r.at_, .int .i64 r.clock, .int .i64 r.v0, .int .i64 r.v1, .int .i64 r.v2, .int .i64 r.v3, .slice qa r.tab.length qc] 25)))
        have HKF := (show Hid _ from (But.to HK4.out (by omega) HBT.out).alloc (.cells #[.int .i64 r.at_, .int .i64 r.clock, .int .i64 r.v0, .int .i64 r.v1, .int .i64 r.v2, .int .i64 r.v3, .slice qa r.tab.length qc] 25))
        clear hzz hsz
        go_wp2_with fail
        have c0 := HBF.out.c0
        have c1 := HBF.out.c1
        have c2 := HBF.out.c2
        have c3 := HBF.out.c3
        have c4 := HBF.out.c4
        have c5 := HBF.out.c5
        have c6 := HBF.out.c6
        refine bodyPost_ret (v := .tuple #[stV r (.slice qa r.tab.length qc), .int .i64 k, .int .i64 0]) ?_ rfl ?_
        · simp only [results, Tryz.results7, go_sem, c0, c1, c2, c3, c4, c5, c6]
          simp [go_sem, c0, c1, c2, c3, c4, c5, c6]
        · rw [HOUT.out, HNUM.out, HR0.out]
          exact ⟨qa, qc, HOF.out, rfl, HKF.out⟩
end Go.Proofs.YteabfjpajgakiaeGreat

/- CutOf, with the room of its tail. -/
set_option linter.unusedSimpArgs false
set_option linter.unusedVariables false
set_option maxRecDepth 10000
namespace Go.Proofs.YteabfjpajgakiaeGreat
open Go.RowKit

set_option maxHeartbeats 4000000 in
theorem cut_of_cap (l : Lg) (m : Int) (x : Value) (ta : Option Addr) (tc : Nat) (w : World) (hT : TabAt w x l.base.tab) (hL : EntsAt w (.slice ta l.tail.length tc) l.tail) (hcap : l.tail.length ≤ tc) :
    Calls Tryz.prog 25 #[lgV l x (.slice ta l.tail.length tc), .int .i64 m] w fun y w' => ∃ qa qc ea ec, OwnTab w.heap.size w' (.slice qa (cutLg l m).base.tab.length qc) (cutLg l m).base.tab ∧ EntsAt w' (.slice ea (cutLg l m).tail.length ec) (cutLg l m).tail ∧ (cutLg l m).tail.length ≤ ec ∧
      y = .returned (.tuple #[lgV (cutLg l m) (.slice qa (cutLg l m).base.tab.length qc) (.slice ea (cutLg l m).tail.length ec), .int .i64 (cutErr l m)]) ∧ Keeps w w' := by
  obtain ⟨xa, xc, rfl, _⟩ := hT.len
  have HT : Hid (TabAt w (.slice xa l.base.tab.length xc) l.base.tab) := hT
  have HL : Hid (EntsAt w (.slice ta l.tail.length tc) l.tail) := hL
  have hlen := hL.2.1
  unfold maxLen at hlen
  clear hT hL
  have HE : Hid (cutErr l m = if lgErr l == 0 then (if inB m 0 l.tail.length then 0 else 3) else lgErr l) := rfl
  have HCZ : Hid ((cutErr l m == 0) = false → cutLg l m = zeroLg) := fun h => by unfold cutLg; rw [h]; rfl
  have HCN : Hid (cutErr l m = 0 → cutLg l m = ⟨runSt l.base (l.tail.take m.toNat), l.tail.drop m.toNat⟩) := fun h => by unfold cutLg; rw [h]; rfl
  have hz9 : ∀ w, (Go.sizeOf 43).run Tryz.prog w = .ok 9 w := fun _ => by kernel_rfl
  have HEN : Hid (∀ w, EntsAt w (.slice none 0 0) []) := fun w => ⟨rfl, by unfold maxLen; simp, .inl ⟨rfl, rfl⟩⟩
  go_enter Tryz.func25, Tryz.ntmps25
  go_wp2_with fail
  obtain ⟨W1, hW1⟩ : ∃ W1, W1 = (w.alloc (.cells #[.int .i64 l.base.at_, .int .i64 l.base.clock, .int .i64 l.base.v0, .int .i64 l.base.v1, .int .i64 l.base.v2, .int .i64 l.base.v3, .slice xa l.base.tab.length xc, .slice ta l.tail.length tc] 28)).alloc (.cells #[.int .i64 0, .int .i64 0, .int .i64 0, .int .i64 0, .int .i64 0, .int .i64 0, .slice none 0 0, .slice none 0 0] 28) := ⟨_, rfl⟩
  have k1 : Keeps w W1 := by rw [hW1]; exact ((Keeps.refl _).alloc _).alloc _
  have B1 : LgBox w.heap.size l (.slice xa l.base.tab.length xc) (.slice ta l.tail.length tc) W1 := by rw [hW1]; exact (LgBox.new w l _ _ rfl rfl 28).keep ((Keeps.refl _).alloc _)
  have Z1 : LgBox (w.heap.size + 1) zeroLg (.slice none 0 0) (.slice none 0 0) W1 := by
    rw [hW1]
    have := LgBox.new (w.alloc (.cells #[.int .i64 l.base.at_, .int .i64 l.base.clock, .int .i64 l.base.v0, .int .i64 l.base.v1, .int .i64 l.base.v2, .int .i64 l.base.v3, .slice xa l.base.tab.length xc, .slice ta l.tail.length tc] 28)) zeroLg (.slice none 0 0) (.slice none 0 0) rfl rfl 28
    simp only [World.size_alloc] at this
    exact this
  rw [← hW1]
  clear hW1
  refine (log_error l _ _ W1 (HT.out.keep k1) (HL.out.keep k1)).mono ?_
  rintro y w1 ⟨rfl, hb⟩
  have HK1 : Hid (Keeps w w1) := k1.trans hb
  have HB1 : Hid (LgBox w.heap.size l (.slice xa l.base.tab.length xc) (.slice ta l.tail.length tc) w1) := B1.keep hb
  have HZ1 : Hid (LgBox (w.heap.size + 1) zeroLg (.slice none 0 0) (.slice none 0 0) w1) := Z1.keep hb
  have HZ5 : Hid (w.heap.size + 1 < w1.heap.size) := HZ1.out.lt
  clear k1 B1 Z1 hb
  clear W1
  cases q1 : (lgErr l == 0) with
  | false =>
    have q1' : (lgErr l != 0) = true := by simp [bne, q1]
    have HE2 : Hid (cutErr l m = lgErr l) := by show _ = _; rw [HE.out, q1]; rfl
    have H1 := (show Hid _ from HCZ.out (by rw [HE2.out]; exact q1))
    have z0 := HZ1.out.c0
    have z1 := HZ1.out.c1
    have z2 := HZ1.out.c2
    have z3 := HZ1.out.c3
    have z4 := HZ1.out.c4
    have z5 := HZ1.out.c5
    have z6 := HZ1.out.c6
    have z7 := HZ1.out.c7
    have zf := HZ1.out.fz
    have zl := HZ1.out.lt
    have hk := HK1.out
    go_wp2_with fail
    refine bodyPost_ret (v := .tuple #[lgV zeroLg (.slice none 0 0) (.slice none 0 0), .int .i64 (lgErr l)]) ?_ rfl ?_
    · simp [results, Tryz.results25, go_sem, zeroLg, zeroSt, z0, z1, z2, z3, z4, z5, z6, z7]
    · rw [HE2.out, H1.out]
      refine ⟨none, 0, none, 0, OwnTab.nil _ _, HEN.out _, Nat.le_refl _, rfl, ?_⟩
      repeat refine Keeps.set ?_ (by simp <;> omega) _
      exact hk
  | true =>
    have q1' : (lgErr l != 0) = false := by simp [bne, q1]
    have q0 : lgErr l = 0 := by simpa using q1
    have h50 : l.tail.length ≤ 50 := by have := fold_right q0; have := (stErr_bounds this.1).1; omega
    have b0 := HB1.out.c0
    have b1 := HB1.out.c1
    have b2 := HB1.out.c2
    have b3 := HB1.out.c3
    have b4 := HB1.out.c4
    have b5 := HB1.out.c5
    have b6 := HB1.out.c6
    have b7 := HB1.out.c7
    have bl := HB1.out.lt
    cases q2 : inB m 0 l.tail.length with
    | false =>
      have HE2 : Hid (cutErr l m = 3) := by show _ = _; rw [HE.out, q1, q2]; rfl
      have H1 := (show Hid _ from HCZ.out (by rw [HE2.out]; rfl))
      have z0 := HZ1.out.c0
      have z1 := HZ1.out.c1
      have z2 := HZ1.out.c2
      have z3 := HZ1.out.c3
      have z4 := HZ1.out.c4
      have z5 := HZ1.out.c5
      have z6 := HZ1.out.c6
      have z7 := HZ1.out.c7
      have zf := HZ1.out.fz
      have zl := HZ1.out.lt
      have hk := HK1.out
      go_wp2_with (first | (go_at_call 23; refine (within_c _ _ _ _).mono ?_; rintro x w' ⟨rfl, rfl⟩))
      refine bodyPost_ret (v := .tuple #[lgV zeroLg (.slice none 0 0) (.slice none 0 0), .int .i64 3]) ?_ rfl ?_
      · simp [results, Tryz.results25, go_sem, zeroLg, zeroSt, z0, z1, z2, z3, z4, z5, z6, z7]
      · rw [HE2.out, H1.out]
        refine ⟨none, 0, none, 0, OwnTab.nil _ _, HEN.out _, Nat.le_refl _, rfl, ?_⟩
        repeat refine Keeps.set ?_ (by simp <;> omega) _
        exact hk
    | true =>
      have hm := inB_iff.1 q2
      obtain ⟨n, rfl⟩ : ∃ n : Nat, m = n := ⟨m.toNat, by omega⟩
      have hn : n ≤ l.tail.length := by omega
      have hnl : (n : Int) ≤ (l.tail.length : Int) := by omega
      have hnc : (n : Int) ≤ (tc : Int) := by omega
      have HCE : Hid (cutErr l n = 0) := by show _ = _; rw [HE.out, q1, q2]; rfl
      obtain ⟨r, hr'⟩ : ∃ r, r = runSt l.base (l.tail.take n) := ⟨_, rfl⟩
      have HCL : Hid (cutLg l n = ⟨r, l.tail.drop n⟩) := by
        show _ = _
        rw [HCN.out HCE.out, hr']
        simp
      obtain ⟨sv, hsv⟩ : ∃ sv, sv = (if tc = n then ta else Option.map (fun x : Addr => x.add (n * 9)) ta) := ⟨_, rfl⟩
      have HSV : Hid (sv = (if tc = n then ta else Option.map (fun x : Addr => x.add (n * 9)) ta)) := hsv
      have hfr := fold_right (split_right q0 n).1
      have HC : Hid (∀ W, Keeps w1 W → Calls Tryz.prog 24 #[stV l.base (.slice xa l.base.tab.length xc), .slice ta n tc] W fun y w' => ∃ qa qc ra rc da dc, Hid (OwnTab W.heap.size w' (.slice qa r.tab.length qc) r.tab) ∧ y = .returned (.tuple #[stV r (.slice qa r.tab.length qc), .slice ra n rc, .slice da n dc]) ∧ Keeps W w') := by
        intro W hk
        rw [hr']
        refine (folded_c l.base (l.tail.take n) _ _ W (HT.out.keep (HK1.out.trans hk)) (ents_prefix (HL.out.keep (HK1.out.trans hk)) hn) hfr.1 hfr.2.1 hfr.2.2).mono ?_
        rintro y w' ⟨qa, qc, ra, rc, da, dc, h1, _, _, rfl, hb⟩
        have e1 : (l.tail.take n).length = n := by simp; omega
        rw [e1]
        exact ⟨qa, qc, ra, rc, da, dc, h1, rfl, hb⟩
      have HSX : Hid (∀ W, Keeps w1 W → RowAt W 9 (.slice sv (l.tail.length - n) (tc - n)) (l.tail.length - n) (entCells (l.tail.drop n))) := by
        intro W hk
        rw [hsv]
        have := ents_suffix (HL.out.keep (HK1.out.trans hk)) hn hcap
        unfold EntsAt at this
        simp only [List.length_drop] at this
        exact this
      have HSA : Hid (∀ W, Keeps w1 W → W.cell? ⟨w.heap.size, 0, none⟩ = some (.int .i64 l.base.at_) ∧ W.cell? ⟨w.heap.size, 1, none⟩ = some (.int .i64 l.base.clock) ∧ W.cell? ⟨w.heap.size, 2, none⟩ = some (.int .i64 l.base.v0) ∧ W.cell? ⟨w.heap.size, 3, none⟩ = some (.int .i64 l.base.v1) ∧ W.cell? ⟨w.heap.size, 4, none⟩ = some (.int .i64 l.base.v2) ∧ W.cell? ⟨w.heap.size, 5, none⟩ = some (.int .i64 l.base.v3) ∧ W.cell? ⟨w.heap.size, 6, none⟩ = some (.slice xa l.base.tab.length xc) ∧ W.cell? ⟨w.heap.size, 7, none⟩ = some (.slice ta l.tail.length tc)) := fun W hk => have B := HB1.out.keep hk; ⟨B.c0, B.c1, B.c2, B.c3, B.c4, B.c5, B.c6, B.c7⟩
      clear hr' hsv q0 HT HL hfr
      go_wp2_with (first | (go_at_call 23; refine (within_c _ _ _ _).mono ?_; rintro x w' ⟨rfl, rfl⟩))
      go_cut [7] (fun p wc => ∃ qb qa qc, p = .pointer (some ⟨qb, 0, none⟩) ∧ w1.heap.size ≤ qb ∧ StBox qb r (.slice qa r.tab.length qc) wc ∧ OwnTab w1.heap.size wc (.slice qa r.tab.length qc) r.tab ∧ Keeps w1 wc)
      case first =>
        obtain ⟨V0, hV0⟩ : ∃ z, z = w1.drew := ⟨_, rfl⟩
        have k0 : Keeps w1 V0 := by rw [hV0]; exact (Keeps.refl _).drew
        refine wp_region_held_drew (S := fun W => W.cell? ⟨w.heap.size, 0, none⟩ = some (.int .i64 l.base.at_) ∧ W.cell? ⟨w.heap.size, 1, none⟩ = some (.int .i64 l.base.clock) ∧ W.cell? ⟨w.heap.size, 2, none⟩ = some (.int .i64 l.base.v0) ∧ W.cell? ⟨w.heap.size, 3, none⟩ = some (.int .i64 l.base.v1) ∧ W.cell? ⟨w.heap.size, 4, none⟩ = some (.int .i64 l.base.v2) ∧ W.cell? ⟨w.heap.size, 5, none⟩ = some (.int .i64 l.base.v3) ∧ W.cell? ⟨w.heap.size, 6, none⟩ = some (.slice xa l.base.tab.length xc) ∧ W.cell? ⟨w.heap.size, 7, none⟩ = some (.slice ta l.tail.length tc)) (by kernel_rfl) (HSA.out _ (Keeps.refl _).drew) (fun hS => ?_)
        rw [← hV0] at hS ⊢
        clear hV0
        refine wpAnyH_take (i := 0) (v := .pointer (some ⟨w.heap.size, 0, none⟩)) rfl (by kernel_rfl) (by kernel_rfl) (by kernel_rfl) (fun _ _ _ h => h) (Or.inl ⟨by rfl, ?_⟩) hS ?_
        · intro w hS; go_simp
        refine wpAnyH_take (i := 1) (v := stV l.base (.slice xa l.base.tab.length xc)) rfl (by kernel_rfl) (by kernel_rfl) (by kernel_rfl) (fun _ _ _ h => h) (Or.inl ⟨by rfl, ?_⟩) hS ?_
        · intro w hS; go_simp
        refine wpAnyH_take (i := 2) (v := .pointer (some ⟨w.heap.size, 7, none⟩)) rfl (by kernel_rfl) (by kernel_rfl) (by kernel_rfl) (fun _ _ _ h => h) (Or.inl ⟨by rfl, ?_⟩) hS ?_
        · intro w hS; go_simp
        refine wpAnyH_take (i := 3) (v := .slice ta l.tail.length tc) rfl (by kernel_rfl) (by kernel_rfl) (by kernel_rfl) (fun _ _ _ h => h) (Or.inl ⟨by rfl, ?_⟩) hS ?_
        · intro w hS; go_simp
        refine wpAnyH_take (i := 4) (v := .int .i64 n) rfl (by kernel_rfl) (by kernel_rfl) (by kernel_rfl) (fun _ _ _ h => h) (Or.inl ⟨by rfl, ?_⟩) hS ?_
        · intro w hS; go_simp
        refine wpAnyH_take (i := 5) (v := .slice (if tc = 0 then ta else Option.map (fun x : Addr => x.add 0) ta) n tc) rfl (by kernel_rfl) (by kernel_rfl) (by kernel_rfl) (fun _ _ _ h => h) (Or.inl ⟨by rfl, ?_⟩) hS ?_
        · intro w hS; go_simp
        refine wpAnyH_ready (rs := [6, 11]) (by kernel_rfl) (by simp) ?_
        refine AllReadyH.cons rfl (fun K hK => ?_) (AllReadyH.cons rfl (fun K hK => ?_) (AllReadyH.nil))
        · go_simp
          refine (HC.out V0 k0).mono ?_
          rintro y V1 ⟨qa, qc, ra, rc, da, dc, HO1, rfl, hb⟩
          have k1 := k0.trans hb
          go_simp
          refine hK.out _ _ (HSA.out _ k1) (fun hS => ?_)
          clear hK K
          clear hb
          refine wpAnyH_take (i := 7) (v := .tuple #[stV r (.slice qa r.tab.length qc), .slice ra n rc, .slice da n dc]) rfl (by kernel_rfl) (by kernel_rfl) (by kernel_rfl) (fun _ _ _ h => h) (Or.inl ⟨by rfl, ?_⟩) hS ?_
          · intro w hS; go_simp
          refine wpAnyH_take (i := 8) (v := stV r (.slice qa r.tab.length qc)) rfl (by kernel_rfl) (by kernel_rfl) (by kernel_rfl) (fun _ _ _ h => h) (Or.inl ⟨by rfl, ?_⟩) hS ?_
          · intro w hS; go_simp
          refine wpAnyH_take (i := 9) (v := .slice ra n rc) rfl (by kernel_rfl) (by kernel_rfl) (by kernel_rfl) (fun _ _ _ h => h) (Or.inl ⟨by rfl, ?_⟩) hS ?_
          · intro w hS; go_simp
          refine wpAnyH_take (i := 10) (v := .slice da n dc) rfl (by kernel_rfl) (by kernel_rfl) (by kernel_rfl) (fun _ _ _ h => h) (Or.inl ⟨by rfl, ?_⟩) hS ?_
          · intro w hS; go_simp
          refine wpAnyH_ready (rs := [11]) (by kernel_rfl) (by simp) ?_
          refine AllReadyH.cons rfl (fun K hK => ?_) (AllReadyH.nil)
          go_simp
          have hb : Keeps V1 (V1.alloc (.cells #[.int .i64 0, .int .i64 0, .int .i64 0, .int .i64 0, .int .i64 0, .int .i64 0, .slice none 0 0] 25)) := (Keeps.refl _).alloc _
          have HQ2 : Hid (StBox V1.heap.size zeroSt (.slice none 0 0) (V1.alloc (.cells #[.int .i64 0, .int .i64 0, .int .i64 0, .int .i64 0, .int .i64 0, .int .i64 0, .slice none 0 0] 25))) := StBox.new V1 zeroSt (.slice none 0 0) 25
          generalize V1.alloc (.cells #[.int .i64 0, .int .i64 0, .int .i64 0, .int .i64 0, .int .i64 0, .int .i64 0, .slice none 0 0] 25) = V2 at *
          have k2 := k1.trans hb
          refine hK.out _ _ (HSA.out _ k2) (fun hS => ?_)
          clear hK K
          have HTF : Hid (∀ WF, But V1.heap.size V2 WF → OwnTab w1.heap.size WF (.slice qa r.tab.length qc) r.tab) := fun WF hF => (HO1.out.keep (But.to hb (Nat.le_refl _) hF)).base k0.size
          clear hb
          refine wpAnyH_ready (rs := [12]) (by kernel_rfl) (by simp) ?_
          refine AllReadyH.cons rfl (fun K hK => ?_) (AllReadyH.nil)
          have z0 := HQ2.out.c0
          have z1 := HQ2.out.c1
          have z2 := HQ2.out.c2
          have z3 := HQ2.out.c3
          have z4 := HQ2.out.c4
          have z5 := HQ2.out.c5
          have z6 := HQ2.out.c6
          have zf := HQ2.out.fz
          have zl := HQ2.out.lt
          go_simp
          have BP := HQ2.out.put r (.slice qa r.tab.length qc)
          have BT := But.puts (b := V1.heap.size) V2 r (.slice qa r.tab.length qc)
          have KF := But.to k2 k1.size BT
          have HTE := HTF.out _ BT
          obtain ⟨WF, hWF⟩ : ∃ z, z = (((((((V2.setCell ⟨V1.heap.size, 0, none⟩ (.int .i64 r.at_)).setCell ⟨V1.heap.size, 1, none⟩ (.int .i64 r.clock)).setCell ⟨V1.heap.size, 2, none⟩ (.int .i64 r.v0)).setCell ⟨V1.heap.size, 3, none⟩ (.int .i64 r.v1)).setCell ⟨V1.heap.size, 4, none⟩ (.int .i64 r.v2)).setCell ⟨V1.heap.size, 5, none⟩ (.int .i64 r.v3)).setCell ⟨V1.heap.size, 6, none⟩ (.slice qa r.tab.length qc)) := ⟨_, rfl⟩
          rw [← hWF] at BP BT KF HTE ⊢
          clear hWF z0 z1 z2 z3 z4 z5 z6 zf zl
          refine hK.out _ _ (HSA.out _ KF) (fun hS => ?_)
          clear hK K
          refine wpAnyH_take (i := 13) (v := .slice ra n rc) rfl (by kernel_rfl) (by kernel_rfl) (by kernel_rfl) (fun _ _ _ h => h) (Or.inl ⟨by rfl, ?_⟩) hS ?_
          · intro w hS; go_simp
          refine wpAnyH_take (i := 14) (v := .slice da n dc) rfl (by kernel_rfl) (by kernel_rfl) (by kernel_rfl) (fun _ _ _ h => h) (Or.inl ⟨by rfl, ?_⟩) hS ?_
          · intro w hS; go_simp
          refine wpAnyH_done (by kernel_rfl) ?_ _
          go_wp2_with fail
          go_meet
          exact ⟨_, _, _, rfl, k1.size, BP, HTE, KF⟩
        · go_simp
          have hb : Keeps V0 (V0.alloc (.cells #[.int .i64 0, .int .i64 0, .int .i64 0, .int .i64 0, .int .i64 0, .int .i64 0, .slice none 0 0] 25)) := (Keeps.refl _).alloc _
          have HQ1 : Hid (StBox V0.heap.size zeroSt (.slice none 0 0) (V0.alloc (.cells #[.int .i64 0, .int .i64 0, .int .i64 0, .int .i64 0, .int .i64 0, .int .i64 0, .slice none 0 0] 25))) := StBox.new V0 zeroSt (.slice none 0 0) 25
          generalize V0.alloc (.cells #[.int .i64 0, .int .i64 0, .int .i64 0, .int .i64 0, .int .i64 0, .int .i64 0, .slice none 0 0] 25) = V1 at *
          have k1 := k0.trans hb
          refine hK.out _ _ (HSA.out _ k1) (fun hS => ?_)
          clear hK K
          clear hb
          refine wpAnyH_ready (rs := [6]) (by kernel_rfl) (by simp) ?_
          refine AllReadyH.cons rfl (fun K hK => ?_) (AllReadyH.nil)
          go_simp
          refine (HC.out V1 k1).mono ?_
          rintro y V2 ⟨qa, qc, ra, rc, da, dc, HO2, rfl, hb⟩
          have k2 := k1.trans hb
          go_simp
          refine hK.out _ _ (HSA.out _ k2) (fun hS => ?_)
          clear hK K
          have HQ2 : Hid (StBox V0.heap.size zeroSt (.slice none 0 0) V2) := HQ1.out.keep hb
          have HTF : Hid (∀ WF, But V0.heap.size V2 WF → OwnTab w1.heap.size WF (.slice qa r.tab.length qc) r.tab) := fun WF hF => (HO2.out.but (by have := HQ1.out.lt; omega) hF).base (by have := k1.size; omega)
          clear hb
          refine wpAnyH_take (i := 7) (v := .tuple #[stV r (.slice qa r.tab.length qc), .slice ra n rc, .slice da n dc]) rfl (by kernel_rfl) (by kernel_rfl) (by kernel_rfl) (fun _ _ _ h => h) (Or.inl ⟨by rfl, ?_⟩) hS ?_
          · intro w hS; go_simp
          refine wpAnyH_take (i := 8) (v := stV r (.slice qa r.tab.length qc)) rfl (by kernel_rfl) (by kernel_rfl) (by kernel_rfl) (fun _ _ _ h => h) (Or.inl ⟨by rfl, ?_⟩) hS ?_
          · intro w hS; go_simp
          refine wpAnyH_take (i := 9) (v := .slice ra n rc) rfl (by kernel_rfl) (by kernel_rfl) (by kernel_rfl) (fun _ _ _ h => h) (Or.inl ⟨by rfl, ?_⟩) hS ?_
          · intro w hS; go_simp
          refine wpAnyH_take (i := 10) (v := .slice da n dc) rfl (by kernel_rfl) (by kernel_rfl) (by kernel_rfl) (fun _ _ _ h => h) (Or.inl ⟨by rfl, ?_⟩) hS ?_
          · intro w hS; go_simp
          refine wpAnyH_ready (rs := [12]) (by kernel_rfl) (by simp) ?_
          refine AllReadyH.cons rfl (fun K hK => ?_) (AllReadyH.nil)
          have z0 := HQ2.out.c0
          have z1 := HQ2.out.c1
          have z2 := HQ2.out.c2
          have z3 := HQ2.out.c3
          have z4 := HQ2.out.c4
          have z5 := HQ2.out.c5
          have z6 := HQ2.out.c6
          have zf := HQ2.out.fz
          have zl := HQ2.out.lt
          go_simp
          have BP := HQ2.out.put r (.slice qa r.tab.length qc)
          have BT := But.puts (b := V0.heap.size) V2 r (.slice qa r.tab.length qc)
          have KF := But.to k2 k0.size BT
          have HTE := HTF.out _ BT
          obtain ⟨WF, hWF⟩ : ∃ z, z = (((((((V2.setCell ⟨V0.heap.size, 0, none⟩ (.int .i64 r.at_)).setCell ⟨V0.heap.size, 1, none⟩ (.int .i64 r.clock)).setCell ⟨V0.heap.size, 2, none⟩ (.int .i64 r.v0)).setCell ⟨V0.heap.size, 3, none⟩ (.int .i64 r.v1)).setCell ⟨V0.heap.size, 4, none⟩ (.int .i64 r.v2)).setCell ⟨V0.heap.size, 5, none⟩ (.int .i64 r.v3)).setCell ⟨V0.heap.size, 6, none⟩ (.slice qa r.tab.length qc)) := ⟨_, rfl⟩
          rw [← hWF] at BP BT KF HTE ⊢
          clear hWF z0 z1 z2 z3 z4 z5 z6 zf zl
          refine hK.out _ _ (HSA.out _ KF) (fun hS => ?_)
          clear hK K
          refine wpAnyH_take (i := 13) (v := .slice ra n rc) rfl (by kernel_rfl) (by kernel_rfl) (by kernel_rfl) (fun _ _ _ h => h) (Or.inl ⟨by rfl, ?_⟩) hS ?_
          · intro w hS; go_simp
          refine wpAnyH_take (i := 14) (v := .slice da n dc) rfl (by kernel_rfl) (by kernel_rfl) (by kernel_rfl) (fun _ _ _ h => h) (Or.inl ⟨by rfl, ?_⟩) hS ?_
          · intro w hS; go_simp
          refine wpAnyH_done (by kernel_rfl) ?_ _
          go_wp2_with fail
          go_meet
          exact ⟨_, _, _, rfl, k0.size, BP, HTE, KF⟩
      case rest =>
        obtain ⟨qb, qa, qc, rfl, hqb, hQ, hO, hkc⟩ := hcut
        obtain ⟨w2, hw2⟩ : ∃ z, z = wc := ⟨_, rfl⟩
        rw [← hw2] at hQ hO hkc ⊢
        clear hw2
        have HK12 : Hid (Keeps w1 w2) := hkc
        have HK2 : Hid (Keeps w w2) := HK1.out.trans hkc
        have HO2 : Hid (OwnTab w1.heap.size w2 (.slice qa r.tab.length qc) r.tab) := hO
        have HZ2 : Hid (LgBox (w.heap.size + 1) zeroLg (.slice none 0 0) (.slice none 0 0) w2) := HZ1.out.keep hkc
        have HB2 : Hid (LgBox w.heap.size l (.slice xa l.base.tab.length xc) (.slice ta l.tail.length tc) w2) := HB1.out.keep hkc
        have HQ2 : Hid (StBox qb r (.slice qa r.tab.length qc) w2) := hQ
        have HSX2 : Hid (∀ W, Keeps w2 W → RowAt W 9 (.slice sv (l.tail.length - n) (tc - n)) (l.tail.length - n) (entCells (l.tail.drop n))) := fun W hk => HSX.out W (HK12.out.trans hk)
        have HSX := HSX2
        have HQB : Hid (w.heap.size + 1 ≠ qb) := by have := HZ5.out; show _ ≠ _; omega
        have HSC : Hid (∀ W, Keeps w2 W → W.cell? ⟨w.heap.size, 0, none⟩ = some (.int .i64 l.base.at_) ∧ W.cell? ⟨w.heap.size, 1, none⟩ = some (.int .i64 l.base.clock) ∧ W.cell? ⟨w.heap.size, 2, none⟩ = some (.int .i64 l.base.v0) ∧ W.cell? ⟨w.heap.size, 3, none⟩ = some (.int .i64 l.base.v1) ∧ W.cell? ⟨w.heap.size, 4, none⟩ = some (.int .i64 l.base.v2) ∧ W.cell? ⟨w.heap.size, 5, none⟩ = some (.int .i64 l.base.v3) ∧ W.cell? ⟨w.heap.size, 6, none⟩ = some (.slice xa l.base.tab.length xc) ∧ W.cell? ⟨w.heap.size, 7, none⟩ = some (.slice ta l.tail.length tc) ∧ W.cell? ⟨qb, 0, none⟩ = some (.int .i64 r.at_) ∧ W.cell? ⟨qb, 1, none⟩ = some (.int .i64 r.clock) ∧ W.cell? ⟨qb, 2, none⟩ = some (.int .i64 r.v0) ∧ W.cell? ⟨qb, 3, none⟩ = some (.int .i64 r.v1) ∧ W.cell? ⟨qb, 4, none⟩ = some (.int .i64 r.v2) ∧ W.cell? ⟨qb, 5, none⟩ = some (.int .i64 r.v3) ∧ W.cell? ⟨qb, 6, none⟩ = some (.slice qa r.tab.length qc)) := fun W hk => have B := HB2.out.keep hk; have Q := HQ2.out.keep hk; ⟨B.c0, B.c1, B.c2, B.c3, B.c4, B.c5, B.c6, B.c7, Q.c0, Q.c1, Q.c2, Q.c3, Q.c4, Q.c5, Q.c6⟩
        have HSD : Hid (∀ W, But (w.heap.size + 1) w2 W → W.cell? ⟨w.heap.size, 0, none⟩ = some (.int .i64 l.base.at_) ∧ W.cell? ⟨w.heap.size, 1, none⟩ = some (.int .i64 l.base.clock) ∧ W.cell? ⟨w.heap.size, 2, none⟩ = some (.int .i64 l.base.v0) ∧ W.cell? ⟨w.heap.size, 3, none⟩ = some (.int .i64 l.base.v1) ∧ W.cell? ⟨w.heap.size, 4, none⟩ = some (.int .i64 l.base.v2) ∧ W.cell? ⟨w.heap.size, 5, none⟩ = some (.int .i64 l.base.v3) ∧ W.cell? ⟨w.heap.size, 6, none⟩ = some (.slice xa l.base.tab.length xc) ∧ W.cell? ⟨w.heap.size, 7, none⟩ = some (.slice ta l.tail.length tc) ∧ W.cell? ⟨qb, 0, none⟩ = some (.int .i64 r.at_) ∧ W.cell? ⟨qb, 1, none⟩ = some (.int .i64 r.clock) ∧ W.cell? ⟨qb, 2, none⟩ = some (.int .i64 r.v0) ∧ W.cell? ⟨qb, 3, none⟩ = some (.int .i64 r.v1) ∧ W.cell? ⟨qb, 4, none⟩ = some (.int .i64 r.v2) ∧ W.cell? ⟨qb, 5, none⟩ = some (.int .i64 r.v3) ∧ W.cell? ⟨qb, 6, none⟩ = some (.slice qa r.tab.length qc)) := fun W hk => have B := HB2.out.other hk (by omega); have Q := HQ2.out.other hk (Ne.symm HQB.out); ⟨B.c0, B.c1, B.c2, B.c3, B.c4, B.c5, B.c6, B.c7, Q.c0, Q.c1, Q.c2, Q.c3, Q.c4, Q.c5, Q.c6⟩
        clear hQ hO hkc HSA HC
        go_wp2_with fail
        obtain ⟨V0, hV0⟩ : ∃ z, z = w2.drew := ⟨_, rfl⟩
        have k0 : Keeps w2 V0 := by rw [hV0]; exact (Keeps.refl _).drew
        refine wp_region_held_drew (S := fun W => W.cell? ⟨w.heap.size, 0, none⟩ = some (.int .i64 l.base.at_) ∧ W.cell? ⟨w.heap.size, 1, none⟩ = some (.int .i64 l.base.clock) ∧ W.cell? ⟨w.heap.size, 2, none⟩ = some (.int .i64 l.base.v0) ∧ W.cell? ⟨w.heap.size, 3, none⟩ = some (.int .i64 l.base.v1) ∧ W.cell? ⟨w.heap.size, 4, none⟩ = some (.int .i64 l.base.v2) ∧ W.cell? ⟨w.heap.size, 5, none⟩ = some (.int .i64 l.base.v3) ∧ W.cell? ⟨w.heap.size, 6, none⟩ = some (.slice xa l.base.tab.length xc) ∧ W.cell? ⟨w.heap.size, 7, none⟩ = some (.slice ta l.tail.length tc) ∧ W.cell? ⟨qb, 0, none⟩ = some (.int .i64 r.at_) ∧ W.cell? ⟨qb, 1, none⟩ = some (.int .i64 r.clock) ∧ W.cell? ⟨qb, 2, none⟩ = some (.int .i64 r.v0) ∧ W.cell? ⟨qb, 3, none⟩ = some (.int .i64 r.v1) ∧ W.cell? ⟨qb, 4, none⟩ = some (.int .i64 r.v2) ∧ W.cell? ⟨qb, 5, none⟩ = some (.int .i64 r.v3) ∧ W.cell? ⟨qb, 6, none⟩ = some (.slice qa r.tab.length qc)) (by kernel_rfl) (HSC.out _ (Keeps.refl _).drew) (fun hS => ?_)
        rw [← hV0] at hS ⊢
        clear hV0
        refine wpAnyH_take (i := 0) (v := stV r (.slice qa r.tab.length qc)) rfl (by kernel_rfl) (by kernel_rfl) (by kernel_rfl) (fun _ _ _ h => h) (Or.inl ⟨by rfl, ?_⟩) hS ?_
        · intro w hS; go_simp
        refine wpAnyH_take (i := 2) (v := .pointer (some ⟨w.heap.size, 7, none⟩)) rfl (by kernel_rfl) (by kernel_rfl) (by kernel_rfl) (fun _ _ _ h => h) (Or.inl ⟨by rfl, ?_⟩) hS ?_
        · intro w hS; go_simp
        refine wpAnyH_take (i := 3) (v := .slice ta l.tail.length tc) rfl (by kernel_rfl) (by kernel_rfl) (by kernel_rfl) (fun _ _ _ h => h) (Or.inl ⟨by rfl, ?_⟩) hS ?_
        · intro w hS; go_simp
        refine wpAnyH_take (i := 4) (v := .int .i64 n) rfl (by kernel_rfl) (by kernel_rfl) (by kernel_rfl) (fun _ _ _ h => h) (Or.inl ⟨by rfl, ?_⟩) hS ?_
        · intro w hS; go_simp
        refine wpAnyH_take (i := 5) (v := .slice sv (l.tail.length - n) (tc - n)) rfl (by kernel_rfl) (by kernel_rfl) (by kernel_rfl) (fun _ _ _ h => h) (Or.inl ⟨by rfl, ?_⟩) hS ?_
        · intro w hS
          go_simp
          exact HSV.out.symm
        refine wpAnyH_ready (rs := [1]) (by kernel_rfl) (by simp) ?_
        refine AllReadyH.cons rfl (fun K hK => ?_) (AllReadyH.nil)
        go_simp
        have hb : Keeps V0 (V0.alloc (.cells #[] 43)) := (Keeps.refl _).alloc _
        have hmade := World.ownsRow_made (base := V0.heap.size) (e := 43) (size := 9) V0 #[] 0 (Nat.le_refl _) (by unfold maxLen; omega) rfl
        obtain ⟨V1, hV1⟩ : ∃ z, z = V0.alloc (.cells #[] 43) := ⟨_, rfl⟩
        rw [← hV1] at hb hmade ⊢
        clear hV1
        have k1 := k0.trans hb
        refine hK.out _ _ (HSC.out _ k1) (fun hS => ?_)
        clear hK K
        obtain ⟨v1, V2, hr1, ho1, hg1⟩ := run_append_read V1 V0.heap.size 26 26 43 9 72 _ infoEnt Tryz.underlying26 rfl (by decide) _ 0 [] hmade (.slice sv (l.tail.length - n) (tc - n)) (l.tail.length - n) (entCells (l.tail.drop n)) (by have := HSX.out V1 k1; exact this) (entCells_one _) (by unfold maxLen; omega) (by omega) hb.size
        have hb2 : Keeps V0 V2 := keeps_grown hb hg1 (fun g h => by have := (hmade.lt g h).1; omega)
        rw [Nat.zero_add, List.nil_append] at ho1
        obtain ⟨ga, gc, rfl, _⟩ := (RowAt.of_owns ho1).len
        refine wpAnyH_ready (rs := [6]) (by kernel_rfl) (by simp) ?_
        refine AllReadyH.cons rfl (fun K hK => ?_) (AllReadyH.nil)
        refine step_append_run rfl _ _ 26 rfl (by simp [Act.eval, Act.put]) (by simp [Act.eval, Act.put]) hr1 ?_
        have k2 := k0.trans hb2
        refine hK.out _ _ (HSC.out _ k2) (fun hS => ?_)
        clear hK K
        refine wpAnyH_take (i := 7) (v := .agg #[.int .i64 r.at_, .int .i64 r.clock, .int .i64 r.v0, .int .i64 r.v1, .int .i64 r.v2, .int .i64 r.v3, .slice qa r.tab.length qc, .slice ga (l.tail.length - n) gc]) rfl (by kernel_rfl) (by kernel_rfl) (by kernel_rfl) (fun _ _ _ h => h) (Or.inl ⟨by rfl, ?_⟩) hS ?_
        · intro w hS; go_simp
        refine wpAnyH_ready (rs := [8]) (by kernel_rfl) (by simp) ?_
        refine AllReadyH.cons rfl (fun K hK => ?_) (AllReadyH.nil)
        have z0 := (HZ2.out.keep k2).c0
        have z1 := (HZ2.out.keep k2).c1
        have z2 := (HZ2.out.keep k2).c2
        have z3 := (HZ2.out.keep k2).c3
        have z4 := (HZ2.out.keep k2).c4
        have z5 := (HZ2.out.keep k2).c5
        have z6 := (HZ2.out.keep k2).c6
        have z7 := (HZ2.out.keep k2).c7
        have zf := (HZ2.out.keep k2).fz
        have zl := (HZ2.out.keep k2).lt
        go_simp
        have BP := (HZ2.out.keep k2).put ⟨r, l.tail.drop n⟩ (.slice qa r.tab.length qc) (.slice ga (l.tail.length - n) gc)
        have BT := But.lgputs (w.heap.size + 1) V2 ⟨r, l.tail.drop n⟩ (.slice qa r.tab.length qc) (.slice ga (l.tail.length - n) gc)
        obtain ⟨WF, hWF⟩ : ∃ z, z = ((((((((V2.setCell ⟨w.heap.size + 1, 0, none⟩ (.int .i64 r.at_)).setCell ⟨w.heap.size + 1, 1, none⟩ (.int .i64 r.clock)).setCell ⟨w.heap.size + 1, 2, none⟩ (.int .i64 r.v0)).setCell ⟨w.heap.size + 1, 3, none⟩ (.int .i64 r.v1)).setCell ⟨w.heap.size + 1, 4, none⟩ (.int .i64 r.v2)).setCell ⟨w.heap.size + 1, 5, none⟩ (.int .i64 r.v3)).setCell ⟨w.heap.size + 1, 6, none⟩ (.slice qa r.tab.length qc)).setCell ⟨w.heap.size + 1, 7, none⟩ (.slice ga (l.tail.length - n) gc)) := ⟨_, rfl⟩
        rw [← hWF] at BP BT ⊢
        clear hWF z0 z1 z2 z3 z4 z5 z6 z7 zf zl
        have hz1 := HZ5.out
        refine hK.out _ _ (HSD.out _ ((But.of k2).trans BT)) (fun hS => ?_)
        clear hK K
        refine wpAnyH_take (i := 9) (v := .int .i64 0) rfl (by kernel_rfl) (by kernel_rfl) (by kernel_rfl) (fun _ _ _ h => h) (Or.inl ⟨by rfl, ?_⟩) hS ?_
        · intro w hS; go_simp
        refine wpAnyH_done (by kernel_rfl) ?_ _
        go_wp2_with fail
        have c0 := BP.c0
        have c1 := BP.c1
        have c2 := BP.c2
        have c3 := BP.c3
        have c4 := BP.c4
        have c5 := BP.c5
        have c6 := BP.c6
        have c7 := BP.c7
        refine bodyPost_ret (v := .tuple #[lgV ⟨r, l.tail.drop n⟩ (.slice qa r.tab.length qc) (.slice ga (l.tail.length - n) gc), .int .i64 0]) ?_ rfl ?_
        · simp only [results, Tryz.results25, go_sem, c0, c1, c2, c3, c4, c5, c6, c7]
          simp [go_sem, c0, c1, c2, c3, c4, c5, c6, c7]
        · rw [HCE.out, HCL.out]
          have hzz := k0.size
          have hzk := HK12.out.size
          refine ⟨qa, qc, ga, gc, ((HO2.out.keep k2).but (by omega) BT).base (by omega), ?_, ?_, ?_, But.to (HK2.out.trans k2) (by omega) BT⟩
          · have := RowAt.of_owns (owns_far ho1 (by omega) BT)
            show RowAt _ _ _ _ _
            simpa using this
          · have hgc : l.tail.length - n ≤ gc := by
              rcases ho1.2 with ⟨h1, h2⟩ | ⟨g, cap, cur, h1, _, _, h2, _⟩
              · injection h1 with a1 a2 a3
                omega
              · injection h1 with a1 a2 a3
                omega
            simpa using hgc
          · simp
end Go.Proofs.YteabfjpajgakiaeGreat
