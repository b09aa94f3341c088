/- NoA, NoB, GrA0, GrA, GrB, GrC, OpenGr, GrC2, ReA, ReB, GrD. -/
import Derived.Deep.MidRow
import Derived.Deep.DeepCutAuto
import Derived.Test.YteabfjpajgakiagGreatJ03
import Derived.Test.YteabfjpajgakiagGreatJ12
import Derived.Test.YteabfjpajgakiagGreatJ15
import Derived.Test.YteabfjpajgakiagGreatJ17
/- node.isBehind, checkBoth, fits, Fits; the reference's NodeError, fits, FitsOf. -/
set_option linter.unusedSimpArgs false
set_option linter.unusedVariables false
set_option maxRecDepth 10000
namespace Go.Proofs.YteabfjpajgakiagGreat
open Go.RowKit

def nodeErr (l : Lg) (s : St) : Int := if lgErr l == 0 then stErr s else lgErr l
/-- Whether a state fits a log. -/
def fitsB (l : Lg) (s : St) : Bool := if s.at_ < l.base.at_ then true else if (l.tail.length : Int) < s.at_ - l.base.at_ then false else sameSt (runSt l.base (l.tail.take (s.at_ - l.base.at_).toNat)) s
def fitsOk (l : Lg) (s : St) : Bool := if nodeErr l s == 0 then fitsB l s else false

theorem node_behind (l : Lg) (s : St) (x t y : Value) (w : World) (hx : x.cells = #[x]) (ht : t.cells = #[t]) (hy : y.cells = #[y]) : Calls Tryz.prog 65 #[lgV l x t, stV s y] w fun e w' => e = .returned (.bool (decide (s.at_ < l.base.at_))) ∧ Keeps w w' := by
  go_enter Tryz.func65, Tryz.ntmps65
  go_wp2_with fail
  go_ret
  exact ⟨rfl, ((Keeps.refl _).alloc _).alloc _⟩

set_option maxHeartbeats 2000000 in
theorem node_both (l : Lg) (s : St) (x y : Value) (ta : Option Addr) (tc : Nat) (w : World) (hT : TabAt w x l.base.tab) (hL : EntsAt w (.slice ta l.tail.length tc) l.tail) (hY : TabAt w y s.tab) : Calls Tryz.prog 78 #[lgV l x (.slice ta l.tail.length tc), stV s y] w fun e w' => e = .returned (.int .i64 (nodeErr l s)) ∧ Keeps w w' := by
  obtain ⟨xa, xc, rfl, _⟩ := hT.len
  obtain ⟨ya, yc, rfl, _⟩ := hY.len
  have HT : Hid (TabAt w (.slice xa l.base.tab.length xc) l.base.tab) := hT
  have HL : Hid (EntsAt w (.slice ta l.tail.length tc) l.tail) := hL
  have HY : Hid (TabAt w (.slice ya s.tab.length yc) s.tab) := hY
  have hlen := hL.2.1
  unfold maxLen at hlen
  clear hT hL hY
  have HE : Hid (nodeErr l s = if lgErr l == 0 then stErr s else lgErr l) := rfl
  go_enter Tryz.func78, Tryz.ntmps78
  go_wp2_with fail
  obtain ⟨W1, hW1⟩ : ∃ W1, W1 = (w.alloc (.cells #[.int .i64 l.base.at_, .int .i64 l.base.clock, .int .i64 l.base.v0, .int .i64 l.base.v1, .int .i64 l.base.v2, .int .i64 l.base.v3, .slice xa l.base.tab.length xc, .slice ta l.tail.length tc] 28)).alloc (.cells #[.int .i64 s.at_, .int .i64 s.clock, .int .i64 s.v0, .int .i64 s.v1, .int .i64 s.v2, .int .i64 s.v3, .slice ya s.tab.length yc] 25) := ⟨_, rfl⟩
  have k1 : Keeps w W1 := by rw [hW1]; exact ((Keeps.refl _).alloc _).alloc _
  have B1 : LgBox w.heap.size l (.slice xa l.base.tab.length xc) (.slice ta l.tail.length tc) W1 := by rw [hW1]; exact (LgBox.new w l _ _ rfl rfl 28).keep ((Keeps.refl _).alloc _)
  have C1 : StBox (w.heap.size + 1) s (.slice ya s.tab.length yc) W1 := by
    rw [hW1]
    have := StBox.new (w.alloc (.cells #[.int .i64 l.base.at_, .int .i64 l.base.clock, .int .i64 l.base.v0, .int .i64 l.base.v1, .int .i64 l.base.v2, .int .i64 l.base.v3, .slice xa l.base.tab.length xc, .slice ta l.tail.length tc] 28)) s (.slice ya s.tab.length yc) 25
    simp only [World.size_alloc] at this
    exact this
  rw [← hW1]
  clear hW1
  refine (pack_check l _ _ W1 (HT.out.keep k1) (HL.out.keep k1)).mono ?_
  rintro e w1 ⟨rfl, hb⟩
  have HK1 : Hid (Keeps w w1) := k1.trans hb
  have C2 := C1.keep hb
  have c0 := C2.c0
  have c1 := C2.c1
  have c2 := C2.c2
  have c3 := C2.c3
  have c4 := C2.c4
  have c5 := C2.c5
  have c6 := C2.c6
  have cl := C2.lt
  clear k1 B1 C1 hb C2
  cases q1 : (lgErr l == 0) with
  | false =>
    have q1' : (lgErr l != 0) = true := by simp [bne, q1]
    have HE2 : Hid (nodeErr l s = lgErr l) := by show _ = _; rw [HE.out, q1]; rfl
    go_wp2_with fail
    go_ret
    exact ⟨ret_int HE2.out.symm, HK1.out⟩
  | true =>
    have q1' : (lgErr l != 0) = false := by simp [bne, q1]
    have HE2 : Hid (nodeErr l s = stErr s) := by show _ = _; rw [HE.out, q1]; rfl
    go_wp2_with fail
    refine (state_check s _ w1 (HY.out.keep HK1.out)).mono ?_
    rintro e w2 ⟨rfl, hb⟩
    have HK2 : Hid (Keeps w w2) := HK1.out.trans hb
    clear hb
    go_wp2_with fail
    go_ret
    exact ⟨ret_int HE2.out.symm, HK2.out⟩

set_option maxHeartbeats 2000000 in
theorem node_error (l : Lg) (s : St) (x y : Value) (ta : Option Addr) (tc : Nat) (w : World) (hT : TabAt w x l.base.tab) (hL : EntsAt w (.slice ta l.tail.length tc) l.tail) (hY : TabAt w y s.tab) : Calls Tryz.prog 53 #[lgV l x (.slice ta l.tail.length tc), stV s y] w fun e w' => e = .returned (.int .i64 (nodeErr l s)) ∧ Keeps w w' := by
  obtain ⟨xa, xc, rfl, _⟩ := hT.len
  obtain ⟨ya, yc, rfl, _⟩ := hY.len
  have HT : Hid (TabAt w (.slice xa l.base.tab.length xc) l.base.tab) := hT
  have HL : Hid (EntsAt w (.slice ta l.tail.length tc) l.tail) := hL
  have HY : Hid (TabAt w (.slice ya s.tab.length yc) s.tab) := hY
  have hlen := hL.2.1
  unfold maxLen at hlen
  clear hT hL hY
  have HE : Hid (nodeErr l s = if lgErr l == 0 then stErr s else lgErr l) := rfl
  go_enter Tryz.func53, Tryz.ntmps53
  go_wp2_with fail
  obtain ⟨W1, hW1⟩ : ∃ W1, W1 = (w.alloc (.cells #[.int .i64 l.base.at_, .int .i64 l.base.clock, .int .i64 l.base.v0, .int .i64 l.base.v1, .int .i64 l.base.v2, .int .i64 l.base.v3, .slice xa l.base.tab.length xc, .slice ta l.tail.length tc] 28)).alloc (.cells #[.int .i64 s.at_, .int .i64 s.clock, .int .i64 s.v0, .int .i64 s.v1, .int .i64 s.v2, .int .i64 s.v3, .slice ya s.tab.length yc] 25) := ⟨_, rfl⟩
  have k1 : Keeps w W1 := by rw [hW1]; exact ((Keeps.refl _).alloc _).alloc _
  have B1 : LgBox w.heap.size l (.slice xa l.base.tab.length xc) (.slice ta l.tail.length tc) W1 := by rw [hW1]; exact (LgBox.new w l _ _ rfl rfl 28).keep ((Keeps.refl _).alloc _)
  have C1 : StBox (w.heap.size + 1) s (.slice ya s.tab.length yc) W1 := by
    rw [hW1]
    have := StBox.new (w.alloc (.cells #[.int .i64 l.base.at_, .int .i64 l.base.clock, .int .i64 l.base.v0, .int .i64 l.base.v1, .int .i64 l.base.v2, .int .i64 l.base.v3, .slice xa l.base.tab.length xc, .slice ta l.tail.length tc] 28)) s (.slice ya s.tab.length yc) 25
    simp only [World.size_alloc] at this
    exact this
  rw [← hW1]
  clear hW1
  refine (log_error l _ _ W1 (HT.out.keep k1) (HL.out.keep k1)).mono ?_
  rintro e w1 ⟨rfl, hb⟩
  have HK1 : Hid (Keeps w w1) := k1.trans hb
  have C2 := C1.keep hb
  have c0 := C2.c0
  have c1 := C2.c1
  have c2 := C2.c2
  have c3 := C2.c3
  have c4 := C2.c4
  have c5 := C2.c5
  have c6 := C2.c6
  have cl := C2.lt
  clear k1 B1 C1 hb C2
  cases q1 : (lgErr l == 0) with
  | false =>
    have q1' : (lgErr l != 0) = true := by simp [bne, q1]
    have HE2 : Hid (nodeErr l s = lgErr l) := by show _ = _; rw [HE.out, q1]; rfl
    go_wp2_with fail
    go_ret
    exact ⟨ret_int HE2.out.symm, HK1.out⟩
  | true =>
    have q1' : (lgErr l != 0) = false := by simp [bne, q1]
    have HE2 : Hid (nodeErr l s = stErr s) := by show _ = _; rw [HE.out, q1]; rfl
    go_wp2_with fail
    refine (state_error s _ w1 (HY.out.keep HK1.out)).mono ?_
    rintro e w2 ⟨rfl, hb⟩
    have HK2 : Hid (Keeps w w2) := HK1.out.trans hb
    clear hb
    go_wp2_with fail
    go_ret
    exact ⟨ret_int HE2.out.symm, HK2.out⟩

set_option maxHeartbeats 4000000 in
theorem node_fits (l : Lg) (s : St) (x y : Value) (ta : Option Addr) (tc : Nat) (w : World) (hT : TabAt w x l.base.tab) (hL : EntsAt w (.slice ta l.tail.length tc) l.tail) (hY : TabAt w y s.tab) (hl0 : lgErr l = 0) (hs0 : stErr s = 0) (hcap : l.tail.length ≤ tc) : Calls Tryz.prog 79 #[lgV l x (.slice ta l.tail.length tc), stV s y] w fun e w' => e = .returned (.bool (fitsB l s)) ∧ Keeps w w' := by
  obtain ⟨xa, xc, rfl, _⟩ := hT.len
  obtain ⟨ya, yc, rfl, _⟩ := hY.len
  have HT : Hid (TabAt w (.slice xa l.base.tab.length xc) l.base.tab) := hT
  have HL : Hid (EntsAt w (.slice ta l.tail.length tc) l.tail) := hL
  have HY : Hid (TabAt w (.slice ya s.tab.length yc) s.tab) := hY
  have hlen := hL.2.1
  unfold maxLen at hlen
  clear hT hL hY
  obtain ⟨⟨sa0, sa1⟩, _⟩ := stErr_bounds hs0
  obtain ⟨⟨la0, la1⟩, _⟩ := stErr_bounds (fold_right hl0).1
  have HF : Hid (fitsB l s = if s.at_ < l.base.at_ then true else if (l.tail.length : Int) < s.at_ - l.base.at_ then false else sameSt (runSt l.base (l.tail.take (s.at_ - l.base.at_).toNat)) s) := rfl
  have HL0 : Hid (lgErr l = 0) := hl0
  clear hl0 hs0
  go_enter Tryz.func79, Tryz.ntmps79
  go_wp2_with fail
  obtain ⟨W1, hW1⟩ : ∃ W1, W1 = (w.alloc (.cells #[.int .i64 l.base.at_, .int .i64 l.base.clock, .int .i64 l.base.v0, .int .i64 l.base.v1, .int .i64 l.base.v2, .int .i64 l.base.v3, .slice xa l.base.tab.length xc, .slice ta l.tail.length tc] 28)).alloc (.cells #[.int .i64 s.at_, .int .i64 s.clock, .int .i64 s.v0, .int .i64 s.v1, .int .i64 s.v2, .int .i64 s.v3, .slice ya s.tab.length yc] 25) := ⟨_, rfl⟩
  have k1 : Keeps w W1 := by rw [hW1]; exact ((Keeps.refl _).alloc _).alloc _
  have B1 : LgBox w.heap.size l (.slice xa l.base.tab.length xc) (.slice ta l.tail.length tc) W1 := by rw [hW1]; exact (LgBox.new w l _ _ rfl rfl 28).keep ((Keeps.refl _).alloc _)
  have C1 : StBox (w.heap.size + 1) s (.slice ya s.tab.length yc) W1 := by
    rw [hW1]
    have := StBox.new (w.alloc (.cells #[.int .i64 l.base.at_, .int .i64 l.base.clock, .int .i64 l.base.v0, .int .i64 l.base.v1, .int .i64 l.base.v2, .int .i64 l.base.v3, .slice xa l.base.tab.length xc, .slice ta l.tail.length tc] 28)) s (.slice ya s.tab.length yc) 25
    simp only [World.size_alloc] at this
    exact this
  rw [← hW1]
  clear hW1
  refine (node_behind l s _ _ _ W1 rfl rfl rfl).mono ?_
  rintro e w1 ⟨rfl, hb⟩
  have HK1 : Hid (Keeps w w1) := k1.trans hb
  have HB1 : Hid (LgBox w.heap.size l (.slice xa l.base.tab.length xc) (.slice ta l.tail.length tc) w1) := B1.keep hb
  have HC1 : Hid (StBox (w.heap.size + 1) s (.slice ya s.tab.length yc) w1) := C1.keep hb
  clear k1 B1 C1 hb
  clear W1
  by_cases h1 : s.at_ < l.base.at_
  · have hd : decide (s.at_ < l.base.at_) = true := by simpa using h1
    have HF2 : Hid (fitsB l s = true) := by show _ = _; rw [HF.out, if_pos h1]
    rw [hd]
    go_wp2_with fail
    go_ret
    rw [HF2.out]
    exact ⟨rfl, HK1.out⟩
  · have hd : decide (s.at_ < l.base.at_) = false := by simpa using h1
    rw [hd]
    have b0 := HB1.out.c0
    have b7 := HB1.out.c7
    have bl := HB1.out.lt
    have c0 := HC1.out.c0
    have cl := HC1.out.lt
    by_cases h2 : (l.tail.length : Int) < s.at_ - l.base.at_
    · have HF2 : Hid (fitsB l s = false) := by show _ = _; rw [HF.out, if_neg h1, if_pos h2]
      go_wp2_with fail
      go_ret
      rw [HF2.out]
      exact ⟨rfl, HK1.out⟩
    · obtain ⟨n, hn'⟩ : ∃ n : Nat, s.at_ - l.base.at_ = n := ⟨(s.at_ - l.base.at_).toNat, by omega⟩
      have hn : n ≤ l.tail.length := by omega
      obtain ⟨r, hr'⟩ : ∃ r, r = runSt l.base (l.tail.take n) := ⟨_, rfl⟩
      obtain ⟨rn, hrn⟩ : ∃ rn, rn = runAns l.base (l.tail.take n) := ⟨_, rfl⟩
      have HF2 : Hid (fitsB l s = sameSt r s) := by
        show _ = _
        rw [HF.out, if_neg h1, if_neg h2, hr', hn']
        simp
      have hnl : (n : Int) ≤ (l.tail.length : Int) := by omega
      have hnc : (n : Int) ≤ (tc : Int) := by omega
      have hz9 : ∀ w, (Go.sizeOf 35).run Tryz.prog w = .ok 9 w := fun _ => by kernel_rfl
      obtain ⟨W1, hW1⟩ : ∃ z, z = w1 := ⟨_, rfl⟩
      rw [← hW1] at HK1 HB1 HC1 b0 b7 bl c0 cl ⊢
      clear hW1
      have HSA : Hid (∀ W, Keeps W1 W → W.cell? ⟨w.heap.size, 0, none⟩ = some (.int .i64 l.base.at_) ∧ W.cell? ⟨w.heap.size, 1, none⟩ = some (.int .i64 l.base.clock) ∧ W.cell? ⟨w.heap.size, 2, none⟩ = some (.int .i64 l.base.v0) ∧ W.cell? ⟨w.heap.size, 3, none⟩ = some (.int .i64 l.base.v1) ∧ W.cell? ⟨w.heap.size, 4, none⟩ = some (.int .i64 l.base.v2) ∧ W.cell? ⟨w.heap.size, 5, none⟩ = some (.int .i64 l.base.v3) ∧ W.cell? ⟨w.heap.size, 6, none⟩ = some (.slice xa l.base.tab.length xc) ∧ W.cell? ⟨w.heap.size, 7, none⟩ = some (.slice ta l.tail.length tc)) := fun W hk => have B := HB1.out.keep hk; ⟨B.c0, B.c1, B.c2, B.c3, B.c4, B.c5, B.c6, B.c7⟩
      have HC : Hid (∀ W, Keeps W1 W → Calls Tryz.prog 51 #[stV l.base (.slice xa l.base.tab.length xc), .slice ta n tc] W fun y w' => ∃ qa qc ra rc, Hid (OwnTab W.heap.size w' (.slice qa r.tab.length qc) r.tab) ∧ Hid (w'.ownsRow W.heap.size 3 1 (.slice ra rn.length rc) rn.length (intCells rn)) ∧ y = .returned (.tuple #[stV r (.slice qa r.tab.length qc), .slice ra rn.length rc, .int .i64 0]) ∧ Keeps W w') := by
        intro W hk
        rw [hr', hrn]
        exact all_ok (split_right HL0.out n).1 _ _ W (HT.out.keep (HK1.out.trans hk)) (ents_prefix (HL.out.keep (HK1.out.trans hk)) hn)
      have hgt : ¬ (l.tail.length : Int) < (n : Int) := by omega
      clear hr' hrn h2
      go_wp2_with fail
      clear b0 b7 bl c0 cl
      go_cut [6] (fun p wc => ∃ qb qa qc, p = .pointer (some ⟨qb, 0, none⟩) ∧ StBox qb r (.slice qa r.tab.length qc) wc ∧ OwnTab W1.heap.size wc (.slice qa r.tab.length qc) r.tab ∧ Keeps W1 wc)
      case first =>
        obtain ⟨V0, hV0⟩ : ∃ z, z = W1.drew := ⟨_, rfl⟩
        have k0 : Keeps W1 V0 := by rw [hV0]; exact (Keeps.refl _).drew
        refine wp_region_held_drew (S := fun W => W.cell? ⟨w.heap.size, 0, none⟩ = some (.int .i64 l.base.at_) ∧ W.cell? ⟨w.heap.size, 1, none⟩ = some (.int .i64 l.base.clock) ∧ W.cell? ⟨w.heap.size, 2, none⟩ = some (.int .i64 l.base.v0) ∧ W.cell? ⟨w.heap.size, 3, none⟩ = some (.int .i64 l.base.v1) ∧ W.cell? ⟨w.heap.size, 4, none⟩ = some (.int .i64 l.base.v2) ∧ W.cell? ⟨w.heap.size, 5, none⟩ = some (.int .i64 l.base.v3) ∧ W.cell? ⟨w.heap.size, 6, none⟩ = some (.slice xa l.base.tab.length xc) ∧ W.cell? ⟨w.heap.size, 7, none⟩ = some (.slice ta l.tail.length tc)) (by kernel_rfl) (HSA.out _ (Keeps.refl _).drew) (fun hS => ?_)
        rw [← hV0] at hS ⊢
        clear hV0
        refine wpAnyH_take (i := 0) (v := .pointer (some ⟨w.heap.size, 0, none⟩)) rfl (by kernel_rfl) (by kernel_rfl) (by kernel_rfl) (fun _ _ _ h => h) (Or.inl ⟨by rfl, ?_⟩) hS ?_
        · intro w hS; go_simp
        refine wpAnyH_take (i := 1) (v := stV l.base (.slice xa l.base.tab.length xc)) rfl (by kernel_rfl) (by kernel_rfl) (by kernel_rfl) (fun _ _ _ h => h) (Or.inl ⟨by rfl, ?_⟩) hS ?_
        · intro w hS; go_simp
        refine wpAnyH_take (i := 2) (v := .pointer (some ⟨w.heap.size, 7, none⟩)) rfl (by kernel_rfl) (by kernel_rfl) (by kernel_rfl) (fun _ _ _ h => h) (Or.inl ⟨by rfl, ?_⟩) hS ?_
        · intro w hS; go_simp
        refine wpAnyH_take (i := 3) (v := .slice ta l.tail.length tc) rfl (by kernel_rfl) (by kernel_rfl) (by kernel_rfl) (fun _ _ _ h => h) (Or.inl ⟨by rfl, ?_⟩) hS ?_
        · intro w hS; go_simp
        refine wpAnyH_take (i := 4) (v := .int .i64 n) rfl (by kernel_rfl) (by kernel_rfl) (by kernel_rfl) (fun _ _ _ h => h) (Or.inl ⟨by rfl, ?_⟩) hS ?_
        · intro w hS; go_simp
        refine wpAnyH_take (i := 5) (v := .slice (if tc = 0 then ta else Option.map (fun x : Addr => x.add 0) ta) n tc) rfl (by kernel_rfl) (by kernel_rfl) (by kernel_rfl) (fun _ _ _ h => h) (Or.inl ⟨by rfl, ?_⟩) hS ?_
        · intro w hS; go_simp
        refine wpAnyH_ready (rs := [6, 11]) (by kernel_rfl) (by simp) ?_
        refine AllReadyH.cons rfl (fun K hK => ?_) (AllReadyH.cons rfl (fun K hK => ?_) (AllReadyH.nil))
        · go_simp
          refine (HC.out V0 k0).mono ?_
          rintro y V1 ⟨qa, qc, ra, rc, HO1, HN1, rfl, hb⟩
          have k1 := k0.trans hb
          go_simp
          refine hK.out _ _ (HSA.out _ k1) (fun hS => ?_)
          clear hK K
          clear hb
          refine wpAnyH_take (i := 7) (v := .tuple #[stV r (.slice qa r.tab.length qc), .slice ra rn.length rc, .int .i64 0]) rfl (by kernel_rfl) (by kernel_rfl) (by kernel_rfl) (fun _ _ _ h => h) (Or.inl ⟨by rfl, ?_⟩) hS ?_
          · intro w hS; go_simp
          refine wpAnyH_take (i := 8) (v := stV r (.slice qa r.tab.length qc)) rfl (by kernel_rfl) (by kernel_rfl) (by kernel_rfl) (fun _ _ _ h => h) (Or.inl ⟨by rfl, ?_⟩) hS ?_
          · intro w hS; go_simp
          refine wpAnyH_take (i := 9) (v := .slice ra rn.length rc) rfl (by kernel_rfl) (by kernel_rfl) (by kernel_rfl) (fun _ _ _ h => h) (Or.inl ⟨by rfl, ?_⟩) hS ?_
          · intro w hS; go_simp
          refine wpAnyH_take (i := 10) (v := .int .i64 0) rfl (by kernel_rfl) (by kernel_rfl) (by kernel_rfl) (fun _ _ _ h => h) (Or.inl ⟨by rfl, ?_⟩) hS ?_
          · intro w hS; go_simp
          refine wpAnyH_ready (rs := [11]) (by kernel_rfl) (by simp) ?_
          refine AllReadyH.cons rfl (fun K hK => ?_) (AllReadyH.nil)
          go_simp
          have hb : Keeps V1 (V1.alloc (.cells #[.int .i64 0, .int .i64 0, .int .i64 0, .int .i64 0, .int .i64 0, .int .i64 0, .slice none 0 0] 25)) := (Keeps.refl _).alloc _
          have HQ2 : Hid (StBox V1.heap.size zeroSt (.slice none 0 0) (V1.alloc (.cells #[.int .i64 0, .int .i64 0, .int .i64 0, .int .i64 0, .int .i64 0, .int .i64 0, .slice none 0 0] 25))) := StBox.new V1 zeroSt (.slice none 0 0) 25
          generalize V1.alloc (.cells #[.int .i64 0, .int .i64 0, .int .i64 0, .int .i64 0, .int .i64 0, .int .i64 0, .slice none 0 0] 25) = V2 at *
          have k2 := k1.trans hb
          refine hK.out _ _ (HSA.out _ k2) (fun hS => ?_)
          clear hK K
          have HTF : Hid (∀ WF, But V1.heap.size V2 WF → OwnTab W1.heap.size WF (.slice qa r.tab.length qc) r.tab) := fun WF hF => (HO1.out.keep (But.to hb (Nat.le_refl _) hF)).base k0.size
          clear hb
          refine wpAnyH_ready (rs := [12]) (by kernel_rfl) (by simp) ?_
          refine AllReadyH.cons rfl (fun K hK => ?_) (AllReadyH.nil)
          have z0 := HQ2.out.c0
          have z1 := HQ2.out.c1
          have z2 := HQ2.out.c2
          have z3 := HQ2.out.c3
          have z4 := HQ2.out.c4
          have z5 := HQ2.out.c5
          have z6 := HQ2.out.c6
          have zf := HQ2.out.fz
          have zl := HQ2.out.lt
          go_simp
          have BP := HQ2.out.put r (.slice qa r.tab.length qc)
          have BT := But.puts (b := V1.heap.size) V2 r (.slice qa r.tab.length qc)
          have KF := But.to k2 k1.size BT
          have HTE := HTF.out _ BT
          obtain ⟨WF, hWF⟩ : ∃ z, z = (((((((V2.setCell ⟨V1.heap.size, 0, none⟩ (.int .i64 r.at_)).setCell ⟨V1.heap.size, 1, none⟩ (.int .i64 r.clock)).setCell ⟨V1.heap.size, 2, none⟩ (.int .i64 r.v0)).setCell ⟨V1.heap.size, 3, none⟩ (.int .i64 r.v1)).setCell ⟨V1.heap.size, 4, none⟩ (.int .i64 r.v2)).setCell ⟨V1.heap.size, 5, none⟩ (.int .i64 r.v3)).setCell ⟨V1.heap.size, 6, none⟩ (.slice qa r.tab.length qc)) := ⟨_, rfl⟩
          rw [← hWF] at BP BT KF HTE ⊢
          clear hWF z0 z1 z2 z3 z4 z5 z6 zf zl
          refine hK.out _ _ (HSA.out _ KF) (fun hS => ?_)
          clear hK K
          refine wpAnyH_take (i := 13) (v := .slice ra rn.length rc) rfl (by kernel_rfl) (by kernel_rfl) (by kernel_rfl) (fun _ _ _ h => h) (Or.inl ⟨by rfl, ?_⟩) hS ?_
          · intro w hS; go_simp
          refine wpAnyH_take (i := 14) (v := .int .i64 0) rfl (by kernel_rfl) (by kernel_rfl) (by kernel_rfl) (fun _ _ _ h => h) (Or.inl ⟨by rfl, ?_⟩) hS ?_
          · intro w hS; go_simp
          refine wpAnyH_done (by kernel_rfl) ?_ _
          go_wp2_with fail
          go_meet
          exact ⟨_, _, _, rfl, BP, HTE, KF⟩
        · go_simp
          have hb : Keeps V0 (V0.alloc (.cells #[.int .i64 0, .int .i64 0, .int .i64 0, .int .i64 0, .int .i64 0, .int .i64 0, .slice none 0 0] 25)) := (Keeps.refl _).alloc _
          have HQ1 : Hid (StBox V0.heap.size zeroSt (.slice none 0 0) (V0.alloc (.cells #[.int .i64 0, .int .i64 0, .int .i64 0, .int .i64 0, .int .i64 0, .int .i64 0, .slice none 0 0] 25))) := StBox.new V0 zeroSt (.slice none 0 0) 25
          generalize V0.alloc (.cells #[.int .i64 0, .int .i64 0, .int .i64 0, .int .i64 0, .int .i64 0, .int .i64 0, .slice none 0 0] 25) = V1 at *
          have k1 := k0.trans hb
          refine hK.out _ _ (HSA.out _ k1) (fun hS => ?_)
          clear hK K
          clear hb
          refine wpAnyH_ready (rs := [6]) (by kernel_rfl) (by simp) ?_
          refine AllReadyH.cons rfl (fun K hK => ?_) (AllReadyH.nil)
          go_simp
          refine (HC.out V1 k1).mono ?_
          rintro y V2 ⟨qa, qc, ra, rc, HO2, HN2, rfl, hb⟩
          have k2 := k1.trans hb
          go_simp
          refine hK.out _ _ (HSA.out _ k2) (fun hS => ?_)
          clear hK K
          have HQ2 : Hid (StBox V0.heap.size zeroSt (.slice none 0 0) V2) := HQ1.out.keep hb
          have HTF : Hid (∀ WF, But V0.heap.size V2 WF → OwnTab W1.heap.size WF (.slice qa r.tab.length qc) r.tab) := fun WF hF => (HO2.out.but (by have := HQ1.out.lt; omega) hF).base (by have := k1.size; omega)
          clear hb
          refine wpAnyH_take (i := 7) (v := .tuple #[stV r (.slice qa r.tab.length qc), .slice ra rn.length rc, .int .i64 0]) rfl (by kernel_rfl) (by kernel_rfl) (by kernel_rfl) (fun _ _ _ h => h) (Or.inl ⟨by rfl, ?_⟩) hS ?_
          · intro w hS; go_simp
          refine wpAnyH_take (i := 8) (v := stV r (.slice qa r.tab.length qc)) rfl (by kernel_rfl) (by kernel_rfl) (by kernel_rfl) (fun _ _ _ h => h) (Or.inl ⟨by rfl, ?_⟩) hS ?_
          · intro w hS; go_simp
          refine wpAnyH_take (i := 9) (v := .slice ra rn.length rc) rfl (by kernel_rfl) (by kernel_rfl) (by kernel_rfl) (fun _ _ _ h => h) (Or.inl ⟨by rfl, ?_⟩) hS ?_
          · intro w hS; go_simp
          refine wpAnyH_take (i := 10) (v := .int .i64 0) rfl (by kernel_rfl) (by kernel_rfl) (by kernel_rfl) (fun _ _ _ h => h) (Or.inl ⟨by rfl, ?_⟩) hS ?_
          · intro w hS; go_simp
          refine wpAnyH_ready (rs := [12]) (by kernel_rfl) (by simp) ?_
          refine AllReadyH.cons rfl (fun K hK => ?_) (AllReadyH.nil)
          have z0 := HQ2.out.c0
          have z1 := HQ2.out.c1
          have z2 := HQ2.out.c2
          have z3 := HQ2.out.c3
          have z4 := HQ2.out.c4
          have z5 := HQ2.out.c5
          have z6 := HQ2.out.c6
          have zf := HQ2.out.fz
          have zl := HQ2.out.lt
          go_simp
          have BP := HQ2.out.put r (.slice qa r.tab.length qc)
          have BT := But.puts (b := V0.heap.size) V2 r (.slice qa r.tab.length qc)
          have KF := But.to k2 k0.size BT
          have HTE := HTF.out _ BT
          obtain ⟨WF, hWF⟩ : ∃ z, z = (((((((V2.setCell ⟨V0.heap.size, 0, none⟩ (.int .i64 r.at_)).setCell ⟨V0.heap.size, 1, none⟩ (.int .i64 r.clock)).setCell ⟨V0.heap.size, 2, none⟩ (.int .i64 r.v0)).setCell ⟨V0.heap.size, 3, none⟩ (.int .i64 r.v1)).setCell ⟨V0.heap.size, 4, none⟩ (.int .i64 r.v2)).setCell ⟨V0.heap.size, 5, none⟩ (.int .i64 r.v3)).setCell ⟨V0.heap.size, 6, none⟩ (.slice qa r.tab.length qc)) := ⟨_, rfl⟩
          rw [← hWF] at BP BT KF HTE ⊢
          clear hWF z0 z1 z2 z3 z4 z5 z6 zf zl
          refine hK.out _ _ (HSA.out _ KF) (fun hS => ?_)
          clear hK K
          refine wpAnyH_take (i := 13) (v := .slice ra rn.length rc) rfl (by kernel_rfl) (by kernel_rfl) (by kernel_rfl) (fun _ _ _ h => h) (Or.inl ⟨by rfl, ?_⟩) hS ?_
          · intro w hS; go_simp
          refine wpAnyH_take (i := 14) (v := .int .i64 0) rfl (by kernel_rfl) (by kernel_rfl) (by kernel_rfl) (fun _ _ _ h => h) (Or.inl ⟨by rfl, ?_⟩) hS ?_
          · intro w hS; go_simp
          refine wpAnyH_done (by kernel_rfl) ?_ _
          go_wp2_with fail
          go_meet
          exact ⟨_, _, _, rfl, BP, HTE, KF⟩
      case rest =>
        obtain ⟨qb, qa, qc, rfl, hQ, hO, hkc⟩ := hcut
        have hS := HC1.out.keep hkc
        have HKc : Hid (Keeps w wc) := HK1.out.trans hkc
        have HO : Hid (TabAt wc (.slice qa r.tab.length qc) r.tab) := hO.tab
        have q0 := hQ.c0
        have q1 := hQ.c1
        have q2 := hQ.c2
        have q3 := hQ.c3
        have q4 := hQ.c4
        have q5 := hQ.c5
        have q6 := hQ.c6
        have ql := hQ.lt
        have s0 := hS.c0
        have s1 := hS.c1
        have s2 := hS.c2
        have s3 := hS.c3
        have s4 := hS.c4
        have s5 := hS.c5
        have s6 := hS.c6
        have sl := hS.lt
        clear hQ hO hkc hS HSA HC
        go_wp2_with fail
        refine (state_same r s _ _ wc HO.out (HY.out.keep HKc.out)).mono ?_
        rintro e w2 ⟨rfl, hb⟩
        have HK2 : Hid (Keeps w w2) := HKc.out.trans hb
        clear hb
        go_wp2_with fail
        go_ret
        rw [HF2.out]
        exact ⟨rfl, HK2.out⟩
end Go.Proofs.YteabfjpajgakiagGreat

/- The reference's fits, FitsOf; node.Fits, checkRun. -/
set_option linter.unusedSimpArgs false
set_option linter.unusedVariables false
set_option maxRecDepth 10000
namespace Go.Proofs.YteabfjpajgakiagGreat
open Go.RowKit

theorem node_right {l : Lg} {s : St} (h : nodeErr l s = 0) : lgErr l = 0 ∧ stErr s = 0 := by
  unfold nodeErr at h
  split at h
  · rename_i h1
    exact ⟨by simpa using h1, h⟩
  · rename_i h1
    simp [h] at h1

set_option maxHeartbeats 4000000 in
theorem fits_ref (l : Lg) (s : St) (x y : Value) (ta : Option Addr) (tc : Nat) (w : World) (hT : TabAt w x l.base.tab) (hL : EntsAt w (.slice ta l.tail.length tc) l.tail) (hY : TabAt w y s.tab) (hl0 : lgErr l = 0) (hs0 : stErr s = 0) (hcap : l.tail.length ≤ tc) : Calls Tryz.prog 18 #[lgV l x (.slice ta l.tail.length tc), stV s y] w fun e w' => e = .returned (.bool (fitsB l s)) ∧ Keeps w w' := by
  obtain ⟨xa, xc, rfl, _⟩ := hT.len
  obtain ⟨ya, yc, rfl, _⟩ := hY.len
  have HT : Hid (TabAt w (.slice xa l.base.tab.length xc) l.base.tab) := hT
  have HL : Hid (EntsAt w (.slice ta l.tail.length tc) l.tail) := hL
  have HY : Hid (TabAt w (.slice ya s.tab.length yc) s.tab) := hY
  have hlen := hL.2.1
  unfold maxLen at hlen
  clear hT hL hY
  obtain ⟨⟨sa0, sa1⟩, _⟩ := stErr_bounds hs0
  obtain ⟨⟨la0, la1⟩, _⟩ := stErr_bounds (fold_right hl0).1
  have HF : Hid (fitsB l s = if s.at_ < l.base.at_ then true else if (l.tail.length : Int) < s.at_ - l.base.at_ then false else sameSt (runSt l.base (l.tail.take (s.at_ - l.base.at_).toNat)) s) := rfl
  have HL0 : Hid (lgErr l = 0) := hl0
  clear hl0 hs0
  go_enter Tryz.func18, Tryz.ntmps18
  obtain ⟨w1, hw1⟩ : ∃ z, z = (w.alloc (.cells #[.int .i64 l.base.at_, .int .i64 l.base.clock, .int .i64 l.base.v0, .int .i64 l.base.v1, .int .i64 l.base.v2, .int .i64 l.base.v3, .slice xa l.base.tab.length xc, .slice ta l.tail.length tc] 28)).alloc (.cells #[.int .i64 s.at_, .int .i64 s.clock, .int .i64 s.v0, .int .i64 s.v1, .int .i64 s.v2, .int .i64 s.v3, .slice ya s.tab.length yc] 25) := ⟨_, rfl⟩
  have HK1 : Hid (Keeps w w1) := by rw [hw1]; exact ((Keeps.refl _).alloc _).alloc _
  have HB1 : Hid (LgBox w.heap.size l (.slice xa l.base.tab.length xc) (.slice ta l.tail.length tc) w1) := by rw [hw1]; exact (LgBox.new w l _ _ rfl rfl 28).keep ((Keeps.refl _).alloc _)
  have HC1 : Hid (StBox (w.heap.size + 1) s (.slice ya s.tab.length yc) w1) := by
    rw [hw1]
    have := StBox.new (w.alloc (.cells #[.int .i64 l.base.at_, .int .i64 l.base.clock, .int .i64 l.base.v0, .int .i64 l.base.v1, .int .i64 l.base.v2, .int .i64 l.base.v3, .slice xa l.base.tab.length xc, .slice ta l.tail.length tc] 28)) s (.slice ya s.tab.length yc) 25
    simp only [World.size_alloc] at this
    exact this
  have HW1 := (show Hid _ from hw1)
  clear hw1
  by_cases h1 : s.at_ < l.base.at_
  · have h1' : s.at_ - l.base.at_ < 0 := by omega
    have HF2 : Hid (fitsB l s = true) := by show _ = _; rw [HF.out, if_pos h1]
    go_wp2_with fail
    go_ret
    rw [HF2.out]
    exact ⟨rfl, ((Keeps.refl _).alloc _).alloc _⟩
  · have h1' : ¬ s.at_ - l.base.at_ < 0 := by omega
    by_cases h2 : (l.tail.length : Int) < s.at_ - l.base.at_
    · have HF2 : Hid (fitsB l s = false) := by show _ = _; rw [HF.out, if_neg h1, if_pos h2]
      go_wp2_with fail
      go_ret
      rw [HF2.out]
      exact ⟨rfl, ((Keeps.refl _).alloc _).alloc _⟩
    · obtain ⟨n, hn'⟩ : ∃ n : Nat, s.at_ - l.base.at_ = n := ⟨(s.at_ - l.base.at_).toNat, by omega⟩
      have hn : n ≤ l.tail.length := by omega
      obtain ⟨r, hr'⟩ : ∃ r, r = runSt l.base (l.tail.take n) := ⟨_, rfl⟩
      have HF2 : Hid (fitsB l s = sameSt r s) := by
        show _ = _
        rw [HF.out, if_neg h1, if_neg h2, hr', hn']
        simp
      have hnl : (n : Int) ≤ (l.tail.length : Int) := by omega
      have hnc : (n : Int) ≤ (tc : Int) := by omega
      have hz9 : ∀ w, (Go.sizeOf 35).run Tryz.prog w = .ok 9 w := fun _ => by kernel_rfl
      have HSA : Hid (∀ W, Keeps w1 W → W.cell? ⟨w.heap.size, 0, none⟩ = some (.int .i64 l.base.at_) ∧ W.cell? ⟨w.heap.size, 1, none⟩ = some (.int .i64 l.base.clock) ∧ W.cell? ⟨w.heap.size, 2, none⟩ = some (.int .i64 l.base.v0) ∧ W.cell? ⟨w.heap.size, 3, none⟩ = some (.int .i64 l.base.v1) ∧ W.cell? ⟨w.heap.size, 4, none⟩ = some (.int .i64 l.base.v2) ∧ W.cell? ⟨w.heap.size, 5, none⟩ = some (.int .i64 l.base.v3) ∧ W.cell? ⟨w.heap.size, 6, none⟩ = some (.slice xa l.base.tab.length xc) ∧ W.cell? ⟨w.heap.size, 7, none⟩ = some (.slice ta l.tail.length tc)) := fun W hk => have B := HB1.out.keep hk; ⟨B.c0, B.c1, B.c2, B.c3, B.c4, B.c5, B.c6, B.c7⟩
      have hfr := fold_right (split_right HL0.out n).1
      have HC : Hid (∀ W, Keeps w1 W → Calls Tryz.prog 39 #[stV l.base (.slice xa l.base.tab.length xc), .slice ta n tc] W fun y w' => ∃ qa qc ra rc da dc, Hid (OwnTab W.heap.size w' (.slice qa r.tab.length qc) r.tab) ∧ y = .returned (.tuple #[stV r (.slice qa r.tab.length qc), .slice ra n rc, .slice da n dc]) ∧ Keeps W w') := by
        intro W hk
        rw [hr']
        refine (folded_c l.base (l.tail.take n) _ _ W (HT.out.keep (HK1.out.trans hk)) (ents_prefix (HL.out.keep (HK1.out.trans hk)) hn) hfr.1 hfr.2.1 hfr.2.2).mono ?_
        rintro y w' ⟨qa, qc, ra, rc, da, dc, h1, _, _, rfl, hb⟩
        have e1 : (l.tail.take n).length = n := by simp; omega
        rw [e1]
        exact ⟨qa, qc, ra, rc, da, dc, h1, rfl, hb⟩
      have hgt : ¬ (l.tail.length : Int) < (n : Int) := by omega
      clear hr' hfr
      go_wp2_with fail
      rw [← HW1.out]
      go_cut [6] (fun p wc => ∃ qb qa qc, p = .pointer (some ⟨qb, 0, none⟩) ∧ StBox qb r (.slice qa r.tab.length qc) wc ∧ OwnTab w1.heap.size wc (.slice qa r.tab.length qc) r.tab ∧ Keeps w1 wc)
      case first =>
        obtain ⟨V0, hV0⟩ : ∃ z, z = w1.drew := ⟨_, rfl⟩
        have k0 : Keeps w1 V0 := by rw [hV0]; exact (Keeps.refl _).drew
        refine wp_region_held_drew (S := fun W => W.cell? ⟨w.heap.size, 0, none⟩ = some (.int .i64 l.base.at_) ∧ W.cell? ⟨w.heap.size, 1, none⟩ = some (.int .i64 l.base.clock) ∧ W.cell? ⟨w.heap.size, 2, none⟩ = some (.int .i64 l.base.v0) ∧ W.cell? ⟨w.heap.size, 3, none⟩ = some (.int .i64 l.base.v1) ∧ W.cell? ⟨w.heap.size, 4, none⟩ = some (.int .i64 l.base.v2) ∧ W.cell? ⟨w.heap.size, 5, none⟩ = some (.int .i64 l.base.v3) ∧ W.cell? ⟨w.heap.size, 6, none⟩ = some (.slice xa l.base.tab.length xc) ∧ W.cell? ⟨w.heap.size, 7, none⟩ = some (.slice ta l.tail.length tc)) (by kernel_rfl) (HSA.out _ (Keeps.refl _).drew) (fun hS => ?_)
        rw [← hV0] at hS ⊢
        clear hV0
        refine wpAnyH_take (i := 0) (v := .pointer (some ⟨w.heap.size, 0, none⟩)) rfl (by kernel_rfl) (by kernel_rfl) (by kernel_rfl) (fun _ _ _ h => h) (Or.inl ⟨by rfl, ?_⟩) hS ?_
        · intro w hS; go_simp
        refine wpAnyH_take (i := 1) (v := stV l.base (.slice xa l.base.tab.length xc)) rfl (by kernel_rfl) (by kernel_rfl) (by kernel_rfl) (fun _ _ _ h => h) (Or.inl ⟨by rfl, ?_⟩) hS ?_
        · intro w hS; go_simp
        refine wpAnyH_take (i := 2) (v := .pointer (some ⟨w.heap.size, 7, none⟩)) rfl (by kernel_rfl) (by kernel_rfl) (by kernel_rfl) (fun _ _ _ h => h) (Or.inl ⟨by rfl, ?_⟩) hS ?_
        · intro w hS; go_simp
        refine wpAnyH_take (i := 3) (v := .slice ta l.tail.length tc) rfl (by kernel_rfl) (by kernel_rfl) (by kernel_rfl) (fun _ _ _ h => h) (Or.inl ⟨by rfl, ?_⟩) hS ?_
        · intro w hS; go_simp
        refine wpAnyH_take (i := 4) (v := .int .i64 n) rfl (by kernel_rfl) (by kernel_rfl) (by kernel_rfl) (fun _ _ _ h => h) (Or.inl ⟨by rfl, ?_⟩) hS ?_
        · intro w hS; go_simp
        refine wpAnyH_take (i := 5) (v := .slice (if tc = 0 then ta else Option.map (fun x : Addr => x.add 0) ta) n tc) rfl (by kernel_rfl) (by kernel_rfl) (by kernel_rfl) (fun _ _ _ h => h) (Or.inl ⟨by rfl, ?_⟩) hS ?_
        · intro w hS; go_simp
        refine wpAnyH_ready (rs := [6, 11]) (by kernel_rfl) (by simp) ?_
        refine AllReadyH.cons rfl (fun K hK => ?_) (AllReadyH.cons rfl (fun K hK => ?_) (AllReadyH.nil))
        · go_simp
          refine (HC.out V0 k0).mono ?_
          rintro y V1 ⟨qa, qc, ra, rc, da, dc, HO1, rfl, hb⟩
          have k1 := k0.trans hb
          go_simp
          refine hK.out _ _ (HSA.out _ k1) (fun hS => ?_)
          clear hK K
          clear hb
          refine wpAnyH_take (i := 7) (v := .tuple #[stV r (.slice qa r.tab.length qc), .slice ra n rc, .slice da n dc]) rfl (by kernel_rfl) (by kernel_rfl) (by kernel_rfl) (fun _ _ _ h => h) (Or.inl ⟨by rfl, ?_⟩) hS ?_
          · intro w hS; go_simp
          refine wpAnyH_take (i := 8) (v := stV r (.slice qa r.tab.length qc)) rfl (by kernel_rfl) (by kernel_rfl) (by kernel_rfl) (fun _ _ _ h => h) (Or.inl ⟨by rfl, ?_⟩) hS ?_
          · intro w hS; go_simp
          refine wpAnyH_take (i := 9) (v := .slice ra n rc) rfl (by kernel_rfl) (by kernel_rfl) (by kernel_rfl) (fun _ _ _ h => h) (Or.inl ⟨by rfl, ?_⟩) hS ?_
          · intro w hS; go_simp
          refine wpAnyH_take (i := 10) (v := .slice da n dc) rfl (by kernel_rfl) (by kernel_rfl) (by kernel_rfl) (fun _ _ _ h => h) (Or.inl ⟨by rfl, ?_⟩) hS ?_
          · intro w hS; go_simp
          refine wpAnyH_ready (rs := [11]) (by kernel_rfl) (by simp) ?_
          refine AllReadyH.cons rfl (fun K hK => ?_) (AllReadyH.nil)
          go_simp
          have hb : Keeps V1 (V1.alloc (.cells #[.int .i64 0, .int .i64 0, .int .i64 0, .int .i64 0, .int .i64 0, .int .i64 0, .slice none 0 0] 25)) := (Keeps.refl _).alloc _
          have HQ2 : Hid (StBox V1.heap.size zeroSt (.slice none 0 0) (V1.alloc (.cells #[.int .i64 0, .int .i64 0, .int .i64 0, .int .i64 0, .int .i64 0, .int .i64 0, .slice none 0 0] 25))) := StBox.new V1 zeroSt (.slice none 0 0) 25
          generalize V1.alloc (.cells #[.int .i64 0, .int .i64 0, .int .i64 0, .int .i64 0, .int .i64 0, .int .i64 0, .slice none 0 0] 25) = V2 at *
          have k2 := k1.trans hb
          refine hK.out _ _ (HSA.out _ k2) (fun hS => ?_)
          clear hK K
          have HTF : Hid (∀ WF, But V1.heap.size V2 WF → OwnTab w1.heap.size WF (.slice qa r.tab.length qc) r.tab) := fun WF hF => (HO1.out.keep (But.to hb (Nat.le_refl _) hF)).base k0.size
          clear hb
          refine wpAnyH_ready (rs := [12]) (by kernel_rfl) (by simp) ?_
          refine AllReadyH.cons rfl (fun K hK => ?_) (AllReadyH.nil)
          have z0 := HQ2.out.c0
          have z1 := HQ2.out.c1
          have z2 := HQ2.out.c2
          have z3 := HQ2.out.c3
          have z4 := HQ2.out.c4
          have z5 := HQ2.out.c5
          have z6 := HQ2.out.c6
          have zf := HQ2.out.fz
          have zl := HQ2.out.lt
          go_simp
          have BP := HQ2.out.put r (.slice qa r.tab.length qc)
          have BT := But.puts (b := V1.heap.size) V2 r (.slice qa r.tab.length qc)
          have KF := But.to k2 k1.size BT
          have HTE := HTF.out _ BT
          obtain ⟨WF, hWF⟩ : ∃ z, z = (((((((V2.setCell ⟨V1.heap.size, 0, none⟩ (.int .i64 r.at_)).setCell ⟨V1.heap.size, 1, none⟩ (.int .i64 r.clock)).setCell ⟨V1.heap.size, 2, none⟩ (.int .i64 r.v0)).setCell ⟨V1.heap.size, 3, none⟩ (.int .i64 r.v1)).setCell ⟨V1.heap.size, 4, none⟩ (.int .i64 r.v2)).setCell ⟨V1.heap.size, 5, none⟩ (.int .i64 r.v3)).setCell ⟨V1.heap.size, 6, none⟩ (.slice qa r.tab.length qc)) := ⟨_, rfl⟩
          rw [← hWF] at BP BT KF HTE ⊢
          clear hWF z0 z1 z2 z3 z4 z5 z6 zf zl
          refine hK.out _ _ (HSA.out _ KF) (fun hS => ?_)
          clear hK K
          refine wpAnyH_take (i := 13) (v := .slice ra n rc) rfl (by kernel_rfl) (by kernel_rfl) (by kernel_rfl) (fun _ _ _ h => h) (Or.inl ⟨by rfl, ?_⟩) hS ?_
          · intro w hS; go_simp
          refine wpAnyH_take (i := 14) (v := .slice da n dc) rfl (by kernel_rfl) (by kernel_rfl) (by kernel_rfl) (fun _ _ _ h => h) (Or.inl ⟨by rfl, ?_⟩) hS ?_
          · intro w hS; go_simp
          refine wpAnyH_done (by kernel_rfl) ?_ _
          go_wp2_with fail
          go_meet
          exact ⟨_, _, _, rfl, BP, HTE, KF⟩
        · go_simp
          have hb : Keeps V0 (V0.alloc (.cells #[.int .i64 0, .int .i64 0, .int .i64 0, .int .i64 0, .int .i64 0, .int .i64 0, .slice none 0 0] 25)) := (Keeps.refl _).alloc _
          have HQ1 : Hid (StBox V0.heap.size zeroSt (.slice none 0 0) (V0.alloc (.cells #[.int .i64 0, .int .i64 0, .int .i64 0, .int .i64 0, .int .i64 0, .int .i64 0, .slice none 0 0] 25))) := StBox.new V0 zeroSt (.slice none 0 0) 25
          generalize V0.alloc (.cells #[.int .i64 0, .int .i64 0, .int .i64 0, .int .i64 0, .int .i64 0, .int .i64 0, .slice none 0 0] 25) = V1 at *
          have k1 := k0.trans hb
          refine hK.out _ _ (HSA.out _ k1) (fun hS => ?_)
          clear hK K
          clear hb
          refine wpAnyH_ready (rs := [6]) (by kernel_rfl) (by simp) ?_
          refine AllReadyH.cons rfl (fun K hK => ?_) (AllReadyH.nil)
          go_simp
          refine (HC.out V1 k1).mono ?_
          rintro y V2 ⟨qa, qc, ra, rc, da, dc, HO2, rfl, hb⟩
          have k2 := k1.trans hb
          go_simp
          refine hK.out _ _ (HSA.out _ k2) (fun hS => ?_)
          clear hK K
          have HQ2 : Hid (StBox V0.heap.size zeroSt (.slice none 0 0) V2) := HQ1.out.keep hb
          have HTF : Hid (∀ WF, But V0.heap.size V2 WF → OwnTab w1.heap.size WF (.slice qa r.tab.length qc) r.tab) := fun WF hF => (HO2.out.but (by have := HQ1.out.lt; omega) hF).base (by have := k1.size; omega)
          clear hb
          refine wpAnyH_take (i := 7) (v := .tuple #[stV r (.slice qa r.tab.length qc), .slice ra n rc, .slice da n dc]) rfl (by kernel_rfl) (by kernel_rfl) (by kernel_rfl) (fun _ _ _ h => h) (Or.inl ⟨by rfl, ?_⟩) hS ?_
          · intro w hS; go_simp
          refine wpAnyH_take (i := 8) (v := stV r (.slice qa r.tab.length qc)) rfl (by kernel_rfl) (by kernel_rfl) (by kernel_rfl) (fun _ _ _ h => h) (Or.inl ⟨by rfl, ?_⟩) hS ?_
          · intro w hS; go_simp
          refine wpAnyH_take (i := 9) (v := .slice ra n rc) rfl (by kernel_rfl) (by kernel_rfl) (by kernel_rfl) (fun _ _ _ h => h) (Or.inl ⟨by rfl, ?_⟩) hS ?_
          · intro w hS; go_simp
          refine wpAnyH_take (i := 10) (v := .slice da n dc) rfl (by kernel_rfl) (by kernel_rfl) (by kernel_rfl) (fun _ _ _ h => h) (Or.inl ⟨by rfl, ?_⟩) hS ?_
          · intro w hS; go_simp
          refine wpAnyH_ready (rs := [12]) (by kernel_rfl) (by simp) ?_
          refine AllReadyH.cons rfl (fun K hK => ?_) (AllReadyH.nil)
          have z0 := HQ2.out.c0
          have z1 := HQ2.out.c1
          have z2 := HQ2.out.c2
          have z3 := HQ2.out.c3
          have z4 := HQ2.out.c4
          have z5 := HQ2.out.c5
          have z6 := HQ2.out.c6
          have zf := HQ2.out.fz
          have zl := HQ2.out.lt
          go_simp
          have BP := HQ2.out.put r (.slice qa r.tab.length qc)
          have BT := But.puts (b := V0.heap.size) V2 r (.slice qa r.tab.length qc)
          have KF := But.to k2 k0.size BT
          have HTE := HTF.out _ BT
          obtain ⟨WF, hWF⟩ : ∃ z, z = (((((((V2.setCell ⟨V0.heap.size, 0, none⟩ (.int .i64 r.at_)).setCell ⟨V0.heap.size, 1, none⟩ (.int .i64 r.clock)).setCell ⟨V0.heap.size, 2, none⟩ (.int .i64 r.v0)).setCell ⟨V0.heap.size, 3, none⟩ (.int .i64 r.v1)).setCell ⟨V0.heap.size, 4, none⟩ (.int .i64 r.v2)).setCell ⟨V0.heap.size, 5, none⟩ (.int .i64 r.v3)).setCell ⟨V0.heap.size, 6, none⟩ (.slice qa r.tab.length qc)) := ⟨_, rfl⟩
          rw [← hWF] at BP BT KF HTE ⊢
          clear hWF z0 z1 z2 z3 z4 z5 z6 zf zl
          refine hK.out _ _ (HSA.out _ KF) (fun hS => ?_)
          clear hK K
          refine wpAnyH_take (i := 13) (v := .slice ra n rc) rfl (by kernel_rfl) (by kernel_rfl) (by kernel_rfl) (fun _ _ _ h => h) (Or.inl ⟨by rfl, ?_⟩) hS ?_
          · intro w hS; go_simp
          refine wpAnyH_take (i := 14) (v := .slice da n dc) rfl (by kernel_rfl) (by kernel_rfl) (by kernel_rfl) (fun _ _ _ h => h) (Or.inl ⟨by rfl, ?_⟩) hS ?_
          · intro w hS; go_simp
          refine wpAnyH_done (by kernel_rfl) ?_ _
          go_wp2_with fail
          go_meet
          exact ⟨_, _, _, rfl, BP, HTE, KF⟩
      case rest =>
        obtain ⟨qb, qa, qc, rfl, hQ, hO, hkc⟩ := hcut
        have hS := HC1.out.keep hkc
        have HKc : Hid (Keeps w wc) := HK1.out.trans hkc
        have HO : Hid (TabAt wc (.slice qa r.tab.length qc) r.tab) := hO.tab
        have q0 := hQ.c0
        have q1 := hQ.c1
        have q2 := hQ.c2
        have q3 := hQ.c3
        have q4 := hQ.c4
        have q5 := hQ.c5
        have q6 := hQ.c6
        have ql := hQ.lt
        have s0 := hS.c0
        have s1 := hS.c1
        have s2 := hS.c2
        have s3 := hS.c3
        have s4 := hS.c4
        have s5 := hS.c5
        have s6 := hS.c6
        have sl := hS.lt
        clear hQ hO hkc hS HSA HC
        go_wp2_with fail
        refine (same_of r s _ _ wc HO.out (HY.out.keep HKc.out)).mono ?_
        rintro e w2 ⟨rfl, hb⟩
        have HK2 : Hid (Keeps w w2) := HKc.out.trans hb
        clear hb
        go_wp2_with fail
        go_ret
        rw [HF2.out]
        exact ⟨rfl, HK2.out⟩

set_option maxHeartbeats 2000000 in
theorem node_fits_c (l : Lg) (s : St) (x y : Value) (ta : Option Addr) (tc : Nat) (w : World) (hT : TabAt w x l.base.tab) (hL : EntsAt w (.slice ta l.tail.length tc) l.tail) (hY : TabAt w y s.tab) (hcap : l.tail.length ≤ tc) : Calls Tryz.prog 58 #[lgV l x (.slice ta l.tail.length tc), stV s y] w fun e w' => e = .returned (.tuple #[.bool (fitsOk l s), .int .i64 (nodeErr l s)]) ∧ Keeps w w' := by
  obtain ⟨xa, xc, rfl, _⟩ := hT.len
  obtain ⟨ya, yc, rfl, _⟩ := hY.len
  have HT : Hid (TabAt w (.slice xa l.base.tab.length xc) l.base.tab) := hT
  have HL : Hid (EntsAt w (.slice ta l.tail.length tc) l.tail) := hL
  have HY : Hid (TabAt w (.slice ya s.tab.length yc) s.tab) := hY
  have hlen := hL.2.1
  unfold maxLen at hlen
  clear hT hL hY
  have HE : Hid (fitsOk l s = if nodeErr l s == 0 then fitsB l s else false) := rfl
  go_enter Tryz.func58, Tryz.ntmps58
  go_wp2_with fail
  obtain ⟨W1, hW1⟩ : ∃ W1, W1 = (w.alloc (.cells #[.int .i64 l.base.at_, .int .i64 l.base.clock, .int .i64 l.base.v0, .int .i64 l.base.v1, .int .i64 l.base.v2, .int .i64 l.base.v3, .slice xa l.base.tab.length xc, .slice ta l.tail.length tc] 28)).alloc (.cells #[.int .i64 s.at_, .int .i64 s.clock, .int .i64 s.v0, .int .i64 s.v1, .int .i64 s.v2, .int .i64 s.v3, .slice ya s.tab.length yc] 25) := ⟨_, rfl⟩
  have k1 : Keeps w W1 := by rw [hW1]; exact ((Keeps.refl _).alloc _).alloc _
  have B1 : LgBox w.heap.size l (.slice xa l.base.tab.length xc) (.slice ta l.tail.length tc) W1 := by rw [hW1]; exact (LgBox.new w l _ _ rfl rfl 28).keep ((Keeps.refl _).alloc _)
  have C1 : StBox (w.heap.size + 1) s (.slice ya s.tab.length yc) W1 := by
    rw [hW1]
    have := StBox.new (w.alloc (.cells #[.int .i64 l.base.at_, .int .i64 l.base.clock, .int .i64 l.base.v0, .int .i64 l.base.v1, .int .i64 l.base.v2, .int .i64 l.base.v3, .slice xa l.base.tab.length xc, .slice ta l.tail.length tc] 28)) s (.slice ya s.tab.length yc) 25
    simp only [World.size_alloc] at this
    exact this
  rw [← hW1]
  clear hW1
  refine (node_both l s _ _ ta tc W1 (HT.out.keep k1) (HL.out.keep k1) (HY.out.keep k1)).mono ?_
  rintro e w1 ⟨rfl, hb⟩
  have HK1 : Hid (Keeps w w1) := k1.trans hb
  have B2 := B1.keep hb
  have C2 := C1.keep hb
  have b0 := B2.c0
  have b1 := B2.c1
  have b2 := B2.c2
  have b3 := B2.c3
  have b4 := B2.c4
  have b5 := B2.c5
  have b6 := B2.c6
  have b7 := B2.c7
  have bl := B2.lt
  have c0 := C2.c0
  have c1 := C2.c1
  have c2 := C2.c2
  have c3 := C2.c3
  have c4 := C2.c4
  have c5 := C2.c5
  have c6 := C2.c6
  have cl := C2.lt
  clear k1 B1 C1 hb C2 B2
  cases q1 : (nodeErr l s == 0) with
  | false =>
    have q1' : (nodeErr l s != 0) = true := by simp [bne, q1]
    have HE2 : Hid (fitsOk l s = false) := by show _ = _; rw [HE.out, q1]; rfl
    go_wp2_with fail
    go_ret2
    rw [HE2.out]
    exact ⟨rfl, HK1.out⟩
  | true =>
    have q1' : (nodeErr l s != 0) = false := by simp [bne, q1]
    have q0 : nodeErr l s = 0 := by simpa using q1
    have HE2 : Hid (fitsOk l s = fitsB l s) := by show _ = _; rw [HE.out, q1]; rfl
    have HNR := (show Hid _ from node_right q0)
    go_wp2_with fail
    refine (node_fits l s _ _ ta tc w1 (HT.out.keep HK1.out) (HL.out.keep HK1.out) (HY.out.keep HK1.out) HNR.out.1 HNR.out.2 hcap).mono ?_
    rintro e w2 ⟨rfl, hb⟩
    have HK2 : Hid (Keeps w w2) := HK1.out.trans hb
    clear hb
    go_wp2_with fail
    go_ret2
    rw [HE2.out, q0]
    exact ⟨rfl, HK2.out⟩

def runErr (l : Lg) (s : St) (n : Int) : Int := if nodeErr l s == 0 then (if inB n 0 50 then (if fitsB l s then 0 else 1) else 3) else nodeErr l s

set_option maxHeartbeats 2000000 in
theorem node_check_run (l : Lg) (s : St) (n : Int) (x y : Value) (ta : Option Addr) (tc : Nat) (w : World) (hT : TabAt w x l.base.tab) (hL : EntsAt w (.slice ta l.tail.length tc) l.tail) (hY : TabAt w y s.tab) (hcap : l.tail.length ≤ tc) : Calls Tryz.prog 64 #[lgV l x (.slice ta l.tail.length tc), stV s y, .int .i64 n] w fun e w' => e = .returned (.int .i64 (runErr l s n)) ∧ Keeps w w' := by
  obtain ⟨xa, xc, rfl, _⟩ := hT.len
  obtain ⟨ya, yc, rfl, _⟩ := hY.len
  have HT : Hid (TabAt w (.slice xa l.base.tab.length xc) l.base.tab) := hT
  have HL : Hid (EntsAt w (.slice ta l.tail.length tc) l.tail) := hL
  have HY : Hid (TabAt w (.slice ya s.tab.length yc) s.tab) := hY
  have hlen := hL.2.1
  unfold maxLen at hlen
  clear hT hL hY
  have HE : Hid (runErr l s n = if nodeErr l s == 0 then (if inB n 0 50 then (if fitsB l s then 0 else 1) else 3) else nodeErr l s) := rfl
  go_enter Tryz.func64, Tryz.ntmps64
  go_wp2_with fail
  obtain ⟨W1, hW1⟩ : ∃ W1, W1 = (w.alloc (.cells #[.int .i64 l.base.at_, .int .i64 l.base.clock, .int .i64 l.base.v0, .int .i64 l.base.v1, .int .i64 l.base.v2, .int .i64 l.base.v3, .slice xa l.base.tab.length xc, .slice ta l.tail.length tc] 28)).alloc (.cells #[.int .i64 s.at_, .int .i64 s.clock, .int .i64 s.v0, .int .i64 s.v1, .int .i64 s.v2, .int .i64 s.v3, .slice ya s.tab.length yc] 25) := ⟨_, rfl⟩
  have k1 : Keeps w W1 := by rw [hW1]; exact ((Keeps.refl _).alloc _).alloc _
  have B1 : LgBox w.heap.size l (.slice xa l.base.tab.length xc) (.slice ta l.tail.length tc) W1 := by rw [hW1]; exact (LgBox.new w l _ _ rfl rfl 28).keep ((Keeps.refl _).alloc _)
  have C1 : StBox (w.heap.size + 1) s (.slice ya s.tab.length yc) W1 := by
    rw [hW1]
    have := StBox.new (w.alloc (.cells #[.int .i64 l.base.at_, .int .i64 l.base.clock, .int .i64 l.base.v0, .int .i64 l.base.v1, .int .i64 l.base.v2, .int .i64 l.base.v3, .slice xa l.base.tab.length xc, .slice ta l.tail.length tc] 28)) s (.slice ya s.tab.length yc) 25
    simp only [World.size_alloc] at this
    exact this
  rw [← hW1]
  clear hW1
  refine (node_both l s _ _ ta tc W1 (HT.out.keep k1) (HL.out.keep k1) (HY.out.keep k1)).mono ?_
  rintro e w1 ⟨rfl, hb⟩
  have HK1 : Hid (Keeps w w1) := k1.trans hb
  have B2 := B1.keep hb
  have C2 := C1.keep hb
  have b0 := B2.c0
  have b1 := B2.c1
  have b2 := B2.c2
  have b3 := B2.c3
  have b4 := B2.c4
  have b5 := B2.c5
  have b6 := B2.c6
  have b7 := B2.c7
  have bl := B2.lt
  have c0 := C2.c0
  have c1 := C2.c1
  have c2 := C2.c2
  have c3 := C2.c3
  have c4 := C2.c4
  have c5 := C2.c5
  have c6 := C2.c6
  have cl := C2.lt
  clear k1 B1 C1 hb C2 B2
  cases q1 : (nodeErr l s == 0) with
  | false =>
    have q1' : (nodeErr l s != 0) = true := by simp [bne, q1]
    have HE2 : Hid (runErr l s n = nodeErr l s) := by show _ = _; rw [HE.out, q1]; rfl
    go_wp2_with fail
    go_ret
    exact ⟨ret_int HE2.out.symm, HK1.out⟩
  | true =>
    have q1' : (nodeErr l s != 0) = false := by simp [bne, q1]
    have q0 : nodeErr l s = 0 := by simpa using q1
    have HNR := (show Hid _ from node_right q0)
    cases q2 : inB n 0 50 with
    | false =>
      have HE2 : Hid (runErr l s n = 3) := by show _ = _; rw [HE.out, q1, q2]; rfl
      go_wp2_with (first | (go_at_call 45; refine (bound_in _ _ _ _).mono ?_; rintro e w' ⟨rfl, rfl⟩))
      go_ret
      exact ⟨ret_int HE2.out.symm, HK1.out⟩
    | true =>
      go_wp2_with (first | (go_at_call 45; refine (bound_in _ _ _ _).mono ?_; rintro e w' ⟨rfl, rfl⟩))
      refine (node_fits l s _ _ ta tc w1 (HT.out.keep HK1.out) (HL.out.keep HK1.out) (HY.out.keep HK1.out) HNR.out.1 HNR.out.2 hcap).mono ?_
      rintro e w2 ⟨rfl, hb⟩
      have HK2 : Hid (Keeps w w2) := HK1.out.trans hb
      clear hb
      cases q3 : fitsB l s with
      | false =>
        have HE2 : Hid (runErr l s n = 1) := by show _ = _; rw [HE.out, q1, q2, q3]; rfl
        go_wp2_with fail
        go_ret
        exact ⟨ret_int HE2.out.symm, HK2.out⟩
      | true =>
        have HE2 : Hid (runErr l s n = 0) := by show _ = _; rw [HE.out, q1, q2, q3]; rfl
        go_wp2_with fail
        go_ret
        exact ⟨ret_int HE2.out.symm, HK2.out⟩
end Go.Proofs.YteabfjpajgakiagGreat

/- Groups: what they are in memory; group.Check. -/
set_option linter.unusedSimpArgs false
set_option linter.unusedVariables false
set_option maxRecDepth 10000
namespace Go.Proofs.YteabfjpajgakiagGreat
open Go.RowKit

structure Grp where
  log : Lg
  n0 : St
  n1 : St
  n2 : St
def zeroGrp : Grp := ⟨⟨zeroSt, []⟩, zeroSt, zeroSt, zeroSt⟩
/-- A variable of cells. -/
def CBox (b : Nat) (cs : List Value) (w : World) : Prop := (∀ i u, cs[i]? = some u → w.cell? ⟨b, i, none⟩ = some u) ∧ ∀ i, w.frozen? ⟨b, i, none⟩ = false
theorem CBox.lt {b : Nat} {cs : List Value} {w : World} (h : CBox b cs w) (hc : 0 < cs.length) : b < w.heap.size := World.block_lt_of_cell? _ _ (h.1 0 _ (List.getElem?_eq_getElem hc))
theorem CBox.same {b : Nat} {cs : List Value} {w w' : World} (h : CBox b cs w) (he : w'.heap[b]? = w.heap[b]?) : CBox b cs w' := ⟨fun i u hu => (World.cell?_of_block he).trans (h.1 i u hu), fun i => (World.frozen?_of_block he).trans (h.2 i)⟩
theorem CBox.keep {b : Nat} {cs : List Value} {w w' : World} (h : CBox b cs w) (hk : Keeps w w') (hc : 0 < cs.length := by simp) : CBox b cs w' := h.same (hk.block b (h.lt hc))
theorem CBox.other {b c : Nat} {cs : List Value} {w w' : World} (h : CBox b cs w) (hk : But c w w') (hb : b ≠ c) (hc : 0 < cs.length := by simp) : CBox b cs w' := h.same (hk.block b (h.lt hc) hb)
theorem CBox.new (w : World) (cs : List Value) (ty : TypeId) : CBox w.heap.size cs (w.alloc (.cells cs.toArray ty)) := by
  refine ⟨fun i u hu => ?_, fun i => ?_⟩
  · unfold World.cell?
    rw [World.alloc_heap_new]
    simpa using hu
  · simp [go_sem]

theorem range_of {b : Nat} {cs : List Value} {w : World} (h : CBox b cs w) (o n : Nat) {ds : List Value} (hd : (cs.drop o).take n = ds) : w.rangeAt b o ds := by
  intro j v hv
  refine h.1 (o + j) v ?_
  rw [← hd] at hv
  rw [List.getElem?_take] at hv
  split at hv
  · rw [List.getElem?_drop] at hv
    exact hv
  · cases hv

def oneErr (l : Lg) (s : St) : Int := if nodeErr l s == 0 then (if fitsOk l s then 0 else 1) else nodeErr l s
def grErr (g : Grp) : Int := if lgErr g.log == 0 then (if oneErr g.log g.n0 == 0 then (if oneErr g.log g.n1 == 0 then oneErr g.log g.n2 else oneErr g.log g.n1) else oneErr g.log g.n0) else lgErr g.log
theorem oneErr_bad {l : Lg} {s : St} (h : (nodeErr l s == 0) = false) : oneErr l s = nodeErr l s := by unfold oneErr; rw [h]; rfl
theorem oneErr_misfit {l : Lg} {s : St} (h : (nodeErr l s == 0) = true) (hf : fitsOk l s = false) : oneErr l s = 1 := by unfold oneErr; rw [h, hf]; rfl
theorem oneErr_fit {l : Lg} {s : St} (h : (nodeErr l s == 0) = true) (hf : fitsOk l s = true) : oneErr l s = 0 := by unfold oneErr; rw [h, hf]; rfl

theorem gr_index0 (c0 c1 c2 c3 c4 c5 c6 c7 c8 c9 c10 c11 c12 c13 c14 c15 c16 c17 c18 c19 c20 : Value) (w : World) : (Instr.index 29 (.agg #[c0, c1, c2, c3, c4, c5, c6, c7, c8, c9, c10, c11, c12, c13, c14, c15, c16, c17, c18, c19, c20]) (.int .i64 0)).run Tryz.prog w = .ok (.agg #[c0, c1, c2, c3, c4, c5, c6]) w := by kernel_rfl
theorem gr_index1 (c0 c1 c2 c3 c4 c5 c6 c7 c8 c9 c10 c11 c12 c13 c14 c15 c16 c17 c18 c19 c20 : Value) (w : World) : (Instr.index 29 (.agg #[c0, c1, c2, c3, c4, c5, c6, c7, c8, c9, c10, c11, c12, c13, c14, c15, c16, c17, c18, c19, c20]) (.int .i64 1)).run Tryz.prog w = .ok (.agg #[c7, c8, c9, c10, c11, c12, c13]) w := by kernel_rfl
theorem gr_index2 (c0 c1 c2 c3 c4 c5 c6 c7 c8 c9 c10 c11 c12 c13 c14 c15 c16 c17 c18 c19 c20 : Value) (w : World) : (Instr.index 29 (.agg #[c0, c1, c2, c3, c4, c5, c6, c7, c8, c9, c10, c11, c12, c13, c14, c15, c16, c17, c18, c19, c20]) (.int .i64 2)).run Tryz.prog w = .ok (.agg #[c14, c15, c16, c17, c18, c19, c20]) w := by kernel_rfl
end Go.Proofs.YteabfjpajgakiagGreat

/- group.Check: of a hall. -/
set_option linter.unusedSimpArgs false
set_option linter.unusedVariables false
set_option maxRecDepth 10000
namespace Go.Proofs.YteabfjpajgakiagGreat
open Go.RowKit

set_option maxHeartbeats 8000000 in
theorem hall_check (g : Grp) (x y0 y1 y2 : Value) (ta : Option Addr) (tc : Nat) (b : Nat) (w : World) (hT : TabAt w x g.log.base.tab) (hL : EntsAt w (.slice ta g.log.tail.length tc) g.log.tail) (h0 : TabAt w y0 g.n0.tab) (h1 : TabAt w y1 g.n1.tab) (h2 : TabAt w y2 g.n2.tab) (hcap : g.log.tail.length ≤ tc) (hB : CBox b [.int .i64 g.log.base.at_, .int .i64 g.log.base.clock, .int .i64 g.log.base.v0, .int .i64 g.log.base.v1, .int .i64 g.log.base.v2, .int .i64 g.log.base.v3, x, .slice ta g.log.tail.length tc, .int .i64 g.n0.at_, .int .i64 g.n0.clock, .int .i64 g.n0.v0, .int .i64 g.n0.v1, .int .i64 g.n0.v2, .int .i64 g.n0.v3, y0, .int .i64 g.n1.at_, .int .i64 g.n1.clock, .int .i64 g.n1.v0, .int .i64 g.n1.v1, .int .i64 g.n1.v2, .int .i64 g.n1.v3, y1, .int .i64 g.n2.at_, .int .i64 g.n2.clock, .int .i64 g.n2.v0, .int .i64 g.n2.v1, .int .i64 g.n2.v2, .int .i64 g.n2.v3, y2] w) : Calls Tryz.prog 41 #[.pointer (some ⟨b, 0, none⟩)] w fun e w' => e = .returned (.int .i64 (grErr g)) ∧ Keeps w w' := by
  obtain ⟨xa, xc, rfl, _⟩ := hT.len
  obtain ⟨ya0, yc0, rfl, _⟩ := h0.len
  obtain ⟨ya1, yc1, rfl, _⟩ := h1.len
  obtain ⟨ya2, yc2, rfl, _⟩ := h2.len
  have HT : Hid (TabAt w (.slice xa g.log.base.tab.length xc) g.log.base.tab) := hT
  have HL : Hid (EntsAt w (.slice ta g.log.tail.length tc) g.log.tail) := hL
  have HY0 : Hid (TabAt w (.slice ya0 g.n0.tab.length yc0) g.n0.tab) := h0
  have HY1 : Hid (TabAt w (.slice ya1 g.n1.tab.length yc1) g.n1.tab) := h1
  have HY2 : Hid (TabAt w (.slice ya2 g.n2.tab.length yc2) g.n2.tab) := h2
  clear hT hL h0 h1 h2
  have HB : Hid (CBox b [.int .i64 g.log.base.at_, .int .i64 g.log.base.clock, .int .i64 g.log.base.v0, .int .i64 g.log.base.v1, .int .i64 g.log.base.v2, .int .i64 g.log.base.v3, .slice xa g.log.base.tab.length xc, .slice ta g.log.tail.length tc, .int .i64 g.n0.at_, .int .i64 g.n0.clock, .int .i64 g.n0.v0, .int .i64 g.n0.v1, .int .i64 g.n0.v2, .int .i64 g.n0.v3, .slice ya0 g.n0.tab.length yc0, .int .i64 g.n1.at_, .int .i64 g.n1.clock, .int .i64 g.n1.v0, .int .i64 g.n1.v1, .int .i64 g.n1.v2, .int .i64 g.n1.v3, .slice ya1 g.n1.tab.length yc1, .int .i64 g.n2.at_, .int .i64 g.n2.clock, .int .i64 g.n2.v0, .int .i64 g.n2.v1, .int .i64 g.n2.v2, .int .i64 g.n2.v3, .slice ya2 g.n2.tab.length yc2] w) := hB
  clear hB
  have HE : Hid (grErr g = if lgErr g.log == 0 then (if oneErr g.log g.n0 == 0 then (if oneErr g.log g.n1 == 0 then oneErr g.log g.n2 else oneErr g.log g.n1) else oneErr g.log g.n0) else lgErr g.log) := rfl
  have HF0 : Hid (∀ W, Keeps w W → Calls Tryz.prog 58 #[lgV g.log (.slice xa g.log.base.tab.length xc) (.slice ta g.log.tail.length tc), stV g.n0 (.slice ya0 g.n0.tab.length yc0)] W fun e w' => e = .returned (.tuple #[.bool (fitsOk g.log g.n0), .int .i64 (nodeErr g.log g.n0)]) ∧ Keeps W w') := fun W hk => node_fits_c g.log g.n0 _ _ ta tc W (HT.out.keep hk) (HL.out.keep hk) (HY0.out.keep hk) hcap
  have HF1 : Hid (∀ W, Keeps w W → Calls Tryz.prog 58 #[lgV g.log (.slice xa g.log.base.tab.length xc) (.slice ta g.log.tail.length tc), stV g.n1 (.slice ya1 g.n1.tab.length yc1)] W fun e w' => e = .returned (.tuple #[.bool (fitsOk g.log g.n1), .int .i64 (nodeErr g.log g.n1)]) ∧ Keeps W w') := fun W hk => node_fits_c g.log g.n1 _ _ ta tc W (HT.out.keep hk) (HL.out.keep hk) (HY1.out.keep hk) hcap
  have HF2 : Hid (∀ W, Keeps w W → Calls Tryz.prog 58 #[lgV g.log (.slice xa g.log.base.tab.length xc) (.slice ta g.log.tail.length tc), stV g.n2 (.slice ya2 g.n2.tab.length yc2)] W fun e w' => e = .returned (.tuple #[.bool (fitsOk g.log g.n2), .int .i64 (nodeErr g.log g.n2)]) ∧ Keeps W w') := fun W hk => node_fits_c g.log g.n2 _ _ ta tc W (HT.out.keep hk) (HL.out.keep hk) (HY2.out.keep hk) hcap
  have c0 := HB.out.1 0 _ rfl
  have c1 := HB.out.1 1 _ rfl
  have c2 := HB.out.1 2 _ rfl
  have c3 := HB.out.1 3 _ rfl
  have c4 := HB.out.1 4 _ rfl
  have c5 := HB.out.1 5 _ rfl
  have c6 := HB.out.1 6 _ rfl
  have c7 := HB.out.1 7 _ rfl
  have cl := HB.out.lt (by simp)
  go_enter Tryz.func41, Tryz.ntmps41
  go_wp2_with fail
  refine (pack_check g.log _ _ w HT.out HL.out).mono ?_
  rintro e w1 ⟨rfl, hb⟩
  have HK1 : Hid (Keeps w w1) := hb
  clear hb c0 c1 c2 c3 c4 c5 c6 c7 cl
  cases q0 : (lgErr g.log == 0) with
  | false =>
    have q' : (lgErr g.log != 0) = true := by simp [bne, q0]
    have HQ : Hid (grErr g = lgErr g.log) := by show _ = _; rw [HE.out, q0]; rfl
    go_wp2_with fail
    go_ret
    rw [HQ.out]
    exact ⟨rfl, HK1.out⟩
  | true =>
    have q' : (lgErr g.log != 0) = false := by simp [bne, q0]
    have HR8 : w1.rangeAt b 8 [.int .i64 g.n0.at_, .int .i64 g.n0.clock, .int .i64 g.n0.v0, .int .i64 g.n0.v1, .int .i64 g.n0.v2, .int .i64 g.n0.v3, .slice ya0 g.n0.tab.length yc0, .int .i64 g.n1.at_, .int .i64 g.n1.clock, .int .i64 g.n1.v0, .int .i64 g.n1.v1, .int .i64 g.n1.v2, .int .i64 g.n1.v3, .slice ya1 g.n1.tab.length yc1, .int .i64 g.n2.at_, .int .i64 g.n2.clock, .int .i64 g.n2.v0, .int .i64 g.n2.v1, .int .i64 g.n2.v2, .int .i64 g.n2.v3, .slice ya2 g.n2.tab.length yc2] := range_of (HB.out.keep HK1.out) 8 21 rfl
    go_wp2_with (refine wpList_load_mid rfl 29 _ rfl b 8 rfl [.int .i64 g.n0.at_, .int .i64 g.n0.clock, .int .i64 g.n0.v0, .int .i64 g.n0.v1, .int .i64 g.n0.v2, .int .i64 g.n0.v3, .slice ya0 g.n0.tab.length yc0, .int .i64 g.n1.at_, .int .i64 g.n1.clock, .int .i64 g.n1.v0, .int .i64 g.n1.v1, .int .i64 g.n1.v2, .int .i64 g.n1.v3, .slice ya1 g.n1.tab.length yc1, .int .i64 g.n2.at_, .int .i64 g.n2.clock, .int .i64 g.n2.v0, .int .i64 g.n2.v1, .int .i64 g.n2.v2, .int .i64 g.n2.v3, .slice ya2 g.n2.tab.length yc2] _ HR8 Tryz.underlying29 rfl (by kernel_rfl) ?_)
    clear HR8
    refine wp_loop_rounds 4 ?_
    as_aux_lemma =>
      rw [rounds_succ]
      have ix : ∀ w, (Instr.index 29 (.agg #[.int .i64 g.n0.at_, .int .i64 g.n0.clock, .int .i64 g.n0.v0, .int .i64 g.n0.v1, .int .i64 g.n0.v2, .int .i64 g.n0.v3, .slice ya0 g.n0.tab.length yc0, .int .i64 g.n1.at_, .int .i64 g.n1.clock, .int .i64 g.n1.v0, .int .i64 g.n1.v1, .int .i64 g.n1.v2, .int .i64 g.n1.v3, .slice ya1 g.n1.tab.length yc1, .int .i64 g.n2.at_, .int .i64 g.n2.clock, .int .i64 g.n2.v0, .int .i64 g.n2.v1, .int .i64 g.n2.v2, .int .i64 g.n2.v3, .slice ya2 g.n2.tab.length yc2]) (.int .i64 0)).run Tryz.prog w = .ok (stV g.n0 (.slice ya0 g.n0.tab.length yc0)) w := fun w => gr_index0 _ _ _ _ _ _ _ _ _ _ _ _ _ _ _ _ _ _ _ _ _ w
      go_wp2_with fail
      have k0 : Keeps w1 (w1.alloc (.cells #[.int .i64 g.n0.at_, .int .i64 g.n0.clock, .int .i64 g.n0.v0, .int .i64 g.n0.v1, .int .i64 g.n0.v2, .int .i64 g.n0.v3, .slice ya0 g.n0.tab.length yc0] 25)) := (Keeps.refl _).alloc _
      have HS0 : Hid (StBox w1.heap.size g.n0 (.slice ya0 g.n0.tab.length yc0) (w1.alloc (.cells #[.int .i64 g.n0.at_, .int .i64 g.n0.clock, .int .i64 g.n0.v0, .int .i64 g.n0.v1, .int .i64 g.n0.v2, .int .i64 g.n0.v3, .slice ya0 g.n0.tab.length yc0] 25))) := StBox.new w1 g.n0 _ 25
      generalize w1.alloc (.cells #[.int .i64 g.n0.at_, .int .i64 g.n0.clock, .int .i64 g.n0.v0, .int .i64 g.n0.v1, .int .i64 g.n0.v2, .int .i64 g.n0.v3, .slice ya0 g.n0.tab.length yc0] 25) = v0 at *
      generalize w1.heap.size = sb0 at *
      have HKv0 : Hid (Keeps w v0) := HK1.out.trans k0
      clear ix k0
      have hne := After.some v0
      have HBv : Hid (CBox b [.int .i64 g.log.base.at_, .int .i64 g.log.base.clock, .int .i64 g.log.base.v0, .int .i64 g.log.base.v1, .int .i64 g.log.base.v2, .int .i64 g.log.base.v3, .slice xa g.log.base.tab.length xc, .slice ta g.log.tail.length tc, .int .i64 g.n0.at_, .int .i64 g.n0.clock, .int .i64 g.n0.v0, .int .i64 g.n0.v1, .int .i64 g.n0.v2, .int .i64 g.n0.v3, .slice ya0 g.n0.tab.length yc0, .int .i64 g.n1.at_, .int .i64 g.n1.clock, .int .i64 g.n1.v0, .int .i64 g.n1.v1, .int .i64 g.n1.v2, .int .i64 g.n1.v3, .slice ya1 g.n1.tab.length yc1, .int .i64 g.n2.at_, .int .i64 g.n2.clock, .int .i64 g.n2.v0, .int .i64 g.n2.v1, .int .i64 g.n2.v2, .int .i64 g.n2.v3, .slice ya2 g.n2.tab.length yc2] v0) := HB.out.keep HKv0.out
      have HCF : Hid (∀ t : After v0, Calls Tryz.prog 58 #[lgV g.log (.slice xa g.log.base.tab.length xc) (.slice ta g.log.tail.length tc), stV g.n0 (.slice ya0 g.n0.tab.length yc0)] t.w fun e w' => e = .returned (.tuple #[.bool (fitsOk g.log g.n0), .int .i64 (nodeErr g.log g.n0)]) ∧ Keeps t.w w') := fun t => HF0.out t.w (HKv0.out.trans t.h)
      have c0 := fun t : After v0 => (HBv.out.keep t.h).1 0 _ rfl
      have c1 := fun t : After v0 => (HBv.out.keep t.h).1 1 _ rfl
      have c2 := fun t : After v0 => (HBv.out.keep t.h).1 2 _ rfl
      have c3 := fun t : After v0 => (HBv.out.keep t.h).1 3 _ rfl
      have c4 := fun t : After v0 => (HBv.out.keep t.h).1 4 _ rfl
      have c5 := fun t : After v0 => (HBv.out.keep t.h).1 5 _ rfl
      have c6 := fun t : After v0 => (HBv.out.keep t.h).1 6 _ rfl
      have c7 := fun t : After v0 => (HBv.out.keep t.h).1 7 _ rfl
      have cl := fun t : After v0 => (HBv.out.keep t.h).lt (by simp)
      have s0 := fun t : After v0 => (HS0.out.keep t.h).c0
      have s1 := fun t : After v0 => (HS0.out.keep t.h).c1
      have s2 := fun t : After v0 => (HS0.out.keep t.h).c2
      have s3 := fun t : After v0 => (HS0.out.keep t.h).c3
      have s4 := fun t : After v0 => (HS0.out.keep t.h).c4
      have s5 := fun t : After v0 => (HS0.out.keep t.h).c5
      have s6 := fun t : After v0 => (HS0.out.keep t.h).c6
      have sl := fun t : After v0 => (HS0.out.keep t.h).lt
      refine wp_region_after (by kernel_rfl) (by kernel_rfl) ?_
      repeat (first | go_big_quiet_skip | (go_big_quiet_want; go_big_quiet_op; first | go_big_quiet_on | (apply Exists.intro; refine ⟨fun _ => ?_, ?_⟩; (first | (go_at_call 58; exact calls_after (HCF.out _))); go_big_quiet_on)))
      refine wpQuiet_nil ?_
      rintro _ ⟨r, rfl⟩
      have HKr0 : Hid (Keeps w r.w) := HKv0.out.trans r.h
      obtain ⟨u0, hu0⟩ : ∃ z, z = r.w := ⟨_, rfl⟩
      rw [← hu0] at HKr0 ⊢
      clear hne HBv HCF c0 c1 c2 c3 c4 c5 c6 c7 cl s0 s1 s2 s3 s4 s5 s6 sl hu0 r HS0 HKv0
      cases a0 : (nodeErr g.log g.n0 == 0) with
      | false =>
        have a' : (nodeErr g.log g.n0 != 0) = true := by simp [bne, a0]
        have HQ : Hid (grErr g = nodeErr g.log g.n0) := by show _ = _; rw [HE.out, q0, oneErr_bad a0]; simp only [a0]; rfl
        go_wp2_with fail
        go_ret
        rw [HQ.out]
        exact ⟨rfl, HKr0.out⟩
      | true =>
        have a' : (nodeErr g.log g.n0 != 0) = false := by simp [bne, a0]
        cases b0 : fitsOk g.log g.n0 with
        | false =>
          have HQ : Hid (grErr g = 1) := by show _ = _; rw [HE.out, q0, oneErr_misfit a0 b0]; rfl
          go_wp2_with fail
          go_ret
          rw [HQ.out]
          exact ⟨rfl, HKr0.out⟩
        | true =>
          have p0 : (oneErr g.log g.n0 == 0) = true := by rw [oneErr_fit a0 b0]; rfl
          go_wp2_with fail
          as_aux_lemma =>
            rw [rounds_succ]
            have ix : ∀ w, (Instr.index 29 (.agg #[.int .i64 g.n0.at_, .int .i64 g.n0.clock, .int .i64 g.n0.v0, .int .i64 g.n0.v1, .int .i64 g.n0.v2, .int .i64 g.n0.v3, .slice ya0 g.n0.tab.length yc0, .int .i64 g.n1.at_, .int .i64 g.n1.clock, .int .i64 g.n1.v0, .int .i64 g.n1.v1, .int .i64 g.n1.v2, .int .i64 g.n1.v3, .slice ya1 g.n1.tab.length yc1, .int .i64 g.n2.at_, .int .i64 g.n2.clock, .int .i64 g.n2.v0, .int .i64 g.n2.v1, .int .i64 g.n2.v2, .int .i64 g.n2.v3, .slice ya2 g.n2.tab.length yc2]) (.int .i64 1)).run Tryz.prog w = .ok (stV g.n1 (.slice ya1 g.n1.tab.length yc1)) w := fun w => gr_index1 _ _ _ _ _ _ _ _ _ _ _ _ _ _ _ _ _ _ _ _ _ w
            go_wp2_with fail
            have k1 : Keeps u0 (u0.alloc (.cells #[.int .i64 g.n1.at_, .int .i64 g.n1.clock, .int .i64 g.n1.v0, .int .i64 g.n1.v1, .int .i64 g.n1.v2, .int .i64 g.n1.v3, .slice ya1 g.n1.tab.length yc1] 25)) := (Keeps.refl _).alloc _
            have HS1 : Hid (StBox u0.heap.size g.n1 (.slice ya1 g.n1.tab.length yc1) (u0.alloc (.cells #[.int .i64 g.n1.at_, .int .i64 g.n1.clock, .int .i64 g.n1.v0, .int .i64 g.n1.v1, .int .i64 g.n1.v2, .int .i64 g.n1.v3, .slice ya1 g.n1.tab.length yc1] 25))) := StBox.new u0 g.n1 _ 25
            generalize u0.alloc (.cells #[.int .i64 g.n1.at_, .int .i64 g.n1.clock, .int .i64 g.n1.v0, .int .i64 g.n1.v1, .int .i64 g.n1.v2, .int .i64 g.n1.v3, .slice ya1 g.n1.tab.length yc1] 25) = v1 at *
            generalize u0.heap.size = sb1 at *
            have HKv1 : Hid (Keeps w v1) := HKr0.out.trans k1
            clear ix k1
            have hne := After.some v1
            have HBv : Hid (CBox b [.int .i64 g.log.base.at_, .int .i64 g.log.base.clock, .int .i64 g.log.base.v0, .int .i64 g.log.base.v1, .int .i64 g.log.base.v2, .int .i64 g.log.base.v3, .slice xa g.log.base.tab.length xc, .slice ta g.log.tail.length tc, .int .i64 g.n0.at_, .int .i64 g.n0.clock, .int .i64 g.n0.v0, .int .i64 g.n0.v1, .int .i64 g.n0.v2, .int .i64 g.n0.v3, .slice ya0 g.n0.tab.length yc0, .int .i64 g.n1.at_, .int .i64 g.n1.clock, .int .i64 g.n1.v0, .int .i64 g.n1.v1, .int .i64 g.n1.v2, .int .i64 g.n1.v3, .slice ya1 g.n1.tab.length yc1, .int .i64 g.n2.at_, .int .i64 g.n2.clock, .int .i64 g.n2.v0, .int .i64 g.n2.v1, .int .i64 g.n2.v2, .int .i64 g.n2.v3, .slice ya2 g.n2.tab.length yc2] v1) := HB.out.keep HKv1.out
            have HCF : Hid (∀ t : After v1, Calls Tryz.prog 58 #[lgV g.log (.slice xa g.log.base.tab.length xc) (.slice ta g.log.tail.length tc), stV g.n1 (.slice ya1 g.n1.tab.length yc1)] t.w fun e w' => e = .returned (.tuple #[.bool (fitsOk g.log g.n1), .int .i64 (nodeErr g.log g.n1)]) ∧ Keeps t.w w') := fun t => HF1.out t.w (HKv1.out.trans t.h)
            have c0 := fun t : After v1 => (HBv.out.keep t.h).1 0 _ rfl
            have c1 := fun t : After v1 => (HBv.out.keep t.h).1 1 _ rfl
            have c2 := fun t : After v1 => (HBv.out.keep t.h).1 2 _ rfl
            have c3 := fun t : After v1 => (HBv.out.keep t.h).1 3 _ rfl
            have c4 := fun t : After v1 => (HBv.out.keep t.h).1 4 _ rfl
            have c5 := fun t : After v1 => (HBv.out.keep t.h).1 5 _ rfl
            have c6 := fun t : After v1 => (HBv.out.keep t.h).1 6 _ rfl
            have c7 := fun t : After v1 => (HBv.out.keep t.h).1 7 _ rfl
            have cl := fun t : After v1 => (HBv.out.keep t.h).lt (by simp)
            have s0 := fun t : After v1 => (HS1.out.keep t.h).c0
            have s1 := fun t : After v1 => (HS1.out.keep t.h).c1
            have s2 := fun t : After v1 => (HS1.out.keep t.h).c2
            have s3 := fun t : After v1 => (HS1.out.keep t.h).c3
            have s4 := fun t : After v1 => (HS1.out.keep t.h).c4
            have s5 := fun t : After v1 => (HS1.out.keep t.h).c5
            have s6 := fun t : After v1 => (HS1.out.keep t.h).c6
            have sl := fun t : After v1 => (HS1.out.keep t.h).lt
            refine wp_region_after (by kernel_rfl) (by kernel_rfl) ?_
            repeat (first | go_big_quiet_skip | (go_big_quiet_want; go_big_quiet_op; first | go_big_quiet_on | (apply Exists.intro; refine ⟨fun _ => ?_, ?_⟩; (first | (go_at_call 58; exact calls_after (HCF.out _))); go_big_quiet_on)))
            refine wpQuiet_nil ?_
            rintro _ ⟨r, rfl⟩
            have HKr1 : Hid (Keeps w r.w) := HKv1.out.trans r.h
            obtain ⟨u1, hu1⟩ : ∃ z, z = r.w := ⟨_, rfl⟩
            rw [← hu1] at HKr1 ⊢
            clear hne HBv HCF c0 c1 c2 c3 c4 c5 c6 c7 cl s0 s1 s2 s3 s4 s5 s6 sl hu1 r HS1 HKv1
            cases a1 : (nodeErr g.log g.n1 == 0) with
            | false =>
              have a' : (nodeErr g.log g.n1 != 0) = true := by simp [bne, a1]
              have HQ : Hid (grErr g = nodeErr g.log g.n1) := by show _ = _; rw [HE.out, q0, p0, oneErr_bad a1]; simp only [a1]; rfl
              go_wp2_with fail
              go_ret
              rw [HQ.out]
              exact ⟨rfl, HKr1.out⟩
            | true =>
              have a' : (nodeErr g.log g.n1 != 0) = false := by simp [bne, a1]
              cases b1 : fitsOk g.log g.n1 with
              | false =>
                have HQ : Hid (grErr g = 1) := by show _ = _; rw [HE.out, q0, p0, oneErr_misfit a1 b1]; rfl
                go_wp2_with fail
                go_ret
                rw [HQ.out]
                exact ⟨rfl, HKr1.out⟩
              | true =>
                have p1 : (oneErr g.log g.n1 == 0) = true := by rw [oneErr_fit a1 b1]; rfl
                go_wp2_with fail
                as_aux_lemma =>
                  rw [rounds_succ]
                  have ix : ∀ w, (Instr.index 29 (.agg #[.int .i64 g.n0.at_, .int .i64 g.n0.clock, .int .i64 g.n0.v0, .int .i64 g.n0.v1, .int .i64 g.n0.v2, .int .i64 g.n0.v3, .slice ya0 g.n0.tab.length yc0, .int .i64 g.n1.at_, .int .i64 g.n1.clock, .int .i64 g.n1.v0, .int .i64 g.n1.v1, .int .i64 g.n1.v2, .int .i64 g.n1.v3, .slice ya1 g.n1.tab.length yc1, .int .i64 g.n2.at_, .int .i64 g.n2.clock, .int .i64 g.n2.v0, .int .i64 g.n2.v1, .int .i64 g.n2.v2, .int .i64 g.n2.v3, .slice ya2 g.n2.tab.length yc2]) (.int .i64 2)).run Tryz.prog w = .ok (stV g.n2 (.slice ya2 g.n2.tab.length yc2)) w := fun w => gr_index2 _ _ _ _ _ _ _ _ _ _ _ _ _ _ _ _ _ _ _ _ _ w
                  go_wp2_with fail
                  have k2 : Keeps u1 (u1.alloc (.cells #[.int .i64 g.n2.at_, .int .i64 g.n2.clock, .int .i64 g.n2.v0, .int .i64 g.n2.v1, .int .i64 g.n2.v2, .int .i64 g.n2.v3, .slice ya2 g.n2.tab.length yc2] 25)) := (Keeps.refl _).alloc _
                  have HS2 : Hid (StBox u1.heap.size g.n2 (.slice ya2 g.n2.tab.length yc2) (u1.alloc (.cells #[.int .i64 g.n2.at_, .int .i64 g.n2.clock, .int .i64 g.n2.v0, .int .i64 g.n2.v1, .int .i64 g.n2.v2, .int .i64 g.n2.v3, .slice ya2 g.n2.tab.length yc2] 25))) := StBox.new u1 g.n2 _ 25
                  generalize u1.alloc (.cells #[.int .i64 g.n2.at_, .int .i64 g.n2.clock, .int .i64 g.n2.v0, .int .i64 g.n2.v1, .int .i64 g.n2.v2, .int .i64 g.n2.v3, .slice ya2 g.n2.tab.length yc2] 25) = v2 at *
                  generalize u1.heap.size = sb2 at *
                  have HKv2 : Hid (Keeps w v2) := HKr1.out.trans k2
                  clear ix k2
                  have hne := After.some v2
                  have HBv : Hid (CBox b [.int .i64 g.log.base.at_, .int .i64 g.log.base.clock, .int .i64 g.log.base.v0, .int .i64 g.log.base.v1, .int .i64 g.log.base.v2, .int .i64 g.log.base.v3, .slice xa g.log.base.tab.length xc, .slice ta g.log.tail.length tc, .int .i64 g.n0.at_, .int .i64 g.n0.clock, .int .i64 g.n0.v0, .int .i64 g.n0.v1, .int .i64 g.n0.v2, .int .i64 g.n0.v3, .slice ya0 g.n0.tab.length yc0, .int .i64 g.n1.at_, .int .i64 g.n1.clock, .int .i64 g.n1.v0, .int .i64 g.n1.v1, .int .i64 g.n1.v2, .int .i64 g.n1.v3, .slice ya1 g.n1.tab.length yc1, .int .i64 g.n2.at_, .int .i64 g.n2.clock, .int .i64 g.n2.v0, .int .i64 g.n2.v1, .int .i64 g.n2.v2, .int .i64 g.n2.v3, .slice ya2 g.n2.tab.length yc2] v2) := HB.out.keep HKv2.out
                  have HCF : Hid (∀ t : After v2, Calls Tryz.prog 58 #[lgV g.log (.slice xa g.log.base.tab.length xc) (.slice ta g.log.tail.length tc), stV g.n2 (.slice ya2 g.n2.tab.length yc2)] t.w fun e w' => e = .returned (.tuple #[.bool (fitsOk g.log g.n2), .int .i64 (nodeErr g.log g.n2)]) ∧ Keeps t.w w') := fun t => HF2.out t.w (HKv2.out.trans t.h)
                  have c0 := fun t : After v2 => (HBv.out.keep t.h).1 0 _ rfl
                  have c1 := fun t : After v2 => (HBv.out.keep t.h).1 1 _ rfl
                  have c2 := fun t : After v2 => (HBv.out.keep t.h).1 2 _ rfl
                  have c3 := fun t : After v2 => (HBv.out.keep t.h).1 3 _ rfl
                  have c4 := fun t : After v2 => (HBv.out.keep t.h).1 4 _ rfl
                  have c5 := fun t : After v2 => (HBv.out.keep t.h).1 5 _ rfl
                  have c6 := fun t : After v2 => (HBv.out.keep t.h).1 6 _ rfl
                  have c7 := fun t : After v2 => (HBv.out.keep t.h).1 7 _ rfl
                  have cl := fun t : After v2 => (HBv.out.keep t.h).lt (by simp)
                  have s0 := fun t : After v2 => (HS2.out.keep t.h).c0
                  have s1 := fun t : After v2 => (HS2.out.keep t.h).c1
                  have s2 := fun t : After v2 => (HS2.out.keep t.h).c2
                  have s3 := fun t : After v2 => (HS2.out.keep t.h).c3
                  have s4 := fun t : After v2 => (HS2.out.keep t.h).c4
                  have s5 := fun t : After v2 => (HS2.out.keep t.h).c5
                  have s6 := fun t : After v2 => (HS2.out.keep t.h).c6
                  have sl := fun t : After v2 => (HS2.out.keep t.h).lt
                  refine wp_region_after (by kernel_rfl) (by kernel_rfl) ?_
                  repeat (first | go_big_quiet_skip | (go_big_quiet_want; go_big_quiet_op; first | go_big_quiet_on | (apply Exists.intro; refine ⟨fun _ => ?_, ?_⟩; (first | (go_at_call 58; exact calls_after (HCF.out _))); go_big_quiet_on)))
                  refine wpQuiet_nil ?_
                  rintro _ ⟨r, rfl⟩
                  have HKr2 : Hid (Keeps w r.w) := HKv2.out.trans r.h
                  obtain ⟨u2, hu2⟩ : ∃ z, z = r.w := ⟨_, rfl⟩
                  rw [← hu2] at HKr2 ⊢
                  clear hne HBv HCF c0 c1 c2 c3 c4 c5 c6 c7 cl s0 s1 s2 s3 s4 s5 s6 sl hu2 r HS2 HKv2
                  cases a2 : (nodeErr g.log g.n2 == 0) with
                  | false =>
                    have a' : (nodeErr g.log g.n2 != 0) = true := by simp [bne, a2]
                    have HQ : Hid (grErr g = nodeErr g.log g.n2) := by show _ = _; rw [HE.out, q0, p0, p1, oneErr_bad a2]; simp only [a2]; rfl
                    go_wp2_with fail
                    go_ret
                    rw [HQ.out]
                    exact ⟨rfl, HKr2.out⟩
                  | true =>
                    have a' : (nodeErr g.log g.n2 != 0) = false := by simp [bne, a2]
                    cases b2 : fitsOk g.log g.n2 with
                    | false =>
                      have HQ : Hid (grErr g = 1) := by show _ = _; rw [HE.out, q0, p0, p1, oneErr_misfit a2 b2]; rfl
                      go_wp2_with fail
                      go_ret
                      rw [HQ.out]
                      exact ⟨rfl, HKr2.out⟩
                    | true =>
                      have p2 : (oneErr g.log g.n2 == 0) = true := by rw [oneErr_fit a2 b2]; rfl
                      go_wp2_with fail
                      as_aux_lemma =>
                        have HQ : Hid (grErr g = 0) := by show _ = _; rw [HE.out, q0, p0, p1]; exact oneErr_fit a2 b2
                        rw [rounds_succ]
                        go_wp2_with fail
                        go_ret
                        rw [HQ.out]
                        exact ⟨rfl, HKr2.out⟩
end Go.Proofs.YteabfjpajgakiagGreat

/- Variables of many cells, written whole; group.Check. -/
set_option linter.unusedSimpArgs false
set_option linter.unusedVariables false
set_option maxRecDepth 10000
namespace Go.Proofs.YteabfjpajgakiagGreat
open Go.RowKit

theorem CBox.there {b : Nat} {cs : List Value} {w : World} (h : CBox b cs w) (o n : Nat) (hn : o + n ≤ cs.length) : w.there b o n := fun j hj => ⟨by rw [h.1 (o + j) _ (List.getElem?_eq_getElem (by omega))]; rfl, h.2 _⟩
theorem frozen_setCells {b : Nat} : ∀ (vs : List Value) (o : Nat) (w : World) (a : Addr), (w.setCells b o vs).frozen? a = w.frozen? a
  | [], _, _, _ => rfl
  | v :: r, o, w, a => (frozen_setCells r (o + 1) _ a).trans (World.frozen?_setCell _ _ _ _)
/-- A variable that is written whole. -/
theorem CBox.puts {b : Nat} {cs : List Value} {w : World} (h : CBox b cs w) (ds : List Value) (hl : ds.length = cs.length) : CBox b ds (w.setCells b 0 ds) := by
  refine ⟨fun i u hu => ?_, fun i => (frozen_setCells ds 0 w _).trans (h.2 i)⟩
  have := World.rangeAt_setCells_same w b 0 ds (h.there 0 ds.length (by omega)) i u hu
  rwa [Nat.zero_add] at this
/-- A part of it. -/
theorem CBox.putAt {b o : Nat} {cs : List Value} {w : World} (h : CBox b cs w) (ds : List Value) (hl : o + ds.length ≤ cs.length) : CBox b (cs.take o ++ ds ++ cs.drop (o + ds.length)) (w.setCells b o ds) := by
  refine ⟨fun i u hu => ?_, fun i => (frozen_setCells ds o w _).trans (h.2 i)⟩
  by_cases h1 : i < o
  · rw [World.cell?_setCells_out b ds o w ⟨b, i, none⟩ (fun _ _ => .inl h1)]
    refine h.1 i u ?_
    rw [List.append_assoc, List.getElem?_append_left (by simp; omega), List.getElem?_take, if_pos h1] at hu
    exact hu
  · by_cases h2 : i < o + ds.length
    · have := World.rangeAt_setCells_same w b o ds (h.there o ds.length hl) (i - o) u (by
        rw [List.append_assoc, List.getElem?_append_right (by simp; omega), List.getElem?_append_left (by simp; omega)] at hu
        rw [List.length_take, Nat.min_eq_left (by omega)] at hu
        exact hu)
      rwa [show o + (i - o) = i by omega] at this
    · rw [World.cell?_setCells_out b ds o w ⟨b, i, none⟩ (fun _ _ => .inr (by simp; omega))]
      refine h.1 i u ?_
      rw [List.getElem?_append_right (by simp; omega), List.getElem?_drop] at hu
      rw [← hu]
      congr 1
      simp
      omega

/-- A parameter laid in memory: what its variable holds, and no more, is handed on. -/
theorem wpList_box_new {P : Program} {ops : Array Oper} {rest : List Oper} {op : Oper} {a : Act} {w : World} {Q : Exit → Act → World → Prop} (hgd : op.guard = none) (ty : TypeId) (x : Operand) (ho : op.op = .box ty x) (cs : List Value) (hx : a.eval x = .agg cs.toArray)
    (h : ∀ (w' : World) (b : Nat), CBox b cs w' → Keeps w w' → b < w'.heap.size → w.heap.size ≤ b → wpList P ops Q rest (a.put op.dst (.pointer (some ⟨b, 0, none⟩))) w') : wpList P ops Q (op :: rest) a w := by
  refine wpList_plain hgd fun K hK => ?_
  have hn := h (w.alloc (.cells cs.toArray ty)) w.heap.size (CBox.new w cs ty) ((Keeps.refl _).alloc _) (by simp) (Nat.le_refl _)
  have e1 : (execOp a.eval op).run P w = .ok (.value (.pointer (some ⟨w.heap.size, 0, none⟩))) (w.alloc (.cells cs.toArray ty)) := by
    generalize a.eval = f at hx
    simp [execOp, ho, hx, go_sem]
  unfold Oper.wp
  rw [e1]
  exact hK _ _ hn

/-- A variable that is made: the same. -/
theorem wpList_alloc_new {P : Program} {ops : Array Oper} {rest : List Oper} {op : Oper} {a : Act} {w : World} {Q : Exit → Act → World → Prop} (hgd : op.guard = none) (ty : TypeId) (ho : op.op = .alloc ty) (z : Value) (cs : List Value) (hz : (P.info? ty).map (·.zero) = some (some z)) (hc : z.cells = cs.toArray)
    (h : ∀ (w' : World) (b : Nat), CBox b cs w' → Keeps w w' → b < w'.heap.size → w.heap.size ≤ b → wpList P ops Q rest (a.put op.dst (.pointer (some ⟨b, 0, none⟩))) w') : wpList P ops Q (op :: rest) a w := by
  refine wpList_plain hgd fun K hK => ?_
  have hn := h (w.alloc (.cells cs.toArray ty)) w.heap.size (CBox.new w cs ty) ((Keeps.refl _).alloc _) (by simp) (Nat.le_refl _)
  obtain ⟨i, hi, hzi⟩ : ∃ i, P.info? ty = some i ∧ i.zero = some z := by
    cases q : P.info? ty with
    | none => rw [q] at hz; cases hz
    | some i => rw [q] at hz; exact ⟨i, rfl, by simpa using hz⟩
  have e1 : (execOp a.eval op).run P w = .ok (.value (.pointer (some ⟨w.heap.size, 0, none⟩))) (w.alloc (.cells cs.toArray ty)) := by
    generalize a.eval = f
    rw [← hc]
    simp [execOp, ho, hi, hzi, go_sem, typeInfo, zeroValue]
  unfold Oper.wp
  rw [e1]
  exact hK _ _ hn

end Go.Proofs.YteabfjpajgakiagGreat

/- Groups as lists of cells that are not looked into: laws for the walk; groups in memory. -/
set_option linter.unusedSimpArgs false
set_option linter.unusedVariables false
set_option maxRecDepth 10000
namespace Go.Proofs.YteabfjpajgakiagGreat
open Go.RowKit

/-- The cells of a group, of a log, of a state. -/
def GC (g : Grp) (x t y0 y1 y2 : Value) : List Value := [.int .i64 g.log.base.at_, .int .i64 g.log.base.clock, .int .i64 g.log.base.v0, .int .i64 g.log.base.v1, .int .i64 g.log.base.v2, .int .i64 g.log.base.v3, x, t, .int .i64 g.n0.at_, .int .i64 g.n0.clock, .int .i64 g.n0.v0, .int .i64 g.n0.v1, .int .i64 g.n0.v2, .int .i64 g.n0.v3, y0, .int .i64 g.n1.at_, .int .i64 g.n1.clock, .int .i64 g.n1.v0, .int .i64 g.n1.v1, .int .i64 g.n1.v2, .int .i64 g.n1.v3, y1, .int .i64 g.n2.at_, .int .i64 g.n2.clock, .int .i64 g.n2.v0, .int .i64 g.n2.v1, .int .i64 g.n2.v2, .int .i64 g.n2.v3, y2]
def LC (l : Lg) (x t : Value) : List Value := [.int .i64 l.base.at_, .int .i64 l.base.clock, .int .i64 l.base.v0, .int .i64 l.base.v1, .int .i64 l.base.v2, .int .i64 l.base.v3, x, t]
def SC (s : St) (t : Value) : List Value := [.int .i64 s.at_, .int .i64 s.clock, .int .i64 s.v0, .int .i64 s.v1, .int .i64 s.v2, .int .i64 s.v3, t]
abbrev gV (g : Grp) (x t y0 y1 y2 : Value) : Value := .agg (GC g x t y0 y1 y2).toArray
def ZC : List Value := GC zeroGrp (.slice none 0 0) (.slice none 0 0) (.slice none 0 0) (.slice none 0 0) (.slice none 0 0)
theorem zero31 : (Tryz.prog.info? 31).map (·.zero) = some (some (.agg ZC.toArray)) := by kernel_rfl
theorem zero48 : (Tryz.prog.info? 61).map (·.zero) = some (some (.agg ZC.toArray)) := by kernel_rfl
theorem size31 : (Tryz.prog.info? 31).map (·.size) = some 29 := by kernel_rfl
theorem size48 : (Tryz.prog.info? 61).map (·.size) = some 29 := by kernel_rfl
theorem size28 : (Tryz.prog.info? 28).map (·.size) = some 8 := by kernel_rfl
theorem size25 : (Tryz.prog.info? 25).map (·.size) = some 7 := by kernel_rfl
theorem size29 : (Tryz.prog.info? 29).map (·.size) = some 21 := by kernel_rfl
theorem zero28 : (Tryz.prog.info? 28).map (·.zero) = some (some (.agg (LC zeroLg (.slice none 0 0) (.slice none 0 0)).toArray)) := by kernel_rfl
theorem zero25 : (Tryz.prog.info? 25).map (·.zero) = some (some (.agg (SC zeroSt (.slice none 0 0)).toArray)) := by kernel_rfl
theorem build_hall (c0 c1 c2 c3 c4 c5 c6 c7 c8 c9 c10 c11 c12 c13 c14 c15 c16 c17 c18 c19 c20 c21 c22 c23 c24 c25 c26 c27 c28 : Value) (w : World) : (Instr.build 61 #[(0, .agg #[c0, c1, c2, c3, c4, c5, c6, c7, c8, c9, c10, c11, c12, c13, c14, c15, c16, c17, c18, c19, c20, c21, c22, c23, c24, c25, c26, c27, c28])]).run Tryz.prog w = .ok (.agg #[c0, c1, c2, c3, c4, c5, c6, c7, c8, c9, c10, c11, c12, c13, c14, c15, c16, c17, c18, c19, c20, c21, c22, c23, c24, c25, c26, c27, c28]) w := by kernel_rfl
theorem build_gr0 (w : World) : (Instr.build 31 #[]).run Tryz.prog w = .ok (.agg ZC.toArray) w := by kernel_rfl
theorem build_hall0 (w : World) : (Instr.build 61 #[]).run Tryz.prog w = .ok (.agg ZC.toArray) w := by kernel_rfl
theorem hall_built (g : Grp) (x t y0 y1 y2 : Value) (w : World) : (Instr.build 61 #[(0, gV g x t y0 y1 y2)]).run Tryz.prog w = .ok (gV g x t y0 y1 y2) w := build_hall _ _ _ _ _ _ _ _ _ _ _ _ _ _ _ _ _ _ _ _ _ _ _ _ _ _ _ _ _ w

/-- A value that is built: what is built is told. -/
theorem wpList_build_told {P : Program} {ops : Array Oper} {rest : List Oper} {op : Oper} {a : Act} {w : World} {Q : Exit → Act → World → Prop} (hgd : op.guard = none) (ty : TypeId) (parts : Array (Nat × Operand)) (ho : op.op = .build ty parts) (ps : Array (Nat × Value)) (hps : (parts.map fun (i, x) => (i, a.eval x)) = ps) (v : Value) (hr : ∀ w, (Instr.build ty ps).run P w = .ok v w)
    (h : wpList P ops Q rest (a.put op.dst v) w) : wpList P ops Q (op :: rest) a w := by
  refine wpList_plain hgd fun K hK => ?_
  have e1 : (execOp a.eval op).run P w = .ok (.value v) w := by
    generalize a.eval = f at hps
    simp only [execOp, ho]
    rw [show (parts.map fun (i, x) => (i, f x)) = ps from hps]
    simp only [Sem.run_bind, hr w, Result.andThen_ok, Sem.run_pure]
  unfold Oper.wp
  rw [e1]
  exact hK _ _ h
/-- A part of a variable is read. -/
theorem wpList_load_box {P : Program} {ops : Array Oper} {rest : List Oper} {op : Oper} {a : Act} {w : World} {Q : Exit → Act → World → Prop} (hgd : op.guard = none) (ty : TypeId) (x : Operand) (ho : op.op = .load ty x) (b o : Nat) (hx : a.eval x = .pointer (some ⟨b, o, none⟩)) {cs : List Value} (hB : CBox b cs w) (n : Nat) (ds : List Value) (hds : (cs.drop o).take n = ds) (d : TypeDesc)
    (hu : P.underlying ty = some d) (hd : d.isRow = true) (hi : (P.info? ty).map (·.size) = some ds.length) (h : wpList P ops Q rest (a.put op.dst (.agg ds.toArray)) w) : wpList P ops Q (op :: rest) a w :=
  wpList_load_mid hgd ty x ho b o hx ds d (range_of hB o n hds) hu hd hi h
/-- A part of a variable is written. -/
theorem wpList_store_box {P : Program} {ops : Array Oper} {rest : List Oper} {op : Oper} {a : Act} {w : World} {Q : Exit → Act → World → Prop} (hgd : op.guard = none) (ty : TypeId) (x y : Operand) (ho : op.op = .store ty x y) (b o : Nat) (ds : List Value) (hx : a.eval x = .pointer (some ⟨b, o, none⟩)) (hy : a.eval y = .agg ds.toArray) {cs : List Value} (hB : CBox b cs w) (es : List Value) (hes : cs.take o ++ ds ++ cs.drop (o + ds.length) = es)
    (hl : o + ds.length ≤ cs.length) (hi : (P.info? ty).map (·.size) = some ds.length) (h1 : ds.toArray.all (·.oneCell') = true) (h : ∀ w', CBox b es w' → But b w w' → wpList P ops Q rest (a.put op.dst undef) w') : wpList P ops Q (op :: rest) a w := by
  subst hes
  refine wpList_store_mid hgd ty x y ho b o ds.toArray hx hy (by simpa using hB.there o ds.length hl) (by simpa using hi) h1 ?_
  exact h _ (hB.putAt ds hl) (But.setCells _ _ (But.refl _ _))
/-- A result that lies in memory. -/
theorem read_box {P : Program} {w : World} {b : Nat} {cs : List Value} (hB : CBox b cs w) (ty : TypeId) (d : TypeDesc) (hu : P.underlying ty = some d) (hd : d.isRow = true) (hi : (P.info? ty).map (·.size) = some cs.length) : (loadVar ty ⟨b, 0, none⟩).run P w = .ok (.agg cs.toArray) w :=
  run_loadVar_mid w b 0 ty cs d (range_of hB 0 cs.length (by simp)) hu hd hi

/-- Where its lists lie. -/
structure Ad where
  xa : Option Addr
  ta : Option Addr
  a0 : Option Addr
  a1 : Option Addr
  a2 : Option Addr
  xc : Nat
  tc : Nat
  c0 : Nat
  c1 : Nat
  c2 : Nat
def zeroAd : Ad := ⟨none, none, none, none, none, 0, 0, 0, 0, 0⟩
/-- The cells of a group whose lists lie there. -/
def GL (g : Grp) (A : Ad) : List Value := GC g (.slice A.xa g.log.base.tab.length A.xc) (.slice A.ta g.log.tail.length A.tc) (.slice A.a0 g.n0.tab.length A.c0) (.slice A.a1 g.n1.tab.length A.c1) (.slice A.a2 g.n2.tab.length A.c2)
theorem hall_made (g : Grp) (A : Ad) (w : World) : (Instr.build 61 #[(0, .agg (GL g A).toArray)]).run Tryz.prog w = .ok (.agg (GL g A).toArray) w := hall_built _ _ _ _ _ _ w
theorem GL_one (g : Grp) (A : Ad) : (GL g A).toArray.all (·.oneCell') = true := by kernel_rfl
/-- A group in memory. -/
structure GrAt (w : World) (g : Grp) (A : Ad) : Prop where
  base : TabAt w (.slice A.xa g.log.base.tab.length A.xc) g.log.base.tab
  tail : EntsAt w (.slice A.ta g.log.tail.length A.tc) g.log.tail
  cap : g.log.tail.length ≤ A.tc
  t0 : TabAt w (.slice A.a0 g.n0.tab.length A.c0) g.n0.tab
  t1 : TabAt w (.slice A.a1 g.n1.tab.length A.c1) g.n1.tab
  t2 : TabAt w (.slice A.a2 g.n2.tab.length A.c2) g.n2.tab
theorem GrAt.keep {w w' : World} {g : Grp} {A : Ad} (h : GrAt w g A) (hk : Keeps w w') : GrAt w' g A :=
  ⟨h.base.keep hk, h.tail.keep hk, h.cap, h.t0.keep hk, h.t1.keep hk, h.t2.keep hk⟩
/-- .. in memory that is not older than base. -/
structure GrOwn (base : Nat) (w : World) (g : Grp) (A : Ad) : Prop where
  b : OwnTab base w (.slice A.xa g.log.base.tab.length A.xc) g.log.base.tab
  tail : w.ownsRow base 35 9 (.slice A.ta g.log.tail.length A.tc) g.log.tail.length (entCells g.log.tail)
  cap : g.log.tail.length ≤ A.tc
  t0 : OwnTab base w (.slice A.a0 g.n0.tab.length A.c0) g.n0.tab
  t1 : OwnTab base w (.slice A.a1 g.n1.tab.length A.c1) g.n1.tab
  t2 : OwnTab base w (.slice A.a2 g.n2.tab.length A.c2) g.n2.tab
theorem GrOwn.at {base : Nat} {w : World} {g : Grp} {A : Ad} (h : GrOwn base w g A) : GrAt w g A :=
  ⟨h.b.tab, RowAt.of_owns h.tail, h.cap, h.t0.tab, h.t1.tab, h.t2.tab⟩
theorem GrOwn.keep {base : Nat} {w w' : World} {g : Grp} {A : Ad} (h : GrOwn base w g A) (hk : Keeps w w') : GrOwn base w' g A :=
  ⟨h.b.keep hk, owns_keep h.tail hk, h.cap, h.t0.keep hk, h.t1.keep hk, h.t2.keep hk⟩
theorem GrOwn.but {b base : Nat} {w w' : World} {g : Grp} {A : Ad} (h : GrOwn base w g A) (hb : b < base) (hk : But b w w') : GrOwn base w' g A :=
  ⟨h.b.but hb hk, owns_far h.tail hb hk, h.cap, h.t0.but hb hk, h.t1.but hb hk, h.t2.but hb hk⟩
theorem GrOwn.mono {base base' : Nat} {w : World} {g : Grp} {A : Ad} (h : GrOwn base w g A) (hb : base' ≤ base) : GrOwn base' w g A :=
  ⟨h.b.base hb, owns_base h.tail hb, h.cap, h.t0.base hb, h.t1.base hb, h.t2.base hb⟩
theorem GrOwn.zero (base : Nat) (w : World) : GrOwn base w zeroGrp zeroAd :=
  ⟨OwnTab.nil _ _, World.ownsRow_nil _ _ _ _, Nat.le_refl _, OwnTab.nil _ _, OwnTab.nil _ _, OwnTab.nil _ _⟩

theorem hall_check_c (g : Grp) (A : Ad) (b : Nat) (w : World) (hG : GrAt w g A) (hB : CBox b (GL g A) w) : Calls Tryz.prog 41 #[.pointer (some ⟨b, 0, none⟩)] w fun e w' => e = .returned (.int .i64 (grErr g)) ∧ Keeps w w' :=
  hall_check g _ _ _ _ A.ta A.tc b w hG.base hG.tail hG.t0 hG.t1 hG.t2 hG.cap hB
end Go.Proofs.YteabfjpajgakiagGreat

/- The arguments of a law: a group. -/
set_option linter.unusedSimpArgs false
set_option linter.unusedVariables false
set_option maxRecDepth 100000
namespace Go.Proofs.YteabfjpajgakiagGreat
open Go.ChangeShapes Go.WideShapes Go.ChangeAt Go.RowKit Go.Joins Go.Deep

section
variable {H : Type} {enc : TypeId × Value → H} {w : World} {base : Nat} {spare : Nat → Bool} {held : Bool}
theorem cellsGr : Tryz.prog.cellsOf 31 = 29 := by kernel_rfl
theorem cellsNs : Tryz.prog.cellsOf 29 = 21 := by kernel_rfl
set_option maxHeartbeats 1000000 in
/-- A group. -/
theorem open_group {r : Reach} {b0 : Nat} {v : Value} {d : DataW H} {p : List MemPlace} (hv : Value.okWide Tryz.prog w r b0 31 v) (h : DataW.Trod enc Tryz.prog w base spare held 31 v d p) :
    ∃ (g : Grp) (A : Ad), v = .agg (GL g A).toArray ∧ GrAt w g A := by
  obtain ⟨cs, rfl, hsz⟩ := okWide_struct Tryz.underlying31 hv
  rw [cellsGr] at hsz
  obtain ⟨fuel, hf⟩ := h
  obtain ⟨cl⟩ := cs
  match cl, hsz with
  | [c0, c1, c2, c3, c4, c5, c6, c7, c8, c9, c10, c11, c12, c13, c14, c15, c16, c17, c18, c19, c20, c21, c22, c23, c24, c25, c26, c27, c28], _ =>
    obtain ⟨ys, m, _, _, _, hlen, hf⟩ := DataW.trod_struct Tryz.underlying31 hf
    match ys, hlen with
    | [y0, y1], _ =>
      have g0 := hf 0 _ rfl
      have g1 := hf 1 _ rfl
      simp only [cellsLg, cellsNs, List.drop_zero, List.drop_succ_cons, List.take_succ_cons, List.take_zero, List.getElem?_cons_zero, List.getElem?_cons_succ] at g0 g1
      obtain ⟨l, ta, tc, rfl, rfl, rfl, rfl, rfl, rfl, hT, rfl, hL, hc⟩ := lg_cells g0
      obtain ⟨xs, m2, _, _, _, hlen2, hi⟩ := DataW.trod_array Tryz.underlying29 g1
      simp only [cellsSt] at hi
      have e : ∀ i (hi' : i < 3), ∃ y, xs[i]? = some y := fun i h' => ⟨xs[i]'(by omega), by rw [List.getElem?_eq_getElem]⟩
      obtain ⟨z0, e0⟩ := e 0 (by decide)
      have n0 := (hi 0 (by decide)).trans e0
      obtain ⟨z1, e1⟩ := e 1 (by decide)
      have n1 := (hi 1 (by decide)).trans e1
      obtain ⟨z2, e2⟩ := e 2 (by decide)
      have n2 := (hi 2 (by decide)).trans e2
      simp only [Nat.zero_mul, Nat.one_mul, Nat.reduceMul, List.drop_zero, List.drop_succ_cons, List.take_succ_cons, List.take_zero] at n0 n1 n2
      obtain ⟨s0, rfl, rfl, rfl, rfl, rfl, rfl, t0⟩ := st_cells n0
      obtain ⟨s1, rfl, rfl, rfl, rfl, rfl, rfl, t1⟩ := st_cells n1
      obtain ⟨s2, rfl, rfl, rfl, rfl, rfl, rfl, t2⟩ := st_cells n2
      obtain ⟨xa, xc, rfl, _⟩ := hT.len
      obtain ⟨a0, p0, rfl, _⟩ := t0.len
      obtain ⟨a1, p1, rfl, _⟩ := t1.len
      obtain ⟨a2, p2, rfl, _⟩ := t2.len
      exact ⟨⟨l, s0, s1, s2⟩, ⟨xa, ta, a0, a1, a2, xc, tc, p0, p1, p2⟩, rfl, ⟨hT, hL, hc, t0, t1, t2⟩⟩
end
end Go.Proofs.YteabfjpajgakiagGreat

/- The walk's laws at groups' variables. -/
set_option linter.unusedSimpArgs false
set_option linter.unusedVariables false
set_option maxRecDepth 10000
namespace Go.Proofs.YteabfjpajgakiagGreat
open Go.RowKit

abbrev logV (g : Grp) (A : Ad) : Value := lgV g.log (.slice A.xa g.log.base.tab.length A.xc) (.slice A.ta g.log.tail.length A.tc)
/-- Node k of a group. -/
def nodeAt (g : Grp) : Nat → St
  | 0 => g.n0
  | 1 => g.n1
  | _ => g.n2
def tabV (g : Grp) (A : Ad) : Nat → Value
  | 0 => .slice A.a0 g.n0.tab.length A.c0
  | 1 => .slice A.a1 g.n1.tab.length A.c1
  | _ => .slice A.a2 g.n2.tab.length A.c2
abbrev nodeV (g : Grp) (A : Ad) (k : Nat) : Value := stV (nodeAt g k) (tabV g A k)
def setLog (g : Grp) (l : Lg) : Grp := ⟨l, g.n0, g.n1, g.n2⟩
def setLogA (A : Ad) (xa : Option Addr) (xc : Nat) (ta : Option Addr) (tc : Nat) : Ad := ⟨xa, ta, A.a0, A.a1, A.a2, xc, tc, A.c0, A.c1, A.c2⟩
def setNode (g : Grp) (k : Nat) (s : St) : Grp := match k with
  | 0 => ⟨g.log, s, g.n1, g.n2⟩
  | 1 => ⟨g.log, g.n0, s, g.n2⟩
  | _ => ⟨g.log, g.n0, g.n1, s⟩
def setNodeA (A : Ad) (k : Nat) (a : Option Addr) (c : Nat) : Ad := match k with
  | 0 => ⟨A.xa, A.ta, a, A.a1, A.a2, A.xc, A.tc, c, A.c1, A.c2⟩
  | 1 => ⟨A.xa, A.ta, A.a0, a, A.a2, A.xc, A.tc, A.c0, c, A.c2⟩
  | _ => ⟨A.xa, A.ta, A.a0, A.a1, a, A.xc, A.tc, A.c0, A.c1, c⟩
theorem GL_len (g : Grp) (A : Ad) : (GL g A).length = 29 := rfl
theorem GL_all (g : Grp) (A : Ad) : ((GL g A).drop 0).take 29 = GL g A := rfl
theorem GL_log (g : Grp) (A : Ad) : ((GL g A).drop 0).take 8 = LC g.log (.slice A.xa g.log.base.tab.length A.xc) (.slice A.ta g.log.tail.length A.tc) := rfl
theorem GL_node (g : Grp) (A : Ad) : ∀ k, k < 3 → ((GL g A).drop (8 + k * 7)).take 7 = SC (nodeAt g k) (tabV g A k)
  | 0, _ => rfl
  | 1, _ => rfl
  | 2, _ => rfl
  | k + 3, h => by omega
theorem GL_setLog (g : Grp) (A : Ad) (l : Lg) (xa ta : Option Addr) (xc tc : Nat) : (GL g A).take 0 ++ LC l (.slice xa l.base.tab.length xc) (.slice ta l.tail.length tc) ++ (GL g A).drop (0 + (LC l (.slice xa l.base.tab.length xc) (.slice ta l.tail.length tc)).length) = GL (setLog g l) (setLogA A xa xc ta tc) := rfl
theorem GL_setNode (g : Grp) (A : Ad) (s : St) (x : Option Addr) (c : Nat) : ∀ k, k < 3 → (GL g A).take (8 + k * 7) ++ SC s (.slice x s.tab.length c) ++ (GL g A).drop (8 + k * 7 + (SC s (.slice x s.tab.length c)).length) = GL (setNode g k s) (setNodeA A k x c)
  | 0, _ => rfl
  | 1, _ => rfl
  | 2, _ => rfl
  | k + 3, h => by omega
theorem GL_whole (g g' : Grp) (A A' : Ad) : (GL g A).take 0 ++ GL g' A' ++ (GL g A).drop (0 + (GL g' A').length) = GL g' A' := rfl
theorem LC_one (l : Lg) (xa ta : Option Addr) (xc tc xn tn : Nat) : (LC l (.slice xa xn xc) (.slice ta tn tc)).toArray.all (·.oneCell') = true := by kernel_rfl
theorem SC_one (s : St) (xa : Option Addr) (xc xn : Nat) : (SC s (.slice xa xn xc)).toArray.all (·.oneCell') = true := by kernel_rfl
theorem info_size {P : Program} {t : TypeId} {n : Nat} (h : (P.info? t).map (·.size) = some n) {l : List Value} (hl : l.length = n) : (P.info? t).map (·.size) = some l.length := by rw [hl]; exact h
theorem row31 : ∃ d, Tryz.prog.underlying 31 = some d ∧ d.isRow = true := ⟨_, Tryz.underlying31, rfl⟩
theorem row48 : ∃ d, Tryz.prog.underlying 61 = some d ∧ d.isRow = true := ⟨_, Tryz.underlying61, rfl⟩
theorem row28 : ∃ d, Tryz.prog.underlying 28 = some d ∧ d.isRow = true := ⟨_, Tryz.underlying28, rfl⟩
theorem row25 : ∃ d, Tryz.prog.underlying 25 = some d ∧ d.isRow = true := ⟨_, Tryz.underlying25, rfl⟩

section
variable {ops : Array Oper} {rest : List Oper} {op : Oper} {a : Act} {w : World} {Q : Exit → Act → World → Prop}
theorem box31 (hgd : op.guard = none) {x : Operand} (ho : op.op = .box 31 x) {g : Grp} {A : Ad} (hx : a.eval x = .agg (GL g A).toArray)
    (h : ∀ (w' : World) (b : Nat), CBox b (GL g A) w' → Keeps w w' → b < w'.heap.size → w.heap.size ≤ b → wpList Tryz.prog ops Q rest (a.put op.dst (.pointer (some ⟨b, 0, none⟩))) w') : wpList Tryz.prog ops Q (op :: rest) a w := wpList_box_new hgd _ x ho _ hx h
theorem alloc31 (hgd : op.guard = none) (ho : op.op = .alloc 31)
    (h : ∀ (w' : World) (b : Nat), CBox b (GL zeroGrp zeroAd) w' → Keeps w w' → b < w'.heap.size → w.heap.size ≤ b → wpList Tryz.prog ops Q rest (a.put op.dst (.pointer (some ⟨b, 0, none⟩))) w') : wpList Tryz.prog ops Q (op :: rest) a w := wpList_alloc_new hgd _ ho _ _ zero31 rfl h
theorem alloc48 (hgd : op.guard = none) (ho : op.op = .alloc 61)
    (h : ∀ (w' : World) (b : Nat), CBox b (GL zeroGrp zeroAd) w' → Keeps w w' → b < w'.heap.size → w.heap.size ≤ b → wpList Tryz.prog ops Q rest (a.put op.dst (.pointer (some ⟨b, 0, none⟩))) w') : wpList Tryz.prog ops Q (op :: rest) a w := wpList_alloc_new hgd _ ho _ _ zero48 rfl h
theorem alloc28 (hgd : op.guard = none) (ho : op.op = .alloc 28)
    (h : ∀ (w' : World) (b : Nat), CBox b (LC zeroLg (.slice none 0 0) (.slice none 0 0)) w' → Keeps w w' → b < w'.heap.size → w.heap.size ≤ b → wpList Tryz.prog ops Q rest (a.put op.dst (.pointer (some ⟨b, 0, none⟩))) w') : wpList Tryz.prog ops Q (op :: rest) a w := wpList_alloc_new hgd _ ho _ _ zero28 rfl h
theorem alloc25 (hgd : op.guard = none) (ho : op.op = .alloc 25)
    (h : ∀ (w' : World) (b : Nat), CBox b (SC zeroSt (.slice none 0 0)) w' → Keeps w w' → b < w'.heap.size → w.heap.size ≤ b → wpList Tryz.prog ops Q rest (a.put op.dst (.pointer (some ⟨b, 0, none⟩))) w') : wpList Tryz.prog ops Q (op :: rest) a w := wpList_alloc_new hgd _ ho _ _ zero25 rfl h
theorem load31 (hgd : op.guard = none) {x : Operand} (ho : op.op = .load 31 x) (b : Nat) (hx : a.eval x = .pointer (some ⟨b, 0, none⟩)) {g : Grp} {A : Ad} (hB : CBox b (GL g A) w)
    (h : wpList Tryz.prog ops Q rest (a.put op.dst (.agg (GL g A).toArray)) w) : wpList Tryz.prog ops Q (op :: rest) a w := by
  obtain ⟨d, h1, h2⟩ := row31
  exact wpList_load_box hgd _ x ho b 0 hx hB 29 _ (GL_all g A) d h1 h2 (info_size size31 (GL_len g A)) h
theorem load28 (hgd : op.guard = none) {x : Operand} (ho : op.op = .load 28 x) (b : Nat) (hx : a.eval x = .pointer (some ⟨b, 0, none⟩)) {g : Grp} {A : Ad} (hB : CBox b (GL g A) w)
    (h : wpList Tryz.prog ops Q rest (a.put op.dst (logV g A)) w) : wpList Tryz.prog ops Q (op :: rest) a w := by
  obtain ⟨d, h1, h2⟩ := row28
  exact wpList_load_box hgd _ x ho b 0 hx hB 8 _ (GL_log g A) d h1 h2 (info_size size28 rfl) h
theorem load25 (hgd : op.guard = none) {x : Operand} (ho : op.op = .load 25 x) (b k : Nat) (hk : k < 3) (o : Nat) (e : o = 8 + k * 7) (hx : a.eval x = .pointer (some ⟨b, o, none⟩)) {g : Grp} {A : Ad} (hB : CBox b (GL g A) w)
    (h : wpList Tryz.prog ops Q rest (a.put op.dst (nodeV g A k)) w) : wpList Tryz.prog ops Q (op :: rest) a w := by
  obtain ⟨d, h1, h2⟩ := row25
  subst e
  exact wpList_load_box hgd _ x ho b (8 + k * 7) hx hB 7 _ (GL_node g A k hk) d h1 h2 (info_size size25 rfl) h
theorem load28b (hgd : op.guard = none) {x : Operand} (ho : op.op = .load 28 x) (b : Nat) (hx : a.eval x = .pointer (some ⟨b, 0, none⟩)) {l : Lg} {y t : Value} (hB : CBox b (LC l y t) w)
    (h : wpList Tryz.prog ops Q rest (a.put op.dst (lgV l y t)) w) : wpList Tryz.prog ops Q (op :: rest) a w := by
  obtain ⟨d, h1, h2⟩ := row28
  exact wpList_load_box hgd _ x ho b 0 hx hB 8 _ rfl d h1 h2 (info_size size28 rfl) h
theorem load25b (hgd : op.guard = none) {x : Operand} (ho : op.op = .load 25 x) (b : Nat) (hx : a.eval x = .pointer (some ⟨b, 0, none⟩)) {s : St} {t : Value} (hB : CBox b (SC s t) w)
    (h : wpList Tryz.prog ops Q rest (a.put op.dst (stV s t)) w) : wpList Tryz.prog ops Q (op :: rest) a w := by
  obtain ⟨d, h1, h2⟩ := row25
  exact wpList_load_box hgd _ x ho b 0 hx hB 7 _ rfl d h1 h2 (info_size size25 rfl) h
theorem store31 (hgd : op.guard = none) {x y : Operand} (ho : op.op = .store 31 x y) (b : Nat) (hx : a.eval x = .pointer (some ⟨b, 0, none⟩)) {g g' : Grp} {A A' : Ad} (hy : a.eval y = .agg (GL g' A').toArray) (hB : CBox b (GL g A) w)
    (h : ∀ w', CBox b (GL g' A') w' → But b w w' → wpList Tryz.prog ops Q rest (a.put op.dst undef) w') : wpList Tryz.prog ops Q (op :: rest) a w :=
  wpList_store_box hgd _ x y ho b 0 _ hx hy hB _ (GL_whole g g' A A') (Nat.le_of_eq rfl) (info_size size31 (GL_len g' A')) (GL_one g' A') h
theorem store48 (hgd : op.guard = none) {x y : Operand} (ho : op.op = .store 61 x y) (b : Nat) (hx : a.eval x = .pointer (some ⟨b, 0, none⟩)) {g g' : Grp} {A A' : Ad} (hy : a.eval y = .agg (GL g' A').toArray) (hB : CBox b (GL g A) w)
    (h : ∀ w', CBox b (GL g' A') w' → But b w w' → wpList Tryz.prog ops Q rest (a.put op.dst undef) w') : wpList Tryz.prog ops Q (op :: rest) a w :=
  wpList_store_box hgd _ x y ho b 0 _ hx hy hB _ (GL_whole g g' A A') (Nat.le_of_eq rfl) (info_size size48 (GL_len g' A')) (GL_one g' A') h
theorem store28 (hgd : op.guard = none) {x y : Operand} (ho : op.op = .store 28 x y) (b : Nat) (hx : a.eval x = .pointer (some ⟨b, 0, none⟩)) {g : Grp} {A : Ad} {l : Lg} {xa ta : Option Addr} {xc tc : Nat} (hy : a.eval y = lgV l (.slice xa l.base.tab.length xc) (.slice ta l.tail.length tc)) (hB : CBox b (GL g A) w)
    (h : ∀ w', CBox b (GL (setLog g l) (setLogA A xa xc ta tc)) w' → But b w w' → wpList Tryz.prog ops Q rest (a.put op.dst undef) w') : wpList Tryz.prog ops Q (op :: rest) a w :=
  wpList_store_box hgd _ x y ho b 0 (LC l (.slice xa l.base.tab.length xc) (.slice ta l.tail.length tc)) hx hy hB _ (GL_setLog g A l xa ta xc tc) (Nat.le_of_ble_eq_true rfl) (info_size size28 rfl) (LC_one _ _ _ _ _ _ _) h
theorem store25 (hgd : op.guard = none) {x y : Operand} (ho : op.op = .store 25 x y) (b k : Nat) (hk : k < 3) (o : Nat) (e : o = 8 + k * 7) (hx : a.eval x = .pointer (some ⟨b, o, none⟩)) {g : Grp} {A : Ad} {s : St} {xa : Option Addr} {xc : Nat} (hy : a.eval y = stV s (.slice xa s.tab.length xc)) (hB : CBox b (GL g A) w)
    (h : ∀ w', CBox b (GL (setNode g k s) (setNodeA A k xa xc)) w' → But b w w' → wpList Tryz.prog ops Q rest (a.put op.dst undef) w') : wpList Tryz.prog ops Q (op :: rest) a w := by
  subst e
  exact wpList_store_box hgd _ x y ho b (8 + k * 7) (SC s (.slice xa s.tab.length xc)) hx hy hB _ (GL_setNode g A s xa xc k hk) (by rw [GL_len]; show 8 + k * 7 + 7 ≤ 29; omega) (info_size size25 rfl) (SC_one _ _ _ _) h
theorem store28b (hgd : op.guard = none) {x y : Operand} (ho : op.op = .store 28 x y) (b : Nat) (hx : a.eval x = .pointer (some ⟨b, 0, none⟩)) {k l : Lg} {p q : Value} {xa ta : Option Addr} {xn tn xc tc : Nat} (hy : a.eval y = lgV l (.slice xa xn xc) (.slice ta tn tc)) (hB : CBox b (LC k p q) w)
    (h : ∀ w', CBox b (LC l (.slice xa xn xc) (.slice ta tn tc)) w' → But b w w' → wpList Tryz.prog ops Q rest (a.put op.dst undef) w') : wpList Tryz.prog ops Q (op :: rest) a w :=
  wpList_store_box hgd _ x y ho b 0 (LC l (.slice xa xn xc) (.slice ta tn tc)) hx hy hB _ rfl (Nat.le_of_ble_eq_true rfl) (info_size size28 rfl) (LC_one _ _ _ _ _ _ _) h
theorem store25b (hgd : op.guard = none) {x y : Operand} (ho : op.op = .store 25 x y) (b : Nat) (hx : a.eval x = .pointer (some ⟨b, 0, none⟩)) {k s : St} {p : Value} {xa : Option Addr} {xn xc : Nat} (hy : a.eval y = stV s (.slice xa xn xc)) (hB : CBox b (SC k p) w)
    (h : ∀ w', CBox b (SC s (.slice xa xn xc)) w' → But b w w' → wpList Tryz.prog ops Q rest (a.put op.dst undef) w') : wpList Tryz.prog ops Q (op :: rest) a w :=
  wpList_store_box hgd _ x y ho b 0 (SC s (.slice xa xn xc)) hx hy hB _ rfl (Nat.le_of_ble_eq_true rfl) (info_size size25 rfl) (SC_one _ _ _ _) h
theorem build48 (hgd : op.guard = none) {x : Operand} (ho : op.op = .build 61 #[(0, x)]) {g : Grp} {A : Ad} (hx : a.eval x = .agg (GL g A).toArray) (h : wpList Tryz.prog ops Q rest (a.put op.dst (.agg (GL g A).toArray)) w) : wpList Tryz.prog ops Q (op :: rest) a w :=
  wpList_build_told hgd _ _ ho #[(0, .agg (GL g A).toArray)] (by simp [hx]) _ (hall_made g A) h
theorem build48z (hgd : op.guard = none) (ho : op.op = .build 61 #[]) (h : wpList Tryz.prog ops Q rest (a.put op.dst (.agg (GL zeroGrp zeroAd).toArray)) w) : wpList Tryz.prog ops Q (op :: rest) a w :=
  wpList_build_told hgd _ _ ho #[] (by simp) _ build_hall0 h
theorem build31z (hgd : op.guard = none) (ho : op.op = .build 31 #[]) (h : wpList Tryz.prog ops Q rest (a.put op.dst (.agg (GL zeroGrp zeroAd).toArray)) w) : wpList Tryz.prog ops Q (op :: rest) a w :=
  wpList_build_told hgd _ _ ho #[] (by simp) _ build_gr0 h
end
theorem read31 {w : World} {b : Nat} {g : Grp} {A : Ad} (hB : CBox b (GL g A) w) : (loadVar 31 ⟨b, 0, none⟩).run Tryz.prog w = .ok (.agg (GL g A).toArray) w := by
  obtain ⟨d, h1, h2⟩ := row31
  exact read_box hB _ d h1 h2 (info_size size31 (GL_len g A))
theorem read48 {w : World} {b : Nat} {g : Grp} {A : Ad} (hB : CBox b (GL g A) w) : (loadVar 61 ⟨b, 0, none⟩).run Tryz.prog w = .ok (.agg (GL g A).toArray) w := by
  obtain ⟨d, h1, h2⟩ := row48
  exact read_box hB _ d h1 h2 (info_size size48 (GL_len g A))
/-- Results of which the first lies in memory. -/
theorem results1 {P : Program} {fn : Func} {tmps : Array Value} {w : World} {i : Nat} {t : TypeId} (hf : fn.results = #[.cell i t]) {p : Addr} (h0 : tmps.getD i undef = .pointer (some p)) {v : Value} (hl : (loadVar t p).run P w = .ok v w) : (results fn tmps).run P w = .ok v w := by
  simp only [results, hf]
  simp [asAddr, ← Array.getD_eq_getD_getElem?, h0, hl]
theorem results2 {P : Program} {fn : Func} {tmps : Array Value} {w : World} {i j : Nat} {t : TypeId} (hf : fn.results = #[.cell i t, .tmp j]) {p : Addr} (h0 : tmps.getD i undef = .pointer (some p)) {u : Value} (h1 : tmps.getD j undef = u) {v : Value} (hl : (loadVar t p).run P w = .ok v w) : (results fn tmps).run P w = .ok (.tuple #[v, u]) w := by
  simp only [results, hf]
  simp [asAddr, ← Array.getD_eq_getD_getElem?, h0, h1, hl]
theorem results3 {P : Program} {fn : Func} {tmps : Array Value} {w : World} {i j k : Nat} {t : TypeId} (hf : fn.results = #[.cell i t, .tmp j, .tmp k]) {p : Addr} (h0 : tmps.getD i undef = .pointer (some p)) {u u' : Value} (h1 : tmps.getD j undef = u) (h2 : tmps.getD k undef = u') {v : Value} (hl : (loadVar t p).run P w = .ok v w) : (results fn tmps).run P w = .ok (.tuple #[v, u, u']) w := by
  simp only [results, hf]
  simp [asAddr, ← Array.getD_eq_getD_getElem?, h0, h1, h2, hl]
/-- The nodes of a group. -/
def NC (g : Grp) (A : Ad) : List Value := [.int .i64 g.n0.at_, .int .i64 g.n0.clock, .int .i64 g.n0.v0, .int .i64 g.n0.v1, .int .i64 g.n0.v2, .int .i64 g.n0.v3, .slice A.a0 g.n0.tab.length A.c0, .int .i64 g.n1.at_, .int .i64 g.n1.clock, .int .i64 g.n1.v0, .int .i64 g.n1.v1, .int .i64 g.n1.v2, .int .i64 g.n1.v3, .slice A.a1 g.n1.tab.length A.c1, .int .i64 g.n2.at_, .int .i64 g.n2.clock, .int .i64 g.n2.v0, .int .i64 g.n2.v1, .int .i64 g.n2.v2, .int .i64 g.n2.v3, .slice A.a2 g.n2.tab.length A.c2]
theorem GL_nodes (g : Grp) (A : Ad) : ((GL g A).drop 8).take 21 = NC g A := rfl
theorem row29 : ∃ d, Tryz.prog.underlying 29 = some d ∧ d.isRow = true := ⟨_, Tryz.underlying29, rfl⟩
theorem load29 {ops : Array Oper} {rest : List Oper} {op : Oper} {a : Act} {w : World} {Q : Exit → Act → World → Prop} (hgd : op.guard = none) {x : Operand} (ho : op.op = .load 29 x) (b : Nat) (hx : a.eval x = .pointer (some ⟨b, 8, none⟩)) {g : Grp} {A : Ad} (hB : CBox b (GL g A) w)
    (h : wpList Tryz.prog ops Q rest (a.put op.dst (.agg (NC g A).toArray)) w) : wpList Tryz.prog ops Q (op :: rest) a w := by
  obtain ⟨d, h1, h2⟩ := row29
  exact wpList_load_box hgd _ x ho b 8 hx hB 21 _ (GL_nodes g A) d h1 h2 (info_size size29 rfl) h
theorem node_index0 (g : Grp) (A : Ad) (w : World) : (Instr.index 29 (.agg (NC g A).toArray) (.int .i64 0)).run Tryz.prog w = .ok (stV g.n0 (.slice A.a0 g.n0.tab.length A.c0)) w := gr_index0 _ _ _ _ _ _ _ _ _ _ _ _ _ _ _ _ _ _ _ _ _ w
theorem node_index1 (g : Grp) (A : Ad) (w : World) : (Instr.index 29 (.agg (NC g A).toArray) (.int .i64 1)).run Tryz.prog w = .ok (stV g.n1 (.slice A.a1 g.n1.tab.length A.c1)) w := gr_index1 _ _ _ _ _ _ _ _ _ _ _ _ _ _ _ _ _ _ _ _ _ w
theorem node_index2 (g : Grp) (A : Ad) (w : World) : (Instr.index 29 (.agg (NC g A).toArray) (.int .i64 2)).run Tryz.prog w = .ok (stV g.n2 (.slice A.a2 g.n2.tab.length A.c2)) w := gr_index2 _ _ _ _ _ _ _ _ _ _ _ _ _ _ _ _ _ _ _ _ _ w
/-- The log of a group, a node of it, in memory that is not older than base. -/
structure LogOwn (base : Nat) (w : World) (g : Grp) (A : Ad) : Prop where
  b : OwnTab base w (.slice A.xa g.log.base.tab.length A.xc) g.log.base.tab
  tail : w.ownsRow base 35 9 (.slice A.ta g.log.tail.length A.tc) g.log.tail.length (entCells g.log.tail)
  cap : g.log.tail.length ≤ A.tc
theorem LogOwn.keep {base : Nat} {w w' : World} {g : Grp} {A : Ad} (h : LogOwn base w g A) (hk : Keeps w w') : LogOwn base w' g A := ⟨h.b.keep hk, owns_keep h.tail hk, h.cap⟩
theorem LogOwn.but {b base : Nat} {w w' : World} {g : Grp} {A : Ad} (h : LogOwn base w g A) (hk : But b w w') (hb : b < base) : LogOwn base w' g A := ⟨h.b.but hb hk, owns_far h.tail hb hk, h.cap⟩
theorem LogOwn.node {base : Nat} {w : World} {g : Grp} {A : Ad} (h : LogOwn base w g A) (a : Option Addr) (c : Nat) : ∀ k, LogOwn base w g (setNodeA A k a c)
  | 0 => ⟨h.b, h.tail, h.cap⟩
  | 1 => ⟨h.b, h.tail, h.cap⟩
  | _ + 2 => ⟨h.b, h.tail, h.cap⟩
theorem GrOwn.of {base base' : Nat} {w : World} {g : Grp} {A : Ad} (h : LogOwn base w g A) (h0 : OwnTab base w (.slice A.a0 g.n0.tab.length A.c0) g.n0.tab) (h1 : OwnTab base w (.slice A.a1 g.n1.tab.length A.c1) g.n1.tab) (h2 : OwnTab base w (.slice A.a2 g.n2.tab.length A.c2) g.n2.tab) (hb : base' ≤ base) : GrOwn base' w g A :=
  ⟨h.b.base hb, owns_base h.tail hb, h.cap, h0.base hb, h1.base hb, h2.base hb⟩
theorem GrAt.tab {w : World} {g : Grp} {A : Ad} (h : GrAt w g A) : ∀ k, TabAt w (tabV g A k) (nodeAt g k).tab
  | 0 => h.t0
  | 1 => h.t1
  | _ + 2 => h.t2
/-- A right group. -/
theorem gr_right {g : Grp} (h : grErr g = 0) : lgErr g.log = 0 ∧ stErr g.log.base = 0 ∧ g.log.tail.length ≤ 50 ∧ (stErr g.n0 = 0 ∧ stErr g.n1 = 0 ∧ stErr g.n2 = 0) ∧ (fitsB g.log g.n0 = true ∧ fitsB g.log g.n1 = true ∧ fitsB g.log g.n2 = true) := by
  have hl : lgErr g.log = 0 := by
    unfold grErr at h
    split at h
    · rename_i h'
      simpa using h'
    · exact h
  have one : ∀ s, oneErr g.log s = 0 → stErr s = 0 ∧ fitsB g.log s = true := fun s h => by
    unfold oneErr nodeErr at h
    rw [hl] at h
    simp only [beq_self_eq_true, if_true] at h
    split at h
    · rename_i h'
      have hs : stErr s = 0 := by simpa using h'
      refine ⟨hs, ?_⟩
      split at h
      · rename_i hf
        unfold fitsOk nodeErr at hf
        rw [hl, hs] at hf
        exact hf
      · cases h
    · rename_i h'
      simp [h] at h'
  have hg : oneErr g.log g.n0 = 0 ∧ oneErr g.log g.n1 = 0 ∧ oneErr g.log g.n2 = 0 := by
    unfold grErr at h
    rw [hl] at h
    simp only [beq_self_eq_true, if_true] at h
    split at h
    · rename_i h0
      split at h
      · rename_i h1
        exact ⟨by simpa using h0, by simpa using h1, h⟩
      · rename_i h1
        simp [h] at h1
    · rename_i h0
      simp [h] at h0
  obtain ⟨f1, f2, f3⟩ := fold_right (s := g.log.base) (L := g.log.tail) hl
  have := (stErr_bounds f1).1
  exact ⟨hl, f1, by omega, ⟨(one _ hg.1).1, (one _ hg.2.1).1, (one _ hg.2.2).1⟩, (one _ hg.1).2, (one _ hg.2.1).2, (one _ hg.2.2).2⟩
end Go.Proofs.YteabfjpajgakiagGreat

/- What is spoiled: in blocks between base and top cells may be written; the shape of what lies there stays. Plain. -/
set_option linter.unusedSimpArgs false
set_option linter.unusedVariables false
set_option maxRecDepth 10000
namespace Go.Proofs.YteabfjpajgakiagGreat
open Go.RowKit

/-- Only cells of blocks between base and top were written; a row of sessions still has slices where it had them: the old ones, or none. -/
structure Spoil (base top : Nat) (w w' : World) : Prop where
  os : w'.os = w.os
  tape : w'.tape = w.tape
  output : w'.output = w.output
  size : w.heap.size ≤ w'.heap.size
  out : ∀ k, k < w.heap.size → (k < base ∨ top ≤ k) → w'.heap[k]? = w.heap[k]?
  cells : ∀ (k : Nat) (cur : Array Value) (t : TypeId), w.heap[k]? = some (Obj.cells cur t (0, 0)) → ∃ cur' : Array Value, w'.heap[k]? = some (Obj.cells cur' t (0, 0)) ∧ cur'.size = cur.size ∧ (t = 71 → ∀ j, cur'[4 * j + 3]? = cur[4 * j + 3]? ∨ cur'[4 * j + 3]? = some (.slice none 0 0))

theorem Spoil.of {base top : Nat} {w w' : World} (h : Keeps w w') : Spoil base top w w' :=
  ⟨h.os, h.tape, h.output, h.size, fun k hk _ => h.block k hk, fun k cur t hc => by
    have hk : k < w.heap.size := by
      obtain ⟨hk, _⟩ := Array.getElem?_eq_some_iff.1 hc
      exact hk
    exact ⟨cur, (h.block k hk).trans hc, rfl, fun _ _ => .inl rfl⟩⟩
theorem Spoil.refl (base top : Nat) (w : World) : Spoil base top w w := Spoil.of (Keeps.refl _)
theorem Spoil.trans {base top : Nat} {x y z : World} (h : Spoil base top x y) (k : Spoil base top y z) : Spoil base top x z :=
  ⟨k.os.trans h.os, k.tape.trans h.tape, k.output.trans h.output, Nat.le_trans h.size k.size, fun i hi ho => (k.out i (Nat.lt_of_lt_of_le hi h.size) ho).trans (h.out i hi ho), fun i cur t hc => by
    obtain ⟨c1, h1, s1, d1⟩ := h.cells i cur t hc
    obtain ⟨c2, h2, s2, d2⟩ := k.cells i c1 t h1
    refine ⟨c2, h2, s2.trans s1, fun ht j => ?_⟩
    rcases d2 ht j with e | e
    · rw [e]
      exact d1 ht j
    · exact .inr e⟩
theorem Spoil.keeps {base top : Nat} {x y z : World} (h : Spoil base top x y) (k : Keeps y z) : Spoil base top x z := h.trans (Spoil.of k)
/-- What is older than base is as it was. -/
theorem Spoil.to {base top : Nat} {a x y : World} (ha : Keeps a x) (hb : a.heap.size ≤ base) (h : Spoil base top x y) : Keeps a y :=
  ⟨h.os.trans ha.os, h.tape.trans ha.tape, h.output.trans ha.output, Nat.le_trans ha.size h.size, fun k hk => (h.out k (Nat.lt_of_lt_of_le hk ha.size) (.inl (by omega))).trans (ha.block k hk)⟩
theorem Spoil.box {base top b : Nat} {cs : List Value} {w w' : World} (hB : CBox b cs w) (hc : 0 < cs.length) (ht : b < base ∨ top ≤ b) (h : Spoil base top w w') : CBox b cs w' :=
  hB.same (h.out b (hB.lt hc) ht)
/-- One cell is written. -/
theorem Spoil.set {base top g j : Nat} {w : World} {cur : Array Value} {t : TypeId} (u : Value) (hg : w.heap[g]? = some (Obj.cells cur t (0, 0))) (h1 : base ≤ g) (h2 : g < top) (hu : t = 71 → j % 4 = 3 → u = .slice none 0 0) : Spoil base top w (w.setCell ⟨g, j, none⟩ u) := by
  have hh : (w.setCell ⟨g, j, none⟩ u).heap[g]? = some (Obj.cells (cur.setIfInBounds j u) t (0, 0)) := by
    simp [World.setCell, Array.getElem?_modify, hg]
  have ho : ∀ k, k ≠ g → (w.setCell ⟨g, j, none⟩ u).heap[k]? = w.heap[k]? := fun k hk => by
    simp [World.setCell, Array.getElem?_modify, Ne.symm hk]
  refine ⟨rfl, rfl, rfl, by simp [World.setCell], fun k _ hk => ho k (by omega), fun k c t' hc => ?_⟩
  by_cases e : k = g
  · subst e
    rw [hg] at hc
    injection hc with hc
    injection hc with hc ht _
    subst hc ht
    refine ⟨_, hh, by simp, fun ht i => ?_⟩
    by_cases hij : j = 4 * i + 3
    · subst hij
      by_cases hb : 4 * i + 3 < cur.size
      · right
        rw [Array.getElem?_setIfInBounds_self_of_lt hb, hu ht (by omega)]
      · left
        rw [Array.getElem?_eq_none (by simp; omega), Array.getElem?_eq_none (by omega)]
    · left
      rw [Array.getElem?_setIfInBounds_ne hij]
  · exact ⟨c, (ho k e).trans hc, rfl, fun _ _ => .inl rfl⟩

/-- Cells of one block are written, one behind the other. -/
def putsAt (w : World) (g : Nat) (l : List (Nat × Value)) : World := l.foldl (fun w p => w.setCell ⟨g, p.1, none⟩ p.2) w
theorem Spoil.sets {base top g : Nat} {t : TypeId} (h1 : base ≤ g) (h2 : g < top) : ∀ (l : List (Nat × Value)) (w : World) (cur : Array Value), w.heap[g]? = some (Obj.cells cur t (0, 0)) → (∀ p ∈ l, t = 71 → p.1 % 4 = 3 → p.2 = .slice none 0 0) → Spoil base top w (putsAt w g l)
  | [], w, _, _, _ => Spoil.refl _ _ _
  | p :: r, w, cur, hg, hu => by
    have s1 : Spoil base top w (w.setCell ⟨g, p.1, none⟩ p.2) := Spoil.set p.2 hg h1 h2 (hu p (List.mem_cons_self ..))
    obtain ⟨cur', hg', _⟩ := s1.cells g cur t hg
    exact s1.trans (Spoil.sets h1 h2 r _ cur' hg' (fun q hq => hu q (List.mem_cons_of_mem _ hq)))
theorem puts_other {g k : Nat} (hk : k ≠ g) : ∀ (l : List (Nat × Value)) (w : World), (putsAt w g l).heap[k]? = w.heap[k]?
  | [], _ => rfl
  | p :: r, w => by
    refine (puts_other hk r (w.setCell ⟨g, p.1, none⟩ p.2)).trans ?_
    simp [World.setCell, Array.getElem?_modify, Ne.symm hk]

/-- A row of n elements of that type, size cells each, between base and top. -/
def SpRow (base top : Nat) (w : World) (t : TypeId) (size : Nat) (a : Option Addr) (n : Nat) : Prop :=
  n = 0 ∨ ∃ (g : Nat) (cur : Array Value), a = some ⟨g, 0, none⟩ ∧ base ≤ g ∧ g < top ∧ w.heap[g]? = some (Obj.cells cur t (0, 0)) ∧ n * size ≤ cur.size
theorem SpRow.go {base top : Nat} {w w' : World} {t : TypeId} {size : Nat} {a : Option Addr} {n : Nat} (h : SpRow base top w t size a n) (k : Spoil base top w w') : SpRow base top w' t size a n := by
  rcases h with h | ⟨g, cur, h1, h2, h3, h4, h5⟩
  · exact .inl h
  · obtain ⟨cur', c1, c2, _⟩ := k.cells g cur t h4
    exact .inr ⟨g, cur', h1, h2, h3, c1, by omega⟩
theorem SpRow.of {base top : Nat} {w : World} {t : TypeId} {size : Nat} {a : Option Addr} {n m c : Nat} {xs : List Value} (h : w.ownsRow base t size (.slice a n c) m xs) (hs : w.heap.size ≤ top) : SpRow base top w t size a n := by
  rcases h.2 with ⟨e, _⟩ | ⟨g, cap, cur, e, hb, hg, hn, _, hc, _⟩
  · injection e with _ e _
    exact .inl e
  · injection e with e1 e2 e3
    subst e1 e2 e3
    obtain ⟨hk, _⟩ := Array.getElem?_eq_some_iff.1 hg
    exact .inr ⟨g, cur, rfl, hb, by omega, hg, by rw [hc]; exact Nat.mul_le_mul_right _ hn⟩
/-- An element of such a row. -/
theorem SpRow.at {base top : Nat} {w : World} {t : TypeId} {size : Nat} {a : Option Addr} {n : Nat} (h : SpRow base top w t size a n) {k : Nat} (hk : k < n) :
    ∃ (g : Nat) (cur : Array Value), a = some ⟨g, 0, none⟩ ∧ base ≤ g ∧ g < top ∧ w.heap[g]? = some (Obj.cells cur t (0, 0)) ∧ k * size + size ≤ cur.size := by
  rcases h with h | ⟨g, cur, h1, h2, h3, h4, h5⟩
  · omega
  · refine ⟨g, cur, h1, h2, h3, h4, ?_⟩
    have := Nat.mul_le_mul_right size (show k + 1 ≤ n by omega)
    rw [Nat.succ_mul] at this
    omega
theorem cell_of {w : World} {g : Nat} {cur : Array Value} {t : TypeId} {fz : Nat × Nat} (h : w.heap[g]? = some (Obj.cells cur t fz)) (i : Nat) : w.cell? ⟨g, i, none⟩ = cur[i]? := by
  simp [World.cell?, h]
theorem there_of {w : World} {g : Nat} {cur : Array Value} {t : TypeId} (h : w.heap[g]? = some (Obj.cells cur t (0, 0))) {i : Nat} (hi : i < cur.size) : ∃ v, w.cell? ⟨g, i, none⟩ = some v := ⟨cur[i], by rw [cell_of h, Array.getElem?_eq_getElem hi]⟩
theorem open_of {w : World} {g : Nat} {cur : Array Value} {t : TypeId} (h : w.heap[g]? = some (Obj.cells cur t (0, 0))) (i : Nat) : w.frozen? ⟨g, i, none⟩ = false := by
  simp [World.frozen?, h]

/-- A table whose rows lie between base and top. -/
def SpTab (base top : Nat) (w : World) (a : Option Addr) (n : Nat) : Prop :=
  n ≤ maxLen ∧ (n = 0 ∨ ∃ (g : Nat) (cur : Array Value), a = some ⟨g, 0, none⟩ ∧ base ≤ g ∧ g < top ∧ w.heap[g]? = some (Obj.cells cur 71 (0, 0)) ∧ n * 4 ≤ cur.size ∧ ∀ k, k < n → ∃ ka kn kc, cur[4 * k + 3]? = some (.slice ka kn kc) ∧ kn ≤ maxLen ∧ SpRow base top w 73 2 ka kn)
theorem SpTab.go {base top : Nat} {w w' : World} {a : Option Addr} {n : Nat} (h : SpTab base top w a n) (k : Spoil base top w w') : SpTab base top w' a n := by
  refine ⟨h.1, ?_⟩
  rcases h.2 with h | ⟨g, cur, h1, h2, h3, h4, h5, h6⟩
  · exact .inl h
  · obtain ⟨cur', c1, c2, c3⟩ := k.cells g cur _ h4
    refine .inr ⟨g, cur', h1, h2, h3, c1, by omega, fun i hi => ?_⟩
    obtain ⟨ka, kn, kc, q1, q2, q3⟩ := h6 i hi
    rcases c3 rfl i with e | e
    · exact ⟨ka, kn, kc, e.trans q1, q2, q3.go k⟩
    · exact ⟨none, 0, 0, e, Nat.zero_le _, .inl rfl⟩
theorem sesCells_three : ∀ {L : List Ses} {ks : List Value} {k : Nat} (h : k < L.length), ks.length = L.length → (sesCells L ks)[4 * k + 3]? = ks[k]?
  | s :: r, v :: ks, 0, _, _ => rfl
  | s :: r, v :: ks, k + 1, h, e => by
    have := sesCells_three (L := r) (ks := ks) (k := k) (by simpa using h) (by simpa using e)
    rw [show 4 * (k + 1) + 3 = (4 * k + 3) + 4 by omega]
    simpa [sesCells] using this
theorem KeptsOwn.nth {base : Nat} {w : World} : ∀ {L : List Ses} {ks : List Value} {k : Nat} (h : k < L.length), KeptsOwn base w L ks → ∃ v, ks[k]? = some v ∧ w.ownsRow base 73 2 v L[k].kept.length (repCells L[k].kept)
  | s :: r, v :: ks, 0, _, h => ⟨v, rfl, h.1⟩
  | s :: r, v :: ks, k + 1, h, hh => by
    obtain ⟨u, h1, h2⟩ := KeptsOwn.nth (L := r) (ks := ks) (k := k) (by simpa using h) hh.2
    exact ⟨u, by simpa using h1, by simpa using h2⟩
theorem SpTab.of {base top : Nat} {w : World} {a : Option Addr} {n c : Nat} {L : List Ses} (h : OwnTab base w (.slice a n c) L) (hs : w.heap.size ≤ top) : SpTab base top w a n := by
  obtain ⟨ks, h1, h2⟩ := h
  have hl := h1.len
  rcases h2.2 with ⟨e, _⟩ | ⟨g, cap, cur, e, hb, hg, hn, hm, hc, hx⟩
  · injection e with _ e _
    subst e
    exact ⟨Nat.zero_le _, .inl rfl⟩
  · injection e with e1 e2 e3
    subst e1 e2 e3
    obtain ⟨hk, _⟩ := Array.getElem?_eq_some_iff.1 hg
    refine ⟨by omega, .inr ⟨g, cur, rfl, hb, by omega, hg, by rw [hc]; exact Nat.mul_le_mul_right _ hn, fun k hk => ?_⟩⟩
    obtain ⟨v, q1, q2⟩ := h1.nth hk
    have q3 := sesCells_three hk hl
    rw [q1, ← hx, List.getElem?_take_of_lt (by omega), Array.getElem?_toList] at q3
    rcases q2.2 with ⟨e, _⟩ | ⟨g', cap', cur', e, hb', hg', hn', hm', hc', _⟩
    · subst e
      exact ⟨none, 0, 0, q3, Nat.zero_le _, .inl rfl⟩
    · subst e
      obtain ⟨hk', _⟩ := Array.getElem?_eq_some_iff.1 hg'
      exact ⟨_, _, _, q3, by omega, .inr ⟨g', cur', rfl, hb', by omega, hg', by rw [hc']; exact Nat.mul_le_mul_right _ hn'⟩⟩
/-- A session of such a table. -/
theorem SpTab.at {base top : Nat} {w : World} {a : Option Addr} {n : Nat} (h : SpTab base top w a n) {k : Nat} (hk : k < n) :
    ∃ (g : Nat) (cur : Array Value) (ka : Option Addr) (kn kc : Nat), a = some ⟨g, 0, none⟩ ∧ base ≤ g ∧ g < top ∧ w.heap[g]? = some (Obj.cells cur 71 (0, 0)) ∧ 4 * k + 4 ≤ cur.size ∧ cur[4 * k + 3]? = some (.slice ka kn kc) ∧ kn ≤ maxLen ∧ SpRow base top w 73 2 ka kn := by
  rcases h.2 with h | ⟨g, cur, h1, h2, h3, h4, h5, h6⟩
  · omega
  · obtain ⟨ka, kn, kc, q1, q2, q3⟩ := h6 k hk
    exact ⟨g, cur, ka, kn, kc, h1, h2, h3, h4, by omega, q1, q2, q3⟩
/-- A group whose rows lie between base and top. -/
structure SpGr (base top : Nat) (w : World) (g : Grp) (A : Ad) : Prop where
  b : SpTab base top w A.xa g.log.base.tab.length
  tail : SpRow base top w 35 9 A.ta g.log.tail.length
  len : g.log.tail.length ≤ maxLen
  t0 : SpTab base top w A.a0 g.n0.tab.length
  t1 : SpTab base top w A.a1 g.n1.tab.length
  t2 : SpTab base top w A.a2 g.n2.tab.length
theorem SpGr.go {base top : Nat} {w w' : World} {g : Grp} {A : Ad} (h : SpGr base top w g A) (k : Spoil base top w w') : SpGr base top w' g A := ⟨h.b.go k, h.tail.go k, h.len, h.t0.go k, h.t1.go k, h.t2.go k⟩
theorem owns_len {w : World} {base : Nat} {t : TypeId} {size n c m : Nat} {a : Option Addr} {xs : List Value} (h : w.ownsRow base t size (.slice a n c) m xs) : n ≤ maxLen := by
  rcases h.2 with ⟨e, _⟩ | ⟨g, cap, cur, e, hb, hg, hn, hm, _⟩
  · injection e with _ e _
    subst e
    exact Nat.zero_le _
  · injection e with e1 e2 e3
    subst e1 e2 e3
    omega
theorem SpGr.of {base top : Nat} {w : World} {g : Grp} {A : Ad} (h : GrOwn base w g A) (hs : w.heap.size ≤ top) : SpGr base top w g A :=
  ⟨SpTab.of h.b hs, SpRow.of h.tail hs, owns_len h.tail, SpTab.of h.t0 hs, SpTab.of h.t1 hs, SpTab.of h.t2 hs⟩
end Go.Proofs.YteabfjpajgakiagGreat

/- What spoils a state. -/
set_option linter.unusedSimpArgs false
set_option linter.unusedVariables false
set_option maxRecDepth 10000
namespace Go.Proofs.YteabfjpajgakiagGreat
open Go.RowKit

set_option maxHeartbeats 4000000 in
theorem spoil_c (base top : Nat) (s : St) (a : Option Addr) (n c : Nat) (w : World) (hT : SpTab base top w a n) (ht : top ≤ w.heap.size) : Calls Tryz.prog 12 #[stV s (.slice a n c)] w fun e w' => e = .returned (.tuple #[]) ∧ Spoil base top w w' := by
  have hn := hT.1
  unfold maxLen at hn
  have HT : Hid (SpTab base top w a n) := hT
  clear hT
  go_enter Tryz.func12, Tryz.ntmps12
  go_wp2_with fail
  obtain ⟨w1, hw1⟩ : ∃ z, z = w.alloc (.cells #[.int .i64 s.at_, .int .i64 s.clock, .int .i64 s.v0, .int .i64 s.v1, .int .i64 s.v2, .int .i64 s.v3, .slice a n c] 25) := ⟨_, rfl⟩
  obtain ⟨sb, hsb⟩ : ∃ z, z = w.heap.size := ⟨_, rfl⟩
  have HK1 : Hid (Keeps w w1) := by show Keeps _ _; rw [hw1]; exact (Keeps.refl _).alloc _
  have HC1 : Hid (CBox sb [.int .i64 s.at_, .int .i64 s.clock, .int .i64 s.v0, .int .i64 s.v1, .int .i64 s.v2, .int .i64 s.v3, .slice a n c] w1) := by show CBox _ _ _; rw [hw1, hsb]; exact CBox.new w _ 25
  have HSB : Hid (top ≤ sb) := by show _ ≤ _; omega
  rw [← hw1, ← hsb]
  clear hw1 hsb
  go_loopw [2] (fun i wr => ∃ (k : Nat), k ≤ n ∧ i = .int .i64 k ∧ Hid (Spoil base top w wr) ∧ Hid (CBox sb [.int .i64 s.at_, .int .i64 s.clock, .int .i64 s.v0, .int .i64 s.v1, .int .i64 s.v2, .int .i64 s.v3, .slice a n c] wr)) (fun i _ => n - (intOf i).toNat)
  case atStart => exact ⟨0, Nat.zero_le _, rfl, Spoil.of HK1.out, HC1⟩
  case round =>
    obtain ⟨k, hk, rfl, HSP, HC⟩ := hrel
    have c6 : wr.cell? ⟨sb, 6, none⟩ = some (.slice a n c) := HC.out.1 6 _ rfl
    have cl := World.block_lt_of_cell? _ _ c6
    simp only [] at cl
    by_cases hlt : k < n
    · obtain ⟨g, cur, ka, kn, kc, rfl, g1, g2, hg, hgs, hgc, hkn, HR⟩ := (HT.out.go HSP.out).at hlt
      unfold maxLen at hkn
      have HG : Hid (wr.heap[g]? = some (Obj.cells cur 71 (0, 0))) := hg
      have HGS : Hid (base ≤ g ∧ g < top ∧ 4 * k + 4 ≤ cur.size ∧ cur[4 * k + 3]? = some (.slice ka kn kc)) := ⟨g1, g2, hgs, hgc⟩
      have HRR : Hid (SpRow base top wr 73 2 ka kn) := HR
      clear hg g1 g2 hgs hgc HR
      go_wp2_with fail
      obtain ⟨wo, rfl⟩ : ∃ z, z = wr := ⟨wr, rfl⟩
      go_loopw [3] (fun j wq => ∃ (i : Nat), i ≤ kn ∧ j = .int .i64 i ∧ Hid (Spoil base top wo wq) ∧ Hid (CBox sb [.int .i64 s.at_, .int .i64 s.clock, .int .i64 s.v0, .int .i64 s.v1, .int .i64 s.v2, .int .i64 s.v3, .slice (some ⟨g, 0, none⟩) n c] wq) ∧ Hid (wq.heap[g]? = some (Obj.cells cur 71 (0, 0)))) (fun j _ => kn - (intOf j).toNat)
      case atStart => exact ⟨0, Nat.zero_le _, rfl, Spoil.refl _ _ _, HC, HG⟩
      case round =>
        obtain ⟨i, hi, rfl, HSQ, HCQ, HGQ⟩ := hrel
        clear c6 cl
        have c6 : wr.cell? ⟨sb, 6, none⟩ = some (.slice (some ⟨g, 0, none⟩) n c) := HCQ.out.1 6 _ rfl
        have cl := World.block_lt_of_cell? _ _ c6
        simp only [] at cl
        have c3 : wr.cell? ⟨g, k * 4 + 3, none⟩ = some (.slice ka kn kc) := by rw [cell_of HGQ.out, Nat.mul_comm]; exact HGS.out.2.2.2
        have gl := World.block_lt_of_cell? _ _ c3
        simp only [] at gl
        by_cases hli : i < kn
        · obtain ⟨h, cu, rfl, h1, h2, hh, hhs⟩ := (HRR.out.go HSQ.out).at hli
          obtain ⟨v0, d0⟩ := there_of hh (i := i * 2) (by omega)
          obtain ⟨v1, d1⟩ := there_of hh (i := i * 2 + 1) (by omega)
          have df := open_of hh
          have hl := World.block_lt_of_cell? _ _ d0
          simp only [] at hl
          have HH : Hid (wr.heap[h]? = some (Obj.cells cu 73 (0, 0)) ∧ base ≤ h ∧ h < top) := ⟨hh, h1, h2⟩
          clear hh h1 h2 hhs
          go_wp2_with fail
          obtain ⟨wz, hwz⟩ : ∃ z, z = putsAt wr h [(i * 2, .int .i64 (-9)), (i * 2 + 1, .int .i64 0)] := ⟨_, rfl⟩
          have sz : Spoil base top wr wz := by
            rw [hwz]
            refine Spoil.sets HH.out.2.1 HH.out.2.2 _ _ _ HH.out.1 (fun p _ e => absurd e (by decide))
          have HSZ : Hid (Spoil base top wo wz) := HSQ.out.trans sz
          have HCZ : Hid (CBox sb [.int .i64 s.at_, .int .i64 s.clock, .int .i64 s.v0, .int .i64 s.v1, .int .i64 s.v2, .int .i64 s.v3, .slice (some ⟨g, 0, none⟩) n c] wz) := Spoil.box HCQ.out (by simp) (.inr HSB.out) sz
          have HGZ : Hid (wz.heap[g]? = some (Obj.cells cur 71 (0, 0))) := by
            show _ = _
            rw [hwz, puts_other (by
              intro e
              subst e
              have a1 := HGQ.out
              rw [HH.out.1] at a1
              injection a1 with a1
              injection a1 with _ a1 _
              exact absurd a1 (by decide))]
            exact HGQ.out
          change _ at hwz
          rw [show (wr.setCell ⟨h, i * 2, none⟩ (.int .i64 (-9))).setCell ⟨h, i * 2 + 1, none⟩ (.int .i64 0) = wz from hwz.symm]
          clear hwz sz
          go_roundw
          case rel => exact ⟨i + 1, by omega, by go_num, HSZ, HCZ, HGZ⟩
          case measure => simp [intOf]; omega
        · clear HRR
          have e4 : Hid (4 * k + 4 ≤ cur.size ∧ base ≤ g ∧ g < top) := ⟨HGS.out.2.2.1, HGS.out.1, HGS.out.2.1⟩
          obtain ⟨v0, d0⟩ := there_of HGQ.out (i := k * 4) (by have := e4.out.1; omega)
          obtain ⟨v1, d1⟩ := there_of HGQ.out (i := k * 4 + 1) (by have := e4.out.1; omega)
          obtain ⟨v2, d2⟩ := there_of HGQ.out (i := k * 4 + 2) (by have := e4.out.1; omega)
          have df := open_of HGQ.out
          go_wp2_with fail
          obtain ⟨wz, hwz⟩ : ∃ z, z = putsAt wr g [(k * 4, .int .i64 (-9)), (k * 4 + 1, .int .i64 0), (k * 4 + 2, .int .i64 0), (k * 4 + 3, .slice none 0 0)] := ⟨_, rfl⟩
          have sz : Spoil base top wr wz := by
            rw [hwz]
            refine Spoil.sets e4.out.2.1 e4.out.2.2 _ _ _ HGQ.out (fun p hp _ hm => ?_)
            simp only [List.mem_cons, List.not_mem_nil, or_false] at hp
            rcases hp with rfl | rfl | rfl | rfl
            · exact absurd hm (by first | (simp; done) | (simp; omega) | omega)
            · exact absurd hm (by first | (simp; done) | (simp; omega) | omega)
            · exact absurd hm (by first | (simp; done) | (simp; omega) | omega)
            · rfl
          have HSZ : Hid (Spoil base top w wz) := (HSP.out.trans HSQ.out).trans sz
          have HCZ : Hid (CBox sb [.int .i64 s.at_, .int .i64 s.clock, .int .i64 s.v0, .int .i64 s.v1, .int .i64 s.v2, .int .i64 s.v3, .slice (some ⟨g, 0, none⟩) n c] wz) := Spoil.box HCQ.out (by simp) (.inr HSB.out) sz
          rw [show (((wr.setCell ⟨g, k * 4, none⟩ (.int .i64 (-9))).setCell ⟨g, k * 4 + 1, none⟩ (.int .i64 0)).setCell ⟨g, k * 4 + 2, none⟩ (.int .i64 0)).setCell ⟨g, k * 4 + 3, none⟩ (.slice none 0 0) = wz from hwz.symm]
          clear hwz sz
          go_roundw
          case rel => exact ⟨k + 1, by omega, by go_num, HSZ, HCZ⟩
          case measure => simp [intOf]; omega
    · go_wp2_with fail
      refine ⟨rfl, .tuple #[], by simp [results, Tryz.results12], rfl, HSP.out⟩
end Go.Proofs.YteabfjpajgakiagGreat

/- group.Check. -/
set_option linter.unusedSimpArgs false
set_option linter.unusedVariables false
set_option maxRecDepth 10000
namespace Go.Proofs.YteabfjpajgakiagGreat
open Go.RowKit

set_option maxHeartbeats 400000 in
theorem group_check (g : Grp) (A : Ad) (w : World) (hG : GrAt w g A) : Calls Tryz.prog 23 #[.agg (GL g A).toArray] w fun e w' => e = .returned (.int .i64 (grErr g)) ∧ Keeps w w' := by
  have HG : Hid (GrAt w g A) := hG
  clear hG
  go_enter Tryz.func23, Tryz.ntmps23
  go_wp2_with (first | (refine box31 rfl rfl rfl ?_; intro w1 bb hBbb hkbb hlbb hgbb) | (refine load31 rfl rfl bb rfl hBbb ?_) | (refine build48 rfl rfl rfl ?_) | (refine alloc48 rfl rfl ?_; intro w2 nb hBnb hknb hlnb hgnb) | (refine store48 rfl rfl nb rfl rfl hBnb ?_; intro w3 hSw3 hTw3))
  have hk3 : Keeps w w3 := But.to (hkbb.trans hknb) (Nat.le_trans hkbb.size hgnb) hTw3
  refine (hall_check_c g A nb w3 (HG.out.keep hk3) hSw3).mono ?_
  rintro e w4 ⟨rfl, hb⟩
  have HK : Hid (Keeps w w4) := hk3.trans hb
  clear hb hk3 hBbb hkbb hlbb hgbb hBnb hknb hlnb hgnb hSw3 hTw3
  go_wp2_with fail
  go_ret
  exact ⟨rfl, HK.out⟩
end Go.Proofs.YteabfjpajgakiagGreat
