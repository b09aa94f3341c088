/- NoF, NoG, NoH, NoI. -/
import Derived.Test.YteabfjpajgakiaeGreatJ15
import Derived.Test.YteabfjpajgakiaeGreatJ18
import Derived.Test.YteabfjpajgakiaeGreatJ20
/- The reference's RunOf. -/
set_option linter.unusedSimpArgs false
set_option linter.unusedVariables false
set_option maxRecDepth 10000
namespace Go.Proofs.YteabfjpajgakiaeGreat
open Go.RowKit

set_option maxHeartbeats 4000000 in
theorem run_of (l : Lg) (s : St) (n : Int) (x y : Value) (ta : Option Addr) (tc : Nat) (w : World) (hT : TabAt w x l.base.tab) (hL : EntsAt w (.slice ta l.tail.length tc) l.tail) (hY : TabAt w y s.tab) (hcap : l.tail.length ≤ tc) : Calls Tryz.prog 9 #[lgV l x (.slice ta l.tail.length tc), stV s y, .int .i64 n] w fun e w' => ∃ qa qc, TabAt w' (.slice qa (runOut l s n).tab.length qc) (runOut l s n).tab ∧ e = .returned (.tuple #[stV (runOut l s n) (.slice qa (runOut l s n).tab.length qc), .int .i64 (runNum l s n), .int .i64 (runErr l s n)]) ∧ Keeps w w' := by
  obtain ⟨xa, xc, rfl, _⟩ := hT.len
  obtain ⟨ya, yc, rfl, _⟩ := hY.len
  have HT : Hid (TabAt w (.slice xa l.base.tab.length xc) l.base.tab) := hT
  have HL : Hid (EntsAt w (.slice ta l.tail.length tc) l.tail) := hL
  have HY : Hid (TabAt w (.slice ya s.tab.length yc) s.tab) := hY
  have hlen := hL.2.1
  unfold maxLen at hlen
  clear hT hL hY
  have HOZ : Hid ((runErr l s n == 0) = false → runOut l s n = zeroSt ∧ runNum l s n = 0) := fun h => ⟨by unfold runOut; rw [h]; rfl, by unfold runNum; rw [h]; rfl⟩
  have HON : Hid (runErr l s n = 0 → runOut l s n = runSt (runFrom l s) (runL l s n)) := fun h => by unfold runOut; rw [h]; rfl
  have HNN : Hid (runErr l s n = 0 → runNum l s n = runCnt l s n) := fun h => by unfold runNum; rw [h]; rfl
  have HZT : Hid (zeroSt.tab = []) := rfl
  have HE : Hid (runErr l s n = if nodeErr l s == 0 then (if inB n 0 50 then (if fitsB l s then 0 else 1) else 3) else nodeErr l s) := rfl
  go_enter Tryz.func9, Tryz.ntmps9
  go_wp2_with fail
  obtain ⟨W1, hW1⟩ : ∃ W1, W1 = ((w.alloc (.cells #[.int .i64 l.base.at_, .int .i64 l.base.clock, .int .i64 l.base.v0, .int .i64 l.base.v1, .int .i64 l.base.v2, .int .i64 l.base.v3, .slice xa l.base.tab.length xc, .slice ta l.tail.length tc] 28)).alloc (.cells #[.int .i64 s.at_, .int .i64 s.clock, .int .i64 s.v0, .int .i64 s.v1, .int .i64 s.v2, .int .i64 s.v3, .slice ya s.tab.length yc] 25)).alloc (.cells #[.int .i64 0, .int .i64 0, .int .i64 0, .int .i64 0, .int .i64 0, .int .i64 0, .slice none 0 0] 25) := ⟨_, rfl⟩
  have k1 : Keeps w W1 := by rw [hW1]; exact (((Keeps.refl _).alloc _).alloc _).alloc _
  have B1 : LgBox w.heap.size l (.slice xa l.base.tab.length xc) (.slice ta l.tail.length tc) W1 := by rw [hW1]; exact (LgBox.new w l _ _ rfl rfl 28).keep (((Keeps.refl _).alloc _).alloc _)
  have C1 : StBox (w.heap.size + 1) s (.slice ya s.tab.length yc) W1 := by
    rw [hW1]
    have := (StBox.new (w.alloc (.cells #[.int .i64 l.base.at_, .int .i64 l.base.clock, .int .i64 l.base.v0, .int .i64 l.base.v1, .int .i64 l.base.v2, .int .i64 l.base.v3, .slice xa l.base.tab.length xc, .slice ta l.tail.length tc] 28)) s (.slice ya s.tab.length yc) 25).keep ((Keeps.refl _).alloc (.cells #[.int .i64 0, .int .i64 0, .int .i64 0, .int .i64 0, .int .i64 0, .int .i64 0, .slice none 0 0] 25))
    simp only [World.size_alloc] at this
    exact this
  have Z1 : StBox (w.heap.size + 2) zeroSt (.slice none 0 0) W1 := by
    rw [hW1]
    have := StBox.new ((w.alloc (.cells #[.int .i64 l.base.at_, .int .i64 l.base.clock, .int .i64 l.base.v0, .int .i64 l.base.v1, .int .i64 l.base.v2, .int .i64 l.base.v3, .slice xa l.base.tab.length xc, .slice ta l.tail.length tc] 28)).alloc (.cells #[.int .i64 s.at_, .int .i64 s.clock, .int .i64 s.v0, .int .i64 s.v1, .int .i64 s.v2, .int .i64 s.v3, .slice ya s.tab.length yc] 25)) zeroSt (.slice none 0 0) 25
    simp only [World.size_alloc] at this
    exact this
  rw [← hW1]
  clear hW1
  have Z2 : StBox (w.heap.size + 1 + 1) zeroSt (.slice none 0 0) W1 := Z1
  clear Z1
  obtain ⟨zb, hzb⟩ : ∃ zb, zb = w.heap.size + 1 + 1 := ⟨_, rfl⟩
  rw [← hzb] at Z2 ⊢
  have HZB : Hid (zb = w.heap.size + 1 + 1) := hzb
  clear hzb
  refine (node_error l s _ _ ta tc W1 (HT.out.keep k1) (HL.out.keep k1) (HY.out.keep k1)).mono ?_
  rintro e w1 ⟨rfl, hb⟩
  have HKK : Hid (Keeps w w1) := k1.trans hb
  have HB1 := (show Hid _ from B1.keep hb)
  have HC1 := (show Hid _ from C1.keep hb)
  have HZK := (show Hid _ from Z2.keep hb)
  clear k1 B1 C1 Z2 hb
  clear W1
  cases q1 : (nodeErr l s == 0) with
  | false =>
    have q1' : (nodeErr l s != 0) = true := by simp [bne, q1]
    have HE2 : Hid (runErr l s n = nodeErr l s) := by show _ = _; rw [HE.out, q1]; rfl
    have H1 := (show Hid _ from HOZ.out (by rw [HE2.out]; exact q1))
    have z0 := HZK.out.c0
    have z1 := HZK.out.c1
    have z2 := HZK.out.c2
    have z3 := HZK.out.c3
    have z4 := HZK.out.c4
    have z5 := HZK.out.c5
    have z6 := HZK.out.c6
    have zf := HZK.out.fz
    have zl := HZK.out.lt
    have hk := HKK.out
    go_wp2_with fail
    refine bodyPost_ret (v := .tuple #[stV zeroSt (.slice none 0 0), .int .i64 0, .int .i64 (nodeErr l s)]) ?_ rfl ?_
    · simp [results, Tryz.results9, go_sem, zeroSt, z0, z1, z2, z3, z4, z5, z6]
    · have hzz := HZB.out
      rw [HE2.out, H1.out.1, H1.out.2, HZT.out]
      refine ⟨none, 0, (OwnTab.nil 0 _).tab, rfl, ?_⟩
      repeat refine Keeps.set ?_ (by simp <;> omega) _
      exact hk
  | true =>
    have q1' : (nodeErr l s != 0) = false := by simp [bne, q1]
    have q0 : nodeErr l s = 0 := by simpa using q1
    have HNR := (show Hid _ from node_right q0)
    clear q0
    cases q2 : inB n 0 50 with
    | false =>
      have HE2 : Hid (runErr l s n = 3) := by show _ = _; rw [HE.out, q1, q2]; rfl
      have H1 := (show Hid _ from HOZ.out (by rw [HE2.out]; rfl))
      have z0 := HZK.out.c0
      have z1 := HZK.out.c1
      have z2 := HZK.out.c2
      have z3 := HZK.out.c3
      have z4 := HZK.out.c4
      have z5 := HZK.out.c5
      have z6 := HZK.out.c6
      have zf := HZK.out.fz
      have zl := HZK.out.lt
      have hk := HKK.out
      go_wp2_with (first | (go_at_call 23; refine (within_c _ _ _ _).mono ?_; rintro x w' ⟨rfl, rfl⟩))
      refine bodyPost_ret (v := .tuple #[stV zeroSt (.slice none 0 0), .int .i64 0, .int .i64 3]) ?_ rfl ?_
      · simp [results, Tryz.results9, go_sem, zeroSt, z0, z1, z2, z3, z4, z5, z6]
      · have hzz := HZB.out
        rw [HE2.out, H1.out.1, H1.out.2, HZT.out]
        refine ⟨none, 0, (OwnTab.nil 0 _).tab, rfl, ?_⟩
        repeat refine Keeps.set ?_ (by simp <;> omega) _
        exact hk
    | true =>
      obtain ⟨m, rfl⟩ : ∃ m : Nat, n = m := ⟨n.toNat, by have := inB_iff.1 q2; omega⟩
      have hm50 : m ≤ 50 := by have := inB_iff.1 q2; omega
      have b0 := HB1.out.c0
      have b1 := HB1.out.c1
      have b2 := HB1.out.c2
      have b3 := HB1.out.c3
      have b4 := HB1.out.c4
      have b5 := HB1.out.c5
      have b6 := HB1.out.c6
      have b7 := HB1.out.c7
      have bl := HB1.out.lt
      have c0 := HC1.out.c0
      have c1 := HC1.out.c1
      have c2 := HC1.out.c2
      have c3 := HC1.out.c3
      have c4 := HC1.out.c4
      have c5 := HC1.out.c5
      have c6 := HC1.out.c6
      have cl := HC1.out.lt
      go_wp2_with (first | (go_at_call 23; refine (within_c _ _ _ _).mono ?_; rintro x w' ⟨rfl, rfl⟩))
      clear b0 b1 b2 b3 b4 b5 b6 b7 bl c0 c1 c2 c3 c4 c5 c6 cl
      refine (fits_ref l s _ _ ta tc w1 (HT.out.keep HKK.out) (HL.out.keep HKK.out) (HY.out.keep HKK.out) HNR.out.1 HNR.out.2 hcap).mono ?_
      rintro e w2 ⟨rfl, hb⟩
      have HK2 : Hid (Keeps w w2) := HKK.out.trans hb
      have HB2 := (show Hid _ from HB1.out.keep hb)
      have HC2 := (show Hid _ from HC1.out.keep hb)
      have HZ2 := (show Hid _ from HZK.out.keep hb)
      clear hb HB1 HC1 HZK HKK
      clear w1
      cases q3 : fitsB l s with
      | false =>
        have HE2 : Hid (runErr l s m = 1) := by show _ = _; rw [HE.out, q1, q2, q3]; rfl
        have HKK := HK2
        have HZK := HZ2
        have H1 := (show Hid _ from HOZ.out (by rw [HE2.out]; rfl))
        have z0 := HZK.out.c0
        have z1 := HZK.out.c1
        have z2 := HZK.out.c2
        have z3 := HZK.out.c3
        have z4 := HZK.out.c4
        have z5 := HZK.out.c5
        have z6 := HZK.out.c6
        have zf := HZK.out.fz
        have zl := HZK.out.lt
        have hk := HKK.out
        go_wp2_with fail
        refine bodyPost_ret (v := .tuple #[stV zeroSt (.slice none 0 0), .int .i64 0, .int .i64 1]) ?_ rfl ?_
        · simp [results, Tryz.results9, go_sem, zeroSt, z0, z1, z2, z3, z4, z5, z6]
        · have hzz := HZB.out
          rw [HE2.out, H1.out.1, H1.out.2, HZT.out]
          refine ⟨none, 0, (OwnTab.nil 0 _).tab, rfl, ?_⟩
          repeat refine Keeps.set ?_ (by simp <;> omega) _
          exact hk
      | true =>
        have HR0 : Hid (runErr l s m = 0) := by show _ = _; rw [HE.out, q1, q2, q3]; rfl
        obtain ⟨⟨sa0, sa1⟩, _⟩ := stErr_bounds HNR.out.2
        obtain ⟨⟨la0, la1⟩, _⟩ := stErr_bounds (fold_right HNR.out.1).1
        by_cases h1 : s.at_ < l.base.at_
        · have hfrom : runFrom l s = l.base := by unfold runFrom; rw [if_pos h1]
          have HTT : Hid (TabAt w (.slice xa l.base.tab.length xc) l.base.tab) := HT.out
          obtain ⟨lo, hlo⟩ : ∃ lo : Nat, lo = runLo l s := ⟨_, rfl⟩
          obtain ⟨hf0, hf1, hf2, hf3⟩ := run_fold HR0.out
          have hls : l.base.at_ - l.base.at_ = (lo : Int) := by rw [hlo, ← hf1, hfrom]
          have hll : lo ≤ l.tail.length := by omega
          obtain ⟨k, hk'⟩ : ∃ k : Nat, k = min m (l.tail.length - lo) := ⟨_, rfl⟩
          have hkl : k ≤ l.tail.length - lo := by omega
          obtain ⟨r, hr'⟩ : ∃ r, r = runSt l.base ((l.tail.drop lo).take k) := ⟨_, rfl⟩
          have hcnt : runCnt l s m = k := by unfold runCnt; rw [← hlo, hk']; simp
          have HOUT : Hid (runOut l s m = r) := by
            show _ = _
            rw [HON.out HR0.out]
            unfold runL
            rw [hcnt, ← hlo, hfrom, hr']
          have HNUM : Hid (runNum l s m = k) := by show _ = _; rw [HNN.out HR0.out, hcnt]
          have h0 : foldErr l.base ((l.tail.drop lo).take k) = 0 := by
            have := hf0
            unfold runL at this
            rw [hcnt, ← hlo, hfrom] at this
            exact this
          have hfr := fold_right h0
          have hlk : ((l.tail.drop lo).take k).length = k := by simp; omega
          have HCG : Hid (∀ W, Keeps w W → Calls Tryz.prog 24 #[stV l.base (.slice xa l.base.tab.length xc), .slice (if tc = lo then ta else Option.map (fun x : Addr => x.add (lo * 9)) ta) k (tc - lo)] W fun y w' => ∃ qa qc ra rc da dc, Hid (OwnTab W.heap.size w' (.slice qa r.tab.length qc) r.tab) ∧ y = .returned (.tuple #[stV r (.slice qa r.tab.length qc), .slice ra k rc, .slice da k dc]) ∧ Keeps W w') := by
            intro W hk
            have h1 := ents_suffix (HL.out.keep hk) hll hcap
            have e1 : l.tail.length - lo = (l.tail.drop lo).length := by simp
            rw [e1] at h1
            rw [hr']
            refine (folded_c l.base ((l.tail.drop lo).take k) _ _ W (HTT.out.keep hk) (ents_prefix h1 (by rw [← e1]; exact hkl)) hfr.1 hfr.2.1 hfr.2.2).mono ?_
            rintro y w' ⟨qa, qc, ra, rc, da, dc, h1, _, _, rfl, hb⟩
            rw [hlk]
            exact ⟨qa, qc, ra, rc, da, dc, h1, rfl, hb⟩
          have hz9 : ∀ w, (Go.sizeOf 43).run Tryz.prog w = .ok 9 w := fun _ => by kernel_rfl
          have hlo0 : lo = 0 := by omega
          subst hlo0
          have hm3 : min (l.tail.length : Int) (m : Int) = (k : Int) := by omega
          have hkk2 : (k : Int) ≤ (l.tail.length : Int) := by omega
          have hkc1 : (k : Int) ≤ (tc : Int) := by omega
          have HC : Hid (∀ W, Keeps w W → Calls Tryz.prog 24 #[stV l.base (.slice xa l.base.tab.length xc), .slice ta k tc] W fun y w' => ∃ qa qc ra rc da dc, Hid (OwnTab W.heap.size w' (.slice qa r.tab.length qc) r.tab) ∧ y = .returned (.tuple #[stV r (.slice qa r.tab.length qc), .slice ra k rc, .slice da k dc]) ∧ Keeps W w') := by
            have := HCG.out
            have e1 : (if tc = 0 then ta else Option.map (fun x : Addr => x.add (0 * 9)) ta) = ta := by
              split
              · rfl
              · cases ta <;> simp [Addr.add]
            rw [e1, Nat.sub_zero] at this
            exact this
          clear HCG hr' hcnt hf0 hf1 hf2 hf3 hfrom hlo h0 hk' hls hll hfr hlk
          have b0 := HB2.out.c0
          have b1 := HB2.out.c1
          have b2 := HB2.out.c2
          have b3 := HB2.out.c3
          have b4 := HB2.out.c4
          have b5 := HB2.out.c5
          have b6 := HB2.out.c6
          have b7 := HB2.out.c7
          have bl := HB2.out.lt
          have c0 := HC2.out.c0
          have c1 := HC2.out.c1
          have c2 := HC2.out.c2
          have c3 := HC2.out.c3
          have c4 := HC2.out.c4
          have c5 := HC2.out.c5
          have c6 := HC2.out.c6
          have cl := HC2.out.lt
          have cf := HC2.out.fz
          have HBT0 := (show Hid _ from But.puts (b := w.heap.size + 1) w2 l.base (.slice xa l.base.tab.length xc))
          have HD3 := (show Hid _ from HC2.out.put l.base (.slice xa l.base.tab.length xc))
          go_wp2_with fail
          clear b0 b1 b2 b3 b4 b5 b6 b7 bl c0 c1 c2 c3 c4 c5 c6 cl cf
          obtain ⟨W2, hW2⟩ : ∃ z, z = (((((((w2.setCell ⟨w.heap.size + 1, 0, none⟩ (.int .i64 l.base.at_)).setCell ⟨w.heap.size + 1, 1, none⟩ (.int .i64 l.base.clock)).setCell ⟨w.heap.size + 1, 2, none⟩ (.int .i64 l.base.v0)).setCell ⟨w.heap.size + 1, 3, none⟩ (.int .i64 l.base.v1)).setCell ⟨w.heap.size + 1, 4, none⟩ (.int .i64 l.base.v2)).setCell ⟨w.heap.size + 1, 5, none⟩ (.int .i64 l.base.v3)).setCell ⟨w.heap.size + 1, 6, none⟩ (.slice xa l.base.tab.length xc)) := ⟨_, rfl⟩
          have HK3 : Hid (Keeps w W2) := by rw [hW2]; exact But.to HK2.out (by omega) HBT0.out
          have HZ3 : Hid (StBox zb zeroSt (.slice none 0 0) W2) := by rw [hW2]; exact HZ2.out.other HBT0.out (by have := HZB.out; omega)
          have HB3 : Hid (LgBox w.heap.size l (.slice xa l.base.tab.length xc) (.slice ta l.tail.length tc) W2) := by rw [hW2]; exact HB2.out.other HBT0.out (by omega)
          have HC3 : Hid (StBox (w.heap.size + 1) l.base (.slice xa l.base.tab.length xc) W2) := by rw [hW2]; exact HD3.out
          rw [← hW2]
          clear hW2 HBT0 HD3
          have HSA : Hid (∀ W, Keeps W2 W → W.cell? ⟨w.heap.size, 0, none⟩ = some (.int .i64 l.base.at_) ∧ W.cell? ⟨w.heap.size, 1, none⟩ = some (.int .i64 l.base.clock) ∧ W.cell? ⟨w.heap.size, 2, none⟩ = some (.int .i64 l.base.v0) ∧ W.cell? ⟨w.heap.size, 3, none⟩ = some (.int .i64 l.base.v1) ∧ W.cell? ⟨w.heap.size, 4, none⟩ = some (.int .i64 l.base.v2) ∧ W.cell? ⟨w.heap.size, 5, none⟩ = some (.int .i64 l.base.v3) ∧ W.cell? ⟨w.heap.size, 6, none⟩ = some (.slice xa l.base.tab.length xc) ∧ W.cell? ⟨w.heap.size, 7, none⟩ = some (.slice ta l.tail.length tc) ∧ W.cell? ⟨w.heap.size + 1, 0, none⟩ = some (.int .i64 l.base.at_) ∧ W.cell? ⟨w.heap.size + 1, 1, none⟩ = some (.int .i64 l.base.clock) ∧ W.cell? ⟨w.heap.size + 1, 2, none⟩ = some (.int .i64 l.base.v0) ∧ W.cell? ⟨w.heap.size + 1, 3, none⟩ = some (.int .i64 l.base.v1) ∧ W.cell? ⟨w.heap.size + 1, 4, none⟩ = some (.int .i64 l.base.v2) ∧ W.cell? ⟨w.heap.size + 1, 5, none⟩ = some (.int .i64 l.base.v3) ∧ W.cell? ⟨w.heap.size + 1, 6, none⟩ = some (.slice xa l.base.tab.length xc)) := fun W hk => have B := HB3.out.keep hk; have C := HC3.out.keep hk; ⟨B.c0, B.c1, B.c2, B.c3, B.c4, B.c5, B.c6, B.c7, C.c0, C.c1, C.c2, C.c3, C.c4, C.c5, C.c6⟩
          go_cut [12] (fun p wc => ∃ qb qa qc, p = .pointer (some ⟨qb, 0, none⟩) ∧ StBox qb r (.slice qa r.tab.length qc) wc ∧ OwnTab W2.heap.size wc (.slice qa r.tab.length qc) r.tab ∧ Keeps W2 wc)
          case first =>
            obtain ⟨V0, hV0⟩ : ∃ z, z = W2.drew := ⟨_, rfl⟩
            have k0 : Keeps W2 V0 := by rw [hV0]; exact (Keeps.refl _).drew
            refine wp_region_held_drew (S := fun W => W.cell? ⟨w.heap.size, 0, none⟩ = some (.int .i64 l.base.at_) ∧ W.cell? ⟨w.heap.size, 1, none⟩ = some (.int .i64 l.base.clock) ∧ W.cell? ⟨w.heap.size, 2, none⟩ = some (.int .i64 l.base.v0) ∧ W.cell? ⟨w.heap.size, 3, none⟩ = some (.int .i64 l.base.v1) ∧ W.cell? ⟨w.heap.size, 4, none⟩ = some (.int .i64 l.base.v2) ∧ W.cell? ⟨w.heap.size, 5, none⟩ = some (.int .i64 l.base.v3) ∧ W.cell? ⟨w.heap.size, 6, none⟩ = some (.slice xa l.base.tab.length xc) ∧ W.cell? ⟨w.heap.size, 7, none⟩ = some (.slice ta l.tail.length tc) ∧ W.cell? ⟨w.heap.size + 1, 0, none⟩ = some (.int .i64 l.base.at_) ∧ W.cell? ⟨w.heap.size + 1, 1, none⟩ = some (.int .i64 l.base.clock) ∧ W.cell? ⟨w.heap.size + 1, 2, none⟩ = some (.int .i64 l.base.v0) ∧ W.cell? ⟨w.heap.size + 1, 3, none⟩ = some (.int .i64 l.base.v1) ∧ W.cell? ⟨w.heap.size + 1, 4, none⟩ = some (.int .i64 l.base.v2) ∧ W.cell? ⟨w.heap.size + 1, 5, none⟩ = some (.int .i64 l.base.v3) ∧ W.cell? ⟨w.heap.size + 1, 6, none⟩ = some (.slice xa l.base.tab.length xc)) (by kernel_rfl) (HSA.out _ (Keeps.refl _).drew) (fun hS => ?_)
            rw [← hV0] at hS ⊢
            clear hV0
            refine wpAnyH_take (i := 0) (v := stV l.base (.slice xa l.base.tab.length xc)) rfl (by kernel_rfl) (by kernel_rfl) (by kernel_rfl) (fun _ _ _ h => h) (Or.inl ⟨by rfl, ?_⟩) hS ?_
            · intro w hS; go_simp
            refine wpAnyH_take (i := 1) (v := .pointer (some ⟨w.heap.size, 7, none⟩)) rfl (by kernel_rfl) (by kernel_rfl) (by kernel_rfl) (fun _ _ _ h => h) (Or.inl ⟨by rfl, ?_⟩) hS ?_
            · intro w hS; go_simp
            refine wpAnyH_take (i := 2) (v := .slice ta l.tail.length tc) rfl (by kernel_rfl) (by kernel_rfl) (by kernel_rfl) (fun _ _ _ h => h) (Or.inl ⟨by rfl, ?_⟩) hS ?_
            · intro w hS; go_simp
            refine wpAnyH_take (i := 3) (v := .int .i64 0) rfl (by kernel_rfl) (by kernel_rfl) (by kernel_rfl) (fun _ _ _ h => h) (Or.inl ⟨by rfl, ?_⟩) hS ?_
            · intro w hS; go_simp
            refine wpAnyH_take (i := 4) (v := .int .i64 k) rfl (by kernel_rfl) (by kernel_rfl) (by kernel_rfl) (fun _ _ _ h => h) (Or.inl ⟨by rfl, ?_⟩) hS ?_
            · intro w hS; go_simp
            refine wpAnyH_take (i := 5) (v := .slice (if tc = 0 then ta else Option.map (fun x : Addr => x.add 0) ta) k tc) rfl (by kernel_rfl) (by kernel_rfl) (by kernel_rfl) (fun _ _ _ h => h) (Or.inl ⟨by rfl, ?_⟩) hS ?_
            · intro w hS; go_simp
            refine wpAnyH_ready (rs := [6, 11]) (by kernel_rfl) (by simp) ?_
            refine AllReadyH.cons rfl (fun K hK => ?_) (AllReadyH.cons rfl (fun K hK => ?_) (AllReadyH.nil))
            · go_simp
              refine (HC.out V0 (HK3.out.trans k0)).mono ?_
              rintro y V1 ⟨qa, qc, ra, rc, da, dc, HO1, rfl, hb⟩
              have k1 := k0.trans hb
              go_simp
              refine hK.out _ _ (HSA.out _ k1) (fun hS => ?_)
              clear hK K
              clear hb
              refine wpAnyH_take (i := 7) (v := .tuple #[stV r (.slice qa r.tab.length qc), .slice ra k rc, .slice da k dc]) rfl (by kernel_rfl) (by kernel_rfl) (by kernel_rfl) (fun _ _ _ h => h) (Or.inl ⟨by rfl, ?_⟩) hS ?_
              · intro w hS; go_simp
              refine wpAnyH_take (i := 8) (v := stV r (.slice qa r.tab.length qc)) rfl (by kernel_rfl) (by kernel_rfl) (by kernel_rfl) (fun _ _ _ h => h) (Or.inl ⟨by rfl, ?_⟩) hS ?_
              · intro w hS; go_simp
              refine wpAnyH_take (i := 9) (v := .slice ra k rc) rfl (by kernel_rfl) (by kernel_rfl) (by kernel_rfl) (fun _ _ _ h => h) (Or.inl ⟨by rfl, ?_⟩) hS ?_
              · intro w hS; go_simp
              refine wpAnyH_take (i := 10) (v := .slice da k dc) rfl (by kernel_rfl) (by kernel_rfl) (by kernel_rfl) (fun _ _ _ h => h) (Or.inl ⟨by rfl, ?_⟩) hS ?_
              · intro w hS; go_simp
              refine wpAnyH_ready (rs := [11]) (by kernel_rfl) (by simp) ?_
              refine AllReadyH.cons rfl (fun K hK => ?_) (AllReadyH.nil)
              go_simp
              have hb : Keeps V1 (V1.alloc (.cells #[.int .i64 0, .int .i64 0, .int .i64 0, .int .i64 0, .int .i64 0, .int .i64 0, .slice none 0 0] 25)) := (Keeps.refl _).alloc _
              have HQ2 : Hid (StBox V1.heap.size zeroSt (.slice none 0 0) (V1.alloc (.cells #[.int .i64 0, .int .i64 0, .int .i64 0, .int .i64 0, .int .i64 0, .int .i64 0, .slice none 0 0] 25))) := StBox.new V1 zeroSt (.slice none 0 0) 25
              generalize V1.alloc (.cells #[.int .i64 0, .int .i64 0, .int .i64 0, .int .i64 0, .int .i64 0, .int .i64 0, .slice none 0 0] 25) = V2 at *
              have k2 := k1.trans hb
              refine hK.out _ _ (HSA.out _ k2) (fun hS => ?_)
              clear hK K
              have HTF : Hid (∀ WF, But V1.heap.size V2 WF → OwnTab W2.heap.size WF (.slice qa r.tab.length qc) r.tab) := fun WF hF => (HO1.out.keep (But.to hb (Nat.le_refl _) hF)).base k0.size
              clear hb
              refine wpAnyH_ready (rs := [12]) (by kernel_rfl) (by simp) ?_
              refine AllReadyH.cons rfl (fun K hK => ?_) (AllReadyH.nil)
              have z0 := HQ2.out.c0
              have z1 := HQ2.out.c1
              have z2 := HQ2.out.c2
              have z3 := HQ2.out.c3
              have z4 := HQ2.out.c4
              have z5 := HQ2.out.c5
              have z6 := HQ2.out.c6
              have zf := HQ2.out.fz
              have zl := HQ2.out.lt
              go_simp
              have BP := HQ2.out.put r (.slice qa r.tab.length qc)
              have BT := But.puts (b := V1.heap.size) V2 r (.slice qa r.tab.length qc)
              have KF := But.to k2 k1.size BT
              have HTE := HTF.out _ BT
              obtain ⟨WF, hWF⟩ : ∃ z, z = (((((((V2.setCell ⟨V1.heap.size, 0, none⟩ (.int .i64 r.at_)).setCell ⟨V1.heap.size, 1, none⟩ (.int .i64 r.clock)).setCell ⟨V1.heap.size, 2, none⟩ (.int .i64 r.v0)).setCell ⟨V1.heap.size, 3, none⟩ (.int .i64 r.v1)).setCell ⟨V1.heap.size, 4, none⟩ (.int .i64 r.v2)).setCell ⟨V1.heap.size, 5, none⟩ (.int .i64 r.v3)).setCell ⟨V1.heap.size, 6, none⟩ (.slice qa r.tab.length qc)) := ⟨_, rfl⟩
              rw [← hWF] at BP BT KF HTE ⊢
              clear hWF z0 z1 z2 z3 z4 z5 z6 zf zl
              refine hK.out _ _ (HSA.out _ KF) (fun hS => ?_)
              clear hK K
              refine wpAnyH_take (i := 13) (v := .slice ra k rc) rfl (by kernel_rfl) (by kernel_rfl) (by kernel_rfl) (fun _ _ _ h => h) (Or.inl ⟨by rfl, ?_⟩) hS ?_
              · intro w hS; go_simp
              refine wpAnyH_take (i := 14) (v := .slice da k dc) rfl (by kernel_rfl) (by kernel_rfl) (by kernel_rfl) (fun _ _ _ h => h) (Or.inl ⟨by rfl, ?_⟩) hS ?_
              · intro w hS; go_simp
              refine wpAnyH_done (by kernel_rfl) ?_ _
              go_wp2_with fail
              go_meet
              exact ⟨_, _, _, rfl, BP, HTE, KF⟩
            · go_simp
              have hb : Keeps V0 (V0.alloc (.cells #[.int .i64 0, .int .i64 0, .int .i64 0, .int .i64 0, .int .i64 0, .int .i64 0, .slice none 0 0] 25)) := (Keeps.refl _).alloc _
              have HQ1 : Hid (StBox V0.heap.size zeroSt (.slice none 0 0) (V0.alloc (.cells #[.int .i64 0, .int .i64 0, .int .i64 0, .int .i64 0, .int .i64 0, .int .i64 0, .slice none 0 0] 25))) := StBox.new V0 zeroSt (.slice none 0 0) 25
              generalize V0.alloc (.cells #[.int .i64 0, .int .i64 0, .int .i64 0, .int .i64 0, .int .i64 0, .int .i64 0, .slice none 0 0] 25) = V1 at *
              have k1 := k0.trans hb
              refine hK.out _ _ (HSA.out _ k1) (fun hS => ?_)
              clear hK K
              clear hb
              refine wpAnyH_ready (rs := [6]) (by kernel_rfl) (by simp) ?_
              refine AllReadyH.cons rfl (fun K hK => ?_) (AllReadyH.nil)
              go_simp
              refine (HC.out V1 (HK3.out.trans k1)).mono ?_
              rintro y V2 ⟨qa, qc, ra, rc, da, dc, HO2, rfl, hb⟩
              have k2 := k1.trans hb
              go_simp
              refine hK.out _ _ (HSA.out _ k2) (fun hS => ?_)
              clear hK K
              have HQ2 : Hid (StBox V0.heap.size zeroSt (.slice none 0 0) V2) := HQ1.out.keep hb
              have HTF : Hid (∀ WF, But V0.heap.size V2 WF → OwnTab W2.heap.size WF (.slice qa r.tab.length qc) r.tab) := fun WF hF => (HO2.out.but (by have := HQ1.out.lt; omega) hF).base (by have := k1.size; omega)
              clear hb
              refine wpAnyH_take (i := 7) (v := .tuple #[stV r (.slice qa r.tab.length qc), .slice ra k rc, .slice da k dc]) rfl (by kernel_rfl) (by kernel_rfl) (by kernel_rfl) (fun _ _ _ h => h) (Or.inl ⟨by rfl, ?_⟩) hS ?_
              · intro w hS; go_simp
              refine wpAnyH_take (i := 8) (v := stV r (.slice qa r.tab.length qc)) rfl (by kernel_rfl) (by kernel_rfl) (by kernel_rfl) (fun _ _ _ h => h) (Or.inl ⟨by rfl, ?_⟩) hS ?_
              · intro w hS; go_simp
              refine wpAnyH_take (i := 9) (v := .slice ra k rc) rfl (by kernel_rfl) (by kernel_rfl) (by kernel_rfl) (fun _ _ _ h => h) (Or.inl ⟨by rfl, ?_⟩) hS ?_
              · intro w hS; go_simp
              refine wpAnyH_take (i := 10) (v := .slice da k dc) rfl (by kernel_rfl) (by kernel_rfl) (by kernel_rfl) (fun _ _ _ h => h) (Or.inl ⟨by rfl, ?_⟩) hS ?_
              · intro w hS; go_simp
              refine wpAnyH_ready (rs := [12]) (by kernel_rfl) (by simp) ?_
              refine AllReadyH.cons rfl (fun K hK => ?_) (AllReadyH.nil)
              have z0 := HQ2.out.c0
              have z1 := HQ2.out.c1
              have z2 := HQ2.out.c2
              have z3 := HQ2.out.c3
              have z4 := HQ2.out.c4
              have z5 := HQ2.out.c5
              have z6 := HQ2.out.c6
              have zf := HQ2.out.fz
              have zl := HQ2.out.lt
              go_simp
              have BP := HQ2.out.put r (.slice qa r.tab.length qc)
              have BT := But.puts (b := V0.heap.size) V2 r (.slice qa r.tab.length qc)
              have KF := But.to k2 k0.size BT
              have HTE := HTF.out _ BT
              obtain ⟨WF, hWF⟩ : ∃ z, z = (((((((V2.setCell ⟨V0.heap.size, 0, none⟩ (.int .i64 r.at_)).setCell ⟨V0.heap.size, 1, none⟩ (.int .i64 r.clock)).setCell ⟨V0.heap.size, 2, none⟩ (.int .i64 r.v0)).setCell ⟨V0.heap.size, 3, none⟩ (.int .i64 r.v1)).setCell ⟨V0.heap.size, 4, none⟩ (.int .i64 r.v2)).setCell ⟨V0.heap.size, 5, none⟩ (.int .i64 r.v3)).setCell ⟨V0.heap.size, 6, none⟩ (.slice qa r.tab.length qc)) := ⟨_, rfl⟩
              rw [← hWF] at BP BT KF HTE ⊢
              clear hWF z0 z1 z2 z3 z4 z5 z6 zf zl
              refine hK.out _ _ (HSA.out _ KF) (fun hS => ?_)
              clear hK K
              refine wpAnyH_take (i := 13) (v := .slice ra k rc) rfl (by kernel_rfl) (by kernel_rfl) (by kernel_rfl) (fun _ _ _ h => h) (Or.inl ⟨by rfl, ?_⟩) hS ?_
              · intro w hS; go_simp
              refine wpAnyH_take (i := 14) (v := .slice da k dc) rfl (by kernel_rfl) (by kernel_rfl) (by kernel_rfl) (fun _ _ _ h => h) (Or.inl ⟨by rfl, ?_⟩) hS ?_
              · intro w hS; go_simp
              refine wpAnyH_done (by kernel_rfl) ?_ _
              go_wp2_with fail
              go_meet
              exact ⟨_, _, _, rfl, BP, HTE, KF⟩
          case rest =>
            obtain ⟨qb, qa, qc, rfl, hQ, hO, hkc⟩ := hcut
            obtain ⟨w3, hw3⟩ : ∃ z, z = wc := ⟨_, rfl⟩
            rw [← hw3] at hQ hO hkc ⊢
            clear hw3
            have HZ4 : Hid (StBox zb zeroSt (.slice none 0 0) w3) := HZ3.out.keep hkc
            have HK4 : Hid (Keeps w w3) := HK3.out.trans hkc
            have hsz := HZ3.out.lt
            have hzz := HZB.out
            have q0 := hQ.c0
            have q1 := hQ.c1
            have q2 := hQ.c2
            have q3 := hQ.c3
            have q4 := hQ.c4
            have q5 := hQ.c5
            have q6 := hQ.c6
            have ql := hQ.lt
            have z0 := HZ4.out.c0
            have z1 := HZ4.out.c1
            have z2 := HZ4.out.c2
            have z3 := HZ4.out.c3
            have z4 := HZ4.out.c4
            have z5 := HZ4.out.c5
            have z6 := HZ4.out.c6
            have zf := HZ4.out.fz
            have zl := HZ4.out.lt
            have HBT := (show Hid _ from But.puts (b := zb) w3 r (.slice qa r.tab.length qc))
            have HBF := (show Hid _ from HZ4.out.put r (.slice qa r.tab.length qc))
            have HOF := (show Hid _ from (hO.but (by omega) HBT.out).tab)
            have HKF := (show Hid _ from But.to HK4.out (by omega) HBT.out)
            clear hzz hsz hQ hO hkc HSA HC HZ3 HK3
            go_wp2_with fail
            have c0 := HBF.out.c0
            have c1 := HBF.out.c1
            have c2 := HBF.out.c2
            have c3 := HBF.out.c3
            have c4 := HBF.out.c4
            have c5 := HBF.out.c5
            have c6 := HBF.out.c6
            refine bodyPost_ret (v := .tuple #[stV r (.slice qa r.tab.length qc), .int .i64 k, .int .i64 0]) ?_ rfl ?_
            · simp only [results, Tryz.results9, go_sem, c0, c1, c2, c3, c4, c5, c6]
              simp [go_sem, c0, c1, c2, c3, c4, c5, c6]
            · rw [HOUT.out, HNUM.out, HR0.out]
              exact ⟨qa, qc, HOF.out, rfl, HKF.out⟩
        · have hfrom : runFrom l s = s := by unfold runFrom; rw [if_neg h1]
          have HTT : Hid (TabAt w (.slice ya s.tab.length yc) s.tab) := HY.out
          obtain ⟨lo, hlo⟩ : ∃ lo : Nat, lo = runLo l s := ⟨_, rfl⟩
          obtain ⟨hf0, hf1, hf2, hf3⟩ := run_fold HR0.out
          have hls : s.at_ - l.base.at_ = (lo : Int) := by rw [hlo, ← hf1, hfrom]
          have hll : lo ≤ l.tail.length := by omega
          obtain ⟨k, hk'⟩ : ∃ k : Nat, k = min m (l.tail.length - lo) := ⟨_, rfl⟩
          have hkl : k ≤ l.tail.length - lo := by omega
          obtain ⟨r, hr'⟩ : ∃ r, r = runSt s ((l.tail.drop lo).take k) := ⟨_, rfl⟩
          have hcnt : runCnt l s m = k := by unfold runCnt; rw [← hlo, hk']; simp
          have HOUT : Hid (runOut l s m = r) := by
            show _ = _
            rw [HON.out HR0.out]
            unfold runL
            rw [hcnt, ← hlo, hfrom, hr']
          have HNUM : Hid (runNum l s m = k) := by show _ = _; rw [HNN.out HR0.out, hcnt]
          have h0 : foldErr s ((l.tail.drop lo).take k) = 0 := by
            have := hf0
            unfold runL at this
            rw [hcnt, ← hlo, hfrom] at this
            exact this
          have hfr := fold_right h0
          have hlk : ((l.tail.drop lo).take k).length = k := by simp; omega
          have HCG : Hid (∀ W, Keeps w W → Calls Tryz.prog 24 #[stV s (.slice ya s.tab.length yc), .slice (if tc = lo then ta else Option.map (fun x : Addr => x.add (lo * 9)) ta) k (tc - lo)] W fun y w' => ∃ qa qc ra rc da dc, Hid (OwnTab W.heap.size w' (.slice qa r.tab.length qc) r.tab) ∧ y = .returned (.tuple #[stV r (.slice qa r.tab.length qc), .slice ra k rc, .slice da k dc]) ∧ Keeps W w') := by
            intro W hk
            have h1 := ents_suffix (HL.out.keep hk) hll hcap
            have e1 : l.tail.length - lo = (l.tail.drop lo).length := by simp
            rw [e1] at h1
            rw [hr']
            refine (folded_c s ((l.tail.drop lo).take k) _ _ W (HTT.out.keep hk) (ents_prefix h1 (by rw [← e1]; exact hkl)) hfr.1 hfr.2.1 hfr.2.2).mono ?_
            rintro y w' ⟨qa, qc, ra, rc, da, dc, h1, _, _, rfl, hb⟩
            rw [hlk]
            exact ⟨qa, qc, ra, rc, da, dc, h1, rfl, hb⟩
          have hz9 : ∀ w, (Go.sizeOf 43).run Tryz.prog w = .ok 9 w := fun _ => by kernel_rfl
          obtain ⟨hi, hhi⟩ : ∃ hi : Nat, hi = lo + k := ⟨_, rfl⟩
          have hm3 : min (l.tail.length : Int) ((lo : Int) + (m : Int)) = (hi : Int) := by omega
          have hlh : (lo : Int) ≤ (hi : Int) := by omega
          have hhc : (hi : Int) ≤ (tc : Int) := by omega
          have hhl : (hi : Int) ≤ (l.tail.length : Int) := by omega
          have hsub : (hi : Int) - (lo : Int) = (k : Int) := by omega
          have hsub2 : hi - lo = k := by omega
          have hlo50 : lo ≤ 50 := by omega
          obtain ⟨sv, hsv⟩ : ∃ sv, sv = (if tc = lo then ta else Option.map (fun x : Addr => x.add (lo * 9)) ta) := ⟨_, rfl⟩
          have HSV : Hid (sv = (if tc = lo then ta else Option.map (fun x : Addr => x.add (lo * 9)) ta)) := hsv
          have HC : Hid (∀ W, Keeps w W → Calls Tryz.prog 24 #[stV s (.slice ya s.tab.length yc), .slice sv k (tc - lo)] W fun y w' => ∃ qa qc ra rc da dc, Hid (OwnTab W.heap.size w' (.slice qa r.tab.length qc) r.tab) ∧ y = .returned (.tuple #[stV r (.slice qa r.tab.length qc), .slice ra k rc, .slice da k dc]) ∧ Keeps W w') := by
            have := HCG.out
            rw [← hsv] at this
            exact this
          have HSA : Hid (∀ W, Keeps w2 W → W.cell? ⟨w.heap.size, 0, none⟩ = some (.int .i64 l.base.at_) ∧ W.cell? ⟨w.heap.size, 1, none⟩ = some (.int .i64 l.base.clock) ∧ W.cell? ⟨w.heap.size, 2, none⟩ = some (.int .i64 l.base.v0) ∧ W.cell? ⟨w.heap.size, 3, none⟩ = some (.int .i64 l.base.v1) ∧ W.cell? ⟨w.heap.size, 4, none⟩ = some (.int .i64 l.base.v2) ∧ W.cell? ⟨w.heap.size, 5, none⟩ = some (.int .i64 l.base.v3) ∧ W.cell? ⟨w.heap.size, 6, none⟩ = some (.slice xa l.base.tab.length xc) ∧ W.cell? ⟨w.heap.size, 7, none⟩ = some (.slice ta l.tail.length tc) ∧ W.cell? ⟨w.heap.size + 1, 0, none⟩ = some (.int .i64 s.at_) ∧ W.cell? ⟨w.heap.size + 1, 1, none⟩ = some (.int .i64 s.clock) ∧ W.cell? ⟨w.heap.size + 1, 2, none⟩ = some (.int .i64 s.v0) ∧ W.cell? ⟨w.heap.size + 1, 3, none⟩ = some (.int .i64 s.v1) ∧ W.cell? ⟨w.heap.size + 1, 4, none⟩ = some (.int .i64 s.v2) ∧ W.cell? ⟨w.heap.size + 1, 5, none⟩ = some (.int .i64 s.v3) ∧ W.cell? ⟨w.heap.size + 1, 6, none⟩ = some (.slice ya s.tab.length yc)) := fun W hk => have B := HB2.out.keep hk; have C := HC2.out.keep hk; ⟨B.c0, B.c1, B.c2, B.c3, B.c4, B.c5, B.c6, B.c7, C.c0, C.c1, C.c2, C.c3, C.c4, C.c5, C.c6⟩
          clear HCG hr' hcnt hf0 hf1 hf2 hf3 hfrom hlo h0 hk' hhi hfr hlk hsv
          have b0 := HB2.out.c0
          have b7 := HB2.out.c7
          have bl := HB2.out.lt
          have c0 := HC2.out.c0
          have c1 := HC2.out.c1
          have c2 := HC2.out.c2
          have c3 := HC2.out.c3
          have c4 := HC2.out.c4
          have c5 := HC2.out.c5
          have c6 := HC2.out.c6
          have cl := HC2.out.lt
          go_wp2_with fail
          clear b0 b7 bl c0 c1 c2 c3 c4 c5 c6 cl
          obtain ⟨W2, hW2⟩ : ∃ z, z = w2 := ⟨_, rfl⟩
          rw [← hW2] at HK2 HZ2 HSA ⊢
          have HK3 : Hid (Keeps w W2) := HK2.out
          have HZ3 := (show Hid _ from HZ2.out)
          clear hW2 HK2 HZ2
          go_cut [12] (fun p wc => ∃ qb qa qc, p = .pointer (some ⟨qb, 0, none⟩) ∧ StBox qb r (.slice qa r.tab.length qc) wc ∧ OwnTab W2.heap.size wc (.slice qa r.tab.length qc) r.tab ∧ Keeps W2 wc)
          case first =>
            obtain ⟨V0, hV0⟩ : ∃ z, z = W2.drew := ⟨_, rfl⟩
            have k0 : Keeps W2 V0 := by rw [hV0]; exact (Keeps.refl _).drew
            refine wp_region_held_drew (S := fun W => W.cell? ⟨w.heap.size, 0, none⟩ = some (.int .i64 l.base.at_) ∧ W.cell? ⟨w.heap.size, 1, none⟩ = some (.int .i64 l.base.clock) ∧ W.cell? ⟨w.heap.size, 2, none⟩ = some (.int .i64 l.base.v0) ∧ W.cell? ⟨w.heap.size, 3, none⟩ = some (.int .i64 l.base.v1) ∧ W.cell? ⟨w.heap.size, 4, none⟩ = some (.int .i64 l.base.v2) ∧ W.cell? ⟨w.heap.size, 5, none⟩ = some (.int .i64 l.base.v3) ∧ W.cell? ⟨w.heap.size, 6, none⟩ = some (.slice xa l.base.tab.length xc) ∧ W.cell? ⟨w.heap.size, 7, none⟩ = some (.slice ta l.tail.length tc) ∧ W.cell? ⟨w.heap.size + 1, 0, none⟩ = some (.int .i64 s.at_) ∧ W.cell? ⟨w.heap.size + 1, 1, none⟩ = some (.int .i64 s.clock) ∧ W.cell? ⟨w.heap.size + 1, 2, none⟩ = some (.int .i64 s.v0) ∧ W.cell? ⟨w.heap.size + 1, 3, none⟩ = some (.int .i64 s.v1) ∧ W.cell? ⟨w.heap.size + 1, 4, none⟩ = some (.int .i64 s.v2) ∧ W.cell? ⟨w.heap.size + 1, 5, none⟩ = some (.int .i64 s.v3) ∧ W.cell? ⟨w.heap.size + 1, 6, none⟩ = some (.slice ya s.tab.length yc)) (by kernel_rfl) (HSA.out _ (Keeps.refl _).drew) (fun hS => ?_)
            rw [← hV0] at hS ⊢
            clear hV0
            refine wpAnyH_take (i := 0) (v := stV s (.slice ya s.tab.length yc)) rfl (by kernel_rfl) (by kernel_rfl) (by kernel_rfl) (fun _ _ _ h => h) (Or.inl ⟨by rfl, ?_⟩) hS ?_
            · intro w hS; go_simp
            refine wpAnyH_take (i := 1) (v := .pointer (some ⟨w.heap.size, 7, none⟩)) rfl (by kernel_rfl) (by kernel_rfl) (by kernel_rfl) (fun _ _ _ h => h) (Or.inl ⟨by rfl, ?_⟩) hS ?_
            · intro w hS; go_simp
            refine wpAnyH_take (i := 2) (v := .slice ta l.tail.length tc) rfl (by kernel_rfl) (by kernel_rfl) (by kernel_rfl) (fun _ _ _ h => h) (Or.inl ⟨by rfl, ?_⟩) hS ?_
            · intro w hS; go_simp
            refine wpAnyH_take (i := 3) (v := .int .i64 lo) rfl (by kernel_rfl) (by kernel_rfl) (by kernel_rfl) (fun _ _ _ h => h) (Or.inl ⟨by rfl, ?_⟩) hS ?_
            · intro w hS; go_simp
            refine wpAnyH_take (i := 4) (v := .int .i64 hi) rfl (by kernel_rfl) (by kernel_rfl) (by kernel_rfl) (fun _ _ _ h => h) (Or.inl ⟨by rfl, ?_⟩) hS ?_
            · intro w hS; go_simp
            refine wpAnyH_take (i := 5) (v := .slice sv k (tc - lo)) rfl (by kernel_rfl) (by kernel_rfl) (by kernel_rfl) (fun _ _ _ h => h) (Or.inl ⟨by rfl, ?_⟩) hS ?_
            · intro w hS
              go_simp
              exact HSV.out.symm
            refine wpAnyH_ready (rs := [6, 11]) (by kernel_rfl) (by simp) ?_
            refine AllReadyH.cons rfl (fun K hK => ?_) (AllReadyH.cons rfl (fun K hK => ?_) (AllReadyH.nil))
            · go_simp
              refine (HC.out V0 (HK3.out.trans k0)).mono ?_
              rintro y V1 ⟨qa, qc, ra, rc, da, dc, HO1, rfl, hb⟩
              have k1 := k0.trans hb
              go_simp
              refine hK.out _ _ (HSA.out _ k1) (fun hS => ?_)
              clear hK K
              clear hb
              refine wpAnyH_take (i := 7) (v := .tuple #[stV r (.slice qa r.tab.length qc), .slice ra k rc, .slice da k dc]) rfl (by kernel_rfl) (by kernel_rfl) (by kernel_rfl) (fun _ _ _ h => h) (Or.inl ⟨by rfl, ?_⟩) hS ?_
              · intro w hS; go_simp
              refine wpAnyH_take (i := 8) (v := stV r (.slice qa r.tab.length qc)) rfl (by kernel_rfl) (by kernel_rfl) (by kernel_rfl) (fun _ _ _ h => h) (Or.inl ⟨by rfl, ?_⟩) hS ?_
              · intro w hS; go_simp
              refine wpAnyH_take (i := 9) (v := .slice ra k rc) rfl (by kernel_rfl) (by kernel_rfl) (by kernel_rfl) (fun _ _ _ h => h) (Or.inl ⟨by rfl, ?_⟩) hS ?_
              · intro w hS; go_simp
              refine wpAnyH_take (i := 10) (v := .slice da k dc) rfl (by kernel_rfl) (by kernel_rfl) (by kernel_rfl) (fun _ _ _ h => h) (Or.inl ⟨by rfl, ?_⟩) hS ?_
              · intro w hS; go_simp
              refine wpAnyH_ready (rs := [11]) (by kernel_rfl) (by simp) ?_
              refine AllReadyH.cons rfl (fun K hK => ?_) (AllReadyH.nil)
              go_simp
              have hb : Keeps V1 (V1.alloc (.cells #[.int .i64 0, .int .i64 0, .int .i64 0, .int .i64 0, .int .i64 0, .int .i64 0, .slice none 0 0] 25)) := (Keeps.refl _).alloc _
              have HQ2 : Hid (StBox V1.heap.size zeroSt (.slice none 0 0) (V1.alloc (.cells #[.int .i64 0, .int .i64 0, .int .i64 0, .int .i64 0, .int .i64 0, .int .i64 0, .slice none 0 0] 25))) := StBox.new V1 zeroSt (.slice none 0 0) 25
              generalize V1.alloc (.cells #[.int .i64 0, .int .i64 0, .int .i64 0, .int .i64 0, .int .i64 0, .int .i64 0, .slice none 0 0] 25) = V2 at *
              have k2 := k1.trans hb
              refine hK.out _ _ (HSA.out _ k2) (fun hS => ?_)
              clear hK K
              have HTF : Hid (∀ WF, But V1.heap.size V2 WF → OwnTab W2.heap.size WF (.slice qa r.tab.length qc) r.tab) := fun WF hF => (HO1.out.keep (But.to hb (Nat.le_refl _) hF)).base k0.size
              clear hb
              refine wpAnyH_ready (rs := [12]) (by kernel_rfl) (by simp) ?_
              refine AllReadyH.cons rfl (fun K hK => ?_) (AllReadyH.nil)
              have z0 := HQ2.out.c0
              have z1 := HQ2.out.c1
              have z2 := HQ2.out.c2
              have z3 := HQ2.out.c3
              have z4 := HQ2.out.c4
              have z5 := HQ2.out.c5
              have z6 := HQ2.out.c6
              have zf := HQ2.out.fz
              have zl := HQ2.out.lt
              go_simp
              have BP := HQ2.out.put r (.slice qa r.tab.length qc)
              have BT := But.puts (b := V1.heap.size) V2 r (.slice qa r.tab.length qc)
              have KF := But.to k2 k1.size BT
              have HTE := HTF.out _ BT
              obtain ⟨WF, hWF⟩ : ∃ z, z = (((((((V2.setCell ⟨V1.heap.size, 0, none⟩ (.int .i64 r.at_)).setCell ⟨V1.heap.size, 1, none⟩ (.int .i64 r.clock)).setCell ⟨V1.heap.size, 2, none⟩ (.int .i64 r.v0)).setCell ⟨V1.heap.size, 3, none⟩ (.int .i64 r.v1)).setCell ⟨V1.heap.size, 4, none⟩ (.int .i64 r.v2)).setCell ⟨V1.heap.size, 5, none⟩ (.int .i64 r.v3)).setCell ⟨V1.heap.size, 6, none⟩ (.slice qa r.tab.length qc)) := ⟨_, rfl⟩
              rw [← hWF] at BP BT KF HTE ⊢
              clear hWF z0 z1 z2 z3 z4 z5 z6 zf zl
              refine hK.out _ _ (HSA.out _ KF) (fun hS => ?_)
              clear hK K
              refine wpAnyH_take (i := 13) (v := .slice ra k rc) rfl (by kernel_rfl) (by kernel_rfl) (by kernel_rfl) (fun _ _ _ h => h) (Or.inl ⟨by rfl, ?_⟩) hS ?_
              · intro w hS; go_simp
              refine wpAnyH_take (i := 14) (v := .slice da k dc) rfl (by kernel_rfl) (by kernel_rfl) (by kernel_rfl) (fun _ _ _ h => h) (Or.inl ⟨by rfl, ?_⟩) hS ?_
              · intro w hS; go_simp
              refine wpAnyH_done (by kernel_rfl) ?_ _
              go_wp2_with fail
              go_meet
              exact ⟨_, _, _, rfl, BP, HTE, KF⟩
            · go_simp
              have hb : Keeps V0 (V0.alloc (.cells #[.int .i64 0, .int .i64 0, .int .i64 0, .int .i64 0, .int .i64 0, .int .i64 0, .slice none 0 0] 25)) := (Keeps.refl _).alloc _
              have HQ1 : Hid (StBox V0.heap.size zeroSt (.slice none 0 0) (V0.alloc (.cells #[.int .i64 0, .int .i64 0, .int .i64 0, .int .i64 0, .int .i64 0, .int .i64 0, .slice none 0 0] 25))) := StBox.new V0 zeroSt (.slice none 0 0) 25
              generalize V0.alloc (.cells #[.int .i64 0, .int .i64 0, .int .i64 0, .int .i64 0, .int .i64 0, .int .i64 0, .slice none 0 0] 25) = V1 at *
              have k1 := k0.trans hb
              refine hK.out _ _ (HSA.out _ k1) (fun hS => ?_)
              clear hK K
              clear hb
              refine wpAnyH_ready (rs := [6]) (by kernel_rfl) (by simp) ?_
              refine AllReadyH.cons rfl (fun K hK => ?_) (AllReadyH.nil)
              go_simp
              refine (HC.out V1 (HK3.out.trans k1)).mono ?_
              rintro y V2 ⟨qa, qc, ra, rc, da, dc, HO2, rfl, hb⟩
              have k2 := k1.trans hb
              go_simp
              refine hK.out _ _ (HSA.out _ k2) (fun hS => ?_)
              clear hK K
              have HQ2 : Hid (StBox V0.heap.size zeroSt (.slice none 0 0) V2) := HQ1.out.keep hb
              have HTF : Hid (∀ WF, But V0.heap.size V2 WF → OwnTab W2.heap.size WF (.slice qa r.tab.length qc) r.tab) := fun WF hF => (HO2.out.but (by have := HQ1.out.lt; omega) hF).base (by have := k1.size; omega)
              clear hb
              refine wpAnyH_take (i := 7) (v := .tuple #[stV r (.slice qa r.tab.length qc), .slice ra k rc, .slice da k dc]) rfl (by kernel_rfl) (by kernel_rfl) (by kernel_rfl) (fun _ _ _ h => h) (Or.inl ⟨by rfl, ?_⟩) hS ?_
              · intro w hS; go_simp
              refine wpAnyH_take (i := 8) (v := stV r (.slice qa r.tab.length qc)) rfl (by kernel_rfl) (by kernel_rfl) (by kernel_rfl) (fun _ _ _ h => h) (Or.inl ⟨by rfl, ?_⟩) hS ?_
              · intro w hS; go_simp
              refine wpAnyH_take (i := 9) (v := .slice ra k rc) rfl (by kernel_rfl) (by kernel_rfl) (by kernel_rfl) (fun _ _ _ h => h) (Or.inl ⟨by rfl, ?_⟩) hS ?_
              · intro w hS; go_simp
              refine wpAnyH_take (i := 10) (v := .slice da k dc) rfl (by kernel_rfl) (by kernel_rfl) (by kernel_rfl) (fun _ _ _ h => h) (Or.inl ⟨by rfl, ?_⟩) hS ?_
              · intro w hS; go_simp
              refine wpAnyH_ready (rs := [12]) (by kernel_rfl) (by simp) ?_
              refine AllReadyH.cons rfl (fun K hK => ?_) (AllReadyH.nil)
              have z0 := HQ2.out.c0
              have z1 := HQ2.out.c1
              have z2 := HQ2.out.c2
              have z3 := HQ2.out.c3
              have z4 := HQ2.out.c4
              have z5 := HQ2.out.c5
              have z6 := HQ2.out.c6
              have zf := HQ2.out.fz
              have zl := HQ2.out.lt
              go_simp
              have BP := HQ2.out.put r (.slice qa r.tab.length qc)
              have BT := But.puts (b := V0.heap.size) V2 r (.slice qa r.tab.length qc)
              have KF := But.to k2 k0.size BT
              have HTE := HTF.out _ BT
              obtain ⟨WF, hWF⟩ : ∃ z, z = (((((((V2.setCell ⟨V0.heap.size, 0, none⟩ (.int .i64 r.at_)).setCell ⟨V0.heap.size, 1, none⟩ (.int .i64 r.clock)).setCell ⟨V0.heap.size, 2, none⟩ (.int .i64 r.v0)).setCell ⟨V0.heap.size, 3, none⟩ (.int .i64 r.v1)).setCell ⟨V0.heap.size, 4, none⟩ (.int .i64 r.v2)).setCell ⟨V0.heap.size, 5, none⟩ (.int .i64 r.v3)).setCell ⟨V0.heap.size, 6, none⟩ (.slice qa r.tab.length qc)) := ⟨_, rfl⟩
              rw [← hWF] at BP BT KF HTE ⊢
              clear hWF z0 z1 z2 z3 z4 z5 z6 zf zl
              refine hK.out _ _ (HSA.out _ KF) (fun hS => ?_)
              clear hK K
              refine wpAnyH_take (i := 13) (v := .slice ra k rc) rfl (by kernel_rfl) (by kernel_rfl) (by kernel_rfl) (fun _ _ _ h => h) (Or.inl ⟨by rfl, ?_⟩) hS ?_
              · intro w hS; go_simp
              refine wpAnyH_take (i := 14) (v := .slice da k dc) rfl (by kernel_rfl) (by kernel_rfl) (by kernel_rfl) (fun _ _ _ h => h) (Or.inl ⟨by rfl, ?_⟩) hS ?_
              · intro w hS; go_simp
              refine wpAnyH_done (by kernel_rfl) ?_ _
              go_wp2_with fail
              go_meet
              exact ⟨_, _, _, rfl, BP, HTE, KF⟩
          case rest =>
            obtain ⟨qb, qa, qc, rfl, hQ, hO, hkc⟩ := hcut
            obtain ⟨w3, hw3⟩ : ∃ z, z = wc := ⟨_, rfl⟩
            rw [← hw3] at hQ hO hkc ⊢
            clear hw3
            have HZ4 : Hid (StBox zb zeroSt (.slice none 0 0) w3) := HZ3.out.keep hkc
            have HK4 : Hid (Keeps w w3) := HK3.out.trans hkc
            have hsz := HZ3.out.lt
            have hzz := HZB.out
            have q0 := hQ.c0
            have q1 := hQ.c1
            have q2 := hQ.c2
            have q3 := hQ.c3
            have q4 := hQ.c4
            have q5 := hQ.c5
            have q6 := hQ.c6
            have ql := hQ.lt
            have z0 := HZ4.out.c0
            have z1 := HZ4.out.c1
            have z2 := HZ4.out.c2
            have z3 := HZ4.out.c3
            have z4 := HZ4.out.c4
            have z5 := HZ4.out.c5
            have z6 := HZ4.out.c6
            have zf := HZ4.out.fz
            have zl := HZ4.out.lt
            have HBT := (show Hid _ from But.puts (b := zb) w3 r (.slice qa r.tab.length qc))
            have HBF := (show Hid _ from HZ4.out.put r (.slice qa r.tab.length qc))
            have HOF := (show Hid _ from (hO.but (by omega) HBT.out).tab)
            have HKF := (show Hid _ from But.to HK4.out (by omega) HBT.out)
            clear hzz hsz hQ hO hkc HSA HC HZ3 HK3
            go_wp2_with fail
            have c0 := HBF.out.c0
            have c1 := HBF.out.c1
            have c2 := HBF.out.c2
            have c3 := HBF.out.c3
            have c4 := HBF.out.c4
            have c5 := HBF.out.c5
            have c6 := HBF.out.c6
            refine bodyPost_ret (v := .tuple #[stV r (.slice qa r.tab.length qc), .int .i64 k, .int .i64 0]) ?_ rfl ?_
            · simp only [results, Tryz.results9, go_sem, c0, c1, c2, c3, c4, c5, c6]
              simp [go_sem, c0, c1, c2, c3, c4, c5, c6]
            · rw [HOUT.out, HNUM.out, HR0.out]
              exact ⟨qa, qc, HOF.out, rfl, HKF.out⟩
end Go.Proofs.YteabfjpajgakiaeGreat

/- NodeTells: the walk. -/
set_option linter.unusedSimpArgs false
set_option linter.unusedVariables false
set_option maxRecDepth 10000
namespace Go.Proofs.YteabfjpajgakiaeGreat
open Go.RowKit

set_option maxHeartbeats 4000000 in
theorem node_tells (l : Lg) (s : St) (n : Int) (x y : Value) (ta : Option Addr) (tc : Nat) (w : World) (hT : TabAt w x l.base.tab) (hL : EntsAt w (.slice ta l.tail.length tc) l.tail) (hY : TabAt w y s.tab) (hcap : l.tail.length ≤ tc) : Calls Tryz.prog 3 #[lgV l x (.slice ta l.tail.length tc), stV s y, .int .i64 n] w fun e w' => e = .returned (.bool true) ∧ Keeps w w' := by
  obtain ⟨xa, xc, rfl, _⟩ := hT.len
  obtain ⟨ya, yc, rfl, _⟩ := hY.len
  have HT : Hid (TabAt w (.slice xa l.base.tab.length xc) l.base.tab) := hT
  have HL : Hid (EntsAt w (.slice ta l.tail.length tc) l.tail) := hL
  have HY : Hid (TabAt w (.slice ya s.tab.length yc) s.tab) := hY
  have hlen := hL.2.1
  unfold maxLen at hlen
  clear hT hL hY
  have HF1 : Hid (∀ W, Keeps w W → Calls Tryz.prog 6 #[lgV l (.slice xa l.base.tab.length xc) (.slice ta l.tail.length tc), stV s (.slice ya s.tab.length yc)] W fun e w' => e = .returned (.tuple #[.bool (fitsOk l s), .int .i64 (nodeErr l s)]) ∧ Keeps W w') := fun W hk => node_fits_c l s _ _ ta tc W (HT.out.keep hk) (HL.out.keep hk) (HY.out.keep hk) hcap
  have HF2 : Hid (∀ W, Keeps w W → Calls Tryz.prog 8 #[lgV l (.slice xa l.base.tab.length xc) (.slice ta l.tail.length tc), stV s (.slice ya s.tab.length yc)] W fun e w' => e = .returned (.tuple #[.bool (fitsOk l s), .int .i64 (nodeErr l s)]) ∧ Keeps W w') := fun W hk => fits_of l s _ _ ta tc W (HT.out.keep hk) (HL.out.keep hk) (HY.out.keep hk) hcap
  have HR1 : Hid (∀ W, Keeps w W → Calls Tryz.prog 7 #[lgV l (.slice xa l.base.tab.length xc) (.slice ta l.tail.length tc), stV s (.slice ya s.tab.length yc), .int .i64 n] W fun e w' => ∃ qa qc, TabAt w' (.slice qa (runOut l s n).tab.length qc) (runOut l s n).tab ∧ e = .returned (.tuple #[stV (runOut l s n) (.slice qa (runOut l s n).tab.length qc), .int .i64 (runNum l s n), .int .i64 (runErr l s n)]) ∧ Keeps W w') := by
    intro W hk
    refine (node_run l s n _ _ ta tc W (HT.out.keep hk) (HL.out.keep hk) (HY.out.keep hk) hcap).mono ?_
    rintro e w' ⟨qa, qc, h1, rfl, hb⟩
    exact ⟨qa, qc, h1.tab, rfl, hb⟩
  have HR2 : Hid (∀ W, Keeps w W → Calls Tryz.prog 9 #[lgV l (.slice xa l.base.tab.length xc) (.slice ta l.tail.length tc), stV s (.slice ya s.tab.length yc), .int .i64 n] W fun e w' => ∃ qa qc, TabAt w' (.slice qa (runOut l s n).tab.length qc) (runOut l s n).tab ∧ e = .returned (.tuple #[stV (runOut l s n) (.slice qa (runOut l s n).tab.length qc), .int .i64 (runNum l s n), .int .i64 (runErr l s n)]) ∧ Keeps W w') := fun W hk => run_of l s n _ _ ta tc W (HT.out.keep hk) (HL.out.keep hk) (HY.out.keep hk) hcap
  generalize fitsOk l s = fo at *
  generalize nodeErr l s = er at *
  generalize runOut l s n = R at *
  generalize runNum l s n = rn at *
  generalize runErr l s n = re at *
  go_enter Tryz.func3, Tryz.ntmps3
  go_wp2_with fail
  obtain ⟨W1, hW1⟩ : ∃ W1, W1 = (w.alloc (.cells #[.int .i64 l.base.at_, .int .i64 l.base.clock, .int .i64 l.base.v0, .int .i64 l.base.v1, .int .i64 l.base.v2, .int .i64 l.base.v3, .slice xa l.base.tab.length xc, .slice ta l.tail.length tc] 28)).alloc (.cells #[.int .i64 s.at_, .int .i64 s.clock, .int .i64 s.v0, .int .i64 s.v1, .int .i64 s.v2, .int .i64 s.v3, .slice ya s.tab.length yc] 25) := ⟨_, rfl⟩
  have k1 : Keeps w W1 := by rw [hW1]; exact ((Keeps.refl _).alloc _).alloc _
  have B1 : LgBox w.heap.size l (.slice xa l.base.tab.length xc) (.slice ta l.tail.length tc) W1 := by rw [hW1]; exact (LgBox.new w l _ _ rfl rfl 28).keep ((Keeps.refl _).alloc _)
  have C1 : StBox (w.heap.size + 1) s (.slice ya s.tab.length yc) W1 := by
    rw [hW1]
    have := StBox.new (w.alloc (.cells #[.int .i64 l.base.at_, .int .i64 l.base.clock, .int .i64 l.base.v0, .int .i64 l.base.v1, .int .i64 l.base.v2, .int .i64 l.base.v3, .slice xa l.base.tab.length xc, .slice ta l.tail.length tc] 28)) s (.slice ya s.tab.length yc) 25
    simp only [World.size_alloc] at this
    exact this
  rw [← hW1]
  clear hW1
  refine (HF1.out W1 k1).mono ?_
  rintro e w1 ⟨rfl, hb⟩
  have HK1 : Hid (Keeps w w1) := k1.trans hb
  have HB1 := (show Hid _ from B1.keep hb)
  have HC1 := (show Hid _ from C1.keep hb)
  clear k1 B1 C1 hb HF1
  clear W1
  have b0 := HB1.out.c0
  have b1 := HB1.out.c1
  have b2 := HB1.out.c2
  have b3 := HB1.out.c3
  have b4 := HB1.out.c4
  have b5 := HB1.out.c5
  have b6 := HB1.out.c6
  have b7 := HB1.out.c7
  have bl := HB1.out.lt
  have c0 := HC1.out.c0
  have c1 := HC1.out.c1
  have c2 := HC1.out.c2
  have c3 := HC1.out.c3
  have c4 := HC1.out.c4
  have c5 := HC1.out.c5
  have c6 := HC1.out.c6
  have cl := HC1.out.lt
  go_wp2_with fail
  refine (HR1.out w1 HK1.out).mono ?_
  rintro e w2 ⟨ra, rc, hR, rfl, hb⟩
  have HK2 : Hid (Keeps w w2) := HK1.out.trans hb
  have HB2 := (show Hid _ from HB1.out.keep hb)
  have HC2 := (show Hid _ from HC1.out.keep hb)
  have HT2 : Hid (TabAt w2 (.slice ra R.tab.length rc) R.tab) := hR
  clear b0 b1 b2 b3 b4 b5 b6 b7 bl c0 c1 c2 c3 c4 c5 c6 cl hb hR HK1 HB1 HC1 HR1
  clear w1
  have b0 := HB2.out.c0
  have b1 := HB2.out.c1
  have b2 := HB2.out.c2
  have b3 := HB2.out.c3
  have b4 := HB2.out.c4
  have b5 := HB2.out.c5
  have b6 := HB2.out.c6
  have b7 := HB2.out.c7
  have bl := HB2.out.lt
  have c0 := HC2.out.c0
  have c1 := HC2.out.c1
  have c2 := HC2.out.c2
  have c3 := HC2.out.c3
  have c4 := HC2.out.c4
  have c5 := HC2.out.c5
  have c6 := HC2.out.c6
  have cl := HC2.out.lt
  go_wp2_with fail
  have R3 : StBox w2.heap.size R (.slice ra R.tab.length rc) (w2.alloc (.cells #[.int .i64 R.at_, .int .i64 R.clock, .int .i64 R.v0, .int .i64 R.v1, .int .i64 R.v2, .int .i64 R.v3, .slice ra R.tab.length rc] 25)) := StBox.new w2 R _ 25
  have k23 : Keeps w2 (w2.alloc (.cells #[.int .i64 R.at_, .int .i64 R.clock, .int .i64 R.v0, .int .i64 R.v1, .int .i64 R.v2, .int .i64 R.v3, .slice ra R.tab.length rc] 25)) := (Keeps.refl _).alloc _
  generalize (w2.alloc (.cells #[.int .i64 R.at_, .int .i64 R.clock, .int .i64 R.v0, .int .i64 R.v1, .int .i64 R.v2, .int .i64 R.v3, .slice ra R.tab.length rc] 25)) = w3 at *
  generalize w2.heap.size = rb at *
  refine (HF2.out w3 (HK2.out.trans k23)).mono ?_
  rintro e w4 ⟨rfl, hb⟩
  have k24 := k23.trans hb
  have HK4 : Hid (Keeps w w4) := HK2.out.trans k24
  have HR4 := (show Hid _ from R3.keep hb)
  have HT4 : Hid (TabAt w4 (.slice ra R.tab.length rc) R.tab) := HT2.out.keep k24
  have HB4 := (show Hid _ from HB2.out.keep k24)
  have HC4 := (show Hid _ from HC2.out.keep k24)
  clear b0 b1 b2 b3 b4 b5 b6 b7 bl c0 c1 c2 c3 c4 c5 c6 cl hb R3 k23 k24 HK2 HB2 HC2 HT2 HF2
  clear w3
  have b0 := HB4.out.c0
  have b1 := HB4.out.c1
  have b2 := HB4.out.c2
  have b3 := HB4.out.c3
  have b4 := HB4.out.c4
  have b5 := HB4.out.c5
  have b6 := HB4.out.c6
  have b7 := HB4.out.c7
  have bl := HB4.out.lt
  have c0 := HC4.out.c0
  have c1 := HC4.out.c1
  have c2 := HC4.out.c2
  have c3 := HC4.out.c3
  have c4 := HC4.out.c4
  have c5 := HC4.out.c5
  have c6 := HC4.out.c6
  have cl := HC4.out.lt
  go_wp2_with fail
  refine (HR2.out w4 HK4.out).mono ?_
  rintro e w5 ⟨qa, qc, hQ, rfl, hb⟩
  have HK5 : Hid (Keeps w w5) := HK4.out.trans hb
  have HR5 := (show Hid _ from HR4.out.keep hb)
  have HT5 : Hid (TabAt w5 (.slice ra R.tab.length rc) R.tab) := HT4.out.keep hb
  have HQ5 : Hid (TabAt w5 (.slice qa R.tab.length qc) R.tab) := hQ
  clear b0 b1 b2 b3 b4 b5 b6 b7 bl c0 c1 c2 c3 c4 c5 c6 cl hb hQ HK4 HR4 HT4 HB4 HC4 HR2
  clear w4
  go_wp2_with fail
  have Q6 : StBox w5.heap.size R (.slice qa R.tab.length qc) (w5.alloc (.cells #[.int .i64 R.at_, .int .i64 R.clock, .int .i64 R.v0, .int .i64 R.v1, .int .i64 R.v2, .int .i64 R.v3, .slice qa R.tab.length qc] 25)) := StBox.new w5 R _ 25
  have k56 : Keeps w5 (w5.alloc (.cells #[.int .i64 R.at_, .int .i64 R.clock, .int .i64 R.v0, .int .i64 R.v1, .int .i64 R.v2, .int .i64 R.v3, .slice qa R.tab.length qc] 25)) := (Keeps.refl _).alloc _
  generalize (w5.alloc (.cells #[.int .i64 R.at_, .int .i64 R.clock, .int .i64 R.v0, .int .i64 R.v1, .int .i64 R.v2, .int .i64 R.v3, .slice qa R.tab.length qc] 25)) = w6 at *
  generalize w5.heap.size = qb at *
  refine (node_begun w6).mono ?_
  rintro e w7 ⟨rfl, hb⟩
  have k57 := k56.trans hb
  have HK7 : Hid (Keeps w w7) := HK5.out.trans k57
  have R7 := HR5.out.keep k57
  have Q7 := Q6.keep hb
  have r0 := R7.c0
  have r1 := R7.c1
  have r2 := R7.c2
  have r3 := R7.c3
  have r4 := R7.c4
  have r5 := R7.c5
  have r6 := R7.c6
  have rl := R7.lt
  have q0 := Q7.c0
  have q1 := Q7.c1
  have q2 := Q7.c2
  have q3 := Q7.c3
  have q4 := Q7.c4
  have q5 := Q7.c5
  have q6 := Q7.c6
  have ql := Q7.lt
  have HS : Hid (Calls Tryz.prog 11 #[stV R (.slice ra R.tab.length rc), stV R (.slice qa R.tab.length qc)] w7 fun e w' => e = .returned (.bool true) ∧ Keeps w7 w') := by
    have := same_of R R (.slice ra R.tab.length rc) (.slice qa R.tab.length qc) w7 (HT5.out.keep k57) (HQ5.out.keep k57)
    rw [same_self] at this
    exact this
  clear hb k56 k57 R7 Q7 Q6 HK5 HR5 HT5 HQ5
  go_wp2_with fail
  refine HS.out.mono ?_
  rintro e w8 ⟨rfl, hb⟩
  have HK8 : Hid (Keeps w w8) := HK7.out.trans hb
  clear hb r0 r1 r2 r3 r4 r5 r6 rl q0 q1 q2 q3 q4 q5 q6 ql
  go_wp2_with fail
  go_ret
  exact ⟨by simp, HK8.out⟩
end Go.Proofs.YteabfjpajgakiaeGreat

/- Who fits, and runs: plain facts. -/
set_option linter.unusedSimpArgs false
set_option linter.unusedVariables false
set_option maxRecDepth 10000
namespace Go.Proofs.YteabfjpajgakiaeGreat
open Go.RowKit

def runTo (l : Lg) (j : Nat) : St := runSt l.base (l.tail.take j)
theorem runTo_at {l : Lg} (hl : lgErr l = 0) {j : Nat} (hj : j ≤ l.tail.length) : stErr (runTo l j) = 0 ∧ (runTo l j).at_ = l.base.at_ + j := by
  obtain ⟨h1, h2, h3⟩ := fold_right hl
  have := run_right (L := l.tail.take j) h1 (fun x hx => h2 x (List.mem_of_mem_take hx)) (by simp; omega)
  refine ⟨this.1, ?_⟩
  have h4 := this.2
  unfold runTo
  rw [h4]
  simp
  omega
theorem from_to {l : Lg} {s : St} (hf : fitsB l s = true) : runFrom l s = runTo l (runLo l s) := by
  unfold fitsB at hf
  unfold runLo runFrom runTo
  split at hf
  · rename_i h
    rw [if_pos h]
    simp [runSt]
  · rename_i h
    split at hf
    · cases hf
    · rename_i h'
      rw [if_neg h]
      exact (same_st_iff.1 hf).symm
theorem runTo_fits {l : Lg} (hl : lgErr l = 0) {j : Nat} (hj : j ≤ l.tail.length) : nodeErr l (runTo l j) = 0 ∧ fitsB l (runTo l j) = true ∧ fitsOk l (runTo l j) = true ∧ runLo l (runTo l j) = j := by
  obtain ⟨h1, h2⟩ := runTo_at hl hj
  have e1 : nodeErr l (runTo l j) = 0 := by unfold nodeErr; rw [hl]; exact h1
  have hd : (runTo l j).at_ - l.base.at_ = j := by omega
  have e2 : fitsB l (runTo l j) = true := by
    unfold fitsB
    rw [if_neg (by omega), if_neg (by omega), hd]
    exact same_self _
  refine ⟨e1, e2, ?_, ?_⟩
  · unfold fitsOk
    rw [e1]
    exact e2
  · unfold runLo runFrom
    rw [if_neg (by omega), hd]
    simp
theorem run_ok {l : Lg} {s : St} {m : Nat} (h : nodeErr l s = 0) (hf : fitsB l s = true) (hm : m ≤ 50) : runErr l s m = 0 ∧ runNum l s m = runCnt l s m ∧ runLo l s + runCnt l s m ≤ l.tail.length ∧ runOut l s m = runTo l (runLo l s + runCnt l s m) := by
  obtain ⟨h1, h2⟩ := node_right h
  have e1 : runErr l s m = 0 := by
    unfold runErr
    rw [h, hf]
    simp only [beq_self_eq_true, if_true]
    rw [if_pos (inB_iff.2 ⟨by omega, by omega⟩)]
  obtain ⟨g1, g2, g3, g4⟩ := fits_at h1 h2 hf
  have hc : runCnt l s m ≤ l.tail.length - runLo l s := by unfold runCnt; omega
  refine ⟨e1, by unfold runNum; rw [e1]; rfl, by omega, ?_⟩
  unfold runOut
  rw [e1]
  simp only [beq_self_eq_true, if_true]
  unfold runL
  rw [from_to hf]
  unfold runTo
  rw [← runSt_append, ← List.take_add]
theorem run_end {l : Lg} {s : St} (h : nodeErr l s = 0) (hf : fitsB l s = true) : runErr l s 50 = 0 ∧ runNum l s 50 = ((l.tail.length - runLo l s : Nat) : Int) ∧ runOut l s 50 = runSt l.base l.tail := by
  obtain ⟨h1, h2⟩ := node_right h
  obtain ⟨g1, g2, g3, g4⟩ := fits_at h1 h2 hf
  have hb := (stErr_bounds (fold_right h1).1).1
  obtain ⟨a1, a2, a3, a4⟩ := run_ok (m := 50) h hf (Nat.le_refl _)
  have hc : runCnt l s (50 : Nat) = l.tail.length - runLo l s := by unfold runCnt; simp; omega
  refine ⟨a1, by rw [← hc]; exact a2, ?_⟩
  have a5 : runOut l s 50 = runTo l (runLo l s + runCnt l s (50 : Nat)) := a4
  rw [a5, hc]
  unfold runTo
  have : runLo l s + (l.tail.length - runLo l s) = l.tail.length := by omega
  rw [this, List.take_length]
theorem fits_to {l : Lg} {s : St} (hf : fitsB l s = true) : s.at_ < l.base.at_ ∨ ∃ k : Nat, k ≤ l.tail.length ∧ s.at_ - l.base.at_ = k ∧ s = runTo l k := by
  by_cases h : s.at_ < l.base.at_
  · exact Or.inl h
  · right
    have h1 := from_to hf
    unfold runFrom at h1
    rw [if_neg h] at h1
    have h2 : runLo l s = (s.at_ - l.base.at_).toNat := by unfold runLo runFrom; rw [if_neg h]
    unfold fitsB at hf
    rw [if_neg h] at hf
    split at hf
    · cases hf
    · exact ⟨runLo l s, by omega, by omega, h1⟩
theorem cut_plain {l : Lg} (h : lgErr l = 0) {n : Nat} (hn : n ≤ l.tail.length) : cutErr l n = 0 ∧ cutLg l n = ⟨runSt l.base (l.tail.take n), l.tail.drop n⟩ ∧ lgErr (cutLg l n) = 0 := by
  have e1 : cutErr l n = 0 := by
    unfold cutErr
    rw [h]
    simp only [beq_self_eq_true, if_true]
    rw [if_pos (inB_iff.2 ⟨by omega, by omega⟩)]
  have e2 : cutLg l n = ⟨runSt l.base (l.tail.take n), l.tail.drop n⟩ := by
    unfold cutLg
    rw [e1]
    simp
  exact ⟨e1, e2, by rw [e2]; exact (split_right h n).2.1⟩
theorem fits_cut {l : Lg} {s : St} (hl : lgErr l = 0) (hs : stErr s = 0) (hf : fitsB l s = true) {n : Nat} (hn : n ≤ l.tail.length) : nodeErr (cutLg l n) s = 0 ∧ fitsOk (cutLg l n) s = true := by
  obtain ⟨a1, a2, a3⟩ := cut_plain hl hn
  have e1 : nodeErr (cutLg l n) s = 0 := by unfold nodeErr; rw [a3]; exact hs
  refine ⟨e1, ?_⟩
  unfold fitsOk
  rw [e1]
  simp only [beq_self_eq_true, if_true]
  have hat := (runTo_at hl hn).2
  unfold runTo at hat
  rw [a2]
  unfold fitsB
  simp only []
  rw [hat]
  split
  · rfl
  · rename_i h
    rcases fits_to hf with h1 | ⟨k, hk, hk1, hk2⟩
    · omega
    · rw [if_neg (by simp; omega)]
      have e3 : (s.at_ - (l.base.at_ + n)).toNat = k - n := by omega
      rw [e3, ← runSt_append]
      have e4 : l.tail.take n ++ (l.tail.drop n).take (k - n) = l.tail.take k := by
        rw [← List.take_add]
        congr 1
        omega
      rw [e4, hk2]
      exact same_self _
theorem fits_put {l : Lg} {s : St} {e : Ent} (hs : stErr s = 0) (hf : fitsB l s = true) (h : putLgErr l e = 0) : nodeErr (putLg l e) s = 0 ∧ fitsOk (putLg l e) s = true := by
  obtain ⟨hl0, he0, hroom, hbe⟩ := putLg_right h
  obtain ⟨h1, h2, h3⟩ := fold_right hl0
  have e2 : putLg l e = ⟨l.base, l.tail ++ [e]⟩ := by unfold putLg; rw [h]; rfl
  have e0 : lgErr (putLg l e) = 0 := by
    rw [e2]
    refine fold_mk h1 ?_ ?_
    · intro x hx
      rcases List.mem_append.1 hx with hx | hx
      · exact h2 x hx
      · rw [List.mem_singleton.1 hx]
        exact he0
    · simp only [List.length_append, List.length_singleton]
      omega
  have e1 : nodeErr (putLg l e) s = 0 := by unfold nodeErr; rw [e0]; exact hs
  refine ⟨e1, ?_⟩
  unfold fitsOk
  rw [e1]
  simp only [beq_self_eq_true, if_true]
  rw [e2]
  unfold fitsB
  simp only []
  split
  · rfl
  · rename_i hh
    rcases fits_to hf with h1 | ⟨k, hk, hk1, hk2⟩
    · omega
    · rw [if_neg (by simp; omega)]
      have e3 : (s.at_ - l.base.at_).toNat = k := by omega
      rw [e3, List.take_append_of_le_length hk, hk2]
      exact same_self _
end Go.Proofs.YteabfjpajgakiaeGreat

/- NodeTrue: the walk. -/
set_option linter.unusedSimpArgs false
set_option linter.unusedVariables false
set_option maxRecDepth 10000
namespace Go.Proofs.YteabfjpajgakiaeGreat
open Go.RowKit

set_option maxHeartbeats 8000000 in
theorem node_true (l : Lg) (s : St) (n : Int) (x y : Value) (ta : Option Addr) (tc : Nat) (w : World) (hT : TabAt w x l.base.tab) (hL : EntsAt w (.slice ta l.tail.length tc) l.tail) (hY : TabAt w y s.tab) (hcap : l.tail.length ≤ tc) (n0 : -9223372036854775808 ≤ n) (n1 : n ≤ 9223372036854775807) : Calls Tryz.prog 4 #[lgV l x (.slice ta l.tail.length tc), stV s y, .int .i64 n] w fun e w' => e = .returned (.bool true) ∧ Keeps w w' := by
  obtain ⟨xa, xc, rfl, _⟩ := hT.len
  obtain ⟨ya, yc, rfl, _⟩ := hY.len
  have HT : Hid (TabAt w (.slice xa l.base.tab.length xc) l.base.tab) := hT
  have HL : Hid (EntsAt w (.slice ta l.tail.length tc) l.tail) := hL
  have HY : Hid (TabAt w (.slice ya s.tab.length yc) s.tab) := hY
  have hlen := hL.2.1
  unfold maxLen at hlen
  clear hT hL hY
  have HFI : Hid (∀ W, Keeps w W → Calls Tryz.prog 6 #[lgV l (.slice xa l.base.tab.length xc) (.slice ta l.tail.length tc), stV s (.slice ya s.tab.length yc)] W fun e w' => e = .returned (.tuple #[.bool (fitsOk l s), .int .i64 (nodeErr l s)]) ∧ Keeps W w') := fun W hk => node_fits_c l s _ _ ta tc W (HT.out.keep hk) (HL.out.keep hk) (HY.out.keep hk) hcap
  have HPE : Hid (∀ W, Keeps w W → Calls Tryz.prog 12 #[lgV l (.slice xa l.base.tab.length xc) (.slice ta l.tail.length tc)] W fun e w' => ∃ qa qc, TabAt w' (.slice qa (allSt l.base l.tail).tab.length qc) (allSt l.base l.tail).tab ∧ e = .returned (.tuple #[stV (allSt l.base l.tail) (.slice qa (allSt l.base l.tail).tab.length qc), .int .i64 (lgErr l)]) ∧ Keeps W w') := by
    intro W hk
    refine (pack_end l _ ta tc W (HT.out.keep hk) (HL.out.keep hk) hcap).mono ?_
    rintro e w' ⟨qa, qc, h1, rfl, hb⟩
    exact ⟨qa, qc, h1.tab, rfl, hb⟩
  have HNR : Hid (nodeErr l s = 0 → lgErr l = 0 ∧ stErr s = 0) := node_right
  have HGO : Hid (nodeErr l s = 0 → fitsOk l s = true → ∃ lo o : Nat, o ≤ l.tail.length ∧ (∀ W (m : Nat), m ≤ 50 → Keeps w W → Calls Tryz.prog 7 #[lgV l (.slice xa l.base.tab.length xc) (.slice ta l.tail.length tc), stV s (.slice ya s.tab.length yc), .int .i64 m] W fun e w' => ∃ c r qa qc, Hid (r = runTo l (lo + c) ∧ lo + c ≤ l.tail.length) ∧ Hid (OwnTab W.heap.size w' (.slice qa r.tab.length qc) r.tab) ∧ e = .returned (.tuple #[stV r (.slice qa r.tab.length qc), .int .i64 (c : Nat), .int .i64 0]) ∧ Keeps W w') ∧
      (∀ W, Keeps w W → Calls Tryz.prog 7 #[lgV l (.slice xa l.base.tab.length xc) (.slice ta l.tail.length tc), stV s (.slice ya s.tab.length yc), .int .i64 50] W fun e w' => ∃ qa qc, TabAt w' (.slice qa (allSt l.base l.tail).tab.length qc) (allSt l.base l.tail).tab ∧ e = .returned (.tuple #[stV (allSt l.base l.tail) (.slice qa (allSt l.base l.tail).tab.length qc), .int .i64 o, .int .i64 0]) ∧ Keeps W w') ∧
      (∀ c r, r = runTo l (lo + c) → lo + c ≤ l.tail.length → ∃ d : Nat, c + d = o ∧ ∀ W v, Keeps w W → TabAt W v r.tab → (Calls Tryz.prog 6 #[lgV l (.slice xa l.base.tab.length xc) (.slice ta l.tail.length tc), stV r v] W fun e w' => e = .returned (.tuple #[.bool true, .int .i64 0]) ∧ Keeps W w') ∧
        Calls Tryz.prog 7 #[lgV l (.slice xa l.base.tab.length xc) (.slice ta l.tail.length tc), stV r v, .int .i64 50] W fun e w' => ∃ qa qc, TabAt w' (.slice qa (allSt l.base l.tail).tab.length qc) (allSt l.base l.tail).tab ∧ e = .returned (.tuple #[stV (allSt l.base l.tail) (.slice qa (allSt l.base l.tail).tab.length qc), .int .i64 d, .int .i64 0]) ∧ Keeps W w')) := by
    intro h0 hfo
    have hf : fitsB l s = true := by unfold fitsOk at hfo; rw [h0] at hfo; exact hfo
    have hl0 := (node_right h0).1
    have eE : allSt l.base l.tail = runSt l.base l.tail := by
      have h' : foldErr l.base l.tail = 0 := hl0
      simp [allSt, h']
    refine ⟨runLo l s, l.tail.length - runLo l s, by omega, ?_, ?_, ?_⟩
    · intro W m hm hk
      obtain ⟨a1, a2, a3, a4⟩ := run_ok h0 hf hm
      refine (node_run l s m _ _ ta tc W (HT.out.keep hk) (HL.out.keep hk) (HY.out.keep hk) hcap).mono ?_
      rintro e w' ⟨qa, qc, h1, rfl, hb⟩
      rw [a4] at h1
      rw [a4, a1, a2]
      exact ⟨_, _, qa, qc, ⟨rfl, a3⟩, h1, rfl, hb⟩
    · intro W hk
      obtain ⟨a1, a2, a3⟩ := run_end h0 hf
      refine (node_run l s 50 _ _ ta tc W (HT.out.keep hk) (HL.out.keep hk) (HY.out.keep hk) hcap).mono ?_
      rintro e w' ⟨qa, qc, h1, rfl, hb⟩
      rw [a3, ← eE] at h1
      rw [a3, a1, a2, ← eE]
      exact ⟨qa, qc, h1.tab, rfl, hb⟩
    · intro c r hr hc
      obtain ⟨b1, b2, b3, b4⟩ := runTo_fits hl0 hc
      rw [← hr] at b1 b2 b3 b4
      obtain ⟨a1, a2, a3⟩ := run_end b1 b2
      rw [b4] at a2
      refine ⟨l.tail.length - (runLo l s + c), by omega, fun W v hk hv => ⟨?_, ?_⟩⟩
      · have := node_fits_c l r _ v ta tc W (HT.out.keep hk) (HL.out.keep hk) hv hcap
        rw [b1, b3] at this
        exact this
      · refine (node_run l r 50 _ v ta tc W (HT.out.keep hk) (HL.out.keep hk) hv hcap).mono ?_
        rintro e w' ⟨qa, qc, h1, rfl, hb⟩
        rw [a3, ← eE] at h1
        rw [a3, a1, a2, ← eE]
        exact ⟨qa, qc, h1.tab, rfl, hb⟩
  generalize allSt l.base l.tail = E at *
  go_enter Tryz.func4, Tryz.ntmps4
  go_wp2_with fail
  obtain ⟨W1, hW1⟩ : ∃ W1, W1 = (w.alloc (.cells #[.int .i64 l.base.at_, .int .i64 l.base.clock, .int .i64 l.base.v0, .int .i64 l.base.v1, .int .i64 l.base.v2, .int .i64 l.base.v3, .slice xa l.base.tab.length xc, .slice ta l.tail.length tc] 28)).alloc (.cells #[.int .i64 s.at_, .int .i64 s.clock, .int .i64 s.v0, .int .i64 s.v1, .int .i64 s.v2, .int .i64 s.v3, .slice ya s.tab.length yc] 25) := ⟨_, rfl⟩
  have k1 : Keeps w W1 := by rw [hW1]; exact ((Keeps.refl _).alloc _).alloc _
  have B1 : LgBox w.heap.size l (.slice xa l.base.tab.length xc) (.slice ta l.tail.length tc) W1 := by rw [hW1]; exact (LgBox.new w l _ _ rfl rfl 28).keep ((Keeps.refl _).alloc _)
  have C1 : StBox (w.heap.size + 1) s (.slice ya s.tab.length yc) W1 := by
    rw [hW1]
    have := StBox.new (w.alloc (.cells #[.int .i64 l.base.at_, .int .i64 l.base.clock, .int .i64 l.base.v0, .int .i64 l.base.v1, .int .i64 l.base.v2, .int .i64 l.base.v3, .slice xa l.base.tab.length xc, .slice ta l.tail.length tc] 28)) s (.slice ya s.tab.length yc) 25
    simp only [World.size_alloc] at this
    exact this
  rw [← hW1]
  clear hW1
  refine (HFI.out W1 k1).mono ?_
  rintro e w1 ⟨rfl, hb⟩
  have HK1 : Hid (Keeps w w1) := k1.trans hb
  have HB1 := (show Hid _ from B1.keep hb)
  have HC1 := (show Hid _ from C1.keep hb)
  clear k1 B1 C1 hb HFI
  clear W1
  have b0 := HB1.out.c0
  have b1 := HB1.out.c1
  have b2 := HB1.out.c2
  have b3 := HB1.out.c3
  have b4 := HB1.out.c4
  have b5 := HB1.out.c5
  have b6 := HB1.out.c6
  have b7 := HB1.out.c7
  have bl := HB1.out.lt
  go_wp2_with fail
  refine (HPE.out w1 HK1.out).mono ?_
  rintro e w1' ⟨ea, ec, hE, rfl, hb⟩
  have HK2 : Hid (Keeps w w1') := HK1.out.trans hb
  have HB2 := (show Hid _ from HB1.out.keep hb)
  have HC2 := (show Hid _ from HC1.out.keep hb)
  have HE2 : Hid (TabAt w1' (.slice ea E.tab.length ec) E.tab) := hE
  clear b0 b1 b2 b3 b4 b5 b6 b7 bl hb hE HK1 HB1 HC1 HPE
  clear w1
  cases q1 : (nodeErr l s == 0) with
  | false =>
    have q1' : (nodeErr l s != 0) = true := by simp [bne, q1]
    go_wp2_with fail
    refine (node_begun _).mono ?_
    rintro y w3 ⟨rfl, hb⟩
    have HK3 : Hid (Keeps w w3) := (HK2.out.alloc _).trans hb
    clear hb
    go_wp2_with fail
    go_ret
    exact ⟨rfl, HK3.out⟩
  | true =>
    have q1' : (nodeErr l s != 0) = false := by simp [bne, q1]
    have q0 : nodeErr l s = 0 := by simpa using q1
    have hl0 := (HNR.out q0).1
    cases q2 : fitsOk l s with
    | false =>
      rw [hl0]
      go_wp2_with fail
      refine (node_begun _).mono ?_
      rintro y w3 ⟨rfl, hb⟩
      have HK3 : Hid (Keeps w w3) := (HK2.out.alloc _).trans hb
      clear hb
      go_wp2_with fail
      go_ret
      exact ⟨rfl, HK3.out⟩
    | true =>
      obtain ⟨lo, o, hol, hG, hE0, hR⟩ := HGO.out q0 q2
      have HG1 := (show Hid _ from hG)
      have HEN := (show Hid _ from hE0)
      have HRR := (show Hid _ from hR)
      rw [hl0]
      clear hG hE0 hR hl0 q0
      go_wp2_with fail
      obtain ⟨w2, hw2⟩ : ∃ z, z = w1'.alloc (.cells #[.int .i64 E.at_, .int .i64 E.clock, .int .i64 E.v0, .int .i64 E.v1, .int .i64 E.v2, .int .i64 E.v3, .slice ea E.tab.length ec] 25) := ⟨_, rfl⟩
      have k12 : Keeps w1' w2 := by rw [hw2]; exact (Keeps.refl _).alloc _
      have HX2 : Hid (StBox w1'.heap.size E (.slice ea E.tab.length ec) w2) := by rw [hw2]; exact StBox.new w1' E _ 25
      rw [← hw2]
      clear hw2
      generalize w1'.heap.size = eb at *
      have HK3 : Hid (Keeps w w2) := HK2.out.trans k12
      have HB3 := (show Hid _ from HB2.out.keep k12)
      have HC3 := (show Hid _ from HC2.out.keep k12)
      have HE3 : Hid (TabAt w2 (.slice ea E.tab.length ec) E.tab) := HE2.out.keep k12
      clear k12 HK2 HB2 HC2 HE2
      clear w1'
      have HSA : Hid (∀ W, Keeps w2 W → W.cell? ⟨w.heap.size, 0, none⟩ = some (.int .i64 l.base.at_) ∧ W.cell? ⟨w.heap.size, 1, none⟩ = some (.int .i64 l.base.clock) ∧ W.cell? ⟨w.heap.size, 2, none⟩ = some (.int .i64 l.base.v0) ∧ W.cell? ⟨w.heap.size, 3, none⟩ = some (.int .i64 l.base.v1) ∧ W.cell? ⟨w.heap.size, 4, none⟩ = some (.int .i64 l.base.v2) ∧ W.cell? ⟨w.heap.size, 5, none⟩ = some (.int .i64 l.base.v3) ∧ W.cell? ⟨w.heap.size, 6, none⟩ = some (.slice xa l.base.tab.length xc) ∧ W.cell? ⟨w.heap.size, 7, none⟩ = some (.slice ta l.tail.length tc) ∧ W.cell? ⟨w.heap.size + 1, 0, none⟩ = some (.int .i64 s.at_) ∧ W.cell? ⟨w.heap.size + 1, 1, none⟩ = some (.int .i64 s.clock) ∧ W.cell? ⟨w.heap.size + 1, 2, none⟩ = some (.int .i64 s.v0) ∧ W.cell? ⟨w.heap.size + 1, 3, none⟩ = some (.int .i64 s.v1) ∧ W.cell? ⟨w.heap.size + 1, 4, none⟩ = some (.int .i64 s.v2) ∧ W.cell? ⟨w.heap.size + 1, 5, none⟩ = some (.int .i64 s.v3) ∧ W.cell? ⟨w.heap.size + 1, 6, none⟩ = some (.slice ya s.tab.length yc)) := fun W hk => have B := HB3.out.keep hk; have C := HC3.out.keep hk; ⟨B.c0, B.c1, B.c2, B.c3, B.c4, B.c5, B.c6, B.c7, C.c0, C.c1, C.c2, C.c3, C.c4, C.c5, C.c6⟩
      have HG : Hid (∀ W (m : Nat), m ≤ 50 → Keeps w2 W → Calls Tryz.prog 7 #[lgV l (.slice xa l.base.tab.length xc) (.slice ta l.tail.length tc), stV s (.slice ya s.tab.length yc), .int .i64 m] W fun e w' => ∃ c r qa qc, Hid (r = runTo l (lo + c) ∧ lo + c ≤ l.tail.length) ∧ Hid (OwnTab W.heap.size w' (.slice qa r.tab.length qc) r.tab) ∧ e = .returned (.tuple #[stV r (.slice qa r.tab.length qc), .int .i64 (c : Nat), .int .i64 0]) ∧ Keeps W w') := fun W m hm hk => HG1.out W m hm (HK3.out.trans hk)
      clear HG1
      go_cut [11, 12, 13] (fun p a f wc => f = .int .i64 0 ∧ ∃ (c : Nat) (r : St) (sb : Nat) (qa : Option Addr) (qc : Nat), a = .int .i64 c ∧ p = .pointer (some ⟨sb, 0, none⟩) ∧ Hid (r = runTo l (lo + c) ∧ lo + c ≤ l.tail.length) ∧ StBox sb r (.slice qa r.tab.length qc) wc ∧ TabAt wc (.slice qa r.tab.length qc) r.tab ∧ Keeps w2 wc)
      case first =>
        obtain ⟨V0, hV0⟩ : ∃ z, z = w2.drew := ⟨_, rfl⟩
        have k0 : Keeps w2 V0 := by rw [hV0]; exact (Keeps.refl _).drew
        refine wp_region_held_drew (S := fun W => W.cell? ⟨w.heap.size, 0, none⟩ = some (.int .i64 l.base.at_) ∧ W.cell? ⟨w.heap.size, 1, none⟩ = some (.int .i64 l.base.clock) ∧ W.cell? ⟨w.heap.size, 2, none⟩ = some (.int .i64 l.base.v0) ∧ W.cell? ⟨w.heap.size, 3, none⟩ = some (.int .i64 l.base.v1) ∧ W.cell? ⟨w.heap.size, 4, none⟩ = some (.int .i64 l.base.v2) ∧ W.cell? ⟨w.heap.size, 5, none⟩ = some (.int .i64 l.base.v3) ∧ W.cell? ⟨w.heap.size, 6, none⟩ = some (.slice xa l.base.tab.length xc) ∧ W.cell? ⟨w.heap.size, 7, none⟩ = some (.slice ta l.tail.length tc) ∧ W.cell? ⟨w.heap.size + 1, 0, none⟩ = some (.int .i64 s.at_) ∧ W.cell? ⟨w.heap.size + 1, 1, none⟩ = some (.int .i64 s.clock) ∧ W.cell? ⟨w.heap.size + 1, 2, none⟩ = some (.int .i64 s.v0) ∧ W.cell? ⟨w.heap.size + 1, 3, none⟩ = some (.int .i64 s.v1) ∧ W.cell? ⟨w.heap.size + 1, 4, none⟩ = some (.int .i64 s.v2) ∧ W.cell? ⟨w.heap.size + 1, 5, none⟩ = some (.int .i64 s.v3) ∧ W.cell? ⟨w.heap.size + 1, 6, none⟩ = some (.slice ya s.tab.length yc)) (by kernel_rfl) (HSA.out _ (Keeps.refl _).drew) (fun hS => ?_)
        rw [← hV0] at hS ⊢
        clear hV0
        refine wpAnyH_take (i := 0) (v := lgV l (.slice xa l.base.tab.length xc) (.slice ta l.tail.length tc)) rfl (by kernel_rfl) (by kernel_rfl) (by kernel_rfl) (fun _ _ _ h => h) (Or.inl ⟨by rfl, ?_⟩) hS ?_
        · intro w hS; go_simp
        refine wpAnyH_take (i := 1) (v := stV s (.slice ya s.tab.length yc)) rfl (by kernel_rfl) (by kernel_rfl) (by kernel_rfl) (fun _ _ _ h => h) (Or.inl ⟨by rfl, ?_⟩) hS ?_
        · intro w hS; go_simp
        refine wpAnyH_take (i := 2) (v := .int .i64 n) rfl (by kernel_rfl) (by kernel_rfl) (by kernel_rfl) (fun _ _ _ h => h) (Or.inl ⟨by rfl, ?_⟩) hS ?_
        · intro w hS; go_simp
        refine wpAnyH_ready (rs := [3, 9]) (by kernel_rfl) (by simp) ?_
        refine AllReadyH.cons rfl (fun K hK => ?_) (AllReadyH.cons rfl (fun K hK => ?_) (AllReadyH.nil))
        · go_simp
          refine (choose_n n 51 V0 n0 n1 (by omega) (by omega)).mono ?_
          rintro y V1 ⟨rm, hr0, hr1, rfl, hw⟩
          have hb : Keeps V0 V1 := by rw [hw]; exact Keeps.refl _
          obtain ⟨m, rfl⟩ : ∃ m : Nat, rm = m := ⟨rm.toNat, by omega⟩
          have hm : m ≤ 50 := by omega
          clear hr0 hr1 hw
          have k1 := k0.trans hb
          clear hb
          go_simp
          refine hK.out _ _ (HSA.out _ k1) (fun hS => ?_)
          clear hK K
          refine wpAnyH_ready (rs := [4, 9]) (by kernel_rfl) (by simp) ?_
          refine AllReadyH.cons rfl (fun K hK => ?_) (AllReadyH.cons rfl (fun K hK => ?_) (AllReadyH.nil))
          · go_simp
            refine (HG.out V1 m hm k1).mono ?_
            rintro y V2 ⟨c, r, qa, qc, HRT, hO2, rfl, hb⟩
            have k2 := k1.trans hb
            clear hb
            go_simp
            refine hK.out _ _ (HSA.out _ k2) (fun hS => ?_)
            clear hK K
            refine wpAnyH_take (i := 5) (v := .tuple #[stV r (.slice qa r.tab.length qc), .int .i64 c, .int .i64 0]) rfl (by kernel_rfl) (by kernel_rfl) (by kernel_rfl) (fun _ _ _ h => h) (Or.inl ⟨by rfl, ?_⟩) hS ?_
            · intro w hS; go_simp
            refine wpAnyH_take (i := 6) (v := stV r (.slice qa r.tab.length qc)) rfl (by kernel_rfl) (by kernel_rfl) (by kernel_rfl) (fun _ _ _ h => h) (Or.inl ⟨by rfl, ?_⟩) hS ?_
            · intro w hS; go_simp
            refine wpAnyH_take (i := 7) (v := .int .i64 c) rfl (by kernel_rfl) (by kernel_rfl) (by kernel_rfl) (fun _ _ _ h => h) (Or.inl ⟨by rfl, ?_⟩) hS ?_
            · intro w hS; go_simp
            refine wpAnyH_take (i := 8) (v := .int .i64 0) rfl (by kernel_rfl) (by kernel_rfl) (by kernel_rfl) (fun _ _ _ h => h) (Or.inl ⟨by rfl, ?_⟩) hS ?_
            · intro w hS; go_simp
            refine wpAnyH_ready (rs := [9]) (by kernel_rfl) (by simp) ?_
            refine AllReadyH.cons rfl (fun K hK => ?_) (AllReadyH.nil)
            go_simp
            have hb : Keeps V2 (V2.alloc (.cells #[.int .i64 0, .int .i64 0, .int .i64 0, .int .i64 0, .int .i64 0, .int .i64 0, .slice none 0 0] 25)) := (Keeps.refl _).alloc _
            have HQ3 : Hid (StBox V2.heap.size zeroSt (.slice none 0 0) (V2.alloc (.cells #[.int .i64 0, .int .i64 0, .int .i64 0, .int .i64 0, .int .i64 0, .int .i64 0, .slice none 0 0] 25))) := StBox.new V2 zeroSt (.slice none 0 0) 25
            have HTF : Hid (∀ WF, But V2.heap.size (V2.alloc (.cells #[.int .i64 0, .int .i64 0, .int .i64 0, .int .i64 0, .int .i64 0, .int .i64 0, .slice none 0 0] 25)) WF → TabAt WF (.slice qa r.tab.length qc) r.tab) := fun WF hF => hO2.out.tab.keep (But.to hb (Nat.le_refl _) hF)
            generalize V2.alloc (.cells #[.int .i64 0, .int .i64 0, .int .i64 0, .int .i64 0, .int .i64 0, .int .i64 0, .slice none 0 0] 25) = V3 at *
            have k3 := k2.trans hb
            clear hb
            refine hK.out _ _ (HSA.out _ k3) (fun hS => ?_)
            clear hK K
            refine wpAnyH_ready (rs := [10]) (by kernel_rfl) (by simp) ?_
            refine AllReadyH.cons rfl (fun K hK => ?_) (AllReadyH.nil)
            have z0 := HQ3.out.c0
            have z1 := HQ3.out.c1
            have z2 := HQ3.out.c2
            have z3 := HQ3.out.c3
            have z4 := HQ3.out.c4
            have z5 := HQ3.out.c5
            have z6 := HQ3.out.c6
            have zf := HQ3.out.fz
            have zl := HQ3.out.lt
            go_simp
            have BP := HQ3.out.put r (.slice qa r.tab.length qc)
            have BT := But.puts (b := V2.heap.size) V3 r (.slice qa r.tab.length qc)
            have KF := But.to k3 k2.size BT
            have HTE := HTF.out _ BT
            obtain ⟨WF, hWF⟩ : ∃ z, z = (((((((V3.setCell ⟨V2.heap.size, 0, none⟩ (.int .i64 r.at_)).setCell ⟨V2.heap.size, 1, none⟩ (.int .i64 r.clock)).setCell ⟨V2.heap.size, 2, none⟩ (.int .i64 r.v0)).setCell ⟨V2.heap.size, 3, none⟩ (.int .i64 r.v1)).setCell ⟨V2.heap.size, 4, none⟩ (.int .i64 r.v2)).setCell ⟨V2.heap.size, 5, none⟩ (.int .i64 r.v3)).setCell ⟨V2.heap.size, 6, none⟩ (.slice qa r.tab.length qc)) := ⟨_, rfl⟩
            rw [← hWF] at BP BT KF HTE ⊢
            clear hWF z0 z1 z2 z3 z4 z5 z6 zf zl
            refine hK.out _ _ (HSA.out _ KF) (fun hS => ?_)
            clear hK K
            refine wpAnyH_take (i := 11) (v := .int .i64 c) rfl (by kernel_rfl) (by kernel_rfl) (by kernel_rfl) (fun _ _ _ h => h) (Or.inl ⟨by rfl, ?_⟩) hS ?_
            · intro w hS; go_simp
            refine wpAnyH_take (i := 12) (v := .int .i64 0) rfl (by kernel_rfl) (by kernel_rfl) (by kernel_rfl) (fun _ _ _ h => h) (Or.inl ⟨by rfl, ?_⟩) hS ?_
            · intro w hS; go_simp
            refine wpAnyH_done (by kernel_rfl) ?_ _
            go_wp2_with fail
            go_meet
            exact ⟨rfl, c, r, _, _, _, rfl, rfl, HRT, BP, HTE, KF⟩
          · go_simp
            have hb : Keeps V1 (V1.alloc (.cells #[.int .i64 0, .int .i64 0, .int .i64 0, .int .i64 0, .int .i64 0, .int .i64 0, .slice none 0 0] 25)) := (Keeps.refl _).alloc _
            have HQ2 : Hid (StBox V1.heap.size zeroSt (.slice none 0 0) (V1.alloc (.cells #[.int .i64 0, .int .i64 0, .int .i64 0, .int .i64 0, .int .i64 0, .int .i64 0, .slice none 0 0] 25))) := StBox.new V1 zeroSt (.slice none 0 0) 25
            generalize V1.alloc (.cells #[.int .i64 0, .int .i64 0, .int .i64 0, .int .i64 0, .int .i64 0, .int .i64 0, .slice none 0 0] 25) = V2 at *
            have k2 := k1.trans hb
            clear hb
            refine hK.out _ _ (HSA.out _ k2) (fun hS => ?_)
            clear hK K
            refine wpAnyH_ready (rs := [4]) (by kernel_rfl) (by simp) ?_
            refine AllReadyH.cons rfl (fun K hK => ?_) (AllReadyH.nil)
            go_simp
            refine (HG.out V2 m hm k2).mono ?_
            rintro y V3 ⟨c, r, qa, qc, HRT, hO3, rfl, hb⟩
            have k3 := k2.trans hb
            have HQ3 : Hid (StBox V1.heap.size zeroSt (.slice none 0 0) V3) := HQ2.out.keep hb
            have HTF : Hid (∀ WF, But V1.heap.size V3 WF → TabAt WF (.slice qa r.tab.length qc) r.tab) := fun WF hF => (hO3.out.but (by have := HQ2.out.lt; omega) hF).tab
            clear hb
            go_simp
            refine hK.out _ _ (HSA.out _ k3) (fun hS => ?_)
            clear hK K
            refine wpAnyH_take (i := 5) (v := .tuple #[stV r (.slice qa r.tab.length qc), .int .i64 c, .int .i64 0]) rfl (by kernel_rfl) (by kernel_rfl) (by kernel_rfl) (fun _ _ _ h => h) (Or.inl ⟨by rfl, ?_⟩) hS ?_
            · intro w hS; go_simp
            refine wpAnyH_take (i := 6) (v := stV r (.slice qa r.tab.length qc)) rfl (by kernel_rfl) (by kernel_rfl) (by kernel_rfl) (fun _ _ _ h => h) (Or.inl ⟨by rfl, ?_⟩) hS ?_
            · intro w hS; go_simp
            refine wpAnyH_take (i := 7) (v := .int .i64 c) rfl (by kernel_rfl) (by kernel_rfl) (by kernel_rfl) (fun _ _ _ h => h) (Or.inl ⟨by rfl, ?_⟩) hS ?_
            · intro w hS; go_simp
            refine wpAnyH_take (i := 8) (v := .int .i64 0) rfl (by kernel_rfl) (by kernel_rfl) (by kernel_rfl) (fun _ _ _ h => h) (Or.inl ⟨by rfl, ?_⟩) hS ?_
            · intro w hS; go_simp
            refine wpAnyH_ready (rs := [10]) (by kernel_rfl) (by simp) ?_
            refine AllReadyH.cons rfl (fun K hK => ?_) (AllReadyH.nil)
            have z0 := HQ3.out.c0
            have z1 := HQ3.out.c1
            have z2 := HQ3.out.c2
            have z3 := HQ3.out.c3
            have z4 := HQ3.out.c4
            have z5 := HQ3.out.c5
            have z6 := HQ3.out.c6
            have zf := HQ3.out.fz
            have zl := HQ3.out.lt
            go_simp
            have BP := HQ3.out.put r (.slice qa r.tab.length qc)
            have BT := But.puts (b := V1.heap.size) V3 r (.slice qa r.tab.length qc)
            have KF := But.to k3 k1.size BT
            have HTE := HTF.out _ BT
            obtain ⟨WF, hWF⟩ : ∃ z, z = (((((((V3.setCell ⟨V1.heap.size, 0, none⟩ (.int .i64 r.at_)).setCell ⟨V1.heap.size, 1, none⟩ (.int .i64 r.clock)).setCell ⟨V1.heap.size, 2, none⟩ (.int .i64 r.v0)).setCell ⟨V1.heap.size, 3, none⟩ (.int .i64 r.v1)).setCell ⟨V1.heap.size, 4, none⟩ (.int .i64 r.v2)).setCell ⟨V1.heap.size, 5, none⟩ (.int .i64 r.v3)).setCell ⟨V1.heap.size, 6, none⟩ (.slice qa r.tab.length qc)) := ⟨_, rfl⟩
            rw [← hWF] at BP BT KF HTE ⊢
            clear hWF z0 z1 z2 z3 z4 z5 z6 zf zl
            refine hK.out _ _ (HSA.out _ KF) (fun hS => ?_)
            clear hK K
            refine wpAnyH_take (i := 11) (v := .int .i64 c) rfl (by kernel_rfl) (by kernel_rfl) (by kernel_rfl) (fun _ _ _ h => h) (Or.inl ⟨by rfl, ?_⟩) hS ?_
            · intro w hS; go_simp
            refine wpAnyH_take (i := 12) (v := .int .i64 0) rfl (by kernel_rfl) (by kernel_rfl) (by kernel_rfl) (fun _ _ _ h => h) (Or.inl ⟨by rfl, ?_⟩) hS ?_
            · intro w hS; go_simp
            refine wpAnyH_done (by kernel_rfl) ?_ _
            go_wp2_with fail
            go_meet
            exact ⟨rfl, c, r, _, _, _, rfl, rfl, HRT, BP, HTE, KF⟩
        · go_simp
          have hb : Keeps V0 (V0.alloc (.cells #[.int .i64 0, .int .i64 0, .int .i64 0, .int .i64 0, .int .i64 0, .int .i64 0, .slice none 0 0] 25)) := (Keeps.refl _).alloc _
          have HQ1 : Hid (StBox V0.heap.size zeroSt (.slice none 0 0) (V0.alloc (.cells #[.int .i64 0, .int .i64 0, .int .i64 0, .int .i64 0, .int .i64 0, .int .i64 0, .slice none 0 0] 25))) := StBox.new V0 zeroSt (.slice none 0 0) 25
          generalize V0.alloc (.cells #[.int .i64 0, .int .i64 0, .int .i64 0, .int .i64 0, .int .i64 0, .int .i64 0, .slice none 0 0] 25) = V1 at *
          have k1 := k0.trans hb
          clear hb
          refine hK.out _ _ (HSA.out _ k1) (fun hS => ?_)
          clear hK K
          refine wpAnyH_ready (rs := [3]) (by kernel_rfl) (by simp) ?_
          refine AllReadyH.cons rfl (fun K hK => ?_) (AllReadyH.nil)
          go_simp
          refine (choose_n n 51 V1 n0 n1 (by omega) (by omega)).mono ?_
          rintro y V2 ⟨rm, hr0, hr1, rfl, hw⟩
          have hb : Keeps V1 V2 := by rw [hw]; exact Keeps.refl _
          obtain ⟨m, rfl⟩ : ∃ m : Nat, rm = m := ⟨rm.toNat, by omega⟩
          have hm : m ≤ 50 := by omega
          clear hr0 hr1 hw
          have k2 := k1.trans hb
          have HQ2 : Hid (StBox V0.heap.size zeroSt (.slice none 0 0) V2) := HQ1.out.keep hb
          clear hb
          go_simp
          refine hK.out _ _ (HSA.out _ k2) (fun hS => ?_)
          clear hK K
          refine wpAnyH_ready (rs := [4]) (by kernel_rfl) (by simp) ?_
          refine AllReadyH.cons rfl (fun K hK => ?_) (AllReadyH.nil)
          go_simp
          refine (HG.out V2 m hm k2).mono ?_
          rintro y V3 ⟨c, r, qa, qc, HRT, hO3, rfl, hb⟩
          have k3 := k2.trans hb
          have HQ3 : Hid (StBox V0.heap.size zeroSt (.slice none 0 0) V3) := HQ2.out.keep hb
          have HTF : Hid (∀ WF, But V0.heap.size V3 WF → TabAt WF (.slice qa r.tab.length qc) r.tab) := fun WF hF => (hO3.out.but (by have := HQ2.out.lt; omega) hF).tab
          clear hb
          go_simp
          refine hK.out _ _ (HSA.out _ k3) (fun hS => ?_)
          clear hK K
          refine wpAnyH_take (i := 5) (v := .tuple #[stV r (.slice qa r.tab.length qc), .int .i64 c, .int .i64 0]) rfl (by kernel_rfl) (by kernel_rfl) (by kernel_rfl) (fun _ _ _ h => h) (Or.inl ⟨by rfl, ?_⟩) hS ?_
          · intro w hS; go_simp
          refine wpAnyH_take (i := 6) (v := stV r (.slice qa r.tab.length qc)) rfl (by kernel_rfl) (by kernel_rfl) (by kernel_rfl) (fun _ _ _ h => h) (Or.inl ⟨by rfl, ?_⟩) hS ?_
          · intro w hS; go_simp
          refine wpAnyH_take (i := 7) (v := .int .i64 c) rfl (by kernel_rfl) (by kernel_rfl) (by kernel_rfl) (fun _ _ _ h => h) (Or.inl ⟨by rfl, ?_⟩) hS ?_
          · intro w hS; go_simp
          refine wpAnyH_take (i := 8) (v := .int .i64 0) rfl (by kernel_rfl) (by kernel_rfl) (by kernel_rfl) (fun _ _ _ h => h) (Or.inl ⟨by rfl, ?_⟩) hS ?_
          · intro w hS; go_simp
          refine wpAnyH_ready (rs := [10]) (by kernel_rfl) (by simp) ?_
          refine AllReadyH.cons rfl (fun K hK => ?_) (AllReadyH.nil)
          have z0 := HQ3.out.c0
          have z1 := HQ3.out.c1
          have z2 := HQ3.out.c2
          have z3 := HQ3.out.c3
          have z4 := HQ3.out.c4
          have z5 := HQ3.out.c5
          have z6 := HQ3.out.c6
          have zf := HQ3.out.fz
          have zl := HQ3.out.lt
          go_simp
          have BP := HQ3.out.put r (.slice qa r.tab.length qc)
          have BT := But.puts (b := V0.heap.size) V3 r (.slice qa r.tab.length qc)
          have KF := But.to k3 k0.size BT
          have HTE := HTF.out _ BT
          obtain ⟨WF, hWF⟩ : ∃ z, z = (((((((V3.setCell ⟨V0.heap.size, 0, none⟩ (.int .i64 r.at_)).setCell ⟨V0.heap.size, 1, none⟩ (.int .i64 r.clock)).setCell ⟨V0.heap.size, 2, none⟩ (.int .i64 r.v0)).setCell ⟨V0.heap.size, 3, none⟩ (.int .i64 r.v1)).setCell ⟨V0.heap.size, 4, none⟩ (.int .i64 r.v2)).setCell ⟨V0.heap.size, 5, none⟩ (.int .i64 r.v3)).setCell ⟨V0.heap.size, 6, none⟩ (.slice qa r.tab.length qc)) := ⟨_, rfl⟩
          rw [← hWF] at BP BT KF HTE ⊢
          clear hWF z0 z1 z2 z3 z4 z5 z6 zf zl
          refine hK.out _ _ (HSA.out _ KF) (fun hS => ?_)
          clear hK K
          refine wpAnyH_take (i := 11) (v := .int .i64 c) rfl (by kernel_rfl) (by kernel_rfl) (by kernel_rfl) (fun _ _ _ h => h) (Or.inl ⟨by rfl, ?_⟩) hS ?_
          · intro w hS; go_simp
          refine wpAnyH_take (i := 12) (v := .int .i64 0) rfl (by kernel_rfl) (by kernel_rfl) (by kernel_rfl) (fun _ _ _ h => h) (Or.inl ⟨by rfl, ?_⟩) hS ?_
          · intro w hS; go_simp
          refine wpAnyH_done (by kernel_rfl) ?_ _
          go_wp2_with fail
          go_meet
          exact ⟨rfl, c, r, _, _, _, rfl, rfl, HRT, BP, HTE, KF⟩
      case rest =>
        obtain ⟨rfl, c, r, sb, qa, qc, rfl, rfl, HRT, hSB, hST, hkc⟩ := hcut
        obtain ⟨w4, hw4⟩ : ∃ z, z = wc := ⟨_, rfl⟩
        rw [← hw4] at hSB hST hkc ⊢
        clear hw4
        obtain ⟨d, hcd, hD⟩ := HRR.out c r HRT.out.1 HRT.out.2
        have HD := (show Hid _ from hD)
        have HK4 : Hid (Keeps w w4) := HK3.out.trans hkc
        have HSB4 : Hid (StBox sb r (.slice qa r.tab.length qc) w4) := hSB
        have HST4 : Hid (TabAt w4 (.slice qa r.tab.length qc) r.tab) := hST
        have HX4 := (show Hid _ from HX2.out.keep hkc)
        have HE4 : Hid (TabAt w4 (.slice ea E.tab.length ec) E.tab) := HE3.out.keep hkc
        have HSA4 : Hid (∀ W, Keeps w4 W → W.cell? ⟨w.heap.size, 0, none⟩ = some (.int .i64 l.base.at_) ∧ W.cell? ⟨w.heap.size, 1, none⟩ = some (.int .i64 l.base.clock) ∧ W.cell? ⟨w.heap.size, 2, none⟩ = some (.int .i64 l.base.v0) ∧ W.cell? ⟨w.heap.size, 3, none⟩ = some (.int .i64 l.base.v1) ∧ W.cell? ⟨w.heap.size, 4, none⟩ = some (.int .i64 l.base.v2) ∧ W.cell? ⟨w.heap.size, 5, none⟩ = some (.int .i64 l.base.v3) ∧ W.cell? ⟨w.heap.size, 6, none⟩ = some (.slice xa l.base.tab.length xc) ∧ W.cell? ⟨w.heap.size, 7, none⟩ = some (.slice ta l.tail.length tc) ∧ W.cell? ⟨w.heap.size + 1, 0, none⟩ = some (.int .i64 s.at_) ∧ W.cell? ⟨w.heap.size + 1, 1, none⟩ = some (.int .i64 s.clock) ∧ W.cell? ⟨w.heap.size + 1, 2, none⟩ = some (.int .i64 s.v0) ∧ W.cell? ⟨w.heap.size + 1, 3, none⟩ = some (.int .i64 s.v1) ∧ W.cell? ⟨w.heap.size + 1, 4, none⟩ = some (.int .i64 s.v2) ∧ W.cell? ⟨w.heap.size + 1, 5, none⟩ = some (.int .i64 s.v3) ∧ W.cell? ⟨w.heap.size + 1, 6, none⟩ = some (.slice ya s.tab.length yc)) := fun W hk => HSA.out W (hkc.trans hk)
        have hcd' : (c : Int) + (d : Int) = (o : Int) := by omega
        have hcb : c ≤ l.tail.length := by have := HRT.out.2; omega
        clear hD hSB hST hkc HSA HG HX2 HE3 HRT HRR HK3 HB3 HC3 hcd
        clear w2
        obtain ⟨b0, b1, b2, b3, b4, b5, b6, b7, c0, c1, c2, c3, c4, c5, c6⟩ := HSA4.out w4 (Keeps.refl _)
        have bl := World.block_lt_of_cell? _ _ b0
        have cl := World.block_lt_of_cell? _ _ c0
        simp only [] at bl cl
        have s0 := HSB4.out.c0
        have s1 := HSB4.out.c1
        have s2 := HSB4.out.c2
        have s3 := HSB4.out.c3
        have s4 := HSB4.out.c4
        have s5 := HSB4.out.c5
        have s6 := HSB4.out.c6
        have sl := HSB4.out.lt
        go_wp2_with fail
        refine (HD.out w4 _ HK4.out HST4.out).1.mono ?_
        rintro e w5 ⟨rfl, hb⟩
        have HK5 : Hid (Keeps w w5) := HK4.out.trans hb
        have HK45 : Hid (Keeps w4 w5) := hb
        have hS5 := HSB4.out.keep hb
        clear hb b0 b1 b2 b3 b4 b5 b6 b7 c0 c1 c2 c3 c4 c5 c6 bl cl s0 s1 s2 s3 s4 s5 s6 sl
        obtain ⟨b0, b1, b2, b3, b4, b5, b6, b7, c0, c1, c2, c3, c4, c5, c6⟩ := HSA4.out w5 HK45.out
        have bl := World.block_lt_of_cell? _ _ b0
        have cl := World.block_lt_of_cell? _ _ c0
        simp only [] at bl cl
        have s0 := hS5.c0
        have s1 := hS5.c1
        have s2 := hS5.c2
        have s3 := hS5.c3
        have s4 := hS5.c4
        have s5 := hS5.c5
        have s6 := hS5.c6
        have sl := hS5.lt
        clear hS5
        go_wp2_with fail
        refine (HD.out w5 _ HK5.out (HST4.out.keep HK45.out)).2.mono ?_
        rintro e w6 ⟨fa, fc, hF, rfl, hb⟩
        have HF6 : Hid (TabAt w6 (.slice fa E.tab.length fc) E.tab) := hF
        have HK46 : Hid (Keeps w4 w6) := HK45.out.trans hb
        clear hb hF HD HK5 HK45 HST4 HSB4 b0 b1 b2 b3 b4 b5 b6 b7 c0 c1 c2 c3 c4 c5 c6 bl cl s0 s1 s2 s3 s4 s5 s6 sl
        clear w5
        obtain ⟨b0, b1, b2, b3, b4, b5, b6, b7, c0, c1, c2, c3, c4, c5, c6⟩ := HSA4.out w6 HK46.out
        have bl := World.block_lt_of_cell? _ _ b0
        have cl := World.block_lt_of_cell? _ _ c0
        simp only [] at bl cl
        go_wp2_with fail
        have F7 : StBox w6.heap.size E (.slice fa E.tab.length fc) (w6.alloc (.cells #[.int .i64 E.at_, .int .i64 E.clock, .int .i64 E.v0, .int .i64 E.v1, .int .i64 E.v2, .int .i64 E.v3, .slice fa E.tab.length fc] 25)) := StBox.new w6 E _ 25
        have k67 : Keeps w6 (w6.alloc (.cells #[.int .i64 E.at_, .int .i64 E.clock, .int .i64 E.v0, .int .i64 E.v1, .int .i64 E.v2, .int .i64 E.v3, .slice fa E.tab.length fc] 25)) := (Keeps.refl _).alloc _
        generalize (w6.alloc (.cells #[.int .i64 E.at_, .int .i64 E.clock, .int .i64 E.v0, .int .i64 E.v1, .int .i64 E.v2, .int .i64 E.v3, .slice fa E.tab.length fc] 25)) = w7 at *
        generalize w6.heap.size = fb at *
        have HK47 : Hid (Keeps w4 w7) := HK46.out.trans k67
        refine (HEN.out w7 (HK4.out.trans HK47.out)).mono ?_
        rintro e w8 ⟨ga, gc, hG, rfl, hb⟩
        have HG8 : Hid (TabAt w8 (.slice ga E.tab.length gc) E.tab) := hG
        have HK48 : Hid (Keeps w4 w8) := HK47.out.trans hb
        have HFB8 := (show Hid _ from F7.keep hb)
        have HF8 : Hid (TabAt w8 (.slice fa E.tab.length fc) E.tab) := HF6.out.keep (k67.trans hb)
        clear hG hb F7 k67 HK47 HK46 HEN HF6 b0 b1 b2 b3 b4 b5 b6 b7 c0 c1 c2 c3 c4 c5 c6 bl cl
        clear w7 w6
        go_wp2_with fail
        have G9 : StBox w8.heap.size E (.slice ga E.tab.length gc) (w8.alloc (.cells #[.int .i64 E.at_, .int .i64 E.clock, .int .i64 E.v0, .int .i64 E.v1, .int .i64 E.v2, .int .i64 E.v3, .slice ga E.tab.length gc] 25)) := StBox.new w8 E _ 25
        have k89 : Keeps w8 (w8.alloc (.cells #[.int .i64 E.at_, .int .i64 E.clock, .int .i64 E.v0, .int .i64 E.v1, .int .i64 E.v2, .int .i64 E.v3, .slice ga E.tab.length gc] 25)) := (Keeps.refl _).alloc _
        generalize (w8.alloc (.cells #[.int .i64 E.at_, .int .i64 E.clock, .int .i64 E.v0, .int .i64 E.v1, .int .i64 E.v2, .int .i64 E.v3, .slice ga E.tab.length gc] 25)) = w9 at *
        generalize w8.heap.size = gb at *
        refine (node_begun w9).mono ?_
        rintro e wA ⟨rfl, hb⟩
        have k8A := k89.trans hb
        have HKA : Hid (Keeps w4 wA) := HK48.out.trans k8A
        have FA := HFB8.out.keep k8A
        have GA := G9.keep hb
        have XA := HX4.out.keep HKA.out
        have f0 := FA.c0
        have f1 := FA.c1
        have f2 := FA.c2
        have f3 := FA.c3
        have f4 := FA.c4
        have f5 := FA.c5
        have f6 := FA.c6
        have fl := FA.lt
        have x0 := XA.c0
        have x1 := XA.c1
        have x2 := XA.c2
        have x3 := XA.c3
        have x4 := XA.c4
        have x5 := XA.c5
        have x6 := XA.c6
        have xl := XA.lt
        have HS1 : Hid (∀ W, Keeps wA W → Calls Tryz.prog 11 #[stV E (.slice fa E.tab.length fc), stV E (.slice ea E.tab.length ec)] W fun e w' => e = .returned (.bool true) ∧ Keeps W w') := by
          intro W hk
          have := same_of E E (.slice fa E.tab.length fc) (.slice ea E.tab.length ec) W (HF8.out.keep (k8A.trans hk)) (HE4.out.keep (HKA.out.trans hk))
          rw [same_self] at this
          exact this
        have HS2 : Hid (∀ W, Keeps wA W → Calls Tryz.prog 11 #[stV E (.slice ga E.tab.length gc), stV E (.slice ea E.tab.length ec)] W fun e w' => e = .returned (.bool true) ∧ Keeps W w') := by
          intro W hk
          have := same_of E E (.slice ga E.tab.length gc) (.slice ea E.tab.length ec) W (HG8.out.keep (k8A.trans hk)) (HE4.out.keep (HKA.out.trans hk))
          rw [same_self] at this
          exact this
        have HGA := (show Hid _ from GA)
        have HXA := (show Hid _ from XA)
        clear hb k89 k8A FA GA XA G9 HFB8 HK48 HF8 HG8
        go_wp2_with fail
        refine (HS1.out wA (Keeps.refl _)).mono ?_
        rintro e wB ⟨rfl, hb⟩
        have GB := HGA.out.keep hb
        have XB := HXA.out.keep hb
        have HKB : Hid (Keeps wA wB) := hb
        clear hb f0 f1 f2 f3 f4 f5 f6 fl x0 x1 x2 x3 x4 x5 x6 xl
        have g0 := GB.c0
        have g1 := GB.c1
        have g2 := GB.c2
        have g3 := GB.c3
        have g4 := GB.c4
        have g5 := GB.c5
        have g6 := GB.c6
        have gl := GB.lt
        have x0 := XB.c0
        have x1 := XB.c1
        have x2 := XB.c2
        have x3 := XB.c3
        have x4 := XB.c4
        have x5 := XB.c5
        have x6 := XB.c6
        have xl := XB.lt
        clear GB XB
        go_wp2_with fail
        refine (HS2.out wB HKB.out).mono ?_
        rintro e wC ⟨rfl, hb⟩
        have HKC : Hid (Keeps w wC) := HK4.out.trans (HKA.out.trans (HKB.out.trans hb))
        clear hb g0 g1 g2 g3 g4 g5 g6 gl x0 x1 x2 x3 x4 x5 x6 xl
        go_wp2_with fail
        go_ret
        have hwo : wrap64 (o : Int) = o := by simp [wrap64]; omega
        exact ⟨by simp [hcd', hwo], HKC.out⟩
end Go.Proofs.YteabfjpajgakiaeGreat
