/- GrQr. -/
import Derived.Test.YteabfjpajgakiagGreatJ19
/- OWN: The reference's RunOf. -/
set_option linter.unusedSimpArgs false
set_option linter.unusedVariables false
set_option maxRecDepth 10000
namespace Go.Proofs.YteabfjpajgakiagGreat
open Go.RowKit

set_option maxHeartbeats 4000000 in
theorem run_own (l : Lg) (s : St) (n : Int) (x y : Value) (ta : Option Addr) (tc : Nat) (w : World) (hT : TabAt w x l.base.tab) (hL : EntsAt w (.slice ta l.tail.length tc) l.tail) (hY : TabAt w y s.tab) (hcap : l.tail.length ≤ tc) : Calls Tryz.prog 33 #[lgV l x (.slice ta l.tail.length tc), stV s y, .int .i64 n] w fun e w' => ∃ qa qc, OwnTab w.heap.size w' (.slice qa (runOut l s n).tab.length qc) (runOut l s n).tab ∧ e = .returned (.tuple #[stV (runOut l s n) (.slice qa (runOut l s n).tab.length qc), .int .i64 (runNum l s n), .int .i64 (runErr l s n)]) ∧ Keeps w w' := by
  obtain ⟨xa, xc, rfl, _⟩ := hT.len
  obtain ⟨ya, yc, rfl, _⟩ := hY.len
  have HT : Hid (TabAt w (.slice xa l.base.tab.length xc) l.base.tab) := hT
  have HL : Hid (EntsAt w (.slice ta l.tail.length tc) l.tail) := hL
  have HY : Hid (TabAt w (.slice ya s.tab.length yc) s.tab) := hY
  have hlen := hL.2.1
  unfold maxLen at hlen
  clear hT hL hY
  have HOZ : Hid ((runErr l s n == 0) = false → runOut l s n = zeroSt ∧ runNum l s n = 0) := fun h => ⟨by unfold runOut; rw [h]; rfl, by unfold runNum; rw [h]; rfl⟩
  have HON : Hid (runErr l s n = 0 → runOut l s n = runSt (runFrom l s) (runL l s n)) := fun h => by unfold runOut; rw [h]; rfl
  have HNN : Hid (runErr l s n = 0 → runNum l s n = runCnt l s n) := fun h => by unfold runNum; rw [h]; rfl
  have HZT : Hid (zeroSt.tab = []) := rfl
  have HE : Hid (runErr l s n = if nodeErr l s == 0 then (if inB n 0 50 then (if fitsB l s then 0 else 1) else 3) else nodeErr l s) := rfl
  go_enter Tryz.func33, Tryz.ntmps33
  go_wp2_with fail
  obtain ⟨W1, hW1⟩ : ∃ W1, W1 = ((w.alloc (.cells #[.int .i64 l.base.at_, .int .i64 l.base.clock, .int .i64 l.base.v0, .int .i64 l.base.v1, .int .i64 l.base.v2, .int .i64 l.base.v3, .slice xa l.base.tab.length xc, .slice ta l.tail.length tc] 28)).alloc (.cells #[.int .i64 s.at_, .int .i64 s.clock, .int .i64 s.v0, .int .i64 s.v1, .int .i64 s.v2, .int .i64 s.v3, .slice ya s.tab.length yc] 25)).alloc (.cells #[.int .i64 0, .int .i64 0, .int .i64 0, .int .i64 0, .int .i64 0, .int .i64 0, .slice none 0 0] 25) := ⟨_, rfl⟩
  have k1 : Keeps w W1 := by rw [hW1]; exact (((Keeps.refl _).alloc _).alloc _).alloc _
  have B1 : LgBox w.heap.size l (.slice xa l.base.tab.length xc) (.slice ta l.tail.length tc) W1 := by rw [hW1]; exact (LgBox.new w l _ _ rfl rfl 28).keep (((Keeps.refl _).alloc _).alloc _)
  have C1 : StBox (w.heap.size + 1) s (.slice ya s.tab.length yc) W1 := by
    rw [hW1]
    have := (StBox.new (w.alloc (.cells #[.int .i64 l.base.at_, .int .i64 l.base.clock, .int .i64 l.base.v0, .int .i64 l.base.v1, .int .i64 l.base.v2, .int .i64 l.base.v3, .slice xa l.base.tab.length xc, .slice ta l.tail.length tc] 28)) s (.slice ya s.tab.length yc) 25).keep ((Keeps.refl _).alloc (.cells #[.int .i64 0, .int .i64 0, .int .i64 0, .int .i64 0, .int .i64 0, .int .i64 0, .slice none 0 0] 25))
    simp only [World.size_alloc] at this
    exact this
  have Z1 : StBox (w.heap.size + 2) zeroSt (.slice none 0 0) W1 := by
    rw [hW1]
    have := StBox.new ((w.alloc (.cells #[.int .i64 l.base.at_, .int .i64 l.base.clock, .int .i64 l.base.v0, .int .i64 l.base.v1, .int .i64 l.base.v2, .int .i64 l.base.v3, .slice xa l.base.tab.length xc, .slice ta l.tail.length tc] 28)).alloc (.cells #[.int .i64 s.at_, .int .i64 s.clock, .int .i64 s.v0, .int .i64 s.v1, .int .i64 s.v2, .int .i64 s.v3, .slice ya s.tab.length yc] 25)) zeroSt (.slice none 0 0) 25
    simp only [World.size_alloc] at this
    exact this
  rw [← hW1]
  clear hW1
  have Z2 : StBox (w.heap.size + 1 + 1) zeroSt (.slice none 0 0) W1 := Z1
  clear Z1
  obtain ⟨zb, hzb⟩ : ∃ zb, zb = w.heap.size + 1 + 1 := ⟨_, rfl⟩
  rw [← hzb] at Z2 ⊢
  have HZB : Hid (zb = w.heap.size + 1 + 1) := hzb
  clear hzb
  refine (node_error l s _ _ ta tc W1 (HT.out.keep k1) (HL.out.keep k1) (HY.out.keep k1)).mono ?_
  rintro e w1 ⟨rfl, hb⟩
  have HKK : Hid (Keeps w w1) := k1.trans hb
  have HB1 := (show Hid _ from B1.keep hb)
  have HC1 := (show Hid _ from C1.keep hb)
  have HZK := (show Hid _ from Z2.keep hb)
  clear k1 B1 C1 Z2 hb
  clear W1
  cases q1 : (nodeErr l s == 0) with
  | false =>
    have q1' : (nodeErr l s != 0) = true := by simp [bne, q1]
    have HE2 : Hid (runErr l s n = nodeErr l s) := by show _ = _; rw [HE.out, q1]; rfl
    have H1 := (show Hid _ from HOZ.out (by rw [HE2.out]; exact q1))
    have z0 := HZK.out.c0
    have z1 := HZK.out.c1
    have z2 := HZK.out.c2
    have z3 := HZK.out.c3
    have z4 := HZK.out.c4
    have z5 := HZK.out.c5
    have z6 := HZK.out.c6
    have zf := HZK.out.fz
    have zl := HZK.out.lt
    have hk := HKK.out
    go_wp2_with fail
    refine bodyPost_ret (v := .tuple #[stV zeroSt (.slice none 0 0), .int .i64 0, .int .i64 (nodeErr l s)]) ?_ rfl ?_
    · simp [results, Tryz.results33, go_sem, zeroSt, z0, z1, z2, z3, z4, z5, z6]
    · have hzz := HZB.out
      rw [HE2.out, H1.out.1, H1.out.2, HZT.out]
      refine ⟨none, 0, OwnTab.nil _ _, rfl, ?_⟩
      repeat refine Keeps.set ?_ (by simp <;> omega) _
      exact hk
  | true =>
    have q1' : (nodeErr l s != 0) = false := by simp [bne, q1]
    have q0 : nodeErr l s = 0 := by simpa using q1
    have HNR := (show Hid _ from node_right q0)
    clear q0
    cases q2 : inB n 0 50 with
    | false =>
      have HE2 : Hid (runErr l s n = 3) := by show _ = _; rw [HE.out, q1, q2]; rfl
      have H1 := (show Hid _ from HOZ.out (by rw [HE2.out]; rfl))
      have z0 := HZK.out.c0
      have z1 := HZK.out.c1
      have z2 := HZK.out.c2
      have z3 := HZK.out.c3
      have z4 := HZK.out.c4
      have z5 := HZK.out.c5
      have z6 := HZK.out.c6
      have zf := HZK.out.fz
      have zl := HZK.out.lt
      have hk := HKK.out
      go_wp2_with (first | (go_at_call 32; refine (within_c _ _ _ _).mono ?_; rintro x w' ⟨rfl, rfl⟩))
      refine bodyPost_ret (v := .tuple #[stV zeroSt (.slice none 0 0), .int .i64 0, .int .i64 3]) ?_ rfl ?_
      · simp [results, Tryz.results33, go_sem, zeroSt, z0, z1, z2, z3, z4, z5, z6]
      · have hzz := HZB.out
        rw [HE2.out, H1.out.1, H1.out.2, HZT.out]
        refine ⟨none, 0, OwnTab.nil _ _, rfl, ?_⟩
        repeat refine Keeps.set ?_ (by simp <;> omega) _
        exact hk
    | true =>
      obtain ⟨m, rfl⟩ : ∃ m : Nat, n = m := ⟨n.toNat, by have := inB_iff.1 q2; omega⟩
      have hm50 : m ≤ 50 := by have := inB_iff.1 q2; omega
      have b0 := HB1.out.c0
      have b1 := HB1.out.c1
      have b2 := HB1.out.c2
      have b3 := HB1.out.c3
      have b4 := HB1.out.c4
      have b5 := HB1.out.c5
      have b6 := HB1.out.c6
      have b7 := HB1.out.c7
      have bl := HB1.out.lt
      have c0 := HC1.out.c0
      have c1 := HC1.out.c1
      have c2 := HC1.out.c2
      have c3 := HC1.out.c3
      have c4 := HC1.out.c4
      have c5 := HC1.out.c5
      have c6 := HC1.out.c6
      have cl := HC1.out.lt
      go_wp2_with (first | (go_at_call 32; refine (within_c _ _ _ _).mono ?_; rintro x w' ⟨rfl, rfl⟩))
      clear b0 b1 b2 b3 b4 b5 b6 b7 bl c0 c1 c2 c3 c4 c5 c6 cl
      refine (fits_ref l s _ _ ta tc w1 (HT.out.keep HKK.out) (HL.out.keep HKK.out) (HY.out.keep HKK.out) HNR.out.1 HNR.out.2 hcap).mono ?_
      rintro e w2 ⟨rfl, hb⟩
      have HK2 : Hid (Keeps w w2) := HKK.out.trans hb
      have HB2 := (show Hid _ from HB1.out.keep hb)
      have HC2 := (show Hid _ from HC1.out.keep hb)
      have HZ2 := (show Hid _ from HZK.out.keep hb)
      clear hb HB1 HC1 HZK HKK
      clear w1
      cases q3 : fitsB l s with
      | false =>
        have HE2 : Hid (runErr l s m = 1) := by show _ = _; rw [HE.out, q1, q2, q3]; rfl
        have HKK := HK2
        have HZK := HZ2
        have H1 := (show Hid _ from HOZ.out (by rw [HE2.out]; rfl))
        have z0 := HZK.out.c0
        have z1 := HZK.out.c1
        have z2 := HZK.out.c2
        have z3 := HZK.out.c3
        have z4 := HZK.out.c4
        have z5 := HZK.out.c5
        have z6 := HZK.out.c6
        have zf := HZK.out.fz
        have zl := HZK.out.lt
        have hk := HKK.out
        go_wp2_with fail
        refine bodyPost_ret (v := .tuple #[stV zeroSt (.slice none 0 0), .int .i64 0, .int .i64 1]) ?_ rfl ?_
        · simp [results, Tryz.results33, go_sem, zeroSt, z0, z1, z2, z3, z4, z5, z6]
        · have hzz := HZB.out
          rw [HE2.out, H1.out.1, H1.out.2, HZT.out]
          refine ⟨none, 0, OwnTab.nil _ _, rfl, ?_⟩
          repeat refine Keeps.set ?_ (by simp <;> omega) _
          exact hk
      | true =>
        have HR0 : Hid (runErr l s m = 0) := by show _ = _; rw [HE.out, q1, q2, q3]; rfl
        obtain ⟨⟨sa0, sa1⟩, _⟩ := stErr_bounds HNR.out.2
        obtain ⟨⟨la0, la1⟩, _⟩ := stErr_bounds (fold_right HNR.out.1).1
        by_cases h1 : s.at_ < l.base.at_
        · have hfrom : runFrom l s = l.base := by unfold runFrom; rw [if_pos h1]
          have HTT : Hid (TabAt w (.slice xa l.base.tab.length xc) l.base.tab) := HT.out
          obtain ⟨lo, hlo⟩ : ∃ lo : Nat, lo = runLo l s := ⟨_, rfl⟩
          obtain ⟨hf0, hf1, hf2, hf3⟩ := run_fold HR0.out
          have hls : l.base.at_ - l.base.at_ = (lo : Int) := by rw [hlo, ← hf1, hfrom]
          have hll : lo ≤ l.tail.length := by omega
          obtain ⟨k, hk'⟩ : ∃ k : Nat, k = min m (l.tail.length - lo) := ⟨_, rfl⟩
          have hkl : k ≤ l.tail.length - lo := by omega
          obtain ⟨r, hr'⟩ : ∃ r, r = runSt l.base ((l.tail.drop lo).take k) := ⟨_, rfl⟩
          have hcnt : runCnt l s m = k := by unfold runCnt; rw [← hlo, hk']; simp
          have HOUT : Hid (runOut l s m = r) := by
            show _ = _
            rw [HON.out HR0.out]
            unfold runL
            rw [hcnt, ← hlo, hfrom, hr']
          have HNUM : Hid (runNum l s m = k) := by show _ = _; rw [HNN.out HR0.out, hcnt]
          have h0 : foldErr l.base ((l.tail.drop lo).take k) = 0 := by
            have := hf0
            unfold runL at this
            rw [hcnt, ← hlo, hfrom] at this
            exact this
          have hfr := fold_right h0
          have hlk : ((l.tail.drop lo).take k).length = k := by simp; omega
          have HCG : Hid (∀ W, Keeps w W → Calls Tryz.prog 39 #[stV l.base (.slice xa l.base.tab.length xc), .slice (if tc = lo then ta else Option.map (fun x : Addr => x.add (lo * 9)) ta) k (tc - lo)] W fun y w' => ∃ qa qc ra rc da dc, Hid (OwnTab W.heap.size w' (.slice qa r.tab.length qc) r.tab) ∧ y = .returned (.tuple #[stV r (.slice qa r.tab.length qc), .slice ra k rc, .slice da k dc]) ∧ Keeps W w') := by
            intro W hk
            have h1 := ents_suffix (HL.out.keep hk) hll hcap
            have e1 : l.tail.length - lo = (l.tail.drop lo).length := by simp
            rw [e1] at h1
            rw [hr']
            refine (folded_c l.base ((l.tail.drop lo).take k) _ _ W (HTT.out.keep hk) (ents_prefix h1 (by rw [← e1]; exact hkl)) hfr.1 hfr.2.1 hfr.2.2).mono ?_
            rintro y w' ⟨qa, qc, ra, rc, da, dc, h1, _, _, rfl, hb⟩
            rw [hlk]
            exact ⟨qa, qc, ra, rc, da, dc, h1, rfl, hb⟩
          have hz9 : ∀ w, (Go.sizeOf 35).run Tryz.prog w = .ok 9 w := fun _ => by kernel_rfl
          have hlo0 : lo = 0 := by omega
          subst hlo0
          have hm3 : min (l.tail.length : Int) (m : Int) = (k : Int) := by omega
          have hkk2 : (k : Int) ≤ (l.tail.length : Int) := by omega
          have hkc1 : (k : Int) ≤ (tc : Int) := by omega
          have HC : Hid (∀ W, Keeps w W → Calls Tryz.prog 39 #[stV l.base (.slice xa l.base.tab.length xc), .slice ta k tc] W fun y w' => ∃ qa qc ra rc da dc, Hid (OwnTab W.heap.size w' (.slice qa r.tab.length qc) r.tab) ∧ y = .returned (.tuple #[stV r (.slice qa r.tab.length qc), .slice ra k rc, .slice da k dc]) ∧ Keeps W w') := by
            have := HCG.out
            have e1 : (if tc = 0 then ta else Option.map (fun x : Addr => x.add (0 * 9)) ta) = ta := by
              split
              · rfl
              · cases ta <;> simp [Addr.add]
            rw [e1, Nat.sub_zero] at this
            exact this
          clear HCG hr' hcnt hf0 hf1 hf2 hf3 hfrom hlo h0 hk' hls hll hfr hlk
          have b0 := HB2.out.c0
          have b1 := HB2.out.c1
          have b2 := HB2.out.c2
          have b3 := HB2.out.c3
          have b4 := HB2.out.c4
          have b5 := HB2.out.c5
          have b6 := HB2.out.c6
          have b7 := HB2.out.c7
          have bl := HB2.out.lt
          have c0 := HC2.out.c0
          have c1 := HC2.out.c1
          have c2 := HC2.out.c2
          have c3 := HC2.out.c3
          have c4 := HC2.out.c4
          have c5 := HC2.out.c5
          have c6 := HC2.out.c6
          have cl := HC2.out.lt
          have cf := HC2.out.fz
          have HBT0 := (show Hid _ from But.puts (b := w.heap.size + 1) w2 l.base (.slice xa l.base.tab.length xc))
          have HD3 := (show Hid _ from HC2.out.put l.base (.slice xa l.base.tab.length xc))
          go_wp2_with fail
          clear b0 b1 b2 b3 b4 b5 b6 b7 bl c0 c1 c2 c3 c4 c5 c6 cl cf
          obtain ⟨W2, hW2⟩ : ∃ z, z = (((((((w2.setCell ⟨w.heap.size + 1, 0, none⟩ (.int .i64 l.base.at_)).setCell ⟨w.heap.size + 1, 1, none⟩ (.int .i64 l.base.clock)).setCell ⟨w.heap.size + 1, 2, none⟩ (.int .i64 l.base.v0)).setCell ⟨w.heap.size + 1, 3, none⟩ (.int .i64 l.base.v1)).setCell ⟨w.heap.size + 1, 4, none⟩ (.int .i64 l.base.v2)).setCell ⟨w.heap.size + 1, 5, none⟩ (.int .i64 l.base.v3)).setCell ⟨w.heap.size + 1, 6, none⟩ (.slice xa l.base.tab.length xc)) := ⟨_, rfl⟩
          have HK3 : Hid (Keeps w W2) := by rw [hW2]; exact But.to HK2.out (by omega) HBT0.out
          have HZ3 : Hid (StBox zb zeroSt (.slice none 0 0) W2) := by rw [hW2]; exact HZ2.out.other HBT0.out (by have := HZB.out; omega)
          have HB3 : Hid (LgBox w.heap.size l (.slice xa l.base.tab.length xc) (.slice ta l.tail.length tc) W2) := by rw [hW2]; exact HB2.out.other HBT0.out (by omega)
          have HC3 : Hid (StBox (w.heap.size + 1) l.base (.slice xa l.base.tab.length xc) W2) := by rw [hW2]; exact HD3.out
          rw [← hW2]
          clear hW2 HBT0 HD3
          have HSA : Hid (∀ W, Keeps W2 W → W.cell? ⟨w.heap.size, 0, none⟩ = some (.int .i64 l.base.at_) ∧ W.cell? ⟨w.heap.size, 1, none⟩ = some (.int .i64 l.base.clock) ∧ W.cell? ⟨w.heap.size, 2, none⟩ = some (.int .i64 l.base.v0) ∧ W.cell? ⟨w.heap.size, 3, none⟩ = some (.int .i64 l.base.v1) ∧ W.cell? ⟨w.heap.size, 4, none⟩ = some (.int .i64 l.base.v2) ∧ W.cell? ⟨w.heap.size, 5, none⟩ = some (.int .i64 l.base.v3) ∧ W.cell? ⟨w.heap.size, 6, none⟩ = some (.slice xa l.base.tab.length xc) ∧ W.cell? ⟨w.heap.size, 7, none⟩ = some (.slice ta l.tail.length tc) ∧ W.cell? ⟨w.heap.size + 1, 0, none⟩ = some (.int .i64 l.base.at_) ∧ W.cell? ⟨w.heap.size + 1, 1, none⟩ = some (.int .i64 l.base.clock) ∧ W.cell? ⟨w.heap.size + 1, 2, none⟩ = some (.int .i64 l.base.v0) ∧ W.cell? ⟨w.heap.size + 1, 3, none⟩ = some (.int .i64 l.base.v1) ∧ W.cell? ⟨w.heap.size + 1, 4, none⟩ = some (.int .i64 l.base.v2) ∧ W.cell? ⟨w.heap.size + 1, 5, none⟩ = some (.int .i64 l.base.v3) ∧ W.cell? ⟨w.heap.size + 1, 6, none⟩ = some (.slice xa l.base.tab.length xc)) := fun W hk => have B := HB3.out.keep hk; have C := HC3.out.keep hk; ⟨B.c0, B.c1, B.c2, B.c3, B.c4, B.c5, B.c6, B.c7, C.c0, C.c1, C.c2, C.c3, C.c4, C.c5, C.c6⟩
          go_cut [12] (fun p wc => ∃ qb qa qc, p = .pointer (some ⟨qb, 0, none⟩) ∧ StBox qb r (.slice qa r.tab.length qc) wc ∧ OwnTab W2.heap.size wc (.slice qa r.tab.length qc) r.tab ∧ Keeps W2 wc)
          case first =>
            obtain ⟨V0, hV0⟩ : ∃ z, z = W2.drew := ⟨_, rfl⟩
            have k0 : Keeps W2 V0 := by rw [hV0]; exact (Keeps.refl _).drew
            refine wp_region_held_drew (S := fun W => W.cell? ⟨w.heap.size, 0, none⟩ = some (.int .i64 l.base.at_) ∧ W.cell? ⟨w.heap.size, 1, none⟩ = some (.int .i64 l.base.clock) ∧ W.cell? ⟨w.heap.size, 2, none⟩ = some (.int .i64 l.base.v0) ∧ W.cell? ⟨w.heap.size, 3, none⟩ = some (.int .i64 l.base.v1) ∧ W.cell? ⟨w.heap.size, 4, none⟩ = some (.int .i64 l.base.v2) ∧ W.cell? ⟨w.heap.size, 5, none⟩ = some (.int .i64 l.base.v3) ∧ W.cell? ⟨w.heap.size, 6, none⟩ = some (.slice xa l.base.tab.length xc) ∧ W.cell? ⟨w.heap.size, 7, none⟩ = some (.slice ta l.tail.length tc) ∧ W.cell? ⟨w.heap.size + 1, 0, none⟩ = some (.int .i64 l.base.at_) ∧ W.cell? ⟨w.heap.size + 1, 1, none⟩ = some (.int .i64 l.base.clock) ∧ W.cell? ⟨w.heap.size + 1, 2, none⟩ = some (.int .i64 l.base.v0) ∧ W.cell? ⟨w.heap.size + 1, 3, none⟩ = some (.int .i64 l.base.v1) ∧ W.cell? ⟨w.heap.size + 1, 4, none⟩ = some (.int .i64 l.base.v2) ∧ W.cell? ⟨w.heap.size + 1, 5, none⟩ = some (.int .i64 l.base.v3) ∧ W.cell? ⟨w.heap.size + 1, 6, none⟩ = some (.slice xa l.base.tab.length xc)) (by kernel_rfl) (HSA.out _ (Keeps.refl _).drew) (fun hS => ?_)
            rw [← hV0] at hS ⊢
            clear hV0
            refine wpAnyH_take (i := 0) (v := stV l.base (.slice xa l.base.tab.length xc)) rfl (by kernel_rfl) (by kernel_rfl) (by kernel_rfl) (fun _ _ _ h => h) (Or.inl ⟨by rfl, ?_⟩) hS ?_
            · intro w hS; go_simp
            refine wpAnyH_take (i := 1) (v := .pointer (some ⟨w.heap.size, 7, none⟩)) rfl (by kernel_rfl) (by kernel_rfl) (by kernel_rfl) (fun _ _ _ h => h) (Or.inl ⟨by rfl, ?_⟩) hS ?_
            · intro w hS; go_simp
            refine wpAnyH_take (i := 2) (v := .slice ta l.tail.length tc) rfl (by kernel_rfl) (by kernel_rfl) (by kernel_rfl) (fun _ _ _ h => h) (Or.inl ⟨by rfl, ?_⟩) hS ?_
            · intro w hS; go_simp
            refine wpAnyH_take (i := 3) (v := .int .i64 0) rfl (by kernel_rfl) (by kernel_rfl) (by kernel_rfl) (fun _ _ _ h => h) (Or.inl ⟨by rfl, ?_⟩) hS ?_
            · intro w hS; go_simp
            refine wpAnyH_take (i := 4) (v := .int .i64 k) rfl (by kernel_rfl) (by kernel_rfl) (by kernel_rfl) (fun _ _ _ h => h) (Or.inl ⟨by rfl, ?_⟩) hS ?_
            · intro w hS; go_simp
            refine wpAnyH_take (i := 5) (v := .slice (if tc = 0 then ta else Option.map (fun x : Addr => x.add 0) ta) k tc) rfl (by kernel_rfl) (by kernel_rfl) (by kernel_rfl) (fun _ _ _ h => h) (Or.inl ⟨by rfl, ?_⟩) hS ?_
            · intro w hS; go_simp
            refine wpAnyH_ready (rs := [6, 11]) (by kernel_rfl) (by simp) ?_
            refine AllReadyH.cons rfl (fun K hK => ?_) (AllReadyH.cons rfl (fun K hK => ?_) (AllReadyH.nil))
            · go_simp
              refine (HC.out V0 (HK3.out.trans k0)).mono ?_
              rintro y V1 ⟨qa, qc, ra, rc, da, dc, HO1, rfl, hb⟩
              have k1 := k0.trans hb
              go_simp
              refine hK.out _ _ (HSA.out _ k1) (fun hS => ?_)
              clear hK K
              clear hb
              refine wpAnyH_take (i := 7) (v := .tuple #[stV r (.slice qa r.tab.length qc), .slice ra k rc, .slice da k dc]) rfl (by kernel_rfl) (by kernel_rfl) (by kernel_rfl) (fun _ _ _ h => h) (Or.inl ⟨by rfl, ?_⟩) hS ?_
              · intro w hS; go_simp
              refine wpAnyH_take (i := 8) (v := stV r (.slice qa r.tab.length qc)) rfl (by kernel_rfl) (by kernel_rfl) (by kernel_rfl) (fun _ _ _ h => h) (Or.inl ⟨by rfl, ?_⟩) hS ?_
              · intro w hS; go_simp
              refine wpAnyH_take (i := 9) (v := .slice ra k rc) rfl (by kernel_rfl) (by kernel_rfl) (by kernel_rfl) (fun _ _ _ h => h) (Or.inl ⟨by rfl, ?_⟩) hS ?_
              · intro w hS; go_simp
              refine wpAnyH_take (i := 10) (v := .slice da k dc) rfl (by kernel_rfl) (by kernel_rfl) (by kernel_rfl) (fun _ _ _ h => h) (Or.inl ⟨by rfl, ?_⟩) hS ?_
              · intro w hS; go_simp
              refine wpAnyH_ready (rs := [11]) (by kernel_rfl) (by simp) ?_
              refine AllReadyH.cons rfl (fun K hK => ?_) (AllReadyH.nil)
              go_simp
              have hb : Keeps V1 (V1.alloc (.cells #[.int .i64 0, .int .i64 0, .int .i64 0, .int .i64 0, .int .i64 0, .int .i64 0, .slice none 0 0] 25)) := (Keeps.refl _).alloc _
              have HQ2 : Hid (StBox V1.heap.size zeroSt (.slice none 0 0) (V1.alloc (.cells #[.int .i64 0, .int .i64 0, .int .i64 0, .int .i64 0, .int .i64 0, .int .i64 0, .slice none 0 0] 25))) := StBox.new V1 zeroSt (.slice none 0 0) 25
              generalize V1.alloc (.cells #[.int .i64 0, .int .i64 0, .int .i64 0, .int .i64 0, .int .i64 0, .int .i64 0, .slice none 0 0] 25) = V2 at *
              have k2 := k1.trans hb
              refine hK.out _ _ (HSA.out _ k2) (fun hS => ?_)
              clear hK K
              have HTF : Hid (∀ WF, But V1.heap.size V2 WF → OwnTab W2.heap.size WF (.slice qa r.tab.length qc) r.tab) := fun WF hF => (HO1.out.keep (But.to hb (Nat.le_refl _) hF)).base k0.size
              clear hb
              refine wpAnyH_ready (rs := [12]) (by kernel_rfl) (by simp) ?_
              refine AllReadyH.cons rfl (fun K hK => ?_) (AllReadyH.nil)
              have z0 := HQ2.out.c0
              have z1 := HQ2.out.c1
              have z2 := HQ2.out.c2
              have z3 := HQ2.out.c3
              have z4 := HQ2.out.c4
              have z5 := HQ2.out.c5
              have z6 := HQ2.out.c6
              have zf := HQ2.out.fz
              have zl := HQ2.out.lt
              go_simp
              have BP := HQ2.out.put r (.slice qa r.tab.length qc)
              have BT := But.puts (b := V1.heap.size) V2 r (.slice qa r.tab.length qc)
              have KF := But.to k2 k1.size BT
              have HTE := HTF.out _ BT
              obtain ⟨WF, hWF⟩ : ∃ z, z = (((((((V2.setCell ⟨V1.heap.size, 0, none⟩ (.int .i64 r.at_)).setCell ⟨V1.heap.size, 1, none⟩ (.int .i64 r.clock)).setCell ⟨V1.heap.size, 2, none⟩ (.int .i64 r.v0)).setCell ⟨V1.heap.size, 3, none⟩ (.int .i64 r.v1)).setCell ⟨V1.heap.size, 4, none⟩ (.int .i64 r.v2)).setCell ⟨V1.heap.size, 5, none⟩ (.int .i64 r.v3)).setCell ⟨V1.heap.size, 6, none⟩ (.slice qa r.tab.length qc)) := ⟨_, rfl⟩
              rw [← hWF] at BP BT KF HTE ⊢
              clear hWF z0 z1 z2 z3 z4 z5 z6 zf zl
              refine hK.out _ _ (HSA.out _ KF) (fun hS => ?_)
              clear hK K
              refine wpAnyH_take (i := 13) (v := .slice ra k rc) rfl (by kernel_rfl) (by kernel_rfl) (by kernel_rfl) (fun _ _ _ h => h) (Or.inl ⟨by rfl, ?_⟩) hS ?_
              · intro w hS; go_simp
              refine wpAnyH_take (i := 14) (v := .slice da k dc) rfl (by kernel_rfl) (by kernel_rfl) (by kernel_rfl) (fun _ _ _ h => h) (Or.inl ⟨by rfl, ?_⟩) hS ?_
              · intro w hS; go_simp
              refine wpAnyH_done (by kernel_rfl) ?_ _
              go_wp2_with fail
              go_meet
              exact ⟨_, _, _, rfl, BP, HTE, KF⟩
            · go_simp
              have hb : Keeps V0 (V0.alloc (.cells #[.int .i64 0, .int .i64 0, .int .i64 0, .int .i64 0, .int .i64 0, .int .i64 0, .slice none 0 0] 25)) := (Keeps.refl _).alloc _
              have HQ1 : Hid (StBox V0.heap.size zeroSt (.slice none 0 0) (V0.alloc (.cells #[.int .i64 0, .int .i64 0, .int .i64 0, .int .i64 0, .int .i64 0, .int .i64 0, .slice none 0 0] 25))) := StBox.new V0 zeroSt (.slice none 0 0) 25
              generalize V0.alloc (.cells #[.int .i64 0, .int .i64 0, .int .i64 0, .int .i64 0, .int .i64 0, .int .i64 0, .slice none 0 0] 25) = V1 at *
              have k1 := k0.trans hb
              refine hK.out _ _ (HSA.out _ k1) (fun hS => ?_)
              clear hK K
              clear hb
              refine wpAnyH_ready (rs := [6]) (by kernel_rfl) (by simp) ?_
              refine AllReadyH.cons rfl (fun K hK => ?_) (AllReadyH.nil)
              go_simp
              refine (HC.out V1 (HK3.out.trans k1)).mono ?_
              rintro y V2 ⟨qa, qc, ra, rc, da, dc, HO2, rfl, hb⟩
              have k2 := k1.trans hb
              go_simp
              refine hK.out _ _ (HSA.out _ k2) (fun hS => ?_)
              clear hK K
              have HQ2 : Hid (StBox V0.heap.size zeroSt (.slice none 0 0) V2) := HQ1.out.keep hb
              have HTF : Hid (∀ WF, But V0.heap.size V2 WF → OwnTab W2.heap.size WF (.slice qa r.tab.length qc) r.tab) := fun WF hF => (HO2.out.but (by have := HQ1.out.lt; omega) hF).base (by have := k1.size; omega)
              clear hb
              refine wpAnyH_take (i := 7) (v := .tuple #[stV r (.slice qa r.tab.length qc), .slice ra k rc, .slice da k dc]) rfl (by kernel_rfl) (by kernel_rfl) (by kernel_rfl) (fun _ _ _ h => h) (Or.inl ⟨by rfl, ?_⟩) hS ?_
              · intro w hS; go_simp
              refine wpAnyH_take (i := 8) (v := stV r (.slice qa r.tab.length qc)) rfl (by kernel_rfl) (by kernel_rfl) (by kernel_rfl) (fun _ _ _ h => h) (Or.inl ⟨by rfl, ?_⟩) hS ?_
              · intro w hS; go_simp
              refine wpAnyH_take (i := 9) (v := .slice ra k rc) rfl (by kernel_rfl) (by kernel_rfl) (by kernel_rfl) (fun _ _ _ h => h) (Or.inl ⟨by rfl, ?_⟩) hS ?_
              · intro w hS; go_simp
              refine wpAnyH_take (i := 10) (v := .slice da k dc) rfl (by kernel_rfl) (by kernel_rfl) (by kernel_rfl) (fun _ _ _ h => h) (Or.inl ⟨by rfl, ?_⟩) hS ?_
              · intro w hS; go_simp
              refine wpAnyH_ready (rs := [12]) (by kernel_rfl) (by simp) ?_
              refine AllReadyH.cons rfl (fun K hK => ?_) (AllReadyH.nil)
              have z0 := HQ2.out.c0
              have z1 := HQ2.out.c1
              have z2 := HQ2.out.c2
              have z3 := HQ2.out.c3
              have z4 := HQ2.out.c4
              have z5 := HQ2.out.c5
              have z6 := HQ2.out.c6
              have zf := HQ2.out.fz
              have zl := HQ2.out.lt
              go_simp
              have BP := HQ2.out.put r (.slice qa r.tab.length qc)
              have BT := But.puts (b := V0.heap.size) V2 r (.slice qa r.tab.length qc)
              have KF := But.to k2 k0.size BT
              have HTE := HTF.out _ BT
              obtain ⟨WF, hWF⟩ : ∃ z, z = (((((((V2.setCell ⟨V0.heap.size, 0, none⟩ (.int .i64 r.at_)).setCell ⟨V0.heap.size, 1, none⟩ (.int .i64 r.clock)).setCell ⟨V0.heap.size, 2, none⟩ (.int .i64 r.v0)).setCell ⟨V0.heap.size, 3, none⟩ (.int .i64 r.v1)).setCell ⟨V0.heap.size, 4, none⟩ (.int .i64 r.v2)).setCell ⟨V0.heap.size, 5, none⟩ (.int .i64 r.v3)).setCell ⟨V0.heap.size, 6, none⟩ (.slice qa r.tab.length qc)) := ⟨_, rfl⟩
              rw [← hWF] at BP BT KF HTE ⊢
              clear hWF z0 z1 z2 z3 z4 z5 z6 zf zl
              refine hK.out _ _ (HSA.out _ KF) (fun hS => ?_)
              clear hK K
              refine wpAnyH_take (i := 13) (v := .slice ra k rc) rfl (by kernel_rfl) (by kernel_rfl) (by kernel_rfl) (fun _ _ _ h => h) (Or.inl ⟨by rfl, ?_⟩) hS ?_
              · intro w hS; go_simp
              refine wpAnyH_take (i := 14) (v := .slice da k dc) rfl (by kernel_rfl) (by kernel_rfl) (by kernel_rfl) (fun _ _ _ h => h) (Or.inl ⟨by rfl, ?_⟩) hS ?_
              · intro w hS; go_simp
              refine wpAnyH_done (by kernel_rfl) ?_ _
              go_wp2_with fail
              go_meet
              exact ⟨_, _, _, rfl, BP, HTE, KF⟩
          case rest =>
            obtain ⟨qb, qa, qc, rfl, hQ, hO, hkc⟩ := hcut
            obtain ⟨w3, hw3⟩ : ∃ z, z = wc := ⟨_, rfl⟩
            rw [← hw3] at hQ hO hkc ⊢
            clear hw3
            have HZ4 : Hid (StBox zb zeroSt (.slice none 0 0) w3) := HZ3.out.keep hkc
            have HK4 : Hid (Keeps w w3) := HK3.out.trans hkc
            have hsz := HZ3.out.lt
            have hzz := HZB.out
            have q0 := hQ.c0
            have q1 := hQ.c1
            have q2 := hQ.c2
            have q3 := hQ.c3
            have q4 := hQ.c4
            have q5 := hQ.c5
            have q6 := hQ.c6
            have ql := hQ.lt
            have z0 := HZ4.out.c0
            have z1 := HZ4.out.c1
            have z2 := HZ4.out.c2
            have z3 := HZ4.out.c3
            have z4 := HZ4.out.c4
            have z5 := HZ4.out.c5
            have z6 := HZ4.out.c6
            have zf := HZ4.out.fz
            have zl := HZ4.out.lt
            have HBT := (show Hid _ from But.puts (b := zb) w3 r (.slice qa r.tab.length qc))
            have HBF := (show Hid _ from HZ4.out.put r (.slice qa r.tab.length qc))
            have HOF := (show Hid _ from (hO.but (by omega) HBT.out).base HK3.out.size)
            have HKF := (show Hid _ from But.to HK4.out (by omega) HBT.out)
            clear hzz hsz hQ hO hkc HSA HC HZ3 HK3
            go_wp2_with fail
            have c0 := HBF.out.c0
            have c1 := HBF.out.c1
            have c2 := HBF.out.c2
            have c3 := HBF.out.c3
            have c4 := HBF.out.c4
            have c5 := HBF.out.c5
            have c6 := HBF.out.c6
            refine bodyPost_ret (v := .tuple #[stV r (.slice qa r.tab.length qc), .int .i64 k, .int .i64 0]) ?_ rfl ?_
            · simp only [results, Tryz.results33, go_sem, c0, c1, c2, c3, c4, c5, c6]
              simp [go_sem, c0, c1, c2, c3, c4, c5, c6]
            · rw [HOUT.out, HNUM.out, HR0.out]
              exact ⟨qa, qc, HOF.out, rfl, HKF.out⟩
        · have hfrom : runFrom l s = s := by unfold runFrom; rw [if_neg h1]
          have HTT : Hid (TabAt w (.slice ya s.tab.length yc) s.tab) := HY.out
          obtain ⟨lo, hlo⟩ : ∃ lo : Nat, lo = runLo l s := ⟨_, rfl⟩
          obtain ⟨hf0, hf1, hf2, hf3⟩ := run_fold HR0.out
          have hls : s.at_ - l.base.at_ = (lo : Int) := by rw [hlo, ← hf1, hfrom]
          have hll : lo ≤ l.tail.length := by omega
          obtain ⟨k, hk'⟩ : ∃ k : Nat, k = min m (l.tail.length - lo) := ⟨_, rfl⟩
          have hkl : k ≤ l.tail.length - lo := by omega
          obtain ⟨r, hr'⟩ : ∃ r, r = runSt s ((l.tail.drop lo).take k) := ⟨_, rfl⟩
          have hcnt : runCnt l s m = k := by unfold runCnt; rw [← hlo, hk']; simp
          have HOUT : Hid (runOut l s m = r) := by
            show _ = _
            rw [HON.out HR0.out]
            unfold runL
            rw [hcnt, ← hlo, hfrom, hr']
          have HNUM : Hid (runNum l s m = k) := by show _ = _; rw [HNN.out HR0.out, hcnt]
          have h0 : foldErr s ((l.tail.drop lo).take k) = 0 := by
            have := hf0
            unfold runL at this
            rw [hcnt, ← hlo, hfrom] at this
            exact this
          have hfr := fold_right h0
          have hlk : ((l.tail.drop lo).take k).length = k := by simp; omega
          have HCG : Hid (∀ W, Keeps w W → Calls Tryz.prog 39 #[stV s (.slice ya s.tab.length yc), .slice (if tc = lo then ta else Option.map (fun x : Addr => x.add (lo * 9)) ta) k (tc - lo)] W fun y w' => ∃ qa qc ra rc da dc, Hid (OwnTab W.heap.size w' (.slice qa r.tab.length qc) r.tab) ∧ y = .returned (.tuple #[stV r (.slice qa r.tab.length qc), .slice ra k rc, .slice da k dc]) ∧ Keeps W w') := by
            intro W hk
            have h1 := ents_suffix (HL.out.keep hk) hll hcap
            have e1 : l.tail.length - lo = (l.tail.drop lo).length := by simp
            rw [e1] at h1
            rw [hr']
            refine (folded_c s ((l.tail.drop lo).take k) _ _ W (HTT.out.keep hk) (ents_prefix h1 (by rw [← e1]; exact hkl)) hfr.1 hfr.2.1 hfr.2.2).mono ?_
            rintro y w' ⟨qa, qc, ra, rc, da, dc, h1, _, _, rfl, hb⟩
            rw [hlk]
            exact ⟨qa, qc, ra, rc, da, dc, h1, rfl, hb⟩
          have hz9 : ∀ w, (Go.sizeOf 35).run Tryz.prog w = .ok 9 w := fun _ => by kernel_rfl
          obtain ⟨hi, hhi⟩ : ∃ hi : Nat, hi = lo + k := ⟨_, rfl⟩
          have hm3 : min (l.tail.length : Int) ((lo : Int) + (m : Int)) = (hi : Int) := by omega
          have hlh : (lo : Int) ≤ (hi : Int) := by omega
          have hhc : (hi : Int) ≤ (tc : Int) := by omega
          have hhl : (hi : Int) ≤ (l.tail.length : Int) := by omega
          have hsub : (hi : Int) - (lo : Int) = (k : Int) := by omega
          have hsub2 : hi - lo = k := by omega
          have hlo50 : lo ≤ 50 := by omega
          obtain ⟨sv, hsv⟩ : ∃ sv, sv = (if tc = lo then ta else Option.map (fun x : Addr => x.add (lo * 9)) ta) := ⟨_, rfl⟩
          have HSV : Hid (sv = (if tc = lo then ta else Option.map (fun x : Addr => x.add (lo * 9)) ta)) := hsv
          have HC : Hid (∀ W, Keeps w W → Calls Tryz.prog 39 #[stV s (.slice ya s.tab.length yc), .slice sv k (tc - lo)] W fun y w' => ∃ qa qc ra rc da dc, Hid (OwnTab W.heap.size w' (.slice qa r.tab.length qc) r.tab) ∧ y = .returned (.tuple #[stV r (.slice qa r.tab.length qc), .slice ra k rc, .slice da k dc]) ∧ Keeps W w') := by
            have := HCG.out
            rw [← hsv] at this
            exact this
          have HSA : Hid (∀ W, Keeps w2 W → W.cell? ⟨w.heap.size, 0, none⟩ = some (.int .i64 l.base.at_) ∧ W.cell? ⟨w.heap.size, 1, none⟩ = some (.int .i64 l.base.clock) ∧ W.cell? ⟨w.heap.size, 2, none⟩ = some (.int .i64 l.base.v0) ∧ W.cell? ⟨w.heap.size, 3, none⟩ = some (.int .i64 l.base.v1) ∧ W.cell? ⟨w.heap.size, 4, none⟩ = some (.int .i64 l.base.v2) ∧ W.cell? ⟨w.heap.size, 5, none⟩ = some (.int .i64 l.base.v3) ∧ W.cell? ⟨w.heap.size, 6, none⟩ = some (.slice xa l.base.tab.length xc) ∧ W.cell? ⟨w.heap.size, 7, none⟩ = some (.slice ta l.tail.length tc) ∧ W.cell? ⟨w.heap.size + 1, 0, none⟩ = some (.int .i64 s.at_) ∧ W.cell? ⟨w.heap.size + 1, 1, none⟩ = some (.int .i64 s.clock) ∧ W.cell? ⟨w.heap.size + 1, 2, none⟩ = some (.int .i64 s.v0) ∧ W.cell? ⟨w.heap.size + 1, 3, none⟩ = some (.int .i64 s.v1) ∧ W.cell? ⟨w.heap.size + 1, 4, none⟩ = some (.int .i64 s.v2) ∧ W.cell? ⟨w.heap.size + 1, 5, none⟩ = some (.int .i64 s.v3) ∧ W.cell? ⟨w.heap.size + 1, 6, none⟩ = some (.slice ya s.tab.length yc)) := fun W hk => have B := HB2.out.keep hk; have C := HC2.out.keep hk; ⟨B.c0, B.c1, B.c2, B.c3, B.c4, B.c5, B.c6, B.c7, C.c0, C.c1, C.c2, C.c3, C.c4, C.c5, C.c6⟩
          clear HCG hr' hcnt hf0 hf1 hf2 hf3 hfrom hlo h0 hk' hhi hfr hlk hsv
          have b0 := HB2.out.c0
          have b7 := HB2.out.c7
          have bl := HB2.out.lt
          have c0 := HC2.out.c0
          have c1 := HC2.out.c1
          have c2 := HC2.out.c2
          have c3 := HC2.out.c3
          have c4 := HC2.out.c4
          have c5 := HC2.out.c5
          have c6 := HC2.out.c6
          have cl := HC2.out.lt
          go_wp2_with fail
          clear b0 b7 bl c0 c1 c2 c3 c4 c5 c6 cl
          obtain ⟨W2, hW2⟩ : ∃ z, z = w2 := ⟨_, rfl⟩
          rw [← hW2] at HK2 HZ2 HSA ⊢
          have HK3 : Hid (Keeps w W2) := HK2.out
          have HZ3 := (show Hid _ from HZ2.out)
          clear hW2 HK2 HZ2
          go_cut [12] (fun p wc => ∃ qb qa qc, p = .pointer (some ⟨qb, 0, none⟩) ∧ StBox qb r (.slice qa r.tab.length qc) wc ∧ OwnTab W2.heap.size wc (.slice qa r.tab.length qc) r.tab ∧ Keeps W2 wc)
          case first =>
            obtain ⟨V0, hV0⟩ : ∃ z, z = W2.drew := ⟨_, rfl⟩
            have k0 : Keeps W2 V0 := by rw [hV0]; exact (Keeps.refl _).drew
            refine wp_region_held_drew (S := fun W => W.cell? ⟨w.heap.size, 0, none⟩ = some (.int .i64 l.base.at_) ∧ W.cell? ⟨w.heap.size, 1, none⟩ = some (.int .i64 l.base.clock) ∧ W.cell? ⟨w.heap.size, 2, none⟩ = some (.int .i64 l.base.v0) ∧ W.cell? ⟨w.heap.size, 3, none⟩ = some (.int .i64 l.base.v1) ∧ W.cell? ⟨w.heap.size, 4, none⟩ = some (.int .i64 l.base.v2) ∧ W.cell? ⟨w.heap.size, 5, none⟩ = some (.int .i64 l.base.v3) ∧ W.cell? ⟨w.heap.size, 6, none⟩ = some (.slice xa l.base.tab.length xc) ∧ W.cell? ⟨w.heap.size, 7, none⟩ = some (.slice ta l.tail.length tc) ∧ W.cell? ⟨w.heap.size + 1, 0, none⟩ = some (.int .i64 s.at_) ∧ W.cell? ⟨w.heap.size + 1, 1, none⟩ = some (.int .i64 s.clock) ∧ W.cell? ⟨w.heap.size + 1, 2, none⟩ = some (.int .i64 s.v0) ∧ W.cell? ⟨w.heap.size + 1, 3, none⟩ = some (.int .i64 s.v1) ∧ W.cell? ⟨w.heap.size + 1, 4, none⟩ = some (.int .i64 s.v2) ∧ W.cell? ⟨w.heap.size + 1, 5, none⟩ = some (.int .i64 s.v3) ∧ W.cell? ⟨w.heap.size + 1, 6, none⟩ = some (.slice ya s.tab.length yc)) (by kernel_rfl) (HSA.out _ (Keeps.refl _).drew) (fun hS => ?_)
            rw [← hV0] at hS ⊢
            clear hV0
            refine wpAnyH_take (i := 0) (v := stV s (.slice ya s.tab.length yc)) rfl (by kernel_rfl) (by kernel_rfl) (by kernel_rfl) (fun _ _ _ h => h) (Or.inl ⟨by rfl, ?_⟩) hS ?_
            · intro w hS; go_simp
            refine wpAnyH_take (i := 1) (v := .pointer (some ⟨w.heap.size, 7, none⟩)) rfl (by kernel_rfl) (by kernel_rfl) (by kernel_rfl) (fun _ _ _ h => h) (Or.inl ⟨by rfl, ?_⟩) hS ?_
            · intro w hS; go_simp
            refine wpAnyH_take (i := 2) (v := .slice ta l.tail.length tc) rfl (by kernel_rfl) (by kernel_rfl) (by kernel_rfl) (fun _ _ _ h => h) (Or.inl ⟨by rfl, ?_⟩) hS ?_
            · intro w hS; go_simp
            refine wpAnyH_take (i := 3) (v := .int .i64 lo) rfl (by kernel_rfl) (by kernel_rfl) (by kernel_rfl) (fun _ _ _ h => h) (Or.inl ⟨by rfl, ?_⟩) hS ?_
            · intro w hS; go_simp
            refine wpAnyH_take (i := 4) (v := .int .i64 hi) rfl (by kernel_rfl) (by kernel_rfl) (by kernel_rfl) (fun _ _ _ h => h) (Or.inl ⟨by rfl, ?_⟩) hS ?_
            · intro w hS; go_simp
            refine wpAnyH_take (i := 5) (v := .slice sv k (tc - lo)) rfl (by kernel_rfl) (by kernel_rfl) (by kernel_rfl) (fun _ _ _ h => h) (Or.inl ⟨by rfl, ?_⟩) hS ?_
            · intro w hS
              go_simp
              exact HSV.out.symm
            refine wpAnyH_ready (rs := [6, 11]) (by kernel_rfl) (by simp) ?_
            refine AllReadyH.cons rfl (fun K hK => ?_) (AllReadyH.cons rfl (fun K hK => ?_) (AllReadyH.nil))
            · go_simp
              refine (HC.out V0 (HK3.out.trans k0)).mono ?_
              rintro y V1 ⟨qa, qc, ra, rc, da, dc, HO1, rfl, hb⟩
              have k1 := k0.trans hb
              go_simp
              refine hK.out _ _ (HSA.out _ k1) (fun hS => ?_)
              clear hK K
              clear hb
              refine wpAnyH_take (i := 7) (v := .tuple #[stV r (.slice qa r.tab.length qc), .slice ra k rc, .slice da k dc]) rfl (by kernel_rfl) (by kernel_rfl) (by kernel_rfl) (fun _ _ _ h => h) (Or.inl ⟨by rfl, ?_⟩) hS ?_
              · intro w hS; go_simp
              refine wpAnyH_take (i := 8) (v := stV r (.slice qa r.tab.length qc)) rfl (by kernel_rfl) (by kernel_rfl) (by kernel_rfl) (fun _ _ _ h => h) (Or.inl ⟨by rfl, ?_⟩) hS ?_
              · intro w hS; go_simp
              refine wpAnyH_take (i := 9) (v := .slice ra k rc) rfl (by kernel_rfl) (by kernel_rfl) (by kernel_rfl) (fun _ _ _ h => h) (Or.inl ⟨by rfl, ?_⟩) hS ?_
              · intro w hS; go_simp
              refine wpAnyH_take (i := 10) (v := .slice da k dc) rfl (by kernel_rfl) (by kernel_rfl) (by kernel_rfl) (fun _ _ _ h => h) (Or.inl ⟨by rfl, ?_⟩) hS ?_
              · intro w hS; go_simp
              refine wpAnyH_ready (rs := [11]) (by kernel_rfl) (by simp) ?_
              refine AllReadyH.cons rfl (fun K hK => ?_) (AllReadyH.nil)
              go_simp
              have hb : Keeps V1 (V1.alloc (.cells #[.int .i64 0, .int .i64 0, .int .i64 0, .int .i64 0, .int .i64 0, .int .i64 0, .slice none 0 0] 25)) := (Keeps.refl _).alloc _
              have HQ2 : Hid (StBox V1.heap.size zeroSt (.slice none 0 0) (V1.alloc (.cells #[.int .i64 0, .int .i64 0, .int .i64 0, .int .i64 0, .int .i64 0, .int .i64 0, .slice none 0 0] 25))) := StBox.new V1 zeroSt (.slice none 0 0) 25
              generalize V1.alloc (.cells #[.int .i64 0, .int .i64 0, .int .i64 0, .int .i64 0, .int .i64 0, .int .i64 0, .slice none 0 0] 25) = V2 at *
              have k2 := k1.trans hb
              refine hK.out _ _ (HSA.out _ k2) (fun hS => ?_)
              clear hK K
              have HTF : Hid (∀ WF, But V1.heap.size V2 WF → OwnTab W2.heap.size WF (.slice qa r.tab.length qc) r.tab) := fun WF hF => (HO1.out.keep (But.to hb (Nat.le_refl _) hF)).base k0.size
              clear hb
              refine wpAnyH_ready (rs := [12]) (by kernel_rfl) (by simp) ?_
              refine AllReadyH.cons rfl (fun K hK => ?_) (AllReadyH.nil)
              have z0 := HQ2.out.c0
              have z1 := HQ2.out.c1
              have z2 := HQ2.out.c2
              have z3 := HQ2.out.c3
              have z4 := HQ2.out.c4
              have z5 := HQ2.out.c5
              have z6 := HQ2.out.c6
              have zf := HQ2.out.fz
              have zl := HQ2.out.lt
              go_simp
              have BP := HQ2.out.put r (.slice qa r.tab.length qc)
              have BT := But.puts (b := V1.heap.size) V2 r (.slice qa r.tab.length qc)
              have KF := But.to k2 k1.size BT
              have HTE := HTF.out _ BT
              obtain ⟨WF, hWF⟩ : ∃ z, z = (((((((V2.setCell ⟨V1.heap.size, 0, none⟩ (.int .i64 r.at_)).setCell ⟨V1.heap.size, 1, none⟩ (.int .i64 r.clock)).setCell ⟨V1.heap.size, 2, none⟩ (.int .i64 r.v0)).setCell ⟨V1.heap.size, 3, none⟩ (.int .i64 r.v1)).setCell ⟨V1.heap.size, 4, none⟩ (.int .i64 r.v2)).setCell ⟨V1.heap.size, 5, none⟩ (.int .i64 r.v3)).setCell ⟨V1.heap.size, 6, none⟩ (.slice qa r.tab.length qc)) := ⟨_, rfl⟩
              rw [← hWF] at BP BT KF HTE ⊢
              clear hWF z0 z1 z2 z3 z4 z5 z6 zf zl
              refine hK.out _ _ (HSA.out _ KF) (fun hS => ?_)
              clear hK K
              refine wpAnyH_take (i := 13) (v := .slice ra k rc) rfl (by kernel_rfl) (by kernel_rfl) (by kernel_rfl) (fun _ _ _ h => h) (Or.inl ⟨by rfl, ?_⟩) hS ?_
              · intro w hS; go_simp
              refine wpAnyH_take (i := 14) (v := .slice da k dc) rfl (by kernel_rfl) (by kernel_rfl) (by kernel_rfl) (fun _ _ _ h => h) (Or.inl ⟨by rfl, ?_⟩) hS ?_
              · intro w hS; go_simp
              refine wpAnyH_done (by kernel_rfl) ?_ _
              go_wp2_with fail
              go_meet
              exact ⟨_, _, _, rfl, BP, HTE, KF⟩
            · go_simp
              have hb : Keeps V0 (V0.alloc (.cells #[.int .i64 0, .int .i64 0, .int .i64 0, .int .i64 0, .int .i64 0, .int .i64 0, .slice none 0 0] 25)) := (Keeps.refl _).alloc _
              have HQ1 : Hid (StBox V0.heap.size zeroSt (.slice none 0 0) (V0.alloc (.cells #[.int .i64 0, .int .i64 0, .int .i64 0, .int .i64 0, .int .i64 0, .int .i64 0, .slice none 0 0] 25))) := StBox.new V0 zeroSt (.slice none 0 0) 25
              generalize V0.alloc (.cells #[.int .i64 0, .int .i64 0, .int .i64 0, .int .i64 0, .int .i64 0, .int .i64 0, .slice none 0 0] 25) = V1 at *
              have k1 := k0.trans hb
              refine hK.out _ _ (HSA.out _ k1) (fun hS => ?_)
              clear hK K
              clear hb
              refine wpAnyH_ready (rs := [6]) (by kernel_rfl) (by simp) ?_
              refine AllReadyH.cons rfl (fun K hK => ?_) (AllReadyH.nil)
              go_simp
              refine (HC.out V1 (HK3.out.trans k1)).mono ?_
              rintro y V2 ⟨qa, qc, ra, rc, da, dc, HO2, rfl, hb⟩
              have k2 := k1.trans hb
              go_simp
              refine hK.out _ _ (HSA.out _ k2) (fun hS => ?_)
              clear hK K
              have HQ2 : Hid (StBox V0.heap.size zeroSt (.slice none 0 0) V2) := HQ1.out.keep hb
              have HTF : Hid (∀ WF, But V0.heap.size V2 WF → OwnTab W2.heap.size WF (.slice qa r.tab.length qc) r.tab) := fun WF hF => (HO2.out.but (by have := HQ1.out.lt; omega) hF).base (by have := k1.size; omega)
              clear hb
              refine wpAnyH_take (i := 7) (v := .tuple #[stV r (.slice qa r.tab.length qc), .slice ra k rc, .slice da k dc]) rfl (by kernel_rfl) (by kernel_rfl) (by kernel_rfl) (fun _ _ _ h => h) (Or.inl ⟨by rfl, ?_⟩) hS ?_
              · intro w hS; go_simp
              refine wpAnyH_take (i := 8) (v := stV r (.slice qa r.tab.length qc)) rfl (by kernel_rfl) (by kernel_rfl) (by kernel_rfl) (fun _ _ _ h => h) (Or.inl ⟨by rfl, ?_⟩) hS ?_
              · intro w hS; go_simp
              refine wpAnyH_take (i := 9) (v := .slice ra k rc) rfl (by kernel_rfl) (by kernel_rfl) (by kernel_rfl) (fun _ _ _ h => h) (Or.inl ⟨by rfl, ?_⟩) hS ?_
              · intro w hS; go_simp
              refine wpAnyH_take (i := 10) (v := .slice da k dc) rfl (by kernel_rfl) (by kernel_rfl) (by kernel_rfl) (fun _ _ _ h => h) (Or.inl ⟨by rfl, ?_⟩) hS ?_
              · intro w hS; go_simp
              refine wpAnyH_ready (rs := [12]) (by kernel_rfl) (by simp) ?_
              refine AllReadyH.cons rfl (fun K hK => ?_) (AllReadyH.nil)
              have z0 := HQ2.out.c0
              have z1 := HQ2.out.c1
              have z2 := HQ2.out.c2
              have z3 := HQ2.out.c3
              have z4 := HQ2.out.c4
              have z5 := HQ2.out.c5
              have z6 := HQ2.out.c6
              have zf := HQ2.out.fz
              have zl := HQ2.out.lt
              go_simp
              have BP := HQ2.out.put r (.slice qa r.tab.length qc)
              have BT := But.puts (b := V0.heap.size) V2 r (.slice qa r.tab.length qc)
              have KF := But.to k2 k0.size BT
              have HTE := HTF.out _ BT
              obtain ⟨WF, hWF⟩ : ∃ z, z = (((((((V2.setCell ⟨V0.heap.size, 0, none⟩ (.int .i64 r.at_)).setCell ⟨V0.heap.size, 1, none⟩ (.int .i64 r.clock)).setCell ⟨V0.heap.size, 2, none⟩ (.int .i64 r.v0)).setCell ⟨V0.heap.size, 3, none⟩ (.int .i64 r.v1)).setCell ⟨V0.heap.size, 4, none⟩ (.int .i64 r.v2)).setCell ⟨V0.heap.size, 5, none⟩ (.int .i64 r.v3)).setCell ⟨V0.heap.size, 6, none⟩ (.slice qa r.tab.length qc)) := ⟨_, rfl⟩
              rw [← hWF] at BP BT KF HTE ⊢
              clear hWF z0 z1 z2 z3 z4 z5 z6 zf zl
              refine hK.out _ _ (HSA.out _ KF) (fun hS => ?_)
              clear hK K
              refine wpAnyH_take (i := 13) (v := .slice ra k rc) rfl (by kernel_rfl) (by kernel_rfl) (by kernel_rfl) (fun _ _ _ h => h) (Or.inl ⟨by rfl, ?_⟩) hS ?_
              · intro w hS; go_simp
              refine wpAnyH_take (i := 14) (v := .slice da k dc) rfl (by kernel_rfl) (by kernel_rfl) (by kernel_rfl) (fun _ _ _ h => h) (Or.inl ⟨by rfl, ?_⟩) hS ?_
              · intro w hS; go_simp
              refine wpAnyH_done (by kernel_rfl) ?_ _
              go_wp2_with fail
              go_meet
              exact ⟨_, _, _, rfl, BP, HTE, KF⟩
          case rest =>
            obtain ⟨qb, qa, qc, rfl, hQ, hO, hkc⟩ := hcut
            obtain ⟨w3, hw3⟩ : ∃ z, z = wc := ⟨_, rfl⟩
            rw [← hw3] at hQ hO hkc ⊢
            clear hw3
            have HZ4 : Hid (StBox zb zeroSt (.slice none 0 0) w3) := HZ3.out.keep hkc
            have HK4 : Hid (Keeps w w3) := HK3.out.trans hkc
            have hsz := HZ3.out.lt
            have hzz := HZB.out
            have q0 := hQ.c0
            have q1 := hQ.c1
            have q2 := hQ.c2
            have q3 := hQ.c3
            have q4 := hQ.c4
            have q5 := hQ.c5
            have q6 := hQ.c6
            have ql := hQ.lt
            have z0 := HZ4.out.c0
            have z1 := HZ4.out.c1
            have z2 := HZ4.out.c2
            have z3 := HZ4.out.c3
            have z4 := HZ4.out.c4
            have z5 := HZ4.out.c5
            have z6 := HZ4.out.c6
            have zf := HZ4.out.fz
            have zl := HZ4.out.lt
            have HBT := (show Hid _ from But.puts (b := zb) w3 r (.slice qa r.tab.length qc))
            have HBF := (show Hid _ from HZ4.out.put r (.slice qa r.tab.length qc))
            have HOF := (show Hid _ from (hO.but (by omega) HBT.out).base HK3.out.size)
            have HKF := (show Hid _ from But.to HK4.out (by omega) HBT.out)
            clear hzz hsz hQ hO hkc HSA HC HZ3 HK3
            go_wp2_with fail
            have c0 := HBF.out.c0
            have c1 := HBF.out.c1
            have c2 := HBF.out.c2
            have c3 := HBF.out.c3
            have c4 := HBF.out.c4
            have c5 := HBF.out.c5
            have c6 := HBF.out.c6
            refine bodyPost_ret (v := .tuple #[stV r (.slice qa r.tab.length qc), .int .i64 k, .int .i64 0]) ?_ rfl ?_
            · simp only [results, Tryz.results33, go_sem, c0, c1, c2, c3, c4, c5, c6]
              simp [go_sem, c0, c1, c2, c3, c4, c5, c6]
            · rw [HOUT.out, HNUM.out, HR0.out]
              exact ⟨qa, qc, HOF.out, rfl, HKF.out⟩
end Go.Proofs.YteabfjpajgakiagGreat
