/- SuJ. -/
import Derived.Deep.RegionHeld3
import Derived.Deep.DeepCutAuto
import Derived.Lib.MinMax
import Derived.Test.YteabfjpajgakiagJ04
import Derived.Test.YteabfjpajgakiagJ06
import Derived.Test.YteabfjpajgakiagJ13
/- The reference's AgainOf. -/
set_option linter.unusedSimpArgs false
set_option linter.unusedVariables false
set_option maxRecDepth 10000
namespace Go.Proofs.Yteabfjpajgakiag
open Go.RowKit

theorem ack_min {s : Stu} {q : Int} (h : hasI s.came q = false) (hq : 1 ≤ q) : min (ackOf s.came : Int) (q - 1) = ackOf s.came := by
  have : ¬ (q ≤ ackOf s.came) := by
    intro hle
    have hm := ackFrom_mem s.came 0 q.toNat (by omega) (by show _ ≤ ackOf s.came; omega)
    rw [show ((q.toNat : Nat) : Int) = q by omega] at hm
    rw [hasI_iff.2 hm] at h
    cases h
  omega

set_option maxHeartbeats 4000000 in
theorem again_of (s : Stu) (time seq o0 o1 o2 o3 : Int) (t : Value) (w : World) (h : IntsAt w t s.came) : Calls Try.prog 14 #[stuV s t, .int .i64 time, .int .i64 seq, opV o0 o1 o2 o3] w fun e w' => e = .returned (.tuple #[entV (againE s time seq (o0, o1, o2, o3)), .int .i64 (againErr s time seq (o0, o1, o2, o3))]) ∧ Keeps w w' := by
  obtain ⟨ta, tc, rfl, hlen⟩ := RowAt.len h
  unfold maxLen at hlen
  have HI : Hid (IntsAt w (.slice ta s.came.length tc) s.came) := h
  have HE : Hid (againErr s time seq (o0, o1, o2, o3) = if stuErr s == 0 then (if hasI s.came seq then 5 else if inB seq 1 (s.next - 1) then entErr (stuCall s time seq (o0, o1, o2, o3)) else 5) else stuErr s) := rfl
  have HAZ : Hid ((againErr s time seq (o0, o1, o2, o3) == 0) = false → againE s time seq (o0, o1, o2, o3) = zeroE) := fun h => by unfold againE; rw [h]; rfl
  have HAE : Hid (againErr s time seq (o0, o1, o2, o3) = 0 → againE s time seq (o0, o1, o2, o3) = stuCall s time seq (o0, o1, o2, o3)) := fun h => by unfold againE; rw [h]; rfl
  obtain ⟨ak, hak⟩ : ∃ ak : Int, ak = ackOf s.came := ⟨_, rfl⟩
  have hsc : stuCall s time seq (o0, o1, o2, o3) = ⟨2, time, s.client, seq, ak, o0, o1, o2, o3⟩ := by rw [hak]; rfl
  rw [hsc] at HE HAE
  clear hsc
  generalize againErr s time seq (o0, o1, o2, o3) = er at *
  generalize againE s time seq (o0, o1, o2, o3) = ag at *
  have HC0 : Hid (stuErr s = 0 → ∀ W, Keeps w W → Calls Try.prog 23 #[stuV s (.slice ta s.came.length tc)] W fun e w' => e = .returned (.int .i64 ak) ∧ Keeps W w') := fun h0 W hk => by rw [hak]; exact ack_c s _ W (HI.out.keep hk) h0
  have HM0 : Hid (hasI s.came seq = false → 1 ≤ seq → min ak (seq - 1) = ak) := fun h1 h2 => by rw [hak]; exact ack_min h1 h2
  clear h hak
  go_enter Try.func14, Try.ntmps14
  go_wp2_with fail
  obtain ⟨W1, hW1⟩ : ∃ W1, W1 = ((w.alloc (.cells #[.int .i64 s.client, .int .i64 s.next, .slice ta s.came.length tc] 24)).alloc (.cells #[.int .i64 o0, .int .i64 o1, .int .i64 o2, .int .i64 o3] 26)).alloc (.cells #[.int .i64 0, .int .i64 0, .int .i64 0, .int .i64 0, .int .i64 0, .int .i64 0, .int .i64 0, .int .i64 0, .int .i64 0] 28) := ⟨_, rfl⟩
  have k1 : Keeps w W1 := by rw [hW1]; exact (((Keeps.refl _).alloc _).alloc _).alloc _
  have B1 : StuBox w.heap.size s (.slice ta s.came.length tc) W1 := by rw [hW1]; exact (StuBox.new w s _ rfl 24).keep (((Keeps.refl _).alloc _).alloc _)
  have O1 : W1.cell? ⟨w.heap.size + 1, 0, none⟩ = some (.int .i64 o0) ∧ W1.cell? ⟨w.heap.size + 1, 1, none⟩ = some (.int .i64 o1) ∧ W1.cell? ⟨w.heap.size + 1, 2, none⟩ = some (.int .i64 o2) ∧ W1.cell? ⟨w.heap.size + 1, 3, none⟩ = some (.int .i64 o3) := by rw [hW1]; refine ⟨?_, ?_, ?_, ?_⟩ <;> simp [go_sem]
  have Z1 : EBox (w.heap.size + 1 + 1) zeroE W1 := by
    rw [hW1]
    have := EBox.new ((w.alloc (.cells #[.int .i64 s.client, .int .i64 s.next, .slice ta s.came.length tc] 24)).alloc (.cells #[.int .i64 o0, .int .i64 o1, .int .i64 o2, .int .i64 o3] 26)) zeroE 28
    simp only [World.size_alloc] at this
    exact this
  rw [← hW1]
  clear hW1
  obtain ⟨zb, hzb⟩ : ∃ zb, zb = w.heap.size + 1 + 1 := ⟨_, rfl⟩
  rw [← hzb] at Z1 ⊢
  have HZB : Hid (zb = w.heap.size + 1 + 1) := hzb
  clear hzb
  refine (stub_error s _ W1 (HI.out.keep k1)).mono ?_
  rintro e w1 ⟨rfl, hb⟩
  have HK1 : Hid (Keeps w w1) := k1.trans hb
  have HB1 : Hid (StuBox w.heap.size s (.slice ta s.came.length tc) w1) := B1.keep hb
  have HO1 : Hid (w1.cell? ⟨w.heap.size + 1, 0, none⟩ = some (.int .i64 o0) ∧ w1.cell? ⟨w.heap.size + 1, 1, none⟩ = some (.int .i64 o1) ∧ w1.cell? ⟨w.heap.size + 1, 2, none⟩ = some (.int .i64 o2) ∧ w1.cell? ⟨w.heap.size + 1, 3, none⟩ = some (.int .i64 o3)) := ⟨cell_stays O1.1 hb, cell_stays O1.2.1 hb, cell_stays O1.2.2.1 hb, cell_stays O1.2.2.2 hb⟩
  have HZ1 : Hid (EBox zb zeroE w1) := Z1.keep hb
  clear k1 B1 O1 Z1 hb
  clear W1
  cases q1 : (stuErr s == 0) with
  | false =>
    have q1' : (stuErr s != 0) = true := by simp [bne, q1]
    have HE2 : Hid (er = stuErr s) := by show _ = _; rw [HE.out, q1]; rfl
    have H1 := (show Hid _ from HAZ.out (by rw [HE2.out]; exact q1))
    have z0 := HZ1.out.c0
    have z1 := HZ1.out.c1
    have z2 := HZ1.out.c2
    have z3 := HZ1.out.c3
    have z4 := HZ1.out.c4
    have z5 := HZ1.out.c5
    have z6 := HZ1.out.c6
    have z7 := HZ1.out.c7
    have z8 := HZ1.out.c8
    have zf := HZ1.out.fz
    have zl := HZ1.out.lt
    have hk := HK1.out
    go_wp2_with fail
    refine bodyPost_ret (v := .tuple #[entV zeroE, .int .i64 (stuErr s)]) ?_ rfl ?_
    · simp [results, Try.results14, go_sem, zeroE, z0, z1, z2, z3, z4, z5, z6, z7, z8]
    · have hzz := HZB.out
      rw [HE2.out, H1.out]
      refine ⟨rfl, ?_⟩
      repeat refine Keeps.set ?_ (by simp <;> omega) _
      exact hk
  | true =>
    have q1' : (stuErr s != 0) = false := by simp [bne, q1]
    have q0 : stuErr s = 0 := by simpa using q1
    obtain ⟨_, ⟨hn1, hn2⟩, hck⟩ := stu_right q0
    have HC1 : Hid (∀ W, Keeps w W → Calls Try.prog 23 #[stuV s (.slice ta s.came.length tc)] W fun e w' => e = .returned (.int .i64 ak) ∧ Keeps W w') := HC0.out q0
    clear q0 hck HC0
    cases q3 : inB seq 1 (s.next - 1) with
    | false =>
      have HE2 : Hid (er = 5) := by
        show _ = _
        rw [HE.out, q1, q3]
        cases hasI s.came seq <;> rfl
      have H1 := (show Hid _ from HAZ.out (by rw [HE2.out]; rfl))
      have b0 := HB1.out.c0
      have b1 := HB1.out.c1
      have b2 := HB1.out.c2
      have bl := HB1.out.lt
      have z0 := HZ1.out.c0
      have z1 := HZ1.out.c1
      have z2 := HZ1.out.c2
      have z3 := HZ1.out.c3
      have z4 := HZ1.out.c4
      have z5 := HZ1.out.c5
      have z6 := HZ1.out.c6
      have z7 := HZ1.out.c7
      have z8 := HZ1.out.c8
      have zf := HZ1.out.fz
      have zl := HZ1.out.lt
      have hk := HK1.out
      go_wp2_with (first | (go_at_call 29; refine (within_c _ _ _ _).mono ?_; rintro x w' ⟨rfl, rfl⟩))
      refine bodyPost_ret (v := .tuple #[entV zeroE, .int .i64 (5)]) ?_ rfl ?_
      · simp [results, Try.results14, go_sem, zeroE, z0, z1, z2, z3, z4, z5, z6, z7, z8]
      · have hzz := HZB.out
        rw [HE2.out, H1.out]
        refine ⟨rfl, ?_⟩
        repeat refine Keeps.set ?_ (by simp <;> omega) _
        exact hk
    | true =>
      have hq := inB_iff.1 q3
      have b0 := HB1.out.c0
      have b1 := HB1.out.c1
      have b2 := HB1.out.c2
      have bl := HB1.out.lt
      go_wp2_with (first | (go_at_call 29; refine (within_c _ _ _ _).mono ?_; rintro x w' ⟨rfl, rfl⟩))
      refine (came_c s seq _ w1 (HI.out.keep HK1.out)).mono ?_
      rintro e w2 ⟨rfl, hb⟩
      have HK2 : Hid (Keeps w w2) := HK1.out.trans hb
      have HB2 : Hid (StuBox w.heap.size s (.slice ta s.came.length tc) w2) := HB1.out.keep hb
      have HO2 : Hid (w2.cell? ⟨w.heap.size + 1, 0, none⟩ = some (.int .i64 o0) ∧ w2.cell? ⟨w.heap.size + 1, 1, none⟩ = some (.int .i64 o1) ∧ w2.cell? ⟨w.heap.size + 1, 2, none⟩ = some (.int .i64 o2) ∧ w2.cell? ⟨w.heap.size + 1, 3, none⟩ = some (.int .i64 o3)) := ⟨cell_stays HO1.out.1 hb, cell_stays HO1.out.2.1 hb, cell_stays HO1.out.2.2.1 hb, cell_stays HO1.out.2.2.2 hb⟩
      have HZ2 : Hid (EBox zb zeroE w2) := HZ1.out.keep hb
      clear hb b0 b1 b2 bl HB1 HZ1 HO1 HK1
      clear w1
      cases q2 : hasI s.came seq with
      | true =>
        have HE2 : Hid (er = 5) := by show _ = _; rw [HE.out, q1, q2]; rfl
        have H1 := (show Hid _ from HAZ.out (by rw [HE2.out]; rfl))
        have z0 := HZ2.out.c0
        have z1 := HZ2.out.c1
        have z2 := HZ2.out.c2
        have z3 := HZ2.out.c3
        have z4 := HZ2.out.c4
        have z5 := HZ2.out.c5
        have z6 := HZ2.out.c6
        have z7 := HZ2.out.c7
        have z8 := HZ2.out.c8
        have zf := HZ2.out.fz
        have zl := HZ2.out.lt
        have hk := HK2.out
        go_wp2_with fail
        refine bodyPost_ret (v := .tuple #[entV zeroE, .int .i64 (5)]) ?_ rfl ?_
        · simp [results, Try.results14, go_sem, zeroE, z0, z1, z2, z3, z4, z5, z6, z7, z8]
        · have hzz := HZB.out
          rw [HE2.out, H1.out]
          refine ⟨rfl, ?_⟩
          repeat refine Keeps.set ?_ (by simp <;> omega) _
          exact hk
      | false =>
        have HE2 : Hid (er = entErr ⟨2, time, s.client, seq, ak, o0, o1, o2, o3⟩) := by show _ = _; rw [HE.out, q1, q2, q3]; rfl
        have HMN : Hid ((if ak ≤ seq - 1 then ak else seq - 1) = ak) := by
          have := HM0.out q2 (by omega)
          show _ = _
          split <;> omega
        clear HM0
        have HC : Hid (∀ W, Keeps w2 W → Calls Try.prog 23 #[stuV s (.slice ta s.came.length tc)] W fun e w' => e = .returned (.int .i64 ak) ∧ Keeps W w') := fun W hk => HC1.out W (HK2.out.trans hk)
        have HSA : Hid (∀ W, Keeps w2 W → W.cell? ⟨w.heap.size, 0, none⟩ = some (.int .i64 s.client) ∧ W.cell? ⟨w.heap.size, 1, none⟩ = some (.int .i64 s.next) ∧ W.cell? ⟨w.heap.size, 2, none⟩ = some (.slice ta s.came.length tc) ∧ W.cell? ⟨w.heap.size + 1, 0, none⟩ = some (.int .i64 o0) ∧ W.cell? ⟨w.heap.size + 1, 1, none⟩ = some (.int .i64 o1) ∧ W.cell? ⟨w.heap.size + 1, 2, none⟩ = some (.int .i64 o2) ∧ W.cell? ⟨w.heap.size + 1, 3, none⟩ = some (.int .i64 o3)) := fun W hk => ⟨(HB2.out.keep hk).c0, (HB2.out.keep hk).c1, (HB2.out.keep hk).c2, cell_stays HO2.out.1 hk, cell_stays HO2.out.2.1 hk, cell_stays HO2.out.2.2.1 hk, cell_stays HO2.out.2.2.2 hk⟩
        clear HC1
        go_wp2_with fail
        go_cut [11] (fun p wc => ∃ eb, p = .pointer (some ⟨eb, 0, none⟩) ∧ EBox eb ⟨2, time, s.client, seq, ak, o0, o1, o2, o3⟩ wc ∧ Keeps w2 wc ∧ w2.heap.size ≤ eb)
        case first =>
          obtain ⟨V0, hV0⟩ : ∃ z, z = w2.drew := ⟨_, rfl⟩
          have k0 : Keeps w2 V0 := by rw [hV0]; exact (Keeps.refl _).drew
          refine wp_region_held_drew (S := fun W => W.cell? ⟨w.heap.size, 0, none⟩ = some (.int .i64 s.client) ∧ W.cell? ⟨w.heap.size, 1, none⟩ = some (.int .i64 s.next) ∧ W.cell? ⟨w.heap.size, 2, none⟩ = some (.slice ta s.came.length tc) ∧ W.cell? ⟨w.heap.size + 1, 0, none⟩ = some (.int .i64 o0) ∧ W.cell? ⟨w.heap.size + 1, 1, none⟩ = some (.int .i64 o1) ∧ W.cell? ⟨w.heap.size + 1, 2, none⟩ = some (.int .i64 o2) ∧ W.cell? ⟨w.heap.size + 1, 3, none⟩ = some (.int .i64 o3)) (by kernel_rfl) (HSA.out _ (Keeps.refl _).drew) (fun hS => ?_)
          rw [← hV0] at hS ⊢
          clear hV0
          refine wpAnyH_take (i := 0) (v := .int .i64 time) rfl (by kernel_rfl) (by kernel_rfl) (by kernel_rfl) (fun _ _ _ h => h) (Or.inl ⟨by rfl, ?_⟩) hS ?_
          · intro w hS; go_simp
          refine wpAnyH_take (i := 1) (v := .pointer (some ⟨w.heap.size, 0, none⟩)) rfl (by kernel_rfl) (by kernel_rfl) (by kernel_rfl) (fun _ _ _ h => h) (Or.inl ⟨by rfl, ?_⟩) hS ?_
          · intro w hS; go_simp
          refine wpAnyH_take (i := 2) (v := .int .i64 s.client) rfl (by kernel_rfl) (by kernel_rfl) (by kernel_rfl) (fun _ _ _ h => h) (Or.inl ⟨by rfl, ?_⟩) hS ?_
          · intro w hS; go_simp
          refine wpAnyH_take (i := 3) (v := .int .i64 seq) rfl (by kernel_rfl) (by kernel_rfl) (by kernel_rfl) (fun _ _ _ h => h) (Or.inl ⟨by rfl, ?_⟩) hS ?_
          · intro w hS; go_simp
          refine wpAnyH_take (i := 4) (v := stuV s (.slice ta s.came.length tc)) rfl (by kernel_rfl) (by kernel_rfl) (by kernel_rfl) (fun _ _ _ h => h) (Or.inl ⟨by rfl, ?_⟩) hS ?_
          · intro w hS; go_simp
          refine wpAnyH_take (i := 6) (v := .int .i64 seq) rfl (by kernel_rfl) (by kernel_rfl) (by kernel_rfl) (fun _ _ _ h => h) (Or.inl ⟨by rfl, ?_⟩) hS ?_
          · intro w hS; go_simp
          refine wpAnyH_take (i := 7) (v := .int .i64 (seq - 1)) rfl (by kernel_rfl) (by kernel_rfl) (by kernel_rfl) (fun _ _ _ h => h) (Or.inl ⟨by rfl, ?_⟩) hS ?_
          · intro w hS
            go_simp
            first | (rw [IntKind.wrap_i64]; omega) | (simp only [IntKind.wrap_i64, wrap64]; omega)
          refine wpAnyH_take (i := 9) (v := opV o0 o1 o2 o3) rfl (by kernel_rfl) (by kernel_rfl) (by kernel_rfl) (fun _ _ _ h => h) (Or.inl ⟨by rfl, ?_⟩) hS ?_
          · intro w hS; go_simp
          refine wpAnyH_ready (rs := [5, 11]) (by kernel_rfl) (by simp) ?_
          refine AllReadyH.cons rfl (fun K hK => ?_) (AllReadyH.cons rfl (fun K hK => ?_) (AllReadyH.nil))
          · go_simp
            refine (HC.out V0 k0).mono ?_
            rintro y V1 ⟨rfl, hb⟩
            have k1 := k0.trans hb
            clear hb
            go_simp
            refine hK.out _ _ (HSA.out _ k1) (fun hS => ?_)
            clear hK K
            refine wpAnyH_take (i := 8) (v := .int .i64 ak) rfl (by kernel_rfl) (by kernel_rfl) (by kernel_rfl) (fun _ _ _ h => h) (Or.inl ⟨by rfl, ?_⟩) hS ?_
            · intro w hS
              go_simp
              exact HMN.out
            refine wpAnyH_take (i := 10) (v := .agg #[.int .i64 2, .int .i64 time, .int .i64 s.client, .int .i64 seq, .int .i64 ak, .int .i64 o0, .int .i64 o1, .int .i64 o2, .int .i64 o3]) rfl (by kernel_rfl) (by kernel_rfl) (by kernel_rfl) (fun _ _ _ h => h) (Or.inl ⟨by rfl, ?_⟩) hS ?_
            · intro w hS; go_simp
            refine wpAnyH_ready (rs := [11]) (by kernel_rfl) (by simp) ?_
            refine AllReadyH.cons rfl (fun K hK => ?_) (AllReadyH.nil)
            go_simp
            have hb : Keeps V1 (V1.alloc (.cells #[.int .i64 0, .int .i64 0, .int .i64 0, .int .i64 0, .int .i64 0, .int .i64 0, .int .i64 0, .int .i64 0, .int .i64 0] 28)) := (Keeps.refl _).alloc _
            have HQ2 : Hid (EBox V1.heap.size zeroE (V1.alloc (.cells #[.int .i64 0, .int .i64 0, .int .i64 0, .int .i64 0, .int .i64 0, .int .i64 0, .int .i64 0, .int .i64 0, .int .i64 0] 28))) := EBox.new V1 zeroE 28
            generalize V1.alloc (.cells #[.int .i64 0, .int .i64 0, .int .i64 0, .int .i64 0, .int .i64 0, .int .i64 0, .int .i64 0, .int .i64 0, .int .i64 0] 28) = V2 at *
            have k2 := k1.trans hb
            clear hb
            refine hK.out _ _ (HSA.out _ k2) (fun hS => ?_)
            clear hK K
            refine wpAnyH_ready (rs := [12]) (by kernel_rfl) (by simp) ?_
            refine AllReadyH.cons rfl (fun K hK => ?_) (AllReadyH.nil)
            have z0 := HQ2.out.c0
            have z1 := HQ2.out.c1
            have z2 := HQ2.out.c2
            have z3 := HQ2.out.c3
            have z4 := HQ2.out.c4
            have z5 := HQ2.out.c5
            have z6 := HQ2.out.c6
            have z7 := HQ2.out.c7
            have z8 := HQ2.out.c8
            have zf := HQ2.out.fz
            have zl := HQ2.out.lt
            go_simp
            have BP := HQ2.out.put ⟨2, time, s.client, seq, ak, o0, o1, o2, o3⟩
            have KF := But.to k2 k1.size BP.2
            refine hK.out _ _ (HSA.out _ KF) (fun hS => ?_)
            clear hK K
            refine wpAnyH_done (by kernel_rfl) ?_ _
            go_wp2_with fail
            go_meet
            exact ⟨_, rfl, BP.1, KF, k1.size⟩
          · go_simp
            have hb : Keeps V0 (V0.alloc (.cells #[.int .i64 0, .int .i64 0, .int .i64 0, .int .i64 0, .int .i64 0, .int .i64 0, .int .i64 0, .int .i64 0, .int .i64 0] 28)) := (Keeps.refl _).alloc _
            have HQ1 : Hid (EBox V0.heap.size zeroE (V0.alloc (.cells #[.int .i64 0, .int .i64 0, .int .i64 0, .int .i64 0, .int .i64 0, .int .i64 0, .int .i64 0, .int .i64 0, .int .i64 0] 28))) := EBox.new V0 zeroE 28
            generalize V0.alloc (.cells #[.int .i64 0, .int .i64 0, .int .i64 0, .int .i64 0, .int .i64 0, .int .i64 0, .int .i64 0, .int .i64 0, .int .i64 0] 28) = V1 at *
            have k1 := k0.trans hb
            clear hb
            refine hK.out _ _ (HSA.out _ k1) (fun hS => ?_)
            clear hK K
            refine wpAnyH_ready (rs := [5]) (by kernel_rfl) (by simp) ?_
            refine AllReadyH.cons rfl (fun K hK => ?_) (AllReadyH.nil)
            go_simp
            refine (HC.out V1 k1).mono ?_
            rintro y V2 ⟨rfl, hb⟩
            have k2 := k1.trans hb
            have HQ2 : Hid (EBox V0.heap.size zeroE V2) := HQ1.out.keep hb
            clear hb
            go_simp
            refine hK.out _ _ (HSA.out _ k2) (fun hS => ?_)
            clear hK K
            refine wpAnyH_take (i := 8) (v := .int .i64 ak) rfl (by kernel_rfl) (by kernel_rfl) (by kernel_rfl) (fun _ _ _ h => h) (Or.inl ⟨by rfl, ?_⟩) hS ?_
            · intro w hS
              go_simp
              exact HMN.out
            refine wpAnyH_take (i := 10) (v := .agg #[.int .i64 2, .int .i64 time, .int .i64 s.client, .int .i64 seq, .int .i64 ak, .int .i64 o0, .int .i64 o1, .int .i64 o2, .int .i64 o3]) rfl (by kernel_rfl) (by kernel_rfl) (by kernel_rfl) (fun _ _ _ h => h) (Or.inl ⟨by rfl, ?_⟩) hS ?_
            · intro w hS; go_simp
            refine wpAnyH_ready (rs := [12]) (by kernel_rfl) (by simp) ?_
            refine AllReadyH.cons rfl (fun K hK => ?_) (AllReadyH.nil)
            have z0 := HQ2.out.c0
            have z1 := HQ2.out.c1
            have z2 := HQ2.out.c2
            have z3 := HQ2.out.c3
            have z4 := HQ2.out.c4
            have z5 := HQ2.out.c5
            have z6 := HQ2.out.c6
            have z7 := HQ2.out.c7
            have z8 := HQ2.out.c8
            have zf := HQ2.out.fz
            have zl := HQ2.out.lt
            go_simp
            have BP := HQ2.out.put ⟨2, time, s.client, seq, ak, o0, o1, o2, o3⟩
            have KF := But.to k2 k0.size BP.2
            refine hK.out _ _ (HSA.out _ KF) (fun hS => ?_)
            clear hK K
            refine wpAnyH_done (by kernel_rfl) ?_ _
            go_wp2_with fail
            go_meet
            exact ⟨_, rfl, BP.1, KF, k0.size⟩
        case rest =>
          obtain ⟨cb, rfl, hE, hkc, heb⟩ := hcut
          obtain ⟨w3, hw3⟩ : ∃ z, z = wc := ⟨_, rfl⟩
          rw [← hw3] at hE hkc ⊢
          clear hw3
          have HK3 : Hid (Keeps w w3) := HK2.out.trans hkc
          have HZ3 : Hid (EBox zb zeroE w3) := HZ2.out.keep hkc
          have HE3 : Hid (EBox cb ⟨2, time, s.client, seq, ak, o0, o1, o2, o3⟩ w3) := hE
          have hcz : (cb = zb) = False := eq_false (by have := HZ2.out.lt; omega)
          have hzc : (zb = cb) = False := eq_false (by have := HZ2.out.lt; omega)
          clear HSA HC HO2 HB2 HZ2 HK2 hkc hE heb
          obtain ⟨ce, hce⟩ : ∃ ce : Ent, ce = ⟨2, time, s.client, seq, ak, o0, o1, o2, o3⟩ := ⟨_, rfl⟩
          rw [← hce] at HE3 HE2 HAE
          clear hce
          have e0 := HE3.out.c0
          have e1 := HE3.out.c1
          have e2 := HE3.out.c2
          have e3 := HE3.out.c3
          have e4 := HE3.out.c4
          have e5 := HE3.out.c5
          have e6 := HE3.out.c6
          have e7 := HE3.out.c7
          have e8 := HE3.out.c8
          have el := HE3.out.lt
          go_wp2_with fail
          refine (entry_error ce w3).mono ?_
          rintro y w4 ⟨rfl, hb⟩
          have HK4 : Hid (Keeps w w4) := HK3.out.trans hb
          have HZ4 : Hid (EBox zb zeroE w4) := HZ3.out.keep hb
          have HE4 : Hid (EBox cb ce w4) := HE3.out.keep hb
          clear hb e0 e1 e2 e3 e4 e5 e6 e7 e8 el HK3 HZ3 HE3
          generalize entErr ce = ee at *
          cases q4 : (ee == 0) with
          | false =>
            have q4' : (ee != 0) = true := by simp [bne, q4]
            have H1 := (show Hid _ from HAZ.out (by rw [HE2.out]; exact q4))
            have z0 := HZ4.out.c0
            have z1 := HZ4.out.c1
            have z2 := HZ4.out.c2
            have z3 := HZ4.out.c3
            have z4 := HZ4.out.c4
            have z5 := HZ4.out.c5
            have z6 := HZ4.out.c6
            have z7 := HZ4.out.c7
            have z8 := HZ4.out.c8
            have zf := HZ4.out.fz
            have zl := HZ4.out.lt
            have hk := HK4.out
            go_wp2_with fail
            refine bodyPost_ret (v := .tuple #[entV zeroE, .int .i64 (ee)]) ?_ rfl ?_
            · simp [results, Try.results14, go_sem, zeroE, z0, z1, z2, z3, z4, z5, z6, z7, z8]
            · have hzz := HZB.out
              rw [HE2.out, H1.out]
              refine ⟨rfl, ?_⟩
              repeat refine Keeps.set ?_ (by simp <;> omega) _
              exact hk
          | true =>
            have q4' : (ee != 0) = false := by simp [bne, q4]
            have e0 : ee = 0 := by simpa using q4
            have HN := (show Hid _ from HAE.out (by rw [HE2.out, e0]))
            clear q4
            subst e0
            have z0 := HZ4.out.c0
            have z1 := HZ4.out.c1
            have z2 := HZ4.out.c2
            have z3 := HZ4.out.c3
            have z4 := HZ4.out.c4
            have z5 := HZ4.out.c5
            have z6 := HZ4.out.c6
            have z7 := HZ4.out.c7
            have z8 := HZ4.out.c8
            have zf := HZ4.out.fz
            have zl := HZ4.out.lt
            have e0 := HE4.out.c0
            have e1 := HE4.out.c1
            have e2 := HE4.out.c2
            have e3 := HE4.out.c3
            have e4 := HE4.out.c4
            have e5 := HE4.out.c5
            have e6 := HE4.out.c6
            have e7 := HE4.out.c7
            have e8 := HE4.out.c8
            have el := HE4.out.lt
            have HBP := (show Hid _ from HZ4.out.put ce)
            go_wp2_with fail
            have c0 := HBP.out.1.c0
            have c1 := HBP.out.1.c1
            have c2 := HBP.out.1.c2
            have c3 := HBP.out.1.c3
            have c4 := HBP.out.1.c4
            have c5 := HBP.out.1.c5
            have c6 := HBP.out.1.c6
            have c7 := HBP.out.1.c7
            have c8 := HBP.out.1.c8
            refine bodyPost_ret (v := .tuple #[entV ce, .int .i64 0]) ?_ rfl ?_
            · simp only [results, Try.results14, go_sem, c0, c1, c2, c3, c4, c5, c6, c7, c8]
              simp [go_sem, c0, c1, c2, c3, c4, c5, c6, c7, c8]
            · have hzz := HZB.out
              rw [HE2.out, HN.out]
              exact ⟨rfl, But.to HK4.out (by omega) HBP.out.2⟩
end Go.Proofs.Yteabfjpajgakiag
