/- FoH. -/
import Derived.Laws.MakeOwn
import Derived.Test.YteabfjpajgakiacJ13
/- foldBegun. -/
set_option linter.unusedSimpArgs false
set_option linter.unusedVariables false
set_option maxRecDepth 10000
namespace Go.Proofs.Yteabfjpajgakiac
open Go.RowKit

theorem tab_none (w : World) : TabAt w (.slice none 0 0) [] := ⟨[], trivial, rfl, by unfold maxLen; simp, .inl ⟨rfl, rfl⟩⟩
theorem some_runs : foldErr zeroSt someL = 0 ∧ (allSt zeroSt someL).at_ = 10 ∧ (allSt zeroSt someL).clock = 42 ∧ (allSt zeroSt someL).v0 = 12 ∧ (allSt zeroSt someL).v1 = 2 ∧ (allSt zeroSt someL).v2 = 0 ∧ (allSt zeroSt someL).v3 = 0 ∧ allAns zeroSt someL = [0, 5, 5, -3, 0, 3, -4, -3, 0, 12] ∧ listErr someL = 0 := by
  decide +kernel

def zeroEnt : Ent := ⟨0, 0, 0, 0, 0, 0, 0, 0, 0⟩
def manyL : List Ent := List.replicate 51 zeroEnt
def manyC : Array Value := (entCells manyL).toArray
def oneL : List Ent := [zeroEnt]
def oneC : Array Value := (entCells oneL).toArray
theorem infoEnt : (Try.prog.info? 57).map (fun i => (i.zero, i.size, i.bytes)) = some (some (entV zeroEnt), 9, 72) := by kernel_rfl
theorem make_many (w : World) : (Instr.makeSlice 26 (.int .i64 51) (.int .i64 51)).run Try.prog w = .ok (.slice (some ⟨w.heap.size, 0, none⟩) 51 51) (w.alloc (.cells manyC 57)) := by
  obtain ⟨i, hi, hz, hs, hb⟩ := info_parts infoEnt
  have := run_makeSlice (P := Try.prog) w 26 57 i _ Try.underlying26 hi hz .i64 .i64 51 51 (by decide) (by decide) (by rw [hs]; decide) (by rw [hb]; decide) (by decide)
  rw [this, hs]
  have e : madeCells (entV zeroEnt).cells ((51 : Int).toNat * 9) = manyC := by kernel_rfl
  rw [e]
  rfl
theorem make_one (w : World) : (Instr.makeSlice 26 (.int .i64 1) (.int .i64 1)).run Try.prog w = .ok (.slice (some ⟨w.heap.size, 0, none⟩) 1 1) (w.alloc (.cells oneC 57)) := by
  obtain ⟨i, hi, hz, hs, hb⟩ := info_parts infoEnt
  have := run_makeSlice (P := Try.prog) w 26 57 i _ Try.underlying26 hi hz .i64 .i64 1 1 (by decide) (by decide) (by rw [hs]; decide) (by rw [hb]; decide) (by decide)
  rw [this, hs]
  have e : madeCells (entV zeroEnt).cells ((1 : Int).toNat * 9) = oneC := by kernel_rfl
  rw [e]
  rfl
theorem many_err : foldErr zeroSt manyL = 2 ∧ listErr oneL = 4 := by decide +kernel
def lateS : St := ⟨45, 10, 7, 0, 0, 1, [rowS 2, rowS 4]⟩
theorem late_err : foldErr lateS someL = 2 := by decide +kernel
theorem IntsAt.new (w : World) (l : List Int) (hl : l.length ≤ 1000) (c : Nat) : IntsAt (w.alloc (.cells (intCells l).toArray 3)) (.slice (some ⟨w.heap.size, 0, none⟩) l.length c) l := by
  refine ⟨by simp [intCells], by unfold maxLen; omega, .inr ⟨_, _, rfl, fun j u hu => ?_⟩⟩
  rw [Addr.add_lit, Nat.zero_add]
  unfold World.cell?
  rw [World.alloc_heap_new]
  simpa using hu


set_option maxHeartbeats 4000000 in
theorem fold_begun (w : World) : Calls Try.prog 11 #[] w fun y w' => y = .returned (.bool true) ∧ Keeps w w' := by
  have HR := (show Hid _ from some_runs)
  have HM := (show Hid _ from many_err)
  have HLT : Hid (foldErr lateS someL = 2) := late_err
  go_enter Try.func11, Try.ntmps11
  go_wp2_with fail
  refine (begin_c _).mono ?_
  rintro y w1 ⟨rfl, k1⟩
  go_wp2_with fail
  refine (some_c w1).mono ?_
  rintro y w2 ⟨v2, he2, rfl, hb⟩
  have k2 := k1.trans hb
  clear k1 hb
  obtain ⟨a2, c2, rfl, _⟩ := he2.len
  have HE2 : Hid (EntsAt w2 (.slice a2 someL.length c2) someL) := he2
  clear he2
  go_wp2_with fail
  refine (fold_all zeroSt someL _ _ w2 (tab_none _) HE2.out).mono ?_
  rintro y w3 ⟨x3, av3, ho3, hr3, rfl, hb⟩
  have k3 := k2.trans hb
  clear k2 hb HE2
  obtain ⟨xa, xc, rfl, _⟩ := ho3.tab.len
  have HI3 : Hid (IntsAt w3 av3 (allAns zeroSt someL)) := IntsAt.of hr3
  clear ho3 hr3
  obtain ⟨pa, pc, hav, _⟩ := RowAt.len HI3.out
  subst hav
  have HS3 : Hid ((allSt zeroSt someL).at_ = 10 ∧ (allSt zeroSt someL).clock = 42 ∧ (allSt zeroSt someL).v0 = 12 ∧ (allSt zeroSt someL).v1 = 2 ∧ (allSt zeroSt someL).v2 = 0 ∧ (allSt zeroSt someL).v3 = 0) := ⟨HR.out.2.1, HR.out.2.2.1, HR.out.2.2.2.1, HR.out.2.2.2.2.1, HR.out.2.2.2.2.2.1, HR.out.2.2.2.2.2.2.1⟩
  have HA3 : Hid (allAns zeroSt someL = [0, 5, 5, -3, 0, 3, -4, -3, 0, 12]) := HR.out.2.2.2.2.2.2.2.1
  have HC3 : Hid (listErr someL = 0) := HR.out.2.2.2.2.2.2.2.2
  rw [HR.out.1]
  clear HR
  generalize allSt zeroSt someL = t at *
  generalize allAns zeroSt someL = an at *
  go_wp2_with fail
  have T4 : StBox w3.heap.size t (.slice xa t.tab.length xc) (w3.alloc (.cells #[.int .i64 t.at_, .int .i64 t.clock, .int .i64 t.v0, .int .i64 t.v1, .int .i64 t.v2, .int .i64 t.v3, .slice xa t.tab.length xc] 25)) := StBox.new w3 t _ 25
  have k34 : Keeps w3 (w3.alloc (.cells #[.int .i64 t.at_, .int .i64 t.clock, .int .i64 t.v0, .int .i64 t.v1, .int .i64 t.v2, .int .i64 t.v3, .slice xa t.tab.length xc] 25)) := (Keeps.refl _).alloc _
  generalize (w3.alloc (.cells #[.int .i64 t.at_, .int .i64 t.clock, .int .i64 t.v0, .int .i64 t.v1, .int .i64 t.v2, .int .i64 t.v3, .slice xa t.tab.length xc] 25)) = w4 at *
  have HT4 : Hid (StBox w3.heap.size t (.slice xa t.tab.length xc) w4) := T4
  have HK4 : Hid (Keeps w w4) := k3.trans k34
  have HI4 : Hid (IntsAt w4 (.slice pa an.length pc) an) := HI3.out.keep k34
  clear T4 k34 HI3 k3
  generalize w3.heap.size = TB at *
  have HMANY : Hid (∀ W v, EntsAt W v manyL → Calls Try.prog 9 #[stV zeroSt (.slice none 0 0), v] W fun y w' => ∃ qa qn qc ra rn rc, y = .returned (.tuple #[stV zeroSt (.slice qa qn qc), .slice ra rn rc, .int .i64 2]) ∧ Keeps W w') := by
    intro W v hv
    refine (fold_all zeroSt _ _ v W (tab_none _) hv).mono ?_
    rintro y w' ⟨x', av, ho, hr, rfl, hb⟩
    obtain ⟨qa, qc, rfl, _⟩ := ho.tab.len
    obtain ⟨ra, rc, hra, _⟩ := (RowAt.of_owns hr).len
    subst hra
    have e1 : allSt zeroSt manyL = zeroSt := by simp [allSt, HM.out.1]
    exact ⟨qa, (allSt zeroSt manyL).tab.length, qc, ra, (allAns zeroSt manyL).length, rc, by rw [HM.out.1, e1], hb⟩
  go_cut [4, 5, 6] (fun p q f wc => f = .int .i64 2 ∧ Keeps w4 wc)
  case first =>
    obtain ⟨W0, hW0⟩ : ∃ z, z = w4.drew := ⟨_, rfl⟩
    have k0 : Keeps w4 W0 := by rw [hW0]; exact (Keeps.refl _).drew
    refine wp_region_held_drew (S := fun _ => True) (by kernel_rfl) trivial (fun hS => ?_)
    rw [← hW0]
    clear hW0
    refine wpAnyH_ready (rs := [0, 1, 7]) (by kernel_rfl) (by simp) ?_
    refine AllReadyH.cons rfl (fun K hK => ?_) (AllReadyH.cons rfl (fun K hK => ?_) (AllReadyH.cons rfl (fun K hK => ?_) (AllReadyH.nil)))
    · go_simp
      refine (begin_c W0).mono ?_
      rintro y W1 ⟨rfl, hb⟩
      have k1 := k0.trans hb
      clear hb
      go_simp
      refine hK.out _ _ trivial (fun hS => ?_)
      clear hK K
      refine wpAnyH_ready (rs := [1, 7]) (by kernel_rfl) (by simp) ?_
      refine AllReadyH.cons rfl (fun K hK => ?_) (AllReadyH.cons rfl (fun K hK => ?_) (AllReadyH.nil))
      · have hmk := make_many W1
        go_simp
        clear hmk
        have hb : Keeps W1 (W1.alloc (.cells manyC 57)) := (Keeps.refl _).alloc _
        have hnew := EntsAt.new W1 manyL (by decide) 51
        obtain ⟨W2, hW2⟩ : ∃ z, z = W1.alloc (.cells manyC 57) := ⟨_, rfl⟩
        have HM2 : Hid (EntsAt W2 (.slice (some ⟨W1.heap.size, 0, none⟩) 51 51) manyL) := by rw [hW2]; exact hnew
        rw [← hW2] at hb ⊢
        clear hW2 hnew
        have k2 := k1.trans hb
        clear hb
        refine hK.out _ _ trivial (fun hS => ?_)
        clear hK K
        refine wpAnyH_ready (rs := [2, 7]) (by kernel_rfl) (by simp) ?_
        refine AllReadyH.cons rfl (fun K hK => ?_) (AllReadyH.cons rfl (fun K hK => ?_) (AllReadyH.nil))
        · go_simp
          refine (HMANY.out W2 _ HM2.out).mono ?_
          rintro y W3 ⟨qa, qn, qc, ra, rn, rc, rfl, hb⟩
          have k3 := k2.trans hb
          clear hb
          go_simp
          refine hK.out _ _ trivial (fun hS => ?_)
          clear hK K
          refine wpAnyH_take (i := 3) (v := .tuple #[stV zeroSt (.slice qa qn qc), .slice ra rn rc, .int .i64 2]) rfl (by kernel_rfl) (by kernel_rfl) (by kernel_rfl) (fun _ _ _ h => h) (Or.inl ⟨by rfl, ?_⟩) hS ?_
          · intro w hS; go_simp
          refine wpAnyH_take (i := 4) (v := stV zeroSt (.slice qa qn qc)) rfl (by kernel_rfl) (by kernel_rfl) (by kernel_rfl) (fun _ _ _ h => h) (Or.inl ⟨by rfl, ?_⟩) hS ?_
          · intro w hS; go_simp
          refine wpAnyH_take (i := 5) (v := .slice ra rn rc) rfl (by kernel_rfl) (by kernel_rfl) (by kernel_rfl) (fun _ _ _ h => h) (Or.inl ⟨by rfl, ?_⟩) hS ?_
          · intro w hS; go_simp
          refine wpAnyH_take (i := 6) (v := .int .i64 2) rfl (by kernel_rfl) (by kernel_rfl) (by kernel_rfl) (fun _ _ _ h => h) (Or.inl ⟨by rfl, ?_⟩) hS ?_
          · intro w hS; go_simp
          refine wpAnyH_ready (rs := [7]) (by kernel_rfl) (by simp) ?_
          refine AllReadyH.cons rfl (fun K hK => ?_) (AllReadyH.nil)
          go_simp
          have hb : Keeps W3 (W3.alloc (.cells #[.int .i64 0, .int .i64 0, .int .i64 0, .int .i64 0, .int .i64 0, .int .i64 0, .slice none 0 0] 25)) := (Keeps.refl _).alloc _
          have HQ4 : Hid (StBox W3.heap.size zeroSt (.slice none 0 0) (W3.alloc (.cells #[.int .i64 0, .int .i64 0, .int .i64 0, .int .i64 0, .int .i64 0, .int .i64 0, .slice none 0 0] 25))) := StBox.new W3 zeroSt (.slice none 0 0) 25
          generalize W3.alloc (.cells #[.int .i64 0, .int .i64 0, .int .i64 0, .int .i64 0, .int .i64 0, .int .i64 0, .slice none 0 0] 25) = W4 at *
          have k4 := k3.trans hb
          clear hb
          refine hK.out _ _ trivial (fun hS => ?_)
          clear hK K
          refine wpAnyH_ready (rs := [8]) (by kernel_rfl) (by simp) ?_
          refine AllReadyH.cons rfl (fun K hK => ?_) (AllReadyH.nil)
          have z0 := HQ4.out.c0
          have z1 := HQ4.out.c1
          have z2 := HQ4.out.c2
          have z3 := HQ4.out.c3
          have z4 := HQ4.out.c4
          have z5 := HQ4.out.c5
          have z6 := HQ4.out.c6
          have zf := HQ4.out.fz
          have zl := HQ4.out.lt
          go_simp
          have BT := But.puts (b := W3.heap.size) W4 zeroSt (.slice qa qn qc)
          have KF := But.to k4 k3.size BT
          refine hK.out _ _ trivial (fun hS => ?_)
          clear hK K
          refine wpAnyH_take (i := 9) (v := .slice ra rn rc) rfl (by kernel_rfl) (by kernel_rfl) (by kernel_rfl) (fun _ _ _ h => h) (Or.inl ⟨by rfl, ?_⟩) hS ?_
          · intro w hS; go_simp
          refine wpAnyH_take (i := 10) (v := .int .i64 2) rfl (by kernel_rfl) (by kernel_rfl) (by kernel_rfl) (fun _ _ _ h => h) (Or.inl ⟨by rfl, ?_⟩) hS ?_
          · intro w hS; go_simp
          refine wpAnyH_done (by kernel_rfl) ?_ _
          go_wp2_with fail
          go_meet
          exact ⟨rfl, KF⟩
        · go_simp
          have hb : Keeps W2 (W2.alloc (.cells #[.int .i64 0, .int .i64 0, .int .i64 0, .int .i64 0, .int .i64 0, .int .i64 0, .slice none 0 0] 25)) := (Keeps.refl _).alloc _
          have HQ3 : Hid (StBox W2.heap.size zeroSt (.slice none 0 0) (W2.alloc (.cells #[.int .i64 0, .int .i64 0, .int .i64 0, .int .i64 0, .int .i64 0, .int .i64 0, .slice none 0 0] 25))) := StBox.new W2 zeroSt (.slice none 0 0) 25
          generalize W2.alloc (.cells #[.int .i64 0, .int .i64 0, .int .i64 0, .int .i64 0, .int .i64 0, .int .i64 0, .slice none 0 0] 25) = W3 at *
          have k3 := k2.trans hb
          have HM3 : Hid (EntsAt W3 (.slice (some ⟨W1.heap.size, 0, none⟩) 51 51) manyL) := HM2.out.keep hb
          clear hb
          refine hK.out _ _ trivial (fun hS => ?_)
          clear hK K
          refine wpAnyH_ready (rs := [2]) (by kernel_rfl) (by simp) ?_
          refine AllReadyH.cons rfl (fun K hK => ?_) (AllReadyH.nil)
          go_simp
          refine (HMANY.out W3 _ HM3.out).mono ?_
          rintro y W4 ⟨qa, qn, qc, ra, rn, rc, rfl, hb⟩
          have k4 := k3.trans hb
          have HQ4 : Hid (StBox W2.heap.size zeroSt (.slice none 0 0) W4) := HQ3.out.keep hb
          clear hb
          go_simp
          refine hK.out _ _ trivial (fun hS => ?_)
          clear hK K
          refine wpAnyH_take (i := 3) (v := .tuple #[stV zeroSt (.slice qa qn qc), .slice ra rn rc, .int .i64 2]) rfl (by kernel_rfl) (by kernel_rfl) (by kernel_rfl) (fun _ _ _ h => h) (Or.inl ⟨by rfl, ?_⟩) hS ?_
          · intro w hS; go_simp
          refine wpAnyH_take (i := 4) (v := stV zeroSt (.slice qa qn qc)) rfl (by kernel_rfl) (by kernel_rfl) (by kernel_rfl) (fun _ _ _ h => h) (Or.inl ⟨by rfl, ?_⟩) hS ?_
          · intro w hS; go_simp
          refine wpAnyH_take (i := 5) (v := .slice ra rn rc) rfl (by kernel_rfl) (by kernel_rfl) (by kernel_rfl) (fun _ _ _ h => h) (Or.inl ⟨by rfl, ?_⟩) hS ?_
          · intro w hS; go_simp
          refine wpAnyH_take (i := 6) (v := .int .i64 2) rfl (by kernel_rfl) (by kernel_rfl) (by kernel_rfl) (fun _ _ _ h => h) (Or.inl ⟨by rfl, ?_⟩) hS ?_
          · intro w hS; go_simp
          refine wpAnyH_ready (rs := [8]) (by kernel_rfl) (by simp) ?_
          refine AllReadyH.cons rfl (fun K hK => ?_) (AllReadyH.nil)
          have z0 := HQ4.out.c0
          have z1 := HQ4.out.c1
          have z2 := HQ4.out.c2
          have z3 := HQ4.out.c3
          have z4 := HQ4.out.c4
          have z5 := HQ4.out.c5
          have z6 := HQ4.out.c6
          have zf := HQ4.out.fz
          have zl := HQ4.out.lt
          go_simp
          have BT := But.puts (b := W2.heap.size) W4 zeroSt (.slice qa qn qc)
          have KF := But.to k4 k2.size BT
          refine hK.out _ _ trivial (fun hS => ?_)
          clear hK K
          refine wpAnyH_take (i := 9) (v := .slice ra rn rc) rfl (by kernel_rfl) (by kernel_rfl) (by kernel_rfl) (fun _ _ _ h => h) (Or.inl ⟨by rfl, ?_⟩) hS ?_
          · intro w hS; go_simp
          refine wpAnyH_take (i := 10) (v := .int .i64 2) rfl (by kernel_rfl) (by kernel_rfl) (by kernel_rfl) (fun _ _ _ h => h) (Or.inl ⟨by rfl, ?_⟩) hS ?_
          · intro w hS; go_simp
          refine wpAnyH_done (by kernel_rfl) ?_ _
          go_wp2_with fail
          go_meet
          exact ⟨rfl, KF⟩
      · go_simp
        have hb : Keeps W1 (W1.alloc (.cells #[.int .i64 0, .int .i64 0, .int .i64 0, .int .i64 0, .int .i64 0, .int .i64 0, .slice none 0 0] 25)) := (Keeps.refl _).alloc _
        have HQ2 : Hid (StBox W1.heap.size zeroSt (.slice none 0 0) (W1.alloc (.cells #[.int .i64 0, .int .i64 0, .int .i64 0, .int .i64 0, .int .i64 0, .int .i64 0, .slice none 0 0] 25))) := StBox.new W1 zeroSt (.slice none 0 0) 25
        generalize W1.alloc (.cells #[.int .i64 0, .int .i64 0, .int .i64 0, .int .i64 0, .int .i64 0, .int .i64 0, .slice none 0 0] 25) = W2 at *
        have k2 := k1.trans hb
        clear hb
        refine hK.out _ _ trivial (fun hS => ?_)
        clear hK K
        refine wpAnyH_ready (rs := [1]) (by kernel_rfl) (by simp) ?_
        refine AllReadyH.cons rfl (fun K hK => ?_) (AllReadyH.nil)
        have hmk := make_many W2
        go_simp
        clear hmk
        have hb : Keeps W2 (W2.alloc (.cells manyC 57)) := (Keeps.refl _).alloc _
        have hnew := EntsAt.new W2 manyL (by decide) 51
        obtain ⟨W3, hW3⟩ : ∃ z, z = W2.alloc (.cells manyC 57) := ⟨_, rfl⟩
        have HM3 : Hid (EntsAt W3 (.slice (some ⟨W2.heap.size, 0, none⟩) 51 51) manyL) := by rw [hW3]; exact hnew
        rw [← hW3] at hb ⊢
        clear hW3 hnew
        have k3 := k2.trans hb
        have HQ3 : Hid (StBox W1.heap.size zeroSt (.slice none 0 0) W3) := HQ2.out.keep hb
        clear hb
        refine hK.out _ _ trivial (fun hS => ?_)
        clear hK K
        refine wpAnyH_ready (rs := [2]) (by kernel_rfl) (by simp) ?_
        refine AllReadyH.cons rfl (fun K hK => ?_) (AllReadyH.nil)
        go_simp
        refine (HMANY.out W3 _ HM3.out).mono ?_
        rintro y W4 ⟨qa, qn, qc, ra, rn, rc, rfl, hb⟩
        have k4 := k3.trans hb
        have HQ4 : Hid (StBox W1.heap.size zeroSt (.slice none 0 0) W4) := HQ3.out.keep hb
        clear hb
        go_simp
        refine hK.out _ _ trivial (fun hS => ?_)
        clear hK K
        refine wpAnyH_take (i := 3) (v := .tuple #[stV zeroSt (.slice qa qn qc), .slice ra rn rc, .int .i64 2]) rfl (by kernel_rfl) (by kernel_rfl) (by kernel_rfl) (fun _ _ _ h => h) (Or.inl ⟨by rfl, ?_⟩) hS ?_
        · intro w hS; go_simp
        refine wpAnyH_take (i := 4) (v := stV zeroSt (.slice qa qn qc)) rfl (by kernel_rfl) (by kernel_rfl) (by kernel_rfl) (fun _ _ _ h => h) (Or.inl ⟨by rfl, ?_⟩) hS ?_
        · intro w hS; go_simp
        refine wpAnyH_take (i := 5) (v := .slice ra rn rc) rfl (by kernel_rfl) (by kernel_rfl) (by kernel_rfl) (fun _ _ _ h => h) (Or.inl ⟨by rfl, ?_⟩) hS ?_
        · intro w hS; go_simp
        refine wpAnyH_take (i := 6) (v := .int .i64 2) rfl (by kernel_rfl) (by kernel_rfl) (by kernel_rfl) (fun _ _ _ h => h) (Or.inl ⟨by rfl, ?_⟩) hS ?_
        · intro w hS; go_simp
        refine wpAnyH_ready (rs := [8]) (by kernel_rfl) (by simp) ?_
        refine AllReadyH.cons rfl (fun K hK => ?_) (AllReadyH.nil)
        have z0 := HQ4.out.c0
        have z1 := HQ4.out.c1
        have z2 := HQ4.out.c2
        have z3 := HQ4.out.c3
        have z4 := HQ4.out.c4
        have z5 := HQ4.out.c5
        have z6 := HQ4.out.c6
        have zf := HQ4.out.fz
        have zl := HQ4.out.lt
        go_simp
        have BT := But.puts (b := W1.heap.size) W4 zeroSt (.slice qa qn qc)
        have KF := But.to k4 k1.size BT
        refine hK.out _ _ trivial (fun hS => ?_)
        clear hK K
        refine wpAnyH_take (i := 9) (v := .slice ra rn rc) rfl (by kernel_rfl) (by kernel_rfl) (by kernel_rfl) (fun _ _ _ h => h) (Or.inl ⟨by rfl, ?_⟩) hS ?_
        · intro w hS; go_simp
        refine wpAnyH_take (i := 10) (v := .int .i64 2) rfl (by kernel_rfl) (by kernel_rfl) (by kernel_rfl) (fun _ _ _ h => h) (Or.inl ⟨by rfl, ?_⟩) hS ?_
        · intro w hS; go_simp
        refine wpAnyH_done (by kernel_rfl) ?_ _
        go_wp2_with fail
        go_meet
        exact ⟨rfl, KF⟩
    · have hmk := make_many W0
      go_simp
      clear hmk
      have hb : Keeps W0 (W0.alloc (.cells manyC 57)) := (Keeps.refl _).alloc _
      have hnew := EntsAt.new W0 manyL (by decide) 51
      obtain ⟨W1, hW1⟩ : ∃ z, z = W0.alloc (.cells manyC 57) := ⟨_, rfl⟩
      have HM1 : Hid (EntsAt W1 (.slice (some ⟨W0.heap.size, 0, none⟩) 51 51) manyL) := by rw [hW1]; exact hnew
      rw [← hW1] at hb ⊢
      clear hW1 hnew
      have k1 := k0.trans hb
      clear hb
      refine hK.out _ _ trivial (fun hS => ?_)
      clear hK K
      refine wpAnyH_ready (rs := [0, 7]) (by kernel_rfl) (by simp) ?_
      refine AllReadyH.cons rfl (fun K hK => ?_) (AllReadyH.cons rfl (fun K hK => ?_) (AllReadyH.nil))
      · go_simp
        refine (begin_c W1).mono ?_
        rintro y W2 ⟨rfl, hb⟩
        have k2 := k1.trans hb
        have HM2 : Hid (EntsAt W2 (.slice (some ⟨W0.heap.size, 0, none⟩) 51 51) manyL) := HM1.out.keep hb
        clear hb
        go_simp
        refine hK.out _ _ trivial (fun hS => ?_)
        clear hK K
        refine wpAnyH_ready (rs := [2, 7]) (by kernel_rfl) (by simp) ?_
        refine AllReadyH.cons rfl (fun K hK => ?_) (AllReadyH.cons rfl (fun K hK => ?_) (AllReadyH.nil))
        · go_simp
          refine (HMANY.out W2 _ HM2.out).mono ?_
          rintro y W3 ⟨qa, qn, qc, ra, rn, rc, rfl, hb⟩
          have k3 := k2.trans hb
          clear hb
          go_simp
          refine hK.out _ _ trivial (fun hS => ?_)
          clear hK K
          refine wpAnyH_take (i := 3) (v := .tuple #[stV zeroSt (.slice qa qn qc), .slice ra rn rc, .int .i64 2]) rfl (by kernel_rfl) (by kernel_rfl) (by kernel_rfl) (fun _ _ _ h => h) (Or.inl ⟨by rfl, ?_⟩) hS ?_
          · intro w hS; go_simp
          refine wpAnyH_take (i := 4) (v := stV zeroSt (.slice qa qn qc)) rfl (by kernel_rfl) (by kernel_rfl) (by kernel_rfl) (fun _ _ _ h => h) (Or.inl ⟨by rfl, ?_⟩) hS ?_
          · intro w hS; go_simp
          refine wpAnyH_take (i := 5) (v := .slice ra rn rc) rfl (by kernel_rfl) (by kernel_rfl) (by kernel_rfl) (fun _ _ _ h => h) (Or.inl ⟨by rfl, ?_⟩) hS ?_
          · intro w hS; go_simp
          refine wpAnyH_take (i := 6) (v := .int .i64 2) rfl (by kernel_rfl) (by kernel_rfl) (by kernel_rfl) (fun _ _ _ h => h) (Or.inl ⟨by rfl, ?_⟩) hS ?_
          · intro w hS; go_simp
          refine wpAnyH_ready (rs := [7]) (by kernel_rfl) (by simp) ?_
          refine AllReadyH.cons rfl (fun K hK => ?_) (AllReadyH.nil)
          go_simp
          have hb : Keeps W3 (W3.alloc (.cells #[.int .i64 0, .int .i64 0, .int .i64 0, .int .i64 0, .int .i64 0, .int .i64 0, .slice none 0 0] 25)) := (Keeps.refl _).alloc _
          have HQ4 : Hid (StBox W3.heap.size zeroSt (.slice none 0 0) (W3.alloc (.cells #[.int .i64 0, .int .i64 0, .int .i64 0, .int .i64 0, .int .i64 0, .int .i64 0, .slice none 0 0] 25))) := StBox.new W3 zeroSt (.slice none 0 0) 25
          generalize W3.alloc (.cells #[.int .i64 0, .int .i64 0, .int .i64 0, .int .i64 0, .int .i64 0, .int .i64 0, .slice none 0 0] 25) = W4 at *
          have k4 := k3.trans hb
          clear hb
          refine hK.out _ _ trivial (fun hS => ?_)
          clear hK K
          refine wpAnyH_ready (rs := [8]) (by kernel_rfl) (by simp) ?_
          refine AllReadyH.cons rfl (fun K hK => ?_) (AllReadyH.nil)
          have z0 := HQ4.out.c0
          have z1 := HQ4.out.c1
          have z2 := HQ4.out.c2
          have z3 := HQ4.out.c3
          have z4 := HQ4.out.c4
          have z5 := HQ4.out.c5
          have z6 := HQ4.out.c6
          have zf := HQ4.out.fz
          have zl := HQ4.out.lt
          go_simp
          have BT := But.puts (b := W3.heap.size) W4 zeroSt (.slice qa qn qc)
          have KF := But.to k4 k3.size BT
          refine hK.out _ _ trivial (fun hS => ?_)
          clear hK K
          refine wpAnyH_take (i := 9) (v := .slice ra rn rc) rfl (by kernel_rfl) (by kernel_rfl) (by kernel_rfl) (fun _ _ _ h => h) (Or.inl ⟨by rfl, ?_⟩) hS ?_
          · intro w hS; go_simp
          refine wpAnyH_take (i := 10) (v := .int .i64 2) rfl (by kernel_rfl) (by kernel_rfl) (by kernel_rfl) (fun _ _ _ h => h) (Or.inl ⟨by rfl, ?_⟩) hS ?_
          · intro w hS; go_simp
          refine wpAnyH_done (by kernel_rfl) ?_ _
          go_wp2_with fail
          go_meet
          exact ⟨rfl, KF⟩
        · go_simp
          have hb : Keeps W2 (W2.alloc (.cells #[.int .i64 0, .int .i64 0, .int .i64 0, .int .i64 0, .int .i64 0, .int .i64 0, .slice none 0 0] 25)) := (Keeps.refl _).alloc _
          have HQ3 : Hid (StBox W2.heap.size zeroSt (.slice none 0 0) (W2.alloc (.cells #[.int .i64 0, .int .i64 0, .int .i64 0, .int .i64 0, .int .i64 0, .int .i64 0, .slice none 0 0] 25))) := StBox.new W2 zeroSt (.slice none 0 0) 25
          generalize W2.alloc (.cells #[.int .i64 0, .int .i64 0, .int .i64 0, .int .i64 0, .int .i64 0, .int .i64 0, .slice none 0 0] 25) = W3 at *
          have k3 := k2.trans hb
          have HM3 : Hid (EntsAt W3 (.slice (some ⟨W0.heap.size, 0, none⟩) 51 51) manyL) := HM2.out.keep hb
          clear hb
          refine hK.out _ _ trivial (fun hS => ?_)
          clear hK K
          refine wpAnyH_ready (rs := [2]) (by kernel_rfl) (by simp) ?_
          refine AllReadyH.cons rfl (fun K hK => ?_) (AllReadyH.nil)
          go_simp
          refine (HMANY.out W3 _ HM3.out).mono ?_
          rintro y W4 ⟨qa, qn, qc, ra, rn, rc, rfl, hb⟩
          have k4 := k3.trans hb
          have HQ4 : Hid (StBox W2.heap.size zeroSt (.slice none 0 0) W4) := HQ3.out.keep hb
          clear hb
          go_simp
          refine hK.out _ _ trivial (fun hS => ?_)
          clear hK K
          refine wpAnyH_take (i := 3) (v := .tuple #[stV zeroSt (.slice qa qn qc), .slice ra rn rc, .int .i64 2]) rfl (by kernel_rfl) (by kernel_rfl) (by kernel_rfl) (fun _ _ _ h => h) (Or.inl ⟨by rfl, ?_⟩) hS ?_
          · intro w hS; go_simp
          refine wpAnyH_take (i := 4) (v := stV zeroSt (.slice qa qn qc)) rfl (by kernel_rfl) (by kernel_rfl) (by kernel_rfl) (fun _ _ _ h => h) (Or.inl ⟨by rfl, ?_⟩) hS ?_
          · intro w hS; go_simp
          refine wpAnyH_take (i := 5) (v := .slice ra rn rc) rfl (by kernel_rfl) (by kernel_rfl) (by kernel_rfl) (fun _ _ _ h => h) (Or.inl ⟨by rfl, ?_⟩) hS ?_
          · intro w hS; go_simp
          refine wpAnyH_take (i := 6) (v := .int .i64 2) rfl (by kernel_rfl) (by kernel_rfl) (by kernel_rfl) (fun _ _ _ h => h) (Or.inl ⟨by rfl, ?_⟩) hS ?_
          · intro w hS; go_simp
          refine wpAnyH_ready (rs := [8]) (by kernel_rfl) (by simp) ?_
          refine AllReadyH.cons rfl (fun K hK => ?_) (AllReadyH.nil)
          have z0 := HQ4.out.c0
          have z1 := HQ4.out.c1
          have z2 := HQ4.out.c2
          have z3 := HQ4.out.c3
          have z4 := HQ4.out.c4
          have z5 := HQ4.out.c5
          have z6 := HQ4.out.c6
          have zf := HQ4.out.fz
          have zl := HQ4.out.lt
          go_simp
          have BT := But.puts (b := W2.heap.size) W4 zeroSt (.slice qa qn qc)
          have KF := But.to k4 k2.size BT
          refine hK.out _ _ trivial (fun hS => ?_)
          clear hK K
          refine wpAnyH_take (i := 9) (v := .slice ra rn rc) rfl (by kernel_rfl) (by kernel_rfl) (by kernel_rfl) (fun _ _ _ h => h) (Or.inl ⟨by rfl, ?_⟩) hS ?_
          · intro w hS; go_simp
          refine wpAnyH_take (i := 10) (v := .int .i64 2) rfl (by kernel_rfl) (by kernel_rfl) (by kernel_rfl) (fun _ _ _ h => h) (Or.inl ⟨by rfl, ?_⟩) hS ?_
          · intro w hS; go_simp
          refine wpAnyH_done (by kernel_rfl) ?_ _
          go_wp2_with fail
          go_meet
          exact ⟨rfl, KF⟩
      · go_simp
        have hb : Keeps W1 (W1.alloc (.cells #[.int .i64 0, .int .i64 0, .int .i64 0, .int .i64 0, .int .i64 0, .int .i64 0, .slice none 0 0] 25)) := (Keeps.refl _).alloc _
        have HQ2 : Hid (StBox W1.heap.size zeroSt (.slice none 0 0) (W1.alloc (.cells #[.int .i64 0, .int .i64 0, .int .i64 0, .int .i64 0, .int .i64 0, .int .i64 0, .slice none 0 0] 25))) := StBox.new W1 zeroSt (.slice none 0 0) 25
        generalize W1.alloc (.cells #[.int .i64 0, .int .i64 0, .int .i64 0, .int .i64 0, .int .i64 0, .int .i64 0, .slice none 0 0] 25) = W2 at *
        have k2 := k1.trans hb
        have HM2 : Hid (EntsAt W2 (.slice (some ⟨W0.heap.size, 0, none⟩) 51 51) manyL) := HM1.out.keep hb
        clear hb
        refine hK.out _ _ trivial (fun hS => ?_)
        clear hK K
        refine wpAnyH_ready (rs := [0]) (by kernel_rfl) (by simp) ?_
        refine AllReadyH.cons rfl (fun K hK => ?_) (AllReadyH.nil)
        go_simp
        refine (begin_c W2).mono ?_
        rintro y W3 ⟨rfl, hb⟩
        have k3 := k2.trans hb
        have HQ3 : Hid (StBox W1.heap.size zeroSt (.slice none 0 0) W3) := HQ2.out.keep hb
        have HM3 : Hid (EntsAt W3 (.slice (some ⟨W0.heap.size, 0, none⟩) 51 51) manyL) := HM2.out.keep hb
        clear hb
        go_simp
        refine hK.out _ _ trivial (fun hS => ?_)
        clear hK K
        refine wpAnyH_ready (rs := [2]) (by kernel_rfl) (by simp) ?_
        refine AllReadyH.cons rfl (fun K hK => ?_) (AllReadyH.nil)
        go_simp
        refine (HMANY.out W3 _ HM3.out).mono ?_
        rintro y W4 ⟨qa, qn, qc, ra, rn, rc, rfl, hb⟩
        have k4 := k3.trans hb
        have HQ4 : Hid (StBox W1.heap.size zeroSt (.slice none 0 0) W4) := HQ3.out.keep hb
        clear hb
        go_simp
        refine hK.out _ _ trivial (fun hS => ?_)
        clear hK K
        refine wpAnyH_take (i := 3) (v := .tuple #[stV zeroSt (.slice qa qn qc), .slice ra rn rc, .int .i64 2]) rfl (by kernel_rfl) (by kernel_rfl) (by kernel_rfl) (fun _ _ _ h => h) (Or.inl ⟨by rfl, ?_⟩) hS ?_
        · intro w hS; go_simp
        refine wpAnyH_take (i := 4) (v := stV zeroSt (.slice qa qn qc)) rfl (by kernel_rfl) (by kernel_rfl) (by kernel_rfl) (fun _ _ _ h => h) (Or.inl ⟨by rfl, ?_⟩) hS ?_
        · intro w hS; go_simp
        refine wpAnyH_take (i := 5) (v := .slice ra rn rc) rfl (by kernel_rfl) (by kernel_rfl) (by kernel_rfl) (fun _ _ _ h => h) (Or.inl ⟨by rfl, ?_⟩) hS ?_
        · intro w hS; go_simp
        refine wpAnyH_take (i := 6) (v := .int .i64 2) rfl (by kernel_rfl) (by kernel_rfl) (by kernel_rfl) (fun _ _ _ h => h) (Or.inl ⟨by rfl, ?_⟩) hS ?_
        · intro w hS; go_simp
        refine wpAnyH_ready (rs := [8]) (by kernel_rfl) (by simp) ?_
        refine AllReadyH.cons rfl (fun K hK => ?_) (AllReadyH.nil)
        have z0 := HQ4.out.c0
        have z1 := HQ4.out.c1
        have z2 := HQ4.out.c2
        have z3 := HQ4.out.c3
        have z4 := HQ4.out.c4
        have z5 := HQ4.out.c5
        have z6 := HQ4.out.c6
        have zf := HQ4.out.fz
        have zl := HQ4.out.lt
        go_simp
        have BT := But.puts (b := W1.heap.size) W4 zeroSt (.slice qa qn qc)
        have KF := But.to k4 k1.size BT
        refine hK.out _ _ trivial (fun hS => ?_)
        clear hK K
        refine wpAnyH_take (i := 9) (v := .slice ra rn rc) rfl (by kernel_rfl) (by kernel_rfl) (by kernel_rfl) (fun _ _ _ h => h) (Or.inl ⟨by rfl, ?_⟩) hS ?_
        · intro w hS; go_simp
        refine wpAnyH_take (i := 10) (v := .int .i64 2) rfl (by kernel_rfl) (by kernel_rfl) (by kernel_rfl) (fun _ _ _ h => h) (Or.inl ⟨by rfl, ?_⟩) hS ?_
        · intro w hS; go_simp
        refine wpAnyH_done (by kernel_rfl) ?_ _
        go_wp2_with fail
        go_meet
        exact ⟨rfl, KF⟩
    · go_simp
      have hb : Keeps W0 (W0.alloc (.cells #[.int .i64 0, .int .i64 0, .int .i64 0, .int .i64 0, .int .i64 0, .int .i64 0, .slice none 0 0] 25)) := (Keeps.refl _).alloc _
      have HQ1 : Hid (StBox W0.heap.size zeroSt (.slice none 0 0) (W0.alloc (.cells #[.int .i64 0, .int .i64 0, .int .i64 0, .int .i64 0, .int .i64 0, .int .i64 0, .slice none 0 0] 25))) := StBox.new W0 zeroSt (.slice none 0 0) 25
      generalize W0.alloc (.cells #[.int .i64 0, .int .i64 0, .int .i64 0, .int .i64 0, .int .i64 0, .int .i64 0, .slice none 0 0] 25) = W1 at *
      have k1 := k0.trans hb
      clear hb
      refine hK.out _ _ trivial (fun hS => ?_)
      clear hK K
      refine wpAnyH_ready (rs := [0, 1]) (by kernel_rfl) (by simp) ?_
      refine AllReadyH.cons rfl (fun K hK => ?_) (AllReadyH.cons rfl (fun K hK => ?_) (AllReadyH.nil))
      · go_simp
        refine (begin_c W1).mono ?_
        rintro y W2 ⟨rfl, hb⟩
        have k2 := k1.trans hb
        have HQ2 : Hid (StBox W0.heap.size zeroSt (.slice none 0 0) W2) := HQ1.out.keep hb
        clear hb
        go_simp
        refine hK.out _ _ trivial (fun hS => ?_)
        clear hK K
        refine wpAnyH_ready (rs := [1]) (by kernel_rfl) (by simp) ?_
        refine AllReadyH.cons rfl (fun K hK => ?_) (AllReadyH.nil)
        have hmk := make_many W2
        go_simp
        clear hmk
        have hb : Keeps W2 (W2.alloc (.cells manyC 57)) := (Keeps.refl _).alloc _
        have hnew := EntsAt.new W2 manyL (by decide) 51
        obtain ⟨W3, hW3⟩ : ∃ z, z = W2.alloc (.cells manyC 57) := ⟨_, rfl⟩
        have HM3 : Hid (EntsAt W3 (.slice (some ⟨W2.heap.size, 0, none⟩) 51 51) manyL) := by rw [hW3]; exact hnew
        rw [← hW3] at hb ⊢
        clear hW3 hnew
        have k3 := k2.trans hb
        have HQ3 : Hid (StBox W0.heap.size zeroSt (.slice none 0 0) W3) := HQ2.out.keep hb
        clear hb
        refine hK.out _ _ trivial (fun hS => ?_)
        clear hK K
        refine wpAnyH_ready (rs := [2]) (by kernel_rfl) (by simp) ?_
        refine AllReadyH.cons rfl (fun K hK => ?_) (AllReadyH.nil)
        go_simp
        refine (HMANY.out W3 _ HM3.out).mono ?_
        rintro y W4 ⟨qa, qn, qc, ra, rn, rc, rfl, hb⟩
        have k4 := k3.trans hb
        have HQ4 : Hid (StBox W0.heap.size zeroSt (.slice none 0 0) W4) := HQ3.out.keep hb
        clear hb
        go_simp
        refine hK.out _ _ trivial (fun hS => ?_)
        clear hK K
        refine wpAnyH_take (i := 3) (v := .tuple #[stV zeroSt (.slice qa qn qc), .slice ra rn rc, .int .i64 2]) rfl (by kernel_rfl) (by kernel_rfl) (by kernel_rfl) (fun _ _ _ h => h) (Or.inl ⟨by rfl, ?_⟩) hS ?_
        · intro w hS; go_simp
        refine wpAnyH_take (i := 4) (v := stV zeroSt (.slice qa qn qc)) rfl (by kernel_rfl) (by kernel_rfl) (by kernel_rfl) (fun _ _ _ h => h) (Or.inl ⟨by rfl, ?_⟩) hS ?_
        · intro w hS; go_simp
        refine wpAnyH_take (i := 5) (v := .slice ra rn rc) rfl (by kernel_rfl) (by kernel_rfl) (by kernel_rfl) (fun _ _ _ h => h) (Or.inl ⟨by rfl, ?_⟩) hS ?_
        · intro w hS; go_simp
        refine wpAnyH_take (i := 6) (v := .int .i64 2) rfl (by kernel_rfl) (by kernel_rfl) (by kernel_rfl) (fun _ _ _ h => h) (Or.inl ⟨by rfl, ?_⟩) hS ?_
        · intro w hS; go_simp
        refine wpAnyH_ready (rs := [8]) (by kernel_rfl) (by simp) ?_
        refine AllReadyH.cons rfl (fun K hK => ?_) (AllReadyH.nil)
        have z0 := HQ4.out.c0
        have z1 := HQ4.out.c1
        have z2 := HQ4.out.c2
        have z3 := HQ4.out.c3
        have z4 := HQ4.out.c4
        have z5 := HQ4.out.c5
        have z6 := HQ4.out.c6
        have zf := HQ4.out.fz
        have zl := HQ4.out.lt
        go_simp
        have BT := But.puts (b := W0.heap.size) W4 zeroSt (.slice qa qn qc)
        have KF := But.to k4 k0.size BT
        refine hK.out _ _ trivial (fun hS => ?_)
        clear hK K
        refine wpAnyH_take (i := 9) (v := .slice ra rn rc) rfl (by kernel_rfl) (by kernel_rfl) (by kernel_rfl) (fun _ _ _ h => h) (Or.inl ⟨by rfl, ?_⟩) hS ?_
        · intro w hS; go_simp
        refine wpAnyH_take (i := 10) (v := .int .i64 2) rfl (by kernel_rfl) (by kernel_rfl) (by kernel_rfl) (fun _ _ _ h => h) (Or.inl ⟨by rfl, ?_⟩) hS ?_
        · intro w hS; go_simp
        refine wpAnyH_done (by kernel_rfl) ?_ _
        go_wp2_with fail
        go_meet
        exact ⟨rfl, KF⟩
      · have hmk := make_many W1
        go_simp
        clear hmk
        have hb : Keeps W1 (W1.alloc (.cells manyC 57)) := (Keeps.refl _).alloc _
        have hnew := EntsAt.new W1 manyL (by decide) 51
        obtain ⟨W2, hW2⟩ : ∃ z, z = W1.alloc (.cells manyC 57) := ⟨_, rfl⟩
        have HM2 : Hid (EntsAt W2 (.slice (some ⟨W1.heap.size, 0, none⟩) 51 51) manyL) := by rw [hW2]; exact hnew
        rw [← hW2] at hb ⊢
        clear hW2 hnew
        have k2 := k1.trans hb
        have HQ2 : Hid (StBox W0.heap.size zeroSt (.slice none 0 0) W2) := HQ1.out.keep hb
        clear hb
        refine hK.out _ _ trivial (fun hS => ?_)
        clear hK K
        refine wpAnyH_ready (rs := [0]) (by kernel_rfl) (by simp) ?_
        refine AllReadyH.cons rfl (fun K hK => ?_) (AllReadyH.nil)
        go_simp
        refine (begin_c W2).mono ?_
        rintro y W3 ⟨rfl, hb⟩
        have k3 := k2.trans hb
        have HQ3 : Hid (StBox W0.heap.size zeroSt (.slice none 0 0) W3) := HQ2.out.keep hb
        have HM3 : Hid (EntsAt W3 (.slice (some ⟨W1.heap.size, 0, none⟩) 51 51) manyL) := HM2.out.keep hb
        clear hb
        go_simp
        refine hK.out _ _ trivial (fun hS => ?_)
        clear hK K
        refine wpAnyH_ready (rs := [2]) (by kernel_rfl) (by simp) ?_
        refine AllReadyH.cons rfl (fun K hK => ?_) (AllReadyH.nil)
        go_simp
        refine (HMANY.out W3 _ HM3.out).mono ?_
        rintro y W4 ⟨qa, qn, qc, ra, rn, rc, rfl, hb⟩
        have k4 := k3.trans hb
        have HQ4 : Hid (StBox W0.heap.size zeroSt (.slice none 0 0) W4) := HQ3.out.keep hb
        clear hb
        go_simp
        refine hK.out _ _ trivial (fun hS => ?_)
        clear hK K
        refine wpAnyH_take (i := 3) (v := .tuple #[stV zeroSt (.slice qa qn qc), .slice ra rn rc, .int .i64 2]) rfl (by kernel_rfl) (by kernel_rfl) (by kernel_rfl) (fun _ _ _ h => h) (Or.inl ⟨by rfl, ?_⟩) hS ?_
        · intro w hS; go_simp
        refine wpAnyH_take (i := 4) (v := stV zeroSt (.slice qa qn qc)) rfl (by kernel_rfl) (by kernel_rfl) (by kernel_rfl) (fun _ _ _ h => h) (Or.inl ⟨by rfl, ?_⟩) hS ?_
        · intro w hS; go_simp
        refine wpAnyH_take (i := 5) (v := .slice ra rn rc) rfl (by kernel_rfl) (by kernel_rfl) (by kernel_rfl) (fun _ _ _ h => h) (Or.inl ⟨by rfl, ?_⟩) hS ?_
        · intro w hS; go_simp
        refine wpAnyH_take (i := 6) (v := .int .i64 2) rfl (by kernel_rfl) (by kernel_rfl) (by kernel_rfl) (fun _ _ _ h => h) (Or.inl ⟨by rfl, ?_⟩) hS ?_
        · intro w hS; go_simp
        refine wpAnyH_ready (rs := [8]) (by kernel_rfl) (by simp) ?_
        refine AllReadyH.cons rfl (fun K hK => ?_) (AllReadyH.nil)
        have z0 := HQ4.out.c0
        have z1 := HQ4.out.c1
        have z2 := HQ4.out.c2
        have z3 := HQ4.out.c3
        have z4 := HQ4.out.c4
        have z5 := HQ4.out.c5
        have z6 := HQ4.out.c6
        have zf := HQ4.out.fz
        have zl := HQ4.out.lt
        go_simp
        have BT := But.puts (b := W0.heap.size) W4 zeroSt (.slice qa qn qc)
        have KF := But.to k4 k0.size BT
        refine hK.out _ _ trivial (fun hS => ?_)
        clear hK K
        refine wpAnyH_take (i := 9) (v := .slice ra rn rc) rfl (by kernel_rfl) (by kernel_rfl) (by kernel_rfl) (fun _ _ _ h => h) (Or.inl ⟨by rfl, ?_⟩) hS ?_
        · intro w hS; go_simp
        refine wpAnyH_take (i := 10) (v := .int .i64 2) rfl (by kernel_rfl) (by kernel_rfl) (by kernel_rfl) (fun _ _ _ h => h) (Or.inl ⟨by rfl, ?_⟩) hS ?_
        · intro w hS; go_simp
        refine wpAnyH_done (by kernel_rfl) ?_ _
        go_wp2_with fail
        go_meet
        exact ⟨rfl, KF⟩
  case rest =>
    obtain ⟨rfl, k45⟩ := hcut
    obtain ⟨w5, hw5⟩ : ∃ z, z = wc := ⟨_, rfl⟩
    rw [← hw5] at k45 ⊢
    clear hw5
    have HT5 : Hid (StBox TB t (.slice xa t.tab.length xc) w5) := HT4.out.keep k45
    have HK5 : Hid (Keeps w w5) := HK4.out.trans k45
    have HI5 : Hid (IntsAt w5 (.slice pa an.length pc) an) := HI4.out.keep k45
    clear k45 HT4 HK4 HI4 HMANY
    go_wp2_with fail
    refine (shop_c w5).mono ?_
    rintro y w6 ⟨b6, ka, kc, la, lc, hb6, hsh, _, rfl, hb⟩
    have HSH : Hid (TabAt w6 (.slice (some ⟨b6, 0, none⟩) 2 2) [rowS 2, rowS 4]) := hsh.tab
    have HT6 : Hid (StBox TB t (.slice xa t.tab.length xc) w6) := HT5.out.keep hb
    have HK6 : Hid (Keeps w w6) := HK5.out.trans hb
    have HI6 : Hid (IntsAt w6 (.slice pa an.length pc) an) := HI5.out.keep hb
    clear hb hsh hb6 HT5 HK5 HI5
    go_wp2_with fail
    have L7 : StBox w6.heap.size lateS (.slice (some ⟨b6, 0, none⟩) 2 2) (w6.alloc (.cells #[.int .i64 45, .int .i64 10, .int .i64 7, .int .i64 0, .int .i64 0, .int .i64 1, .slice (some ⟨b6, 0, none⟩) 2 2] 25)) := StBox.new w6 lateS _ 25
    have hb : Keeps w6 (w6.alloc (.cells #[.int .i64 45, .int .i64 10, .int .i64 7, .int .i64 0, .int .i64 0, .int .i64 1, .slice (some ⟨b6, 0, none⟩) 2 2] 25)) := (Keeps.refl _).alloc _
    generalize w6.alloc (.cells #[.int .i64 45, .int .i64 10, .int .i64 7, .int .i64 0, .int .i64 0, .int .i64 1, .slice (some ⟨b6, 0, none⟩) 2 2] 25) = w7 at *
    generalize w6.heap.size = SB at *
    have HT7 : Hid (StBox TB t (.slice xa t.tab.length xc) w7) := HT6.out.keep hb
    have HK7 : Hid (Keeps w w7) := HK6.out.trans hb
    have HI7 : Hid (IntsAt w7 (.slice pa an.length pc) an) := HI6.out.keep hb
    have HSH7 : Hid (TabAt w7 (.slice (some ⟨b6, 0, none⟩) 2 2) lateS.tab) := HSH.out.keep hb
    have HL7 : Hid (StBox SB lateS (.slice (some ⟨b6, 0, none⟩) 2 2) w7) := L7
    clear hb L7 HT6 HK6 HI6 HSH
    have HS5 : Hid (∀ W, Keeps w7 W → W.cell? ⟨SB, 0, none⟩ = some (.int .i64 45) ∧ W.cell? ⟨SB, 1, none⟩ = some (.int .i64 10) ∧ W.cell? ⟨SB, 2, none⟩ = some (.int .i64 7) ∧ W.cell? ⟨SB, 3, none⟩ = some (.int .i64 0) ∧ W.cell? ⟨SB, 4, none⟩ = some (.int .i64 0) ∧ W.cell? ⟨SB, 5, none⟩ = some (.int .i64 1) ∧ W.cell? ⟨SB, 6, none⟩ = some (.slice (some ⟨b6, 0, none⟩) 2 2)) := fun W hk => have B := HL7.out.keep hk; ⟨B.c0, B.c1, B.c2, B.c3, B.c4, B.c5, B.c6⟩
    have HLATE : Hid (∀ W a c, Keeps w7 W → EntsAt W (.slice a someL.length c) someL → Calls Try.prog 9 #[.agg #[.int .i64 45, .int .i64 10, .int .i64 7, .int .i64 0, .int .i64 0, .int .i64 1, .slice (some ⟨b6, 0, none⟩) 2 2], .slice a someL.length c] W fun y w' => ∃ qa qn qc ra rn rc, y = .returned (.tuple #[stV zeroSt (.slice qa qn qc), .slice ra rn rc, .int .i64 2]) ∧ Keeps W w') := by
      intro W a c hk hv
      refine (fold_all lateS someL _ _ W (HSH7.out.keep hk) hv).mono ?_
      rintro y w' ⟨x', av, ho, hr, rfl, hb⟩
      obtain ⟨qa, qc, rfl, _⟩ := ho.tab.len
      obtain ⟨ra, rc, hra, _⟩ := (RowAt.of_owns hr).len
      subst hra
      have e1 : allSt lateS someL = zeroSt := by simp [allSt, HLT.out]
      exact ⟨qa, (allSt lateS someL).tab.length, qc, ra, (allAns lateS someL).length, rc, by rw [HLT.out, e1], hb⟩
    go_cut [8, 9, 10] (fun p q f wc => f = .int .i64 2 ∧ Keeps w7 wc)
    case first =>
      obtain ⟨W0, hW0⟩ : ∃ z, z = w7.drew := ⟨_, rfl⟩
      have k0 : Keeps w7 W0 := by rw [hW0]; exact (Keeps.refl _).drew
      refine wp_region_held_drew (S := fun W => W.cell? ⟨SB, 0, none⟩ = some (.int .i64 45) ∧ W.cell? ⟨SB, 1, none⟩ = some (.int .i64 10) ∧ W.cell? ⟨SB, 2, none⟩ = some (.int .i64 7) ∧ W.cell? ⟨SB, 3, none⟩ = some (.int .i64 0) ∧ W.cell? ⟨SB, 4, none⟩ = some (.int .i64 0) ∧ W.cell? ⟨SB, 5, none⟩ = some (.int .i64 1) ∧ W.cell? ⟨SB, 6, none⟩ = some (.slice (some ⟨b6, 0, none⟩) 2 2)) (by kernel_rfl) (HS5.out _ (Keeps.refl _).drew) (fun hS => ?_)
      rw [← hW0] at hS ⊢
      clear hW0
      refine wpAnyH_take (i := 0) (v := .agg #[.int .i64 45, .int .i64 10, .int .i64 7, .int .i64 0, .int .i64 0, .int .i64 1, .slice (some ⟨b6, 0, none⟩) 2 2]) rfl (by kernel_rfl) (by kernel_rfl) (by kernel_rfl) (fun _ _ _ h => h) (Or.inl ⟨by rfl, ?_⟩) hS ?_
      · intro w hS; go_simp
      refine wpAnyH_ready (rs := [1, 7]) (by kernel_rfl) (by simp) ?_
      refine AllReadyH.cons rfl (fun K hK => ?_) (AllReadyH.cons rfl (fun K hK => ?_) (AllReadyH.nil))
      · go_simp
        refine (some_c W0).mono ?_
        rintro y W1 ⟨v9, he9, rfl, hb⟩
        obtain ⟨a9, c9, rfl, _⟩ := he9.len
        have HE1 : Hid (EntsAt W1 (.slice a9 someL.length c9) someL) := he9
        have k1 := k0.trans hb
        clear hb he9
        go_simp
        refine hK.out _ _ (HS5.out _ k1) (fun hS => ?_)
        clear hK K
        refine wpAnyH_ready (rs := [2, 7]) (by kernel_rfl) (by simp) ?_
        refine AllReadyH.cons rfl (fun K hK => ?_) (AllReadyH.cons rfl (fun K hK => ?_) (AllReadyH.nil))
        · go_simp
          refine (HLATE.out W1 a9 c9 k1 HE1.out).mono ?_
          rintro y W2 ⟨qa, qn, qc, ra, rn, rc, rfl, hb⟩
          have k2 := k1.trans hb
          clear hb
          go_simp
          refine hK.out _ _ (HS5.out _ k2) (fun hS => ?_)
          clear hK K
          refine wpAnyH_take (i := 3) (v := .tuple #[stV zeroSt (.slice qa qn qc), .slice ra rn rc, .int .i64 2]) rfl (by kernel_rfl) (by kernel_rfl) (by kernel_rfl) (fun _ _ _ h => h) (Or.inl ⟨by rfl, ?_⟩) hS ?_
          · intro w hS; go_simp
          refine wpAnyH_take (i := 4) (v := stV zeroSt (.slice qa qn qc)) rfl (by kernel_rfl) (by kernel_rfl) (by kernel_rfl) (fun _ _ _ h => h) (Or.inl ⟨by rfl, ?_⟩) hS ?_
          · intro w hS; go_simp
          refine wpAnyH_take (i := 5) (v := .slice ra rn rc) rfl (by kernel_rfl) (by kernel_rfl) (by kernel_rfl) (fun _ _ _ h => h) (Or.inl ⟨by rfl, ?_⟩) hS ?_
          · intro w hS; go_simp
          refine wpAnyH_take (i := 6) (v := .int .i64 2) rfl (by kernel_rfl) (by kernel_rfl) (by kernel_rfl) (fun _ _ _ h => h) (Or.inl ⟨by rfl, ?_⟩) hS ?_
          · intro w hS; go_simp
          refine wpAnyH_ready (rs := [7]) (by kernel_rfl) (by simp) ?_
          refine AllReadyH.cons rfl (fun K hK => ?_) (AllReadyH.nil)
          go_simp
          have hb : Keeps W2 (W2.alloc (.cells #[.int .i64 0, .int .i64 0, .int .i64 0, .int .i64 0, .int .i64 0, .int .i64 0, .slice none 0 0] 25)) := (Keeps.refl _).alloc _
          have HQ3 : Hid (StBox W2.heap.size zeroSt (.slice none 0 0) (W2.alloc (.cells #[.int .i64 0, .int .i64 0, .int .i64 0, .int .i64 0, .int .i64 0, .int .i64 0, .slice none 0 0] 25))) := StBox.new W2 zeroSt (.slice none 0 0) 25
          generalize W2.alloc (.cells #[.int .i64 0, .int .i64 0, .int .i64 0, .int .i64 0, .int .i64 0, .int .i64 0, .slice none 0 0] 25) = W3 at *
          have k3 := k2.trans hb
          clear hb
          refine hK.out _ _ (HS5.out _ k3) (fun hS => ?_)
          clear hK K
          refine wpAnyH_ready (rs := [8]) (by kernel_rfl) (by simp) ?_
          refine AllReadyH.cons rfl (fun K hK => ?_) (AllReadyH.nil)
          have z0 := HQ3.out.c0
          have z1 := HQ3.out.c1
          have z2 := HQ3.out.c2
          have z3 := HQ3.out.c3
          have z4 := HQ3.out.c4
          have z5 := HQ3.out.c5
          have z6 := HQ3.out.c6
          have zf := HQ3.out.fz
          have zl := HQ3.out.lt
          go_simp
          have BT := But.puts (b := W2.heap.size) W3 zeroSt (.slice qa qn qc)
          have KF := But.to k3 k2.size BT
          refine hK.out _ _ (HS5.out _ KF) (fun hS => ?_)
          clear hK K
          refine wpAnyH_take (i := 9) (v := .slice ra rn rc) rfl (by kernel_rfl) (by kernel_rfl) (by kernel_rfl) (fun _ _ _ h => h) (Or.inl ⟨by rfl, ?_⟩) hS ?_
          · intro w hS; go_simp
          refine wpAnyH_take (i := 10) (v := .int .i64 2) rfl (by kernel_rfl) (by kernel_rfl) (by kernel_rfl) (fun _ _ _ h => h) (Or.inl ⟨by rfl, ?_⟩) hS ?_
          · intro w hS; go_simp
          refine wpAnyH_done (by kernel_rfl) ?_ _
          go_wp2_with fail
          go_meet
          exact ⟨rfl, KF⟩
        · go_simp
          have hb : Keeps W1 (W1.alloc (.cells #[.int .i64 0, .int .i64 0, .int .i64 0, .int .i64 0, .int .i64 0, .int .i64 0, .slice none 0 0] 25)) := (Keeps.refl _).alloc _
          have HQ2 : Hid (StBox W1.heap.size zeroSt (.slice none 0 0) (W1.alloc (.cells #[.int .i64 0, .int .i64 0, .int .i64 0, .int .i64 0, .int .i64 0, .int .i64 0, .slice none 0 0] 25))) := StBox.new W1 zeroSt (.slice none 0 0) 25
          generalize W1.alloc (.cells #[.int .i64 0, .int .i64 0, .int .i64 0, .int .i64 0, .int .i64 0, .int .i64 0, .slice none 0 0] 25) = W2 at *
          have k2 := k1.trans hb
          have HE2 : Hid (EntsAt W2 (.slice a9 someL.length c9) someL) := HE1.out.keep hb
          clear hb
          refine hK.out _ _ (HS5.out _ k2) (fun hS => ?_)
          clear hK K
          refine wpAnyH_ready (rs := [2]) (by kernel_rfl) (by simp) ?_
          refine AllReadyH.cons rfl (fun K hK => ?_) (AllReadyH.nil)
          go_simp
          refine (HLATE.out W2 a9 c9 k2 HE2.out).mono ?_
          rintro y W3 ⟨qa, qn, qc, ra, rn, rc, rfl, hb⟩
          have k3 := k2.trans hb
          have HQ3 : Hid (StBox W1.heap.size zeroSt (.slice none 0 0) W3) := HQ2.out.keep hb
          clear hb
          go_simp
          refine hK.out _ _ (HS5.out _ k3) (fun hS => ?_)
          clear hK K
          refine wpAnyH_take (i := 3) (v := .tuple #[stV zeroSt (.slice qa qn qc), .slice ra rn rc, .int .i64 2]) rfl (by kernel_rfl) (by kernel_rfl) (by kernel_rfl) (fun _ _ _ h => h) (Or.inl ⟨by rfl, ?_⟩) hS ?_
          · intro w hS; go_simp
          refine wpAnyH_take (i := 4) (v := stV zeroSt (.slice qa qn qc)) rfl (by kernel_rfl) (by kernel_rfl) (by kernel_rfl) (fun _ _ _ h => h) (Or.inl ⟨by rfl, ?_⟩) hS ?_
          · intro w hS; go_simp
          refine wpAnyH_take (i := 5) (v := .slice ra rn rc) rfl (by kernel_rfl) (by kernel_rfl) (by kernel_rfl) (fun _ _ _ h => h) (Or.inl ⟨by rfl, ?_⟩) hS ?_
          · intro w hS; go_simp
          refine wpAnyH_take (i := 6) (v := .int .i64 2) rfl (by kernel_rfl) (by kernel_rfl) (by kernel_rfl) (fun _ _ _ h => h) (Or.inl ⟨by rfl, ?_⟩) hS ?_
          · intro w hS; go_simp
          refine wpAnyH_ready (rs := [8]) (by kernel_rfl) (by simp) ?_
          refine AllReadyH.cons rfl (fun K hK => ?_) (AllReadyH.nil)
          have z0 := HQ3.out.c0
          have z1 := HQ3.out.c1
          have z2 := HQ3.out.c2
          have z3 := HQ3.out.c3
          have z4 := HQ3.out.c4
          have z5 := HQ3.out.c5
          have z6 := HQ3.out.c6
          have zf := HQ3.out.fz
          have zl := HQ3.out.lt
          go_simp
          have BT := But.puts (b := W1.heap.size) W3 zeroSt (.slice qa qn qc)
          have KF := But.to k3 k1.size BT
          refine hK.out _ _ (HS5.out _ KF) (fun hS => ?_)
          clear hK K
          refine wpAnyH_take (i := 9) (v := .slice ra rn rc) rfl (by kernel_rfl) (by kernel_rfl) (by kernel_rfl) (fun _ _ _ h => h) (Or.inl ⟨by rfl, ?_⟩) hS ?_
          · intro w hS; go_simp
          refine wpAnyH_take (i := 10) (v := .int .i64 2) rfl (by kernel_rfl) (by kernel_rfl) (by kernel_rfl) (fun _ _ _ h => h) (Or.inl ⟨by rfl, ?_⟩) hS ?_
          · intro w hS; go_simp
          refine wpAnyH_done (by kernel_rfl) ?_ _
          go_wp2_with fail
          go_meet
          exact ⟨rfl, KF⟩
      · go_simp
        have hb : Keeps W0 (W0.alloc (.cells #[.int .i64 0, .int .i64 0, .int .i64 0, .int .i64 0, .int .i64 0, .int .i64 0, .slice none 0 0] 25)) := (Keeps.refl _).alloc _
        have HQ1 : Hid (StBox W0.heap.size zeroSt (.slice none 0 0) (W0.alloc (.cells #[.int .i64 0, .int .i64 0, .int .i64 0, .int .i64 0, .int .i64 0, .int .i64 0, .slice none 0 0] 25))) := StBox.new W0 zeroSt (.slice none 0 0) 25
        generalize W0.alloc (.cells #[.int .i64 0, .int .i64 0, .int .i64 0, .int .i64 0, .int .i64 0, .int .i64 0, .slice none 0 0] 25) = W1 at *
        have k1 := k0.trans hb
        clear hb
        refine hK.out _ _ (HS5.out _ k1) (fun hS => ?_)
        clear hK K
        refine wpAnyH_ready (rs := [1]) (by kernel_rfl) (by simp) ?_
        refine AllReadyH.cons rfl (fun K hK => ?_) (AllReadyH.nil)
        go_simp
        refine (some_c W1).mono ?_
        rintro y W2 ⟨v9, he9, rfl, hb⟩
        obtain ⟨a9, c9, rfl, _⟩ := he9.len
        have HE2 : Hid (EntsAt W2 (.slice a9 someL.length c9) someL) := he9
        have k2 := k1.trans hb
        have HQ2 : Hid (StBox W0.heap.size zeroSt (.slice none 0 0) W2) := HQ1.out.keep hb
        clear hb he9
        go_simp
        refine hK.out _ _ (HS5.out _ k2) (fun hS => ?_)
        clear hK K
        refine wpAnyH_ready (rs := [2]) (by kernel_rfl) (by simp) ?_
        refine AllReadyH.cons rfl (fun K hK => ?_) (AllReadyH.nil)
        go_simp
        refine (HLATE.out W2 a9 c9 k2 HE2.out).mono ?_
        rintro y W3 ⟨qa, qn, qc, ra, rn, rc, rfl, hb⟩
        have k3 := k2.trans hb
        have HQ3 : Hid (StBox W0.heap.size zeroSt (.slice none 0 0) W3) := HQ2.out.keep hb
        clear hb
        go_simp
        refine hK.out _ _ (HS5.out _ k3) (fun hS => ?_)
        clear hK K
        refine wpAnyH_take (i := 3) (v := .tuple #[stV zeroSt (.slice qa qn qc), .slice ra rn rc, .int .i64 2]) rfl (by kernel_rfl) (by kernel_rfl) (by kernel_rfl) (fun _ _ _ h => h) (Or.inl ⟨by rfl, ?_⟩) hS ?_
        · intro w hS; go_simp
        refine wpAnyH_take (i := 4) (v := stV zeroSt (.slice qa qn qc)) rfl (by kernel_rfl) (by kernel_rfl) (by kernel_rfl) (fun _ _ _ h => h) (Or.inl ⟨by rfl, ?_⟩) hS ?_
        · intro w hS; go_simp
        refine wpAnyH_take (i := 5) (v := .slice ra rn rc) rfl (by kernel_rfl) (by kernel_rfl) (by kernel_rfl) (fun _ _ _ h => h) (Or.inl ⟨by rfl, ?_⟩) hS ?_
        · intro w hS; go_simp
        refine wpAnyH_take (i := 6) (v := .int .i64 2) rfl (by kernel_rfl) (by kernel_rfl) (by kernel_rfl) (fun _ _ _ h => h) (Or.inl ⟨by rfl, ?_⟩) hS ?_
        · intro w hS; go_simp
        refine wpAnyH_ready (rs := [8]) (by kernel_rfl) (by simp) ?_
        refine AllReadyH.cons rfl (fun K hK => ?_) (AllReadyH.nil)
        have z0 := HQ3.out.c0
        have z1 := HQ3.out.c1
        have z2 := HQ3.out.c2
        have z3 := HQ3.out.c3
        have z4 := HQ3.out.c4
        have z5 := HQ3.out.c5
        have z6 := HQ3.out.c6
        have zf := HQ3.out.fz
        have zl := HQ3.out.lt
        go_simp
        have BT := But.puts (b := W0.heap.size) W3 zeroSt (.slice qa qn qc)
        have KF := But.to k3 k0.size BT
        refine hK.out _ _ (HS5.out _ KF) (fun hS => ?_)
        clear hK K
        refine wpAnyH_take (i := 9) (v := .slice ra rn rc) rfl (by kernel_rfl) (by kernel_rfl) (by kernel_rfl) (fun _ _ _ h => h) (Or.inl ⟨by rfl, ?_⟩) hS ?_
        · intro w hS; go_simp
        refine wpAnyH_take (i := 10) (v := .int .i64 2) rfl (by kernel_rfl) (by kernel_rfl) (by kernel_rfl) (fun _ _ _ h => h) (Or.inl ⟨by rfl, ?_⟩) hS ?_
        · intro w hS; go_simp
        refine wpAnyH_done (by kernel_rfl) ?_ _
        go_wp2_with fail
        go_meet
        exact ⟨rfl, KF⟩
    case rest =>
      obtain ⟨rfl, k78⟩ := hcut
      have HT8 : Hid (StBox TB t (.slice xa t.tab.length xc) wc) := HT7.out.keep k78
      have HK8 : Hid (Keeps w wc) := HK7.out.trans k78
      have HI8 : Hid (IntsAt wc (.slice pa an.length pc) an) := HI7.out.keep k78
      clear k78 HT7 HK7 HI7 HSH7 HL7 HS5 HLATE HLT
      obtain ⟨w8, hw8⟩ : ∃ z, z = wc := ⟨_, rfl⟩
      rw [← hw8] at HT8 HK8 HI8 ⊢
      clear hw8
      go_wp2_with fail
      refine (some_c w8).mono ?_
      rintro y w9 ⟨v9, he9, rfl, hb⟩
      obtain ⟨a9, c9, rfl, _⟩ := he9.len
      have HE9 : Hid (EntsAt w9 (.slice a9 someL.length c9) someL) := he9
      have k9 : Keeps w8 w9 := hb
      clear hb he9
      go_wp2_with fail
      refine (fold_check someL _ w9 HE9.out).mono ?_
      rintro y w10 ⟨rfl, hb⟩
      have k10 : Keeps w8 w10 := k9.trans hb
      clear hb k9 HE9
      rw [HC3.out]
      have hmk := make_one w10
      go_wp2_with fail
      clear hmk
      have hb : Keeps w10 (w10.alloc (.cells oneC 57)) := (Keeps.refl _).alloc _
      have HE11 : Hid (EntsAt (w10.alloc (.cells oneC 57)) (.slice (some ⟨w10.heap.size, 0, none⟩) 1 1) oneL) := EntsAt.new w10 oneL (by decide) 1
      generalize w10.alloc (.cells oneC 57) = w11 at *
      have k11 := k10.trans hb
      clear hb k10
      refine (fold_check oneL _ w11 HE11.out).mono ?_
      rintro y w12 ⟨rfl, hb⟩
      have k12 : Keeps w8 w12 := k11.trans hb
      clear hb k11 HE11
      rw [HM.out.2]
      go_wp2_with fail
      have hb : Keeps w12 (w12.alloc (.cells #[.int .i64 0, .int .i64 5, .int .i64 5, .int .i64 (-3), .int .i64 0, .int .i64 3, .int .i64 (-4), .int .i64 (-3), .int .i64 0, .int .i64 12] 3)) := (Keeps.refl _).alloc _
      have HI13 : Hid (IntsAt (w12.alloc (.cells #[.int .i64 0, .int .i64 5, .int .i64 5, .int .i64 (-3), .int .i64 0, .int .i64 3, .int .i64 (-4), .int .i64 (-3), .int .i64 0, .int .i64 12] 3)) (.slice (some ⟨w12.heap.size, 0, none⟩) 10 10) [0, 5, 5, -3, 0, 3, -4, -3, 0, 12]) := IntsAt.new w12 [0, 5, 5, -3, 0, 3, -4, -3, 0, 12] (by decide) 10
      generalize w12.alloc (.cells #[.int .i64 0, .int .i64 5, .int .i64 5, .int .i64 (-3), .int .i64 0, .int .i64 3, .int .i64 (-4), .int .i64 (-3), .int .i64 0, .int .i64 12] 3) = w13 at *
      have k13 := k12.trans hb
      clear hb k12
      refine (same_ints an _ _ _ w13 (HI8.out.keep k13) HI13.out).mono ?_
      rintro y w14 ⟨rfl, hb⟩
      have k14 : Keeps w8 w14 := k13.trans hb
      clear hb k13
      have hsm : sameInts an [0, 5, 5, -3, 0, 3, -4, -3, 0, 12] = true := sameInts_iff.2 HA3.out
      rw [hsm]
      clear hsm
      have T14 := HT8.out.keep k14
      have HK14 : Hid (Keeps w w14) := HK8.out.trans k14
      have t0 := T14.c0
      have t1 := T14.c1
      have t2 := T14.c2
      have t3 := T14.c3
      have t4 := T14.c4
      have t5 := T14.c5
      have tl := T14.lt
      rw [HS3.out.1] at t0
      rw [HS3.out.2.1] at t1
      rw [HS3.out.2.2.1] at t2
      rw [HS3.out.2.2.2.1] at t3
      rw [HS3.out.2.2.2.2.1] at t4
      rw [HS3.out.2.2.2.2.2] at t5
      have he := eql22
      clear T14 HI8 HI13 k14
      go_wp2_with fail
      go_ret
      exact ⟨rfl, HK14.out⟩
end Go.Proofs.Yteabfjpajgakiac
