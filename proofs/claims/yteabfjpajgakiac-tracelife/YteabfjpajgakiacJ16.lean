/- FoJ, Bools, ApQ1. -/
import Derived.Test.YteabfjpajgakiacJ04
import Derived.Test.YteabfjpajgakiacJ12
import Derived.Test.YteabfjpajgakiacJ15
/- FoldSplit: the walk. -/
set_option linter.unusedSimpArgs false
set_option linter.unusedVariables false
set_option maxRecDepth 10000
namespace Go.Proofs.Yteabfjpajgakiac
open Go.RowKit

/-- An append whose run is known, of an operation that is guarded and wanted. -/
theorem wpList_append_wanted {P : Program} {w w' : World} {ops : Array Oper} {rest : List Oper} {o : Oper} {a : Act} {Q : Exit → Act → World → Prop} {v x v' : Value} (hw : Region.wanted o (yielded ops a.tmps) = true) (s y : Operand) (t : TypeId)
    (ho : o.op = .call { callee := .builtin .append, args := #[s, y], argTypes := #[t, t] }) (hs : a.eval s = v) (hx : a.eval y = x)
    (hr : (Builtin.append_ #[t, t] o.type #[v, x]).run P w = .ok v' w') (h : wpList P ops Q rest (a.put o.dst v') w') : wpList P ops Q (o :: rest) a w := by
  refine wpList_step fun K hK => ?_
  rw [if_pos hw]
  unfold Oper.wp
  simp [execOp, ho, resolve, invoke, builtin, hs, hx, hr, Result.andThen]
  exact hK _ _ h

/-- All, of right ones. -/
theorem all_right {s : St} {L : List Ent} (h : foldErr s L = 0) (x v : Value) (w : World) (hT : TabAt w x s.tab) (hL : EntsAt w v L) :
    Calls Try.prog 9 #[stV s x, v] w fun y w' => ∃ qa qc ra rc, Hid (OwnTab w.heap.size w' (.slice qa (runSt s L).tab.length qc) (runSt s L).tab) ∧ Hid (w'.ownsRow w.heap.size 3 1 (.slice ra (runAns s L).length rc) (runAns s L).length (intCells (runAns s L))) ∧ y = .returned (.tuple #[stV (runSt s L) (.slice qa (runSt s L).tab.length qc), .slice ra (runAns s L).length rc, .int .i64 0]) ∧ Keeps w w' := by
  refine (fold_all s L x v w hT hL).mono ?_
  rintro y w' ⟨x', av, ho, hr, rfl, hb⟩
  have e1 : allSt s L = runSt s L := by simp [allSt, h]
  have e2 : allAns s L = runAns s L := by simp [allAns, h]
  rw [e1] at ho
  rw [e2] at hr
  obtain ⟨qa, qc, rfl, _⟩ := ho.tab.len
  obtain ⟨ra, rc, hra, _⟩ := (RowAt.of_owns hr).len
  subst hra
  rw [e1, h]
  exact ⟨qa, qc, ra, rc, ho, hr, rfl, hb⟩

set_option maxHeartbeats 4000000 in
theorem split_law (s : St) (L : List Ent) (n : Int) (x : Value) (la : Option Addr) (lc : Nat) (w : World) (hT : TabAt w x s.tab) (hL : EntsAt w (.slice la L.length lc) L) (hcap : L.length ≤ lc) (n0 : -9223372036854775808 ≤ n) (n1' : n ≤ 9223372036854775807) :
    Calls Try.prog 4 #[stV s x, .slice la L.length lc, .int .i64 n] w fun y w' => y = .returned (.bool true) ∧ Keeps w w' := by
  obtain ⟨xa, xc, rfl, _⟩ := hT.len
  have HT : Hid (TabAt w (.slice xa s.tab.length xc) s.tab) := hT
  have HL : Hid (EntsAt w (.slice la L.length lc) L) := hL
  have hlen := hL.2.1
  unfold maxLen at hlen
  clear hT hL
  go_enter Try.func4, Try.ntmps4
  go_wp2_with fail
  obtain ⟨W1, hW1⟩ : ∃ W1, W1 = w.alloc (.cells #[.int .i64 s.at_, .int .i64 s.clock, .int .i64 s.v0, .int .i64 s.v1, .int .i64 s.v2, .int .i64 s.v3, .slice xa s.tab.length xc] 25) := ⟨_, rfl⟩
  have k1 : Keeps w W1 := by rw [hW1]; exact (Keeps.refl _).alloc _
  have B1 : StBox w.heap.size s (.slice xa s.tab.length xc) W1 := by rw [hW1]; exact StBox.new w s _ 25
  rw [← hW1]
  clear hW1
  refine (fold_all s L _ _ W1 (HT.out.keep k1) (HL.out.keep k1)).mono ?_
  rintro y w1 ⟨x1, av1, ho, hr, rfl, hb⟩
  obtain ⟨pa, pc, rfl, _⟩ := ho.tab.len
  obtain ⟨aa, ac, hav, _⟩ := (RowAt.of_owns hr).len
  subst hav
  have HK1 : Hid (Keeps w w1) := k1.trans hb
  have HB1 : Hid (StBox w.heap.size s (.slice xa s.tab.length xc) w1) := B1.keep hb
  have HO1 : Hid (TabAt w1 (.slice pa (allSt s L).tab.length pc) (allSt s L).tab) := ho.tab
  have HI1 : Hid (IntsAt w1 (.slice aa (allAns s L).length ac) (allAns s L)) := IntsAt.of hr
  clear k1 B1 ho hr hb
  clear W1
  cases q : (foldErr s L == 0) with
  | false =>
    have q' : (foldErr s L != 0) = true := by simp [bne, q]
    generalize foldErr s L = er at *
    generalize allSt s L = t0 at *
    generalize allAns s L = an0 at *
    go_wp2_with fail
    refine (fold_begun _).mono ?_
    rintro y w2 ⟨rfl, hb⟩
    have HK2 : Hid (Keeps w w2) := (HK1.out.alloc _).trans hb
    clear hb
    go_wp2_with fail
    go_ret
    exact ⟨rfl, HK2.out⟩
  | true =>
    have q' : (foldErr s L != 0) = false := by simp [bne, q]
    have q0 : foldErr s L = 0 := by simpa using q
    have hr3 := fold_right q0
    have hl50 : L.length ≤ 50 := by have := (stErr_bounds hr3.1).1.1; have := hr3.2.2; omega
    have HSP : Hid (∀ k, foldErr s (L.take k) = 0 ∧ foldErr (runSt s (L.take k)) (L.drop k) = 0 ∧ stErr (runSt s L) = 0) := split_right q0
    have e1 : allSt s L = runSt s L := by simp [allSt, q0]
    have e2 : allAns s L = runAns s L := by simp [allAns, q0]
    rw [e1] at HO1 ⊢
    rw [e2] at HI1 ⊢
    clear e1 e2 hr3 q0
    obtain ⟨t, ht⟩ : ∃ t, t = runSt s L := ⟨_, rfl⟩
    obtain ⟨an, han⟩ : ∃ an, an = runAns s L := ⟨_, rfl⟩
    rw [← ht] at HO1 HSP ⊢
    rw [← han] at HI1 ⊢
    have HTT : Hid (t = runSt s L) := ht
    have HAN : Hid (an = runAns s L) := han
    clear ht han
    generalize foldErr s L = er at *
    go_wp2_with fail
    have X2 : StBox w1.heap.size t (.slice pa t.tab.length pc) (w1.alloc (.cells #[.int .i64 t.at_, .int .i64 t.clock, .int .i64 t.v0, .int .i64 t.v1, .int .i64 t.v2, .int .i64 t.v3, .slice pa t.tab.length pc] 25)) := StBox.new w1 t _ 25
    have k12 : Keeps w1 (w1.alloc (.cells #[.int .i64 t.at_, .int .i64 t.clock, .int .i64 t.v0, .int .i64 t.v1, .int .i64 t.v2, .int .i64 t.v3, .slice pa t.tab.length pc] 25)) := (Keeps.refl _).alloc _
    generalize (w1.alloc (.cells #[.int .i64 t.at_, .int .i64 t.clock, .int .i64 t.v0, .int .i64 t.v1, .int .i64 t.v2, .int .i64 t.v3, .slice pa t.tab.length pc] 25)) = w3 at *
    generalize w1.heap.size = XB at *
    have HX3 : Hid (StBox XB t (.slice pa t.tab.length pc) w3) := X2
    have HK3 : Hid (Keeps w w3) := HK1.out.trans k12
    have HB3 : Hid (StBox w.heap.size s (.slice xa s.tab.length xc) w3) := HB1.out.keep k12
    have HO3 : Hid (TabAt w3 (.slice pa t.tab.length pc) t.tab) := HO1.out.keep k12
    have HI3 : Hid (IntsAt w3 (.slice aa an.length ac) an) := HI1.out.keep k12
    clear X2 k12 HK1 HB1 HO1 HI1
    refine (choose_n n (L.length + 1) w3 n0 n1' (by omega) (by omega)).mono ?_
    rintro y w3' ⟨r, hr0, hr1, rfl, hw⟩
    subst hw
    obtain ⟨kk, rfl⟩ : ∃ kk : Nat, r = kk := ⟨r.toNat, by omega⟩
    have hkk : kk ≤ L.length := by omega
    have hkc : (kk : Int) ≤ (lc : Int) := by omega
    have hkl : (kk : Int) ≤ (L.length : Int) := by omega
    have hz9 : ∀ w, (Go.sizeOf 57).run Try.prog w = .ok 9 w := fun _ => by kernel_rfl
    clear hr0 hr1
    have HSA : Hid (∀ W, Keeps w3 W → W.cell? ⟨w.heap.size, 0, none⟩ = some (.int .i64 s.at_) ∧ W.cell? ⟨w.heap.size, 1, none⟩ = some (.int .i64 s.clock) ∧ W.cell? ⟨w.heap.size, 2, none⟩ = some (.int .i64 s.v0) ∧ W.cell? ⟨w.heap.size, 3, none⟩ = some (.int .i64 s.v1) ∧ W.cell? ⟨w.heap.size, 4, none⟩ = some (.int .i64 s.v2) ∧ W.cell? ⟨w.heap.size, 5, none⟩ = some (.int .i64 s.v3) ∧ W.cell? ⟨w.heap.size, 6, none⟩ = some (.slice xa s.tab.length xc)) := fun W hk => have B := HB3.out.keep hk; ⟨B.c0, B.c1, B.c2, B.c3, B.c4, B.c5, B.c6⟩
    have HCA : Hid (∀ W, Keeps w3 W → Calls Try.prog 9 #[stV s (.slice xa s.tab.length xc), .slice la kk lc] W fun y w' => ∃ qa qc ra rc, Hid (OwnTab W.heap.size w' (.slice qa (runSt s (L.take kk)).tab.length qc) (runSt s (L.take kk)).tab) ∧ Hid (w'.ownsRow W.heap.size 3 1 (.slice ra (runAns s (L.take kk)).length rc) (runAns s (L.take kk)).length (intCells (runAns s (L.take kk)))) ∧ y = .returned (.tuple #[stV (runSt s (L.take kk)) (.slice qa (runSt s (L.take kk)).tab.length qc), .slice ra (runAns s (L.take kk)).length rc, .int .i64 0]) ∧ Keeps W w') := by
      intro W hk
      exact all_right (HSP.out kk).1 _ _ W (HT.out.keep (HK3.out.trans hk)) (ents_prefix (HL.out.keep (HK3.out.trans hk)) hkk)
    obtain ⟨t1, ht1⟩ : ∃ t1, t1 = runSt s (L.take kk) := ⟨_, rfl⟩
    obtain ⟨n1, hn1⟩ : ∃ n1, n1 = runAns s (L.take kk) := ⟨_, rfl⟩
    rw [← ht1, ← hn1] at HCA
    have HT1 : Hid (t1 = runSt s (L.take kk)) := ht1
    have HN1 : Hid (n1 = runAns s (L.take kk)) := hn1
    clear ht1 hn1
    go_wp2_with fail
    go_cut [11, 12, 13] (fun p q f wc => f = .int .i64 0 ∧ ∃ yb qa qc ra rc, p = .pointer (some ⟨yb, 0, none⟩) ∧ q = .slice ra n1.length rc ∧ StBox yb t1 (.slice qa t1.tab.length qc) wc ∧ TabAt wc (.slice qa t1.tab.length qc) t1.tab ∧ IntsAt wc (.slice ra n1.length rc) n1 ∧ Keeps w3 wc)
    case first =>
      obtain ⟨V0, hV0⟩ : ∃ z, z = w3.drew := ⟨_, rfl⟩
      have k0 : Keeps w3 V0 := by rw [hV0]; exact (Keeps.refl _).drew
      refine wp_region_held_drew (S := fun W => W.cell? ⟨w.heap.size, 0, none⟩ = some (.int .i64 s.at_) ∧ W.cell? ⟨w.heap.size, 1, none⟩ = some (.int .i64 s.clock) ∧ W.cell? ⟨w.heap.size, 2, none⟩ = some (.int .i64 s.v0) ∧ W.cell? ⟨w.heap.size, 3, none⟩ = some (.int .i64 s.v1) ∧ W.cell? ⟨w.heap.size, 4, none⟩ = some (.int .i64 s.v2) ∧ W.cell? ⟨w.heap.size, 5, none⟩ = some (.int .i64 s.v3) ∧ W.cell? ⟨w.heap.size, 6, none⟩ = some (.slice xa s.tab.length xc)) (by kernel_rfl) (HSA.out _ (Keeps.refl _).drew) (fun hS => ?_)
      rw [← hV0] at hS ⊢
      clear hV0
      refine wpAnyH_take (i := 0) (v := stV s (.slice xa s.tab.length xc)) rfl (by kernel_rfl) (by kernel_rfl) (by kernel_rfl) (fun _ _ _ h => h) (Or.inl ⟨by rfl, ?_⟩) hS ?_
      · intro w hS; go_simp
      refine wpAnyH_take (i := 1) (v := .slice la L.length lc) rfl (by kernel_rfl) (by kernel_rfl) (by kernel_rfl) (fun _ _ _ h => h) (Or.inl ⟨by rfl, ?_⟩) hS ?_
      · intro w hS; go_simp
      refine wpAnyH_take (i := 2) (v := .int .i64 kk) rfl (by kernel_rfl) (by kernel_rfl) (by kernel_rfl) (fun _ _ _ h => h) (Or.inl ⟨by rfl, ?_⟩) hS ?_
      · intro w hS; go_simp
      refine wpAnyH_take (i := 3) (v := .slice (if lc = 0 then la else Option.map (fun x : Addr => x.add 0) la) kk lc) rfl (by kernel_rfl) (by kernel_rfl) (by kernel_rfl) (fun _ _ _ h => h) (Or.inl ⟨by rfl, ?_⟩) hS ?_
      · intro w hS; go_simp
      refine wpAnyH_ready (rs := [4, 9]) (by kernel_rfl) (by simp) ?_
      refine AllReadyH.cons rfl (fun K hK => ?_) (AllReadyH.cons rfl (fun K hK => ?_) (AllReadyH.nil))
      · go_simp
        refine (HCA.out V0 k0).mono ?_
        rintro y V1 ⟨qa, qc, ra, rc, HO1, HN1, rfl, hb⟩
        have k1 := k0.trans hb
        clear hb
        go_simp
        refine hK.out _ _ (HSA.out _ k1) (fun hS => ?_)
        clear hK K
        refine wpAnyH_take (i := 5) (v := .tuple #[stV t1 (.slice qa t1.tab.length qc), .slice ra n1.length rc, .int .i64 0]) rfl (by kernel_rfl) (by kernel_rfl) (by kernel_rfl) (fun _ _ _ h => h) (Or.inl ⟨by rfl, ?_⟩) hS ?_
        · intro w hS; go_simp
        refine wpAnyH_take (i := 6) (v := stV t1 (.slice qa t1.tab.length qc)) rfl (by kernel_rfl) (by kernel_rfl) (by kernel_rfl) (fun _ _ _ h => h) (Or.inl ⟨by rfl, ?_⟩) hS ?_
        · intro w hS; go_simp
        refine wpAnyH_take (i := 7) (v := .slice ra n1.length rc) rfl (by kernel_rfl) (by kernel_rfl) (by kernel_rfl) (fun _ _ _ h => h) (Or.inl ⟨by rfl, ?_⟩) hS ?_
        · intro w hS; go_simp
        refine wpAnyH_take (i := 8) (v := .int .i64 0) rfl (by kernel_rfl) (by kernel_rfl) (by kernel_rfl) (fun _ _ _ h => h) (Or.inl ⟨by rfl, ?_⟩) hS ?_
        · intro w hS; go_simp
        refine wpAnyH_ready (rs := [9]) (by kernel_rfl) (by simp) ?_
        refine AllReadyH.cons rfl (fun K hK => ?_) (AllReadyH.nil)
        go_simp
        have hb : Keeps V1 (V1.alloc (.cells #[.int .i64 0, .int .i64 0, .int .i64 0, .int .i64 0, .int .i64 0, .int .i64 0, .slice none 0 0] 25)) := (Keeps.refl _).alloc _
        have HQ2 : Hid (StBox V1.heap.size zeroSt (.slice none 0 0) (V1.alloc (.cells #[.int .i64 0, .int .i64 0, .int .i64 0, .int .i64 0, .int .i64 0, .int .i64 0, .slice none 0 0] 25))) := StBox.new V1 zeroSt (.slice none 0 0) 25
        have HTF : Hid (∀ WF, But V1.heap.size (V1.alloc (.cells #[.int .i64 0, .int .i64 0, .int .i64 0, .int .i64 0, .int .i64 0, .int .i64 0, .slice none 0 0] 25)) WF → TabAt WF (.slice qa t1.tab.length qc) t1.tab ∧ IntsAt WF (.slice ra n1.length rc) n1) := fun WF hF => ⟨HO1.out.tab.keep (But.to hb (Nat.le_refl _) hF), (IntsAt.of HN1.out).keep (But.to hb (Nat.le_refl _) hF)⟩
        generalize V1.alloc (.cells #[.int .i64 0, .int .i64 0, .int .i64 0, .int .i64 0, .int .i64 0, .int .i64 0, .slice none 0 0] 25) = V2 at *
        have k2 := k1.trans hb
        clear hb
        refine hK.out _ _ (HSA.out _ k2) (fun hS => ?_)
        clear hK K
        refine wpAnyH_ready (rs := [10]) (by kernel_rfl) (by simp) ?_
        refine AllReadyH.cons rfl (fun K hK => ?_) (AllReadyH.nil)
        have z0 := HQ2.out.c0
        have z1 := HQ2.out.c1
        have z2 := HQ2.out.c2
        have z3 := HQ2.out.c3
        have z4 := HQ2.out.c4
        have z5 := HQ2.out.c5
        have z6 := HQ2.out.c6
        have zf := HQ2.out.fz
        have zl := HQ2.out.lt
        go_simp
        have BP := HQ2.out.put t1 (.slice qa t1.tab.length qc)
        have BT := But.puts (b := V1.heap.size) V2 t1 (.slice qa t1.tab.length qc)
        have KF := But.to k2 k1.size BT
        have HTE := HTF.out _ BT
        obtain ⟨WF, hWF⟩ : ∃ z, z = (((((((V2.setCell ⟨V1.heap.size, 0, none⟩ (.int .i64 t1.at_)).setCell ⟨V1.heap.size, 1, none⟩ (.int .i64 t1.clock)).setCell ⟨V1.heap.size, 2, none⟩ (.int .i64 t1.v0)).setCell ⟨V1.heap.size, 3, none⟩ (.int .i64 t1.v1)).setCell ⟨V1.heap.size, 4, none⟩ (.int .i64 t1.v2)).setCell ⟨V1.heap.size, 5, none⟩ (.int .i64 t1.v3)).setCell ⟨V1.heap.size, 6, none⟩ (.slice qa t1.tab.length qc)) := ⟨_, rfl⟩
        rw [← hWF] at BP BT KF HTE ⊢
        clear hWF z0 z1 z2 z3 z4 z5 z6 zf zl
        refine hK.out _ _ (HSA.out _ KF) (fun hS => ?_)
        clear hK K
        refine wpAnyH_take (i := 11) (v := .slice ra n1.length rc) rfl (by kernel_rfl) (by kernel_rfl) (by kernel_rfl) (fun _ _ _ h => h) (Or.inl ⟨by rfl, ?_⟩) hS ?_
        · intro w hS; go_simp
        refine wpAnyH_take (i := 12) (v := .int .i64 0) rfl (by kernel_rfl) (by kernel_rfl) (by kernel_rfl) (fun _ _ _ h => h) (Or.inl ⟨by rfl, ?_⟩) hS ?_
        · intro w hS; go_simp
        refine wpAnyH_done (by kernel_rfl) ?_ _
        go_wp2_with fail
        go_meet
        exact ⟨rfl, _, _, _, _, _, rfl, rfl, BP, HTE.1, HTE.2, KF⟩
      · go_simp
        have hb : Keeps V0 (V0.alloc (.cells #[.int .i64 0, .int .i64 0, .int .i64 0, .int .i64 0, .int .i64 0, .int .i64 0, .slice none 0 0] 25)) := (Keeps.refl _).alloc _
        have HQ1 : Hid (StBox V0.heap.size zeroSt (.slice none 0 0) (V0.alloc (.cells #[.int .i64 0, .int .i64 0, .int .i64 0, .int .i64 0, .int .i64 0, .int .i64 0, .slice none 0 0] 25))) := StBox.new V0 zeroSt (.slice none 0 0) 25
        generalize V0.alloc (.cells #[.int .i64 0, .int .i64 0, .int .i64 0, .int .i64 0, .int .i64 0, .int .i64 0, .slice none 0 0] 25) = V1 at *
        have k1 := k0.trans hb
        clear hb
        refine hK.out _ _ (HSA.out _ k1) (fun hS => ?_)
        clear hK K
        refine wpAnyH_ready (rs := [4]) (by kernel_rfl) (by simp) ?_
        refine AllReadyH.cons rfl (fun K hK => ?_) (AllReadyH.nil)
        go_simp
        refine (HCA.out V1 k1).mono ?_
        rintro y V2 ⟨qa, qc, ra, rc, HO2, HN2, rfl, hb⟩
        have k2 := k1.trans hb
        have HQ2 : Hid (StBox V0.heap.size zeroSt (.slice none 0 0) V2) := HQ1.out.keep hb
        have HTF : Hid (∀ WF, But V0.heap.size V2 WF → TabAt WF (.slice qa t1.tab.length qc) t1.tab ∧ IntsAt WF (.slice ra n1.length rc) n1) := fun WF hF => ⟨(HO2.out.but (by have := HQ1.out.lt; omega) hF).tab, IntsAt.of (owns_far HN2.out (by have := HQ1.out.lt; omega) hF)⟩
        clear hb
        go_simp
        refine hK.out _ _ (HSA.out _ k2) (fun hS => ?_)
        clear hK K
        refine wpAnyH_take (i := 5) (v := .tuple #[stV t1 (.slice qa t1.tab.length qc), .slice ra n1.length rc, .int .i64 0]) rfl (by kernel_rfl) (by kernel_rfl) (by kernel_rfl) (fun _ _ _ h => h) (Or.inl ⟨by rfl, ?_⟩) hS ?_
        · intro w hS; go_simp
        refine wpAnyH_take (i := 6) (v := stV t1 (.slice qa t1.tab.length qc)) rfl (by kernel_rfl) (by kernel_rfl) (by kernel_rfl) (fun _ _ _ h => h) (Or.inl ⟨by rfl, ?_⟩) hS ?_
        · intro w hS; go_simp
        refine wpAnyH_take (i := 7) (v := .slice ra n1.length rc) rfl (by kernel_rfl) (by kernel_rfl) (by kernel_rfl) (fun _ _ _ h => h) (Or.inl ⟨by rfl, ?_⟩) hS ?_
        · intro w hS; go_simp
        refine wpAnyH_take (i := 8) (v := .int .i64 0) rfl (by kernel_rfl) (by kernel_rfl) (by kernel_rfl) (fun _ _ _ h => h) (Or.inl ⟨by rfl, ?_⟩) hS ?_
        · intro w hS; go_simp
        refine wpAnyH_ready (rs := [10]) (by kernel_rfl) (by simp) ?_
        refine AllReadyH.cons rfl (fun K hK => ?_) (AllReadyH.nil)
        have z0 := HQ2.out.c0
        have z1 := HQ2.out.c1
        have z2 := HQ2.out.c2
        have z3 := HQ2.out.c3
        have z4 := HQ2.out.c4
        have z5 := HQ2.out.c5
        have z6 := HQ2.out.c6
        have zf := HQ2.out.fz
        have zl := HQ2.out.lt
        go_simp
        have BP := HQ2.out.put t1 (.slice qa t1.tab.length qc)
        have BT := But.puts (b := V0.heap.size) V2 t1 (.slice qa t1.tab.length qc)
        have KF := But.to k2 k0.size BT
        have HTE := HTF.out _ BT
        obtain ⟨WF, hWF⟩ : ∃ z, z = (((((((V2.setCell ⟨V0.heap.size, 0, none⟩ (.int .i64 t1.at_)).setCell ⟨V0.heap.size, 1, none⟩ (.int .i64 t1.clock)).setCell ⟨V0.heap.size, 2, none⟩ (.int .i64 t1.v0)).setCell ⟨V0.heap.size, 3, none⟩ (.int .i64 t1.v1)).setCell ⟨V0.heap.size, 4, none⟩ (.int .i64 t1.v2)).setCell ⟨V0.heap.size, 5, none⟩ (.int .i64 t1.v3)).setCell ⟨V0.heap.size, 6, none⟩ (.slice qa t1.tab.length qc)) := ⟨_, rfl⟩
        rw [← hWF] at BP BT KF HTE ⊢
        clear hWF z0 z1 z2 z3 z4 z5 z6 zf zl
        refine hK.out _ _ (HSA.out _ KF) (fun hS => ?_)
        clear hK K
        refine wpAnyH_take (i := 11) (v := .slice ra n1.length rc) rfl (by kernel_rfl) (by kernel_rfl) (by kernel_rfl) (fun _ _ _ h => h) (Or.inl ⟨by rfl, ?_⟩) hS ?_
        · intro w hS; go_simp
        refine wpAnyH_take (i := 12) (v := .int .i64 0) rfl (by kernel_rfl) (by kernel_rfl) (by kernel_rfl) (fun _ _ _ h => h) (Or.inl ⟨by rfl, ?_⟩) hS ?_
        · intro w hS; go_simp
        refine wpAnyH_done (by kernel_rfl) ?_ _
        go_wp2_with fail
        go_meet
        exact ⟨rfl, _, _, _, _, _, rfl, rfl, BP, HTE.1, HTE.2, KF⟩
    case rest =>
      obtain ⟨rfl, yb, ya, yc, ba, bc, rfl, rfl, hY, hTY, hIY, k34⟩ := hcut
      obtain ⟨w4, hw4⟩ : ∃ z, z = wc := ⟨_, rfl⟩
      rw [← hw4] at hY hTY hIY k34 ⊢
      clear hw4
      have HY4 : Hid (StBox yb t1 (.slice ya t1.tab.length yc) w4) := hY
      have HTY4 : Hid (TabAt w4 (.slice ya t1.tab.length yc) t1.tab) := hTY
      have HIY4 : Hid (IntsAt w4 (.slice ba n1.length bc) n1) := hIY
      have HX4 : Hid (StBox XB t (.slice pa t.tab.length pc) w4) := HX3.out.keep k34
      have HK4 : Hid (Keeps w w4) := HK3.out.trans k34
      have HO4 : Hid (TabAt w4 (.slice pa t.tab.length pc) t.tab) := HO3.out.keep k34
      have HI4 : Hid (IntsAt w4 (.slice aa an.length ac) an) := HI3.out.keep k34
      clear hY hTY hIY k34 HX3 HK3 HB3 HO3 HI3 HSA HCA
      have HSB : Hid (∀ W, Keeps w4 W → W.cell? ⟨yb, 0, none⟩ = some (.int .i64 t1.at_) ∧ W.cell? ⟨yb, 1, none⟩ = some (.int .i64 t1.clock) ∧ W.cell? ⟨yb, 2, none⟩ = some (.int .i64 t1.v0) ∧ W.cell? ⟨yb, 3, none⟩ = some (.int .i64 t1.v1) ∧ W.cell? ⟨yb, 4, none⟩ = some (.int .i64 t1.v2) ∧ W.cell? ⟨yb, 5, none⟩ = some (.int .i64 t1.v3) ∧ W.cell? ⟨yb, 6, none⟩ = some (.slice ya t1.tab.length yc)) := fun W hk => have B := HY4.out.keep hk; ⟨B.c0, B.c1, B.c2, B.c3, B.c4, B.c5, B.c6⟩
      obtain ⟨sv, hsv⟩ : ∃ sv, sv = (if lc = kk then la else Option.map (fun x : Addr => x.add (kk * 9)) la) := ⟨_, rfl⟩
      have HSV : Hid (sv = (if lc = kk then la else Option.map (fun x : Addr => x.add (kk * 9)) la)) := hsv
      clear hsv
      have HCB : Hid (∀ W, Keeps w4 W → Calls Try.prog 9 #[stV t1 (.slice ya t1.tab.length yc), .slice sv (L.length - kk) (lc - kk)] W fun y w' => ∃ qa qc ra rc, Hid (OwnTab W.heap.size w' (.slice qa (runSt t1 (L.drop kk)).tab.length qc) (runSt t1 (L.drop kk)).tab) ∧ Hid (w'.ownsRow W.heap.size 3 1 (.slice ra (runAns t1 (L.drop kk)).length rc) (runAns t1 (L.drop kk)).length (intCells (runAns t1 (L.drop kk)))) ∧ y = .returned (.tuple #[stV (runSt t1 (L.drop kk)) (.slice qa (runSt t1 (L.drop kk)).tab.length qc), .slice ra (runAns t1 (L.drop kk)).length rc, .int .i64 0]) ∧ Keeps W w') := by
        intro W hk
        have h2 := (HSP.out kk).2.1
        rw [← HT1.out] at h2
        rw [HSV.out]
        exact all_right h2 _ _ W (HTY4.out.keep hk) (ents_suffix (HL.out.keep (HK4.out.trans hk)) hkk hcap)
      obtain ⟨t2, ht2⟩ : ∃ t2, t2 = runSt t1 (L.drop kk) := ⟨_, rfl⟩
      obtain ⟨n2, hn2⟩ : ∃ n2, n2 = runAns t1 (L.drop kk) := ⟨_, rfl⟩
      rw [← ht2, ← hn2] at HCB
      have HT2 : Hid (t2 = t) := by
        show _ = _
        rw [ht2, HT1.out, HTT.out, ← runSt_append, List.take_append_drop]
      have HN2 : Hid (n1 ++ n2 = an) := by
        show _ = _
        rw [hn2, HN1.out, HT1.out, HAN.out, ← runAns_append, List.take_append_drop]
      clear ht2 hn2
      go_wp2_with fail
      go_cut [14, 15, 16] (fun p q f wc => f = .int .i64 0 ∧ ∃ yb qa qc ra rc, p = .pointer (some ⟨yb, 0, none⟩) ∧ q = .slice ra n2.length rc ∧ StBox yb t2 (.slice qa t2.tab.length qc) wc ∧ TabAt wc (.slice qa t2.tab.length qc) t2.tab ∧ IntsAt wc (.slice ra n2.length rc) n2 ∧ Keeps w4 wc)
      case first =>
        obtain ⟨V0, hV0⟩ : ∃ z, z = w4.drew := ⟨_, rfl⟩
        have k0 : Keeps w4 V0 := by rw [hV0]; exact (Keeps.refl _).drew
        refine wp_region_held_drew (S := fun W => W.cell? ⟨yb, 0, none⟩ = some (.int .i64 t1.at_) ∧ W.cell? ⟨yb, 1, none⟩ = some (.int .i64 t1.clock) ∧ W.cell? ⟨yb, 2, none⟩ = some (.int .i64 t1.v0) ∧ W.cell? ⟨yb, 3, none⟩ = some (.int .i64 t1.v1) ∧ W.cell? ⟨yb, 4, none⟩ = some (.int .i64 t1.v2) ∧ W.cell? ⟨yb, 5, none⟩ = some (.int .i64 t1.v3) ∧ W.cell? ⟨yb, 6, none⟩ = some (.slice ya t1.tab.length yc)) (by kernel_rfl) (HSB.out _ (Keeps.refl _).drew) (fun hS => ?_)
        rw [← hV0] at hS ⊢
        clear hV0
        refine wpAnyH_take (i := 0) (v := stV t1 (.slice ya t1.tab.length yc)) rfl (by kernel_rfl) (by kernel_rfl) (by kernel_rfl) (fun _ _ _ h => h) (Or.inl ⟨by rfl, ?_⟩) hS ?_
        · intro w hS; go_simp
        refine wpAnyH_take (i := 1) (v := .slice la L.length lc) rfl (by kernel_rfl) (by kernel_rfl) (by kernel_rfl) (fun _ _ _ h => h) (Or.inl ⟨by rfl, ?_⟩) hS ?_
        · intro w hS; go_simp
        refine wpAnyH_take (i := 2) (v := .int .i64 kk) rfl (by kernel_rfl) (by kernel_rfl) (by kernel_rfl) (fun _ _ _ h => h) (Or.inl ⟨by rfl, ?_⟩) hS ?_
        · intro w hS; go_simp
        refine wpAnyH_take (i := 3) (v := .slice sv (L.length - kk) (lc - kk)) rfl (by kernel_rfl) (by kernel_rfl) (by kernel_rfl) (fun _ _ _ h => h) (Or.inl ⟨by rfl, ?_⟩) hS ?_
        · intro w hS
          go_simp
          exact HSV.out.symm
        refine wpAnyH_ready (rs := [4, 9]) (by kernel_rfl) (by simp) ?_
        refine AllReadyH.cons rfl (fun K hK => ?_) (AllReadyH.cons rfl (fun K hK => ?_) (AllReadyH.nil))
        · go_simp
          refine (HCB.out V0 k0).mono ?_
          rintro y V1 ⟨qa, qc, ra, rc, HO1, HN1, rfl, hb⟩
          have k1 := k0.trans hb
          clear hb
          go_simp
          refine hK.out _ _ (HSB.out _ k1) (fun hS => ?_)
          clear hK K
          refine wpAnyH_take (i := 5) (v := .tuple #[stV t2 (.slice qa t2.tab.length qc), .slice ra n2.length rc, .int .i64 0]) rfl (by kernel_rfl) (by kernel_rfl) (by kernel_rfl) (fun _ _ _ h => h) (Or.inl ⟨by rfl, ?_⟩) hS ?_
          · intro w hS; go_simp
          refine wpAnyH_take (i := 6) (v := stV t2 (.slice qa t2.tab.length qc)) rfl (by kernel_rfl) (by kernel_rfl) (by kernel_rfl) (fun _ _ _ h => h) (Or.inl ⟨by rfl, ?_⟩) hS ?_
          · intro w hS; go_simp
          refine wpAnyH_take (i := 7) (v := .slice ra n2.length rc) rfl (by kernel_rfl) (by kernel_rfl) (by kernel_rfl) (fun _ _ _ h => h) (Or.inl ⟨by rfl, ?_⟩) hS ?_
          · intro w hS; go_simp
          refine wpAnyH_take (i := 8) (v := .int .i64 0) rfl (by kernel_rfl) (by kernel_rfl) (by kernel_rfl) (fun _ _ _ h => h) (Or.inl ⟨by rfl, ?_⟩) hS ?_
          · intro w hS; go_simp
          refine wpAnyH_ready (rs := [9]) (by kernel_rfl) (by simp) ?_
          refine AllReadyH.cons rfl (fun K hK => ?_) (AllReadyH.nil)
          go_simp
          have hb : Keeps V1 (V1.alloc (.cells #[.int .i64 0, .int .i64 0, .int .i64 0, .int .i64 0, .int .i64 0, .int .i64 0, .slice none 0 0] 25)) := (Keeps.refl _).alloc _
          have HQ2 : Hid (StBox V1.heap.size zeroSt (.slice none 0 0) (V1.alloc (.cells #[.int .i64 0, .int .i64 0, .int .i64 0, .int .i64 0, .int .i64 0, .int .i64 0, .slice none 0 0] 25))) := StBox.new V1 zeroSt (.slice none 0 0) 25
          have HTF : Hid (∀ WF, But V1.heap.size (V1.alloc (.cells #[.int .i64 0, .int .i64 0, .int .i64 0, .int .i64 0, .int .i64 0, .int .i64 0, .slice none 0 0] 25)) WF → TabAt WF (.slice qa t2.tab.length qc) t2.tab ∧ IntsAt WF (.slice ra n2.length rc) n2) := fun WF hF => ⟨HO1.out.tab.keep (But.to hb (Nat.le_refl _) hF), (IntsAt.of HN1.out).keep (But.to hb (Nat.le_refl _) hF)⟩
          generalize V1.alloc (.cells #[.int .i64 0, .int .i64 0, .int .i64 0, .int .i64 0, .int .i64 0, .int .i64 0, .slice none 0 0] 25) = V2 at *
          have k2 := k1.trans hb
          clear hb
          refine hK.out _ _ (HSB.out _ k2) (fun hS => ?_)
          clear hK K
          refine wpAnyH_ready (rs := [10]) (by kernel_rfl) (by simp) ?_
          refine AllReadyH.cons rfl (fun K hK => ?_) (AllReadyH.nil)
          have z0 := HQ2.out.c0
          have z1 := HQ2.out.c1
          have z2 := HQ2.out.c2
          have z3 := HQ2.out.c3
          have z4 := HQ2.out.c4
          have z5 := HQ2.out.c5
          have z6 := HQ2.out.c6
          have zf := HQ2.out.fz
          have zl := HQ2.out.lt
          go_simp
          have BP := HQ2.out.put t2 (.slice qa t2.tab.length qc)
          have BT := But.puts (b := V1.heap.size) V2 t2 (.slice qa t2.tab.length qc)
          have KF := But.to k2 k1.size BT
          have HTE := HTF.out _ BT
          obtain ⟨WF, hWF⟩ : ∃ z, z = (((((((V2.setCell ⟨V1.heap.size, 0, none⟩ (.int .i64 t2.at_)).setCell ⟨V1.heap.size, 1, none⟩ (.int .i64 t2.clock)).setCell ⟨V1.heap.size, 2, none⟩ (.int .i64 t2.v0)).setCell ⟨V1.heap.size, 3, none⟩ (.int .i64 t2.v1)).setCell ⟨V1.heap.size, 4, none⟩ (.int .i64 t2.v2)).setCell ⟨V1.heap.size, 5, none⟩ (.int .i64 t2.v3)).setCell ⟨V1.heap.size, 6, none⟩ (.slice qa t2.tab.length qc)) := ⟨_, rfl⟩
          rw [← hWF] at BP BT KF HTE ⊢
          clear hWF z0 z1 z2 z3 z4 z5 z6 zf zl
          refine hK.out _ _ (HSB.out _ KF) (fun hS => ?_)
          clear hK K
          refine wpAnyH_take (i := 11) (v := .slice ra n2.length rc) rfl (by kernel_rfl) (by kernel_rfl) (by kernel_rfl) (fun _ _ _ h => h) (Or.inl ⟨by rfl, ?_⟩) hS ?_
          · intro w hS; go_simp
          refine wpAnyH_take (i := 12) (v := .int .i64 0) rfl (by kernel_rfl) (by kernel_rfl) (by kernel_rfl) (fun _ _ _ h => h) (Or.inl ⟨by rfl, ?_⟩) hS ?_
          · intro w hS; go_simp
          refine wpAnyH_done (by kernel_rfl) ?_ _
          go_wp2_with fail
          go_meet
          exact ⟨rfl, _, _, _, _, _, rfl, rfl, BP, HTE.1, HTE.2, KF⟩
        · go_simp
          have hb : Keeps V0 (V0.alloc (.cells #[.int .i64 0, .int .i64 0, .int .i64 0, .int .i64 0, .int .i64 0, .int .i64 0, .slice none 0 0] 25)) := (Keeps.refl _).alloc _
          have HQ1 : Hid (StBox V0.heap.size zeroSt (.slice none 0 0) (V0.alloc (.cells #[.int .i64 0, .int .i64 0, .int .i64 0, .int .i64 0, .int .i64 0, .int .i64 0, .slice none 0 0] 25))) := StBox.new V0 zeroSt (.slice none 0 0) 25
          generalize V0.alloc (.cells #[.int .i64 0, .int .i64 0, .int .i64 0, .int .i64 0, .int .i64 0, .int .i64 0, .slice none 0 0] 25) = V1 at *
          have k1 := k0.trans hb
          clear hb
          refine hK.out _ _ (HSB.out _ k1) (fun hS => ?_)
          clear hK K
          refine wpAnyH_ready (rs := [4]) (by kernel_rfl) (by simp) ?_
          refine AllReadyH.cons rfl (fun K hK => ?_) (AllReadyH.nil)
          go_simp
          refine (HCB.out V1 k1).mono ?_
          rintro y V2 ⟨qa, qc, ra, rc, HO2, HN2, rfl, hb⟩
          have k2 := k1.trans hb
          have HQ2 : Hid (StBox V0.heap.size zeroSt (.slice none 0 0) V2) := HQ1.out.keep hb
          have HTF : Hid (∀ WF, But V0.heap.size V2 WF → TabAt WF (.slice qa t2.tab.length qc) t2.tab ∧ IntsAt WF (.slice ra n2.length rc) n2) := fun WF hF => ⟨(HO2.out.but (by have := HQ1.out.lt; omega) hF).tab, IntsAt.of (owns_far HN2.out (by have := HQ1.out.lt; omega) hF)⟩
          clear hb
          go_simp
          refine hK.out _ _ (HSB.out _ k2) (fun hS => ?_)
          clear hK K
          refine wpAnyH_take (i := 5) (v := .tuple #[stV t2 (.slice qa t2.tab.length qc), .slice ra n2.length rc, .int .i64 0]) rfl (by kernel_rfl) (by kernel_rfl) (by kernel_rfl) (fun _ _ _ h => h) (Or.inl ⟨by rfl, ?_⟩) hS ?_
          · intro w hS; go_simp
          refine wpAnyH_take (i := 6) (v := stV t2 (.slice qa t2.tab.length qc)) rfl (by kernel_rfl) (by kernel_rfl) (by kernel_rfl) (fun _ _ _ h => h) (Or.inl ⟨by rfl, ?_⟩) hS ?_
          · intro w hS; go_simp
          refine wpAnyH_take (i := 7) (v := .slice ra n2.length rc) rfl (by kernel_rfl) (by kernel_rfl) (by kernel_rfl) (fun _ _ _ h => h) (Or.inl ⟨by rfl, ?_⟩) hS ?_
          · intro w hS; go_simp
          refine wpAnyH_take (i := 8) (v := .int .i64 0) rfl (by kernel_rfl) (by kernel_rfl) (by kernel_rfl) (fun _ _ _ h => h) (Or.inl ⟨by rfl, ?_⟩) hS ?_
          · intro w hS; go_simp
          refine wpAnyH_ready (rs := [10]) (by kernel_rfl) (by simp) ?_
          refine AllReadyH.cons rfl (fun K hK => ?_) (AllReadyH.nil)
          have z0 := HQ2.out.c0
          have z1 := HQ2.out.c1
          have z2 := HQ2.out.c2
          have z3 := HQ2.out.c3
          have z4 := HQ2.out.c4
          have z5 := HQ2.out.c5
          have z6 := HQ2.out.c6
          have zf := HQ2.out.fz
          have zl := HQ2.out.lt
          go_simp
          have BP := HQ2.out.put t2 (.slice qa t2.tab.length qc)
          have BT := But.puts (b := V0.heap.size) V2 t2 (.slice qa t2.tab.length qc)
          have KF := But.to k2 k0.size BT
          have HTE := HTF.out _ BT
          obtain ⟨WF, hWF⟩ : ∃ z, z = (((((((V2.setCell ⟨V0.heap.size, 0, none⟩ (.int .i64 t2.at_)).setCell ⟨V0.heap.size, 1, none⟩ (.int .i64 t2.clock)).setCell ⟨V0.heap.size, 2, none⟩ (.int .i64 t2.v0)).setCell ⟨V0.heap.size, 3, none⟩ (.int .i64 t2.v1)).setCell ⟨V0.heap.size, 4, none⟩ (.int .i64 t2.v2)).setCell ⟨V0.heap.size, 5, none⟩ (.int .i64 t2.v3)).setCell ⟨V0.heap.size, 6, none⟩ (.slice qa t2.tab.length qc)) := ⟨_, rfl⟩
          rw [← hWF] at BP BT KF HTE ⊢
          clear hWF z0 z1 z2 z3 z4 z5 z6 zf zl
          refine hK.out _ _ (HSB.out _ KF) (fun hS => ?_)
          clear hK K
          refine wpAnyH_take (i := 11) (v := .slice ra n2.length rc) rfl (by kernel_rfl) (by kernel_rfl) (by kernel_rfl) (fun _ _ _ h => h) (Or.inl ⟨by rfl, ?_⟩) hS ?_
          · intro w hS; go_simp
          refine wpAnyH_take (i := 12) (v := .int .i64 0) rfl (by kernel_rfl) (by kernel_rfl) (by kernel_rfl) (fun _ _ _ h => h) (Or.inl ⟨by rfl, ?_⟩) hS ?_
          · intro w hS; go_simp
          refine wpAnyH_done (by kernel_rfl) ?_ _
          go_wp2_with fail
          go_meet
          exact ⟨rfl, _, _, _, _, _, rfl, rfl, BP, HTE.1, HTE.2, KF⟩
      case rest =>
        obtain ⟨rfl, zb, za, zc, ca, cc, rfl, rfl, hZ, hTZ, hIZ, k45⟩ := hcut
        obtain ⟨w5, hw5⟩ : ∃ z, z = wc := ⟨_, rfl⟩
        rw [← hw5] at hZ hTZ hIZ k45 ⊢
        clear hw5
        have HX5 : Hid (StBox XB t (.slice pa t.tab.length pc) w5) := HX4.out.keep k45
        have HK5 : Hid (Keeps w w5) := HK4.out.trans k45
        have HO5 : Hid (TabAt w5 (.slice pa t.tab.length pc) t.tab) := HO4.out.keep k45
        have HI5 : Hid (IntsAt w5 (.slice aa an.length ac) an) := HI4.out.keep k45
        have HIY5 : Hid (IntsAt w5 (.slice ba n1.length bc) n1) := HIY4.out.keep k45
        have HZ5 : Hid (StBox zb t2 (.slice za t2.tab.length zc) w5) := hZ
        have HTZ5 : Hid (TabAt w5 (.slice za t2.tab.length zc) t2.tab) := hTZ
        have HIZ5 : Hid (IntsAt w5 (.slice ca n2.length cc) n2) := hIZ
        have HLN : Hid (n1.length + n2.length ≤ 50) := by
          show _ ≤ _
          rw [← List.length_append, HN2.out, HAN.out, runAns_len]
          exact hl50
        have HSE : Hid (stErr t2 = 0) := by show _ = _; rw [HT2.out]; exact (HSP.out 0).2.2
        clear hZ hTZ hIZ k45 HX4 HK4 HO4 HI4 HIY4 HY4 HTY4 HSB HCB HSV HSP
        go_wp2_with fail
        refine (fold_begun w5).mono ?_
        rintro y w6 ⟨rfl, k56⟩
        have X6 := HX5.out.keep k56
        have Z6 := HZ5.out.keep k56
        have x0 := X6.c0
        have x1 := X6.c1
        have x2 := X6.c2
        have x3 := X6.c3
        have x4 := X6.c4
        have x5 := X6.c5
        have x6 := X6.c6
        have xl := X6.lt
        have z0 := Z6.c0
        have z1 := Z6.c1
        have z2 := Z6.c2
        have z3 := Z6.c3
        have z4 := Z6.c4
        have z5 := Z6.c5
        have z6 := Z6.c6
        have zl := Z6.lt
        have HK56 : Hid (Keeps w5 w6) := k56
        clear X6 Z6 k56
        go_wp2_with fail
        refine (same_of t t2 _ _ w6 (HO5.out.keep HK56.out) (HTZ5.out.keep HK56.out)).mono ?_
        rintro y w7 ⟨rfl, hb⟩
        have hss : sameSt t t2 = true := same_st_iff.2 HT2.out.symm
        rw [hss]
        have HK57 : Hid (Keeps w5 w7) := HK56.out.trans hb
        clear hb hss HK56 x0 x1 x2 x3 x4 x5 x6 xl z0 z1 z2 z3 z4 z5 z6 zl
        have hmade := World.ownsRow_made (base := w7.heap.size) (e := 3) (size := 1) w7 #[] 0 (Nat.le_refl _) (by unfold maxLen; omega) rfl
        have hln := HLN.out
        have kA : Keeps w7 (w7.alloc (.cells #[] 3)) := (Keeps.refl _).alloc _
        obtain ⟨v1, w8, hr1, ho1, hg1⟩ := run_append_read _ w7.heap.size 27 27 3 1 8 _ infoInt Try.underlying27 rfl (by decide) _ 0 [] hmade _ n1.length (intCells n1) ((HIY5.out.keep HK57.out).keep kA) (by intro u hu; simp [intCells] at hu; obtain ⟨a, _, rfl⟩ := hu; rfl) (by unfold maxLen; omega) (by omega) (by simp)
        have k8 : Keeps w7 w8 := keeps_grown kA hg1 (fun k h => by simp [Value.ownBlock] at h; omega)
        simp only [Nat.zero_add, List.nil_append] at ho1
        obtain ⟨ga, gc, hv1, _⟩ := (RowAt.of_owns ho1).len
        subst hv1
        obtain ⟨v2, w9, hr2, ho2, hg2⟩ := run_append_read w8 w7.heap.size 27 27 3 1 8 _ infoInt Try.underlying27 rfl (by decide) _ n1.length (intCells n1) ho1 _ n2.length (intCells n2) ((HIZ5.out.keep HK57.out).keep k8) (by intro u hu; simp [intCells] at hu; obtain ⟨a, _, rfl⟩ := hu; rfl) (by unfold maxLen; omega) (by omega) k8.size
        have k9 : Keeps w7 w9 := keeps_grown k8 hg2 (fun k h => (ho1.lt k h).1)
        obtain ⟨ha, hc, hv2, _⟩ := (RowAt.of_owns ho2).len
        subst hv2
        have HI9 : Hid (IntsAt w9 (.slice ha (n1.length + n2.length) hc) (n1 ++ n2)) := by
          show RowAt _ _ _ _ _
          have := RowAt.of_owns ho2
          rw [show intCells (n1 ++ n2) = intCells n1 ++ intCells n2 by simp [intCells], List.length_append]
          exact this
        have Hr1 := (show Hid (_ = _) from hr1)
        have Hr2 := (show Hid (_ = _) from hr2)
        have HK9 : Hid (Keeps w5 w9) := HK57.out.trans k9
        clear hr1 hr2 ho1 ho2 hg1 hg2 hmade kA k8 k9 hln
        go_wp2_with (at_builtin; first | refine wpList_append_wanted (by rfl) _ _ _ rfl rfl rfl Hr1.out ?_ | refine wpList_append_wanted (by rfl) _ _ _ rfl rfl rfl Hr2.out ?_)
        refine (same_ints an (n1 ++ n2) _ _ w9 (HI5.out.keep HK9.out) HI9.out).mono ?_
        rintro y w10 ⟨rfl, hb⟩
        have hsm : sameInts an (n1 ++ n2) = true := sameInts_iff.2 HN2.out.symm
        rw [hsm]
        have HK10 : Hid (Keeps w5 w10) := HK9.out.trans hb
        have Z10 := HZ5.out.keep HK10.out
        have z0 := Z10.c0
        have z1 := Z10.c1
        have z2 := Z10.c2
        have z3 := Z10.c3
        have z4 := Z10.c4
        have z5 := Z10.c5
        have z6 := Z10.c6
        have zl := Z10.lt
        clear hb hsm Z10 Hr1 Hr2
        go_wp2_with fail
        refine (state_check t2 _ w10 (HTZ5.out.keep HK10.out)).mono ?_
        rintro y w11 ⟨rfl, hb⟩
        rw [HSE.out]
        have HK11 : Hid (Keeps w w11) := (HK5.out.trans HK10.out).trans hb
        clear hb z0 z1 z2 z3 z4 z5 z6 zl
        go_wp2_with fail
        go_ret
        exact ⟨rfl, HK11.out⟩
end Go.Proofs.Yteabfjpajgakiac

/- Rows of truths. -/
set_option linter.unusedSimpArgs false
set_option linter.unusedVariables false
set_option maxRecDepth 10000
namespace Go.Proofs.Yteabfjpajgakiac
open Go.RowKit

def boolCells (l : List Bool) : List Value := l.map (fun n => .bool n)
def BoolsAt (w : World) (v : Value) (l : List Bool) : Prop := RowAt w 1 v l.length (boolCells l)
theorem BoolsAt.keep {w w' : World} {v : Value} {l : List Bool} (h : BoolsAt w v l) (hk : Keeps w w') : BoolsAt w' v l := RowAt.keep h hk
theorem BoolsAt.of {w : World} {base : Nat} {v : Value} {l : List Bool} (h : w.ownsRow base 4 1 v l.length (boolCells l)) : BoolsAt w v l := RowAt.of_owns h
theorem BoolsAt.at {w : World} {v : Value} {l : List Bool} (h : BoolsAt w v l) {k : Nat} (hk : k < l.length) : ∃ b off cap, v = .slice (some ⟨b, off, none⟩) l.length cap ∧ w.cell? ⟨b, off + k, none⟩ = some (.bool (l[k])) := by
  obtain ⟨b, off, cap, rfl, h3⟩ := RowAt.plain h (by simp [boolCells]; omega)
  exact ⟨b, off, cap, rfl, h3 k _ (by simp [boolCells, List.getElem?_eq_getElem hk])⟩
theorem infoBool : (Try.prog.info? 4).map (fun i => (i.zero, i.size, i.bytes)) = some (some (.bool false), 1, 1) := by kernel_rfl
end Go.Proofs.Yteabfjpajgakiac

/- Three appends in one statement, and parts of a row of answers. -/
set_option linter.unusedSimpArgs false
set_option linter.unusedVariables false
namespace Go.Proofs.Yteabfjpajgakiac
open Go.RowKit

/-- An append whose run is known, as a step of a region that draws. -/
theorem step_append_run {P : Program} {ops : Array Oper} {o : Oper} {a : Act} {w w' : World} {K : Act → World → Prop} {Q : Exit → Act → World → Prop} {E : Prop} {v x v' : Value} (hgd : o.guard = none) (s y : Operand) (t : TypeId)
    (ho : o.op = .call { callee := .builtin .append, args := #[s, y], argTypes := #[t, t] }) (hs : a.eval s = v) (hx : a.eval y = x)
    (hr : (Builtin.append_ #[t, t] o.type #[v, x]).run P w = .ok v' w') (hK : K (a.put o.dst v') w') : if Region.wanted o (yielded ops a.tmps) = true then Oper.wp P o a w K Q else E := by
  have hw : Region.wanted o (yielded ops a.tmps) = true := by simp [Region.wanted, hgd]
  rw [if_pos hw]
  unfold Oper.wp
  simp [execOp, ho, resolve, invoke, builtin, hs, hx, hr, Result.andThen]
  exact hK

theorem kept_prefix {w : World} {oa : Option Addr} {oc j : Nat} {l : List (Int × Int)} (h : KeptAt w (.slice oa l.length oc) l) (hj : j ≤ l.length) : KeptAt w (.slice (if oc = 0 then oa else oa.map (·.add (0 * 2))) j oc) (l.take j) := by
  obtain ⟨h1, h2, h3⟩ := h
  have hl : (l.take j).length = j := by simp; omega
  refine ⟨by rw [repCells_len], by rw [hl]; omega, ?_⟩
  rcases h3 with ⟨e, hn⟩ | ⟨a, cap, e, h3⟩
  · injection e with e1 e2 e3
    subst e1 e3
    left
    have : j = 0 := by omega
    subst this
    exact ⟨rfl, by simp⟩
  · injection e with e1 e2 e3
    subst e1
    right
    refine ⟨a, oc, ?_, fun i u hu => ?_⟩
    · rw [hl]
      have : a.add (0 * 2) = a := rfl
      simp only [Option.map_some, this, ite_self]
    · rw [← repCells_take] at hu
      rw [List.getElem?_take] at hu
      split at hu
      · exact h3 i u hu
      · cases hu

theorem kept_suffix {w : World} {oa : Option Addr} {oc j : Nat} {l : List (Int × Int)} (h : KeptAt w (.slice oa l.length oc) l) (hj : j ≤ l.length) (hc : l.length ≤ oc) : KeptAt w (.slice (if oc = j then oa else oa.map (·.add (j * 2))) (l.length - j) (oc - j)) (l.drop j) := by
  obtain ⟨h1, h2, h3⟩ := h
  have hl : (l.drop j).length = l.length - j := by simp
  refine ⟨by rw [repCells_len], by rw [hl]; omega, ?_⟩
  rcases h3 with ⟨e, hn⟩ | ⟨a, cap, e, h3⟩
  · injection e with e1 e2 e3
    subst e1 e3
    left
    have : j = 0 := by omega
    subst this
    rw [hl, hn]
    exact ⟨rfl, rfl⟩
  · injection e with e1 e2 e3
    subst e1
    right
    by_cases hcj : oc = j
    · refine ⟨a, oc - j, by rw [if_pos hcj, hl], fun i u hu => ?_⟩
      rw [List.drop_of_length_le (by omega)] at hu
      simp [repCells] at hu
    · refine ⟨a.add (j * 2), oc - j, by rw [if_neg hcj, hl]; rfl, fun i u hu => ?_⟩
      rw [← repCells_drop, List.getElem?_drop] at hu
      have := h3 _ u hu
      have e : (a.add (j * 2)).add i = a.add (j * 2 + i) := by
        obtain ⟨b, o, sp⟩ := a
        rcases Nat.eq_zero_or_pos j with h0 | h0
        · subst h0
          rw [Nat.zero_mul, Nat.zero_add]
          rfl
        · have h2 : j * 2 ≠ 0 := by omega
          have h3 : j * 2 + i ≠ 0 := by omega
          rcases Nat.eq_zero_or_pos i with h4 | h4
          · subst h4
            rfl
          · have h5 : i ≠ 0 := by omega
            simp only [Addr.add, h2, h3, h5, if_false, Nat.add_assoc]
      rw [e]
      exact this

/-- 'append(v, x...)' of answers, v the call's own from base on. -/
theorem app_rep (w : World) (base : Nat) (v : Value) (A : List (Int × Int)) (hown : w.ownsRow base 112 2 v A.length (repCells A)) (x : Value) (B : List (Int × Int)) (hx : KeptAt w x B) (hl : A.length + B.length ≤ 100) (hbase : base ≤ w.heap.size) :
    ∃ va vc w', (Builtin.append_ #[70, 70] 70 #[v, x]).run Try.prog w = .ok (.slice va (A ++ B).length vc) w' ∧ w'.ownsRow base 112 2 (.slice va (A ++ B).length vc) (A ++ B).length (repCells (A ++ B)) ∧ (∀ w0, w0.heap.size = base → Keeps w0 w → Keeps w0 w') ∧ ∀ b, some b ≠ v.ownBlock → b < w.heap.size → w'.heap[b]? = w.heap[b]? := by
  obtain ⟨v', w', hr, ho, hg⟩ := run_append_read w base 70 70 112 2 16 _ infoRep Try.underlying70 rfl (by decide) v A.length (repCells A) hown x B.length (repCells B) hx (repCells_one _) (by unfold maxLen; omega) (by omega) hbase
  rw [← List.length_append, ← repCells_append] at ho
  obtain ⟨va, vc, hv, _⟩ := (RowAt.of_owns ho).len
  subst hv
  refine ⟨va, vc, w', hr, ho, fun w0 h0 hk => keeps_grown hk hg (fun k hk' => ?_), fun b hb hl => hg.block b hl hb⟩
  rw [h0]
  exact (hown.lt k hk').1

theorem owns_cap {w : World} {base n m oc size : Nat} {e : TypeId} {oa : Option Addr} {xs : List Value} (h : w.ownsRow base e size (.slice oa n oc) m xs) : m ≤ oc := by
  rcases h.2 with ⟨e, h⟩ | ⟨g, cap, cur, e, _, _, h, _⟩
  · omega
  · injection e with _ _ e
    subst e
    exact h
theorem kept_far {w w' : World} {b n c : Nat} {l : List (Int × Int)} (h : KeptAt w (.slice (some ⟨b, 0, none⟩) n c) l) (he : w'.heap[b]? = w.heap[b]?) : KeptAt w' (.slice (some ⟨b, 0, none⟩) n c) l := by
  obtain ⟨h1, h2, h3⟩ := h
  refine ⟨h1, h2, ?_⟩
  rcases h3 with h3 | ⟨a, cap, e, h3⟩
  · exact .inl h3
  · injection e with e1 e2 e3
    injection e1 with e1
    subst e1 e2 e3
    exact .inr ⟨_, _, rfl, fun j u hu => by rw [← h3 j u hu]; exact World.cell?_of_block (by rw [Addr.add_lit]; exact he)⟩

theorem cell_three {w : World} {g cap k : Nat} {L : List Ses} (h : TabAt w (.slice (some ⟨g, 0, none⟩) L.length cap) L) (hk : k < L.length) : ∃ u, w.cell? ⟨g, k * 4 + 3, none⟩ = some u := by
  have hc := (h.cells k hk _ rfl).2.2.2
  obtain ⟨ka, kc, hc, _⟩ := hc
  rw [Nat.zero_add] at hc
  exact ⟨_, hc⟩

/-- A row without an element, just laid. -/
theorem owns_bare (w : World) (base : Nat) (hb : base ≤ w.heap.size) : (w.alloc (.cells #[] 112)).ownsRow base 112 2 (.slice (some ⟨w.heap.size, 0, none⟩) 0 0) ([] : List (Int × Int)).length (repCells []) := by
  have := World.ownsRow_made (base := base) (e := 112) (size := 2) w #[] 0 hb (by unfold maxLen; omega) rfl
  exact this
end Go.Proofs.Yteabfjpajgakiac
