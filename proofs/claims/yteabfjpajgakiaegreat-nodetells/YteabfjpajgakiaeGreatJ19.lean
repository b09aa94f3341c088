/- PaC, SomeC, PaE. -/
import Derived.Test.YteabfjpajgakiaeGreatJ13
import Derived.Test.YteabfjpajgakiaeGreatJ15
/- pack.Put. -/
set_option linter.unusedSimpArgs false
set_option linter.unusedVariables false
set_option maxRecDepth 10000
namespace Go.Proofs.YteabfjpajgakiaeGreat
open Go.RowKit

set_option maxHeartbeats 8000000 in
theorem pack_put (l : Lg) (e : Ent) (x : Value) (ta : Option Addr) (tc : Nat) (w : World) (hT : TabAt w x l.base.tab) (hL : EntsAt w (.slice ta l.tail.length tc) l.tail) (hcap : l.tail.length ≤ tc) :
    Calls Tryz.prog 15 #[lgV l x (.slice ta l.tail.length tc), entV e] w fun y w' => ∃ qa qc ea ec, OwnTab w.heap.size w' (.slice qa (putLg l e).base.tab.length qc) (putLg l e).base.tab ∧ w'.ownsRow w.heap.size 43 9 (.slice ea (putLg l e).tail.length ec) (putLg l e).tail.length (entCells (putLg l e).tail) ∧ (putLg l e).tail.length ≤ ec ∧
      y = .returned (.tuple #[lgV (putLg l e) (.slice qa (putLg l e).base.tab.length qc) (.slice ea (putLg l e).tail.length ec), .int .i64 (putAns l e), .int .i64 (putLgErr l e)]) ∧ Keeps w w' := by
  obtain ⟨xa, xc, rfl, _⟩ := hT.len
  have HT : Hid (TabAt w (.slice xa l.base.tab.length xc) l.base.tab) := hT
  have HL : Hid (EntsAt w (.slice ta l.tail.length tc) l.tail) := hL
  have hlen := hL.2.1
  unfold maxLen at hlen
  clear hT hL
  have HPZ : Hid ((putLgErr l e == 0) = false → putLg l e = zeroLg ∧ putAns l e = 0) := fun h => ⟨by unfold putLg; rw [h]; rfl, by unfold putAns; rw [h]; rfl⟩
  have HPN : Hid (putLgErr l e = 0 → putLg l e = ⟨l.base, l.tail ++ [e]⟩ ∧ putAns l e = oneAns (runSt l.base l.tail) e) := fun h => ⟨by unfold putLg; rw [h]; rfl, by unfold putAns; rw [h]; rfl⟩
  go_enter Tryz.func15, Tryz.ntmps15
  go_wp2_with fail
  obtain ⟨W1, hW1⟩ : ∃ W1, W1 = ((w.alloc (.cells #[.int .i64 l.base.at_, .int .i64 l.base.clock, .int .i64 l.base.v0, .int .i64 l.base.v1, .int .i64 l.base.v2, .int .i64 l.base.v3, .slice xa l.base.tab.length xc, .slice ta l.tail.length tc] 28)).alloc (.cells #[.int .i64 e.kind, .int .i64 e.time, .int .i64 e.client, .int .i64 e.seq, .int .i64 e.ack, .int .i64 e.ok, .int .i64 e.okey, .int .i64 e.oto, .int .i64 e.on] 43)).alloc (.cells #[.int .i64 0, .int .i64 0, .int .i64 0, .int .i64 0, .int .i64 0, .int .i64 0, .slice none 0 0, .slice none 0 0] 28) := ⟨_, rfl⟩
  have k1 : Keeps w W1 := by rw [hW1]; exact (((Keeps.refl _).alloc _).alloc _).alloc _
  have B1 : LgBox w.heap.size l (.slice xa l.base.tab.length xc) (.slice ta l.tail.length tc) W1 := by rw [hW1]; exact (LgBox.new w l _ _ rfl rfl 28).keep (((Keeps.refl _).alloc _).alloc _)
  have E1 : EntBox (w.heap.size + 1) e W1 := by
    rw [hW1]
    have := (EntBox.new (w.alloc (.cells #[.int .i64 l.base.at_, .int .i64 l.base.clock, .int .i64 l.base.v0, .int .i64 l.base.v1, .int .i64 l.base.v2, .int .i64 l.base.v3, .slice xa l.base.tab.length xc, .slice ta l.tail.length tc] 28)) e 43).keep ((Keeps.refl _).alloc (.cells #[.int .i64 0, .int .i64 0, .int .i64 0, .int .i64 0, .int .i64 0, .int .i64 0, .slice none 0 0, .slice none 0 0] 28))
    simp only [World.size_alloc] at this
    exact this
  have Z1 : LgBox (w.heap.size + 2) zeroLg (.slice none 0 0) (.slice none 0 0) W1 := by
    rw [hW1]
    have := LgBox.new ((w.alloc (.cells #[.int .i64 l.base.at_, .int .i64 l.base.clock, .int .i64 l.base.v0, .int .i64 l.base.v1, .int .i64 l.base.v2, .int .i64 l.base.v3, .slice xa l.base.tab.length xc, .slice ta l.tail.length tc] 28)).alloc (.cells #[.int .i64 e.kind, .int .i64 e.time, .int .i64 e.client, .int .i64 e.seq, .int .i64 e.ack, .int .i64 e.ok, .int .i64 e.okey, .int .i64 e.oto, .int .i64 e.on] 43)) zeroLg (.slice none 0 0) (.slice none 0 0) rfl rfl 28
    simp only [World.size_alloc] at this
    exact this
  rw [← hW1]
  clear hW1
  refine (pack_both l e _ _ W1 (HT.out.keep k1) (HL.out.keep k1)).mono ?_
  rintro y w1 ⟨rfl, hb⟩
  have HK1 : Hid (Keeps w w1) := k1.trans hb
  have HB1 : Hid (LgBox w.heap.size l (.slice xa l.base.tab.length xc) (.slice ta l.tail.length tc) w1) := B1.keep hb
  have HE1 : Hid (EntBox (w.heap.size + 1) e w1) := E1.keep hb
  have HZ1 : Hid (LgBox (w.heap.size + 2) zeroLg (.slice none 0 0) (.slice none 0 0) w1) := Z1.keep hb
  have HZ5 : Hid (w.heap.size + 2 < w1.heap.size) := HZ1.out.lt
  clear k1 B1 E1 Z1 hb
  clear W1
  cases q1 : (putLgErr l e == 0) with
  | false =>
    have q1' : (putLgErr l e != 0) = true := by simp [bne, q1]
    have H1 := (show Hid _ from HPZ.out q1)
    have z0 := HZ1.out.c0
    have z1 := HZ1.out.c1
    have z2 := HZ1.out.c2
    have z3 := HZ1.out.c3
    have z4 := HZ1.out.c4
    have z5 := HZ1.out.c5
    have z6 := HZ1.out.c6
    have z7 := HZ1.out.c7
    have zf := HZ1.out.fz
    have zl := HZ1.out.lt
    have hk := HK1.out
    go_wp2_with fail
    refine bodyPost_ret (v := .tuple #[lgV zeroLg (.slice none 0 0) (.slice none 0 0), .int .i64 0, .int .i64 (putLgErr l e)]) ?_ rfl ?_
    · simp [results, Tryz.results15, go_sem, zeroLg, zeroSt, z0, z1, z2, z3, z4, z5, z6, z7]
    · rw [H1.out.1, H1.out.2]
      refine ⟨none, 0, none, 0, OwnTab.nil _ _, World.ownsRow_nil _ _ _ _, Nat.le_refl _, rfl, ?_⟩
      repeat refine Keeps.set ?_ (by simp <;> omega) _
      exact hk
  | true =>
    have q1' : (putLgErr l e != 0) = false := by simp [bne, q1]
    have q0 : putLgErr l e = 0 := by simpa using q1
    obtain ⟨hl0, he0, hroom, hbe⟩ := putLg_right q0
    have hbase := (fold_right hl0).1
    have h50 : l.tail.length ≤ 50 := by have := (stErr_bounds hbase).1; omega
    have H1 := (show Hid _ from HPN.out q0)
    have HP0 : Hid (putLgErr l e = 0) := q0
    have HBS : Hid (stErr l.base = 0) := hbase
    obtain ⟨r, hr'⟩ : ∃ r, r = runSt l.base l.tail := ⟨_, rfl⟩
    rw [← hr'] at hbe H1
    obtain ⟨r2, hr2⟩ : ∃ r2, r2 = oneSt r e := ⟨_, rfl⟩
    obtain ⟨an, han⟩ : ∃ an, an = oneAns r e := ⟨_, rfl⟩
    obtain ⟨dn, hdn⟩ : ∃ dn, dn = oneDone r e := ⟨_, rfl⟩
    rw [← han] at H1
    have HC1 : Hid (∀ W, Keeps w1 W → Calls Tryz.prog 31 #[lgV l (.slice xa l.base.tab.length xc) (.slice ta l.tail.length tc), .int .i64 l.tail.length] W fun y w' => ∃ qa qc, Hid (OwnTab W.heap.size w' (.slice qa r.tab.length qc) r.tab) ∧ y = .returned (stV r (.slice qa r.tab.length qc)) ∧ Keeps W w') := by
      intro W hk
      rw [hr']
      have := pack_behind l l.tail.length _ ta tc W (HT.out.keep (HK1.out.trans hk)) (HL.out.keep (HK1.out.trans hk)) hl0 (Nat.le_refl _) hcap
      rw [List.take_length] at this
      exact this
    have HC2 : Hid (∀ W (x : Value), TabAt W x r.tab → Calls Tryz.prog 35 #[stV r x, entV e] W fun y w' => ∃ sa sc, Hid (OwnTab W.heap.size w' (.slice sa r2.tab.length sc) r2.tab) ∧ y = .returned (.tuple #[stV r2 (.slice sa r2.tab.length sc), .int .i64 an, .bool dn, .int .i64 0]) ∧ Keeps W w') := by
      intro W x hx
      refine (one_c r e x W hx).mono ?_
      rintro y w' ⟨x', ho, rfl, hb⟩
      rw [hr2, han, hdn, hbe]
      obtain ⟨sa, sc, rfl, _⟩ := ho.tab.len
      exact ⟨sa, sc, ho, rfl, hb⟩
    have HSA : Hid (∀ W, Keeps w1 W → W.cell? ⟨w.heap.size, 0, none⟩ = some (.int .i64 l.base.at_) ∧ W.cell? ⟨w.heap.size, 1, none⟩ = some (.int .i64 l.base.clock) ∧ W.cell? ⟨w.heap.size, 2, none⟩ = some (.int .i64 l.base.v0) ∧ W.cell? ⟨w.heap.size, 3, none⟩ = some (.int .i64 l.base.v1) ∧ W.cell? ⟨w.heap.size, 4, none⟩ = some (.int .i64 l.base.v2) ∧ W.cell? ⟨w.heap.size, 5, none⟩ = some (.int .i64 l.base.v3) ∧ W.cell? ⟨w.heap.size, 6, none⟩ = some (.slice xa l.base.tab.length xc) ∧ W.cell? ⟨w.heap.size, 7, none⟩ = some (.slice ta l.tail.length tc) ∧ W.cell? ⟨w.heap.size + 1, 0, none⟩ = some (.int .i64 e.kind) ∧ W.cell? ⟨w.heap.size + 1, 1, none⟩ = some (.int .i64 e.time) ∧ W.cell? ⟨w.heap.size + 1, 2, none⟩ = some (.int .i64 e.client) ∧ W.cell? ⟨w.heap.size + 1, 3, none⟩ = some (.int .i64 e.seq) ∧ W.cell? ⟨w.heap.size + 1, 4, none⟩ = some (.int .i64 e.ack) ∧ W.cell? ⟨w.heap.size + 1, 5, none⟩ = some (.int .i64 e.ok) ∧ W.cell? ⟨w.heap.size + 1, 6, none⟩ = some (.int .i64 e.okey) ∧ W.cell? ⟨w.heap.size + 1, 7, none⟩ = some (.int .i64 e.oto) ∧ W.cell? ⟨w.heap.size + 1, 8, none⟩ = some (.int .i64 e.on)) := fun W hk => have B := HB1.out.keep hk; have E := HE1.out.keep hk; ⟨B.c0, B.c1, B.c2, B.c3, B.c4, B.c5, B.c6, B.c7, E.c0, E.c1, E.c2, E.c3, E.c4, E.c5, E.c6, E.c7, E.c8⟩
    clear hr' hr2 han hdn hbe q0 hbase hl0 he0 hroom
    go_wp2_with fail
    go_cut [9] (fun p wc => p = .int .i64 an ∧ Keeps w1 wc)
    case first =>
      obtain ⟨V0, hV0⟩ : ∃ z, z = w1.drew := ⟨_, rfl⟩
      have k0 : Keeps w1 V0 := by rw [hV0]; exact (Keeps.refl _).drew
      refine wp_region_held_drew (S := fun W => W.cell? ⟨w.heap.size, 0, none⟩ = some (.int .i64 l.base.at_) ∧ W.cell? ⟨w.heap.size, 1, none⟩ = some (.int .i64 l.base.clock) ∧ W.cell? ⟨w.heap.size, 2, none⟩ = some (.int .i64 l.base.v0) ∧ W.cell? ⟨w.heap.size, 3, none⟩ = some (.int .i64 l.base.v1) ∧ W.cell? ⟨w.heap.size, 4, none⟩ = some (.int .i64 l.base.v2) ∧ W.cell? ⟨w.heap.size, 5, none⟩ = some (.int .i64 l.base.v3) ∧ W.cell? ⟨w.heap.size, 6, none⟩ = some (.slice xa l.base.tab.length xc) ∧ W.cell? ⟨w.heap.size, 7, none⟩ = some (.slice ta l.tail.length tc) ∧ W.cell? ⟨w.heap.size + 1, 0, none⟩ = some (.int .i64 e.kind) ∧ W.cell? ⟨w.heap.size + 1, 1, none⟩ = some (.int .i64 e.time) ∧ W.cell? ⟨w.heap.size + 1, 2, none⟩ = some (.int .i64 e.client) ∧ W.cell? ⟨w.heap.size + 1, 3, none⟩ = some (.int .i64 e.seq) ∧ W.cell? ⟨w.heap.size + 1, 4, none⟩ = some (.int .i64 e.ack) ∧ W.cell? ⟨w.heap.size + 1, 5, none⟩ = some (.int .i64 e.ok) ∧ W.cell? ⟨w.heap.size + 1, 6, none⟩ = some (.int .i64 e.okey) ∧ W.cell? ⟨w.heap.size + 1, 7, none⟩ = some (.int .i64 e.oto) ∧ W.cell? ⟨w.heap.size + 1, 8, none⟩ = some (.int .i64 e.on)) (by kernel_rfl) (HSA.out _ (Keeps.refl _).drew) (fun hS => ?_)
      rw [← hV0] at hS ⊢
      clear hV0
      refine wpAnyH_take (i := 0) (v := lgV l (.slice xa l.base.tab.length xc) (.slice ta l.tail.length tc)) rfl (by kernel_rfl) (by kernel_rfl) (by kernel_rfl) (fun _ _ _ h => h) (Or.inl ⟨by rfl, ?_⟩) hS ?_
      · intro w hS; go_simp
      refine wpAnyH_take (i := 1) (v := .pointer (some ⟨w.heap.size, 7, none⟩)) rfl (by kernel_rfl) (by kernel_rfl) (by kernel_rfl) (fun _ _ _ h => h) (Or.inl ⟨by rfl, ?_⟩) hS ?_
      · intro w hS; go_simp
      refine wpAnyH_take (i := 2) (v := .slice ta l.tail.length tc) rfl (by kernel_rfl) (by kernel_rfl) (by kernel_rfl) (fun _ _ _ h => h) (Or.inl ⟨by rfl, ?_⟩) hS ?_
      · intro w hS; go_simp
      refine wpAnyH_take (i := 3) (v := .int .i64 l.tail.length) rfl (by kernel_rfl) (by kernel_rfl) (by kernel_rfl) (fun _ _ _ h => h) (Or.inl ⟨by rfl, ?_⟩) hS ?_
      · intro w hS; go_simp
      refine wpAnyH_take (i := 5) (v := entV e) rfl (by kernel_rfl) (by kernel_rfl) (by kernel_rfl) (fun _ _ _ h => h) (Or.inl ⟨by rfl, ?_⟩) hS ?_
      · intro w hS; go_simp
      refine wpAnyH_ready (rs := [4, 12]) (by kernel_rfl) (by simp) ?_
      refine AllReadyH.cons rfl (fun K hK => ?_) (AllReadyH.cons rfl (fun K hK => ?_) (AllReadyH.nil))
      · go_simp
        refine (HC1.out V0 k0).mono ?_
        rintro y V1 ⟨qa, qc, HO1, rfl, hb⟩
        have k1 := k0.trans hb
        clear hb
        go_simp
        refine hK.out _ _ (HSA.out _ k1) (fun hS => ?_)
        clear hK K
        refine wpAnyH_ready (rs := [6, 12]) (by kernel_rfl) (by simp) ?_
        refine AllReadyH.cons rfl (fun K hK => ?_) (AllReadyH.cons rfl (fun K hK => ?_) (AllReadyH.nil))
        · go_simp
          refine (HC2.out V1 _ HO1.out.tab).mono ?_
          rintro y V2 ⟨sa, sc, HS2, rfl, hb⟩
          have k2 := k1.trans hb
          clear hb
          go_simp
          refine hK.out _ _ (HSA.out _ k2) (fun hS => ?_)
          clear hK K
          refine wpAnyH_take (i := 7) (v := .tuple #[stV r2 (.slice sa r2.tab.length sc), .int .i64 an, .bool dn, .int .i64 0]) rfl (by kernel_rfl) (by kernel_rfl) (by kernel_rfl) (fun _ _ _ h => h) (Or.inl ⟨by rfl, ?_⟩) hS ?_
          · intro w hS; go_simp
          refine wpAnyH_take (i := 8) (v := stV r2 (.slice sa r2.tab.length sc)) rfl (by kernel_rfl) (by kernel_rfl) (by kernel_rfl) (fun _ _ _ h => h) (Or.inl ⟨by rfl, ?_⟩) hS ?_
          · intro w hS; go_simp
          refine wpAnyH_take (i := 9) (v := .int .i64 an) rfl (by kernel_rfl) (by kernel_rfl) (by kernel_rfl) (fun _ _ _ h => h) (Or.inl ⟨by rfl, ?_⟩) hS ?_
          · intro w hS; go_simp
          refine wpAnyH_take (i := 10) (v := .bool dn) rfl (by kernel_rfl) (by kernel_rfl) (by kernel_rfl) (fun _ _ _ h => h) (Or.inl ⟨by rfl, ?_⟩) hS ?_
          · intro w hS; go_simp
          refine wpAnyH_take (i := 11) (v := .int .i64 0) rfl (by kernel_rfl) (by kernel_rfl) (by kernel_rfl) (fun _ _ _ h => h) (Or.inl ⟨by rfl, ?_⟩) hS ?_
          · intro w hS; go_simp
          refine wpAnyH_ready (rs := [12]) (by kernel_rfl) (by simp) ?_
          refine AllReadyH.cons rfl (fun K hK => ?_) (AllReadyH.nil)
          go_simp
          have hb : Keeps V2 (V2.alloc (.cells #[.int .i64 0, .int .i64 0, .int .i64 0, .int .i64 0, .int .i64 0, .int .i64 0, .slice none 0 0] 25)) := (Keeps.refl _).alloc _
          have HQ3 : Hid (StBox V2.heap.size zeroSt (.slice none 0 0) (V2.alloc (.cells #[.int .i64 0, .int .i64 0, .int .i64 0, .int .i64 0, .int .i64 0, .int .i64 0, .slice none 0 0] 25))) := StBox.new V2 zeroSt (.slice none 0 0) 25
          generalize V2.alloc (.cells #[.int .i64 0, .int .i64 0, .int .i64 0, .int .i64 0, .int .i64 0, .int .i64 0, .slice none 0 0] 25) = V3 at *
          have k3 := k2.trans hb
          clear hb
          refine hK.out _ _ (HSA.out _ k3) (fun hS => ?_)
          clear hK K
          refine wpAnyH_ready (rs := [13]) (by kernel_rfl) (by simp) ?_
          refine AllReadyH.cons rfl (fun K hK => ?_) (AllReadyH.nil)
          have z0 := HQ3.out.c0
          have z1 := HQ3.out.c1
          have z2 := HQ3.out.c2
          have z3 := HQ3.out.c3
          have z4 := HQ3.out.c4
          have z5 := HQ3.out.c5
          have z6 := HQ3.out.c6
          have zf := HQ3.out.fz
          have zl := HQ3.out.lt
          go_simp
          have BT := But.puts (b := V2.heap.size) V3 r2 (.slice sa r2.tab.length sc)
          have KF := But.to k3 k2.size BT
          obtain ⟨WF, hWF⟩ : ∃ z, z = (((((((V3.setCell ⟨V2.heap.size, 0, none⟩ (.int .i64 r2.at_)).setCell ⟨V2.heap.size, 1, none⟩ (.int .i64 r2.clock)).setCell ⟨V2.heap.size, 2, none⟩ (.int .i64 r2.v0)).setCell ⟨V2.heap.size, 3, none⟩ (.int .i64 r2.v1)).setCell ⟨V2.heap.size, 4, none⟩ (.int .i64 r2.v2)).setCell ⟨V2.heap.size, 5, none⟩ (.int .i64 r2.v3)).setCell ⟨V2.heap.size, 6, none⟩ (.slice sa r2.tab.length sc)) := ⟨_, rfl⟩
          rw [← hWF] at BT KF ⊢
          clear hWF z0 z1 z2 z3 z4 z5 z6 zf zl
          refine hK.out _ _ (HSA.out _ KF) (fun hS => ?_)
          clear hK K
          refine wpAnyH_take (i := 14) (v := .int .i64 an) rfl (by kernel_rfl) (by kernel_rfl) (by kernel_rfl) (fun _ _ _ h => h) (Or.inl ⟨by rfl, ?_⟩) hS ?_
          · intro w hS; go_simp
          refine wpAnyH_take (i := 15) (v := .bool dn) rfl (by kernel_rfl) (by kernel_rfl) (by kernel_rfl) (fun _ _ _ h => h) (Or.inl ⟨by rfl, ?_⟩) hS ?_
          · intro w hS; go_simp
          refine wpAnyH_take (i := 16) (v := .int .i64 0) rfl (by kernel_rfl) (by kernel_rfl) (by kernel_rfl) (fun _ _ _ h => h) (Or.inl ⟨by rfl, ?_⟩) hS ?_
          · intro w hS; go_simp
          refine wpAnyH_done (by kernel_rfl) ?_ _
          go_wp2_with fail
          go_meet
          exact ⟨rfl, KF⟩
        · go_simp
          have hb : Keeps V1 (V1.alloc (.cells #[.int .i64 0, .int .i64 0, .int .i64 0, .int .i64 0, .int .i64 0, .int .i64 0, .slice none 0 0] 25)) := (Keeps.refl _).alloc _
          have HQ2 : Hid (StBox V1.heap.size zeroSt (.slice none 0 0) (V1.alloc (.cells #[.int .i64 0, .int .i64 0, .int .i64 0, .int .i64 0, .int .i64 0, .int .i64 0, .slice none 0 0] 25))) := StBox.new V1 zeroSt (.slice none 0 0) 25
          generalize V1.alloc (.cells #[.int .i64 0, .int .i64 0, .int .i64 0, .int .i64 0, .int .i64 0, .int .i64 0, .slice none 0 0] 25) = V2 at *
          have k2 := k1.trans hb
          have HO2 : Hid (OwnTab V0.heap.size V2 (.slice qa r.tab.length qc) r.tab) := HO1.out.keep hb
          clear hb
          refine hK.out _ _ (HSA.out _ k2) (fun hS => ?_)
          clear hK K
          refine wpAnyH_ready (rs := [6]) (by kernel_rfl) (by simp) ?_
          refine AllReadyH.cons rfl (fun K hK => ?_) (AllReadyH.nil)
          go_simp
          refine (HC2.out V2 _ HO2.out.tab).mono ?_
          rintro y V3 ⟨sa, sc, HS3, rfl, hb⟩
          have k3 := k2.trans hb
          have HQ3 : Hid (StBox V1.heap.size zeroSt (.slice none 0 0) V3) := HQ2.out.keep hb
          clear hb
          go_simp
          refine hK.out _ _ (HSA.out _ k3) (fun hS => ?_)
          clear hK K
          refine wpAnyH_take (i := 7) (v := .tuple #[stV r2 (.slice sa r2.tab.length sc), .int .i64 an, .bool dn, .int .i64 0]) rfl (by kernel_rfl) (by kernel_rfl) (by kernel_rfl) (fun _ _ _ h => h) (Or.inl ⟨by rfl, ?_⟩) hS ?_
          · intro w hS; go_simp
          refine wpAnyH_take (i := 8) (v := stV r2 (.slice sa r2.tab.length sc)) rfl (by kernel_rfl) (by kernel_rfl) (by kernel_rfl) (fun _ _ _ h => h) (Or.inl ⟨by rfl, ?_⟩) hS ?_
          · intro w hS; go_simp
          refine wpAnyH_take (i := 9) (v := .int .i64 an) rfl (by kernel_rfl) (by kernel_rfl) (by kernel_rfl) (fun _ _ _ h => h) (Or.inl ⟨by rfl, ?_⟩) hS ?_
          · intro w hS; go_simp
          refine wpAnyH_take (i := 10) (v := .bool dn) rfl (by kernel_rfl) (by kernel_rfl) (by kernel_rfl) (fun _ _ _ h => h) (Or.inl ⟨by rfl, ?_⟩) hS ?_
          · intro w hS; go_simp
          refine wpAnyH_take (i := 11) (v := .int .i64 0) rfl (by kernel_rfl) (by kernel_rfl) (by kernel_rfl) (fun _ _ _ h => h) (Or.inl ⟨by rfl, ?_⟩) hS ?_
          · intro w hS; go_simp
          refine wpAnyH_ready (rs := [13]) (by kernel_rfl) (by simp) ?_
          refine AllReadyH.cons rfl (fun K hK => ?_) (AllReadyH.nil)
          have z0 := HQ3.out.c0
          have z1 := HQ3.out.c1
          have z2 := HQ3.out.c2
          have z3 := HQ3.out.c3
          have z4 := HQ3.out.c4
          have z5 := HQ3.out.c5
          have z6 := HQ3.out.c6
          have zf := HQ3.out.fz
          have zl := HQ3.out.lt
          go_simp
          have BT := But.puts (b := V1.heap.size) V3 r2 (.slice sa r2.tab.length sc)
          have KF := But.to k3 k1.size BT
          obtain ⟨WF, hWF⟩ : ∃ z, z = (((((((V3.setCell ⟨V1.heap.size, 0, none⟩ (.int .i64 r2.at_)).setCell ⟨V1.heap.size, 1, none⟩ (.int .i64 r2.clock)).setCell ⟨V1.heap.size, 2, none⟩ (.int .i64 r2.v0)).setCell ⟨V1.heap.size, 3, none⟩ (.int .i64 r2.v1)).setCell ⟨V1.heap.size, 4, none⟩ (.int .i64 r2.v2)).setCell ⟨V1.heap.size, 5, none⟩ (.int .i64 r2.v3)).setCell ⟨V1.heap.size, 6, none⟩ (.slice sa r2.tab.length sc)) := ⟨_, rfl⟩
          rw [← hWF] at BT KF ⊢
          clear hWF z0 z1 z2 z3 z4 z5 z6 zf zl
          refine hK.out _ _ (HSA.out _ KF) (fun hS => ?_)
          clear hK K
          refine wpAnyH_take (i := 14) (v := .int .i64 an) rfl (by kernel_rfl) (by kernel_rfl) (by kernel_rfl) (fun _ _ _ h => h) (Or.inl ⟨by rfl, ?_⟩) hS ?_
          · intro w hS; go_simp
          refine wpAnyH_take (i := 15) (v := .bool dn) rfl (by kernel_rfl) (by kernel_rfl) (by kernel_rfl) (fun _ _ _ h => h) (Or.inl ⟨by rfl, ?_⟩) hS ?_
          · intro w hS; go_simp
          refine wpAnyH_take (i := 16) (v := .int .i64 0) rfl (by kernel_rfl) (by kernel_rfl) (by kernel_rfl) (fun _ _ _ h => h) (Or.inl ⟨by rfl, ?_⟩) hS ?_
          · intro w hS; go_simp
          refine wpAnyH_done (by kernel_rfl) ?_ _
          go_wp2_with fail
          go_meet
          exact ⟨rfl, KF⟩
      · go_simp
        have hb : Keeps V0 (V0.alloc (.cells #[.int .i64 0, .int .i64 0, .int .i64 0, .int .i64 0, .int .i64 0, .int .i64 0, .slice none 0 0] 25)) := (Keeps.refl _).alloc _
        have HQ1 : Hid (StBox V0.heap.size zeroSt (.slice none 0 0) (V0.alloc (.cells #[.int .i64 0, .int .i64 0, .int .i64 0, .int .i64 0, .int .i64 0, .int .i64 0, .slice none 0 0] 25))) := StBox.new V0 zeroSt (.slice none 0 0) 25
        generalize V0.alloc (.cells #[.int .i64 0, .int .i64 0, .int .i64 0, .int .i64 0, .int .i64 0, .int .i64 0, .slice none 0 0] 25) = V1 at *
        have k1 := k0.trans hb
        clear hb
        refine hK.out _ _ (HSA.out _ k1) (fun hS => ?_)
        clear hK K
        refine wpAnyH_ready (rs := [4]) (by kernel_rfl) (by simp) ?_
        refine AllReadyH.cons rfl (fun K hK => ?_) (AllReadyH.nil)
        go_simp
        refine (HC1.out V1 k1).mono ?_
        rintro y V2 ⟨qa, qc, HO2, rfl, hb⟩
        have k2 := k1.trans hb
        have HQ2 : Hid (StBox V0.heap.size zeroSt (.slice none 0 0) V2) := HQ1.out.keep hb
        clear hb
        go_simp
        refine hK.out _ _ (HSA.out _ k2) (fun hS => ?_)
        clear hK K
        refine wpAnyH_ready (rs := [6]) (by kernel_rfl) (by simp) ?_
        refine AllReadyH.cons rfl (fun K hK => ?_) (AllReadyH.nil)
        go_simp
        refine (HC2.out V2 _ HO2.out.tab).mono ?_
        rintro y V3 ⟨sa, sc, HS3, rfl, hb⟩
        have k3 := k2.trans hb
        have HQ3 : Hid (StBox V0.heap.size zeroSt (.slice none 0 0) V3) := HQ2.out.keep hb
        clear hb
        go_simp
        refine hK.out _ _ (HSA.out _ k3) (fun hS => ?_)
        clear hK K
        refine wpAnyH_take (i := 7) (v := .tuple #[stV r2 (.slice sa r2.tab.length sc), .int .i64 an, .bool dn, .int .i64 0]) rfl (by kernel_rfl) (by kernel_rfl) (by kernel_rfl) (fun _ _ _ h => h) (Or.inl ⟨by rfl, ?_⟩) hS ?_
        · intro w hS; go_simp
        refine wpAnyH_take (i := 8) (v := stV r2 (.slice sa r2.tab.length sc)) rfl (by kernel_rfl) (by kernel_rfl) (by kernel_rfl) (fun _ _ _ h => h) (Or.inl ⟨by rfl, ?_⟩) hS ?_
        · intro w hS; go_simp
        refine wpAnyH_take (i := 9) (v := .int .i64 an) rfl (by kernel_rfl) (by kernel_rfl) (by kernel_rfl) (fun _ _ _ h => h) (Or.inl ⟨by rfl, ?_⟩) hS ?_
        · intro w hS; go_simp
        refine wpAnyH_take (i := 10) (v := .bool dn) rfl (by kernel_rfl) (by kernel_rfl) (by kernel_rfl) (fun _ _ _ h => h) (Or.inl ⟨by rfl, ?_⟩) hS ?_
        · intro w hS; go_simp
        refine wpAnyH_take (i := 11) (v := .int .i64 0) rfl (by kernel_rfl) (by kernel_rfl) (by kernel_rfl) (fun _ _ _ h => h) (Or.inl ⟨by rfl, ?_⟩) hS ?_
        · intro w hS; go_simp
        refine wpAnyH_ready (rs := [13]) (by kernel_rfl) (by simp) ?_
        refine AllReadyH.cons rfl (fun K hK => ?_) (AllReadyH.nil)
        have z0 := HQ3.out.c0
        have z1 := HQ3.out.c1
        have z2 := HQ3.out.c2
        have z3 := HQ3.out.c3
        have z4 := HQ3.out.c4
        have z5 := HQ3.out.c5
        have z6 := HQ3.out.c6
        have zf := HQ3.out.fz
        have zl := HQ3.out.lt
        go_simp
        have BT := But.puts (b := V0.heap.size) V3 r2 (.slice sa r2.tab.length sc)
        have KF := But.to k3 k0.size BT
        obtain ⟨WF, hWF⟩ : ∃ z, z = (((((((V3.setCell ⟨V0.heap.size, 0, none⟩ (.int .i64 r2.at_)).setCell ⟨V0.heap.size, 1, none⟩ (.int .i64 r2.clock)).setCell ⟨V0.heap.size, 2, none⟩ (.int .i64 r2.v0)).setCell ⟨V0.heap.size, 3, none⟩ (.int .i64 r2.v1)).setCell ⟨V0.heap.size, 4, none⟩ (.int .i64 r2.v2)).setCell ⟨V0.heap.size, 5, none⟩ (.int .i64 r2.v3)).setCell ⟨V0.heap.size, 6, none⟩ (.slice sa r2.tab.length sc)) := ⟨_, rfl⟩
        rw [← hWF] at BT KF ⊢
        clear hWF z0 z1 z2 z3 z4 z5 z6 zf zl
        refine hK.out _ _ (HSA.out _ KF) (fun hS => ?_)
        clear hK K
        refine wpAnyH_take (i := 14) (v := .int .i64 an) rfl (by kernel_rfl) (by kernel_rfl) (by kernel_rfl) (fun _ _ _ h => h) (Or.inl ⟨by rfl, ?_⟩) hS ?_
        · intro w hS; go_simp
        refine wpAnyH_take (i := 15) (v := .bool dn) rfl (by kernel_rfl) (by kernel_rfl) (by kernel_rfl) (fun _ _ _ h => h) (Or.inl ⟨by rfl, ?_⟩) hS ?_
        · intro w hS; go_simp
        refine wpAnyH_take (i := 16) (v := .int .i64 0) rfl (by kernel_rfl) (by kernel_rfl) (by kernel_rfl) (fun _ _ _ h => h) (Or.inl ⟨by rfl, ?_⟩) hS ?_
        · intro w hS; go_simp
        refine wpAnyH_done (by kernel_rfl) ?_ _
        go_wp2_with fail
        go_meet
        exact ⟨rfl, KF⟩
    case rest =>
      obtain ⟨rfl, hkc⟩ := hcut
      have HKc : Hid (Keeps w1 wc) := hkc
      have hB := HB1.out.keep hkc
      have b0 := hB.c0
      have b1 := hB.c1
      have b2 := hB.c2
      have b3 := hB.c3
      have b4 := hB.c4
      have b5 := hB.c5
      have b6 := hB.c6
      have b7 := hB.c7
      have bl := hB.lt
      clear hB hkc HSA HC1 HC2
      go_wp2_with fail
      refine (twin_log l _ ta tc wc (HT.out.keep (HK1.out.trans HKc.out)) (HL.out.keep (HK1.out.trans HKc.out)) HBS.out (by omega)).mono ?_
      rintro y w2 ⟨qa, qc, ea, ec, hO, hE, hec, rfl, hb⟩
      have HO2 : Hid (OwnTab wc.heap.size w2 (.slice qa l.base.tab.length qc) l.base.tab) := hO
      have HE2 : Hid (w2.ownsRow wc.heap.size 43 9 (.slice ea l.tail.length ec) l.tail.length (entCells l.tail)) := hE
      have HK2 : Hid (Keeps wc w2) := hb
      have hzc := HKc.out.size
      have hz5 := HZ5.out
      have hz2 := hb.size
      clear hO hE hb b0 b1 b2 b3 b4 b5 b6 b7 bl
      have hE1 := HE1.out.keep (HKc.out.trans HK2.out)
      have e0 := hE1.c0
      have e1 := hE1.c1
      have e2 := hE1.c2
      have e3 := hE1.c3
      have e4 := hE1.c4
      have e5 := hE1.c5
      have e6 := hE1.c6
      have e7 := hE1.c7
      have e8 := hE1.c8
      have el := hE1.lt
      clear hE1
      have k23 : Keeps w2 (w2.alloc (.cells #[.int .i64 l.base.at_, .int .i64 l.base.clock, .int .i64 l.base.v0, .int .i64 l.base.v1, .int .i64 l.base.v2, .int .i64 l.base.v3, .slice qa l.base.tab.length qc, .slice ea l.tail.length ec] 28)) := (Keeps.refl _).alloc _
      have HB3 : Hid (LgBox w2.heap.size l (.slice qa l.base.tab.length qc) (.slice ea l.tail.length ec) (w2.alloc (.cells #[.int .i64 l.base.at_, .int .i64 l.base.clock, .int .i64 l.base.v0, .int .i64 l.base.v1, .int .i64 l.base.v2, .int .i64 l.base.v3, .slice qa l.base.tab.length qc, .slice ea l.tail.length ec] 28))) := LgBox.new w2 l _ _ rfl rfl 28
      have k34 : Keeps (w2.alloc (.cells #[.int .i64 l.base.at_, .int .i64 l.base.clock, .int .i64 l.base.v0, .int .i64 l.base.v1, .int .i64 l.base.v2, .int .i64 l.base.v3, .slice qa l.base.tab.length qc, .slice ea l.tail.length ec] 28)) ((w2.alloc (.cells #[.int .i64 l.base.at_, .int .i64 l.base.clock, .int .i64 l.base.v0, .int .i64 l.base.v1, .int .i64 l.base.v2, .int .i64 l.base.v3, .slice qa l.base.tab.length qc, .slice ea l.tail.length ec] 28)).alloc (.cells (entCells [e]).toArray 43)) := (Keeps.refl _).alloc _
      obtain ⟨v', w4, hr, ho, hg⟩ := run_append_read ((w2.alloc (.cells #[.int .i64 l.base.at_, .int .i64 l.base.clock, .int .i64 l.base.v0, .int .i64 l.base.v1, .int .i64 l.base.v2, .int .i64 l.base.v3, .slice qa l.base.tab.length qc, .slice ea l.tail.length ec] 28)).alloc (.cells (entCells [e]).toArray 43)) wc.heap.size 26 26 43 9 72 _ infoEnt Tryz.underlying26 rfl (by decide) (.slice ea l.tail.length ec) l.tail.length (entCells l.tail) (owns_keep HE2.out (k23.trans k34)) _ 1 (entCells [e]) (EntsAt.new _ [e] (by simp) 1) (entCells_one _) (by unfold maxLen; omega) (by omega) (by simp; omega)
      have SP : Spares (fun g => ∀ h, (Value.slice ea l.tail.length ec).ownBlock = some h → g ≠ h) (w2.alloc (.cells #[.int .i64 l.base.at_, .int .i64 l.base.clock, .int .i64 l.base.v0, .int .i64 l.base.v1, .int .i64 l.base.v2, .int .i64 l.base.v3, .slice qa l.base.tab.length qc, .slice ea l.tail.length ec] 28)) w4 := (Spares.of k34).trans (Spares.grown hg (fun b e h => h b e rfl))
      have hown : ∀ h, (Value.slice ea l.tail.length ec).ownBlock = some h → wc.heap.size ≤ h ∧ h < w2.heap.size := fun h hh => HE2.out.lt h hh
      have hapt := (show Hid _ from owns_tab_apart HO2.out HE2.out (by decide) (by decide))
      have hLB : w4.heap[w2.heap.size]? = some (.cells #[.int .i64 l.base.at_, .int .i64 l.base.clock, .int .i64 l.base.v0, .int .i64 l.base.v1, .int .i64 l.base.v2, .int .i64 l.base.v3, .slice qa l.base.tab.length qc, .slice ea l.tail.length ec] 28) := (SP.block _ (by simp) (fun h hh => by have := hown h hh; omega)).trans (World.alloc_heap_new _ _)
      have HGN := (show Hid _ from owns_not ho hLB (by decide))
      have HSP := (show Hid _ from (Spares.of k23).trans SP)
      have HB4 : Hid (LgBox w2.heap.size l (.slice qa l.base.tab.length qc) (.slice ea l.tail.length ec) w4) := HB3.out.same (SP.block _ (by simp) (fun h hh => by have := hown h hh; omega))
      have HK4 : Hid (Keeps wc w4) := SP.keeps (HK2.out.trans k23) (fun g hg h hh => by have := hown h hh; omega)
      obtain ⟨ga, gc, rfl, _⟩ := (RowAt.of_owns ho).len
      have hgc : l.tail.length + 1 ≤ gc := by
        rcases ho.2 with ⟨h1, h2⟩ | ⟨g, cap, cur, h1, _, _, h2, _⟩
        · omega
        · injection h1 with a1 a2 a3
          omega
      have HG4 : Hid (w4.ownsRow wc.heap.size 43 9 (.slice ga (l.tail.length + 1) gc) (l.tail.length + 1) (entCells l.tail ++ entCells [e])) := ho
      rw [World.size_alloc] at hr
      have Hr := (show Hid (_ = _) from hr)
      have hb4 := HB4.out
      have b0 := hb4.c0
      have b1 := hb4.c1
      have b2 := hb4.c2
      have b3 := hb4.c3
      have b4 := hb4.c4
      have b5 := hb4.c5
      have b6 := hb4.c6
      have b7 := hb4.c7
      have bf := hb4.fz
      have bl := hb4.lt
      have HZ4 : Hid (LgBox (w.heap.size + 2) zeroLg (.slice none 0 0) (.slice none 0 0) w4) := HZ1.out.keep (HKc.out.trans HK4.out)
      have hz4 := HZ4.out
      have z0 := hz4.c0
      have z1 := hz4.c1
      have z2 := hz4.c2
      have z3 := hz4.c3
      have z4 := hz4.c4
      have z5 := hz4.c5
      have z6 := hz4.c6
      have z7 := hz4.c7
      have zf := hz4.fz
      have zl := hz4.lt
      have hne1 : (w2.heap.size = w.heap.size + 2) = False := eq_false (by omega)
      have hne2 : (w.heap.size + 2 = w2.heap.size) = False := eq_false (by omega)
      clear hr ho hg SP hb4 hz4 k23 k34 hLB
      go_wp2_with (at_builtin; refine wpList_append_run rfl _ _ _ rfl rfl rfl Hr.out ?_)
      have bS : But w2.heap.size w4 (w4.setCell ⟨w2.heap.size, 7, none⟩ (.slice ga (l.tail.length + 1) gc)) := (But.refl _ _).set 7 _
      have hz5Z : LgBox (w.heap.size + 2) zeroLg (.slice none 0 0) (.slice none 0 0) (w4.setCell ⟨w2.heap.size, 7, none⟩ (.slice ga (l.tail.length + 1) gc)) := HZ4.out.other bS (by omega)
      have BP := hz5Z.put ⟨l.base, l.tail ++ [e]⟩ (.slice qa l.base.tab.length qc) (.slice ga (l.tail.length + 1) gc)
      have BT := But.lgputs (w.heap.size + 2) (w4.setCell ⟨w2.heap.size, 7, none⟩ (.slice ga (l.tail.length + 1) gc)) ⟨l.base, l.tail ++ [e]⟩ (.slice qa l.base.tab.length qc) (.slice ga (l.tail.length + 1) gc)
      have SX : Spares (fun g => g ≠ w2.heap.size ∧ g ≠ w.heap.size + 2) w4 _ := (Spares.but bS (fun h => h.1 rfl)).trans (Spares.but BT (fun h => h.2 rfl))
      have c0 := BP.c0
      have c1 := BP.c1
      have c2 := BP.c2
      have c3 := BP.c3
      have c4 := BP.c4
      have c5 := BP.c5
      have c6 := BP.c6
      have c7 := BP.c7
      refine bodyPost_ret (v := .tuple #[lgV ⟨l.base, l.tail ++ [e]⟩ (.slice qa l.base.tab.length qc) (.slice ga (l.tail.length + 1) gc), .int .i64 an, .int .i64 0]) ?_ rfl ?_
      · simp only [results, Tryz.results15, go_sem, c0, c1, c2, c3, c4, c5, c6, c7]
        simp [go_sem, c0, c1, c2, c3, c4, c5, c6, c7]
      · rw [H1.out.1, H1.out.2, HP0.out]
        refine ⟨qa, qc, ga, gc, ?_, ?_, ?_, ?_, ?_⟩
        · refine (hapt.out _ ((HSP.out.mono (fun g _ h => h.2.2)).trans (SX.mono (fun g _ h => ⟨by omega, by omega⟩)))).base (by omega)
        · have := owns_base (owns_spared_at HG4.out SX (fun g hg => ⟨fun e => HGN.out (e ▸ hg), by have := (HG4.out.lt g hg).1; omega⟩)) (show w.heap.size ≤ wc.heap.size by omega)
          simpa [entCells_append] using this
        · simpa using hgc
        · simp
        · exact SX.keeps ((HK1.out.trans HKc.out).trans HK4.out) (fun g hg => ⟨by omega, by omega⟩)
end Go.Proofs.YteabfjpajgakiaeGreat

/- Some entries of a log: how much room is behind them. -/
set_option linter.unusedSimpArgs false
set_option linter.unusedVariables false
set_option maxRecDepth 10000
namespace Go.Proofs.YteabfjpajgakiaeGreat
open Go.RowKit

set_option maxHeartbeats 4000000 in
theorem some_cap (w : World) : Calls Tryz.prog 26 #[] w fun y w' => ∃ a, EntsAt w' (.slice (some a) 10 10) someL ∧ y = .returned (.slice (some a) 10 10) ∧ Keeps w w' := by
  go_enter Tryz.func26, Tryz.ntmps26
  go_wp2_with fail
  refine (mk_open 1 1 _).mono ?_
  rintro y w1 ⟨rfl, hb⟩
  have k1 : Keeps w w1 := hb
  clear hb
  go_wp2_with fail
  refine (mk_add 5 _).mono ?_
  rintro y w2 ⟨rfl, hb⟩
  have k2 : Keeps w w2 := k1.trans hb
  clear hb k1
  go_wp2_with fail
  refine (mk_call 2 1 1 0 2 0 0 5 _).mono ?_
  rintro y w3 ⟨rfl, hb⟩
  have k3 : Keeps w w3 := k2.trans hb
  clear hb k2
  go_wp2_with fail
  refine (mk_add 5 _).mono ?_
  rintro y w4 ⟨rfl, hb⟩
  have k4 : Keeps w w4 := k3.trans hb
  clear hb k3
  go_wp2_with fail
  refine (mk_call 3 1 1 0 2 0 0 5 _).mono ?_
  rintro y w5 ⟨rfl, hb⟩
  have k5 : Keeps w w5 := k4.trans hb
  clear hb k4
  go_wp2_with fail
  refine (mk_add 7 _).mono ?_
  rintro y w6 ⟨rfl, hb⟩
  have k6 : Keeps w w6 := k5.trans hb
  clear hb k5
  go_wp2_with fail
  refine (mk_call 4 2 1 0 2 0 0 7 _).mono ?_
  rintro y w7 ⟨rfl, hb⟩
  have k7 : Keeps w w7 := k6.trans hb
  clear hb k6
  go_wp2_with fail
  refine (mk_open 4 2 _).mono ?_
  rintro y w8 ⟨rfl, hb⟩
  have k8 : Keeps w w8 := k7.trans hb
  clear hb k7
  go_wp2_with fail
  refine (mk_call 5 1 2 1 3 0 1 2 _).mono ?_
  rintro y w9 ⟨rfl, hb⟩
  have k9 : Keeps w w9 := k8.trans hb
  clear hb k8
  go_wp2_with fail
  refine (mk_add 5 _).mono ?_
  rintro y w10 ⟨rfl, hb⟩
  have k10 : Keeps w w10 := k9.trans hb
  clear hb k9
  go_wp2_with fail
  refine (mk_call 6 1 1 0 2 0 0 5 _).mono ?_
  rintro y w11 ⟨rfl, hb⟩
  have k11 : Keeps w w11 := k10.trans hb
  clear hb k10
  go_wp2_with fail
  refine (mk_add 1 _).mono ?_
  rintro y w12 ⟨rfl, hb⟩
  have k12 : Keeps w w12 := k11.trans hb
  clear hb k11
  go_wp2_with fail
  refine (mk_call 40 1 2 1 2 0 0 1 _).mono ?_
  rintro y w13 ⟨rfl, hb⟩
  have k13 : Keeps w w13 := k12.trans hb
  clear hb k12
  go_wp2_with fail
  refine (mk_open 41 1 _).mono ?_
  rintro y w14 ⟨rfl, hb⟩
  have k14 : Keeps w w14 := k13.trans hb
  clear hb k13
  go_wp2_with fail
  refine (mk_add 9 _).mono ?_
  rintro y w15 ⟨rfl, hb⟩
  have k15 : Keeps w w15 := k14.trans hb
  clear hb k14
  go_wp2_with fail
  refine (mk_call 42 1 1 0 2 0 0 9 _).mono ?_
  rintro y w16 ⟨rfl, hb⟩
  have k16 : Keeps w w16 := k15.trans hb
  clear hb k15
  go_wp2_with fail
  go_ret
  refine ⟨_, ?_, rfl, k16.alloc _⟩
  exact EntsAt.new w16 someL (by decide) 10
end Go.Proofs.YteabfjpajgakiaeGreat

/- packBegun. -/
set_option linter.unusedSimpArgs false
set_option linter.unusedVariables false
set_option maxRecDepth 10000
namespace Go.Proofs.YteabfjpajgakiaeGreat
open Go.RowKit

def log0 : Lg := ⟨zeroSt, someL⟩
def logC : Lg := cutLg log0 6
def e43 : Ent := ⟨2, 43, 1, 2, 1, 2, 0, 0, 1⟩
def logP : Lg := putLg logC e43
def log45 : Lg := ⟨⟨45, 0, 0, 0, 0, 0, []⟩, someL⟩
theorem pack_runs : lgErr log0 = 0 ∧ (allSt log0.base log0.tail).at_ = 10 ∧ cutErr log0 6 = 0 ∧ logC.base.at_ = 6 ∧ logC.tail.length = 4 ∧ putLgErr logC e43 = 0 ∧ putAns logC e43 = 13 ∧ logP.tail.length = 5 ∧ cutErr log0 11 = 3 ∧ lgErr log45 = 2 := by decide +kernel

end Go.Proofs.YteabfjpajgakiaeGreat
