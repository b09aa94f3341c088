/- PaC, SomeC, PaE, PaG. -/
import Derived.Test.YteabfjpajgakiaeJ13
import Derived.Test.YteabfjpajgakiaeJ15
import Derived.Test.YteabfjpajgakiaeJ17
/- pack.Put. -/
set_option linter.unusedSimpArgs false
set_option linter.unusedVariables false
set_option maxRecDepth 10000
namespace Go.Proofs.Yteabfjpajgakiae
open Go.RowKit

set_option maxHeartbeats 8000000 in
theorem pack_put (l : Lg) (e : Ent) (x : Value) (ta : Option Addr) (tc : Nat) (w : World) (hT : TabAt w x l.base.tab) (hL : EntsAt w (.slice ta l.tail.length tc) l.tail) (hcap : l.tail.length ≤ tc) :
    Calls Try.prog 6 #[lgV l x (.slice ta l.tail.length tc), entV e] w fun y w' => ∃ qa qc ea ec, OwnTab w.heap.size w' (.slice qa (putLg l e).base.tab.length qc) (putLg l e).base.tab ∧ w'.ownsRow w.heap.size 32 9 (.slice ea (putLg l e).tail.length ec) (putLg l e).tail.length (entCells (putLg l e).tail) ∧ (putLg l e).tail.length ≤ ec ∧
      y = .returned (.tuple #[lgV (putLg l e) (.slice qa (putLg l e).base.tab.length qc) (.slice ea (putLg l e).tail.length ec), .int .i64 (putAns l e), .int .i64 (putLgErr l e)]) ∧ Keeps w w' := by
  obtain ⟨xa, xc, rfl, _⟩ := hT.len
  have HT : Hid (TabAt w (.slice xa l.base.tab.length xc) l.base.tab) := hT
  have HL : Hid (EntsAt w (.slice ta l.tail.length tc) l.tail) := hL
  have hlen := hL.2.1
  unfold maxLen at hlen
  clear hT hL
  have HPZ : Hid ((putLgErr l e == 0) = false → putLg l e = zeroLg ∧ putAns l e = 0) := fun h => ⟨by unfold putLg; rw [h]; rfl, by unfold putAns; rw [h]; rfl⟩
  have HPN : Hid (putLgErr l e = 0 → putLg l e = ⟨l.base, l.tail ++ [e]⟩ ∧ putAns l e = oneAns (runSt l.base l.tail) e) := fun h => ⟨by unfold putLg; rw [h]; rfl, by unfold putAns; rw [h]; rfl⟩
  go_enter Try.func6, Try.ntmps6
  go_wp2_with fail
  obtain ⟨W1, hW1⟩ : ∃ W1, W1 = ((w.alloc (.cells #[.int .i64 l.base.at_, .int .i64 l.base.clock, .int .i64 l.base.v0, .int .i64 l.base.v1, .int .i64 l.base.v2, .int .i64 l.base.v3, .slice xa l.base.tab.length xc, .slice ta l.tail.length tc] 28)).alloc (.cells #[.int .i64 e.kind, .int .i64 e.time, .int .i64 e.client, .int .i64 e.seq, .int .i64 e.ack, .int .i64 e.ok, .int .i64 e.okey, .int .i64 e.oto, .int .i64 e.on] 32)).alloc (.cells #[.int .i64 0, .int .i64 0, .int .i64 0, .int .i64 0, .int .i64 0, .int .i64 0, .slice none 0 0, .slice none 0 0] 28) := ⟨_, rfl⟩
  have k1 : Keeps w W1 := by rw [hW1]; exact (((Keeps.refl _).alloc _).alloc _).alloc _
  have B1 : LgBox w.heap.size l (.slice xa l.base.tab.length xc) (.slice ta l.tail.length tc) W1 := by rw [hW1]; exact (LgBox.new w l _ _ rfl rfl 28).keep (((Keeps.refl _).alloc _).alloc _)
  have E1 : EntBox (w.heap.size + 1) e W1 := by
    rw [hW1]
    have := (EntBox.new (w.alloc (.cells #[.int .i64 l.base.at_, .int .i64 l.base.clock, .int .i64 l.base.v0, .int .i64 l.base.v1, .int .i64 l.base.v2, .int .i64 l.base.v3, .slice xa l.base.tab.length xc, .slice ta l.tail.length tc] 28)) e 32).keep ((Keeps.refl _).alloc (.cells #[.int .i64 0, .int .i64 0, .int .i64 0, .int .i64 0, .int .i64 0, .int .i64 0, .slice none 0 0, .slice none 0 0] 28))
    simp only [World.size_alloc] at this
    exact this
  have Z1 : LgBox (w.heap.size + 2) zeroLg (.slice none 0 0) (.slice none 0 0) W1 := by
    rw [hW1]
    have := LgBox.new ((w.alloc (.cells #[.int .i64 l.base.at_, .int .i64 l.base.clock, .int .i64 l.base.v0, .int .i64 l.base.v1, .int .i64 l.base.v2, .int .i64 l.base.v3, .slice xa l.base.tab.length xc, .slice ta l.tail.length tc] 28)).alloc (.cells #[.int .i64 e.kind, .int .i64 e.time, .int .i64 e.client, .int .i64 e.seq, .int .i64 e.ack, .int .i64 e.ok, .int .i64 e.okey, .int .i64 e.oto, .int .i64 e.on] 32)) zeroLg (.slice none 0 0) (.slice none 0 0) rfl rfl 28
    simp only [World.size_alloc] at this
    exact this
  rw [← hW1]
  clear hW1
  refine (pack_both l e _ _ W1 (HT.out.keep k1) (HL.out.keep k1)).mono ?_
  rintro y w1 ⟨rfl, hb⟩
  have HK1 : Hid (Keeps w w1) := k1.trans hb
  have HB1 : Hid (LgBox w.heap.size l (.slice xa l.base.tab.length xc) (.slice ta l.tail.length tc) w1) := B1.keep hb
  have HE1 : Hid (EntBox (w.heap.size + 1) e w1) := E1.keep hb
  have HZ1 : Hid (LgBox (w.heap.size + 2) zeroLg (.slice none 0 0) (.slice none 0 0) w1) := Z1.keep hb
  have HZ5 : Hid (w.heap.size + 2 < w1.heap.size) := HZ1.out.lt
  clear k1 B1 E1 Z1 hb
  clear W1
  cases q1 : (putLgErr l e == 0) with
  | false =>
    have q1' : (putLgErr l e != 0) = true := by simp [bne, q1]
    have H1 := (show Hid _ from HPZ.out q1)
    have z0 := HZ1.out.c0
    have z1 := HZ1.out.c1
    have z2 := HZ1.out.c2
    have z3 := HZ1.out.c3
    have z4 := HZ1.out.c4
    have z5 := HZ1.out.c5
    have z6 := HZ1.out.c6
    have z7 := HZ1.out.c7
    have zf := HZ1.out.fz
    have zl := HZ1.out.lt
    have hk := HK1.out
    go_wp2_with fail
    refine bodyPost_ret (v := .tuple #[lgV zeroLg (.slice none 0 0) (.slice none 0 0), .int .i64 0, .int .i64 (putLgErr l e)]) ?_ rfl ?_
    · simp [results, Try.results6, go_sem, zeroLg, zeroSt, z0, z1, z2, z3, z4, z5, z6, z7]
    · rw [H1.out.1, H1.out.2]
      refine ⟨none, 0, none, 0, OwnTab.nil _ _, World.ownsRow_nil _ _ _ _, Nat.le_refl _, rfl, ?_⟩
      repeat refine Keeps.set ?_ (by simp <;> omega) _
      exact hk
  | true =>
    have q1' : (putLgErr l e != 0) = false := by simp [bne, q1]
    have q0 : putLgErr l e = 0 := by simpa using q1
    obtain ⟨hl0, he0, hroom, hbe⟩ := putLg_right q0
    have hbase := (fold_right hl0).1
    have h50 : l.tail.length ≤ 50 := by have := (stErr_bounds hbase).1; omega
    have H1 := (show Hid _ from HPN.out q0)
    have HP0 : Hid (putLgErr l e = 0) := q0
    have HBS : Hid (stErr l.base = 0) := hbase
    obtain ⟨r, hr'⟩ : ∃ r, r = runSt l.base l.tail := ⟨_, rfl⟩
    rw [← hr'] at hbe H1
    obtain ⟨r2, hr2⟩ : ∃ r2, r2 = oneSt r e := ⟨_, rfl⟩
    obtain ⟨an, han⟩ : ∃ an, an = oneAns r e := ⟨_, rfl⟩
    obtain ⟨dn, hdn⟩ : ∃ dn, dn = oneDone r e := ⟨_, rfl⟩
    rw [← han] at H1
    have HC1 : Hid (∀ W, Keeps w1 W → Calls Try.prog 19 #[lgV l (.slice xa l.base.tab.length xc) (.slice ta l.tail.length tc), .int .i64 l.tail.length] W fun y w' => ∃ qa qc, Hid (OwnTab W.heap.size w' (.slice qa r.tab.length qc) r.tab) ∧ y = .returned (stV r (.slice qa r.tab.length qc)) ∧ Keeps W w') := by
      intro W hk
      rw [hr']
      have := pack_behind l l.tail.length _ ta tc W (HT.out.keep (HK1.out.trans hk)) (HL.out.keep (HK1.out.trans hk)) hl0 (Nat.le_refl _) hcap
      rw [List.take_length] at this
      exact this
    have HC2 : Hid (∀ W (x : Value), TabAt W x r.tab → Calls Try.prog 18 #[stV r x, entV e] W fun y w' => ∃ sa sc, Hid (OwnTab W.heap.size w' (.slice sa r2.tab.length sc) r2.tab) ∧ y = .returned (.tuple #[stV r2 (.slice sa r2.tab.length sc), .int .i64 an, .bool dn, .int .i64 0]) ∧ Keeps W w') := by
      intro W x hx
      refine (one_c r e x W hx).mono ?_
      rintro y w' ⟨x', ho, rfl, hb⟩
      rw [hr2, han, hdn, hbe]
      obtain ⟨sa, sc, rfl, _⟩ := ho.tab.len
      exact ⟨sa, sc, ho, rfl, hb⟩
    have HSA : Hid (∀ W, Keeps w1 W → W.cell? ⟨w.heap.size, 0, none⟩ = some (.int .i64 l.base.at_) ∧ W.cell? ⟨w.heap.size, 1, none⟩ = some (.int .i64 l.base.clock) ∧ W.cell? ⟨w.heap.size, 2, none⟩ = some (.int .i64 l.base.v0) ∧ W.cell? ⟨w.heap.size, 3, none⟩ = some (.int .i64 l.base.v1) ∧ W.cell? ⟨w.heap.size, 4, none⟩ = some (.int .i64 l.base.v2) ∧ W.cell? ⟨w.heap.size, 5, none⟩ = some (.int .i64 l.base.v3) ∧ W.cell? ⟨w.heap.size, 6, none⟩ = some (.slice xa l.base.tab.length xc) ∧ W.cell? ⟨w.heap.size, 7, none⟩ = some (.slice ta l.tail.length tc) ∧ W.cell? ⟨w.heap.size + 1, 0, none⟩ = some (.int .i64 e.kind) ∧ W.cell? ⟨w.heap.size + 1, 1, none⟩ = some (.int .i64 e.time) ∧ W.cell? ⟨w.heap.size + 1, 2, none⟩ = some (.int .i64 e.client) ∧ W.cell? ⟨w.heap.size + 1, 3, none⟩ = some (.int .i64 e.seq) ∧ W.cell? ⟨w.heap.size + 1, 4, none⟩ = some (.int .i64 e.ack) ∧ W.cell? ⟨w.heap.size + 1, 5, none⟩ = some (.int .i64 e.ok) ∧ W.cell? ⟨w.heap.size + 1, 6, none⟩ = some (.int .i64 e.okey) ∧ W.cell? ⟨w.heap.size + 1, 7, none⟩ = some (.int .i64 e.oto) ∧ W.cell? ⟨w.heap.size + 1, 8, none⟩ = some (.int .i64 e.on)) := fun W hk => have B := HB1.out.keep hk; have E := HE1.out.keep hk; ⟨B.c0, B.c1, B.c2, B.c3, B.c4, B.c5, B.c6, B.c7, E.c0, E.c1, E.c2, E.c3, E.c4, E.c5, E.c6, E.c7, E.c8⟩
    clear hr' hr2 han hdn hbe q0 hbase hl0 he0 hroom
    go_wp2_with fail
    go_cut [9] (fun p wc => p = .int .i64 an ∧ Keeps w1 wc)
    case first =>
      obtain ⟨V0, hV0⟩ : ∃ z, z = w1.drew := ⟨_, rfl⟩
      have k0 : Keeps w1 V0 := by rw [hV0]; exact (Keeps.refl _).drew
      refine wp_region_held_drew (S := fun W => W.cell? ⟨w.heap.size, 0, none⟩ = some (.int .i64 l.base.at_) ∧ W.cell? ⟨w.heap.size, 1, none⟩ = some (.int .i64 l.base.clock) ∧ W.cell? ⟨w.heap.size, 2, none⟩ = some (.int .i64 l.base.v0) ∧ W.cell? ⟨w.heap.size, 3, none⟩ = some (.int .i64 l.base.v1) ∧ W.cell? ⟨w.heap.size, 4, none⟩ = some (.int .i64 l.base.v2) ∧ W.cell? ⟨w.heap.size, 5, none⟩ = some (.int .i64 l.base.v3) ∧ W.cell? ⟨w.heap.size, 6, none⟩ = some (.slice xa l.base.tab.length xc) ∧ W.cell? ⟨w.heap.size, 7, none⟩ = some (.slice ta l.tail.length tc) ∧ W.cell? ⟨w.heap.size + 1, 0, none⟩ = some (.int .i64 e.kind) ∧ W.cell? ⟨w.heap.size + 1, 1, none⟩ = some (.int .i64 e.time) ∧ W.cell? ⟨w.heap.size + 1, 2, none⟩ = some (.int .i64 e.client) ∧ W.cell? ⟨w.heap.size + 1, 3, none⟩ = some (.int .i64 e.seq) ∧ W.cell? ⟨w.heap.size + 1, 4, none⟩ = some (.int .i64 e.ack) ∧ W.cell? ⟨w.heap.size + 1, 5, none⟩ = some (.int .i64 e.ok) ∧ W.cell? ⟨w.heap.size + 1, 6, none⟩ = some (.int .i64 e.okey) ∧ W.cell? ⟨w.heap.size + 1, 7, none⟩ = some (.int .i64 e.oto) ∧ W.cell? ⟨w.heap.size + 1, 8, none⟩ = some (.int .i64 e.on)) (by kernel_rfl) (HSA.out _ (Keeps.refl _).drew) (fun hS => ?_)
      rw [← hV0] at hS ⊢
      clear hV0
      refine wpAnyH_take (i := 0) (v := lgV l (.slice xa l.base.tab.length xc) (.slice ta l.tail.length tc)) rfl (by kernel_rfl) (by kernel_rfl) (by kernel_rfl) (fun _ _ _ h => h) (Or.inl ⟨by rfl, ?_⟩) hS ?_
      · intro w hS; go_simp
      refine wpAnyH_take (i := 1) (v := .pointer (some ⟨w.heap.size, 7, none⟩)) rfl (by kernel_rfl) (by kernel_rfl) (by kernel_rfl) (fun _ _ _ h => h) (Or.inl ⟨by rfl, ?_⟩) hS ?_
      · intro w hS; go_simp
      refine wpAnyH_take (i := 2) (v := .slice ta l.tail.length tc) rfl (by kernel_rfl) (by kernel_rfl) (by kernel_rfl) (fun _ _ _ h => h) (Or.inl ⟨by rfl, ?_⟩) hS ?_
      · intro w hS; go_simp
      refine wpAnyH_take (i := 3) (v := .int .i64 l.tail.length) rfl (by kernel_rfl) (by kernel_rfl) (by kernel_rfl) (fun _ _ _ h => h) (Or.inl ⟨by rfl, ?_⟩) hS ?_
      · intro w hS; go_simp
      refine wpAnyH_take (i := 5) (v := entV e) rfl (by kernel_rfl) (by kernel_rfl) (by kernel_rfl) (fun _ _ _ h => h) (Or.inl ⟨by rfl, ?_⟩) hS ?_
      · intro w hS; go_simp
      refine wpAnyH_ready (rs := [4, 12]) (by kernel_rfl) (by simp) ?_
      refine AllReadyH.cons rfl (fun K hK => ?_) (AllReadyH.cons rfl (fun K hK => ?_) (AllReadyH.nil))
      · go_simp
        refine (HC1.out V0 k0).mono ?_
        rintro y V1 ⟨qa, qc, HO1, rfl, hb⟩
        have k1 := k0.trans hb
        clear hb
        go_simp
        refine hK.out _ _ (HSA.out _ k1) (fun hS => ?_)
        clear hK K
        refine wpAnyH_ready (rs := [6, 12]) (by kernel_rfl) (by simp) ?_
        refine AllReadyH.cons rfl (fun K hK => ?_) (AllReadyH.cons rfl (fun K hK => ?_) (AllReadyH.nil))
        · go_simp
          refine (HC2.out V1 _ HO1.out.tab).mono ?_
          rintro y V2 ⟨sa, sc, HS2, rfl, hb⟩
          have k2 := k1.trans hb
          clear hb
          go_simp
          refine hK.out _ _ (HSA.out _ k2) (fun hS => ?_)
          clear hK K
          refine wpAnyH_take (i := 7) (v := .tuple #[stV r2 (.slice sa r2.tab.length sc), .int .i64 an, .bool dn, .int .i64 0]) rfl (by kernel_rfl) (by kernel_rfl) (by kernel_rfl) (fun _ _ _ h => h) (Or.inl ⟨by rfl, ?_⟩) hS ?_
          · intro w hS; go_simp
          refine wpAnyH_take (i := 8) (v := stV r2 (.slice sa r2.tab.length sc)) rfl (by kernel_rfl) (by kernel_rfl) (by kernel_rfl) (fun _ _ _ h => h) (Or.inl ⟨by rfl, ?_⟩) hS ?_
          · intro w hS; go_simp
          refine wpAnyH_take (i := 9) (v := .int .i64 an) rfl (by kernel_rfl) (by kernel_rfl) (by kernel_rfl) (fun _ _ _ h => h) (Or.inl ⟨by rfl, ?_⟩) hS ?_
          · intro w hS; go_simp
          refine wpAnyH_take (i := 10) (v := .bool dn) rfl (by kernel_rfl) (by kernel_rfl) (by kernel_rfl) (fun _ _ _ h => h) (Or.inl ⟨by rfl, ?_⟩) hS ?_
          · intro w hS; go_simp
          refine wpAnyH_take (i := 11) (v := .int .i64 0) rfl (by kernel_rfl) (by kernel_rfl) (by kernel_rfl) (fun _ _ _ h => h) (Or.inl ⟨by rfl, ?_⟩) hS ?_
          · intro w hS; go_simp
          refine wpAnyH_ready (rs := [12]) (by kernel_rfl) (by simp) ?_
          refine AllReadyH.cons rfl (fun K hK => ?_) (AllReadyH.nil)
          go_simp
          have hb : Keeps V2 (V2.alloc (.cells #[.int .i64 0, .int .i64 0, .int .i64 0, .int .i64 0, .int .i64 0, .int .i64 0, .slice none 0 0] 25)) := (Keeps.refl _).alloc _
          have HQ3 : Hid (StBox V2.heap.size zeroSt (.slice none 0 0) (V2.alloc (.cells #[.int .i64 0, .int .i64 0, .int .i64 0, .int .i64 0, .int .i64 0, .int .i64 0, .slice none 0 0] 25))) := StBox.new V2 zeroSt (.slice none 0 0) 25
          generalize V2.alloc (.cells #[.int .i64 0, .int .i64 0, .int .i64 0, .int .i64 0, .int .i64 0, .int .i64 0, .slice none 0 0] 25) = V3 at *
          have k3 := k2.trans hb
          clear hb
          refine hK.out _ _ (HSA.out _ k3) (fun hS => ?_)
          clear hK K
          refine wpAnyH_ready (rs := [13]) (by kernel_rfl) (by simp) ?_
          refine AllReadyH.cons rfl (fun K hK => ?_) (AllReadyH.nil)
          have z0 := HQ3.out.c0
          have z1 := HQ3.out.c1
          have z2 := HQ3.out.c2
          have z3 := HQ3.out.c3
          have z4 := HQ3.out.c4
          have z5 := HQ3.out.c5
          have z6 := HQ3.out.c6
          have zf := HQ3.out.fz
          have zl := HQ3.out.lt
          go_simp
          have BT := But.puts (b := V2.heap.size) V3 r2 (.slice sa r2.tab.length sc)
          have KF := But.to k3 k2.size BT
          obtain ⟨WF, hWF⟩ : ∃ z, z = (((((((V3.setCell ⟨V2.heap.size, 0, none⟩ (.int .i64 r2.at_)).setCell ⟨V2.heap.size, 1, none⟩ (.int .i64 r2.clock)).setCell ⟨V2.heap.size, 2, none⟩ (.int .i64 r2.v0)).setCell ⟨V2.heap.size, 3, none⟩ (.int .i64 r2.v1)).setCell ⟨V2.heap.size, 4, none⟩ (.int .i64 r2.v2)).setCell ⟨V2.heap.size, 5, none⟩ (.int .i64 r2.v3)).setCell ⟨V2.heap.size, 6, none⟩ (.slice sa r2.tab.length sc)) := ⟨_, rfl⟩
          rw [← hWF] at BT KF ⊢
          clear hWF z0 z1 z2 z3 z4 z5 z6 zf zl
          refine hK.out _ _ (HSA.out _ KF) (fun hS => ?_)
          clear hK K
          refine wpAnyH_take (i := 14) (v := .int .i64 an) rfl (by kernel_rfl) (by kernel_rfl) (by kernel_rfl) (fun _ _ _ h => h) (Or.inl ⟨by rfl, ?_⟩) hS ?_
          · intro w hS; go_simp
          refine wpAnyH_take (i := 15) (v := .bool dn) rfl (by kernel_rfl) (by kernel_rfl) (by kernel_rfl) (fun _ _ _ h => h) (Or.inl ⟨by rfl, ?_⟩) hS ?_
          · intro w hS; go_simp
          refine wpAnyH_take (i := 16) (v := .int .i64 0) rfl (by kernel_rfl) (by kernel_rfl) (by kernel_rfl) (fun _ _ _ h => h) (Or.inl ⟨by rfl, ?_⟩) hS ?_
          · intro w hS; go_simp
          refine wpAnyH_done (by kernel_rfl) ?_ _
          go_wp2_with fail
          go_meet
          exact ⟨rfl, KF⟩
        · go_simp
          have hb : Keeps V1 (V1.alloc (.cells #[.int .i64 0, .int .i64 0, .int .i64 0, .int .i64 0, .int .i64 0, .int .i64 0, .slice none 0 0] 25)) := (Keeps.refl _).alloc _
          have HQ2 : Hid (StBox V1.heap.size zeroSt (.slice none 0 0) (V1.alloc (.cells #[.int .i64 0, .int .i64 0, .int .i64 0, .int .i64 0, .int .i64 0, .int .i64 0, .slice none 0 0] 25))) := StBox.new V1 zeroSt (.slice none 0 0) 25
          generalize V1.alloc (.cells #[.int .i64 0, .int .i64 0, .int .i64 0, .int .i64 0, .int .i64 0, .int .i64 0, .slice none 0 0] 25) = V2 at *
          have k2 := k1.trans hb
          have HO2 : Hid (OwnTab V0.heap.size V2 (.slice qa r.tab.length qc) r.tab) := HO1.out.keep hb
          clear hb
          refine hK.out _ _ (HSA.out _ k2) (fun hS => ?_)
          clear hK K
          refine wpAnyH_ready (rs := [6]) (by kernel_rfl) (by simp) ?_
          refine AllReadyH.cons rfl (fun K hK => ?_) (AllReadyH.nil)
          go_simp
          refine (HC2.out V2 _ HO2.out.tab).mono ?_
          rintro y V3 ⟨sa, sc, HS3, rfl, hb⟩
          have k3 := k2.trans hb
          have HQ3 : Hid (StBox V1.heap.size zeroSt (.slice none 0 0) V3) := HQ2.out.keep hb
          clear hb
          go_simp
          refine hK.out _ _ (HSA.out _ k3) (fun hS => ?_)
          clear hK K
          refine wpAnyH_take (i := 7) (v := .tuple #[stV r2 (.slice sa r2.tab.length sc), .int .i64 an, .bool dn, .int .i64 0]) rfl (by kernel_rfl) (by kernel_rfl) (by kernel_rfl) (fun _ _ _ h => h) (Or.inl ⟨by rfl, ?_⟩) hS ?_
          · intro w hS; go_simp
          refine wpAnyH_take (i := 8) (v := stV r2 (.slice sa r2.tab.length sc)) rfl (by kernel_rfl) (by kernel_rfl) (by kernel_rfl) (fun _ _ _ h => h) (Or.inl ⟨by rfl, ?_⟩) hS ?_
          · intro w hS; go_simp
          refine wpAnyH_take (i := 9) (v := .int .i64 an) rfl (by kernel_rfl) (by kernel_rfl) (by kernel_rfl) (fun _ _ _ h => h) (Or.inl ⟨by rfl, ?_⟩) hS ?_
          · intro w hS; go_simp
          refine wpAnyH_take (i := 10) (v := .bool dn) rfl (by kernel_rfl) (by kernel_rfl) (by kernel_rfl) (fun _ _ _ h => h) (Or.inl ⟨by rfl, ?_⟩) hS ?_
          · intro w hS; go_simp
          refine wpAnyH_take (i := 11) (v := .int .i64 0) rfl (by kernel_rfl) (by kernel_rfl) (by kernel_rfl) (fun _ _ _ h => h) (Or.inl ⟨by rfl, ?_⟩) hS ?_
          · intro w hS; go_simp
          refine wpAnyH_ready (rs := [13]) (by kernel_rfl) (by simp) ?_
          refine AllReadyH.cons rfl (fun K hK => ?_) (AllReadyH.nil)
          have z0 := HQ3.out.c0
          have z1 := HQ3.out.c1
          have z2 := HQ3.out.c2
          have z3 := HQ3.out.c3
          have z4 := HQ3.out.c4
          have z5 := HQ3.out.c5
          have z6 := HQ3.out.c6
          have zf := HQ3.out.fz
          have zl := HQ3.out.lt
          go_simp
          have BT := But.puts (b := V1.heap.size) V3 r2 (.slice sa r2.tab.length sc)
          have KF := But.to k3 k1.size BT
          obtain ⟨WF, hWF⟩ : ∃ z, z = (((((((V3.setCell ⟨V1.heap.size, 0, none⟩ (.int .i64 r2.at_)).setCell ⟨V1.heap.size, 1, none⟩ (.int .i64 r2.clock)).setCell ⟨V1.heap.size, 2, none⟩ (.int .i64 r2.v0)).setCell ⟨V1.heap.size, 3, none⟩ (.int .i64 r2.v1)).setCell ⟨V1.heap.size, 4, none⟩ (.int .i64 r2.v2)).setCell ⟨V1.heap.size, 5, none⟩ (.int .i64 r2.v3)).setCell ⟨V1.heap.size, 6, none⟩ (.slice sa r2.tab.length sc)) := ⟨_, rfl⟩
          rw [← hWF] at BT KF ⊢
          clear hWF z0 z1 z2 z3 z4 z5 z6 zf zl
          refine hK.out _ _ (HSA.out _ KF) (fun hS => ?_)
          clear hK K
          refine wpAnyH_take (i := 14) (v := .int .i64 an) rfl (by kernel_rfl) (by kernel_rfl) (by kernel_rfl) (fun _ _ _ h => h) (Or.inl ⟨by rfl, ?_⟩) hS ?_
          · intro w hS; go_simp
          refine wpAnyH_take (i := 15) (v := .bool dn) rfl (by kernel_rfl) (by kernel_rfl) (by kernel_rfl) (fun _ _ _ h => h) (Or.inl ⟨by rfl, ?_⟩) hS ?_
          · intro w hS; go_simp
          refine wpAnyH_take (i := 16) (v := .int .i64 0) rfl (by kernel_rfl) (by kernel_rfl) (by kernel_rfl) (fun _ _ _ h => h) (Or.inl ⟨by rfl, ?_⟩) hS ?_
          · intro w hS; go_simp
          refine wpAnyH_done (by kernel_rfl) ?_ _
          go_wp2_with fail
          go_meet
          exact ⟨rfl, KF⟩
      · go_simp
        have hb : Keeps V0 (V0.alloc (.cells #[.int .i64 0, .int .i64 0, .int .i64 0, .int .i64 0, .int .i64 0, .int .i64 0, .slice none 0 0] 25)) := (Keeps.refl _).alloc _
        have HQ1 : Hid (StBox V0.heap.size zeroSt (.slice none 0 0) (V0.alloc (.cells #[.int .i64 0, .int .i64 0, .int .i64 0, .int .i64 0, .int .i64 0, .int .i64 0, .slice none 0 0] 25))) := StBox.new V0 zeroSt (.slice none 0 0) 25
        generalize V0.alloc (.cells #[.int .i64 0, .int .i64 0, .int .i64 0, .int .i64 0, .int .i64 0, .int .i64 0, .slice none 0 0] 25) = V1 at *
        have k1 := k0.trans hb
        clear hb
        refine hK.out _ _ (HSA.out _ k1) (fun hS => ?_)
        clear hK K
        refine wpAnyH_ready (rs := [4]) (by kernel_rfl) (by simp) ?_
        refine AllReadyH.cons rfl (fun K hK => ?_) (AllReadyH.nil)
        go_simp
        refine (HC1.out V1 k1).mono ?_
        rintro y V2 ⟨qa, qc, HO2, rfl, hb⟩
        have k2 := k1.trans hb
        have HQ2 : Hid (StBox V0.heap.size zeroSt (.slice none 0 0) V2) := HQ1.out.keep hb
        clear hb
        go_simp
        refine hK.out _ _ (HSA.out _ k2) (fun hS => ?_)
        clear hK K
        refine wpAnyH_ready (rs := [6]) (by kernel_rfl) (by simp) ?_
        refine AllReadyH.cons rfl (fun K hK => ?_) (AllReadyH.nil)
        go_simp
        refine (HC2.out V2 _ HO2.out.tab).mono ?_
        rintro y V3 ⟨sa, sc, HS3, rfl, hb⟩
        have k3 := k2.trans hb
        have HQ3 : Hid (StBox V0.heap.size zeroSt (.slice none 0 0) V3) := HQ2.out.keep hb
        clear hb
        go_simp
        refine hK.out _ _ (HSA.out _ k3) (fun hS => ?_)
        clear hK K
        refine wpAnyH_take (i := 7) (v := .tuple #[stV r2 (.slice sa r2.tab.length sc), .int .i64 an, .bool dn, .int .i64 0]) rfl (by kernel_rfl) (by kernel_rfl) (by kernel_rfl) (fun _ _ _ h => h) (Or.inl ⟨by rfl, ?_⟩) hS ?_
        · intro w hS; go_simp
        refine wpAnyH_take (i := 8) (v := stV r2 (.slice sa r2.tab.length sc)) rfl (by kernel_rfl) (by kernel_rfl) (by kernel_rfl) (fun _ _ _ h => h) (Or.inl ⟨by rfl, ?_⟩) hS ?_
        · intro w hS; go_simp
        refine wpAnyH_take (i := 9) (v := .int .i64 an) rfl (by kernel_rfl) (by kernel_rfl) (by kernel_rfl) (fun _ _ _ h => h) (Or.inl ⟨by rfl, ?_⟩) hS ?_
        · intro w hS; go_simp
        refine wpAnyH_take (i := 10) (v := .bool dn) rfl (by kernel_rfl) (by kernel_rfl) (by kernel_rfl) (fun _ _ _ h => h) (Or.inl ⟨by rfl, ?_⟩) hS ?_
        · intro w hS; go_simp
        refine wpAnyH_take (i := 11) (v := .int .i64 0) rfl (by kernel_rfl) (by kernel_rfl) (by kernel_rfl) (fun _ _ _ h => h) (Or.inl ⟨by rfl, ?_⟩) hS ?_
        · intro w hS; go_simp
        refine wpAnyH_ready (rs := [13]) (by kernel_rfl) (by simp) ?_
        refine AllReadyH.cons rfl (fun K hK => ?_) (AllReadyH.nil)
        have z0 := HQ3.out.c0
        have z1 := HQ3.out.c1
        have z2 := HQ3.out.c2
        have z3 := HQ3.out.c3
        have z4 := HQ3.out.c4
        have z5 := HQ3.out.c5
        have z6 := HQ3.out.c6
        have zf := HQ3.out.fz
        have zl := HQ3.out.lt
        go_simp
        have BT := But.puts (b := V0.heap.size) V3 r2 (.slice sa r2.tab.length sc)
        have KF := But.to k3 k0.size BT
        obtain ⟨WF, hWF⟩ : ∃ z, z = (((((((V3.setCell ⟨V0.heap.size, 0, none⟩ (.int .i64 r2.at_)).setCell ⟨V0.heap.size, 1, none⟩ (.int .i64 r2.clock)).setCell ⟨V0.heap.size, 2, none⟩ (.int .i64 r2.v0)).setCell ⟨V0.heap.size, 3, none⟩ (.int .i64 r2.v1)).setCell ⟨V0.heap.size, 4, none⟩ (.int .i64 r2.v2)).setCell ⟨V0.heap.size, 5, none⟩ (.int .i64 r2.v3)).setCell ⟨V0.heap.size, 6, none⟩ (.slice sa r2.tab.length sc)) := ⟨_, rfl⟩
        rw [← hWF] at BT KF ⊢
        clear hWF z0 z1 z2 z3 z4 z5 z6 zf zl
        refine hK.out _ _ (HSA.out _ KF) (fun hS => ?_)
        clear hK K
        refine wpAnyH_take (i := 14) (v := .int .i64 an) rfl (by kernel_rfl) (by kernel_rfl) (by kernel_rfl) (fun _ _ _ h => h) (Or.inl ⟨by rfl, ?_⟩) hS ?_
        · intro w hS; go_simp
        refine wpAnyH_take (i := 15) (v := .bool dn) rfl (by kernel_rfl) (by kernel_rfl) (by kernel_rfl) (fun _ _ _ h => h) (Or.inl ⟨by rfl, ?_⟩) hS ?_
        · intro w hS; go_simp
        refine wpAnyH_take (i := 16) (v := .int .i64 0) rfl (by kernel_rfl) (by kernel_rfl) (by kernel_rfl) (fun _ _ _ h => h) (Or.inl ⟨by rfl, ?_⟩) hS ?_
        · intro w hS; go_simp
        refine wpAnyH_done (by kernel_rfl) ?_ _
        go_wp2_with fail
        go_meet
        exact ⟨rfl, KF⟩
    case rest =>
      obtain ⟨rfl, hkc⟩ := hcut
      have HKc : Hid (Keeps w1 wc) := hkc
      have hB := HB1.out.keep hkc
      have b0 := hB.c0
      have b1 := hB.c1
      have b2 := hB.c2
      have b3 := hB.c3
      have b4 := hB.c4
      have b5 := hB.c5
      have b6 := hB.c6
      have b7 := hB.c7
      have bl := hB.lt
      clear hB hkc HSA HC1 HC2
      go_wp2_with fail
      refine (twin_log l _ ta tc wc (HT.out.keep (HK1.out.trans HKc.out)) (HL.out.keep (HK1.out.trans HKc.out)) HBS.out (by omega)).mono ?_
      rintro y w2 ⟨qa, qc, ea, ec, hO, hE, hec, rfl, hb⟩
      have HO2 : Hid (OwnTab wc.heap.size w2 (.slice qa l.base.tab.length qc) l.base.tab) := hO
      have HE2 : Hid (w2.ownsRow wc.heap.size 32 9 (.slice ea l.tail.length ec) l.tail.length (entCells l.tail)) := hE
      have HK2 : Hid (Keeps wc w2) := hb
      have hzc := HKc.out.size
      have hz5 := HZ5.out
      have hz2 := hb.size
      clear hO hE hb b0 b1 b2 b3 b4 b5 b6 b7 bl
      have hE1 := HE1.out.keep (HKc.out.trans HK2.out)
      have e0 := hE1.c0
      have e1 := hE1.c1
      have e2 := hE1.c2
      have e3 := hE1.c3
      have e4 := hE1.c4
      have e5 := hE1.c5
      have e6 := hE1.c6
      have e7 := hE1.c7
      have e8 := hE1.c8
      have el := hE1.lt
      clear hE1
      have k23 : Keeps w2 (w2.alloc (.cells #[.int .i64 l.base.at_, .int .i64 l.base.clock, .int .i64 l.base.v0, .int .i64 l.base.v1, .int .i64 l.base.v2, .int .i64 l.base.v3, .slice qa l.base.tab.length qc, .slice ea l.tail.length ec] 28)) := (Keeps.refl _).alloc _
      have HB3 : Hid (LgBox w2.heap.size l (.slice qa l.base.tab.length qc) (.slice ea l.tail.length ec) (w2.alloc (.cells #[.int .i64 l.base.at_, .int .i64 l.base.clock, .int .i64 l.base.v0, .int .i64 l.base.v1, .int .i64 l.base.v2, .int .i64 l.base.v3, .slice qa l.base.tab.length qc, .slice ea l.tail.length ec] 28))) := LgBox.new w2 l _ _ rfl rfl 28
      have k34 : Keeps (w2.alloc (.cells #[.int .i64 l.base.at_, .int .i64 l.base.clock, .int .i64 l.base.v0, .int .i64 l.base.v1, .int .i64 l.base.v2, .int .i64 l.base.v3, .slice qa l.base.tab.length qc, .slice ea l.tail.length ec] 28)) ((w2.alloc (.cells #[.int .i64 l.base.at_, .int .i64 l.base.clock, .int .i64 l.base.v0, .int .i64 l.base.v1, .int .i64 l.base.v2, .int .i64 l.base.v3, .slice qa l.base.tab.length qc, .slice ea l.tail.length ec] 28)).alloc (.cells (entCells [e]).toArray 32)) := (Keeps.refl _).alloc _
      obtain ⟨v', w4, hr, ho, hg⟩ := run_append_read ((w2.alloc (.cells #[.int .i64 l.base.at_, .int .i64 l.base.clock, .int .i64 l.base.v0, .int .i64 l.base.v1, .int .i64 l.base.v2, .int .i64 l.base.v3, .slice qa l.base.tab.length qc, .slice ea l.tail.length ec] 28)).alloc (.cells (entCells [e]).toArray 32)) wc.heap.size 26 26 32 9 72 _ infoEnt Try.underlying26 rfl (by decide) (.slice ea l.tail.length ec) l.tail.length (entCells l.tail) (owns_keep HE2.out (k23.trans k34)) _ 1 (entCells [e]) (EntsAt.new _ [e] (by simp) 1) (entCells_one _) (by unfold maxLen; omega) (by omega) (by simp; omega)
      have SP : Spares (fun g => ∀ h, (Value.slice ea l.tail.length ec).ownBlock = some h → g ≠ h) (w2.alloc (.cells #[.int .i64 l.base.at_, .int .i64 l.base.clock, .int .i64 l.base.v0, .int .i64 l.base.v1, .int .i64 l.base.v2, .int .i64 l.base.v3, .slice qa l.base.tab.length qc, .slice ea l.tail.length ec] 28)) w4 := (Spares.of k34).trans (Spares.grown hg (fun b e h => h b e rfl))
      have hown : ∀ h, (Value.slice ea l.tail.length ec).ownBlock = some h → wc.heap.size ≤ h ∧ h < w2.heap.size := fun h hh => HE2.out.lt h hh
      have hapt := (show Hid _ from owns_tab_apart HO2.out HE2.out (by decide) (by decide))
      have hLB : w4.heap[w2.heap.size]? = some (.cells #[.int .i64 l.base.at_, .int .i64 l.base.clock, .int .i64 l.base.v0, .int .i64 l.base.v1, .int .i64 l.base.v2, .int .i64 l.base.v3, .slice qa l.base.tab.length qc, .slice ea l.tail.length ec] 28) := (SP.block _ (by simp) (fun h hh => by have := hown h hh; omega)).trans (World.alloc_heap_new _ _)
      have HGN := (show Hid _ from owns_not ho hLB (by decide))
      have HSP := (show Hid _ from (Spares.of k23).trans SP)
      have HB4 : Hid (LgBox w2.heap.size l (.slice qa l.base.tab.length qc) (.slice ea l.tail.length ec) w4) := HB3.out.same (SP.block _ (by simp) (fun h hh => by have := hown h hh; omega))
      have HK4 : Hid (Keeps wc w4) := SP.keeps (HK2.out.trans k23) (fun g hg h hh => by have := hown h hh; omega)
      obtain ⟨ga, gc, rfl, _⟩ := (RowAt.of_owns ho).len
      have hgc : l.tail.length + 1 ≤ gc := by
        rcases ho.2 with ⟨h1, h2⟩ | ⟨g, cap, cur, h1, _, _, h2, _⟩
        · omega
        · injection h1 with a1 a2 a3
          omega
      have HG4 : Hid (w4.ownsRow wc.heap.size 32 9 (.slice ga (l.tail.length + 1) gc) (l.tail.length + 1) (entCells l.tail ++ entCells [e])) := ho
      rw [World.size_alloc] at hr
      have Hr := (show Hid (_ = _) from hr)
      have hb4 := HB4.out
      have b0 := hb4.c0
      have b1 := hb4.c1
      have b2 := hb4.c2
      have b3 := hb4.c3
      have b4 := hb4.c4
      have b5 := hb4.c5
      have b6 := hb4.c6
      have b7 := hb4.c7
      have bf := hb4.fz
      have bl := hb4.lt
      have HZ4 : Hid (LgBox (w.heap.size + 2) zeroLg (.slice none 0 0) (.slice none 0 0) w4) := HZ1.out.keep (HKc.out.trans HK4.out)
      have hz4 := HZ4.out
      have z0 := hz4.c0
      have z1 := hz4.c1
      have z2 := hz4.c2
      have z3 := hz4.c3
      have z4 := hz4.c4
      have z5 := hz4.c5
      have z6 := hz4.c6
      have z7 := hz4.c7
      have zf := hz4.fz
      have zl := hz4.lt
      have hne1 : (w2.heap.size = w.heap.size + 2) = False := eq_false (by omega)
      have hne2 : (w.heap.size + 2 = w2.heap.size) = False := eq_false (by omega)
      clear hr ho hg SP hb4 hz4 k23 k34 hLB
      go_wp2_with (at_builtin; refine wpList_append_run rfl _ _ _ rfl rfl rfl Hr.out ?_)
      have bS : But w2.heap.size w4 (w4.setCell ⟨w2.heap.size, 7, none⟩ (.slice ga (l.tail.length + 1) gc)) := (But.refl _ _).set 7 _
      have hz5Z : LgBox (w.heap.size + 2) zeroLg (.slice none 0 0) (.slice none 0 0) (w4.setCell ⟨w2.heap.size, 7, none⟩ (.slice ga (l.tail.length + 1) gc)) := HZ4.out.other bS (by omega)
      have BP := hz5Z.put ⟨l.base, l.tail ++ [e]⟩ (.slice qa l.base.tab.length qc) (.slice ga (l.tail.length + 1) gc)
      have BT := But.lgputs (w.heap.size + 2) (w4.setCell ⟨w2.heap.size, 7, none⟩ (.slice ga (l.tail.length + 1) gc)) ⟨l.base, l.tail ++ [e]⟩ (.slice qa l.base.tab.length qc) (.slice ga (l.tail.length + 1) gc)
      have SX : Spares (fun g => g ≠ w2.heap.size ∧ g ≠ w.heap.size + 2) w4 _ := (Spares.but bS (fun h => h.1 rfl)).trans (Spares.but BT (fun h => h.2 rfl))
      have c0 := BP.c0
      have c1 := BP.c1
      have c2 := BP.c2
      have c3 := BP.c3
      have c4 := BP.c4
      have c5 := BP.c5
      have c6 := BP.c6
      have c7 := BP.c7
      refine bodyPost_ret (v := .tuple #[lgV ⟨l.base, l.tail ++ [e]⟩ (.slice qa l.base.tab.length qc) (.slice ga (l.tail.length + 1) gc), .int .i64 an, .int .i64 0]) ?_ rfl ?_
      · simp only [results, Try.results6, go_sem, c0, c1, c2, c3, c4, c5, c6, c7]
        simp [go_sem, c0, c1, c2, c3, c4, c5, c6, c7]
      · rw [H1.out.1, H1.out.2, HP0.out]
        refine ⟨qa, qc, ga, gc, ?_, ?_, ?_, ?_, ?_⟩
        · refine (hapt.out _ ((HSP.out.mono (fun g _ h => h.2.2)).trans (SX.mono (fun g _ h => ⟨by omega, by omega⟩)))).base (by omega)
        · have := owns_base (owns_spared_at HG4.out SX (fun g hg => ⟨fun e => HGN.out (e ▸ hg), by have := (HG4.out.lt g hg).1; omega⟩)) (show w.heap.size ≤ wc.heap.size by omega)
          simpa [entCells_append] using this
        · simpa using hgc
        · simp
        · exact SX.keeps ((HK1.out.trans HKc.out).trans HK4.out) (fun g hg => ⟨by omega, by omega⟩)
end Go.Proofs.Yteabfjpajgakiae

/- Some entries of a log: how much room is behind them. -/
set_option linter.unusedSimpArgs false
set_option linter.unusedVariables false
set_option maxRecDepth 10000
namespace Go.Proofs.Yteabfjpajgakiae
open Go.RowKit

set_option maxHeartbeats 4000000 in
theorem some_cap (w : World) : Calls Try.prog 25 #[] w fun y w' => ∃ a, EntsAt w' (.slice (some a) 10 10) someL ∧ y = .returned (.slice (some a) 10 10) ∧ Keeps w w' := by
  go_enter Try.func25, Try.ntmps25
  go_wp2_with fail
  refine (mk_open 1 1 _).mono ?_
  rintro y w1 ⟨rfl, hb⟩
  have k1 : Keeps w w1 := hb
  clear hb
  go_wp2_with fail
  refine (mk_add 5 _).mono ?_
  rintro y w2 ⟨rfl, hb⟩
  have k2 : Keeps w w2 := k1.trans hb
  clear hb k1
  go_wp2_with fail
  refine (mk_call 2 1 1 0 2 0 0 5 _).mono ?_
  rintro y w3 ⟨rfl, hb⟩
  have k3 : Keeps w w3 := k2.trans hb
  clear hb k2
  go_wp2_with fail
  refine (mk_add 5 _).mono ?_
  rintro y w4 ⟨rfl, hb⟩
  have k4 : Keeps w w4 := k3.trans hb
  clear hb k3
  go_wp2_with fail
  refine (mk_call 3 1 1 0 2 0 0 5 _).mono ?_
  rintro y w5 ⟨rfl, hb⟩
  have k5 : Keeps w w5 := k4.trans hb
  clear hb k4
  go_wp2_with fail
  refine (mk_add 7 _).mono ?_
  rintro y w6 ⟨rfl, hb⟩
  have k6 : Keeps w w6 := k5.trans hb
  clear hb k5
  go_wp2_with fail
  refine (mk_call 4 2 1 0 2 0 0 7 _).mono ?_
  rintro y w7 ⟨rfl, hb⟩
  have k7 : Keeps w w7 := k6.trans hb
  clear hb k6
  go_wp2_with fail
  refine (mk_open 4 2 _).mono ?_
  rintro y w8 ⟨rfl, hb⟩
  have k8 : Keeps w w8 := k7.trans hb
  clear hb k7
  go_wp2_with fail
  refine (mk_call 5 1 2 1 3 0 1 2 _).mono ?_
  rintro y w9 ⟨rfl, hb⟩
  have k9 : Keeps w w9 := k8.trans hb
  clear hb k8
  go_wp2_with fail
  refine (mk_add 5 _).mono ?_
  rintro y w10 ⟨rfl, hb⟩
  have k10 : Keeps w w10 := k9.trans hb
  clear hb k9
  go_wp2_with fail
  refine (mk_call 6 1 1 0 2 0 0 5 _).mono ?_
  rintro y w11 ⟨rfl, hb⟩
  have k11 : Keeps w w11 := k10.trans hb
  clear hb k10
  go_wp2_with fail
  refine (mk_add 1 _).mono ?_
  rintro y w12 ⟨rfl, hb⟩
  have k12 : Keeps w w12 := k11.trans hb
  clear hb k11
  go_wp2_with fail
  refine (mk_call 40 1 2 1 2 0 0 1 _).mono ?_
  rintro y w13 ⟨rfl, hb⟩
  have k13 : Keeps w w13 := k12.trans hb
  clear hb k12
  go_wp2_with fail
  refine (mk_open 41 1 _).mono ?_
  rintro y w14 ⟨rfl, hb⟩
  have k14 : Keeps w w14 := k13.trans hb
  clear hb k13
  go_wp2_with fail
  refine (mk_add 9 _).mono ?_
  rintro y w15 ⟨rfl, hb⟩
  have k15 : Keeps w w15 := k14.trans hb
  clear hb k14
  go_wp2_with fail
  refine (mk_call 42 1 1 0 2 0 0 9 _).mono ?_
  rintro y w16 ⟨rfl, hb⟩
  have k16 : Keeps w w16 := k15.trans hb
  clear hb k15
  go_wp2_with fail
  go_ret
  refine ⟨_, ?_, rfl, k16.alloc _⟩
  exact EntsAt.new w16 someL (by decide) 10
end Go.Proofs.Yteabfjpajgakiae

/- packBegun. -/
set_option linter.unusedSimpArgs false
set_option linter.unusedVariables false
set_option maxRecDepth 10000
namespace Go.Proofs.Yteabfjpajgakiae
open Go.RowKit

def log0 : Lg := ⟨zeroSt, someL⟩
def logC : Lg := cutLg log0 6
def e43 : Ent := ⟨2, 43, 1, 2, 1, 2, 0, 0, 1⟩
def logP : Lg := putLg logC e43
def log45 : Lg := ⟨⟨45, 0, 0, 0, 0, 0, []⟩, someL⟩
theorem pack_runs : lgErr log0 = 0 ∧ (allSt log0.base log0.tail).at_ = 10 ∧ cutErr log0 6 = 0 ∧ logC.base.at_ = 6 ∧ logC.tail.length = 4 ∧ putLgErr logC e43 = 0 ∧ putAns logC e43 = 13 ∧ logP.tail.length = 5 ∧ cutErr log0 11 = 3 ∧ lgErr log45 = 2 := by decide +kernel

set_option maxHeartbeats 8000000 in
theorem pack_begun (w : World) : Calls Try.prog 8 #[] w fun y w' => y = .returned (.bool true) ∧ Keeps w w' := by
  have HR := (show Hid _ from pack_runs)
  go_enter Try.func8, Try.ntmps8
  go_wp2_with fail
  refine (some_cap _).mono ?_
  rintro y w1 ⟨a1, h1, rfl, hb⟩
  have HK1 : Hid (Keeps w w1) := hb
  have HL1 : Hid (EntsAt w1 (.slice (some a1) 10 10) someL) := h1
  clear hb h1
  go_wp2_with fail
  obtain ⟨w2, hw2⟩ : ∃ z, z = w1.alloc (.cells #[.int .i64 0, .int .i64 0, .int .i64 0, .int .i64 0, .int .i64 0, .int .i64 0, .slice none 0 0, .slice (some a1) 10 10] 28) := ⟨_, rfl⟩
  have k12 : Keeps w1 w2 := by rw [hw2]; exact (Keeps.refl _).alloc _
  have B2 : LgBox w1.heap.size log0 (.slice none 0 0) (.slice (some a1) 10 10) w2 := by rw [hw2]; exact LgBox.new w1 log0 _ _ rfl rfl 28
  rw [← hw2]
  clear hw2
  have HB2 : Hid (LgBox w1.heap.size log0 (.slice none 0 0) (.slice (some a1) 10 10) w2) := B2
  generalize w1.heap.size = lb at *
  have HL2 : Hid (EntsAt w2 (.slice (some a1) 10 10) someL) := HL1.out.keep k12
  have HK2 : Hid (Keeps w w2) := HK1.out.trans k12
  clear B2 k12 HL1 HK1
  clear w1
  have HCB : Hid (∀ W, Keeps w2 W → W.cell? ⟨lb, 0, none⟩ = some (.int .i64 0) ∧ W.cell? ⟨lb, 1, none⟩ = some (.int .i64 0) ∧ W.cell? ⟨lb, 2, none⟩ = some (.int .i64 0) ∧ W.cell? ⟨lb, 3, none⟩ = some (.int .i64 0) ∧ W.cell? ⟨lb, 4, none⟩ = some (.int .i64 0) ∧ W.cell? ⟨lb, 5, none⟩ = some (.int .i64 0) ∧ W.cell? ⟨lb, 6, none⟩ = some (.slice none 0 0) ∧ W.cell? ⟨lb, 7, none⟩ = some (.slice (some a1) 10 10)) := fun W hk => have B := HB2.out.keep hk; ⟨B.c0, B.c1, B.c2, B.c3, B.c4, B.c5, B.c6, B.c7⟩
  refine (pack_end log0 (.slice none 0 0) (some a1) 10 w2 (OwnTab.nil 0 _).tab HL2.out (by decide)).mono ?_
  rintro y w3 ⟨ea, ec, hO, rfl, hb⟩
  rw [HR.out.1]
  obtain ⟨s1, hs1⟩ : ∃ s, s = allSt log0.base log0.tail := ⟨_, rfl⟩
  rw [← hs1] at hO ⊢
  have HS1 : Hid (s1.at_ = 10) := by show _ = _; rw [hs1]; exact HR.out.2.1
  have HK3 : Hid (Keeps w2 w3) := hb
  clear hs1 hO hb
  obtain ⟨b0, b1, b2, b3, b4, b5, b6, b7⟩ := HCB.out w3 HK3.out
  have bl := World.block_lt_of_cell? _ _ b0
  simp only [] at bl
  go_wp2_with fail
  obtain ⟨w4, hw4⟩ : ∃ z, z = w3.alloc (.cells #[.int .i64 s1.at_, .int .i64 s1.clock, .int .i64 s1.v0, .int .i64 s1.v1, .int .i64 s1.v2, .int .i64 s1.v3, .slice ea s1.tab.length ec] 25) := ⟨_, rfl⟩
  have k34 : Keeps w3 w4 := by rw [hw4]; exact (Keeps.refl _).alloc _
  have B4 : StBox w3.heap.size s1 (.slice ea s1.tab.length ec) w4 := by rw [hw4]; exact StBox.new w3 s1 _ 25
  rw [← hw4]
  clear hw4
  have HSB : Hid (StBox w3.heap.size s1 (.slice ea s1.tab.length ec) w4) := B4
  generalize w3.heap.size = sb at *
  have HK4 : Hid (Keeps w2 w4) := HK3.out.trans k34
  clear B4 k34 HK3 b0 b1 b2 b3 b4 b5 b6 b7 bl
  clear w3
  refine (pack_cut log0 6 (.slice none 0 0) (some a1) 10 w4 (OwnTab.nil 0 _).tab (HL2.out.keep HK4.out) (by decide)).mono ?_
  rintro y w5 ⟨ma, mc, na, nc, hO, hE, hnc, rfl, hb⟩
  rw [HR.out.2.2.1]
  obtain ⟨M, hM⟩ : ∃ s, s = logC := ⟨_, rfl⟩
  have hM' : cutLg log0 6 = M := hM.symm
  rw [hM'] at hO hE hnc ⊢
  have HM : Hid (M = logC) := hM
  have HO5 : Hid (TabAt w5 (.slice ma M.base.tab.length mc) M.base.tab) := hO.tab
  have HE5 : Hid (EntsAt w5 (.slice na M.tail.length nc) M.tail) := RowAt.of_owns hE
  have HK45 : Hid (Keeps w4 w5) := hb
  have hM4 : M.tail.length = 4 := by rw [hM]; exact HR.out.2.2.2.2.1
  have HM6 : Hid (M.base.at_ = 6) := by show _ = _; rw [hM]; exact HR.out.2.2.2.1
  have HM4 : Hid (M.tail.length = 4) := hM4
  clear hM hM' hO hE hb
  obtain ⟨b0, b1, b2, b3, b4, b5, b6, b7⟩ := HCB.out w5 (HK4.out.trans HK45.out)
  have bl := World.block_lt_of_cell? _ _ b0
  simp only [] at bl
  clear hM4
  go_wp2_with fail
  obtain ⟨w6, hw6⟩ : ∃ z, z = w5.alloc (.cells #[.int .i64 M.base.at_, .int .i64 M.base.clock, .int .i64 M.base.v0, .int .i64 M.base.v1, .int .i64 M.base.v2, .int .i64 M.base.v3, .slice ma M.base.tab.length mc, .slice na M.tail.length nc] 28) := ⟨_, rfl⟩
  have k56 : Keeps w5 w6 := by rw [hw6]; exact (Keeps.refl _).alloc _
  have B6 : LgBox w5.heap.size M (.slice ma M.base.tab.length mc) (.slice na M.tail.length nc) w6 := by rw [hw6]; exact LgBox.new w5 M _ _ rfl rfl 28
  rw [← hw6]
  clear hw6
  have HB6 : Hid (LgBox w5.heap.size M (.slice ma M.base.tab.length mc) (.slice na M.tail.length nc) w6) := B6
  generalize w5.heap.size = mb at *
  have HK46 : Hid (Keeps w4 w6) := HK45.out.trans k56
  have HO6 : Hid (TabAt w6 (.slice ma M.base.tab.length mc) M.base.tab) := HO5.out.keep k56
  have HE6 : Hid (EntsAt w6 (.slice na M.tail.length nc) M.tail) := HE5.out.keep k56
  clear B6 k56 HK45 HO5 HE5 b0 b1 b2 b3 b4 b5 b6 b7 bl
  clear w5
  obtain ⟨P, hP⟩ : ∃ s, s = logP := ⟨_, rfl⟩
  have HP5 : Hid (P.tail.length = 5) := by show _ = _; rw [hP]; exact HR.out.2.2.2.2.2.2.2.1
  have HCP : Hid (∀ W, Keeps w6 W → Calls Try.prog 6 #[lgV M (.slice ma M.base.tab.length mc) (.slice na M.tail.length nc), entV e43] W fun y w' => ∃ pa pc oa oc, Hid (OwnTab W.heap.size w' (.slice pa P.base.tab.length pc) P.base.tab) ∧ Hid (w'.ownsRow W.heap.size 32 9 (.slice oa P.tail.length oc) P.tail.length (entCells P.tail)) ∧ y = .returned (.tuple #[lgV P (.slice pa P.base.tab.length pc) (.slice oa P.tail.length oc), .int .i64 13, .int .i64 0]) ∧ Keeps W w') := by
    intro W hk
    refine (pack_put M e43 _ na nc W (HO6.out.keep hk) (HE6.out.keep hk) hnc).mono ?_
    have e1 : putLg M e43 = P := by rw [HM.out]; exact hP.symm
    have e2 : putAns M e43 = 13 := by rw [HM.out]; exact HR.out.2.2.2.2.2.2.1
    have e3 : putLgErr M e43 = 0 := by rw [HM.out]; exact HR.out.2.2.2.2.2.1
    rw [e1, e2, e3]
    rintro y w' ⟨pa, pc, oa, oc, h1, h2, _, rfl, hb⟩
    exact ⟨pa, pc, oa, oc, h1, h2, rfl, hb⟩
  have HSA : Hid (∀ W, Keeps w6 W → W.cell? ⟨mb, 0, none⟩ = some (.int .i64 M.base.at_) ∧ W.cell? ⟨mb, 1, none⟩ = some (.int .i64 M.base.clock) ∧ W.cell? ⟨mb, 2, none⟩ = some (.int .i64 M.base.v0) ∧ W.cell? ⟨mb, 3, none⟩ = some (.int .i64 M.base.v1) ∧ W.cell? ⟨mb, 4, none⟩ = some (.int .i64 M.base.v2) ∧ W.cell? ⟨mb, 5, none⟩ = some (.int .i64 M.base.v3) ∧ W.cell? ⟨mb, 6, none⟩ = some (.slice ma M.base.tab.length mc) ∧ W.cell? ⟨mb, 7, none⟩ = some (.slice na M.tail.length nc)) := fun W hk => have B := HB6.out.keep hk; ⟨B.c0, B.c1, B.c2, B.c3, B.c4, B.c5, B.c6, B.c7⟩
  clear hP hnc
  go_wp2_with fail
  go_cut [6, 7, 8] (fun p a f wc => a = .int .i64 13 ∧ f = .int .i64 0 ∧ ∃ pb pa pc oa oc, p = .pointer (some ⟨pb, 0, none⟩) ∧ LgBox pb P (.slice pa P.base.tab.length pc) (.slice oa P.tail.length oc) wc ∧ Keeps w6 wc)
  case first =>
    obtain ⟨V0, hV0⟩ : ∃ z, z = w6.drew := ⟨_, rfl⟩
    have k0 : Keeps w6 V0 := by rw [hV0]; exact (Keeps.refl _).drew
    refine wp_region_held_drew (S := fun W => W.cell? ⟨mb, 0, none⟩ = some (.int .i64 M.base.at_) ∧ W.cell? ⟨mb, 1, none⟩ = some (.int .i64 M.base.clock) ∧ W.cell? ⟨mb, 2, none⟩ = some (.int .i64 M.base.v0) ∧ W.cell? ⟨mb, 3, none⟩ = some (.int .i64 M.base.v1) ∧ W.cell? ⟨mb, 4, none⟩ = some (.int .i64 M.base.v2) ∧ W.cell? ⟨mb, 5, none⟩ = some (.int .i64 M.base.v3) ∧ W.cell? ⟨mb, 6, none⟩ = some (.slice ma M.base.tab.length mc) ∧ W.cell? ⟨mb, 7, none⟩ = some (.slice na M.tail.length nc)) (by kernel_rfl) (HSA.out _ (Keeps.refl _).drew) (fun hS => ?_)
    rw [← hV0] at hS ⊢
    clear hV0
    refine wpAnyH_take (i := 0) (v := lgV M (.slice ma M.base.tab.length mc) (.slice na M.tail.length nc)) rfl (by kernel_rfl) (by kernel_rfl) (by kernel_rfl) (fun _ _ _ h => h) (Or.inl ⟨by rfl, ?_⟩) hS ?_
    · intro w hS; go_simp
    refine wpAnyH_ready (rs := [1, 8]) (by kernel_rfl) (by simp) ?_
    refine AllReadyH.cons rfl (fun K hK => ?_) (AllReadyH.cons rfl (fun K hK => ?_) (AllReadyH.nil))
    · go_simp
      refine (mk_add 1 V0).mono ?_
      rintro y V1 ⟨rfl, hb⟩
      have k1 := k0.trans hb
      clear hb
      go_simp
      refine hK.out _ _ (HSA.out _ k1) (fun hS => ?_)
      clear hK K
      refine wpAnyH_ready (rs := [2, 8]) (by kernel_rfl) (by simp) ?_
      refine AllReadyH.cons rfl (fun K hK => ?_) (AllReadyH.cons rfl (fun K hK => ?_) (AllReadyH.nil))
      · go_simp
        refine (mk_call 43 1 2 1 2 0 0 1 V1).mono ?_
        rintro y V2 ⟨rfl, hb⟩
        have k2 := k1.trans hb
        clear hb
        go_simp
        refine hK.out _ _ (HSA.out _ k2) (fun hS => ?_)
        clear hK K
        refine wpAnyH_ready (rs := [3, 8]) (by kernel_rfl) (by simp) ?_
        refine AllReadyH.cons rfl (fun K hK => ?_) (AllReadyH.cons rfl (fun K hK => ?_) (AllReadyH.nil))
        · go_simp
          refine (HCP.out V2 k2).mono ?_
          rintro y V3 ⟨pa, pc, oa, oc, hO3, hE3, rfl, hb⟩
          have k3 := k2.trans hb
          clear hb
          go_simp
          refine hK.out _ _ (HSA.out _ k3) (fun hS => ?_)
          clear hK K
          refine wpAnyH_take (i := 4) (v := .tuple #[lgV P (.slice pa P.base.tab.length pc) (.slice oa P.tail.length oc), .int .i64 13, .int .i64 0]) rfl (by kernel_rfl) (by kernel_rfl) (by kernel_rfl) (fun _ _ _ h => h) (Or.inl ⟨by rfl, ?_⟩) hS ?_
          · intro w hS; go_simp
          refine wpAnyH_take (i := 5) (v := lgV P (.slice pa P.base.tab.length pc) (.slice oa P.tail.length oc)) rfl (by kernel_rfl) (by kernel_rfl) (by kernel_rfl) (fun _ _ _ h => h) (Or.inl ⟨by rfl, ?_⟩) hS ?_
          · intro w hS; go_simp
          refine wpAnyH_take (i := 6) (v := .int .i64 13) rfl (by kernel_rfl) (by kernel_rfl) (by kernel_rfl) (fun _ _ _ h => h) (Or.inl ⟨by rfl, ?_⟩) hS ?_
          · intro w hS; go_simp
          refine wpAnyH_take (i := 7) (v := .int .i64 0) rfl (by kernel_rfl) (by kernel_rfl) (by kernel_rfl) (fun _ _ _ h => h) (Or.inl ⟨by rfl, ?_⟩) hS ?_
          · intro w hS; go_simp
          refine wpAnyH_ready (rs := [8]) (by kernel_rfl) (by simp) ?_
          refine AllReadyH.cons rfl (fun K hK => ?_) (AllReadyH.nil)
          go_simp
          have hb : Keeps V3 (V3.alloc (.cells #[.int .i64 0, .int .i64 0, .int .i64 0, .int .i64 0, .int .i64 0, .int .i64 0, .slice none 0 0, .slice none 0 0] 28)) := (Keeps.refl _).alloc _
          have HQ4 : Hid (LgBox V3.heap.size zeroLg (.slice none 0 0) (.slice none 0 0) (V3.alloc (.cells #[.int .i64 0, .int .i64 0, .int .i64 0, .int .i64 0, .int .i64 0, .int .i64 0, .slice none 0 0, .slice none 0 0] 28))) := LgBox.new V3 zeroLg (.slice none 0 0) (.slice none 0 0) rfl rfl 28
          have HTF : Hid (∀ WF, But V3.heap.size (V3.alloc (.cells #[.int .i64 0, .int .i64 0, .int .i64 0, .int .i64 0, .int .i64 0, .int .i64 0, .slice none 0 0, .slice none 0 0] 28)) WF → TabAt WF (.slice pa P.base.tab.length pc) P.base.tab ∧ EntsAt WF (.slice oa P.tail.length oc) P.tail) := fun WF hF => ⟨hO3.out.tab.keep (But.to hb (Nat.le_refl _) hF), EntsAt.keep (RowAt.of_owns hE3.out) (But.to hb (Nat.le_refl _) hF)⟩
          generalize V3.alloc (.cells #[.int .i64 0, .int .i64 0, .int .i64 0, .int .i64 0, .int .i64 0, .int .i64 0, .slice none 0 0, .slice none 0 0] 28) = V4 at *
          have k4 := k3.trans hb
          clear hb
          refine hK.out _ _ (HSA.out _ k4) (fun hS => ?_)
          clear hK K
          refine wpAnyH_ready (rs := [9]) (by kernel_rfl) (by simp) ?_
          refine AllReadyH.cons rfl (fun K hK => ?_) (AllReadyH.nil)
          have z0 := HQ4.out.c0
          have z1 := HQ4.out.c1
          have z2 := HQ4.out.c2
          have z3 := HQ4.out.c3
          have z4 := HQ4.out.c4
          have z5 := HQ4.out.c5
          have z6 := HQ4.out.c6
          have z7 := HQ4.out.c7
          have zf := HQ4.out.fz
          have zl := HQ4.out.lt
          go_simp
          have BP := HQ4.out.put P (.slice pa P.base.tab.length pc) (.slice oa P.tail.length oc)
          have BT := But.lgputs V3.heap.size V4 P (.slice pa P.base.tab.length pc) (.slice oa P.tail.length oc)
          have KF := But.to k4 k3.size BT
          have HTE := HTF.out _ BT
          obtain ⟨WF, hWF⟩ : ∃ z, z = ((((((((V4.setCell ⟨V3.heap.size, 0, none⟩ (.int .i64 P.base.at_)).setCell ⟨V3.heap.size, 1, none⟩ (.int .i64 P.base.clock)).setCell ⟨V3.heap.size, 2, none⟩ (.int .i64 P.base.v0)).setCell ⟨V3.heap.size, 3, none⟩ (.int .i64 P.base.v1)).setCell ⟨V3.heap.size, 4, none⟩ (.int .i64 P.base.v2)).setCell ⟨V3.heap.size, 5, none⟩ (.int .i64 P.base.v3)).setCell ⟨V3.heap.size, 6, none⟩ (.slice pa P.base.tab.length pc)).setCell ⟨V3.heap.size, 7, none⟩ (.slice oa P.tail.length oc)) := ⟨_, rfl⟩
          rw [← hWF] at BP BT KF HTE ⊢
          clear hWF z0 z1 z2 z3 z4 z5 z6 z7 zf zl
          refine hK.out _ _ (HSA.out _ KF) (fun hS => ?_)
          clear hK K
          refine wpAnyH_take (i := 10) (v := .int .i64 13) rfl (by kernel_rfl) (by kernel_rfl) (by kernel_rfl) (fun _ _ _ h => h) (Or.inl ⟨by rfl, ?_⟩) hS ?_
          · intro w hS; go_simp
          refine wpAnyH_take (i := 11) (v := .int .i64 0) rfl (by kernel_rfl) (by kernel_rfl) (by kernel_rfl) (fun _ _ _ h => h) (Or.inl ⟨by rfl, ?_⟩) hS ?_
          · intro w hS; go_simp
          refine wpAnyH_done (by kernel_rfl) ?_ _
          go_wp2_with fail
          go_meet
          exact ⟨rfl, rfl, _, _, _, _, _, rfl, BP, KF⟩
        · go_simp
          have hb : Keeps V2 (V2.alloc (.cells #[.int .i64 0, .int .i64 0, .int .i64 0, .int .i64 0, .int .i64 0, .int .i64 0, .slice none 0 0, .slice none 0 0] 28)) := (Keeps.refl _).alloc _
          have HQ3 : Hid (LgBox V2.heap.size zeroLg (.slice none 0 0) (.slice none 0 0) (V2.alloc (.cells #[.int .i64 0, .int .i64 0, .int .i64 0, .int .i64 0, .int .i64 0, .int .i64 0, .slice none 0 0, .slice none 0 0] 28))) := LgBox.new V2 zeroLg (.slice none 0 0) (.slice none 0 0) rfl rfl 28
          generalize V2.alloc (.cells #[.int .i64 0, .int .i64 0, .int .i64 0, .int .i64 0, .int .i64 0, .int .i64 0, .slice none 0 0, .slice none 0 0] 28) = V3 at *
          have k3 := k2.trans hb
          clear hb
          refine hK.out _ _ (HSA.out _ k3) (fun hS => ?_)
          clear hK K
          refine wpAnyH_ready (rs := [3]) (by kernel_rfl) (by simp) ?_
          refine AllReadyH.cons rfl (fun K hK => ?_) (AllReadyH.nil)
          go_simp
          refine (HCP.out V3 k3).mono ?_
          rintro y V4 ⟨pa, pc, oa, oc, hO4, hE4, rfl, hb⟩
          have k4 := k3.trans hb
          have HQ4 : Hid (LgBox V2.heap.size zeroLg (.slice none 0 0) (.slice none 0 0) V4) := HQ3.out.keep hb
          have HTF : Hid (∀ WF, But V2.heap.size V4 WF → TabAt WF (.slice pa P.base.tab.length pc) P.base.tab ∧ EntsAt WF (.slice oa P.tail.length oc) P.tail) := fun WF hF => ⟨(hO4.out.but (by have := HQ3.out.lt; omega) hF).tab, RowAt.of_owns (owns_far hE4.out (by have := HQ3.out.lt; omega) hF)⟩
          clear hb
          go_simp
          refine hK.out _ _ (HSA.out _ k4) (fun hS => ?_)
          clear hK K
          refine wpAnyH_take (i := 4) (v := .tuple #[lgV P (.slice pa P.base.tab.length pc) (.slice oa P.tail.length oc), .int .i64 13, .int .i64 0]) rfl (by kernel_rfl) (by kernel_rfl) (by kernel_rfl) (fun _ _ _ h => h) (Or.inl ⟨by rfl, ?_⟩) hS ?_
          · intro w hS; go_simp
          refine wpAnyH_take (i := 5) (v := lgV P (.slice pa P.base.tab.length pc) (.slice oa P.tail.length oc)) rfl (by kernel_rfl) (by kernel_rfl) (by kernel_rfl) (fun _ _ _ h => h) (Or.inl ⟨by rfl, ?_⟩) hS ?_
          · intro w hS; go_simp
          refine wpAnyH_take (i := 6) (v := .int .i64 13) rfl (by kernel_rfl) (by kernel_rfl) (by kernel_rfl) (fun _ _ _ h => h) (Or.inl ⟨by rfl, ?_⟩) hS ?_
          · intro w hS; go_simp
          refine wpAnyH_take (i := 7) (v := .int .i64 0) rfl (by kernel_rfl) (by kernel_rfl) (by kernel_rfl) (fun _ _ _ h => h) (Or.inl ⟨by rfl, ?_⟩) hS ?_
          · intro w hS; go_simp
          refine wpAnyH_ready (rs := [9]) (by kernel_rfl) (by simp) ?_
          refine AllReadyH.cons rfl (fun K hK => ?_) (AllReadyH.nil)
          have z0 := HQ4.out.c0
          have z1 := HQ4.out.c1
          have z2 := HQ4.out.c2
          have z3 := HQ4.out.c3
          have z4 := HQ4.out.c4
          have z5 := HQ4.out.c5
          have z6 := HQ4.out.c6
          have z7 := HQ4.out.c7
          have zf := HQ4.out.fz
          have zl := HQ4.out.lt
          go_simp
          have BP := HQ4.out.put P (.slice pa P.base.tab.length pc) (.slice oa P.tail.length oc)
          have BT := But.lgputs V2.heap.size V4 P (.slice pa P.base.tab.length pc) (.slice oa P.tail.length oc)
          have KF := But.to k4 k2.size BT
          have HTE := HTF.out _ BT
          obtain ⟨WF, hWF⟩ : ∃ z, z = ((((((((V4.setCell ⟨V2.heap.size, 0, none⟩ (.int .i64 P.base.at_)).setCell ⟨V2.heap.size, 1, none⟩ (.int .i64 P.base.clock)).setCell ⟨V2.heap.size, 2, none⟩ (.int .i64 P.base.v0)).setCell ⟨V2.heap.size, 3, none⟩ (.int .i64 P.base.v1)).setCell ⟨V2.heap.size, 4, none⟩ (.int .i64 P.base.v2)).setCell ⟨V2.heap.size, 5, none⟩ (.int .i64 P.base.v3)).setCell ⟨V2.heap.size, 6, none⟩ (.slice pa P.base.tab.length pc)).setCell ⟨V2.heap.size, 7, none⟩ (.slice oa P.tail.length oc)) := ⟨_, rfl⟩
          rw [← hWF] at BP BT KF HTE ⊢
          clear hWF z0 z1 z2 z3 z4 z5 z6 z7 zf zl
          refine hK.out _ _ (HSA.out _ KF) (fun hS => ?_)
          clear hK K
          refine wpAnyH_take (i := 10) (v := .int .i64 13) rfl (by kernel_rfl) (by kernel_rfl) (by kernel_rfl) (fun _ _ _ h => h) (Or.inl ⟨by rfl, ?_⟩) hS ?_
          · intro w hS; go_simp
          refine wpAnyH_take (i := 11) (v := .int .i64 0) rfl (by kernel_rfl) (by kernel_rfl) (by kernel_rfl) (fun _ _ _ h => h) (Or.inl ⟨by rfl, ?_⟩) hS ?_
          · intro w hS; go_simp
          refine wpAnyH_done (by kernel_rfl) ?_ _
          go_wp2_with fail
          go_meet
          exact ⟨rfl, rfl, _, _, _, _, _, rfl, BP, KF⟩
      · go_simp
        have hb : Keeps V1 (V1.alloc (.cells #[.int .i64 0, .int .i64 0, .int .i64 0, .int .i64 0, .int .i64 0, .int .i64 0, .slice none 0 0, .slice none 0 0] 28)) := (Keeps.refl _).alloc _
        have HQ2 : Hid (LgBox V1.heap.size zeroLg (.slice none 0 0) (.slice none 0 0) (V1.alloc (.cells #[.int .i64 0, .int .i64 0, .int .i64 0, .int .i64 0, .int .i64 0, .int .i64 0, .slice none 0 0, .slice none 0 0] 28))) := LgBox.new V1 zeroLg (.slice none 0 0) (.slice none 0 0) rfl rfl 28
        generalize V1.alloc (.cells #[.int .i64 0, .int .i64 0, .int .i64 0, .int .i64 0, .int .i64 0, .int .i64 0, .slice none 0 0, .slice none 0 0] 28) = V2 at *
        have k2 := k1.trans hb
        clear hb
        refine hK.out _ _ (HSA.out _ k2) (fun hS => ?_)
        clear hK K
        refine wpAnyH_ready (rs := [2]) (by kernel_rfl) (by simp) ?_
        refine AllReadyH.cons rfl (fun K hK => ?_) (AllReadyH.nil)
        go_simp
        refine (mk_call 43 1 2 1 2 0 0 1 V2).mono ?_
        rintro y V3 ⟨rfl, hb⟩
        have k3 := k2.trans hb
        have HQ3 : Hid (LgBox V1.heap.size zeroLg (.slice none 0 0) (.slice none 0 0) V3) := HQ2.out.keep hb
        clear hb
        go_simp
        refine hK.out _ _ (HSA.out _ k3) (fun hS => ?_)
        clear hK K
        refine wpAnyH_ready (rs := [3]) (by kernel_rfl) (by simp) ?_
        refine AllReadyH.cons rfl (fun K hK => ?_) (AllReadyH.nil)
        go_simp
        refine (HCP.out V3 k3).mono ?_
        rintro y V4 ⟨pa, pc, oa, oc, hO4, hE4, rfl, hb⟩
        have k4 := k3.trans hb
        have HQ4 : Hid (LgBox V1.heap.size zeroLg (.slice none 0 0) (.slice none 0 0) V4) := HQ3.out.keep hb
        have HTF : Hid (∀ WF, But V1.heap.size V4 WF → TabAt WF (.slice pa P.base.tab.length pc) P.base.tab ∧ EntsAt WF (.slice oa P.tail.length oc) P.tail) := fun WF hF => ⟨(hO4.out.but (by have := HQ3.out.lt; omega) hF).tab, RowAt.of_owns (owns_far hE4.out (by have := HQ3.out.lt; omega) hF)⟩
        clear hb
        go_simp
        refine hK.out _ _ (HSA.out _ k4) (fun hS => ?_)
        clear hK K
        refine wpAnyH_take (i := 4) (v := .tuple #[lgV P (.slice pa P.base.tab.length pc) (.slice oa P.tail.length oc), .int .i64 13, .int .i64 0]) rfl (by kernel_rfl) (by kernel_rfl) (by kernel_rfl) (fun _ _ _ h => h) (Or.inl ⟨by rfl, ?_⟩) hS ?_
        · intro w hS; go_simp
        refine wpAnyH_take (i := 5) (v := lgV P (.slice pa P.base.tab.length pc) (.slice oa P.tail.length oc)) rfl (by kernel_rfl) (by kernel_rfl) (by kernel_rfl) (fun _ _ _ h => h) (Or.inl ⟨by rfl, ?_⟩) hS ?_
        · intro w hS; go_simp
        refine wpAnyH_take (i := 6) (v := .int .i64 13) rfl (by kernel_rfl) (by kernel_rfl) (by kernel_rfl) (fun _ _ _ h => h) (Or.inl ⟨by rfl, ?_⟩) hS ?_
        · intro w hS; go_simp
        refine wpAnyH_take (i := 7) (v := .int .i64 0) rfl (by kernel_rfl) (by kernel_rfl) (by kernel_rfl) (fun _ _ _ h => h) (Or.inl ⟨by rfl, ?_⟩) hS ?_
        · intro w hS; go_simp
        refine wpAnyH_ready (rs := [9]) (by kernel_rfl) (by simp) ?_
        refine AllReadyH.cons rfl (fun K hK => ?_) (AllReadyH.nil)
        have z0 := HQ4.out.c0
        have z1 := HQ4.out.c1
        have z2 := HQ4.out.c2
        have z3 := HQ4.out.c3
        have z4 := HQ4.out.c4
        have z5 := HQ4.out.c5
        have z6 := HQ4.out.c6
        have z7 := HQ4.out.c7
        have zf := HQ4.out.fz
        have zl := HQ4.out.lt
        go_simp
        have BP := HQ4.out.put P (.slice pa P.base.tab.length pc) (.slice oa P.tail.length oc)
        have BT := But.lgputs V1.heap.size V4 P (.slice pa P.base.tab.length pc) (.slice oa P.tail.length oc)
        have KF := But.to k4 k1.size BT
        have HTE := HTF.out _ BT
        obtain ⟨WF, hWF⟩ : ∃ z, z = ((((((((V4.setCell ⟨V1.heap.size, 0, none⟩ (.int .i64 P.base.at_)).setCell ⟨V1.heap.size, 1, none⟩ (.int .i64 P.base.clock)).setCell ⟨V1.heap.size, 2, none⟩ (.int .i64 P.base.v0)).setCell ⟨V1.heap.size, 3, none⟩ (.int .i64 P.base.v1)).setCell ⟨V1.heap.size, 4, none⟩ (.int .i64 P.base.v2)).setCell ⟨V1.heap.size, 5, none⟩ (.int .i64 P.base.v3)).setCell ⟨V1.heap.size, 6, none⟩ (.slice pa P.base.tab.length pc)).setCell ⟨V1.heap.size, 7, none⟩ (.slice oa P.tail.length oc)) := ⟨_, rfl⟩
        rw [← hWF] at BP BT KF HTE ⊢
        clear hWF z0 z1 z2 z3 z4 z5 z6 z7 zf zl
        refine hK.out _ _ (HSA.out _ KF) (fun hS => ?_)
        clear hK K
        refine wpAnyH_take (i := 10) (v := .int .i64 13) rfl (by kernel_rfl) (by kernel_rfl) (by kernel_rfl) (fun _ _ _ h => h) (Or.inl ⟨by rfl, ?_⟩) hS ?_
        · intro w hS; go_simp
        refine wpAnyH_take (i := 11) (v := .int .i64 0) rfl (by kernel_rfl) (by kernel_rfl) (by kernel_rfl) (fun _ _ _ h => h) (Or.inl ⟨by rfl, ?_⟩) hS ?_
        · intro w hS; go_simp
        refine wpAnyH_done (by kernel_rfl) ?_ _
        go_wp2_with fail
        go_meet
        exact ⟨rfl, rfl, _, _, _, _, _, rfl, BP, KF⟩
    · go_simp
      have hb : Keeps V0 (V0.alloc (.cells #[.int .i64 0, .int .i64 0, .int .i64 0, .int .i64 0, .int .i64 0, .int .i64 0, .slice none 0 0, .slice none 0 0] 28)) := (Keeps.refl _).alloc _
      have HQ1 : Hid (LgBox V0.heap.size zeroLg (.slice none 0 0) (.slice none 0 0) (V0.alloc (.cells #[.int .i64 0, .int .i64 0, .int .i64 0, .int .i64 0, .int .i64 0, .int .i64 0, .slice none 0 0, .slice none 0 0] 28))) := LgBox.new V0 zeroLg (.slice none 0 0) (.slice none 0 0) rfl rfl 28
      generalize V0.alloc (.cells #[.int .i64 0, .int .i64 0, .int .i64 0, .int .i64 0, .int .i64 0, .int .i64 0, .slice none 0 0, .slice none 0 0] 28) = V1 at *
      have k1 := k0.trans hb
      clear hb
      refine hK.out _ _ (HSA.out _ k1) (fun hS => ?_)
      clear hK K
      refine wpAnyH_ready (rs := [1]) (by kernel_rfl) (by simp) ?_
      refine AllReadyH.cons rfl (fun K hK => ?_) (AllReadyH.nil)
      go_simp
      refine (mk_add 1 V1).mono ?_
      rintro y V2 ⟨rfl, hb⟩
      have k2 := k1.trans hb
      have HQ2 : Hid (LgBox V0.heap.size zeroLg (.slice none 0 0) (.slice none 0 0) V2) := HQ1.out.keep hb
      clear hb
      go_simp
      refine hK.out _ _ (HSA.out _ k2) (fun hS => ?_)
      clear hK K
      refine wpAnyH_ready (rs := [2]) (by kernel_rfl) (by simp) ?_
      refine AllReadyH.cons rfl (fun K hK => ?_) (AllReadyH.nil)
      go_simp
      refine (mk_call 43 1 2 1 2 0 0 1 V2).mono ?_
      rintro y V3 ⟨rfl, hb⟩
      have k3 := k2.trans hb
      have HQ3 : Hid (LgBox V0.heap.size zeroLg (.slice none 0 0) (.slice none 0 0) V3) := HQ2.out.keep hb
      clear hb
      go_simp
      refine hK.out _ _ (HSA.out _ k3) (fun hS => ?_)
      clear hK K
      refine wpAnyH_ready (rs := [3]) (by kernel_rfl) (by simp) ?_
      refine AllReadyH.cons rfl (fun K hK => ?_) (AllReadyH.nil)
      go_simp
      refine (HCP.out V3 k3).mono ?_
      rintro y V4 ⟨pa, pc, oa, oc, hO4, hE4, rfl, hb⟩
      have k4 := k3.trans hb
      have HQ4 : Hid (LgBox V0.heap.size zeroLg (.slice none 0 0) (.slice none 0 0) V4) := HQ3.out.keep hb
      have HTF : Hid (∀ WF, But V0.heap.size V4 WF → TabAt WF (.slice pa P.base.tab.length pc) P.base.tab ∧ EntsAt WF (.slice oa P.tail.length oc) P.tail) := fun WF hF => ⟨(hO4.out.but (by have := HQ3.out.lt; omega) hF).tab, RowAt.of_owns (owns_far hE4.out (by have := HQ3.out.lt; omega) hF)⟩
      clear hb
      go_simp
      refine hK.out _ _ (HSA.out _ k4) (fun hS => ?_)
      clear hK K
      refine wpAnyH_take (i := 4) (v := .tuple #[lgV P (.slice pa P.base.tab.length pc) (.slice oa P.tail.length oc), .int .i64 13, .int .i64 0]) rfl (by kernel_rfl) (by kernel_rfl) (by kernel_rfl) (fun _ _ _ h => h) (Or.inl ⟨by rfl, ?_⟩) hS ?_
      · intro w hS; go_simp
      refine wpAnyH_take (i := 5) (v := lgV P (.slice pa P.base.tab.length pc) (.slice oa P.tail.length oc)) rfl (by kernel_rfl) (by kernel_rfl) (by kernel_rfl) (fun _ _ _ h => h) (Or.inl ⟨by rfl, ?_⟩) hS ?_
      · intro w hS; go_simp
      refine wpAnyH_take (i := 6) (v := .int .i64 13) rfl (by kernel_rfl) (by kernel_rfl) (by kernel_rfl) (fun _ _ _ h => h) (Or.inl ⟨by rfl, ?_⟩) hS ?_
      · intro w hS; go_simp
      refine wpAnyH_take (i := 7) (v := .int .i64 0) rfl (by kernel_rfl) (by kernel_rfl) (by kernel_rfl) (fun _ _ _ h => h) (Or.inl ⟨by rfl, ?_⟩) hS ?_
      · intro w hS; go_simp
      refine wpAnyH_ready (rs := [9]) (by kernel_rfl) (by simp) ?_
      refine AllReadyH.cons rfl (fun K hK => ?_) (AllReadyH.nil)
      have z0 := HQ4.out.c0
      have z1 := HQ4.out.c1
      have z2 := HQ4.out.c2
      have z3 := HQ4.out.c3
      have z4 := HQ4.out.c4
      have z5 := HQ4.out.c5
      have z6 := HQ4.out.c6
      have z7 := HQ4.out.c7
      have zf := HQ4.out.fz
      have zl := HQ4.out.lt
      go_simp
      have BP := HQ4.out.put P (.slice pa P.base.tab.length pc) (.slice oa P.tail.length oc)
      have BT := But.lgputs V0.heap.size V4 P (.slice pa P.base.tab.length pc) (.slice oa P.tail.length oc)
      have KF := But.to k4 k0.size BT
      have HTE := HTF.out _ BT
      obtain ⟨WF, hWF⟩ : ∃ z, z = ((((((((V4.setCell ⟨V0.heap.size, 0, none⟩ (.int .i64 P.base.at_)).setCell ⟨V0.heap.size, 1, none⟩ (.int .i64 P.base.clock)).setCell ⟨V0.heap.size, 2, none⟩ (.int .i64 P.base.v0)).setCell ⟨V0.heap.size, 3, none⟩ (.int .i64 P.base.v1)).setCell ⟨V0.heap.size, 4, none⟩ (.int .i64 P.base.v2)).setCell ⟨V0.heap.size, 5, none⟩ (.int .i64 P.base.v3)).setCell ⟨V0.heap.size, 6, none⟩ (.slice pa P.base.tab.length pc)).setCell ⟨V0.heap.size, 7, none⟩ (.slice oa P.tail.length oc)) := ⟨_, rfl⟩
      rw [← hWF] at BP BT KF HTE ⊢
      clear hWF z0 z1 z2 z3 z4 z5 z6 z7 zf zl
      refine hK.out _ _ (HSA.out _ KF) (fun hS => ?_)
      clear hK K
      refine wpAnyH_take (i := 10) (v := .int .i64 13) rfl (by kernel_rfl) (by kernel_rfl) (by kernel_rfl) (fun _ _ _ h => h) (Or.inl ⟨by rfl, ?_⟩) hS ?_
      · intro w hS; go_simp
      refine wpAnyH_take (i := 11) (v := .int .i64 0) rfl (by kernel_rfl) (by kernel_rfl) (by kernel_rfl) (fun _ _ _ h => h) (Or.inl ⟨by rfl, ?_⟩) hS ?_
      · intro w hS; go_simp
      refine wpAnyH_done (by kernel_rfl) ?_ _
      go_wp2_with fail
      go_meet
      exact ⟨rfl, rfl, _, _, _, _, _, rfl, BP, KF⟩
  case rest =>
    obtain ⟨rfl, rfl, pb, pa, pc, oa, oc, rfl, hPB, hkc⟩ := hcut
    obtain ⟨w7, hw7⟩ : ∃ z, z = wc := ⟨_, rfl⟩
    rw [← hw7] at hPB hkc ⊢
    clear hw7
    have HK67 : Hid (Keeps w6 w7) := hkc
    have HPB : Hid (LgBox pb P (.slice pa P.base.tab.length pc) (.slice oa P.tail.length oc) w7) := hPB
    have HK27 : Hid (Keeps w2 w7) := (HK4.out.trans HK46.out).trans hkc
    clear hPB hkc HSA HCP
    obtain ⟨b0, b1, b2, b3, b4, b5, b6, b7⟩ := HCB.out w7 HK27.out
    have bl := World.block_lt_of_cell? _ _ b0
    simp only [] at bl
    go_wp2_with fail
    refine (pack_cut log0 11 (.slice none 0 0) (some a1) 10 w7 (OwnTab.nil 0 _).tab (HL2.out.keep HK27.out) (by decide)).mono ?_
    rintro y w8 ⟨xa, xc, ya, yc, _, _, _, rfl, hb⟩
    rw [HR.out.2.2.2.2.2.2.2.2.1]
    have HK78 : Hid (Keeps w7 w8) := hb
    clear hb b0 b1 b2 b3 b4 b5 b6 b7 bl
    generalize cutLg log0 11 = C11 at *
    go_wp2_with fail
    refine (some_cap _).mono ?_
    rintro y w9 ⟨a9, h9, rfl, hb⟩
    have HK79 : Hid (Keeps w7 w9) := (HK78.out.alloc _).trans hb
    have HL9 : Hid (EntsAt w9 (.slice (some a9) 10 10) someL) := h9
    clear hb h9
    go_wp2_with fail
    refine (pack_end log45 (.slice none 0 0) (some a9) 10 w9 (OwnTab.nil 0 _).tab HL9.out (by decide)).mono ?_
    rintro y w10 ⟨fa, fc, _, rfl, hb⟩
    rw [HR.out.2.2.2.2.2.2.2.2.2]
    generalize allSt log45.base log45.tail = s9 at *
    have HK7A : Hid (Keeps w7 (w10.alloc (.cells #[.int .i64 s9.at_, .int .i64 s9.clock, .int .i64 s9.v0, .int .i64 s9.v1, .int .i64 s9.v2, .int .i64 s9.v3, .slice fa s9.tab.length fc] 25))) := (HK79.out.trans hb).alloc _
    clear hb
    have SB := HSB.out.keep (HK46.out.trans (HK67.out.trans HK7A.out))
    have MB := HB6.out.keep (HK67.out.trans HK7A.out)
    have PB := HPB.out.keep HK7A.out
    have LBX := HCB.out _ (HK27.out.trans HK7A.out)
    have s0 := SB.c0
    have sl := SB.lt
    have m0 := MB.c0
    have m7 := MB.c7
    have ml := MB.lt
    have p7 := PB.c7
    have pl := PB.lt
    obtain ⟨b0, b1, b2, b3, b4, b5, b6, b7⟩ := LBX
    have bl := World.block_lt_of_cell? _ _ b0
    simp only [] at bl
    rw [HS1.out] at s0
    rw [HM6.out] at m0
    rw [HM4.out] at m7
    rw [HP5.out] at p7
    have HKA : Hid (Keeps w2 (w10.alloc (.cells #[.int .i64 s9.at_, .int .i64 s9.clock, .int .i64 s9.v0, .int .i64 s9.v1, .int .i64 s9.v2, .int .i64 s9.v3, .slice fa s9.tab.length fc] 25))) := HK27.out.trans HK7A.out
    clear SB MB PB
    go_wp2_with fail
    generalize (w10.alloc (.cells #[.int .i64 s9.at_, .int .i64 s9.clock, .int .i64 s9.v0, .int .i64 s9.v1, .int .i64 s9.v2, .int .i64 s9.v3, .slice fa s9.tab.length fc] 25)) = w11 at *
    refine (pack_check log0 (.slice none 0 0) (.slice (some a1) 10 10) w11 (OwnTab.nil 0 _).tab (HL2.out.keep HKA.out)).mono ?_
    rintro y w12 ⟨rfl, hb⟩
    rw [HR.out.1]
    have HKB : Hid (Keeps w w12) := (HK2.out.trans HKA.out).trans hb
    clear hb
    go_wp2_with fail
    go_ret
    exact ⟨rfl, HKB.out⟩
end Go.Proofs.Yteabfjpajgakiae

/- The reference's PackPut; PackPuts: the walk. -/
set_option linter.unusedSimpArgs false
set_option linter.unusedVariables false
set_option maxRecDepth 10000
namespace Go.Proofs.Yteabfjpajgakiae
open Go.RowKit

theorem row_same {w w' : World} {size n c b o : Nat} {xs : List Value} (h : RowAt w size (.slice (some ⟨b, o, none⟩) n c) n xs) (hb : w'.heap[b]? = w.heap[b]?) : RowAt w' size (.slice (some ⟨b, o, none⟩) n c) n xs := by
  obtain ⟨h1, h2, h3⟩ := h
  refine ⟨h1, h2, ?_⟩
  rcases h3 with ⟨e, _⟩ | ⟨a, cap, e, h3⟩
  · cases e
  · injection e with e1 e2 e3
    injection e1 with e1
    subst e1
    refine .inr ⟨_, cap, by rw [e3], fun j u hu => ?_⟩
    have := h3 j u hu
    rw [Addr.add_lit] at this ⊢
    exact (World.cell?_of_block hb).trans this

theorem ents_snoc {w : World} {base gc : Nat} {ga : Option Addr} {L : List Ent} {e : Ent} (h : w.ownsRow base 32 9 (.slice ga (L.length + 1) gc) (L.length + 1) (entCells L ++ entCells [e])) : EntsAt w (.slice ga (L.length + 1) gc) (L ++ [e]) := by
  have := RowAt.of_owns h
  unfold EntsAt
  rw [List.length_append, entCells_append]
  exact this

set_option maxHeartbeats 8000000 in
theorem pack_put_of (l : Lg) (e : Ent) (x : Value) (ta : Option Addr) (tc : Nat) (w : World) (hT : TabAt w x l.base.tab) (hL : EntsAt w (.slice ta l.tail.length tc) l.tail) :
    Calls Try.prog 7 #[lgV l x (.slice ta l.tail.length tc), entV e] w fun y w' => ∃ qa qc ea ec, OwnTab w.heap.size w' (.slice qa (putLg l e).base.tab.length qc) (putLg l e).base.tab ∧ EntsAt w' (.slice ea (putLg l e).tail.length ec) (putLg l e).tail ∧
      y = .returned (.tuple #[lgV (putLg l e) (.slice qa (putLg l e).base.tab.length qc) (.slice ea (putLg l e).tail.length ec), .int .i64 (putAns l e), .int .i64 (putLgErr l e)]) ∧ Keeps w w' := by
  obtain ⟨xa, xc, rfl, _⟩ := hT.len
  have HT : Hid (TabAt w (.slice xa l.base.tab.length xc) l.base.tab) := hT
  have HL : Hid (EntsAt w (.slice ta l.tail.length tc) l.tail) := hL
  have hlen := hL.2.1
  unfold maxLen at hlen
  clear hT hL
  have HE : Hid (putLgErr l e = if lgErr l == 0 then (if entErr e == 0 then (if l.base.at_ + l.tail.length == 50 then 2 else 0) else entErr e) else lgErr l) := rfl
  have HPZ : Hid ((putLgErr l e == 0) = false → putLg l e = zeroLg ∧ putAns l e = 0) := fun h => ⟨by unfold putLg; rw [h]; rfl, by unfold putAns; rw [h]; rfl⟩
  have HPN : Hid (putLgErr l e = 0 → putLg l e = ⟨l.base, l.tail ++ [e]⟩ ∧ putAns l e = oneAns (runSt l.base l.tail) e) := fun h => ⟨by unfold putLg; rw [h]; rfl, by unfold putAns; rw [h]; rfl⟩
  have HEN : Hid (∀ w, EntsAt w (.slice none 0 0) []) := fun w => ⟨rfl, by unfold maxLen; simp, .inl ⟨rfl, rfl⟩⟩
  have HBD : Hid (lgErr l = 0 → (0 ≤ l.base.at_ ∧ l.base.at_ ≤ 50) ∧ l.tail.length ≤ 50) := fun h => by
    have h1 := fold_right h
    have h2 := (stErr_bounds h1.1).1
    exact ⟨h2, by omega⟩
  go_enter Try.func7, Try.ntmps7
  go_wp2_with fail
  obtain ⟨W1, hW1⟩ : ∃ W1, W1 = ((w.alloc (.cells #[.int .i64 l.base.at_, .int .i64 l.base.clock, .int .i64 l.base.v0, .int .i64 l.base.v1, .int .i64 l.base.v2, .int .i64 l.base.v3, .slice xa l.base.tab.length xc, .slice ta l.tail.length tc] 28)).alloc (.cells #[.int .i64 e.kind, .int .i64 e.time, .int .i64 e.client, .int .i64 e.seq, .int .i64 e.ack, .int .i64 e.ok, .int .i64 e.okey, .int .i64 e.oto, .int .i64 e.on] 32)).alloc (.cells #[.int .i64 0, .int .i64 0, .int .i64 0, .int .i64 0, .int .i64 0, .int .i64 0, .slice none 0 0, .slice none 0 0] 28) := ⟨_, rfl⟩
  have k1 : Keeps w W1 := by rw [hW1]; exact (((Keeps.refl _).alloc _).alloc _).alloc _
  have B1 : LgBox w.heap.size l (.slice xa l.base.tab.length xc) (.slice ta l.tail.length tc) W1 := by rw [hW1]; exact (LgBox.new w l _ _ rfl rfl 28).keep (((Keeps.refl _).alloc _).alloc _)
  have E1 : EntBox (w.heap.size + 1) e W1 := by
    rw [hW1]
    have := (EntBox.new (w.alloc (.cells #[.int .i64 l.base.at_, .int .i64 l.base.clock, .int .i64 l.base.v0, .int .i64 l.base.v1, .int .i64 l.base.v2, .int .i64 l.base.v3, .slice xa l.base.tab.length xc, .slice ta l.tail.length tc] 28)) e 32).keep ((Keeps.refl _).alloc (.cells #[.int .i64 0, .int .i64 0, .int .i64 0, .int .i64 0, .int .i64 0, .int .i64 0, .slice none 0 0, .slice none 0 0] 28))
    simp only [World.size_alloc] at this
    exact this
  have Z1 : LgBox (w.heap.size + 2) zeroLg (.slice none 0 0) (.slice none 0 0) W1 := by
    rw [hW1]
    have := LgBox.new ((w.alloc (.cells #[.int .i64 l.base.at_, .int .i64 l.base.clock, .int .i64 l.base.v0, .int .i64 l.base.v1, .int .i64 l.base.v2, .int .i64 l.base.v3, .slice xa l.base.tab.length xc, .slice ta l.tail.length tc] 28)).alloc (.cells #[.int .i64 e.kind, .int .i64 e.time, .int .i64 e.client, .int .i64 e.seq, .int .i64 e.ack, .int .i64 e.ok, .int .i64 e.okey, .int .i64 e.oto, .int .i64 e.on] 32)) zeroLg (.slice none 0 0) (.slice none 0 0) rfl rfl 28
    simp only [World.size_alloc] at this
    exact this
  rw [← hW1]
  clear hW1
  refine (log_error l _ _ W1 (HT.out.keep k1) (HL.out.keep k1)).mono ?_
  rintro y w1 ⟨rfl, hb⟩
  have HK1 : Hid (Keeps w w1) := k1.trans hb
  have hk := HK1.out
  have HB1 : Hid (LgBox w.heap.size l (.slice xa l.base.tab.length xc) (.slice ta l.tail.length tc) w1) := B1.keep hb
  have HE1 : Hid (EntBox (w.heap.size + 1) e w1) := E1.keep hb
  have HZ1 : Hid (LgBox (w.heap.size + 2) zeroLg (.slice none 0 0) (.slice none 0 0) w1) := Z1.keep hb
  clear k1 B1 E1 Z1 hb
  clear W1
  cases q1 : (lgErr l == 0) with
  | false =>
    have q1' : (lgErr l != 0) = true := by simp [bne, q1]
    have HE2 : Hid (putLgErr l e = (lgErr l)) := by show _ = _; rw [HE.out, q1]; rfl
    have H1 := (show Hid _ from HPZ.out (by rw [HE2.out]; exact q1))
    have z0 := HZ1.out.c0
    have z1 := HZ1.out.c1
    have z2 := HZ1.out.c2
    have z3 := HZ1.out.c3
    have z4 := HZ1.out.c4
    have z5 := HZ1.out.c5
    have z6 := HZ1.out.c6
    have z7 := HZ1.out.c7
    have zf := HZ1.out.fz
    have zl := HZ1.out.lt
    go_wp2_with fail
    refine bodyPost_ret (v := .tuple #[lgV zeroLg (.slice none 0 0) (.slice none 0 0), .int .i64 0, .int .i64 (lgErr l)]) ?_ rfl ?_
    · simp [results, Try.results7, go_sem, zeroLg, zeroSt, z0, z1, z2, z3, z4, z5, z6, z7]
    · rw [HE2.out, H1.out.1, H1.out.2]
      refine ⟨none, 0, none, 0, OwnTab.nil _ _, HEN.out _, rfl, ?_⟩
      repeat refine Keeps.set ?_ (by simp <;> omega) _
      exact hk
  | true =>
    have q1' : (lgErr l != 0) = false := by simp [bne, q1]
    have q10 : lgErr l = 0 := by simpa using q1
    obtain ⟨⟨ba0, ba1⟩, hl50⟩ := HBD.out q10
    have e0 := HE1.out.c0
    have e1 := HE1.out.c1
    have e2 := HE1.out.c2
    have e3 := HE1.out.c3
    have e4 := HE1.out.c4
    have e5 := HE1.out.c5
    have e6 := HE1.out.c6
    have e7 := HE1.out.c7
    have e8 := HE1.out.c8
    have el := HE1.out.lt
    go_wp2_with fail
    refine (entry_error e w1).mono ?_
    rintro y w2 ⟨rfl, hb⟩
    have HK2 : Hid (Keeps w w2) := HK1.out.trans hb
    clear hk
    have hk := HK2.out
    have HB2 : Hid (LgBox w.heap.size l (.slice xa l.base.tab.length xc) (.slice ta l.tail.length tc) w2) := HB1.out.keep hb
    have HE2 : Hid (EntBox (w.heap.size + 1) e w2) := HE1.out.keep hb
    have HZ2 : Hid (LgBox (w.heap.size + 2) zeroLg (.slice none 0 0) (.slice none 0 0) w2) := HZ1.out.keep hb
    clear hb HB1 HE1 HZ1 HK1 e0 e1 e2 e3 e4 e5 e6 e7 e8 el
    clear w1
    cases q2 : (entErr e == 0) with
    | false =>
      have q2' : (entErr e != 0) = true := by simp [bne, q2]
      have HE2 : Hid (putLgErr l e = (entErr e)) := by show _ = _; rw [HE.out, q1, q2]; rfl
      have H1 := (show Hid _ from HPZ.out (by rw [HE2.out]; exact q2))
      have z0 := HZ2.out.c0
      have z1 := HZ2.out.c1
      have z2 := HZ2.out.c2
      have z3 := HZ2.out.c3
      have z4 := HZ2.out.c4
      have z5 := HZ2.out.c5
      have z6 := HZ2.out.c6
      have z7 := HZ2.out.c7
      have zf := HZ2.out.fz
      have zl := HZ2.out.lt
      go_wp2_with fail
      refine bodyPost_ret (v := .tuple #[lgV zeroLg (.slice none 0 0) (.slice none 0 0), .int .i64 0, .int .i64 (entErr e)]) ?_ rfl ?_
      · simp [results, Try.results7, go_sem, zeroLg, zeroSt, z0, z1, z2, z3, z4, z5, z6, z7]
      · rw [HE2.out, H1.out.1, H1.out.2]
        refine ⟨none, 0, none, 0, OwnTab.nil _ _, HEN.out _, rfl, ?_⟩
        repeat refine Keeps.set ?_ (by simp <;> omega) _
        exact hk
    | true =>
      have q2' : (entErr e != 0) = false := by simp [bne, q2]
      have b0 := HB2.out.c0
      have b1 := HB2.out.c1
      have b2 := HB2.out.c2
      have b3 := HB2.out.c3
      have b4 := HB2.out.c4
      have b5 := HB2.out.c5
      have b6 := HB2.out.c6
      have b7 := HB2.out.c7
      have bl := HB2.out.lt
      cases q3 : (l.base.at_ + l.tail.length == 50) with
      | true =>
        have HE2 : Hid (putLgErr l e = 2) := by show _ = _; rw [HE.out, q1, q2, q3]; rfl
        have H1 := (show Hid _ from HPZ.out (by rw [HE2.out]; rfl))
        have z0 := HZ2.out.c0
        have z1 := HZ2.out.c1
        have z2 := HZ2.out.c2
        have z3 := HZ2.out.c3
        have z4 := HZ2.out.c4
        have z5 := HZ2.out.c5
        have z6 := HZ2.out.c6
        have z7 := HZ2.out.c7
        have zf := HZ2.out.fz
        have zl := HZ2.out.lt
        go_wp2_with fail
        refine bodyPost_ret (v := .tuple #[lgV zeroLg (.slice none 0 0) (.slice none 0 0), .int .i64 0, .int .i64 2]) ?_ rfl ?_
        · simp [results, Try.results7, go_sem, zeroLg, zeroSt, z0, z1, z2, z3, z4, z5, z6, z7]
        · rw [HE2.out, H1.out.1, H1.out.2]
          refine ⟨none, 0, none, 0, OwnTab.nil _ _, HEN.out _, rfl, ?_⟩
          repeat refine Keeps.set ?_ (by simp <;> omega) _
          exact hk
      | false =>
        have HPE : Hid (putLgErr l e = 0) := by show _ = _; rw [HE.out, q1, q2, q3]; rfl
        have hpr := putLg_right HPE.out
        have HPL : Hid (putLg l e = ⟨l.base, l.tail ++ [e]⟩) := (HPN.out HPE.out).1
        obtain ⟨an, han⟩ : ∃ an, an = oneAns (runSt l.base l.tail) e := ⟨_, rfl⟩
        have HPA : Hid (putAns l e = an) := by show _ = _; rw [(HPN.out HPE.out).2, han]
        have HRA : Hid (runAns l.base (l.tail ++ [e]) = runAns l.base l.tail ++ [an]) := by show _ = _; rw [runAns_append, han]; rfl
        have HFR : Hid (stErr l.base = 0 ∧ (∀ e' ∈ l.tail ++ [e], entErr e' = 0) ∧ l.base.at_ + (l.tail ++ [e]).length ≤ 50) := by
          have h1 := fold_right hpr.1
          refine ⟨h1.1, fun e' he' => ?_, by simp; omega⟩
          rcases List.mem_append.1 he' with h | h
          · exact h1.2.1 e' h
          · rw [List.mem_singleton.1 h]; exact hpr.2.1
        obtain ⟨w3, hw3⟩ : ∃ z, z = w2 := ⟨_, rfl⟩
        rw [← hw3] at HK2 HB2 HE2 HZ2 hk b0 b1 b2 b3 b4 b5 b6 b7 bl ⊢
        have HL3 : Hid (EntsAt w3 (.slice ta l.tail.length tc) l.tail) := HL.out.keep HK2.out
        have HSA : Hid (∀ W, Keeps w3 W → W.cell? ⟨w.heap.size, 0, none⟩ = some (.int .i64 l.base.at_) ∧ W.cell? ⟨w.heap.size, 1, none⟩ = some (.int .i64 l.base.clock) ∧ W.cell? ⟨w.heap.size, 2, none⟩ = some (.int .i64 l.base.v0) ∧ W.cell? ⟨w.heap.size, 3, none⟩ = some (.int .i64 l.base.v1) ∧ W.cell? ⟨w.heap.size, 4, none⟩ = some (.int .i64 l.base.v2) ∧ W.cell? ⟨w.heap.size, 5, none⟩ = some (.int .i64 l.base.v3) ∧ W.cell? ⟨w.heap.size, 6, none⟩ = some (.slice xa l.base.tab.length xc) ∧ W.cell? ⟨w.heap.size, 7, none⟩ = some (.slice ta l.tail.length tc) ∧ W.cell? ⟨w.heap.size + 1, 0, none⟩ = some (.int .i64 e.kind) ∧ W.cell? ⟨w.heap.size + 1, 1, none⟩ = some (.int .i64 e.time) ∧ W.cell? ⟨w.heap.size + 1, 2, none⟩ = some (.int .i64 e.client) ∧ W.cell? ⟨w.heap.size + 1, 3, none⟩ = some (.int .i64 e.seq) ∧ W.cell? ⟨w.heap.size + 1, 4, none⟩ = some (.int .i64 e.ack) ∧ W.cell? ⟨w.heap.size + 1, 5, none⟩ = some (.int .i64 e.ok) ∧ W.cell? ⟨w.heap.size + 1, 6, none⟩ = some (.int .i64 e.okey) ∧ W.cell? ⟨w.heap.size + 1, 7, none⟩ = some (.int .i64 e.oto) ∧ W.cell? ⟨w.heap.size + 1, 8, none⟩ = some (.int .i64 e.on)) := fun W hk => have B := HB2.out.keep hk; have E := HE2.out.keep hk; ⟨B.c0, B.c1, B.c2, B.c3, B.c4, B.c5, B.c6, B.c7, E.c0, E.c1, E.c2, E.c3, E.c4, E.c5, E.c6, E.c7, E.c8⟩
        clear hw3 han hpr
        go_wp2_with fail
        clear b0 b1 b2 b3 b4 b5 b6 b7 bl
        go_cut [9] (fun p wc => ∃ ga gc, p = .slice ga (l.tail.length + 1) gc ∧ (∀ W, But (w.heap.size + 2) wc W → EntsAt W (.slice ga (l.tail.length + 1) gc) (l.tail ++ [e])) ∧ Keeps w3 wc)
        case first =>
          obtain ⟨V0, hV0⟩ : ∃ z, z = w3.drew := ⟨_, rfl⟩
          have k0 : Keeps w3 V0 := by rw [hV0]; exact (Keeps.refl _).drew
          refine wp_region_held_drew (S := fun W => W.cell? ⟨w.heap.size, 0, none⟩ = some (.int .i64 l.base.at_) ∧ W.cell? ⟨w.heap.size, 1, none⟩ = some (.int .i64 l.base.clock) ∧ W.cell? ⟨w.heap.size, 2, none⟩ = some (.int .i64 l.base.v0) ∧ W.cell? ⟨w.heap.size, 3, none⟩ = some (.int .i64 l.base.v1) ∧ W.cell? ⟨w.heap.size, 4, none⟩ = some (.int .i64 l.base.v2) ∧ W.cell? ⟨w.heap.size, 5, none⟩ = some (.int .i64 l.base.v3) ∧ W.cell? ⟨w.heap.size, 6, none⟩ = some (.slice xa l.base.tab.length xc) ∧ W.cell? ⟨w.heap.size, 7, none⟩ = some (.slice ta l.tail.length tc) ∧ W.cell? ⟨w.heap.size + 1, 0, none⟩ = some (.int .i64 e.kind) ∧ W.cell? ⟨w.heap.size + 1, 1, none⟩ = some (.int .i64 e.time) ∧ W.cell? ⟨w.heap.size + 1, 2, none⟩ = some (.int .i64 e.client) ∧ W.cell? ⟨w.heap.size + 1, 3, none⟩ = some (.int .i64 e.seq) ∧ W.cell? ⟨w.heap.size + 1, 4, none⟩ = some (.int .i64 e.ack) ∧ W.cell? ⟨w.heap.size + 1, 5, none⟩ = some (.int .i64 e.ok) ∧ W.cell? ⟨w.heap.size + 1, 6, none⟩ = some (.int .i64 e.okey) ∧ W.cell? ⟨w.heap.size + 1, 7, none⟩ = some (.int .i64 e.oto) ∧ W.cell? ⟨w.heap.size + 1, 8, none⟩ = some (.int .i64 e.on)) (by kernel_rfl) (HSA.out _ (Keeps.refl _).drew) (fun hS => ?_)
          rw [← hV0] at hS ⊢
          clear hV0
          have q0 : Keeps V0 V0 := Keeps.refl _
          refine wpAnyH_take (i := 1) (v := .pointer (some ⟨w.heap.size, 7, none⟩)) rfl (by kernel_rfl) (by kernel_rfl) (by kernel_rfl) (fun _ _ _ h => h) (Or.inl ⟨by rfl, ?_⟩) hS ?_
          · intro w hS; go_simp
          refine wpAnyH_take (i := 2) (v := .slice ta l.tail.length tc) rfl (by kernel_rfl) (by kernel_rfl) (by kernel_rfl) (fun _ _ _ h => h) (Or.inl ⟨by rfl, ?_⟩) hS ?_
          · intro w hS; go_simp
          refine wpAnyH_take (i := 4) (v := entV e) rfl (by kernel_rfl) (by kernel_rfl) (by kernel_rfl) (fun _ _ _ h => h) (Or.inl ⟨by rfl, ?_⟩) hS ?_
          · intro w hS; go_simp
          refine wpAnyH_ready (rs := [0, 5]) (by kernel_rfl) (by simp) ?_
          refine AllReadyH.cons rfl (fun K hK => ?_) (AllReadyH.cons rfl (fun K hK => ?_) (AllReadyH.nil))
          · go_simp
            have hm1 := World.ownsRow_made (base := V0.heap.size) (e := 32) (size := 9) V0 #[] 0 q0.size (by unfold maxLen; omega) rfl
            have hb1 : Keeps V0 (V0.alloc (.cells #[] 32)) := (Keeps.refl _).alloc _
            have hz1 : (V0.alloc (.cells #[] 32)).heap.size = V0.heap.size + 1 := World.size_alloc _ _
            obtain ⟨V1, hV⟩ : ∃ z, z = V0.alloc (.cells #[] 32) := ⟨_, rfl⟩
            rw [← hV] at hm1 hb1 hz1 ⊢
            clear hV
            have q1 := q0.trans hb1
            refine hK.out _ _ (HSA.out _ (k0.trans q1)) (fun hS => ?_)
            clear hK K
            refine wpAnyH_ready (rs := [3, 5]) (by kernel_rfl) (by simp) ?_
            refine AllReadyH.cons rfl (fun K hK => ?_) (AllReadyH.cons rfl (fun K hK => ?_) (AllReadyH.nil))
            · obtain ⟨v2, V2, hr2, ho2, hg2⟩ := run_append_read V1 V0.heap.size 26 26 32 9 72 _ infoEnt Try.underlying26 rfl (by decide) _ 0 [] (hm1) (.slice ta l.tail.length tc) l.tail.length (entCells l.tail) (HL3.out.keep (k0.trans q1)) (entCells_one _) (by unfold maxLen; omega) (by omega) q1.size
              refine step_append_run rfl _ _ 26 rfl (by simp [Act.eval, Act.put]) (by simp [Act.eval, Act.put]) hr2 ?_
              have q2 : Keeps V0 V2 := keeps_grown q1 hg2 (fun g h => (World.ownsRow.lt (hm1) g h).1)
              rw [Nat.zero_add, List.nil_append] at ho2
              refine hK.out _ _ (HSA.out _ (k0.trans q2)) (fun hS => ?_)
              clear hK K
              refine wpAnyH_ready (rs := [5]) (by kernel_rfl) (by simp) ?_
              refine AllReadyH.cons rfl (fun K hK => ?_) (AllReadyH.nil)
              go_simp
              have hn3 : EntsAt (V2.alloc (.cells #[.int .i64 e.kind, .int .i64 e.time, .int .i64 e.client, .int .i64 e.seq, .int .i64 e.ack, .int .i64 e.ok, .int .i64 e.okey, .int .i64 e.oto, .int .i64 e.on] 32)) (.slice (some ⟨V2.heap.size, 0, none⟩) 1 1) [e] := EntsAt.new V2 [e] (by simp) 1
              have hb3 : Keeps V2 (V2.alloc (.cells #[.int .i64 e.kind, .int .i64 e.time, .int .i64 e.client, .int .i64 e.seq, .int .i64 e.ack, .int .i64 e.ok, .int .i64 e.okey, .int .i64 e.oto, .int .i64 e.on] 32)) := (Keeps.refl _).alloc _
              have hz3 : (V2.alloc (.cells #[.int .i64 e.kind, .int .i64 e.time, .int .i64 e.client, .int .i64 e.seq, .int .i64 e.ack, .int .i64 e.ok, .int .i64 e.okey, .int .i64 e.oto, .int .i64 e.on] 32)).heap.size = V2.heap.size + 1 := World.size_alloc _ _
              obtain ⟨V3, hV⟩ : ∃ z, z = V2.alloc (.cells #[.int .i64 e.kind, .int .i64 e.time, .int .i64 e.client, .int .i64 e.seq, .int .i64 e.ack, .int .i64 e.ok, .int .i64 e.okey, .int .i64 e.oto, .int .i64 e.on] 32) := ⟨_, rfl⟩
              rw [← hV] at hn3 hb3 hz3 ⊢
              clear hV
              have q3 := q2.trans hb3
              refine hK.out _ _ (HSA.out _ (k0.trans q3)) (fun hS => ?_)
              clear hK K
              refine wpAnyH_ready (rs := [6]) (by kernel_rfl) (by simp) ?_
              refine AllReadyH.cons rfl (fun K hK => ?_) (AllReadyH.nil)
              obtain ⟨v4, V4, hr4, ho4, hg4⟩ := run_append_read V3 V0.heap.size 26 26 32 9 72 _ infoEnt Try.underlying26 rfl (by decide) _ l.tail.length (entCells l.tail) (owns_keep ho2 hb3) _ 1 (entCells [e]) (hn3) (entCells_one _) (by unfold maxLen; omega) (by omega) q3.size
              refine step_append_run rfl _ _ 26 rfl (by simp [Act.eval, Act.put]) (by simp [Act.eval, Act.put]) hr4 ?_
              have q4 : Keeps V0 V4 := keeps_grown q3 hg4 (fun g h => (World.ownsRow.lt (owns_keep ho2 hb3) g h).1)
              obtain ⟨ga, gc, rfl, _⟩ := (RowAt.of_owns ho4).len
              refine hK.out _ _ (HSA.out _ (k0.trans q4)) (fun hS => ?_)
              clear hK K
              refine wpAnyH_take (i := 7) (v := .slice ga (l.tail.length + 1) gc) rfl (by kernel_rfl) (by kernel_rfl) (by kernel_rfl) (fun _ _ _ h => h) (Or.inl ⟨by rfl, ?_⟩) hS ?_
              · intro w hS; go_simp
              refine wpAnyH_done (by kernel_rfl) ?_ _
              go_wp2_with fail
              go_meet
              exact ⟨ga, gc, rfl, fun W hW => ents_snoc (owns_far ho4 (by have := HZ2.out.lt; have := k0.size; omega) hW), k0.trans q4⟩
            · go_simp
              have hn2 : EntsAt (V1.alloc (.cells #[.int .i64 e.kind, .int .i64 e.time, .int .i64 e.client, .int .i64 e.seq, .int .i64 e.ack, .int .i64 e.ok, .int .i64 e.okey, .int .i64 e.oto, .int .i64 e.on] 32)) (.slice (some ⟨V1.heap.size, 0, none⟩) 1 1) [e] := EntsAt.new V1 [e] (by simp) 1
              have hb2 : Keeps V1 (V1.alloc (.cells #[.int .i64 e.kind, .int .i64 e.time, .int .i64 e.client, .int .i64 e.seq, .int .i64 e.ack, .int .i64 e.ok, .int .i64 e.okey, .int .i64 e.oto, .int .i64 e.on] 32)) := (Keeps.refl _).alloc _
              have hz2 : (V1.alloc (.cells #[.int .i64 e.kind, .int .i64 e.time, .int .i64 e.client, .int .i64 e.seq, .int .i64 e.ack, .int .i64 e.ok, .int .i64 e.okey, .int .i64 e.oto, .int .i64 e.on] 32)).heap.size = V1.heap.size + 1 := World.size_alloc _ _
              obtain ⟨V2, hV⟩ : ∃ z, z = V1.alloc (.cells #[.int .i64 e.kind, .int .i64 e.time, .int .i64 e.client, .int .i64 e.seq, .int .i64 e.ack, .int .i64 e.ok, .int .i64 e.okey, .int .i64 e.oto, .int .i64 e.on] 32) := ⟨_, rfl⟩
              rw [← hV] at hn2 hb2 hz2 ⊢
              clear hV
              have q2 := q1.trans hb2
              refine hK.out _ _ (HSA.out _ (k0.trans q2)) (fun hS => ?_)
              clear hK K
              refine wpAnyH_ready (rs := [3]) (by kernel_rfl) (by simp) ?_
              refine AllReadyH.cons rfl (fun K hK => ?_) (AllReadyH.nil)
              obtain ⟨v3, V3, hr3, ho3, hg3⟩ := run_append_read V2 V0.heap.size 26 26 32 9 72 _ infoEnt Try.underlying26 rfl (by decide) _ 0 [] (owns_keep hm1 hb2) (.slice ta l.tail.length tc) l.tail.length (entCells l.tail) (HL3.out.keep (k0.trans q2)) (entCells_one _) (by unfold maxLen; omega) (by omega) q2.size
              refine step_append_run rfl _ _ 26 rfl (by simp [Act.eval, Act.put]) (by simp [Act.eval, Act.put]) hr3 ?_
              have q3 : Keeps V0 V3 := keeps_grown q2 hg3 (fun g h => (World.ownsRow.lt (owns_keep hm1 hb2) g h).1)
              rw [Nat.zero_add, List.nil_append] at ho3
              refine hK.out _ _ (HSA.out _ (k0.trans q3)) (fun hS => ?_)
              clear hK K
              refine wpAnyH_ready (rs := [6]) (by kernel_rfl) (by simp) ?_
              refine AllReadyH.cons rfl (fun K hK => ?_) (AllReadyH.nil)
              obtain ⟨v4, V4, hr4, ho4, hg4⟩ := run_append_read V3 V0.heap.size 26 26 32 9 72 _ infoEnt Try.underlying26 rfl (by decide) _ l.tail.length (entCells l.tail) (ho3) _ 1 (entCells [e]) (row_same hn2 (hg3.block _ (by omega) (by simp [Value.ownBlock]; omega))) (entCells_one _) (by unfold maxLen; omega) (by omega) q3.size
              refine step_append_run rfl _ _ 26 rfl (by simp [Act.eval, Act.put]) (by simp [Act.eval, Act.put]) hr4 ?_
              have q4 : Keeps V0 V4 := keeps_grown q3 hg4 (fun g h => (World.ownsRow.lt (ho3) g h).1)
              obtain ⟨ga, gc, rfl, _⟩ := (RowAt.of_owns ho4).len
              refine hK.out _ _ (HSA.out _ (k0.trans q4)) (fun hS => ?_)
              clear hK K
              refine wpAnyH_take (i := 7) (v := .slice ga (l.tail.length + 1) gc) rfl (by kernel_rfl) (by kernel_rfl) (by kernel_rfl) (fun _ _ _ h => h) (Or.inl ⟨by rfl, ?_⟩) hS ?_
              · intro w hS; go_simp
              refine wpAnyH_done (by kernel_rfl) ?_ _
              go_wp2_with fail
              go_meet
              exact ⟨ga, gc, rfl, fun W hW => ents_snoc (owns_far ho4 (by have := HZ2.out.lt; have := k0.size; omega) hW), k0.trans q4⟩
          · go_simp
            have hn1 : EntsAt (V0.alloc (.cells #[.int .i64 e.kind, .int .i64 e.time, .int .i64 e.client, .int .i64 e.seq, .int .i64 e.ack, .int .i64 e.ok, .int .i64 e.okey, .int .i64 e.oto, .int .i64 e.on] 32)) (.slice (some ⟨V0.heap.size, 0, none⟩) 1 1) [e] := EntsAt.new V0 [e] (by simp) 1
            have hb1 : Keeps V0 (V0.alloc (.cells #[.int .i64 e.kind, .int .i64 e.time, .int .i64 e.client, .int .i64 e.seq, .int .i64 e.ack, .int .i64 e.ok, .int .i64 e.okey, .int .i64 e.oto, .int .i64 e.on] 32)) := (Keeps.refl _).alloc _
            have hz1 : (V0.alloc (.cells #[.int .i64 e.kind, .int .i64 e.time, .int .i64 e.client, .int .i64 e.seq, .int .i64 e.ack, .int .i64 e.ok, .int .i64 e.okey, .int .i64 e.oto, .int .i64 e.on] 32)).heap.size = V0.heap.size + 1 := World.size_alloc _ _
            obtain ⟨V1, hV⟩ : ∃ z, z = V0.alloc (.cells #[.int .i64 e.kind, .int .i64 e.time, .int .i64 e.client, .int .i64 e.seq, .int .i64 e.ack, .int .i64 e.ok, .int .i64 e.okey, .int .i64 e.oto, .int .i64 e.on] 32) := ⟨_, rfl⟩
            rw [← hV] at hn1 hb1 hz1 ⊢
            clear hV
            have q1 := q0.trans hb1
            refine hK.out _ _ (HSA.out _ (k0.trans q1)) (fun hS => ?_)
            clear hK K
            refine wpAnyH_ready (rs := [0]) (by kernel_rfl) (by simp) ?_
            refine AllReadyH.cons rfl (fun K hK => ?_) (AllReadyH.nil)
            go_simp
            have hm2 := World.ownsRow_made (base := V0.heap.size) (e := 32) (size := 9) V1 #[] 0 q1.size (by unfold maxLen; omega) rfl
            have hb2 : Keeps V1 (V1.alloc (.cells #[] 32)) := (Keeps.refl _).alloc _
            have hz2 : (V1.alloc (.cells #[] 32)).heap.size = V1.heap.size + 1 := World.size_alloc _ _
            obtain ⟨V2, hV⟩ : ∃ z, z = V1.alloc (.cells #[] 32) := ⟨_, rfl⟩
            rw [← hV] at hm2 hb2 hz2 ⊢
            clear hV
            have q2 := q1.trans hb2
            refine hK.out _ _ (HSA.out _ (k0.trans q2)) (fun hS => ?_)
            clear hK K
            refine wpAnyH_ready (rs := [3]) (by kernel_rfl) (by simp) ?_
            refine AllReadyH.cons rfl (fun K hK => ?_) (AllReadyH.nil)
            obtain ⟨v3, V3, hr3, ho3, hg3⟩ := run_append_read V2 V0.heap.size 26 26 32 9 72 _ infoEnt Try.underlying26 rfl (by decide) _ 0 [] (hm2) (.slice ta l.tail.length tc) l.tail.length (entCells l.tail) (HL3.out.keep (k0.trans q2)) (entCells_one _) (by unfold maxLen; omega) (by omega) q2.size
            refine step_append_run rfl _ _ 26 rfl (by simp [Act.eval, Act.put]) (by simp [Act.eval, Act.put]) hr3 ?_
            have q3 : Keeps V0 V3 := keeps_grown q2 hg3 (fun g h => (World.ownsRow.lt (hm2) g h).1)
            rw [Nat.zero_add, List.nil_append] at ho3
            refine hK.out _ _ (HSA.out _ (k0.trans q3)) (fun hS => ?_)
            clear hK K
            refine wpAnyH_ready (rs := [6]) (by kernel_rfl) (by simp) ?_
            refine AllReadyH.cons rfl (fun K hK => ?_) (AllReadyH.nil)
            obtain ⟨v4, V4, hr4, ho4, hg4⟩ := run_append_read V3 V0.heap.size 26 26 32 9 72 _ infoEnt Try.underlying26 rfl (by decide) _ l.tail.length (entCells l.tail) (ho3) _ 1 (entCells [e]) (row_same (RowAt.keep hn1 hb2) (hg3.block _ (by omega) (by simp [Value.ownBlock]; omega))) (entCells_one _) (by unfold maxLen; omega) (by omega) q3.size
            refine step_append_run rfl _ _ 26 rfl (by simp [Act.eval, Act.put]) (by simp [Act.eval, Act.put]) hr4 ?_
            have q4 : Keeps V0 V4 := keeps_grown q3 hg4 (fun g h => (World.ownsRow.lt (ho3) g h).1)
            obtain ⟨ga, gc, rfl, _⟩ := (RowAt.of_owns ho4).len
            refine hK.out _ _ (HSA.out _ (k0.trans q4)) (fun hS => ?_)
            clear hK K
            refine wpAnyH_take (i := 7) (v := .slice ga (l.tail.length + 1) gc) rfl (by kernel_rfl) (by kernel_rfl) (by kernel_rfl) (fun _ _ _ h => h) (Or.inl ⟨by rfl, ?_⟩) hS ?_
            · intro w hS; go_simp
            refine wpAnyH_done (by kernel_rfl) ?_ _
            go_wp2_with fail
            go_meet
            exact ⟨ga, gc, rfl, fun W hW => ents_snoc (owns_far ho4 (by have := HZ2.out.lt; have := k0.size; omega) hW), k0.trans q4⟩
        case rest =>
          obtain ⟨ga, gc, rfl, hT4, hk34⟩ := hcut
          obtain ⟨w4, hw4⟩ : ∃ z, z = wc := ⟨_, rfl⟩
          rw [← hw4] at hT4 hk34 ⊢
          clear hw4
          have HK34 : Hid (Keeps w3 w4) := hk34
          have HT4 : Hid (EntsAt w4 (.slice ga (l.tail.length + 1) gc) (l.tail ++ [e])) := hT4 w4 (But.refl _ _)
          have HTB := (show Hid _ from hT4)
          have hB := HB2.out.keep hk34
          have b0 := hB.c0
          have b1 := hB.c1
          have b2 := hB.c2
          have b3 := hB.c3
          have b4 := hB.c4
          have b5 := hB.c5
          have b6 := hB.c6
          have b7 := hB.c7
          have bl := hB.lt
          clear hB hT4 hk34 HSA hk
          go_wp2_with fail
          refine (folded_c l.base (l.tail ++ [e]) _ _ w4 (HT.out.keep (HK2.out.trans HK34.out)) (by have := HT4.out; exact this) HFR.out.1 HFR.out.2.1 HFR.out.2.2).mono ?_
          rintro y w5 ⟨qa, qc, ra, rc, da, dc, HO, HA, HD, rfl, hb⟩
          have HA' := HA.out
          have HK45 : Hid (Keeps w4 w5) := hb
          clear hb HO HD b0 b1 b2 b3 b4 b5 b6 b7 bl
          simp only [List.length_append, List.length_cons, List.length_nil, Nat.zero_add] at HA' ⊢
          obtain ⟨g, hra, hgw, hcell⟩ : ∃ g, ra = some ⟨g, 0, none⟩ ∧ w4.heap.size ≤ g ∧ w5.cell? ⟨g, l.tail.length, none⟩ = some (.int .i64 an) := by
            rcases HA'.2 with ⟨h1, h2⟩ | ⟨g, cap, cur, h1, hg4, _⟩
            · omega
            · injection h1 with h1 _ h3
              subst h1 h3
              refine ⟨g, rfl, hg4, ?_⟩
              have := HA'.cells rfl l.tail.length (.int .i64 an) (by rw [HRA.out]; simp [intCells, List.getElem?_append_right, runAns_len])
              rw [Addr.add_lit, Nat.zero_add] at this
              exact this
          subst hra
          have HGW : Hid (w4.heap.size ≤ g) := hgw
          have HCL : Hid (w5.cell? ⟨g, l.tail.length, none⟩ = some (.int .i64 an)) := hcell
          generalize runSt l.base (l.tail ++ [e]) = r5 at *
          clear hcell HA' HA hgw
          go_wp2_with fail
          have k56 : Keeps w5 (w5.alloc (.cells #[.int .i64 r5.at_, .int .i64 r5.clock, .int .i64 r5.v0, .int .i64 r5.v1, .int .i64 r5.v2, .int .i64 r5.v3, .slice qa r5.tab.length qc] 25)) := (Keeps.refl _).alloc _
          obtain ⟨w6, hw6⟩ : ∃ z, z = w5.alloc (.cells #[.int .i64 r5.at_, .int .i64 r5.clock, .int .i64 r5.v0, .int .i64 r5.v1, .int .i64 r5.v2, .int .i64 r5.v3, .slice qa r5.tab.length qc] 25) := ⟨_, rfl⟩
          rw [← hw6] at k56 ⊢
          clear hw6
          have HK36 : Hid (Keeps w3 w6) := (HK34.out.trans HK45.out).trans k56
          have HK6 : Hid (Keeps w w6) := HK2.out.trans HK36.out
          have HCL6 : Hid (w6.cell? ⟨g, l.tail.length, none⟩ = some (.int .i64 an)) := cell_kept HCL.out k56
          have HT6 : Hid (EntsAt w6 (.slice ga (l.tail.length + 1) gc) (l.tail ++ [e])) := HT4.out.keep (HK45.out.trans k56)
          have HZ6 : Hid (LgBox (w.heap.size + 2) zeroLg (.slice none 0 0) (.slice none 0 0) w6) := HZ2.out.keep HK36.out
          have HB6 : Hid (LgBox w.heap.size l (.slice xa l.base.tab.length xc) (.slice ta l.tail.length tc) w6) := HB2.out.keep HK36.out
          have HZZ : Hid (w.heap.size + 2 < w6.heap.size) := HZ6.out.lt
          have HGB : Hid (g ≠ w.heap.size + 2) := by have h1 := HGW.out; have h2 := HK34.out.size; have h3 := HZ2.out.lt; show _ ≠ _; omega
          have HCO : Hid (∀ W, Keeps w6 W → Calls Try.prog 24 #[stV l.base (.slice xa l.base.tab.length xc)] W fun y w' => ∃ qa qc, Hid (OwnTab W.heap.size w' (.slice qa l.base.tab.length qc) l.base.tab) ∧ y = .returned (stV l.base (.slice qa l.base.tab.length qc)) ∧ Keeps W w') := by
            intro W hk
            refine (own_right _ W (HT.out.keep (HK6.out.trans hk)) HFR.out.1).mono ?_
            rintro y w' ⟨x', ho, rfl, hb⟩
            obtain ⟨qa, qc, rfl, _⟩ := ho.tab.len
            exact ⟨qa, qc, ho, rfl, hb⟩
          have HSB : Hid (∀ W, Keeps w6 W → W.cell? ⟨w.heap.size, 0, none⟩ = some (.int .i64 l.base.at_) ∧ W.cell? ⟨w.heap.size, 1, none⟩ = some (.int .i64 l.base.clock) ∧ W.cell? ⟨w.heap.size, 2, none⟩ = some (.int .i64 l.base.v0) ∧ W.cell? ⟨w.heap.size, 3, none⟩ = some (.int .i64 l.base.v1) ∧ W.cell? ⟨w.heap.size, 4, none⟩ = some (.int .i64 l.base.v2) ∧ W.cell? ⟨w.heap.size, 5, none⟩ = some (.int .i64 l.base.v3) ∧ W.cell? ⟨w.heap.size, 6, none⟩ = some (.slice xa l.base.tab.length xc) ∧ W.cell? ⟨w.heap.size, 7, none⟩ = some (.slice ta l.tail.length tc) ∧ W.cell? ⟨g, l.tail.length, none⟩ = some (.int .i64 an)) := fun W hk => have B := HB6.out.keep hk; ⟨B.c0, B.c1, B.c2, B.c3, B.c4, B.c5, B.c6, B.c7, cell_kept HCL6.out hk⟩
          have HSC : Hid (∀ W, But (w.heap.size + 2) w6 W → W.cell? ⟨w.heap.size, 0, none⟩ = some (.int .i64 l.base.at_) ∧ W.cell? ⟨w.heap.size, 1, none⟩ = some (.int .i64 l.base.clock) ∧ W.cell? ⟨w.heap.size, 2, none⟩ = some (.int .i64 l.base.v0) ∧ W.cell? ⟨w.heap.size, 3, none⟩ = some (.int .i64 l.base.v1) ∧ W.cell? ⟨w.heap.size, 4, none⟩ = some (.int .i64 l.base.v2) ∧ W.cell? ⟨w.heap.size, 5, none⟩ = some (.int .i64 l.base.v3) ∧ W.cell? ⟨w.heap.size, 6, none⟩ = some (.slice xa l.base.tab.length xc) ∧ W.cell? ⟨w.heap.size, 7, none⟩ = some (.slice ta l.tail.length tc) ∧ W.cell? ⟨g, l.tail.length, none⟩ = some (.int .i64 an)) := fun W hk => have B := HB6.out.other hk (by omega); ⟨B.c0, B.c1, B.c2, B.c3, B.c4, B.c5, B.c6, B.c7, hk.at HCL6.out HGB.out⟩
          have HT5 : Hid (∀ W, But (w.heap.size + 2) w6 W → EntsAt W (.slice ga (l.tail.length + 1) gc) (l.tail ++ [e])) := fun W hW => HTB.out W ((But.of (HK45.out.trans k56)).trans hW)
          have hwr : IntKind.i64.wrap (l.tail.length : Int) = l.tail.length := by simp [IntKind.wrap_i64, wrap64]; omega
          have HZ5 := HZ6
          have HK5 := HK6
          clear HZ6 HK6 k56
          obtain ⟨V0, hV0⟩ : ∃ z, z = w6.drew := ⟨_, rfl⟩
          have k0 : Keeps w6 V0 := by rw [hV0]; exact (Keeps.refl _).drew
          refine wp_region_held_drew (S := fun W => W.cell? ⟨w.heap.size, 0, none⟩ = some (.int .i64 l.base.at_) ∧ W.cell? ⟨w.heap.size, 1, none⟩ = some (.int .i64 l.base.clock) ∧ W.cell? ⟨w.heap.size, 2, none⟩ = some (.int .i64 l.base.v0) ∧ W.cell? ⟨w.heap.size, 3, none⟩ = some (.int .i64 l.base.v1) ∧ W.cell? ⟨w.heap.size, 4, none⟩ = some (.int .i64 l.base.v2) ∧ W.cell? ⟨w.heap.size, 5, none⟩ = some (.int .i64 l.base.v3) ∧ W.cell? ⟨w.heap.size, 6, none⟩ = some (.slice xa l.base.tab.length xc) ∧ W.cell? ⟨w.heap.size, 7, none⟩ = some (.slice ta l.tail.length tc) ∧ W.cell? ⟨g, l.tail.length, none⟩ = some (.int .i64 an)) (by kernel_rfl) (HSB.out _ (Keeps.refl _).drew) (fun hS => ?_)
          rw [← hV0] at hS ⊢
          clear hV0
          refine wpAnyH_take (i := 0) (v := .pointer (some ⟨w.heap.size, 0, none⟩)) rfl (by kernel_rfl) (by kernel_rfl) (by kernel_rfl) (fun _ _ _ h => h) (Or.inl ⟨by rfl, ?_⟩) hS ?_
          · intro w hS; go_simp
          refine wpAnyH_take (i := 1) (v := stV l.base (.slice xa l.base.tab.length xc)) rfl (by kernel_rfl) (by kernel_rfl) (by kernel_rfl) (fun _ _ _ h => h) (Or.inl ⟨by rfl, ?_⟩) hS ?_
          · intro w hS; go_simp
          refine wpAnyH_take (i := 3) (v := .slice ga (l.tail.length + 1) gc) rfl (by kernel_rfl) (by kernel_rfl) (by kernel_rfl) (fun _ _ _ h => h) (Or.inl ⟨by rfl, ?_⟩) hS ?_
          · intro w hS; go_simp
          refine wpAnyH_take (i := 5) (v := .slice (some ⟨g, 0, none⟩) (l.tail.length + 1) rc) rfl (by kernel_rfl) (by kernel_rfl) (by kernel_rfl) (fun _ _ _ h => h) (Or.inl ⟨by rfl, ?_⟩) hS ?_
          · intro w hS; go_simp
          refine wpAnyH_take (i := 6) (v := .slice (some ⟨g, 0, none⟩) (l.tail.length + 1) rc) rfl (by kernel_rfl) (by kernel_rfl) (by kernel_rfl) (fun _ _ _ h => h) (Or.inl ⟨by rfl, ?_⟩) hS ?_
          · intro w hS; go_simp
          refine wpAnyH_take (i := 7) (v := .int .i64 (l.tail.length + 1)) rfl (by kernel_rfl) (by kernel_rfl) (by kernel_rfl) (fun _ _ _ h => h) (Or.inl ⟨by rfl, ?_⟩) hS ?_
          · intro w hS; go_simp
          refine wpAnyH_take (i := 8) (v := .int .i64 l.tail.length) rfl (by kernel_rfl) (by kernel_rfl) (by kernel_rfl) (fun _ _ _ h => h) (Or.inl ⟨by rfl, ?_⟩) hS ?_
          · intro w hS
            go_simp
            try exact hwr
          refine wpAnyH_take (i := 9) (v := .pointer (some ⟨g, l.tail.length, none⟩)) rfl (by kernel_rfl) (by kernel_rfl) (by kernel_rfl) (fun _ _ _ h => h) (Or.inl ⟨by rfl, ?_⟩) hS ?_
          · intro w hS
            go_simp
            try (intro hcon; omega)
          refine wpAnyH_take (i := 10) (v := .int .i64 an) rfl (by kernel_rfl) (by kernel_rfl) (by kernel_rfl) (fun _ _ _ h => h) (Or.inl ⟨by rfl, ?_⟩) hS ?_
          · intro w hS; go_simp
          refine wpAnyH_ready (rs := [2]) (by kernel_rfl) (by simp) ?_
          refine AllReadyH.cons rfl (fun K hK => ?_) (AllReadyH.nil)
          go_simp
          refine (HCO.out V0 k0).mono ?_
          rintro y V1 ⟨qa, qc, HO1, rfl, hb⟩
          have k1 := k0.trans hb
          clear hb
          go_simp
          refine hK.out _ _ (HSB.out _ k1) (fun hS => ?_)
          clear hK K
          refine wpAnyH_take (i := 4) (v := .agg #[.int .i64 l.base.at_, .int .i64 l.base.clock, .int .i64 l.base.v0, .int .i64 l.base.v1, .int .i64 l.base.v2, .int .i64 l.base.v3, .slice qa l.base.tab.length qc, .slice ga (l.tail.length + 1) gc]) rfl (by kernel_rfl) (by kernel_rfl) (by kernel_rfl) (fun _ _ _ h => h) (Or.inl ⟨by rfl, ?_⟩) hS ?_
          · intro w hS; go_simp
          refine wpAnyH_ready (rs := [11]) (by kernel_rfl) (by simp) ?_
          refine AllReadyH.cons rfl (fun K hK => ?_) (AllReadyH.nil)
          have z0 := (HZ5.out.keep k1).c0
          have z1 := (HZ5.out.keep k1).c1
          have z2 := (HZ5.out.keep k1).c2
          have z3 := (HZ5.out.keep k1).c3
          have z4 := (HZ5.out.keep k1).c4
          have z5 := (HZ5.out.keep k1).c5
          have z6 := (HZ5.out.keep k1).c6
          have z7 := (HZ5.out.keep k1).c7
          have zf := (HZ5.out.keep k1).fz
          have zl := (HZ5.out.keep k1).lt
          go_simp
          have BP := (HZ5.out.keep k1).put ⟨l.base, l.tail ++ [e]⟩ (.slice qa l.base.tab.length qc) (.slice ga (l.tail.length + 1) gc)
          have BT := But.lgputs (w.heap.size + 2) V1 ⟨l.base, l.tail ++ [e]⟩ (.slice qa l.base.tab.length qc) (.slice ga (l.tail.length + 1) gc)
          obtain ⟨WF, hWF⟩ : ∃ z, z = ((((((((V1.setCell ⟨w.heap.size + 2, 0, none⟩ (.int .i64 l.base.at_)).setCell ⟨w.heap.size + 2, 1, none⟩ (.int .i64 l.base.clock)).setCell ⟨w.heap.size + 2, 2, none⟩ (.int .i64 l.base.v0)).setCell ⟨w.heap.size + 2, 3, none⟩ (.int .i64 l.base.v1)).setCell ⟨w.heap.size + 2, 4, none⟩ (.int .i64 l.base.v2)).setCell ⟨w.heap.size + 2, 5, none⟩ (.int .i64 l.base.v3)).setCell ⟨w.heap.size + 2, 6, none⟩ (.slice qa l.base.tab.length qc)).setCell ⟨w.heap.size + 2, 7, none⟩ (.slice ga (l.tail.length + 1) gc)) := ⟨_, rfl⟩
          rw [← hWF] at BP BT ⊢
          clear hWF z0 z1 z2 z3 z4 z5 z6 z7 zf zl
          have hzz := HZZ.out
          refine hK.out _ _ (HSC.out _ ((But.of k1).trans BT)) (fun hS => ?_)
          clear hK K
          refine wpAnyH_take (i := 12) (v := .int .i64 an) rfl (by kernel_rfl) (by kernel_rfl) (by kernel_rfl) (fun _ _ _ h => h) (Or.inl ⟨by rfl, ?_⟩) hS ?_
          · intro w hS; go_simp
          refine wpAnyH_take (i := 13) (v := .int .i64 0) rfl (by kernel_rfl) (by kernel_rfl) (by kernel_rfl) (fun _ _ _ h => h) (Or.inl ⟨by rfl, ?_⟩) hS ?_
          · intro w hS; go_simp
          refine wpAnyH_done (by kernel_rfl) ?_ _
          go_wp2_with fail
          have c0 := BP.c0
          have c1 := BP.c1
          have c2 := BP.c2
          have c3 := BP.c3
          have c4 := BP.c4
          have c5 := BP.c5
          have c6 := BP.c6
          have c7 := BP.c7
          refine bodyPost_ret (v := .tuple #[lgV ⟨l.base, l.tail ++ [e]⟩ (.slice qa l.base.tab.length qc) (.slice ga (l.tail.length + 1) gc), .int .i64 an, .int .i64 0]) ?_ rfl ?_
          · simp only [results, Try.results7, go_sem, c0, c1, c2, c3, c4, c5, c6, c7]
            simp [go_sem, c0, c1, c2, c3, c4, c5, c6, c7]
          · rw [HPE.out, HPL.out, HPA.out]
            have hk5 := HK5.out.size
            refine ⟨qa, qc, ga, gc, (HO1.out.but (by have := k0.size; omega) BT).base (by have := k0.size; omega), ?_, ?_, But.to (HK5.out.trans k1) (by omega) BT⟩
            · have := HT5.out _ ((But.of k1).trans BT)
              simpa using this
            · simp
end Go.Proofs.Yteabfjpajgakiae
