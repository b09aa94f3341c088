/- GrQp, GrPp. -/
import Derived.Test.YteabfjpajgakiagGreatJ20
import Derived.Test.YteabfjpajgakiagGreatJ22
import Derived.Test.YteabfjpajgakiagGreatJ23
/- PackPut of the reference: its lists are its own. -/
set_option linter.unusedSimpArgs false
set_option linter.unusedVariables false
set_option maxRecDepth 10000
namespace Go.Proofs.YteabfjpajgakiagGreat
open Go.RowKit

set_option maxHeartbeats 8000000 in
theorem put_own (l : Lg) (e : Ent) (x : Value) (ta : Option Addr) (tc : Nat) (w : World) (hT : TabAt w x l.base.tab) (hL : EntsAt w (.slice ta l.tail.length tc) l.tail) :
    Calls Tryz.prog 31 #[lgV l x (.slice ta l.tail.length tc), entV e] w fun y w' => ∃ qa qc ea ec, OwnTab w.heap.size w' (.slice qa (putLg l e).base.tab.length qc) (putLg l e).base.tab ∧ w'.ownsRow w.heap.size 35 9 (.slice ea (putLg l e).tail.length ec) (putLg l e).tail.length (entCells (putLg l e).tail) ∧
      y = .returned (.tuple #[lgV (putLg l e) (.slice qa (putLg l e).base.tab.length qc) (.slice ea (putLg l e).tail.length ec), .int .i64 (putAns l e), .int .i64 (putLgErr l e)]) ∧ Keeps w w' := by
  obtain ⟨xa, xc, rfl, _⟩ := hT.len
  have HT : Hid (TabAt w (.slice xa l.base.tab.length xc) l.base.tab) := hT
  have HL : Hid (EntsAt w (.slice ta l.tail.length tc) l.tail) := hL
  have hlen := hL.2.1
  unfold maxLen at hlen
  clear hT hL
  have HE : Hid (putLgErr l e = if lgErr l == 0 then (if entErr e == 0 then (if l.base.at_ + l.tail.length == 50 then 2 else 0) else entErr e) else lgErr l) := rfl
  have HPZ : Hid ((putLgErr l e == 0) = false → putLg l e = zeroLg ∧ putAns l e = 0) := fun h => ⟨by unfold putLg; rw [h]; rfl, by unfold putAns; rw [h]; rfl⟩
  have HPN : Hid (putLgErr l e = 0 → putLg l e = ⟨l.base, l.tail ++ [e]⟩ ∧ putAns l e = oneAns (runSt l.base l.tail) e) := fun h => ⟨by unfold putLg; rw [h]; rfl, by unfold putAns; rw [h]; rfl⟩
  have HEN : Hid (∀ W : World, W.ownsRow w.heap.size 35 9 (.slice none 0 0) 0 []) := fun W => World.ownsRow_nil _ _ _ _
  have HBD : Hid (lgErr l = 0 → (0 ≤ l.base.at_ ∧ l.base.at_ ≤ 50) ∧ l.tail.length ≤ 50) := fun h => by
    have h1 := fold_right h
    have h2 := (stErr_bounds h1.1).1
    exact ⟨h2, by omega⟩
  go_enter Tryz.func31, Tryz.ntmps31
  go_wp2_with fail
  obtain ⟨W1, hW1⟩ : ∃ W1, W1 = ((w.alloc (.cells #[.int .i64 l.base.at_, .int .i64 l.base.clock, .int .i64 l.base.v0, .int .i64 l.base.v1, .int .i64 l.base.v2, .int .i64 l.base.v3, .slice xa l.base.tab.length xc, .slice ta l.tail.length tc] 28)).alloc (.cells #[.int .i64 e.kind, .int .i64 e.time, .int .i64 e.client, .int .i64 e.seq, .int .i64 e.ack, .int .i64 e.ok, .int .i64 e.okey, .int .i64 e.oto, .int .i64 e.on] 35)).alloc (.cells #[.int .i64 0, .int .i64 0, .int .i64 0, .int .i64 0, .int .i64 0, .int .i64 0, .slice none 0 0, .slice none 0 0] 28) := ⟨_, rfl⟩
  have k1 : Keeps w W1 := by rw [hW1]; exact (((Keeps.refl _).alloc _).alloc _).alloc _
  have B1 : LgBox w.heap.size l (.slice xa l.base.tab.length xc) (.slice ta l.tail.length tc) W1 := by rw [hW1]; exact (LgBox.new w l _ _ rfl rfl 28).keep (((Keeps.refl _).alloc _).alloc _)
  have E1 : EntBox (w.heap.size + 1) e W1 := by
    rw [hW1]
    have := (EntBox.new (w.alloc (.cells #[.int .i64 l.base.at_, .int .i64 l.base.clock, .int .i64 l.base.v0, .int .i64 l.base.v1, .int .i64 l.base.v2, .int .i64 l.base.v3, .slice xa l.base.tab.length xc, .slice ta l.tail.length tc] 28)) e 35).keep ((Keeps.refl _).alloc (.cells #[.int .i64 0, .int .i64 0, .int .i64 0, .int .i64 0, .int .i64 0, .int .i64 0, .slice none 0 0, .slice none 0 0] 28))
    simp only [World.size_alloc] at this
    exact this
  have Z1 : LgBox (w.heap.size + 2) zeroLg (.slice none 0 0) (.slice none 0 0) W1 := by
    rw [hW1]
    have := LgBox.new ((w.alloc (.cells #[.int .i64 l.base.at_, .int .i64 l.base.clock, .int .i64 l.base.v0, .int .i64 l.base.v1, .int .i64 l.base.v2, .int .i64 l.base.v3, .slice xa l.base.tab.length xc, .slice ta l.tail.length tc] 28)).alloc (.cells #[.int .i64 e.kind, .int .i64 e.time, .int .i64 e.client, .int .i64 e.seq, .int .i64 e.ack, .int .i64 e.ok, .int .i64 e.okey, .int .i64 e.oto, .int .i64 e.on] 35)) zeroLg (.slice none 0 0) (.slice none 0 0) rfl rfl 28
    simp only [World.size_alloc] at this
    exact this
  rw [← hW1]
  clear hW1
  refine (log_error l _ _ W1 (HT.out.keep k1) (HL.out.keep k1)).mono ?_
  rintro y w1 ⟨rfl, hb⟩
  have HK1 : Hid (Keeps w w1) := k1.trans hb
  have hk := HK1.out
  have HB1 : Hid (LgBox w.heap.size l (.slice xa l.base.tab.length xc) (.slice ta l.tail.length tc) w1) := B1.keep hb
  have HE1 : Hid (EntBox (w.heap.size + 1) e w1) := E1.keep hb
  have HZ1 : Hid (LgBox (w.heap.size + 2) zeroLg (.slice none 0 0) (.slice none 0 0) w1) := Z1.keep hb
  clear k1 B1 E1 Z1 hb
  clear W1
  cases q1 : (lgErr l == 0) with
  | false =>
    have q1' : (lgErr l != 0) = true := by simp [bne, q1]
    have HE2 : Hid (putLgErr l e = (lgErr l)) := by show _ = _; rw [HE.out, q1]; rfl
    have H1 := (show Hid _ from HPZ.out (by rw [HE2.out]; exact q1))
    have z0 := HZ1.out.c0
    have z1 := HZ1.out.c1
    have z2 := HZ1.out.c2
    have z3 := HZ1.out.c3
    have z4 := HZ1.out.c4
    have z5 := HZ1.out.c5
    have z6 := HZ1.out.c6
    have z7 := HZ1.out.c7
    have zf := HZ1.out.fz
    have zl := HZ1.out.lt
    go_wp2_with fail
    refine bodyPost_ret (v := .tuple #[lgV zeroLg (.slice none 0 0) (.slice none 0 0), .int .i64 0, .int .i64 (lgErr l)]) ?_ rfl ?_
    · simp [results, Tryz.results31, go_sem, zeroLg, zeroSt, z0, z1, z2, z3, z4, z5, z6, z7]
    · rw [HE2.out, H1.out.1, H1.out.2]
      refine ⟨none, 0, none, 0, OwnTab.nil _ _, HEN.out _, rfl, ?_⟩
      repeat refine Keeps.set ?_ (by simp <;> omega) _
      exact hk
  | true =>
    have q1' : (lgErr l != 0) = false := by simp [bne, q1]
    have q10 : lgErr l = 0 := by simpa using q1
    obtain ⟨⟨ba0, ba1⟩, hl50⟩ := HBD.out q10
    have e0 := HE1.out.c0
    have e1 := HE1.out.c1
    have e2 := HE1.out.c2
    have e3 := HE1.out.c3
    have e4 := HE1.out.c4
    have e5 := HE1.out.c5
    have e6 := HE1.out.c6
    have e7 := HE1.out.c7
    have e8 := HE1.out.c8
    have el := HE1.out.lt
    go_wp2_with fail
    refine (entry_error e w1).mono ?_
    rintro y w2 ⟨rfl, hb⟩
    have HK2 : Hid (Keeps w w2) := HK1.out.trans hb
    clear hk
    have hk := HK2.out
    have HB2 : Hid (LgBox w.heap.size l (.slice xa l.base.tab.length xc) (.slice ta l.tail.length tc) w2) := HB1.out.keep hb
    have HE2 : Hid (EntBox (w.heap.size + 1) e w2) := HE1.out.keep hb
    have HZ2 : Hid (LgBox (w.heap.size + 2) zeroLg (.slice none 0 0) (.slice none 0 0) w2) := HZ1.out.keep hb
    clear hb HB1 HE1 HZ1 HK1 e0 e1 e2 e3 e4 e5 e6 e7 e8 el
    clear w1
    cases q2 : (entErr e == 0) with
    | false =>
      have q2' : (entErr e != 0) = true := by simp [bne, q2]
      have HE2 : Hid (putLgErr l e = (entErr e)) := by show _ = _; rw [HE.out, q1, q2]; rfl
      have H1 := (show Hid _ from HPZ.out (by rw [HE2.out]; exact q2))
      have z0 := HZ2.out.c0
      have z1 := HZ2.out.c1
      have z2 := HZ2.out.c2
      have z3 := HZ2.out.c3
      have z4 := HZ2.out.c4
      have z5 := HZ2.out.c5
      have z6 := HZ2.out.c6
      have z7 := HZ2.out.c7
      have zf := HZ2.out.fz
      have zl := HZ2.out.lt
      go_wp2_with fail
      refine bodyPost_ret (v := .tuple #[lgV zeroLg (.slice none 0 0) (.slice none 0 0), .int .i64 0, .int .i64 (entErr e)]) ?_ rfl ?_
      · simp [results, Tryz.results31, go_sem, zeroLg, zeroSt, z0, z1, z2, z3, z4, z5, z6, z7]
      · rw [HE2.out, H1.out.1, H1.out.2]
        refine ⟨none, 0, none, 0, OwnTab.nil _ _, HEN.out _, rfl, ?_⟩
        repeat refine Keeps.set ?_ (by simp <;> omega) _
        exact hk
    | true =>
      have q2' : (entErr e != 0) = false := by simp [bne, q2]
      have b0 := HB2.out.c0
      have b1 := HB2.out.c1
      have b2 := HB2.out.c2
      have b3 := HB2.out.c3
      have b4 := HB2.out.c4
      have b5 := HB2.out.c5
      have b6 := HB2.out.c6
      have b7 := HB2.out.c7
      have bl := HB2.out.lt
      cases q3 : (l.base.at_ + l.tail.length == 50) with
      | true =>
        have HE2 : Hid (putLgErr l e = 2) := by show _ = _; rw [HE.out, q1, q2, q3]; rfl
        have H1 := (show Hid _ from HPZ.out (by rw [HE2.out]; rfl))
        have z0 := HZ2.out.c0
        have z1 := HZ2.out.c1
        have z2 := HZ2.out.c2
        have z3 := HZ2.out.c3
        have z4 := HZ2.out.c4
        have z5 := HZ2.out.c5
        have z6 := HZ2.out.c6
        have z7 := HZ2.out.c7
        have zf := HZ2.out.fz
        have zl := HZ2.out.lt
        go_wp2_with fail
        refine bodyPost_ret (v := .tuple #[lgV zeroLg (.slice none 0 0) (.slice none 0 0), .int .i64 0, .int .i64 2]) ?_ rfl ?_
        · simp [results, Tryz.results31, go_sem, zeroLg, zeroSt, z0, z1, z2, z3, z4, z5, z6, z7]
        · rw [HE2.out, H1.out.1, H1.out.2]
          refine ⟨none, 0, none, 0, OwnTab.nil _ _, HEN.out _, rfl, ?_⟩
          repeat refine Keeps.set ?_ (by simp <;> omega) _
          exact hk
      | false =>
        have HPE : Hid (putLgErr l e = 0) := by show _ = _; rw [HE.out, q1, q2, q3]; rfl
        have hpr := putLg_right HPE.out
        have HPL : Hid (putLg l e = ⟨l.base, l.tail ++ [e]⟩) := (HPN.out HPE.out).1
        obtain ⟨an, han⟩ : ∃ an, an = oneAns (runSt l.base l.tail) e := ⟨_, rfl⟩
        have HPA : Hid (putAns l e = an) := by show _ = _; rw [(HPN.out HPE.out).2, han]
        have HRA : Hid (runAns l.base (l.tail ++ [e]) = runAns l.base l.tail ++ [an]) := by show _ = _; rw [runAns_append, han]; rfl
        have HFR : Hid (stErr l.base = 0 ∧ (∀ e' ∈ l.tail ++ [e], entErr e' = 0) ∧ l.base.at_ + (l.tail ++ [e]).length ≤ 50) := by
          have h1 := fold_right hpr.1
          refine ⟨h1.1, fun e' he' => ?_, by simp; omega⟩
          rcases List.mem_append.1 he' with h | h
          · exact h1.2.1 e' h
          · rw [List.mem_singleton.1 h]; exact hpr.2.1
        obtain ⟨w3, hw3⟩ : ∃ z, z = w2 := ⟨_, rfl⟩
        rw [← hw3] at HK2 HB2 HE2 HZ2 hk b0 b1 b2 b3 b4 b5 b6 b7 bl ⊢
        have HL3 : Hid (EntsAt w3 (.slice ta l.tail.length tc) l.tail) := HL.out.keep HK2.out
        have HSA : Hid (∀ W, Keeps w3 W → W.cell? ⟨w.heap.size, 0, none⟩ = some (.int .i64 l.base.at_) ∧ W.cell? ⟨w.heap.size, 1, none⟩ = some (.int .i64 l.base.clock) ∧ W.cell? ⟨w.heap.size, 2, none⟩ = some (.int .i64 l.base.v0) ∧ W.cell? ⟨w.heap.size, 3, none⟩ = some (.int .i64 l.base.v1) ∧ W.cell? ⟨w.heap.size, 4, none⟩ = some (.int .i64 l.base.v2) ∧ W.cell? ⟨w.heap.size, 5, none⟩ = some (.int .i64 l.base.v3) ∧ W.cell? ⟨w.heap.size, 6, none⟩ = some (.slice xa l.base.tab.length xc) ∧ W.cell? ⟨w.heap.size, 7, none⟩ = some (.slice ta l.tail.length tc) ∧ W.cell? ⟨w.heap.size + 1, 0, none⟩ = some (.int .i64 e.kind) ∧ W.cell? ⟨w.heap.size + 1, 1, none⟩ = some (.int .i64 e.time) ∧ W.cell? ⟨w.heap.size + 1, 2, none⟩ = some (.int .i64 e.client) ∧ W.cell? ⟨w.heap.size + 1, 3, none⟩ = some (.int .i64 e.seq) ∧ W.cell? ⟨w.heap.size + 1, 4, none⟩ = some (.int .i64 e.ack) ∧ W.cell? ⟨w.heap.size + 1, 5, none⟩ = some (.int .i64 e.ok) ∧ W.cell? ⟨w.heap.size + 1, 6, none⟩ = some (.int .i64 e.okey) ∧ W.cell? ⟨w.heap.size + 1, 7, none⟩ = some (.int .i64 e.oto) ∧ W.cell? ⟨w.heap.size + 1, 8, none⟩ = some (.int .i64 e.on)) := fun W hk => have B := HB2.out.keep hk; have E := HE2.out.keep hk; ⟨B.c0, B.c1, B.c2, B.c3, B.c4, B.c5, B.c6, B.c7, E.c0, E.c1, E.c2, E.c3, E.c4, E.c5, E.c6, E.c7, E.c8⟩
        clear hw3 han hpr
        go_wp2_with fail
        clear b0 b1 b2 b3 b4 b5 b6 b7 bl
        go_cut [9] (fun p wc => ∃ ga gc, p = .slice ga (l.tail.length + 1) gc ∧ (∀ W, But (w.heap.size + 2) wc W → W.ownsRow w.heap.size 35 9 (.slice ga (l.tail.length + 1) gc) (l.tail.length + 1) (entCells l.tail ++ entCells [e])) ∧ Keeps w3 wc)
        case first =>
          obtain ⟨V0, hV0⟩ : ∃ z, z = w3.drew := ⟨_, rfl⟩
          have k0 : Keeps w3 V0 := by rw [hV0]; exact (Keeps.refl _).drew
          refine wp_region_held_drew (S := fun W => W.cell? ⟨w.heap.size, 0, none⟩ = some (.int .i64 l.base.at_) ∧ W.cell? ⟨w.heap.size, 1, none⟩ = some (.int .i64 l.base.clock) ∧ W.cell? ⟨w.heap.size, 2, none⟩ = some (.int .i64 l.base.v0) ∧ W.cell? ⟨w.heap.size, 3, none⟩ = some (.int .i64 l.base.v1) ∧ W.cell? ⟨w.heap.size, 4, none⟩ = some (.int .i64 l.base.v2) ∧ W.cell? ⟨w.heap.size, 5, none⟩ = some (.int .i64 l.base.v3) ∧ W.cell? ⟨w.heap.size, 6, none⟩ = some (.slice xa l.base.tab.length xc) ∧ W.cell? ⟨w.heap.size, 7, none⟩ = some (.slice ta l.tail.length tc) ∧ W.cell? ⟨w.heap.size + 1, 0, none⟩ = some (.int .i64 e.kind) ∧ W.cell? ⟨w.heap.size + 1, 1, none⟩ = some (.int .i64 e.time) ∧ W.cell? ⟨w.heap.size + 1, 2, none⟩ = some (.int .i64 e.client) ∧ W.cell? ⟨w.heap.size + 1, 3, none⟩ = some (.int .i64 e.seq) ∧ W.cell? ⟨w.heap.size + 1, 4, none⟩ = some (.int .i64 e.ack) ∧ W.cell? ⟨w.heap.size + 1, 5, none⟩ = some (.int .i64 e.ok) ∧ W.cell? ⟨w.heap.size + 1, 6, none⟩ = some (.int .i64 e.okey) ∧ W.cell? ⟨w.heap.size + 1, 7, none⟩ = some (.int .i64 e.oto) ∧ W.cell? ⟨w.heap.size + 1, 8, none⟩ = some (.int .i64 e.on)) (by kernel_rfl) (HSA.out _ (Keeps.refl _).drew) (fun hS => ?_)
          rw [← hV0] at hS ⊢
          clear hV0
          have q0 : Keeps V0 V0 := Keeps.refl _
          refine wpAnyH_take (i := 1) (v := .pointer (some ⟨w.heap.size, 7, none⟩)) rfl (by kernel_rfl) (by kernel_rfl) (by kernel_rfl) (fun _ _ _ h => h) (Or.inl ⟨by rfl, ?_⟩) hS ?_
          · intro w hS; go_simp
          refine wpAnyH_take (i := 2) (v := .slice ta l.tail.length tc) rfl (by kernel_rfl) (by kernel_rfl) (by kernel_rfl) (fun _ _ _ h => h) (Or.inl ⟨by rfl, ?_⟩) hS ?_
          · intro w hS; go_simp
          refine wpAnyH_take (i := 4) (v := entV e) rfl (by kernel_rfl) (by kernel_rfl) (by kernel_rfl) (fun _ _ _ h => h) (Or.inl ⟨by rfl, ?_⟩) hS ?_
          · intro w hS; go_simp
          refine wpAnyH_ready (rs := [0, 5]) (by kernel_rfl) (by simp) ?_
          refine AllReadyH.cons rfl (fun K hK => ?_) (AllReadyH.cons rfl (fun K hK => ?_) (AllReadyH.nil))
          · go_simp
            have hm1 := World.ownsRow_made (base := V0.heap.size) (e := 35) (size := 9) V0 #[] 0 q0.size (by unfold maxLen; omega) rfl
            have hb1 : Keeps V0 (V0.alloc (.cells #[] 35)) := (Keeps.refl _).alloc _
            have hz1 : (V0.alloc (.cells #[] 35)).heap.size = V0.heap.size + 1 := World.size_alloc _ _
            obtain ⟨V1, hV⟩ : ∃ z, z = V0.alloc (.cells #[] 35) := ⟨_, rfl⟩
            rw [← hV] at hm1 hb1 hz1 ⊢
            clear hV
            have q1 := q0.trans hb1
            refine hK.out _ _ (HSA.out _ (k0.trans q1)) (fun hS => ?_)
            clear hK K
            refine wpAnyH_ready (rs := [3, 5]) (by kernel_rfl) (by simp) ?_
            refine AllReadyH.cons rfl (fun K hK => ?_) (AllReadyH.cons rfl (fun K hK => ?_) (AllReadyH.nil))
            · obtain ⟨v2, V2, hr2, ho2, hg2⟩ := run_append_read V1 V0.heap.size 26 26 35 9 72 _ infoEnt Tryz.underlying26 rfl (by decide) _ 0 [] (hm1) (.slice ta l.tail.length tc) l.tail.length (entCells l.tail) (HL3.out.keep (k0.trans q1)) (entCells_one _) (by unfold maxLen; omega) (by omega) q1.size
              refine step_append_run rfl _ _ 26 rfl (by simp [Act.eval, Act.put]) (by simp [Act.eval, Act.put]) hr2 ?_
              have q2 : Keeps V0 V2 := keeps_grown q1 hg2 (fun g h => (World.ownsRow.lt (hm1) g h).1)
              rw [Nat.zero_add, List.nil_append] at ho2
              refine hK.out _ _ (HSA.out _ (k0.trans q2)) (fun hS => ?_)
              clear hK K
              refine wpAnyH_ready (rs := [5]) (by kernel_rfl) (by simp) ?_
              refine AllReadyH.cons rfl (fun K hK => ?_) (AllReadyH.nil)
              go_simp
              have hn3 : EntsAt (V2.alloc (.cells #[.int .i64 e.kind, .int .i64 e.time, .int .i64 e.client, .int .i64 e.seq, .int .i64 e.ack, .int .i64 e.ok, .int .i64 e.okey, .int .i64 e.oto, .int .i64 e.on] 35)) (.slice (some ⟨V2.heap.size, 0, none⟩) 1 1) [e] := EntsAt.new V2 [e] (by simp) 1
              have hb3 : Keeps V2 (V2.alloc (.cells #[.int .i64 e.kind, .int .i64 e.time, .int .i64 e.client, .int .i64 e.seq, .int .i64 e.ack, .int .i64 e.ok, .int .i64 e.okey, .int .i64 e.oto, .int .i64 e.on] 35)) := (Keeps.refl _).alloc _
              have hz3 : (V2.alloc (.cells #[.int .i64 e.kind, .int .i64 e.time, .int .i64 e.client, .int .i64 e.seq, .int .i64 e.ack, .int .i64 e.ok, .int .i64 e.okey, .int .i64 e.oto, .int .i64 e.on] 35)).heap.size = V2.heap.size + 1 := World.size_alloc _ _
              obtain ⟨V3, hV⟩ : ∃ z, z = V2.alloc (.cells #[.int .i64 e.kind, .int .i64 e.time, .int .i64 e.client, .int .i64 e.seq, .int .i64 e.ack, .int .i64 e.ok, .int .i64 e.okey, .int .i64 e.oto, .int .i64 e.on] 35) := ⟨_, rfl⟩
              rw [← hV] at hn3 hb3 hz3 ⊢
              clear hV
              have q3 := q2.trans hb3
              refine hK.out _ _ (HSA.out _ (k0.trans q3)) (fun hS => ?_)
              clear hK K
              refine wpAnyH_ready (rs := [6]) (by kernel_rfl) (by simp) ?_
              refine AllReadyH.cons rfl (fun K hK => ?_) (AllReadyH.nil)
              obtain ⟨v4, V4, hr4, ho4, hg4⟩ := run_append_read V3 V0.heap.size 26 26 35 9 72 _ infoEnt Tryz.underlying26 rfl (by decide) _ l.tail.length (entCells l.tail) (owns_keep ho2 hb3) _ 1 (entCells [e]) (hn3) (entCells_one _) (by unfold maxLen; omega) (by omega) q3.size
              refine step_append_run rfl _ _ 26 rfl (by simp [Act.eval, Act.put]) (by simp [Act.eval, Act.put]) hr4 ?_
              have q4 : Keeps V0 V4 := keeps_grown q3 hg4 (fun g h => (World.ownsRow.lt (owns_keep ho2 hb3) g h).1)
              obtain ⟨ga, gc, rfl, _⟩ := (RowAt.of_owns ho4).len
              refine hK.out _ _ (HSA.out _ (k0.trans q4)) (fun hS => ?_)
              clear hK K
              refine wpAnyH_take (i := 7) (v := .slice ga (l.tail.length + 1) gc) rfl (by kernel_rfl) (by kernel_rfl) (by kernel_rfl) (fun _ _ _ h => h) (Or.inl ⟨by rfl, ?_⟩) hS ?_
              · intro w hS; go_simp
              refine wpAnyH_done (by kernel_rfl) ?_ _
              go_wp2_with fail
              go_meet
              exact ⟨ga, gc, rfl, fun W hW => owns_base (owns_far ho4 (by have := HZ2.out.lt; have := k0.size; omega) hW) (by have := HZ2.out.lt; have := k0.size; omega), k0.trans q4⟩
            · go_simp
              have hn2 : EntsAt (V1.alloc (.cells #[.int .i64 e.kind, .int .i64 e.time, .int .i64 e.client, .int .i64 e.seq, .int .i64 e.ack, .int .i64 e.ok, .int .i64 e.okey, .int .i64 e.oto, .int .i64 e.on] 35)) (.slice (some ⟨V1.heap.size, 0, none⟩) 1 1) [e] := EntsAt.new V1 [e] (by simp) 1
              have hb2 : Keeps V1 (V1.alloc (.cells #[.int .i64 e.kind, .int .i64 e.time, .int .i64 e.client, .int .i64 e.seq, .int .i64 e.ack, .int .i64 e.ok, .int .i64 e.okey, .int .i64 e.oto, .int .i64 e.on] 35)) := (Keeps.refl _).alloc _
              have hz2 : (V1.alloc (.cells #[.int .i64 e.kind, .int .i64 e.time, .int .i64 e.client, .int .i64 e.seq, .int .i64 e.ack, .int .i64 e.ok, .int .i64 e.okey, .int .i64 e.oto, .int .i64 e.on] 35)).heap.size = V1.heap.size + 1 := World.size_alloc _ _
              obtain ⟨V2, hV⟩ : ∃ z, z = V1.alloc (.cells #[.int .i64 e.kind, .int .i64 e.time, .int .i64 e.client, .int .i64 e.seq, .int .i64 e.ack, .int .i64 e.ok, .int .i64 e.okey, .int .i64 e.oto, .int .i64 e.on] 35) := ⟨_, rfl⟩
              rw [← hV] at hn2 hb2 hz2 ⊢
              clear hV
              have q2 := q1.trans hb2
              refine hK.out _ _ (HSA.out _ (k0.trans q2)) (fun hS => ?_)
              clear hK K
              refine wpAnyH_ready (rs := [3]) (by kernel_rfl) (by simp) ?_
              refine AllReadyH.cons rfl (fun K hK => ?_) (AllReadyH.nil)
              obtain ⟨v3, V3, hr3, ho3, hg3⟩ := run_append_read V2 V0.heap.size 26 26 35 9 72 _ infoEnt Tryz.underlying26 rfl (by decide) _ 0 [] (owns_keep hm1 hb2) (.slice ta l.tail.length tc) l.tail.length (entCells l.tail) (HL3.out.keep (k0.trans q2)) (entCells_one _) (by unfold maxLen; omega) (by omega) q2.size
              refine step_append_run rfl _ _ 26 rfl (by simp [Act.eval, Act.put]) (by simp [Act.eval, Act.put]) hr3 ?_
              have q3 : Keeps V0 V3 := keeps_grown q2 hg3 (fun g h => (World.ownsRow.lt (owns_keep hm1 hb2) g h).1)
              rw [Nat.zero_add, List.nil_append] at ho3
              refine hK.out _ _ (HSA.out _ (k0.trans q3)) (fun hS => ?_)
              clear hK K
              refine wpAnyH_ready (rs := [6]) (by kernel_rfl) (by simp) ?_
              refine AllReadyH.cons rfl (fun K hK => ?_) (AllReadyH.nil)
              obtain ⟨v4, V4, hr4, ho4, hg4⟩ := run_append_read V3 V0.heap.size 26 26 35 9 72 _ infoEnt Tryz.underlying26 rfl (by decide) _ l.tail.length (entCells l.tail) (ho3) _ 1 (entCells [e]) (row_same hn2 (hg3.block _ (by omega) (by simp [Value.ownBlock]; omega))) (entCells_one _) (by unfold maxLen; omega) (by omega) q3.size
              refine step_append_run rfl _ _ 26 rfl (by simp [Act.eval, Act.put]) (by simp [Act.eval, Act.put]) hr4 ?_
              have q4 : Keeps V0 V4 := keeps_grown q3 hg4 (fun g h => (World.ownsRow.lt (ho3) g h).1)
              obtain ⟨ga, gc, rfl, _⟩ := (RowAt.of_owns ho4).len
              refine hK.out _ _ (HSA.out _ (k0.trans q4)) (fun hS => ?_)
              clear hK K
              refine wpAnyH_take (i := 7) (v := .slice ga (l.tail.length + 1) gc) rfl (by kernel_rfl) (by kernel_rfl) (by kernel_rfl) (fun _ _ _ h => h) (Or.inl ⟨by rfl, ?_⟩) hS ?_
              · intro w hS; go_simp
              refine wpAnyH_done (by kernel_rfl) ?_ _
              go_wp2_with fail
              go_meet
              exact ⟨ga, gc, rfl, fun W hW => owns_base (owns_far ho4 (by have := HZ2.out.lt; have := k0.size; omega) hW) (by have := HZ2.out.lt; have := k0.size; omega), k0.trans q4⟩
          · go_simp
            have hn1 : EntsAt (V0.alloc (.cells #[.int .i64 e.kind, .int .i64 e.time, .int .i64 e.client, .int .i64 e.seq, .int .i64 e.ack, .int .i64 e.ok, .int .i64 e.okey, .int .i64 e.oto, .int .i64 e.on] 35)) (.slice (some ⟨V0.heap.size, 0, none⟩) 1 1) [e] := EntsAt.new V0 [e] (by simp) 1
            have hb1 : Keeps V0 (V0.alloc (.cells #[.int .i64 e.kind, .int .i64 e.time, .int .i64 e.client, .int .i64 e.seq, .int .i64 e.ack, .int .i64 e.ok, .int .i64 e.okey, .int .i64 e.oto, .int .i64 e.on] 35)) := (Keeps.refl _).alloc _
            have hz1 : (V0.alloc (.cells #[.int .i64 e.kind, .int .i64 e.time, .int .i64 e.client, .int .i64 e.seq, .int .i64 e.ack, .int .i64 e.ok, .int .i64 e.okey, .int .i64 e.oto, .int .i64 e.on] 35)).heap.size = V0.heap.size + 1 := World.size_alloc _ _
            obtain ⟨V1, hV⟩ : ∃ z, z = V0.alloc (.cells #[.int .i64 e.kind, .int .i64 e.time, .int .i64 e.client, .int .i64 e.seq, .int .i64 e.ack, .int .i64 e.ok, .int .i64 e.okey, .int .i64 e.oto, .int .i64 e.on] 35) := ⟨_, rfl⟩
            rw [← hV] at hn1 hb1 hz1 ⊢
            clear hV
            have q1 := q0.trans hb1
            refine hK.out _ _ (HSA.out _ (k0.trans q1)) (fun hS => ?_)
            clear hK K
            refine wpAnyH_ready (rs := [0]) (by kernel_rfl) (by simp) ?_
            refine AllReadyH.cons rfl (fun K hK => ?_) (AllReadyH.nil)
            go_simp
            have hm2 := World.ownsRow_made (base := V0.heap.size) (e := 35) (size := 9) V1 #[] 0 q1.size (by unfold maxLen; omega) rfl
            have hb2 : Keeps V1 (V1.alloc (.cells #[] 35)) := (Keeps.refl _).alloc _
            have hz2 : (V1.alloc (.cells #[] 35)).heap.size = V1.heap.size + 1 := World.size_alloc _ _
            obtain ⟨V2, hV⟩ : ∃ z, z = V1.alloc (.cells #[] 35) := ⟨_, rfl⟩
            rw [← hV] at hm2 hb2 hz2 ⊢
            clear hV
            have q2 := q1.trans hb2
            refine hK.out _ _ (HSA.out _ (k0.trans q2)) (fun hS => ?_)
            clear hK K
            refine wpAnyH_ready (rs := [3]) (by kernel_rfl) (by simp) ?_
            refine AllReadyH.cons rfl (fun K hK => ?_) (AllReadyH.nil)
            obtain ⟨v3, V3, hr3, ho3, hg3⟩ := run_append_read V2 V0.heap.size 26 26 35 9 72 _ infoEnt Tryz.underlying26 rfl (by decide) _ 0 [] (hm2) (.slice ta l.tail.length tc) l.tail.length (entCells l.tail) (HL3.out.keep (k0.trans q2)) (entCells_one _) (by unfold maxLen; omega) (by omega) q2.size
            refine step_append_run rfl _ _ 26 rfl (by simp [Act.eval, Act.put]) (by simp [Act.eval, Act.put]) hr3 ?_
            have q3 : Keeps V0 V3 := keeps_grown q2 hg3 (fun g h => (World.ownsRow.lt (hm2) g h).1)
            rw [Nat.zero_add, List.nil_append] at ho3
            refine hK.out _ _ (HSA.out _ (k0.trans q3)) (fun hS => ?_)
            clear hK K
            refine wpAnyH_ready (rs := [6]) (by kernel_rfl) (by simp) ?_
            refine AllReadyH.cons rfl (fun K hK => ?_) (AllReadyH.nil)
            obtain ⟨v4, V4, hr4, ho4, hg4⟩ := run_append_read V3 V0.heap.size 26 26 35 9 72 _ infoEnt Tryz.underlying26 rfl (by decide) _ l.tail.length (entCells l.tail) (ho3) _ 1 (entCells [e]) (row_same (RowAt.keep hn1 hb2) (hg3.block _ (by omega) (by simp [Value.ownBlock]; omega))) (entCells_one _) (by unfold maxLen; omega) (by omega) q3.size
            refine step_append_run rfl _ _ 26 rfl (by simp [Act.eval, Act.put]) (by simp [Act.eval, Act.put]) hr4 ?_
            have q4 : Keeps V0 V4 := keeps_grown q3 hg4 (fun g h => (World.ownsRow.lt (ho3) g h).1)
            obtain ⟨ga, gc, rfl, _⟩ := (RowAt.of_owns ho4).len
            refine hK.out _ _ (HSA.out _ (k0.trans q4)) (fun hS => ?_)
            clear hK K
            refine wpAnyH_take (i := 7) (v := .slice ga (l.tail.length + 1) gc) rfl (by kernel_rfl) (by kernel_rfl) (by kernel_rfl) (fun _ _ _ h => h) (Or.inl ⟨by rfl, ?_⟩) hS ?_
            · intro w hS; go_simp
            refine wpAnyH_done (by kernel_rfl) ?_ _
            go_wp2_with fail
            go_meet
            exact ⟨ga, gc, rfl, fun W hW => owns_base (owns_far ho4 (by have := HZ2.out.lt; have := k0.size; omega) hW) (by have := HZ2.out.lt; have := k0.size; omega), k0.trans q4⟩
        case rest =>
          obtain ⟨ga, gc, rfl, hT4, hk34⟩ := hcut
          obtain ⟨w4, hw4⟩ : ∃ z, z = wc := ⟨_, rfl⟩
          rw [← hw4] at hT4 hk34 ⊢
          clear hw4
          have HK34 : Hid (Keeps w3 w4) := hk34
          have HT4 : Hid (EntsAt w4 (.slice ga (l.tail.length + 1) gc) (l.tail ++ [e])) := ents_snoc (hT4 w4 (But.refl _ _))
          have HTB := (show Hid _ from hT4)
          have hB := HB2.out.keep hk34
          have b0 := hB.c0
          have b1 := hB.c1
          have b2 := hB.c2
          have b3 := hB.c3
          have b4 := hB.c4
          have b5 := hB.c5
          have b6 := hB.c6
          have b7 := hB.c7
          have bl := hB.lt
          clear hB hT4 hk34 HSA hk
          go_wp2_with fail
          refine (folded_c l.base (l.tail ++ [e]) _ _ w4 (HT.out.keep (HK2.out.trans HK34.out)) (by have := HT4.out; exact this) HFR.out.1 HFR.out.2.1 HFR.out.2.2).mono ?_
          rintro y w5 ⟨qa, qc, ra, rc, da, dc, HO, HA, HD, rfl, hb⟩
          have HA' := HA.out
          have HK45 : Hid (Keeps w4 w5) := hb
          clear hb HO HD b0 b1 b2 b3 b4 b5 b6 b7 bl
          simp only [List.length_append, List.length_cons, List.length_nil, Nat.zero_add] at HA' ⊢
          obtain ⟨g, hra, hgw, hcell⟩ : ∃ g, ra = some ⟨g, 0, none⟩ ∧ w4.heap.size ≤ g ∧ w5.cell? ⟨g, l.tail.length, none⟩ = some (.int .i64 an) := by
            rcases HA'.2 with ⟨h1, h2⟩ | ⟨g, cap, cur, h1, hg4, _⟩
            · omega
            · injection h1 with h1 _ h3
              subst h1 h3
              refine ⟨g, rfl, hg4, ?_⟩
              have := HA'.cells rfl l.tail.length (.int .i64 an) (by rw [HRA.out]; simp [intCells, List.getElem?_append_right, runAns_len])
              rw [Addr.add_lit, Nat.zero_add] at this
              exact this
          subst hra
          have HGW : Hid (w4.heap.size ≤ g) := hgw
          have HCL : Hid (w5.cell? ⟨g, l.tail.length, none⟩ = some (.int .i64 an)) := hcell
          generalize runSt l.base (l.tail ++ [e]) = r5 at *
          clear hcell HA' HA hgw
          go_wp2_with fail
          have k56 : Keeps w5 (w5.alloc (.cells #[.int .i64 r5.at_, .int .i64 r5.clock, .int .i64 r5.v0, .int .i64 r5.v1, .int .i64 r5.v2, .int .i64 r5.v3, .slice qa r5.tab.length qc] 25)) := (Keeps.refl _).alloc _
          obtain ⟨w6, hw6⟩ : ∃ z, z = w5.alloc (.cells #[.int .i64 r5.at_, .int .i64 r5.clock, .int .i64 r5.v0, .int .i64 r5.v1, .int .i64 r5.v2, .int .i64 r5.v3, .slice qa r5.tab.length qc] 25) := ⟨_, rfl⟩
          rw [← hw6] at k56 ⊢
          clear hw6
          have HK36 : Hid (Keeps w3 w6) := (HK34.out.trans HK45.out).trans k56
          have HK6 : Hid (Keeps w w6) := HK2.out.trans HK36.out
          have HCL6 : Hid (w6.cell? ⟨g, l.tail.length, none⟩ = some (.int .i64 an)) := cell_kept HCL.out k56
          have HT6 : Hid (EntsAt w6 (.slice ga (l.tail.length + 1) gc) (l.tail ++ [e])) := HT4.out.keep (HK45.out.trans k56)
          have HZ6 : Hid (LgBox (w.heap.size + 2) zeroLg (.slice none 0 0) (.slice none 0 0) w6) := HZ2.out.keep HK36.out
          have HB6 : Hid (LgBox w.heap.size l (.slice xa l.base.tab.length xc) (.slice ta l.tail.length tc) w6) := HB2.out.keep HK36.out
          have HZZ : Hid (w.heap.size + 2 < w6.heap.size) := HZ6.out.lt
          have HGB : Hid (g ≠ w.heap.size + 2) := by have h1 := HGW.out; have h2 := HK34.out.size; have h3 := HZ2.out.lt; show _ ≠ _; omega
          have HCO : Hid (∀ W, Keeps w6 W → Calls Tryz.prog 24 #[stV l.base (.slice xa l.base.tab.length xc)] W fun y w' => ∃ qa qc, Hid (OwnTab W.heap.size w' (.slice qa l.base.tab.length qc) l.base.tab) ∧ y = .returned (stV l.base (.slice qa l.base.tab.length qc)) ∧ Keeps W w') := by
            intro W hk
            refine (own_right _ W (HT.out.keep (HK6.out.trans hk)) HFR.out.1).mono ?_
            rintro y w' ⟨x', ho, rfl, hb⟩
            obtain ⟨qa, qc, rfl, _⟩ := ho.tab.len
            exact ⟨qa, qc, ho, rfl, hb⟩
          have HSB : Hid (∀ W, Keeps w6 W → W.cell? ⟨w.heap.size, 0, none⟩ = some (.int .i64 l.base.at_) ∧ W.cell? ⟨w.heap.size, 1, none⟩ = some (.int .i64 l.base.clock) ∧ W.cell? ⟨w.heap.size, 2, none⟩ = some (.int .i64 l.base.v0) ∧ W.cell? ⟨w.heap.size, 3, none⟩ = some (.int .i64 l.base.v1) ∧ W.cell? ⟨w.heap.size, 4, none⟩ = some (.int .i64 l.base.v2) ∧ W.cell? ⟨w.heap.size, 5, none⟩ = some (.int .i64 l.base.v3) ∧ W.cell? ⟨w.heap.size, 6, none⟩ = some (.slice xa l.base.tab.length xc) ∧ W.cell? ⟨w.heap.size, 7, none⟩ = some (.slice ta l.tail.length tc) ∧ W.cell? ⟨g, l.tail.length, none⟩ = some (.int .i64 an)) := fun W hk => have B := HB6.out.keep hk; ⟨B.c0, B.c1, B.c2, B.c3, B.c4, B.c5, B.c6, B.c7, cell_kept HCL6.out hk⟩
          have HSC : Hid (∀ W, But (w.heap.size + 2) w6 W → W.cell? ⟨w.heap.size, 0, none⟩ = some (.int .i64 l.base.at_) ∧ W.cell? ⟨w.heap.size, 1, none⟩ = some (.int .i64 l.base.clock) ∧ W.cell? ⟨w.heap.size, 2, none⟩ = some (.int .i64 l.base.v0) ∧ W.cell? ⟨w.heap.size, 3, none⟩ = some (.int .i64 l.base.v1) ∧ W.cell? ⟨w.heap.size, 4, none⟩ = some (.int .i64 l.base.v2) ∧ W.cell? ⟨w.heap.size, 5, none⟩ = some (.int .i64 l.base.v3) ∧ W.cell? ⟨w.heap.size, 6, none⟩ = some (.slice xa l.base.tab.length xc) ∧ W.cell? ⟨w.heap.size, 7, none⟩ = some (.slice ta l.tail.length tc) ∧ W.cell? ⟨g, l.tail.length, none⟩ = some (.int .i64 an)) := fun W hk => have B := HB6.out.other hk (by omega); ⟨B.c0, B.c1, B.c2, B.c3, B.c4, B.c5, B.c6, B.c7, hk.at HCL6.out HGB.out⟩
          have HT5 : Hid (∀ W, But (w.heap.size + 2) w6 W → W.ownsRow w.heap.size 35 9 (.slice ga (l.tail.length + 1) gc) (l.tail.length + 1) (entCells l.tail ++ entCells [e])) := fun W hW => HTB.out W ((But.of (HK45.out.trans k56)).trans hW)
          have hwr : IntKind.i64.wrap (l.tail.length : Int) = l.tail.length := by simp [IntKind.wrap_i64, wrap64]; omega
          have HZ5 := HZ6
          have HK5 := HK6
          clear HZ6 HK6 k56
          obtain ⟨V0, hV0⟩ : ∃ z, z = w6.drew := ⟨_, rfl⟩
          have k0 : Keeps w6 V0 := by rw [hV0]; exact (Keeps.refl _).drew
          refine wp_region_held_drew (S := fun W => W.cell? ⟨w.heap.size, 0, none⟩ = some (.int .i64 l.base.at_) ∧ W.cell? ⟨w.heap.size, 1, none⟩ = some (.int .i64 l.base.clock) ∧ W.cell? ⟨w.heap.size, 2, none⟩ = some (.int .i64 l.base.v0) ∧ W.cell? ⟨w.heap.size, 3, none⟩ = some (.int .i64 l.base.v1) ∧ W.cell? ⟨w.heap.size, 4, none⟩ = some (.int .i64 l.base.v2) ∧ W.cell? ⟨w.heap.size, 5, none⟩ = some (.int .i64 l.base.v3) ∧ W.cell? ⟨w.heap.size, 6, none⟩ = some (.slice xa l.base.tab.length xc) ∧ W.cell? ⟨w.heap.size, 7, none⟩ = some (.slice ta l.tail.length tc) ∧ W.cell? ⟨g, l.tail.length, none⟩ = some (.int .i64 an)) (by kernel_rfl) (HSB.out _ (Keeps.refl _).drew) (fun hS => ?_)
          rw [← hV0] at hS ⊢
          clear hV0
          refine wpAnyH_take (i := 0) (v := .pointer (some ⟨w.heap.size, 0, none⟩)) rfl (by kernel_rfl) (by kernel_rfl) (by kernel_rfl) (fun _ _ _ h => h) (Or.inl ⟨by rfl, ?_⟩) hS ?_
          · intro w hS; go_simp
          refine wpAnyH_take (i := 1) (v := stV l.base (.slice xa l.base.tab.length xc)) rfl (by kernel_rfl) (by kernel_rfl) (by kernel_rfl) (fun _ _ _ h => h) (Or.inl ⟨by rfl, ?_⟩) hS ?_
          · intro w hS; go_simp
          refine wpAnyH_take (i := 3) (v := .slice ga (l.tail.length + 1) gc) rfl (by kernel_rfl) (by kernel_rfl) (by kernel_rfl) (fun _ _ _ h => h) (Or.inl ⟨by rfl, ?_⟩) hS ?_
          · intro w hS; go_simp
          refine wpAnyH_take (i := 5) (v := .slice (some ⟨g, 0, none⟩) (l.tail.length + 1) rc) rfl (by kernel_rfl) (by kernel_rfl) (by kernel_rfl) (fun _ _ _ h => h) (Or.inl ⟨by rfl, ?_⟩) hS ?_
          · intro w hS; go_simp
          refine wpAnyH_take (i := 6) (v := .slice (some ⟨g, 0, none⟩) (l.tail.length + 1) rc) rfl (by kernel_rfl) (by kernel_rfl) (by kernel_rfl) (fun _ _ _ h => h) (Or.inl ⟨by rfl, ?_⟩) hS ?_
          · intro w hS; go_simp
          refine wpAnyH_take (i := 7) (v := .int .i64 (l.tail.length + 1)) rfl (by kernel_rfl) (by kernel_rfl) (by kernel_rfl) (fun _ _ _ h => h) (Or.inl ⟨by rfl, ?_⟩) hS ?_
          · intro w hS; go_simp
          refine wpAnyH_take (i := 8) (v := .int .i64 l.tail.length) rfl (by kernel_rfl) (by kernel_rfl) (by kernel_rfl) (fun _ _ _ h => h) (Or.inl ⟨by rfl, ?_⟩) hS ?_
          · intro w hS
            go_simp
            try exact hwr
          refine wpAnyH_take (i := 9) (v := .pointer (some ⟨g, l.tail.length, none⟩)) rfl (by kernel_rfl) (by kernel_rfl) (by kernel_rfl) (fun _ _ _ h => h) (Or.inl ⟨by rfl, ?_⟩) hS ?_
          · intro w hS
            go_simp
            try (intro hcon; omega)
          refine wpAnyH_take (i := 10) (v := .int .i64 an) rfl (by kernel_rfl) (by kernel_rfl) (by kernel_rfl) (fun _ _ _ h => h) (Or.inl ⟨by rfl, ?_⟩) hS ?_
          · intro w hS; go_simp
          refine wpAnyH_ready (rs := [2]) (by kernel_rfl) (by simp) ?_
          refine AllReadyH.cons rfl (fun K hK => ?_) (AllReadyH.nil)
          go_simp
          refine (HCO.out V0 k0).mono ?_
          rintro y V1 ⟨qa, qc, HO1, rfl, hb⟩
          have k1 := k0.trans hb
          clear hb
          go_simp
          refine hK.out _ _ (HSB.out _ k1) (fun hS => ?_)
          clear hK K
          refine wpAnyH_take (i := 4) (v := .agg #[.int .i64 l.base.at_, .int .i64 l.base.clock, .int .i64 l.base.v0, .int .i64 l.base.v1, .int .i64 l.base.v2, .int .i64 l.base.v3, .slice qa l.base.tab.length qc, .slice ga (l.tail.length + 1) gc]) rfl (by kernel_rfl) (by kernel_rfl) (by kernel_rfl) (fun _ _ _ h => h) (Or.inl ⟨by rfl, ?_⟩) hS ?_
          · intro w hS; go_simp
          refine wpAnyH_ready (rs := [11]) (by kernel_rfl) (by simp) ?_
          refine AllReadyH.cons rfl (fun K hK => ?_) (AllReadyH.nil)
          have z0 := (HZ5.out.keep k1).c0
          have z1 := (HZ5.out.keep k1).c1
          have z2 := (HZ5.out.keep k1).c2
          have z3 := (HZ5.out.keep k1).c3
          have z4 := (HZ5.out.keep k1).c4
          have z5 := (HZ5.out.keep k1).c5
          have z6 := (HZ5.out.keep k1).c6
          have z7 := (HZ5.out.keep k1).c7
          have zf := (HZ5.out.keep k1).fz
          have zl := (HZ5.out.keep k1).lt
          go_simp
          have BP := (HZ5.out.keep k1).put ⟨l.base, l.tail ++ [e]⟩ (.slice qa l.base.tab.length qc) (.slice ga (l.tail.length + 1) gc)
          have BT := But.lgputs (w.heap.size + 2) V1 ⟨l.base, l.tail ++ [e]⟩ (.slice qa l.base.tab.length qc) (.slice ga (l.tail.length + 1) gc)
          obtain ⟨WF, hWF⟩ : ∃ z, z = ((((((((V1.setCell ⟨w.heap.size + 2, 0, none⟩ (.int .i64 l.base.at_)).setCell ⟨w.heap.size + 2, 1, none⟩ (.int .i64 l.base.clock)).setCell ⟨w.heap.size + 2, 2, none⟩ (.int .i64 l.base.v0)).setCell ⟨w.heap.size + 2, 3, none⟩ (.int .i64 l.base.v1)).setCell ⟨w.heap.size + 2, 4, none⟩ (.int .i64 l.base.v2)).setCell ⟨w.heap.size + 2, 5, none⟩ (.int .i64 l.base.v3)).setCell ⟨w.heap.size + 2, 6, none⟩ (.slice qa l.base.tab.length qc)).setCell ⟨w.heap.size + 2, 7, none⟩ (.slice ga (l.tail.length + 1) gc)) := ⟨_, rfl⟩
          rw [← hWF] at BP BT ⊢
          clear hWF z0 z1 z2 z3 z4 z5 z6 z7 zf zl
          have hzz := HZZ.out
          refine hK.out _ _ (HSC.out _ ((But.of k1).trans BT)) (fun hS => ?_)
          clear hK K
          refine wpAnyH_take (i := 12) (v := .int .i64 an) rfl (by kernel_rfl) (by kernel_rfl) (by kernel_rfl) (fun _ _ _ h => h) (Or.inl ⟨by rfl, ?_⟩) hS ?_
          · intro w hS; go_simp
          refine wpAnyH_take (i := 13) (v := .int .i64 0) rfl (by kernel_rfl) (by kernel_rfl) (by kernel_rfl) (fun _ _ _ h => h) (Or.inl ⟨by rfl, ?_⟩) hS ?_
          · intro w hS; go_simp
          refine wpAnyH_done (by kernel_rfl) ?_ _
          go_wp2_with fail
          have c0 := BP.c0
          have c1 := BP.c1
          have c2 := BP.c2
          have c3 := BP.c3
          have c4 := BP.c4
          have c5 := BP.c5
          have c6 := BP.c6
          have c7 := BP.c7
          refine bodyPost_ret (v := .tuple #[lgV ⟨l.base, l.tail ++ [e]⟩ (.slice qa l.base.tab.length qc) (.slice ga (l.tail.length + 1) gc), .int .i64 an, .int .i64 0]) ?_ rfl ?_
          · simp only [results, Tryz.results31, go_sem, c0, c1, c2, c3, c4, c5, c6, c7]
            simp [go_sem, c0, c1, c2, c3, c4, c5, c6, c7]
          · rw [HPE.out, HPL.out, HPA.out]
            have hk5 := HK5.out.size
            refine ⟨qa, qc, ga, gc, (HO1.out.but (by have := k0.size; omega) BT).base (by have := k0.size; omega), ?_, ?_, But.to (HK5.out.trans k1) (by omega) BT⟩
            · have := HT5.out _ ((But.of k1).trans BT)
              simpa [entCells_append] using this
            · simp
end Go.Proofs.YteabfjpajgakiagGreat

/- The reference's GroupPut. -/
set_option linter.unusedSimpArgs false
set_option linter.unusedVariables false
set_option maxRecDepth 10000
namespace Go.Proofs.YteabfjpajgakiagGreat
open Go.RowKit

set_option maxHeartbeats 4000000 in
theorem group_put_of (g : Grp) (A : Ad) (e : Ent) (w : World) (hG : GrAt w g A) : Calls Tryz.prog 13 #[.agg (GL g A).toArray, entV e] w fun y w' => ∃ B, GrRd w' (pgG g e) B ∧ y = .returned (.tuple #[.agg (GL (pgG g e) B).toArray, .int .i64 (pgAns g e), .int .i64 (pgErr g e)]) ∧ Keeps w w' := by
  have HG : Hid (GrAt w g A) := hG
  clear hG
  have HGE : Hid (∀ W, Keeps w W → Calls Tryz.prog 4 #[.agg (GL g A).toArray] W fun e w' => e = .returned (.int .i64 (grErr g)) ∧ Keeps W w') := fun W hk => group_error g A W (HG.out.keep hk)
  cases q : (grErr g == 0) with
  | false =>
    have q' : (grErr g != 0) = true := by simp [bne, q]
    have e0 : pgErr g e = grErr g := by unfold pgErr; rw [q]; rfl
    have hne : (pgErr g e == 0) = false := by rw [e0]; exact q
    have e1 : pgG g e = zeroGrp := by unfold pgG; rw [hne]; rfl
    have e2 : pgAns g e = 0 := by unfold pgAns; rw [hne]; rfl
    rw [e0, e1, e2]
    clear HG hne e0 e1 e2
    generalize grErr g = er at *
    go_enter Tryz.func13, Tryz.ntmps13
    go_wp2_with (first | (refine box31 rfl rfl rfl ?_; intro w1 bb hBbb hkbb hlbb hgbb) | (refine box35 rfl rfl (e := e) rfl ?_; intro w2 eb hBeb hkeb hleb hgeb) | (refine alloc31 rfl rfl ?_; intro w3 r hBr hkr hlr hgr) | (refine load31 rfl rfl bb rfl ((hBbb.keep hkeb (by rw [GL_len]; decide)).keep hkr (by rw [GL_len]; decide)) ?_))
    have hk3 : Keeps w w3 := (hkbb.trans hkeb).trans hkr
    refine (HGE.out w3 hk3).mono ?_
    rintro y w4 ⟨rfl, hb⟩
    have HR4 : Hid (CBox r (GL zeroGrp zeroAd) w4) := hBr.keep hb (by rw [GL_len]; decide)
    have HRG : Hid (w.heap.size ≤ r) := Nat.le_trans (hkbb.trans hkeb).size hgr
    have HRL : Hid (r < w4.heap.size) := Nat.lt_of_lt_of_le hlr hb.size
    have HK4 : Hid (Keeps w w4) := hk3.trans hb
    have HBB : Hid (CBox bb (GL g A) w4) := ((hBbb.keep hkeb (by rw [GL_len]; decide)).keep hkr (by rw [GL_len]; decide)).keep hb (by rw [GL_len]; decide)
    have hE4 : CBox eb (EC e) w4 := (hBeb.keep hkr (Nat.le_of_ble_eq_true rfl)).keep hb (Nat.le_of_ble_eq_true rfl)
    clear hb hk3 hBbb hkbb hlbb hgbb hBr hkr hlr hgr HGE hBeb hkeb hleb hgeb
    go_wp2_with (first | (refine build31z rfl rfl ?_) | (refine store31 rfl rfl r rfl rfl HR4.out ?_; intro w5 hSw5 hTw5))
    refine bodyPost_ret (results3 Tryz.results13 rfl rfl rfl (read31 hSw5)) rfl ?_
    exact ⟨zeroAd, (GrOwn.zero 0 _).at.rd, rfl, But.to HK4.out HRG.out hTw5⟩
  | true =>
    have q' : (grErr g != 0) = false := by simp [bne, q]
    have q0 : grErr g = 0 := by simpa using q
    rw [q0] at HGE
    have HOG : Hid (∀ W, Keeps w W → Calls Tryz.prog 6 #[.agg (GL g A).toArray] W fun e w' => ∃ B, GrOwn W.heap.size w' g B ∧ e = .returned (.agg (GL g B).toArray) ∧ Keeps W w') := fun W hk => own_group g A W (HG.out.keep hk) q0
    have HC : Hid (∀ W, Keeps w W → Calls Tryz.prog 31 #[logV g A, entV e] W fun y w' => ∃ qa qc ea ec, (OwnTab W.heap.size w' (.slice qa (putLg g.log e).base.tab.length qc) (putLg g.log e).base.tab ∧ w'.ownsRow W.heap.size 35 9 (.slice ea (putLg g.log e).tail.length ec) (putLg g.log e).tail.length (entCells (putLg g.log e).tail)) ∧ y = .returned (.tuple #[lgV (putLg g.log e) (.slice qa (putLg g.log e).base.tab.length qc) (.slice ea (putLg g.log e).tail.length ec), .int .i64 (putAns g.log e), .int .i64 (putLgErr g.log e)]) ∧ Keeps W w') := fun W hk => by
      have hg := HG.out.keep hk
      refine (put_own g.log e _ A.ta A.tc W hg.base hg.tail).mono ?_
      rintro y w' ⟨qa, qc, ea, ec, h1, h2, h4, h5⟩
      exact ⟨qa, qc, ea, ec, ⟨h1, h2⟩, h4, h5⟩
    cases q1 : (putLgErr g.log e == 0) with
    | false =>
      have q1' : (putLgErr g.log e != 0) = true := by simp [bne, q1]
      have e0 : pgErr g e = putLgErr g.log e := by unfold pgErr; rw [q]; rfl
      have hne : (pgErr g e == 0) = false := by rw [e0]; exact q1
      have e1 : pgG g e = zeroGrp := by unfold pgG; rw [hne]; rfl
      have e2 : pgAns g e = 0 := by unfold pgAns; rw [hne]; rfl
      rw [e0, e1, e2]
      clear hne e0 e1 e2
      generalize putLgErr g.log e = er at *
      generalize putAns g.log e = an at *
      generalize putLg g.log e = l' at *
      go_enter Tryz.func13, Tryz.ntmps13
      go_wp2_with (first | (refine box31 rfl rfl rfl ?_; intro w1 bb hBbb hkbb hlbb hgbb) | (refine box35 rfl rfl (e := e) rfl ?_; intro w2 eb hBeb hkeb hleb hgeb) | (refine alloc31 rfl rfl ?_; intro w3 r hBr hkr hlr hgr) | (refine load31 rfl rfl bb rfl ((hBbb.keep hkeb (by rw [GL_len]; decide)).keep hkr (by rw [GL_len]; decide)) ?_))
      have hk3 : Keeps w w3 := (hkbb.trans hkeb).trans hkr
      refine (HGE.out w3 hk3).mono ?_
      rintro y w4 ⟨rfl, hb⟩
      have HR4 : Hid (CBox r (GL zeroGrp zeroAd) w4) := hBr.keep hb (by rw [GL_len]; decide)
      have HRG : Hid (w.heap.size ≤ r) := Nat.le_trans (hkbb.trans hkeb).size hgr
      have HRL : Hid (r < w4.heap.size) := Nat.lt_of_lt_of_le hlr hb.size
      have HK4 : Hid (Keeps w w4) := hk3.trans hb
      have HBB : Hid (CBox bb (GL g A) w4) := ((hBbb.keep hkeb (by rw [GL_len]; decide)).keep hkr (by rw [GL_len]; decide)).keep hb (by rw [GL_len]; decide)
      have hE4 : CBox eb (EC e) w4 := (hBeb.keep hkr (Nat.le_of_ble_eq_true rfl)).keep hb (Nat.le_of_ble_eq_true rfl)
      clear hb hk3 hBbb hkbb hlbb hgbb hBr hkr hlr hgr HGE hBeb hkeb hleb hgeb
      go_wp2_with (first | (refine load28 rfl rfl bb rfl HBB.out ?_) | (refine load35 rfl rfl eb rfl (e := e) hE4 ?_))
      refine (HC.out w4 HK4.out).mono ?_
      rintro y w5 ⟨qa, qc, ea, ec, ho, rfl, hb⟩
      have HR5 : Hid (CBox r (GL zeroGrp zeroAd) w5) := HR4.out.keep hb (by rw [GL_len]; decide)
      have HBB5 : Hid (CBox bb (GL g A) w5) := HBB.out.keep hb (by rw [GL_len]; decide)
      have HO5 : Hid (OwnTab w4.heap.size w5 (.slice qa l'.base.tab.length qc) l'.base.tab ∧ w5.ownsRow w4.heap.size 35 9 (.slice ea l'.tail.length ec) l'.tail.length (entCells l'.tail)) := ho
      have HK5 : Hid (Keeps w w5) := HK4.out.trans hb
      clear ho hb HR4 HBB HC
      go_wp2_with (first | (refine alloc28 rfl rfl ?_; intro w6 lb hBlb hklb hllb hglb) | (refine store28b rfl rfl lb rfl rfl hBlb ?_; intro w7 hSw7 hTw7) | (refine build31z rfl rfl ?_) | (refine store31 rfl rfl r rfl rfl (HR5.out.keep (But.to hklb hglb hTw7) (by rw [GL_len]; decide)) ?_; intro w8 hSw8 hTw8))
      refine bodyPost_ret (results3 Tryz.results13 rfl rfl rfl (read31 hSw8)) rfl ?_
      exact ⟨zeroAd, (GrOwn.zero 0 _).at.rd, rfl, But.to (HK5.out.trans (But.to hklb hglb hTw7)) HRG.out hTw8⟩
    | true =>
      have q1' : (putLgErr g.log e != 0) = false := by simp [bne, q1]
      have e0 : pgErr g e = putLgErr g.log e := by unfold pgErr; rw [q]; rfl
      have q2 : putLgErr g.log e = 0 := by simpa using q1
      have hne : (pgErr g e == 0) = true := by rw [e0]; exact q1
      have e1 : pgG g e = setLog g (putLg g.log e) := by unfold pgG; rw [hne]; rfl
      have e2 : pgAns g e = putAns g.log e := by unfold pgAns; rw [hne]; rfl
      rw [e0, e1, e2, q2]
      clear hne e0 e1 e2
      rw [q2] at HC
      generalize putAns g.log e = an at *
      generalize putLg g.log e = l' at *
      go_enter Tryz.func13, Tryz.ntmps13
      go_wp2_with (first | (refine box31 rfl rfl rfl ?_; intro w1 bb hBbb hkbb hlbb hgbb) | (refine box35 rfl rfl (e := e) rfl ?_; intro w2 eb hBeb hkeb hleb hgeb) | (refine alloc31 rfl rfl ?_; intro w3 r hBr hkr hlr hgr) | (refine load31 rfl rfl bb rfl ((hBbb.keep hkeb (by rw [GL_len]; decide)).keep hkr (by rw [GL_len]; decide)) ?_))
      have hk3 : Keeps w w3 := (hkbb.trans hkeb).trans hkr
      refine (HGE.out w3 hk3).mono ?_
      rintro y w4 ⟨rfl, hb⟩
      have HR4 : Hid (CBox r (GL zeroGrp zeroAd) w4) := hBr.keep hb (by rw [GL_len]; decide)
      have HRG : Hid (w.heap.size ≤ r) := Nat.le_trans (hkbb.trans hkeb).size hgr
      have HRL : Hid (r < w4.heap.size) := Nat.lt_of_lt_of_le hlr hb.size
      have HK4 : Hid (Keeps w w4) := hk3.trans hb
      have HBB : Hid (CBox bb (GL g A) w4) := ((hBbb.keep hkeb (by rw [GL_len]; decide)).keep hkr (by rw [GL_len]; decide)).keep hb (by rw [GL_len]; decide)
      have hE4 : CBox eb (EC e) w4 := (hBeb.keep hkr (Nat.le_of_ble_eq_true rfl)).keep hb (Nat.le_of_ble_eq_true rfl)
      clear hb hk3 hBbb hkbb hlbb hgbb hBr hkr hlr hgr HGE hBeb hkeb hleb hgeb
      go_wp2_with (first | (refine load28 rfl rfl bb rfl HBB.out ?_) | (refine load35 rfl rfl eb rfl (e := e) hE4 ?_))
      refine (HC.out w4 HK4.out).mono ?_
      rintro y w5 ⟨qa, qc, ea, ec, ho, rfl, hb⟩
      have HR5 : Hid (CBox r (GL zeroGrp zeroAd) w5) := HR4.out.keep hb (by rw [GL_len]; decide)
      have HBB5 : Hid (CBox bb (GL g A) w5) := HBB.out.keep hb (by rw [GL_len]; decide)
      have HO5 : Hid (OwnTab w4.heap.size w5 (.slice qa l'.base.tab.length qc) l'.base.tab ∧ w5.ownsRow w4.heap.size 35 9 (.slice ea l'.tail.length ec) l'.tail.length (entCells l'.tail)) := ho
      have HK5 : Hid (Keeps w w5) := HK4.out.trans hb
      clear ho hb HR4 HBB HC
      go_wp2_with (first | (refine alloc28 rfl rfl ?_; intro w6 lb hBlb hklb hllb hglb) | (refine store28b rfl rfl lb rfl rfl hBlb ?_; intro w7 hSw7 hTw7) | (refine load31 rfl rfl bb rfl (HBB5.out.keep (But.to hklb hglb hTw7) (by rw [GL_len]; decide)) ?_))
      have HK57 : Hid (Keeps w5 w7) := But.to hklb hglb hTw7
      have HK7 : Hid (Keeps w w7) := HK5.out.trans HK57.out
      have HL7 : Hid (CBox lb (LC l' (.slice qa l'.base.tab.length qc) (.slice ea l'.tail.length ec)) w7) := hSw7
      clear hBlb hklb hllb hglb hSw7 hTw7
      refine (HOG.out w7 HK7.out).mono ?_
      rintro y w8 ⟨B, ho, rfl, hb⟩
      have HK58 : Hid (Keeps w5 w8) := HK57.out.trans hb
      have HG8 : Hid (GrOwn w7.heap.size w8 g B) := ho
      have HL8 : Hid (CBox lb (LC l' (.slice qa l'.base.tab.length qc) (.slice ea l'.tail.length ec)) w8) := HL7.out.keep hb (Nat.le_of_ble_eq_true rfl)
      have HW78 : Hid (w7.heap.size ≤ w8.heap.size) := hb.size
      clear ho hb HL7
      go_wp2_with (first | (refine alloc31 rfl rfl ?_; intro w9 ob hBob hkob hlob hgob) | (refine store31 rfl rfl ob rfl rfl hBob ?_; intro w10 hSw10 hTw10) | (refine load28b rfl rfl lb rfl (HL8.out.keep (But.to hkob hgob hTw10) (Nat.le_of_ble_eq_true rfl)) ?_) | (refine store28 rfl rfl ob rfl rfl hSw10 ?_; intro w11 hSw11 hTw11) | (refine load31 rfl rfl ob rfl hSw11 ?_) | (refine store31 rfl rfl r rfl rfl ((HR5.out.keep HK58.out (by rw [GL_len]; decide)).keep (But.to (But.to hkob hgob hTw10) hgob hTw11) (by rw [GL_len]; decide)) ?_; intro w12 hSw12 hTw12))
      have HK810 : Hid (Keeps w8 w10) := But.to hkob hgob hTw10
      have HK811 : Hid (Keeps w8 w11) := But.to HK810.out hgob hTw11
      have HK511 : Hid (Keeps w5 w11) := HK58.out.trans HK811.out
      have hr7 : r < w7.heap.size := by have h1 := HRL.out; have h2 := HR5.out.lt (by rw [GL_len]; decide); have h3 := HK57.out.size; omega
      refine bodyPost_ret (results3 Tryz.results13 rfl rfl rfl (read31 hSw12)) rfl ?_
      exact ⟨setLogA B qa qc ea ec, ⟨((HO5.out.1.keep HK511.out).but HRL.out hTw12).tab, RowAt.of_owns (owns_far (owns_keep HO5.out.2 HK511.out) HRL.out hTw12), ((HG8.out.t0.keep HK811.out).but hr7 hTw12).tab, ((HG8.out.t1.keep HK811.out).but hr7 hTw12).tab, ((HG8.out.t2.keep HK811.out).but hr7 hTw12).tab⟩, rfl, But.to (HK5.out.trans HK511.out) HRG.out hTw12⟩
end Go.Proofs.YteabfjpajgakiagGreat
