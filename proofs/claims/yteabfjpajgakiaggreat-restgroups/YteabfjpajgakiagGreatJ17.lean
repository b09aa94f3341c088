/- ApR, EnE, StE, FoK, EqE, PaD, StF. -/
import Derived.Test.YteabfjpajgakiagGreatJ01
import Derived.Test.YteabfjpajgakiagGreatJ02
import Derived.Test.YteabfjpajgakiagGreatJ05
import Derived.Test.YteabfjpajgakiagGreatJ13
import Derived.Test.YteabfjpajgakiagGreatJ15
import Derived.Test.YteabfjpajgakiagGreatJ16
/- The reference's OwnState, and applied. -/
set_option linter.unusedSimpArgs false
set_option linter.unusedVariables false
set_option maxRecDepth 10000
namespace Go.Proofs.YteabfjpajgakiagGreat
open Go.RowKit

theorem applied_c (s : St) (e : Ent) (x : Value) (w : World) (hT : TabAt w x s.tab) (hs : stErr s = 0) (he : entErr e = 0) (hat : s.at_ ≠ 50) :
    Calls Tryz.prog 57 #[stV s x, entV e] w fun y w' => ∃ x', OwnTab w.heap.size w' x' (takenSt (ticked s e.time) e).tab ∧ y = .returned (.tuple #[stV (takenSt (ticked s e.time) e) x', .int .i64 (takenAns (ticked s e.time) e), .bool (takenDone (ticked s e.time) e)]) ∧ Keeps w w' :=
  applied_at s _ e rfl x w hT hs he hat

set_option maxHeartbeats 2000000 in
theorem own_state (s : St) (x : Value) (w : World) (hT : TabAt w x s.tab) (h3 : s.tab.length ≤ 3) (hk3 : ∀ y ∈ s.tab, y.kept.length ≤ 3) (hc : ∀ y ∈ s.tab, y.client ≠ -1) :
    Calls Tryz.prog 24 #[stV s x] w fun y w' => ∃ x', OwnTab w.heap.size w' x' s.tab ∧ y = .returned (stV s x') ∧ Keeps w w' := by
  obtain ⟨xa, xc, rfl, _⟩ := hT.len
  have HT : Hid (TabAt w (.slice xa s.tab.length xc) s.tab) := hT
  have hfl : s.tab.filter (fun y : Ses => y.client != -1) = s.tab := List.filter_eq_self.2 (fun y hy => by simpa using hc y hy)
  have C : Hid (∀ W, TabAt W (.slice xa s.tab.length xc) s.tab → Calls Tryz.prog 42 #[.slice xa s.tab.length xc, .int .i64 (-1)] W fun e w' => ∃ v', OwnTab W.heap.size w' v' s.tab ∧ e = .returned v' ∧ Keeps W w') := by
    intro W hW
    have := without_c s.tab _ (-1) W hW h3 hk3
    rw [hfl] at this
    exact this
  clear hT hc hfl h3 hk3
  go_enter Tryz.func24, Tryz.ntmps24
  go_wp2_with fail
  obtain ⟨W1, hW1⟩ : ∃ W1, W1 = (w.alloc (.cells #[.int .i64 s.at_, .int .i64 s.clock, .int .i64 s.v0, .int .i64 s.v1, .int .i64 s.v2, .int .i64 s.v3, .slice xa s.tab.length xc] 25)).alloc (.cells #[.int .i64 0, .int .i64 0, .int .i64 0, .int .i64 0, .int .i64 0, .int .i64 0, .slice none 0 0] 25) := ⟨_, rfl⟩
  have k1 : Keeps w W1 := by rw [hW1]; exact ((Keeps.refl _).alloc _).alloc _
  have B1 : StBox w.heap.size s (.slice xa s.tab.length xc) W1 := by rw [hW1]; exact (StBox.new w s _ 25).keep ((Keeps.refl _).alloc _)
  have Z1 : StBox (w.heap.size + 1) zeroSt (.slice none 0 0) W1 := by
    rw [hW1]
    have := StBox.new (w.alloc (.cells #[.int .i64 s.at_, .int .i64 s.clock, .int .i64 s.v0, .int .i64 s.v1, .int .i64 s.v2, .int .i64 s.v3, .slice xa s.tab.length xc] 25)) zeroSt (.slice none 0 0) 25
    simp only [World.size_alloc] at this
    exact this
  have hz1 : W1.heap.size = w.heap.size + 2 := by rw [hW1]; simp
  rw [← hW1]
  clear hW1
  refine (C.out W1 (HT.out.keep k1)).mono ?_
  rintro y w2 ⟨v', ho, rfl, hb⟩
  obtain ⟨va, vc, rfl, _⟩ := ho.tab.len
  have HO : Hid (OwnTab W1.heap.size w2 (.slice va s.tab.length vc) s.tab) := ho
  have HK : Hid (Keeps w w2) := k1.trans hb
  have B2 := B1.keep hb
  have Z2 := Z1.keep hb
  have b0 := B2.c0
  have b1 := B2.c1
  have b2 := B2.c2
  have b3 := B2.c3
  have b4 := B2.c4
  have b5 := B2.c5
  have b6 := B2.c6
  have bz := B2.fz
  have bl := B2.lt
  have z0 := Z2.c0
  have z1 := Z2.c1
  have z2 := Z2.c2
  have z3 := Z2.c3
  have z4 := Z2.c4
  have z5 := Z2.c5
  have z6 := Z2.c6
  have zf := Z2.fz
  have zl := Z2.lt
  clear ho k1 B1 Z1 B2 Z2 hb C HT
  generalize hsl : s.tab.length = sl at *
  go_wp2_with fail
  refine bodyPost_ret (v := stV s (.slice va sl vc)) ?_ rfl ?_
  · simp [results, Tryz.results24, go_sem, z0, z1, z2, z3, z4, z5, z6]
  · refine ⟨.slice va sl vc, ?_, rfl, ?_⟩
    · exact ((HO.out.but (b := w.heap.size) (by omega) ((But.refl _ _).set 6 _)).but (b := w.heap.size + 1) (by omega) ((((((((But.refl _ _).set 0 _).set 1 _).set 2 _).set 3 _).set 4 _).set 5 _).set 6 _)).base (by omega)
    · repeat refine Keeps.set ?_ (by simp <;> omega) _
      exact HK.out

/-- .. of a right state. -/
theorem own_right {s : St} (x : Value) (w : World) (hT : TabAt w x s.tab) (hs : stErr s = 0) :
    Calls Tryz.prog 24 #[stV s x] w fun y w' => ∃ x', OwnTab w.heap.size w' x' s.tab ∧ y = .returned (stV s x') ∧ Keeps w w' := by
  refine own_state s x w hT (tab_three hs) (fun y hy => kept_le ((tab_right (stErr_in hs).2.1).2.1 y hy)) (fun y hy => ?_)
  have := (inB_iff.1 (ses_right ((tab_right (stErr_in hs).2.1).2.1 y hy)).1).1
  omega
end Go.Proofs.YteabfjpajgakiagGreat

/- The reference's EntryError. -/
set_option linter.unusedSimpArgs false
set_option linter.unusedVariables false
set_option maxRecDepth 10000
namespace Go.Proofs.YteabfjpajgakiagGreat
open Go.RowKit

set_option maxHeartbeats 4000000 in
theorem entry_error (e : Ent) (w : World) : Calls Tryz.prog 52 #[entV e] w fun x w' => x = .returned (.int .i64 (entErr e)) ∧ Keeps w w' := by
  have HE : Hid (entErr e = if inB e.kind 1 3 then (if entIn e then (if e.kind == 2 then opErr e.ok e.okey e.oto e.on else if e.seq == 0 && (e.ack == 0 && opNone e) then 0 else 1) else 3) else 4) := rfl
  have HI : Hid (entIn e = (inB e.time 0 999 && (inB e.client 1 5 && (e.kind != 2 || (inB e.seq 1 60 && inB e.ack 0 (e.seq - 1)))))) := rfl
  have HN : Hid (opNone e = (e.ok == 0 && (e.okey == 0 && (e.oto == 0 && e.on == 0)))) := rfl
  have hn := neqop
  cases q1 : inB e.kind 1 3 with
  | false =>
    have HE : Hid (entErr e = 4) := by show _ = _; rw [HE.out, q1]; rfl
    go_enter Tryz.func52, Tryz.ntmps52
    go_wp2_with (first | (go_at_call 32; refine (within_c _ _ _ _).mono ?_; rintro x w' ⟨rfl, rfl⟩))
    go_ret
    exact ⟨ret_int HE.out.symm, (Keeps.refl _).alloc _⟩
  | true =>
    rw [q1] at HE
    cases qt : inB e.time 0 999 with
    | false =>
      have HF : Hid (entErr e = 3) := by show _ = _; rw [HE.out, HI.out, qt]; rfl
      go_enter Tryz.func52, Tryz.ntmps52
      go_wp2_with (first | (go_at_call 32; refine (within_c _ _ _ _).mono ?_; rintro x w' ⟨rfl, rfl⟩))
      go_ret
      exact ⟨ret_int HF.out.symm, (Keeps.refl _).alloc _⟩
    | true =>
      cases qc : inB e.client 1 5 with
      | false =>
        have HF : Hid (entErr e = 3) := by show _ = _; rw [HE.out, HI.out, qt, qc]; rfl
        go_enter Tryz.func52, Tryz.ntmps52
        go_wp2_with (first | (go_at_call 32; refine (within_c _ _ _ _).mono ?_; rintro x w' ⟨rfl, rfl⟩))
        go_ret
        exact ⟨ret_int HF.out.symm, (Keeps.refl _).alloc _⟩
      | true =>
        cases q3 : (e.kind == 2) with
        | false =>
          have q3' : (e.kind != 2) = true := by simp [bne, q3]
          have HEE : Hid (entErr e = if e.seq == 0 && (e.ack == 0 && opNone e) then 0 else 1) := by show _ = _; rw [HE.out, HI.out, qt, qc, q3', q3]; rfl
          cases q4 : (e.seq == 0) with
          | false =>
            have q4' : (e.seq != 0) = true := by simp [bne, q4]
            have HF : Hid (entErr e = 1) := by show _ = _; rw [HEE.out, q4]; rfl
            go_enter Tryz.func52, Tryz.ntmps52
            go_wp2_with (first | (go_at_call 32; refine (within_c _ _ _ _).mono ?_; rintro x w' ⟨rfl, rfl⟩))
            go_ret
            exact ⟨ret_int HF.out.symm, (Keeps.refl _).alloc _⟩
          | true =>
            have q4' : (e.seq != 0) = false := by simp [bne, q4]
            cases q5 : (e.ack == 0) with
            | false =>
              have q5' : (e.ack != 0) = true := by simp [bne, q5]
              have HF : Hid (entErr e = 1) := by show _ = _; rw [HEE.out, q4, q5]; rfl
              go_enter Tryz.func52, Tryz.ntmps52
              go_wp2_with (first | (go_at_call 32; refine (within_c _ _ _ _).mono ?_; rintro x w' ⟨rfl, rfl⟩))
              go_ret
              exact ⟨ret_int HF.out.symm, (Keeps.refl _).alloc _⟩
            | true =>
              have q5' : (e.ack != 0) = false := by simp [bne, q5]
              cases q6 : (e.ok == 0 && (e.okey == 0 && (e.oto == 0 && e.on == 0))) with
              | false =>
                have q6' : (!(e.ok == 0 && (e.okey == 0 && (e.oto == 0 && e.on == 0)))) = true := by rw [q6]; rfl
                have HF : Hid (entErr e = 1) := by show _ = _; rw [HEE.out, q4, q5, HN.out, q6]; rfl
                go_enter Tryz.func52, Tryz.ntmps52
                go_wp2_with (first | (go_at_call 32; refine (within_c _ _ _ _).mono ?_; rintro x w' ⟨rfl, rfl⟩))
                go_ret
                exact ⟨ret_int HF.out.symm, (Keeps.refl _).alloc _⟩
              | true =>
                have q6' : (!(e.ok == 0 && (e.okey == 0 && (e.oto == 0 && e.on == 0)))) = false := by rw [q6]; rfl
                have HF : Hid (entErr e = 0) := by show _ = _; rw [HEE.out, q4, q5, HN.out, q6]; rfl
                go_enter Tryz.func52, Tryz.ntmps52
                go_wp2_with (first | (go_at_call 32; refine (within_c _ _ _ _).mono ?_; rintro x w' ⟨rfl, rfl⟩))
                go_ret
                exact ⟨ret_int HF.out.symm, (Keeps.refl _).alloc _⟩
        | true =>
          have q3' : (e.kind != 2) = false := by simp [bne, q3]
          cases qs : inB e.seq 1 60 with
          | false =>
            have HF : Hid (entErr e = 3) := by show _ = _; rw [HE.out, HI.out, qt, qc, q3', qs]; rfl
            go_enter Tryz.func52, Tryz.ntmps52
            go_wp2_with (first | (go_at_call 32; refine (within_c _ _ _ _).mono ?_; rintro x w' ⟨rfl, rfl⟩))
            go_ret
            exact ⟨ret_int HF.out.symm, (Keeps.refl _).alloc _⟩
          | true =>
            have qs' := inB_iff.1 qs
            obtain ⟨qs1, qs2⟩ := qs'
            cases qa : inB e.ack 0 (e.seq - 1) with
            | false =>
              have HF : Hid (entErr e = 3) := by show _ = _; rw [HE.out, HI.out, qt, qc, q3', qs, qa]; rfl
              go_enter Tryz.func52, Tryz.ntmps52
              go_wp2_with (first | (go_at_call 32; refine (within_c _ _ _ _).mono ?_; rintro x w' ⟨rfl, rfl⟩))
              go_ret
              exact ⟨ret_int HF.out.symm, (Keeps.refl _).alloc _⟩
            | true =>
              have HF : Hid (entErr e = opErr e.ok e.okey e.oto e.on) := by show _ = _; rw [HE.out, HI.out, qt, qc, q3', qs, qa, q3]; rfl
              go_enter Tryz.func52, Tryz.ntmps52
              go_wp2_with (first | (go_at_call 32; refine (within_c _ _ _ _).mono ?_; rintro x w' ⟨rfl, rfl⟩) | (go_at_call 72; refine (op_error e.ok e.okey e.oto e.on _).mono ?_; rintro x w2 ⟨rfl, hb⟩))
              go_ret
              exact ⟨ret_int HF.out.symm, ((Keeps.refl _).alloc _).trans hb⟩

end Go.Proofs.YteabfjpajgakiagGreat

/- States: the reference's StateError. -/
set_option linter.unusedSimpArgs false
set_option linter.unusedVariables false
set_option maxRecDepth 10000
namespace Go.Proofs.YteabfjpajgakiagGreat
open Go.RowKit

set_option maxHeartbeats 2000000 in
theorem state_error_range (s : St) (x : Value) (w : World) (hT : TabAt w x s.tab) (hi : stIn s = false) :
    Calls Tryz.prog 17 #[stV s x] w fun e w' => e = .returned (.int .i64 (stErr s)) ∧ Keeps w w' := by
  obtain ⟨a, c, rfl, hlen⟩ := hT.len
  unfold maxLen at hlen
  clear hT
  have HE : Hid (stErr s = 3) := by simp [Hid, stErr, hi]
  generalize s.tab.length = m at *
  cases q1 : inB s.at_ 0 50 with
  | false =>
    clear hi
    go_enter Tryz.func17, Tryz.ntmps17
    go_wp2_with (first | (go_at_call 32; refine (within_c _ _ _ _).mono ?_; rintro e w' ⟨rfl, rfl⟩))
    go_ret
    exact ⟨ret_int HE.out.symm, (Keeps.refl _).alloc _⟩
  | true =>
    cases q2 : inB s.clock 0 999 with
    | false =>
      clear hi
      go_enter Tryz.func17, Tryz.ntmps17
      go_wp2_with (first | (go_at_call 32; refine (within_c _ _ _ _).mono ?_; rintro e w' ⟨rfl, rfl⟩))
      go_ret
      exact ⟨ret_int HE.out.symm, (Keeps.refl _).alloc _⟩
    | true =>
      have q3 : valsIn s.v0 s.v1 s.v2 s.v3 = false := by simpa [stIn, q1, q2] using hi
      clear hi
      go_enter Tryz.func17, Tryz.ntmps17
      go_wp2_with (first | (go_at_call 32; refine (within_c _ _ _ _).mono ?_; rintro e w' ⟨rfl, rfl⟩))
      refine (st_vals_fine s.v0 s.v1 s.v2 s.v3 _).mono ?_
      rintro e w1 ⟨rfl, hb⟩
      have hk1 : Keeps w w1 := ((Keeps.refl _).alloc _).trans hb
      clear hb
      go_wp2_with fail
      go_ret
      exact ⟨ret_int HE.out.symm, hk1⟩

set_option maxHeartbeats 2000000 in
theorem state_error_in (s : St) (x : Value) (w : World) (hT : TabAt w x s.tab) (hi : stIn s = true) :
    Calls Tryz.prog 17 #[stV s x] w fun e w' => e = .returned (.int .i64 (stErr s)) ∧ Keeps w w' := by
  obtain ⟨a, c, rfl, hlen⟩ := hT.len
  unfold maxLen at hlen
  have HT : Hid (TabAt w (.slice a s.tab.length c) s.tab) := hT
  clear hT
  have hi' := hi
  simp only [stIn, Bool.and_eq_true] at hi'
  obtain ⟨q3, q1, q2⟩ := hi'
  obtain ⟨hc0, hc1⟩ := stIn_clock hi
  have HI : Hid (stIn s = true) := hi
  clear hi
  go_enter Tryz.func17, Tryz.ntmps17
  go_wp2_with (first | (go_at_call 32; refine (within_c _ _ _ _).mono ?_; rintro e w' ⟨rfl, rfl⟩))
  refine (st_vals_fine s.v0 s.v1 s.v2 s.v3 _).mono ?_
  rintro e w1 ⟨rfl, hb⟩
  have hk1 : Keeps w w1 := ((Keeps.refl _).alloc _).trans hb
  have x1 : w1.cell? ⟨w.heap.size, 1, none⟩ = some (.int .i64 s.clock) := (Below.cell hb (p := ⟨w.heap.size, 1, none⟩) (by simp)).trans (by simp [go_sem])
  have x6 : w1.cell? ⟨w.heap.size, 6, none⟩ = some (.slice a s.tab.length c) := (Below.cell hb (p := ⟨w.heap.size, 6, none⟩) (by simp)).trans (by simp [go_sem])
  clear hb
  have hlt := World.block_lt_of_cell? _ _ x6
  simp only [] at hlt
  go_wp2_with fail
  refine (table_error s.tab _ _ (HT.out.keep hk1)).mono ?_
  rintro e w2 ⟨rfl, hb⟩
  have hk2 : Keeps w w2 := hk1.trans hb
  have x1 := cell_kept x1 hb
  have x6 := cell_kept x6 hb
  have hlt := Nat.lt_of_lt_of_le hlt hb.size
  clear hb hk1
  cases he : (tabErr s.tab == 0) with
  | false =>
    have he' : (tabErr s.tab != 0) = true := by simp [bne, he]
    have HE : Hid (stErr s = tabErr s.tab) := by simp [Hid, stErr, HI.out, he]
    go_wp2_with fail
    go_ret
    exact ⟨ret_int HE.out.symm, hk2⟩
  | true =>
    have he' : (tabErr s.tab != 0) = false := by simp [bne, he]
    have HS : Hid (stErr s = if seenAll s.clock s.tab then 0 else 1) := by simp [Hid, stErr, HI.out, he]
    clear he HI
    go_wp2_with fail
    go_loopw [4] (fun i wr => ∃ (k : Nat), k ≤ s.tab.length ∧ i = .int .i64 k ∧ Keeps w2 wr ∧ Hid (seenAll s.clock s.tab = seenAll s.clock (s.tab.drop k))) (fun i _ => s.tab.length - (intOf i).toNat)
    case atStart => exact ⟨0, Nat.zero_le _, rfl, Keeps.refl _, rfl⟩
    case round =>
      obtain ⟨k, hk, rfl, hkw, HQ⟩ := hrel
      have x1 := cell_kept x1 hkw
      have x6 := cell_kept x6 hkw
      have hlt := Nat.lt_of_lt_of_le hlt hkw.size
      by_cases hlt2 : k < s.tab.length
      · obtain ⟨b, off, cap', hv, hcell⟩ := (HT.out.keep (hk2.trans hkw)).at hlt2
        injection hv with hv1 hv2 hv3
        subst hv1
        clear hv2 hv3
        have c2 := (hcell k hlt2).2.2.1
        clear hcell
        have HR : Hid (seenAll s.clock s.tab = (inB (s.tab[k]).seen (s.clock - 20) s.clock && seenAll s.clock (s.tab.drop (k + 1)))) := HQ.out.trans (seenAll_at hlt2)
        clear HQ
        generalize s.tab[k] = t at *
        have hne := After.some wr
        have y1 := fun t : After wr => (Below.cell t.h (p := ⟨w.heap.size, 1, none⟩) hlt).trans x1
        have y6 := fun t : After wr => (Below.cell t.h (p := ⟨w.heap.size, 6, none⟩) hlt).trans x6
        have z2 := fun t : After wr => (Below.cell t.h (p := ⟨b, off + k * 4 + 2, none⟩) (World.block_lt_of_cell? _ _ c2)).trans c2
        cases hs : inB t.seen (s.clock - 20) s.clock with
        | false =>
          have HE : Hid (stErr s = 1) := by show _ = _; rw [HS.out, HR.out, hs]; rfl
          go_wp2_with fail
          refine wp_region_after (by kernel_rfl) (by kernel_rfl) ?_
          repeat (first | go_big_quiet_skip | (go_big_quiet_want; go_big_quiet_op; first | go_big_quiet_on | (apply Exists.intro; refine ⟨fun _ => ?_, ?_⟩; (go_at_call 32; exact calls_after_eq (within_c _ _ _ _) (congrArg Value.bool hs)); go_big_quiet_on)))
          refine wpQuiet_nil ?_
          rintro _ ⟨t, rfl⟩
          go_wp2_with fail
          go_ret
          exact ⟨ret_int HE.out.symm, (hk2.trans hkw).trans t.h⟩
        | true =>
          have HN : Hid (seenAll s.clock s.tab = seenAll s.clock (s.tab.drop (k + 1))) := by show _ = _; rw [HR.out, hs]; rfl
          clear HR
          go_wp2_with fail
          refine wp_region_after (by kernel_rfl) (by kernel_rfl) ?_
          repeat (first | go_big_quiet_skip | (go_big_quiet_want; go_big_quiet_op; first | go_big_quiet_on | (apply Exists.intro; refine ⟨fun _ => ?_, ?_⟩; (go_at_call 32; exact calls_after_eq (within_c _ _ _ _) (congrArg Value.bool hs)); go_big_quiet_on)))
          refine wpQuiet_nil ?_
          rintro _ ⟨t, rfl⟩
          go_wp2_with fail
          go_roundw
          case rel => exact ⟨k + 1, by omega, by go_num, hkw.trans t.h, HN⟩
          case measure => simp [intOf]; omega
      · have HE : Hid (stErr s = 0) := by show _ = _; rw [HS.out, HQ.out, List.drop_of_length_le (by omega)]; rfl
        go_wp2_with fail
        go_ret
        exact ⟨ret_int HE.out.symm, hk2.trans hkw⟩

theorem state_error (s : St) (x : Value) (w : World) (hT : TabAt w x s.tab) :
    Calls Tryz.prog 17 #[stV s x] w fun e w' => e = .returned (.int .i64 (stErr s)) ∧ Keeps w w' := by
  cases h : stIn s with
  | false => exact state_error_range s x w hT h
  | true => exact state_error_in s x w hT h
end Go.Proofs.YteabfjpajgakiagGreat

/- The reference's ListError, folded, FoldOf. -/
set_option linter.unusedSimpArgs false
set_option linter.unusedVariables false
set_option maxRecDepth 10000
namespace Go.Proofs.YteabfjpajgakiagGreat
open Go.RowKit

set_option maxHeartbeats 2000000 in
theorem list_error (L : List Ent) (v : Value) (w : World) (hL : EntsAt w v L) : Calls Tryz.prog 36 #[v] w fun y w' => y = .returned (.int .i64 (listErr L)) ∧ Keeps w w' := by
  obtain ⟨a, cap, rfl, hlen⟩ := hL.len
  unfold maxLen at hlen
  have HL : Hid (EntsAt w (.slice a L.length cap) L) := hL
  clear hL
  by_cases h50 : 50 < L.length
  · have HE : Hid (listErr L = 2) := by show _ = _; simp [listErr, h50]
    go_enter Tryz.func36, Tryz.ntmps36
    go_wp2_with fail
    go_ret
    exact ⟨ret_int HE.out.symm, Keeps.refl _⟩
  · have HE : Hid (listErr L = fentErr L) := by show _ = _; simp [listErr, h50]
    go_enter Tryz.func36, Tryz.ntmps36
    go_wp2_with fail
    go_loopw [3] (fun i wr => ∃ (k : Nat), k ≤ L.length ∧ i = .int .i64 k ∧ Hid (Keeps w wr) ∧ Hid (fentErr L = fentErr (L.drop k))) (fun i _ => L.length - (intOf i).toNat)
    case atStart => exact ⟨0, Nat.zero_le _, rfl, Keeps.refl _, rfl⟩
    case round =>
      obtain ⟨k, hk, rfl, HK, HQ⟩ := hrel
      by_cases hlt : k < L.length
      · obtain ⟨b, off, cap', hv, c0, c1, c2, c3, c4, c5, c6, c7, c8⟩ := (HL.out.keep HK.out).at hlt
        injection hv with hv1 hv2 hv3
        subst hv1
        clear hv2 hv3
        have HR : Hid (fentErr L = if entErr (L[k]) == 0 then fentErr (L.drop (k + 1)) else entErr (L[k])) := HQ.out.trans (fentErr_at hlt)
        clear HQ
        generalize L[k] = e at *
        go_wp2_with fail
        refine (entry_error e _).mono ?_
        rintro y w2 ⟨rfl, hb⟩
        have HK2 : Hid (Keeps w w2) := HK.out.trans hb
        clear hb c0 c1 c2 c3 c4 c5 c6 c7 c8
        cases hq : (entErr e == 0) with
        | true =>
          have hq' : (entErr e != 0) = false := by simp [bne, hq]
          have HN : Hid (fentErr L = fentErr (L.drop (k + 1))) := by show _ = _; rw [HR.out, hq]; rfl
          generalize entErr e = er at *
          go_wp2_with fail
          go_roundw
          case rel => exact ⟨k + 1, by omega, by go_num, HK2, HN⟩
          case measure => simp [intOf]; omega
        | false =>
          have hq' : (entErr e != 0) = true := by simp [bne, hq]
          have HN : Hid (listErr L = entErr e) := by show _ = _; rw [HE.out, HR.out, hq]; rfl
          generalize entErr e = er at *
          go_wp2_with fail
          go_ret
          exact ⟨ret_int HN.out.symm, HK2.out⟩
      · have HN : Hid (listErr L = 0) := by show _ = _; rw [HE.out, HQ.out, List.drop_of_length_le (by omega)]; rfl
        go_wp2_with fail
        go_ret
        exact ⟨ret_int HN.out.symm, HK.out⟩


/-- A row of one, just laid. -/
theorem row_new1 (w : World) (u : Value) (t : TypeId) : RowAt (w.alloc (.cells #[u] t)) 1 (.slice (some ⟨w.heap.size, 0, none⟩) 1 1) 1 [u] := by
  refine ⟨rfl, by unfold maxLen; omega, .inr ⟨_, _, rfl, fun j u' hu => ?_⟩⟩
  match j, hu with
  | 0, hu => cases hu; simp [go_sem]

/-- What stands between two rounds of folded. -/
structure FoldedAt (s : St) (w : World) (L : List Ent) (k : Nat) (o d : Value) (wr : World) : Prop where
  box : ∃ qa qc, StBox w.heap.size (runSt s (L.take k)) (.slice qa (runSt s (L.take k)).tab.length qc) wr ∧ OwnTab (w.heap.size + 2) wr (.slice qa (runSt s (L.take k)).tab.length qc) (runSt s (L.take k)).tab
  zero : StBox (w.heap.size + 1) zeroSt (.slice none 0 0) wr
  ans : wr.ownsRow (w.heap.size + 2) 3 1 o k (intCells (runAns s (L.take k)))
  done : wr.ownsRow (w.heap.size + 2) 4 1 d k (boolCells (runDone s (L.take k)))
  keeps : Keeps w wr

set_option maxHeartbeats 4000000 in
theorem folded_c (s : St) (L : List Ent) (x v : Value) (w : World) (hT : TabAt w x s.tab) (hL : EntsAt w v L) (hs : stErr s = 0) (he : ∀ e ∈ L, entErr e = 0) (hr : s.at_ + L.length ≤ 50) :
    Calls Tryz.prog 39 #[stV s x, v] w fun y w' => ∃ qa qc ra rc da dc, Hid (OwnTab w.heap.size w' (.slice qa (runSt s L).tab.length qc) (runSt s L).tab) ∧ Hid (w'.ownsRow w.heap.size 3 1 (.slice ra L.length rc) L.length (intCells (runAns s L))) ∧ Hid (w'.ownsRow w.heap.size 4 1 (.slice da L.length dc) L.length (boolCells (runDone s L))) ∧
      y = .returned (.tuple #[stV (runSt s L) (.slice qa (runSt s L).tab.length qc), .slice ra L.length rc, .slice da L.length dc]) ∧ Keeps w w' := by
  obtain ⟨xa, xc, rfl, _⟩ := hT.len
  obtain ⟨la, lc, rfl, hlen⟩ := hL.len
  unfold maxLen at hlen
  have hl50 : L.length ≤ 50 := by have := (stErr_bounds hs).1.1; omega
  have HT : Hid (TabAt w (.slice xa s.tab.length xc) s.tab) := hT
  have HL : Hid (EntsAt w (.slice la L.length lc) L) := hL
  have HS : Hid (stErr s = 0) := hs
  have HE : Hid (∀ e ∈ L, entErr e = 0) := he
  have HRM : Hid (s.at_ + L.length ≤ 50) := hr
  clear hT hL hs he hr
  go_enter Tryz.func39, Tryz.ntmps39
  go_wp2_with fail
  obtain ⟨W1, hW1⟩ : ∃ W1, W1 = (w.alloc (.cells #[.int .i64 s.at_, .int .i64 s.clock, .int .i64 s.v0, .int .i64 s.v1, .int .i64 s.v2, .int .i64 s.v3, .slice xa s.tab.length xc] 25)).alloc (.cells #[.int .i64 0, .int .i64 0, .int .i64 0, .int .i64 0, .int .i64 0, .int .i64 0, .slice none 0 0] 25) := ⟨_, rfl⟩
  have k1 : Keeps w W1 := by rw [hW1]; exact ((Keeps.refl _).alloc _).alloc _
  have B1 : StBox w.heap.size s (.slice xa s.tab.length xc) W1 := by rw [hW1]; exact (StBox.new w s _ 25).keep ((Keeps.refl _).alloc _)
  have Z1 : StBox (w.heap.size + 1) zeroSt (.slice none 0 0) W1 := by
    rw [hW1]
    have := StBox.new (w.alloc (.cells #[.int .i64 s.at_, .int .i64 s.clock, .int .i64 s.v0, .int .i64 s.v1, .int .i64 s.v2, .int .i64 s.v3, .slice xa s.tab.length xc] 25)) zeroSt (.slice none 0 0) 25
    simp only [World.size_alloc] at this
    exact this
  have hz1 : W1.heap.size = w.heap.size + 2 := by rw [hW1]; simp
  rw [← hW1]
  clear hW1
  refine (own_right _ W1 (HT.out.keep k1) HS.out).mono ?_
  rintro y w2 ⟨v', ho, rfl, hb⟩
  obtain ⟨va, vc, rfl, _⟩ := ho.tab.len
  have HO : Hid (OwnTab W1.heap.size w2 (.slice va s.tab.length vc) s.tab) := ho
  have HK2 : Hid (Keeps w w2) := k1.trans hb
  have HB2 : Hid (StBox w.heap.size s (.slice xa s.tab.length xc) w2) := B1.keep hb
  have HZ2 : Hid (StBox (w.heap.size + 1) zeroSt (.slice none 0 0) w2) := Z1.keep hb
  have b0 := HB2.out.c0
  have b1 := HB2.out.c1
  have b2 := HB2.out.c2
  have b3 := HB2.out.c3
  have b4 := HB2.out.c4
  have b5 := HB2.out.c5
  have b6 := HB2.out.c6
  have bz := HB2.out.fz
  have bl := HB2.out.lt
  clear ho k1 B1 Z1 hb
  go_wp2_with fail
  have BP := HB2.out.put s (.slice va s.tab.length vc)
  have BT := But.puts (b := w.heap.size) w2 s (.slice va s.tab.length vc)
  obtain ⟨W3, hW3⟩ : ∃ z, z = (((((((w2.setCell ⟨w.heap.size, 0, none⟩ (.int .i64 s.at_)).setCell ⟨w.heap.size, 1, none⟩ (.int .i64 s.clock)).setCell ⟨w.heap.size, 2, none⟩ (.int .i64 s.v0)).setCell ⟨w.heap.size, 3, none⟩ (.int .i64 s.v1)).setCell ⟨w.heap.size, 4, none⟩ (.int .i64 s.v2)).setCell ⟨w.heap.size, 5, none⟩ (.int .i64 s.v3)).setCell ⟨w.heap.size, 6, none⟩ (.slice va s.tab.length vc)) := ⟨_, rfl⟩
  rw [← hW3] at BP BT ⊢
  clear hW3 b0 b1 b2 b3 b4 b5 b6 bz bl
  have H3 : Hid (FoldedAt s w L 0 (.slice none 0 0) (.slice none 0 0) W3) := ⟨⟨va, vc, BP, (HO.out.but (by omega) BT).base (by omega)⟩, HZ2.out.other BT (by omega), ⟨rfl, .inl ⟨rfl, rfl⟩⟩, ⟨rfl, .inl ⟨rfl, rfl⟩⟩, But.to HK2.out (Nat.le_refl _) BT⟩
  clear BP BT HO HK2 HB2 HZ2 hz1
  go_loopw [7, 8, 9] (fun o d i wr => ∃ (k : Nat), k ≤ L.length ∧ i = .int .i64 k ∧ Hid (FoldedAt s w L k o d wr)) (fun _ _ i _ => L.length - (intOf i).toNat)
  case atStart => exact ⟨0, Nat.zero_le _, rfl, H3⟩
  case round =>
    obtain ⟨k, hk, rfl, HF⟩ := hrel
    by_cases hlt : k < L.length
    · obtain ⟨b, off, cap', hv, c0, c1, c2, c3, c4, c5, c6, c7, c8⟩ := (HL.out.keep HF.out.keeps).at hlt
      injection hv with hv1 hv2 hv3
      subst hv1
      clear hv2 hv3
      have hbw : b < w.heap.size := by
        obtain ⟨b', off', cap'', hv', d0, _⟩ := HL.out.at hlt
        injection hv' with hv1' hv2' hv3'
        injection hv1' with hv1'
        injection hv1' with hvb
        subst hvb
        exact World.block_lt_of_cell? _ _ d0
      have HBW : Hid (b < w.heap.size) := hbw
      obtain ⟨ya, yc, hBy, hOy⟩ := HF.out.box
      have hr0 : ∀ e ∈ L.take k, entErr e = 0 := fun e he => HE.out e (List.mem_of_mem_take he)
      have hrm := HRM.out
      have hst := run_right HS.out hr0 (by simp; omega)
      have hent := HE.out _ (List.getElem_mem hlt)
      have htl : ((L.take k).length : Int) = k := by simp; omega
      have hat : (runSt s (L.take k)).at_ ≠ 50 := by rw [hst.2, htl]; omega
      have hbe : bothErr (runSt s (L.take k)) (L[k]) = 0 := both_zero hst.1 hent hat
      have e1 : oneSt (runSt s (L.take k)) (L[k]) = takenSt (ticked (runSt s (L.take k)) (L[k]).time) (L[k]) := by simp [oneSt, hbe]
      have e2 : oneAns (runSt s (L.take k)) (L[k]) = takenAns (ticked (runSt s (L.take k)) (L[k]).time) (L[k]) := by simp [oneAns, hbe]
      have e3 : oneDone (runSt s (L.take k)) (L[k]) = takenDone (ticked (runSt s (L.take k)) (L[k]).time) (L[k]) := by simp [oneDone, hbe]
      have HNX : Hid (runSt s (L.take (k + 1)) = oneSt (runSt s (L.take k)) (L[k])) := by show _ = _; rw [List.take_succ_eq_append_getElem hlt, runSt_snoc]
      have HNA : Hid (runAns s (L.take (k + 1)) = runAns s (L.take k) ++ [oneAns (runSt s (L.take k)) (L[k])]) := by show _ = _; rw [List.take_succ_eq_append_getElem hlt, runAns_append]; rfl
      have HND : Hid (runDone s (L.take (k + 1)) = runDone s (L.take k) ++ [oneDone (runSt s (L.take k)) (L[k])]) := by show _ = _; rw [List.take_succ_eq_append_getElem hlt, runDone_append]; rfl
      have HC : Hid (∀ W, Keeps wr W → Calls Tryz.prog 57 #[stV (runSt s (L.take k)) (.slice ya (runSt s (L.take k)).tab.length yc), entV (L[k])] W fun y w' => ∃ qa qc, Hid (OwnTab W.heap.size w' (.slice qa (oneSt (runSt s (L.take k)) (L[k])).tab.length qc) (oneSt (runSt s (L.take k)) (L[k])).tab) ∧ y = .returned (.tuple #[stV (oneSt (runSt s (L.take k)) (L[k])) (.slice qa (oneSt (runSt s (L.take k)) (L[k])).tab.length qc), .int .i64 (oneAns (runSt s (L.take k)) (L[k])), .bool (oneDone (runSt s (L.take k)) (L[k]))]) ∧ Keeps W w') := by
        intro W hk
        rw [e1, e2, e3]
        refine (applied_c _ _ _ W (hOy.tab.keep hk) hst.1 hent hat).mono ?_
        rintro y w' ⟨x', ho, rfl, hb⟩
        obtain ⟨qa, qc, rfl, _⟩ := ho.tab.len
        exact ⟨qa, qc, ho, rfl, hb⟩
      have HB : Hid (StBox w.heap.size (runSt s (L.take k)) (.slice ya (runSt s (L.take k)).tab.length yc) wr) := hBy
      have HAN : Hid (wr.ownsRow (w.heap.size + 2) 3 1 u7 k (intCells (runAns s (L.take k)))) := HF.out.ans
      have HDN : Hid (wr.ownsRow (w.heap.size + 2) 4 1 u8 k (boolCells (runDone s (L.take k)))) := HF.out.done
      have HAP : Hid (∀ g, u7.ownBlock = some g → u8.ownBlock = some g → False) := owns_types HF.out.ans HF.out.done (by decide)
      have HZ : Hid (StBox (w.heap.size + 1) zeroSt (.slice none 0 0) wr) := HF.out.zero
      have HKw : Hid (Keeps w wr) := HF.out.keeps
      clear hBy hOy hr0 hst hent htl hat hbe e1 e2 e3 HF hrm
      obtain ⟨t', htt⟩ : ∃ t', oneSt (runSt s (L.take k)) (L[k]) = t' := ⟨_, rfl⟩
      obtain ⟨an, han⟩ : ∃ an, oneAns (runSt s (L.take k)) (L[k]) = an := ⟨_, rfl⟩
      obtain ⟨dn, hdn⟩ : ∃ dn, oneDone (runSt s (L.take k)) (L[k]) = dn := ⟨_, rfl⟩
      rw [htt, han, hdn] at HC
      rw [htt] at HNX
      rw [han] at HNA
      rw [hdn] at HND
      clear htt han hdn
      generalize runSt s (L.take k) = t at *
      generalize hra : runAns s (L.take k) = ra0 at *
      generalize hrd : runDone s (L.take k) = rd0 at *
      generalize L[k] = e at *
      have HSA : Hid (∀ W, Keeps wr W → W.cell? ⟨b, off + k * 9, none⟩ = some (.int .i64 e.kind) ∧ W.cell? ⟨b, off + k * 9 + 1, none⟩ = some (.int .i64 e.time) ∧ W.cell? ⟨b, off + k * 9 + 2, none⟩ = some (.int .i64 e.client) ∧ W.cell? ⟨b, off + k * 9 + 3, none⟩ = some (.int .i64 e.seq) ∧ W.cell? ⟨b, off + k * 9 + 4, none⟩ = some (.int .i64 e.ack) ∧ W.cell? ⟨b, off + k * 9 + 5, none⟩ = some (.int .i64 e.ok) ∧ W.cell? ⟨b, off + k * 9 + 6, none⟩ = some (.int .i64 e.okey) ∧ W.cell? ⟨b, off + k * 9 + 7, none⟩ = some (.int .i64 e.oto) ∧ W.cell? ⟨b, off + k * 9 + 8, none⟩ = some (.int .i64 e.on)) := fun W hk => ⟨cell_kept c0 hk, cell_kept c1 hk, cell_kept c2 hk, cell_kept c3 hk, cell_kept c4 hk, cell_kept c5 hk, cell_kept c6 hk, cell_kept c7 hk, cell_kept c8 hk⟩
      have HSB : Hid (∀ W, But w.heap.size wr W → W.cell? ⟨b, off + k * 9, none⟩ = some (.int .i64 e.kind) ∧ W.cell? ⟨b, off + k * 9 + 1, none⟩ = some (.int .i64 e.time) ∧ W.cell? ⟨b, off + k * 9 + 2, none⟩ = some (.int .i64 e.client) ∧ W.cell? ⟨b, off + k * 9 + 3, none⟩ = some (.int .i64 e.seq) ∧ W.cell? ⟨b, off + k * 9 + 4, none⟩ = some (.int .i64 e.ack) ∧ W.cell? ⟨b, off + k * 9 + 5, none⟩ = some (.int .i64 e.ok) ∧ W.cell? ⟨b, off + k * 9 + 6, none⟩ = some (.int .i64 e.okey) ∧ W.cell? ⟨b, off + k * 9 + 7, none⟩ = some (.int .i64 e.oto) ∧ W.cell? ⟨b, off + k * 9 + 8, none⟩ = some (.int .i64 e.on)) := fun W hk => ⟨hk.at c0 (by simp; omega), hk.at c1 (by simp; omega), hk.at c2 (by simp; omega), hk.at c3 (by simp; omega), hk.at c4 (by simp; omega), hk.at c5 (by simp; omega), hk.at c6 (by simp; omega), hk.at c7 (by simp; omega), hk.at c8 (by simp; omega)⟩
      clear c0 c1 c2 c3 c4 c5 c6 c7 c8 hbw
      go_wp2_with fail
      obtain ⟨V0, hV0⟩ : ∃ z, z = wr.drew := ⟨_, rfl⟩
      have k0 : Keeps wr V0 := by rw [hV0]; exact (Keeps.refl _).drew
      refine wp_region_held_drew (S := (fun W => W.cell? ⟨b, off + k * 9, none⟩ = some (.int .i64 e.kind) ∧ W.cell? ⟨b, off + k * 9 + 1, none⟩ = some (.int .i64 e.time) ∧ W.cell? ⟨b, off + k * 9 + 2, none⟩ = some (.int .i64 e.client) ∧ W.cell? ⟨b, off + k * 9 + 3, none⟩ = some (.int .i64 e.seq) ∧ W.cell? ⟨b, off + k * 9 + 4, none⟩ = some (.int .i64 e.ack) ∧ W.cell? ⟨b, off + k * 9 + 5, none⟩ = some (.int .i64 e.ok) ∧ W.cell? ⟨b, off + k * 9 + 6, none⟩ = some (.int .i64 e.okey) ∧ W.cell? ⟨b, off + k * 9 + 7, none⟩ = some (.int .i64 e.oto) ∧ W.cell? ⟨b, off + k * 9 + 8, none⟩ = some (.int .i64 e.on))) (by kernel_rfl) (HSA.out _ (Keeps.refl _).drew) (fun hS => ?_)
      rw [← hV0] at hS ⊢
      clear hV0
      refine wpAnyH_take (i := 1) (v := .slice (some ⟨b, off, none⟩) L.length lc) rfl (by kernel_rfl) (by kernel_rfl) (by kernel_rfl) (fun _ _ _ h => h) (Or.inl ⟨by rfl, ?_⟩) hS ?_
      · intro w hS; go_simp
      refine wpAnyH_take (i := 2) (v := .int .i64 k) rfl (by kernel_rfl) (by kernel_rfl) (by kernel_rfl) (fun _ _ _ h => h) (Or.inl ⟨by rfl, ?_⟩) hS ?_
      · intro w hS; go_simp
      refine wpAnyH_take (i := 3) (v := .pointer (some ⟨b, off + k * 9, none⟩)) rfl (by kernel_rfl) (by kernel_rfl) (by kernel_rfl) (fun _ _ _ h => h) (Or.inl ⟨by rfl, ?_⟩) hS ?_
      · intro w hS; go_simp
      refine wpAnyH_take (i := 4) (v := entV e) rfl (by kernel_rfl) (by kernel_rfl) (by kernel_rfl) (fun _ _ _ h => h) (Or.inl ⟨by rfl, ?_⟩) hS ?_
      · intro w hS; go_simp
      refine wpAnyH_ready (rs := [0]) (by kernel_rfl) (by simp) ?_
      refine AllReadyH.cons rfl (fun K hK => ?_) (AllReadyH.nil)
      have z0 := (HB.out.keep k0).c0
      have z1 := (HB.out.keep k0).c1
      have z2 := (HB.out.keep k0).c2
      have z3 := (HB.out.keep k0).c3
      have z4 := (HB.out.keep k0).c4
      have z5 := (HB.out.keep k0).c5
      have z6 := (HB.out.keep k0).c6
      go_simp
      refine hK.out _ _ (HSA.out _ k0) (fun hS => ?_)
      clear hK K z0 z1 z2 z3 z4 z5 z6
      refine wpAnyH_ready (rs := [5]) (by kernel_rfl) (by simp) ?_
      refine AllReadyH.cons rfl (fun K hK => ?_) (AllReadyH.nil)
      go_simp
      refine (HC.out V0 k0).mono ?_
      rintro y V2 ⟨qa, qc, HO2, rfl, hb⟩
      have k2 := k0.trans hb
      go_simp
      refine hK.out _ _ (HSA.out _ k2) (fun hS => ?_)
      clear hK K
      refine wpAnyH_take (i := 6) (v := .tuple #[stV t' (.slice qa t'.tab.length qc), .int .i64 an, .bool dn]) rfl (by kernel_rfl) (by kernel_rfl) (by kernel_rfl) (fun _ _ _ h => h) (Or.inl ⟨by rfl, ?_⟩) hS ?_
      · intro w hS; go_simp
      refine wpAnyH_take (i := 7) (v := stV t' (.slice qa t'.tab.length qc)) rfl (by kernel_rfl) (by kernel_rfl) (by kernel_rfl) (fun _ _ _ h => h) (Or.inl ⟨by rfl, ?_⟩) hS ?_
      · intro w hS; go_simp
      refine wpAnyH_take (i := 8) (v := .int .i64 an) rfl (by kernel_rfl) (by kernel_rfl) (by kernel_rfl) (fun _ _ _ h => h) (Or.inl ⟨by rfl, ?_⟩) hS ?_
      · intro w hS; go_simp
      refine wpAnyH_take (i := 9) (v := .bool dn) rfl (by kernel_rfl) (by kernel_rfl) (by kernel_rfl) (fun _ _ _ h => h) (Or.inl ⟨by rfl, ?_⟩) hS ?_
      · intro w hS; go_simp
      refine wpAnyH_ready (rs := [10]) (by kernel_rfl) (by simp) ?_
      refine AllReadyH.cons rfl (fun K hK => ?_) (AllReadyH.nil)
      have z0 := (HB.out.keep k2).c0
      have z1 := (HB.out.keep k2).c1
      have z2 := (HB.out.keep k2).c2
      have z3 := (HB.out.keep k2).c3
      have z4 := (HB.out.keep k2).c4
      have z5 := (HB.out.keep k2).c5
      have z6 := (HB.out.keep k2).c6
      have zf := (HB.out.keep k2).fz
      have zl := (HB.out.keep k2).lt
      go_simp
      have BP := (HB.out.keep k2).put t' (.slice qa t'.tab.length qc)
      have BT := But.puts (b := w.heap.size) V2 t' (.slice qa t'.tab.length qc)
      obtain ⟨WF, hWF⟩ : ∃ z, z = (((((((V2.setCell ⟨w.heap.size, 0, none⟩ (.int .i64 t'.at_)).setCell ⟨w.heap.size, 1, none⟩ (.int .i64 t'.clock)).setCell ⟨w.heap.size, 2, none⟩ (.int .i64 t'.v0)).setCell ⟨w.heap.size, 3, none⟩ (.int .i64 t'.v1)).setCell ⟨w.heap.size, 4, none⟩ (.int .i64 t'.v2)).setCell ⟨w.heap.size, 5, none⟩ (.int .i64 t'.v3)).setCell ⟨w.heap.size, 6, none⟩ (.slice qa t'.tab.length qc)) := ⟨_, rfl⟩
      rw [← hWF] at BP BT ⊢
      clear hWF z0 z1 z2 z3 z4 z5 z6 zf zl
      have hbw := HBW.out
      refine hK.out _ _ (HSB.out _ (But.trans (But.of k2) BT)) (fun hS => ?_)
      clear hK K
      refine wpAnyH_take (i := 11) (v := .int .i64 an) rfl (by kernel_rfl) (by kernel_rfl) (by kernel_rfl) (fun _ _ _ h => h) (Or.inl ⟨by rfl, ?_⟩) hS ?_
      · intro w hS; go_simp
      refine wpAnyH_take (i := 12) (v := .bool dn) rfl (by kernel_rfl) (by kernel_rfl) (by kernel_rfl) (fun _ _ _ h => h) (Or.inl ⟨by rfl, ?_⟩) hS ?_
      · intro w hS; go_simp
      refine wpAnyH_done (by kernel_rfl) ?_ _
      have hzk := k2.size
      have hz0 := k0.size
      have hbwr := HB.out.lt
      have AN1 : WF.ownsRow (w.heap.size + 2) 3 1 u7 k (intCells ra0) := owns_far (owns_keep HAN.out k2) (by omega) BT
      have DN1 : WF.ownsRow (w.heap.size + 2) 4 1 u8 k (boolCells rd0) := owns_far (owns_keep HDN.out k2) (by omega) BT
      have OT1 : OwnTab V0.heap.size WF (.slice qa t'.tab.length qc) t'.tab := HO2.out.but (by omega) BT
      have ZB1 : StBox (w.heap.size + 1) zeroSt (.slice none 0 0) WF := (HZ.out.keep k2).other BT (by omega)
      have KW1 : Keeps w WF := But.to (HKw.out.trans k2) (Nat.le_refl _) BT
      have hzF : V0.heap.size ≤ WF.heap.size := by have := BT.size; have := hb.size; omega
      have hgA : ∀ g, u7.ownBlock = some g → g < V0.heap.size := fun g h => by have := (HAN.out.lt g h).2; omega
      have hgD : ∀ g, u8.ownBlock = some g → g < V0.heap.size := fun g h => by have := (HDN.out.lt g h).2; omega
      have hzw : w.heap.size + 2 ≤ wr.heap.size := by have := HZ.out.lt; omega
      obtain ⟨v1, w3, hr1, ho1, hg1⟩ := run_append_read (WF.alloc (.cells #[.int .i64 an] 3)) (w.heap.size + 2) 84 84 3 1 8 _ infoInt Tryz.underlying84 rfl (by decide) u7 k (intCells ra0) (owns_keep AN1 ((Keeps.refl _).alloc _)) _ 1 [.int .i64 an] (row_new1 WF _ 3) (by simp [Value.oneCell']) (by unfold maxLen; omega) (by omega) (by simp; omega)
      have SP1 : Spares (fun g => ∀ h, u7.ownBlock = some h → g ≠ h) WF w3 := (Spares.of ((Keeps.refl _).alloc _)).trans (Spares.grown hg1 (fun b e h => h b e rfl))
      obtain ⟨v2, w4, hr2, ho2, hg2⟩ := run_append_read (w3.alloc (.cells #[.bool dn] 4)) (w.heap.size + 2) 85 85 4 1 1 _ infoBool Tryz.underlying85 rfl (by decide) u8 k (boolCells rd0) (owns_keep (owns_spared_at DN1 SP1 (fun g h g' h' => fun e => HAP.out g' h' (e ▸ h))) ((Keeps.refl _).alloc _)) _ 1 [.bool dn] (row_new1 w3 _ 4) (by simp [Value.oneCell']) (by unfold maxLen; omega) (by omega) (by simp; have := SP1.size; omega)
      have SP2 : Spares (fun g => ∀ h, u8.ownBlock = some h → g ≠ h) w3 w4 := (Spares.of ((Keeps.refl _).alloc _)).trans (Spares.grown hg2 (fun b e h => h b e rfl))
      have SPT : Spares (fun g => (∀ h, u7.ownBlock = some h → g ≠ h) ∧ (∀ h, u8.ownBlock = some h → g ≠ h)) WF w4 := (SP1.mono (fun g _ h => h.1)).trans (SP2.mono (fun g _ h => h.2))
      have hap : ∀ g, v1.ownBlock = some g → u8.ownBlock = some g → False := owns_types ho1 (owns_spared_at DN1 SP1 (fun g h g' h' => fun e => HAP.out g' h' (e ▸ h))) (by decide)
      have HNXT : Hid (FoldedAt s w L (k + 1) v1 v2 w4) := by
        refine ⟨⟨qa, qc, ?_, ?_⟩, ?_, ?_, ?_, ?_⟩
        · rw [HNX.out]; exact BP.spared SPT ⟨fun h hh => by have := (HAN.out.lt h hh).1; omega, fun h hh => by have := (HDN.out.lt h hh).1; omega⟩
        · rw [HNX.out]; exact (OT1.spared SPT (fun g hg _ => ⟨fun h hh => by have := hgA h hh; omega, fun h hh => by have := hgD h hh; omega⟩)).base (by omega)
        · exact ZB1.spared SPT ⟨fun h hh => by have := (HAN.out.lt h hh).1; omega, fun h hh => by have := (HDN.out.lt h hh).1; omega⟩
        · rw [HNA.out]
          have := owns_spared_at ho1 SP2 (fun g h g' h' e => hap g' (e ▸ h) h')
          simpa [intCells] using this
        · rw [HND.out]; simpa [boolCells] using ho2
        · exact SPT.keeps KW1 (fun g hg => ⟨fun h hh => by have := (HAN.out.lt h hh).1; omega, fun h hh => by have := (HDN.out.lt h hh).1; omega⟩)
      have Hr1 := (show Hid (_ = _) from hr1)
      have Hr2 := (show Hid (_ = _) from hr2)
      clear hr1 hr2 ho1 ho2 hg1 hg2 SP1 SP2 SPT hap AN1 DN1 OT1 ZB1 KW1 hzF hgA hgD hzw BP BT k2 hb k0 hzk hz0 hbwr HO2 HC HB HAN HDN HAP HZ HSA HSB HNX HNA HND HBW
      go_wp2_with (at_builtin; first | refine wpList_append_run rfl _ _ _ rfl rfl rfl Hr1.out ?_ | refine wpList_append_run rfl _ _ _ rfl rfl rfl Hr2.out ?_)
      go_roundw
      case rel => exact ⟨k + 1, by omega, by go_num, HNXT⟩
      case measure => simp [intOf]; omega
    · have hkl : k = L.length := by omega
      subst hkl
      obtain ⟨ya, yc, hBy, hOy⟩ := HF.out.box
      have hA := HF.out.ans
      have hD := HF.out.done
      have hZ := HF.out.zero
      have hKw := HF.out.keeps
      rw [List.take_length] at hBy hOy hA hD
      obtain ⟨ra, rc, hra, _⟩ := (RowAt.of_owns hA).len
      obtain ⟨da, dc, hda, _⟩ := (RowAt.of_owns hD).len
      subst hra hda
      have b0 := hBy.c0
      have b1 := hBy.c1
      have b2 := hBy.c2
      have b3 := hBy.c3
      have b4 := hBy.c4
      have b5 := hBy.c5
      have b6 := hBy.c6
      have bl := hBy.lt
      have z0 := hZ.c0
      have z1 := hZ.c1
      have z2 := hZ.c2
      have z3 := hZ.c3
      have z4 := hZ.c4
      have z5 := hZ.c5
      have z6 := hZ.c6
      have zf := hZ.fz
      have zl := hZ.lt
      have HO : Hid (OwnTab (w.heap.size + 2) wr (.slice ya (runSt s L).tab.length yc) (runSt s L).tab) := hOy
      have HA : Hid (wr.ownsRow (w.heap.size + 2) 3 1 (.slice ra L.length rc) L.length (intCells (runAns s L))) := hA
      have HD : Hid (wr.ownsRow (w.heap.size + 2) 4 1 (.slice da L.length dc) L.length (boolCells (runDone s L))) := hD
      have HKw : Hid (Keeps w wr) := hKw
      have BT := But.puts (b := w.heap.size + 1) wr (runSt s L) (.slice ya (runSt s L).tab.length yc)
      have HBT := (show Hid _ from BT)
      clear hBy hOy hA hD hZ hKw HF BT
      go_wp2_with fail
      refine bodyPost_ret (v := .tuple #[stV (runSt s L) (.slice ya (runSt s L).tab.length yc), .slice ra L.length rc, .slice da L.length dc]) ?_ rfl ?_
      · simp [results, Tryz.results39, go_sem, z0, z1, z2, z3, z4, z5, z6]
      · exact ⟨ya, yc, ra, rc, da, dc, (HO.out.but (by omega) HBT.out).base (by omega), owns_base (owns_far HA.out (by omega) HBT.out) (by omega), owns_base (owns_far HD.out (by omega) HBT.out) (by omega), rfl, But.to HKw.out (by omega) HBT.out⟩
end Go.Proofs.YteabfjpajgakiagGreat

/- Entries, the same or not. -/
set_option linter.unusedSimpArgs false
set_option linter.unusedVariables false
set_option maxRecDepth 10000
namespace Go.Proofs.YteabfjpajgakiagGreat
open Go.RowKit

def sameEnt (a b : Ent) : Bool := a.kind == b.kind && (a.time == b.time && (a.client == b.client && (a.seq == b.seq && (a.ack == b.ack && (a.ok == b.ok && (a.okey == b.okey && (a.oto == b.oto && a.on == b.on)))))))
theorem sameEnt_self (a : Ent) : sameEnt a a = true := by simp [sameEnt]
theorem partE (a0 a1 a2 a3 a4 a5 a6 a7 a8 : Int) (w : World) : (part 3 #[.int .i64 a0, .int .i64 a1, .int .i64 a2, .int .i64 a3, .int .i64 a4, .int .i64 a5, .int .i64 a6, .int .i64 a7, .int .i64 a8] 0).run Tryz.prog w = .ok (.int .i64 a0) w ∧ (part 3 #[.int .i64 a0, .int .i64 a1, .int .i64 a2, .int .i64 a3, .int .i64 a4, .int .i64 a5, .int .i64 a6, .int .i64 a7, .int .i64 a8] 1).run Tryz.prog w = .ok (.int .i64 a1) w ∧ (part 3 #[.int .i64 a0, .int .i64 a1, .int .i64 a2, .int .i64 a3, .int .i64 a4, .int .i64 a5, .int .i64 a6, .int .i64 a7, .int .i64 a8] 2).run Tryz.prog w = .ok (.int .i64 a2) w ∧ (part 3 #[.int .i64 a0, .int .i64 a1, .int .i64 a2, .int .i64 a3, .int .i64 a4, .int .i64 a5, .int .i64 a6, .int .i64 a7, .int .i64 a8] 3).run Tryz.prog w = .ok (.int .i64 a3) w ∧ (part 3 #[.int .i64 a0, .int .i64 a1, .int .i64 a2, .int .i64 a3, .int .i64 a4, .int .i64 a5, .int .i64 a6, .int .i64 a7, .int .i64 a8] 4).run Tryz.prog w = .ok (.int .i64 a4) w ∧ (part 33 #[.int .i64 a0, .int .i64 a1, .int .i64 a2, .int .i64 a3, .int .i64 a4, .int .i64 a5, .int .i64 a6, .int .i64 a7, .int .i64 a8] 5).run Tryz.prog w = .ok (.agg #[.int .i64 a5, .int .i64 a6, .int .i64 a7, .int .i64 a8]) w := ⟨by kernel_rfl, by kernel_rfl, by kernel_rfl, by kernel_rfl, by kernel_rfl, by kernel_rfl⟩

theorem eqent (d : Nat) (a b : Ent) (w : World) : (Op.equalIn (d + 3) 35 (entV a) (entV b)).run Tryz.prog w = .ok (sameEnt a b) w := by
  have p := partE a.kind a.time a.client a.seq a.ack a.ok a.okey a.oto a.on
  have q := partE b.kind b.time b.client b.seq b.ack b.ok b.okey b.oto b.on
  have ho := eqop d a.ok a.okey a.oto a.on b.ok b.okey b.oto b.on
  rw [run_equalIn_struct w (d + 2) 35 _ _ (by kernel_rfl) (by kernel_rfl)]
  simp [Program.fieldsOf, Tryz.underlying35, Op.eqFields, p, q, eqint, ho]
  unfold sameEnt
  by_cases h0 : a.kind = b.kind
  · by_cases h1 : a.time = b.time
    · by_cases h2 : a.client = b.client
      · by_cases h3 : a.seq = b.seq
        · by_cases h4 : a.ack = b.ack
          · cases h5 : (a.ok == b.ok && (a.okey == b.okey && (a.oto == b.oto && a.on == b.on))) <;> simp_all
          · simp [h0, h1, h2, h3, h4]
        · simp [h0, h1, h2, h3]
      · simp [h0, h1, h2]
    · simp [h0, h1]
  · simp [h0]
theorem neqent (a b : Ent) (w : World) : (binOp .neq 35 (entV a) (entV b)).run Tryz.prog w = .ok (.bool (!sameEnt a b)) w := by
  simp only [binOp]
  have := eqent 9997 a b w
  simp only [entV] at this
  simp [Op.equal, Op.maxDepth, this]
end Go.Proofs.YteabfjpajgakiagGreat

/- The reference's SameEntries, SameLogs, LogError, EndOf, CutOf. -/
set_option linter.unusedSimpArgs false
set_option linter.unusedVariables false
set_option maxRecDepth 10000
namespace Go.Proofs.YteabfjpajgakiagGreat
open Go.RowKit

def sameEnts : List Ent → List Ent → Bool
  | [], [] => true
  | a :: r, b :: r' => (sameEnt a b) && sameEnts r r'
  | _, _ => false
theorem sameEnts_len : ∀ {l m : List Ent}, l.length ≠ m.length → sameEnts l m = false
  | [], [], h => absurd rfl h
  | [], _ :: _, _ => rfl
  | _ :: _, [], _ => rfl
  | a :: r, b :: r', h => by
    have := sameEnts_len (l := r) (m := r') (by simpa using h)
    simp only [sameEnts, this, Bool.and_false]
theorem sameEnts_self : ∀ (l : List Ent), sameEnts l l = true
  | [] => rfl
  | a :: r => by simp [sameEnts, sameEnts_self r, sameEnt_self]
theorem sameEnts_at {l m : List Ent} {k : Nat} (hl : k < l.length) (hm : k < m.length) : sameEnts (l.drop k) (m.drop k) = ((fun (a b : Ent) => (sameEnt a b)) l[k] m[k] && sameEnts (l.drop (k + 1)) (m.drop (k + 1))) := by
  rw [List.drop_eq_getElem_cons hl, List.drop_eq_getElem_cons hm]
  rfl

set_option maxHeartbeats 2000000 in
theorem sameEnts_c (l m : List Ent) (x y : Value) (w : World) (hx : EntsAt w x l) (hy : EntsAt w y m) : Calls Tryz.prog 55 #[x, y] w fun e w' => e = .returned (.bool (sameEnts l m)) ∧ Keeps w w' := by
  obtain ⟨xa, xc, rfl, hlen⟩ := RowAt.len hx
  obtain ⟨ya, yc, rfl, hlem⟩ := RowAt.len hy
  unfold maxLen at hlen hlem
  have HX : Hid (EntsAt w (.slice xa l.length xc) l) := hx
  have HY : Hid (EntsAt w (.slice ya m.length yc) m) := hy
  clear hx hy
  by_cases hll : l.length = m.length
  · rw [← hll] at HY ⊢
    have HLL : Hid (l.length = m.length) := hll
    clear hll hlem
    go_enter Tryz.func55, Tryz.ntmps55
    go_wp2_with fail
    go_loopw [5] (fun i wr => ∃ (k : Nat), k ≤ l.length ∧ i = .int .i64 k ∧ Hid (Keeps w wr) ∧ Hid (sameEnts l m = sameEnts (l.drop k) (m.drop k))) (fun i _ => l.length - (intOf i).toNat)
    case atStart => exact ⟨0, Nat.zero_le _, rfl, Keeps.refl _, rfl⟩
    case round =>
      obtain ⟨k, hk, rfl, HK, HQ⟩ := hrel
      by_cases hlt : k < l.length
      · have hlt2 : k < m.length := by have := HLL.out; omega
        obtain ⟨b1, o1, p1, hv1, c0, c1, c2, c3, c4, c5, c6, c7, c8⟩ := (HX.out.keep HK.out).at hlt
        obtain ⟨b2, o2, p2, hv2, d0, d1, d2, d3, d4, d5, d6, d7, d8⟩ := (HY.out.keep HK.out).at hlt2
        injection hv1 with hv1 ea eb
        injection hv2 with hv2 ec ed
        subst hv1 hv2
        clear ea eb ec ed
        have HR : Hid (sameEnts l m = ((fun (a b : Ent) => (sameEnt a b)) l[k] m[k] && sameEnts (l.drop (k + 1)) (m.drop (k + 1)))) := HQ.out.trans (sameEnts_at hlt hlt2)
        clear HQ
        generalize l[k] = a at *
        generalize m[k] = b at *
        clear hlt2
        cases hq : ((sameEnt a b)) with
        | true =>
          have hq' : (!sameEnt a b) = false := by rw [hq]; rfl
          have hn : ∀ w, (binOp .neq 35 (.agg #[.int .i64 a.kind, .int .i64 a.time, .int .i64 a.client, .int .i64 a.seq, .int .i64 a.ack, .int .i64 a.ok, .int .i64 a.okey, .int .i64 a.oto, .int .i64 a.on]) (.agg #[.int .i64 b.kind, .int .i64 b.time, .int .i64 b.client, .int .i64 b.seq, .int .i64 b.ack, .int .i64 b.ok, .int .i64 b.okey, .int .i64 b.oto, .int .i64 b.on])).run Tryz.prog w = .ok (.bool (!sameEnt a b)) w := fun w => neqent a b w
          have HN : Hid (sameEnts l m = sameEnts (l.drop (k + 1)) (m.drop (k + 1))) := by show _ = _; rw [HR.out]; simp only [hq, Bool.true_and]
          go_wp2_with fail
          go_quiet (fail)
          go_wp2_with fail
          go_roundw
          case rel => exact ⟨k + 1, by omega, by go_num, HK.out.drewN _, HN⟩
          case measure => simp [intOf]; omega
        | false =>
          have hq' : (!sameEnt a b) = true := by rw [hq]; rfl
          have hn : ∀ w, (binOp .neq 35 (.agg #[.int .i64 a.kind, .int .i64 a.time, .int .i64 a.client, .int .i64 a.seq, .int .i64 a.ack, .int .i64 a.ok, .int .i64 a.okey, .int .i64 a.oto, .int .i64 a.on]) (.agg #[.int .i64 b.kind, .int .i64 b.time, .int .i64 b.client, .int .i64 b.seq, .int .i64 b.ack, .int .i64 b.ok, .int .i64 b.okey, .int .i64 b.oto, .int .i64 b.on])).run Tryz.prog w = .ok (.bool (!sameEnt a b)) w := fun w => neqent a b w
          have HN : Hid (sameEnts l m = false) := by show _ = _; rw [HR.out]; simp only [hq, Bool.false_and]
          go_wp2_with fail
          go_quiet (fail)
          go_wp2_with fail
          go_ret
          rw [HN.out]
          exact ⟨rfl, HK.out.drewN _⟩
      · have HN : Hid (sameEnts l m = true) := by show _ = _; rw [HQ.out, List.drop_of_length_le (by omega), List.drop_of_length_le (by have := HLL.out; omega)]; rfl
        go_wp2_with fail
        go_ret
        rw [HN.out]
        exact ⟨rfl, HK.out⟩
  · have HN : Hid (sameEnts l m = false) := sameEnts_len hll
    go_enter Tryz.func55, Tryz.ntmps55
    go_wp2_with fail
    go_ret
    rw [HN.out]
    exact ⟨rfl, Keeps.refl _⟩

def sameLg (a b : Lg) : Bool := sameSt a.base b.base && sameEnts a.tail b.tail
theorem sameLg_self (l : Lg) : sameLg l l = true := by
  unfold sameLg
  rw [same_self, sameEnts_self]
  rfl

set_option maxHeartbeats 2000000 in
theorem same_logs (l k : Lg) (x t y u : Value) (w : World) (hx : TabAt w x l.base.tab) (ht : EntsAt w t l.tail) (hy : TabAt w y k.base.tab) (hu : EntsAt w u k.tail) :
    Calls Tryz.prog 35 #[lgV l x t, lgV k y u] w fun e w' => e = .returned (.bool (sameLg l k)) ∧ Keeps w w' := by
  obtain ⟨xa, xc, rfl, _⟩ := hx.len
  obtain ⟨ta, tc, rfl, _⟩ := ht.len
  obtain ⟨ya, yc, rfl, _⟩ := hy.len
  obtain ⟨ua, uc, rfl, _⟩ := hu.len
  have HX : Hid (TabAt w (.slice xa l.base.tab.length xc) l.base.tab) := hx
  have HT : Hid (EntsAt w (.slice ta l.tail.length tc) l.tail) := ht
  have HY : Hid (TabAt w (.slice ya k.base.tab.length yc) k.base.tab) := hy
  have HU : Hid (EntsAt w (.slice ua k.tail.length uc) k.tail) := hu
  have HE : Hid (sameLg l k = (sameSt l.base k.base && sameEnts l.tail k.tail)) := rfl
  clear hx ht hy hu
  go_enter Tryz.func35, Tryz.ntmps35
  go_wp2_with fail
  obtain ⟨W1, hW1⟩ : ∃ W1, W1 = (w.alloc (.cells #[.int .i64 l.base.at_, .int .i64 l.base.clock, .int .i64 l.base.v0, .int .i64 l.base.v1, .int .i64 l.base.v2, .int .i64 l.base.v3, .slice xa l.base.tab.length xc, .slice ta l.tail.length tc] 28)).alloc (.cells #[.int .i64 k.base.at_, .int .i64 k.base.clock, .int .i64 k.base.v0, .int .i64 k.base.v1, .int .i64 k.base.v2, .int .i64 k.base.v3, .slice ya k.base.tab.length yc, .slice ua k.tail.length uc] 28) := ⟨_, rfl⟩
  have k1 : Keeps w W1 := by rw [hW1]; exact ((Keeps.refl _).alloc _).alloc _
  have B1 : LgBox w.heap.size l (.slice xa l.base.tab.length xc) (.slice ta l.tail.length tc) W1 := by rw [hW1]; exact (LgBox.new w l _ _ rfl rfl 28).keep ((Keeps.refl _).alloc _)
  have C1 : LgBox (w.heap.size + 1) k (.slice ya k.base.tab.length yc) (.slice ua k.tail.length uc) W1 := by
    rw [hW1]
    have := LgBox.new (w.alloc (.cells #[.int .i64 l.base.at_, .int .i64 l.base.clock, .int .i64 l.base.v0, .int .i64 l.base.v1, .int .i64 l.base.v2, .int .i64 l.base.v3, .slice xa l.base.tab.length xc, .slice ta l.tail.length tc] 28)) k (.slice ya k.base.tab.length yc) (.slice ua k.tail.length uc) rfl rfl 28
    simp only [World.size_alloc] at this
    exact this
  rw [← hW1]
  clear hW1
  refine (same_of l.base k.base _ _ W1 (HX.out.keep k1) (HY.out.keep k1)).mono ?_
  rintro e w1 ⟨rfl, hb⟩
  have HK1 : Hid (Keeps w w1) := k1.trans hb
  have b7 := (B1.keep hb).c7
  have bl := (B1.keep hb).lt
  have c7 := (C1.keep hb).c7
  have cl := (C1.keep hb).lt
  clear hb k1 B1 C1
  cases q : sameSt l.base k.base with
  | false =>
    have HF : Hid (sameLg l k = false) := by show _ = _; rw [HE.out, q]; rfl
    go_wp2_with fail
    go_ret
    rw [HF.out]
    exact ⟨rfl, HK1.out⟩
  | true =>
    have HF : Hid (sameLg l k = sameEnts l.tail k.tail) := by show _ = _; rw [HE.out, q]; rfl
    go_wp2_with fail
    refine (sameEnts_c l.tail k.tail _ _ w1 (HT.out.keep HK1.out) (HU.out.keep HK1.out)).mono ?_
    rintro e w2 ⟨rfl, hb⟩
    have HK2 : Hid (Keeps w w2) := HK1.out.trans hb
    clear hb
    go_wp2_with fail
    go_ret
    rw [HF.out]
    exact ⟨rfl, HK2.out⟩

set_option maxHeartbeats 2000000 in
theorem log_error (l : Lg) (x t : Value) (w : World) (hT : TabAt w x l.base.tab) (hL : EntsAt w t l.tail) : Calls Tryz.prog 16 #[lgV l x t] w fun y w' => y = .returned (.int .i64 (lgErr l)) ∧ Keeps w w' := by
  obtain ⟨xa, xc, rfl, _⟩ := hT.len
  obtain ⟨ta, tc, rfl, hlen⟩ := hL.len
  unfold maxLen at hlen
  have HE : Hid (lgErr l = if stErr l.base == 0 then (if listErr l.tail == 0 then (if 50 < l.base.at_ + l.tail.length then 2 else 0) else listErr l.tail) else stErr l.base) := rfl
  have HT : Hid (TabAt w (.slice xa l.base.tab.length xc) l.base.tab) := hT
  have HL : Hid (EntsAt w (.slice ta l.tail.length tc) l.tail) := hL
  have HB : Hid (stErr l.base = 0 → (0 ≤ l.base.at_ ∧ l.base.at_ ≤ 50) ∧ (0 ≤ l.base.clock ∧ l.base.clock ≤ 999)) := stErr_bounds
  have HC : Hid (listErr l.tail = 0 → l.tail.length ≤ 50) := by
    intro h
    unfold listErr at h
    split at h
    · cases h
    · omega
  clear hT hL
  go_enter Tryz.func16, Tryz.ntmps16
  go_wp2_with fail
  obtain ⟨W1, hW1⟩ : ∃ W1, W1 = w.alloc (.cells #[.int .i64 l.base.at_, .int .i64 l.base.clock, .int .i64 l.base.v0, .int .i64 l.base.v1, .int .i64 l.base.v2, .int .i64 l.base.v3, .slice xa l.base.tab.length xc, .slice ta l.tail.length tc] 28) := ⟨_, rfl⟩
  have k1 : Keeps w W1 := by rw [hW1]; exact (Keeps.refl _).alloc _
  have B1 : LgBox w.heap.size l (.slice xa l.base.tab.length xc) (.slice ta l.tail.length tc) W1 := by rw [hW1]; exact LgBox.new w l _ _ rfl rfl 28
  rw [← hW1]
  clear hW1
  refine (state_error l.base _ W1 (HT.out.keep k1)).mono ?_
  rintro y w1 ⟨rfl, hb⟩
  have HK1 : Hid (Keeps w w1) := k1.trans hb
  have B2 := B1.keep hb
  have HB2 := (show Hid _ from B2)
  have b7 := B2.c7
  have bl := B2.lt
  clear hb k1 B1 B2
  cases q1 : (stErr l.base == 0) with
  | false =>
    have q1' : (stErr l.base != 0) = true := by simp [bne, q1]
    have HE2 : Hid (lgErr l = stErr l.base) := by show _ = _; rw [HE.out, q1]; rfl
    go_wp2_with fail
    go_ret
    exact ⟨ret_int HE2.out.symm, HK1.out⟩
  | true =>
    have q1' : (stErr l.base != 0) = false := by simp [bne, q1]
    obtain ⟨⟨ba0, ba1⟩, _, _⟩ := HB.out (by simpa using q1)
    go_wp2_with fail
    refine (list_error l.tail _ w1 (HL.out.keep HK1.out)).mono ?_
    rintro y w2 ⟨rfl, hb⟩
    have HK2 : Hid (Keeps w w2) := HK1.out.trans hb
    have B3 := HB2.out.keep hb
    clear hb b7 bl
    have b0 := B3.c0
    have b1 := B3.c1
    have b2 := B3.c2
    have b3 := B3.c3
    have b4 := B3.c4
    have b5 := B3.c5
    have b6 := B3.c6
    have b7 := B3.c7
    have bl := B3.lt
    clear B3
    cases q2 : (listErr l.tail == 0) with
    | false =>
      have q2' : (listErr l.tail != 0) = true := by simp [bne, q2]
      have HE2 : Hid (lgErr l = listErr l.tail) := by show _ = _; rw [HE.out, q1, q2]; rfl
      go_wp2_with fail
      go_ret
      exact ⟨ret_int HE2.out.symm, HK2.out⟩
    | true =>
      have q2' : (listErr l.tail != 0) = false := by simp [bne, q2]
      have hl50 := HC.out (by simpa using q2)
      by_cases h : 50 < l.base.at_ + l.tail.length
      · have HE2 : Hid (lgErr l = 2) := by show _ = _; rw [HE.out, q1, q2]; simp [h]
        go_wp2_with fail
        go_ret
        exact ⟨ret_int HE2.out.symm, HK2.out⟩
      · have HE2 : Hid (lgErr l = 0) := by show _ = _; rw [HE.out, q1, q2]; simp [h]
        go_wp2_with fail
        go_ret
        exact ⟨ret_int HE2.out.symm, HK2.out⟩

end Go.Proofs.YteabfjpajgakiagGreat

/- States: Same, with slices.Equal and slices.EqualFunc. -/
set_option linter.unusedSimpArgs false
set_option linter.unusedVariables false
set_option maxRecDepth 10000
namespace Go.Proofs.YteabfjpajgakiagGreat
open Go.RowKit

set_option maxHeartbeats 2000000 in
theorem eq_reps (l m : List (Int × Int)) (v v' : Value) (w : World) (h1 : KeptAt w v l) (h2 : KeptAt w v' m) :
    Calls Tryz.prog 114 #[v, v'] w fun e w' => e = .returned (.bool (sameKept l m)) ∧ Keeps w w' := by
  obtain ⟨a, cap, rfl, hlen⟩ := h1.len
  obtain ⟨a', cap', rfl, hlen'⟩ := h2.len
  unfold maxLen at hlen hlen'
  have H1 : Hid (KeptAt w (.slice a l.length cap) l) := h1
  have H2 : Hid (KeptAt w (.slice a' m.length cap') m) := h2
  clear h1 h2
  by_cases hl : l.length = m.length
  case neg =>
    have q : ((l.length : Int) != (m.length : Int)) = true := by simp; omega
    have HE : Hid (sameKept l m = false) := sameKept_len hl
    clear hl
    go_enter Tryz.func114, Tryz.ntmps114
    go_wp2_with fail
    go_ret
    exact ⟨by rw [HE.out]; rfl, Keeps.refl _⟩
  case pos =>
    have q : ((l.length : Int) != (m.length : Int)) = false := by simp [hl]
    have HL : Hid (l.length = m.length) := hl
    clear hl
    go_enter Tryz.func114, Tryz.ntmps114
    go_wp2_with fail
    go_loopw [13] (fun i wr => ∃ (k : Nat), k ≤ l.length ∧ i = .int .i64 k ∧ Keeps w wr ∧ Hid (sameKept l m = sameKept (l.drop k) (m.drop k))) (fun i _ => l.length - (intOf i).toNat)
    case atStart => exact ⟨0, Nat.zero_le _, rfl, Keeps.refl _, rfl⟩
    case round =>
      obtain ⟨k, hk, rfl, hkw, HQ⟩ := hrel
      by_cases hlt : k < l.length
      · have hlt' : k < m.length := by rw [← HL.out]; exact hlt
        obtain ⟨b, off, cp, hv, _, hcell⟩ := (H1.out.keep hkw).at hlt
        injection hv with hv1 hv2 hv3
        subst hv1
        clear hv2 hv3
        obtain ⟨b', off', cp', hv, _, hcell'⟩ := (H2.out.keep hkw).at hlt'
        injection hv with hv1 hv2 hv3
        subst hv1
        clear hv2 hv3
        obtain ⟨c0, c1⟩ := hcell k hlt
        obtain ⟨d0, d1⟩ := hcell' k hlt'
        clear hcell hcell'
        have HR : Hid (sameKept l m = (((l[k]).1 == (m[k]).1 && (l[k]).2 == (m[k]).2) && sameKept (l.drop (k + 1)) (m.drop (k + 1)))) := HQ.out.trans (sameKept_at hlt hlt')
        clear HQ
        generalize (l[k]).1 = q at *
        generalize (l[k]).2 = v at *
        generalize (m[k]).1 = q' at *
        generalize (m[k]).2 = v' at *
        have hn := neq61
        cases hb : (q == q' && v == v') with
        | false =>
          have HE : Hid (sameKept l m = false) := by show _ = _; rw [HR.out, hb]; rfl
          have hb' : (!(q == q' && v == v')) = true := by rw [hb]; rfl
          go_wp2_with fail
          go_quiet (fail)
          go_wp2_with fail
          all_goals go_ret
          all_goals exact ⟨by rw [HE.out]; rfl, hkw.drewN _⟩
        | true =>
          have HN : Hid (sameKept l m = sameKept (l.drop (k + 1)) (m.drop (k + 1))) := by show _ = _; rw [HR.out, hb]; rfl
          have hb' : (!(q == q' && v == v')) = false := by rw [hb]; rfl
          go_wp2_with fail
          go_quiet (fail)
          go_wp2_with fail
          go_roundw
          case rel => exact ⟨k + 1, by omega, by go_num, hkw.drewN _, HN⟩
          case measure => simp [intOf]; omega
      · have HE : Hid (sameKept l m = true) := HQ.out.trans (by rw [List.drop_of_length_le (by omega), List.drop_of_length_le (by rw [← HL.out]; omega)]; rfl)
        go_wp2_with fail
        go_ret
        exact ⟨by rw [HE.out]; rfl, hkw⟩

set_option maxHeartbeats 2000000 in
theorem st_same_session (s t : Ses) (kv kv' : Value) (w : World) (h1 : KeptAt w kv s.kept) (h2 : KeptAt w kv' t.kept) :
    Calls Tryz.prog 98 #[sesV s kv, sesV t kv'] w fun e w' => e = .returned (.bool (sameSes s t)) ∧ Keeps w w' := by
  obtain ⟨a, cap, rfl, hlen⟩ := h1.len
  obtain ⟨a', cap', rfl, hlen'⟩ := h2.len
  have HP : Hid (∀ W, Keeps w W → Calls Tryz.prog 114 #[.slice a s.kept.length cap, .slice a' t.kept.length cap'] W fun e w' => e = .returned (.bool (sameKept s.kept t.kept)) ∧ Keeps W w') := fun W hk => eq_reps _ _ _ _ W (h1.keep hk) (h2.keep hk)
  clear h1 h2 hlen hlen'
  have HS : Hid (sameSes s t = (s.client == t.client && (s.acked == t.acked && (s.seen == t.seen && sameKept s.kept t.kept)))) := rfl
  generalize sameSes s t = R at *
  generalize sameKept s.kept t.kept = r at *
  generalize s.kept.length = n1 at *
  generalize t.kept.length = n2 at *
  cases q1 : (s.client == t.client) with
  | false =>
    have HE : R = false := by rw [HS.out, q1]; rfl
    subst HE
    clear HS
    go_enter Tryz.func98, Tryz.ntmps98
    go_wp2_with fail
    go_ret
    exact ⟨rfl, ((Keeps.refl _).alloc _).alloc _⟩
  | true =>
    cases q2 : (s.acked == t.acked) with
    | false =>
      have HE : R = false := by rw [HS.out, q1, q2]; rfl
      subst HE
      clear HS
      go_enter Tryz.func98, Tryz.ntmps98
      go_wp2_with fail
      go_ret
      exact ⟨rfl, ((Keeps.refl _).alloc _).alloc _⟩
    | true =>
      cases q3 : (s.seen == t.seen) with
      | false =>
        have HE : R = false := by rw [HS.out, q1, q2, q3]; rfl
        subst HE
        clear HS
        go_enter Tryz.func98, Tryz.ntmps98
        go_wp2_with fail
        go_ret
        exact ⟨rfl, ((Keeps.refl _).alloc _).alloc _⟩
      | true =>
        have HE : R = r := by rw [HS.out, q1, q2, q3]; rfl
        subst HE
        clear HS
        go_enter Tryz.func98, Tryz.ntmps98
        go_wp2_with fail
        refine (HP.out _ (((Keeps.refl _).alloc _).alloc _)).mono ?_
        rintro e w1 ⟨rfl, hb⟩
        have hk1 : Keeps w w1 := (((Keeps.refl _).alloc _).alloc _).trans hb
        clear hb HP
        go_wp2_with fail
        go_ret
        exact ⟨rfl, hk1⟩

theorem fnc31 (args : Array Value) (W : World) : (callFunc 98 args).run Tryz.prog W = .ok (.enter 98 args) W := by kernel_rfl

set_option maxHeartbeats 2000000 in
theorem eq_func (L M : List Ses) (v v' : Value) (w : World) (h1 : TabAt w v L) (h2 : TabAt w v' M) :
    Calls Tryz.prog 97 #[v, v', .func (.func 98) #[] #[]] w fun e w' => e = .returned (.bool (sameTab L M)) ∧ Keeps w w' := by
  obtain ⟨a, cap, rfl, hlen⟩ := h1.len
  obtain ⟨a', cap', rfl, hlen'⟩ := h2.len
  unfold maxLen at hlen hlen'
  have H1 : Hid (TabAt w (.slice a L.length cap) L) := h1
  have H2 : Hid (TabAt w (.slice a' M.length cap') M) := h2
  clear h1 h2
  have hf := fnc31
  by_cases hl : L.length = M.length
  case neg =>
    have q : ((L.length : Int) != (M.length : Int)) = true := by simp; omega
    have HE : Hid (sameTab L M = false) := sameTab_len hl
    clear hl
    go_enter Tryz.func97, Tryz.ntmps97
    go_wp2_with fail
    go_ret
    exact ⟨by rw [HE.out]; rfl, Keeps.refl _⟩
  case pos =>
    have q : ((L.length : Int) != (M.length : Int)) = false := by simp [hl]
    have HL : Hid (L.length = M.length) := hl
    clear hl
    go_enter Tryz.func97, Tryz.ntmps97
    go_wp2_with fail
    go_loopw [17] (fun i wr => ∃ (k : Nat), k ≤ L.length ∧ i = .int .i64 k ∧ Keeps w wr ∧ Hid (sameTab L M = sameTab (L.drop k) (M.drop k))) (fun i _ => L.length - (intOf i).toNat)
    case atStart => exact ⟨0, Nat.zero_le _, rfl, Keeps.refl _, rfl⟩
    case round =>
      obtain ⟨k, hk, rfl, hkw, HQ⟩ := hrel
      by_cases hlt : k < L.length
      · have hlt' : k < M.length := by rw [← HL.out]; exact hlt
        obtain ⟨b, off, cp, hv, hcell⟩ := (H1.out.keep hkw).at hlt
        injection hv with hv1 hv2 hv3
        subst hv1
        clear hv2 hv3
        obtain ⟨b', off', cp', hv, hcell'⟩ := (H2.out.keep hkw).at hlt'
        injection hv with hv1 hv2 hv3
        subst hv1
        clear hv2 hv3
        obtain ⟨c0, c1, c2, ka, kc, c3, hkv⟩ := hcell k hlt
        obtain ⟨d0, d1, d2, ka', kc', d3, hkv'⟩ := hcell' k hlt'
        clear hcell hcell'
        have hB := World.block_lt_of_cell? _ _ c0
        have hB' := World.block_lt_of_cell? _ _ d0
        simp only [] at hB hB'
        have HK1 : Hid (KeptAt wr (.slice ka (L[k]).kept.length kc) (L[k]).kept) := hkv
        have HK2 : Hid (KeptAt wr (.slice ka' (M[k]).kept.length kc') (M[k]).kept) := hkv'
        clear hkv hkv'
        have HR : Hid (sameTab L M = (sameSes (L[k]) (M[k]) && sameTab (L.drop (k + 1)) (M.drop (k + 1)))) := HQ.out.trans (sameTab_at hlt hlt')
        clear HQ
        generalize L[k] = s at *
        generalize M[k] = t at *
        go_wp2_with fail
        refine (st_same_session s t _ _ _ (HK1.out.keep (((Keeps.refl _).alloc _).alloc _)) (HK2.out.keep (((Keeps.refl _).alloc _).alloc _))).mono ?_
        rintro e w1 ⟨rfl, hb0⟩
        have hk1 : Keeps w w1 := ((hkw.alloc _).alloc _).trans hb0
        clear hb0 HK1 HK2
        cases hb : sameSes s t with
        | false =>
          have HE : Hid (sameTab L M = false) := by show _ = _; rw [HR.out, hb]; rfl
          go_wp2_with fail
          go_ret
          exact ⟨by rw [HE.out]; rfl, hk1⟩
        | true =>
          have HN : Hid (sameTab L M = sameTab (L.drop (k + 1)) (M.drop (k + 1))) := by show _ = _; rw [HR.out, hb]; rfl
          go_wp2_with fail
          go_roundw
          case rel => exact ⟨k + 1, by omega, by go_num, hk1, HN⟩
          case measure => simp [intOf]; omega
      · have HE : Hid (sameTab L M = true) := HQ.out.trans (by rw [List.drop_of_length_le (by omega), List.drop_of_length_le (by rw [← HL.out]; omega)]; rfl)
        go_wp2_with fail
        go_ret
        exact ⟨by rw [HE.out]; rfl, hkw⟩

set_option maxHeartbeats 2000000 in
theorem state_same (s t : St) (x y : Value) (w : World) (h1 : TabAt w x s.tab) (h2 : TabAt w y t.tab) :
    Calls Tryz.prog 88 #[stV s x, stV t y] w fun e w' => e = .returned (.bool (sameSt s t)) ∧ Keeps w w' := by
  obtain ⟨a, c, rfl, _⟩ := h1.len
  obtain ⟨a', c', rfl, _⟩ := h2.len
  have HP : Hid (∀ W, Keeps w W → Calls Tryz.prog 97 #[.slice a s.tab.length c, .slice a' t.tab.length c', .func (.func 98) #[] #[]] W fun e w' => e = .returned (.bool (sameTab s.tab t.tab)) ∧ Keeps W w') := fun W hk => eq_func _ _ _ _ W (h1.keep hk) (h2.keep hk)
  clear h1 h2
  have HS : Hid (sameSt s t = (s.at_ == t.at_ && (s.clock == t.clock && ((s.v0 == t.v0 && (s.v1 == t.v1 && (s.v2 == t.v2 && s.v3 == t.v3))) && sameTab s.tab t.tab)))) := rfl
  generalize sameSt s t = R at *
  generalize sameTab s.tab t.tab = r at *
  generalize s.tab.length = n1 at *
  generalize t.tab.length = n2 at *
  have he := eql22
  cases q1 : (s.at_ == t.at_) with
  | false =>
    have HE : R = false := by rw [HS.out, q1]; rfl
    subst HE
    clear HS
    go_enter Tryz.func88, Tryz.ntmps88
    go_wp2_with fail
    go_ret
    exact ⟨rfl, ((Keeps.refl _).alloc _).alloc _⟩
  | true =>
    cases q2 : (s.clock == t.clock) with
    | false =>
      have HE : R = false := by rw [HS.out, q1, q2]; rfl
      subst HE
      clear HS
      go_enter Tryz.func88, Tryz.ntmps88
      go_wp2_with fail
      go_ret
      exact ⟨rfl, ((Keeps.refl _).alloc _).alloc _⟩
    | true =>
      cases q3 : (s.v0 == t.v0 && (s.v1 == t.v1 && (s.v2 == t.v2 && s.v3 == t.v3))) with
      | false =>
        have HE : R = false := by rw [HS.out, q1, q2, q3]; rfl
        subst HE
        clear HS
        go_enter Tryz.func88, Tryz.ntmps88
        go_wp2_with fail
        go_ret
        exact ⟨rfl, ((Keeps.refl _).alloc _).alloc _⟩
      | true =>
        have HE : R = r := by rw [HS.out, q1, q2, q3]; rfl
        subst HE
        clear HS
        go_enter Tryz.func88, Tryz.ntmps88
        go_wp2_with fail
        refine (HP.out _ (((Keeps.refl _).alloc _).alloc _)).mono ?_
        rintro e w1 ⟨rfl, hb⟩
        have hk1 : Keeps w w1 := (((Keeps.refl _).alloc _).alloc _).trans hb
        clear hb HP
        go_wp2_with fail
        go_ret
        exact ⟨rfl, hk1⟩
end Go.Proofs.YteabfjpajgakiagGreat
