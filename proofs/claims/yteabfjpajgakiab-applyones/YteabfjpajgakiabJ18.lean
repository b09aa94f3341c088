/- ApQ. -/
import Derived.Lib.MinMax
import Derived.Test.YteabfjpajgakiabJ01
import Derived.Test.YteabfjpajgakiabJ02
import Derived.Test.YteabfjpajgakiabJ17
/- The reference's applied: all but a Call's session that is there. -/
set_option linter.unusedSimpArgs false
set_option linter.unusedVariables false
set_option maxRecDepth 10000
namespace Go.Proofs.Yteabfjpajgakiab
open Go.RowKit

set_option maxHeartbeats 8000000 in
theorem applied_at (s T : St) (e : Ent) (hTT : T = ticked s e.time) (x : Value) (w : World) (hT : TabAt w x s.tab) (hs : stErr s = 0) (he : entErr e = 0) (hat : s.at_ ≠ 50) :
    Calls Try.prog 41 #[stV s x, entV e] w fun y w' => ∃ x', OwnTab w.heap.size w' x' (takenSt T e).tab ∧ y = .returned (.tuple #[stV (takenSt T e) x', .int .i64 (takenAns T e), .bool (takenDone T e)]) ∧ Keeps w w' := by
  obtain ⟨xa, xc, rfl, _⟩ := hT.len
  have HT : Hid (TabAt w (.slice xa s.tab.length xc) s.tab) := hT
  obtain ⟨⟨ba0, ba1⟩, bc0, bc1⟩ := stErr_bounds hs
  have her := ent_right he
  obtain ⟨⟨ek0, ek1⟩, ⟨et0, et1⟩, ⟨ec0, ec1⟩, hcall, hnc⟩ := her
  have HCALL := (show Hid _ from hcall)
  have HTS : Hid (stErr T = 0) := by rw [hTT]; exact ticked_right hs et0 et1 hat
  have HTR := tab_right (stErr_in hs).2.1
  have HL3 : Hid (s.tab.length ≤ 3 ∧ ∀ y ∈ s.tab, y.kept.length ≤ 3) := ⟨HTR.1, fun y hy => kept_le (HTR.2.1 y hy)⟩
  have HA : Hid (takenAns T e = if e.kind == 1 then openedAns T e.client else if e.kind == 3 then closedAns T e.client else callAns T e) := rfl
  have HD : Hid (takenDone T e = if e.kind == 1 then false else if e.kind == 3 then false else callDone T e) := rfl
  have HS : Hid (takenSt T e = if e.kind == 1 then openedSt T e.client else if e.kind == 3 then closedSt T e.client else callSt T e) := rfl
  have HTK : Hid (T = ⟨s.at_ + 1, max s.clock e.time, s.v0, s.v1, s.v2, s.v3, freshTab s.tab (max s.clock e.time)⟩) := hTT
  clear hT hcall hnc hat HTR hTT
  have HE0 : Hid (entErr e = 0) := he
  clear he hs
  obtain ⟨mx, hmx⟩ : ∃ mx, mx = max s.clock e.time := ⟨_, rfl⟩
  have mx0 : 0 ≤ mx := by omega
  have mx1 : mx ≤ 999 := by omega
  rw [← hmx] at HTK
  go_enter Try.func41, Try.ntmps41
  go_wp2_with fail
  rw [← hmx]
  obtain ⟨W1, hW1⟩ : ∃ W1, W1 = ((w.alloc (.cells #[.int .i64 (s.at_ + 1), .int .i64 mx, .int .i64 s.v0, .int .i64 s.v1, .int .i64 s.v2, .int .i64 s.v3, .slice xa s.tab.length xc] 25)).alloc (.cells #[.int .i64 e.kind, .int .i64 e.time, .int .i64 e.client, .int .i64 e.seq, .int .i64 e.ack, .int .i64 e.ok, .int .i64 e.okey, .int .i64 e.oto, .int .i64 e.on] 33)).alloc (.cells #[.int .i64 0, .int .i64 0, .int .i64 0, .int .i64 0, .int .i64 0, .int .i64 0, .slice none 0 0] 25) := ⟨_, rfl⟩
  have k1 : Keeps w W1 := by rw [hW1]; exact (((Keeps.refl _).alloc _).alloc _).alloc _
  have B1 : StBox w.heap.size ⟨s.at_ + 1, mx, s.v0, s.v1, s.v2, s.v3, s.tab⟩ (.slice xa s.tab.length xc) W1 := by rw [hW1]; exact (StBox.new w ⟨s.at_ + 1, mx, s.v0, s.v1, s.v2, s.v3, s.tab⟩ _ 25).keep (((Keeps.refl _).alloc _).alloc _)
  have E1 : EntBox (w.heap.size + 1) e W1 := by
    rw [hW1]
    have := (EntBox.new (w.alloc (.cells #[.int .i64 (s.at_ + 1), .int .i64 mx, .int .i64 s.v0, .int .i64 s.v1, .int .i64 s.v2, .int .i64 s.v3, .slice xa s.tab.length xc] 25)) e 33).keep ((Keeps.refl _).alloc (.cells #[.int .i64 0, .int .i64 0, .int .i64 0, .int .i64 0, .int .i64 0, .int .i64 0, .slice none 0 0] 25))
    simpa using this
  have Z1 : StBox (w.heap.size + 1 + 1) zeroSt (.slice none 0 0) W1 := by
    rw [hW1]
    have := StBox.new ((w.alloc (.cells #[.int .i64 (s.at_ + 1), .int .i64 mx, .int .i64 s.v0, .int .i64 s.v1, .int .i64 s.v2, .int .i64 s.v3, .slice xa s.tab.length xc] 25)).alloc (.cells #[.int .i64 e.kind, .int .i64 e.time, .int .i64 e.client, .int .i64 e.seq, .int .i64 e.ack, .int .i64 e.ok, .int .i64 e.okey, .int .i64 e.oto, .int .i64 e.on] 33)) zeroSt (.slice none 0 0) 25
    simp only [World.size_alloc] at this
    exact this
  have hz1 : W1.heap.size = w.heap.size + 3 := by rw [hW1]; simp
  rw [← hW1]
  clear hW1 hmx
  refine (fresh_c s.tab _ mx W1 (HT.out.keep k1) HL3.out.1 HL3.out.2 mx0 mx1).mono ?_
  rintro y w1 ⟨v1, ho, rfl, hb⟩
  obtain ⟨va, vc, rfl, _⟩ := ho.tab.len
  have HK1 : Hid (Keeps w w1) := k1.trans hb
  have HB1 : Hid (StBox w.heap.size ⟨s.at_ + 1, mx, s.v0, s.v1, s.v2, s.v3, s.tab⟩ (.slice xa s.tab.length xc) w1) := B1.keep hb
  have HE1 : Hid (EntBox (w.heap.size + 1) e w1) := E1.keep hb
  have HZ1 : Hid (StBox (w.heap.size + 1 + 1) zeroSt (.slice none 0 0) w1) := Z1.keep hb
  have hTb : T.tab = s.tab.filter (fun x : Ses => decide (mx - 20 ≤ x.seen)) := by rw [HTK.out]; rfl
  rw [← hTb] at ho
  have hTl : (s.tab.filter (fun x : Ses => decide (mx - 20 ≤ x.seen))).length = T.tab.length := by rw [hTb]
  rw [hTl]
  have HO1 : Hid (OwnTab (w.heap.size + 3) w1 (.slice va T.tab.length vc) T.tab) := by rw [hz1] at ho; exact ho
  have HBT : Hid (∀ W, StBox w.heap.size ⟨s.at_ + 1, mx, s.v0, s.v1, s.v2, s.v3, s.tab⟩ (.slice xa s.tab.length xc) W → StBox w.heap.size T (.slice va T.tab.length vc) (W.setCell ⟨w.heap.size, 6, none⟩ (.slice va T.tab.length vc))) := by
    intro W hW
    rw [HTK.out]
    exact hW.set_tab _ _
  have hz1' := hb.size
  have b6 := HB1.out.c6
  have bz := HB1.out.fz
  have bl := HB1.out.lt
  have e2 := HE1.out.c2
  have el := HE1.out.lt
  clear hb ho hTb hTl k1 B1 E1 Z1 HTK HL3 HT
  rw [hz1] at hz1'
  clear hz1
  clear W1
  go_wp2_with fail
  have B2 := HBT.out _ HB1.out
  have bt2 : But w.heap.size w1 (w1.setCell ⟨w.heap.size, 6, none⟩ (.slice va T.tab.length vc)) := (But.refl _ _).set 6 _
  generalize (w1.setCell ⟨w.heap.size, 6, none⟩ (.slice va T.tab.length vc)) = w2 at *
  have HK2 : Hid (Keeps w w2) := But.to HK1.out (Nat.le_refl _) bt2
  have HB2 : Hid (StBox w.heap.size T (.slice va T.tab.length vc) w2) := B2
  have HE2 : Hid (EntBox (w.heap.size + 1) e w2) := HE1.out.but bt2 (by omega)
  have HZ2 : Hid (StBox (w.heap.size + 1 + 1) zeroSt (.slice none 0 0) w2) := HZ1.out.other bt2 (by omega)
  have HO2 : Hid (OwnTab (w.heap.size + 3) w2 (.slice va T.tab.length vc) T.tab) := HO1.out.but (by omega) bt2
  have hz2 : w.heap.size + 3 ≤ w2.heap.size := Nat.le_trans hz1' bt2.size
  clear B2 bt2 HB1 HE1 HZ1 HO1 HK1 HBT b6 bz bl e2 el hz1'
  clear w1
  refine (find_ix T.tab _ e.client w2 HO2.out.tab).mono ?_
  rintro y w3 ⟨r, rfl, hw3, hr⟩
  subst hw3
  have HR := (show Hid _ from hr)
  clear hr
  have b0 := HB2.out.c0
  have b1 := HB2.out.c1
  have b2 := HB2.out.c2
  have b3 := HB2.out.c3
  have b4 := HB2.out.c4
  have b5 := HB2.out.c5
  have b6 := HB2.out.c6
  have bz := HB2.out.fz
  have bl := HB2.out.lt
  have z0 := HZ2.out.c0
  have z1 := HZ2.out.c1
  have z2 := HZ2.out.c2
  have z3 := HZ2.out.c3
  have z4 := HZ2.out.c4
  have z5 := HZ2.out.c5
  have z6 := HZ2.out.c6
  have zf := HZ2.out.fz
  have zl := HZ2.out.lt
  have e0 := HE2.out.c0
  have e2 := HE2.out.c2
  have el := HE2.out.lt
  rcases HR.out with ⟨hr1, hnone⟩ | ⟨k, hk, hr1, hsome⟩
  · subst hr1
    have HN : Hid (findSes T.tab e.client = none) := hnone
    clear HR hnone
    cases q1 : (e.kind == 1) with
    | true =>
      have hop := opened_none HTS.out ⟨ec0, ec1⟩ HN.out
      by_cases h3 : T.tab.length = 3
      · have H1 : Hid (takenAns T e = -2 ∧ takenDone T e = false ∧ takenSt T e = T) := ⟨by rw [HA.out, q1]; exact (hop.1 h3).2, by rw [HD.out, q1]; rfl, by rw [HS.out, q1]; exact (hop.1 h3).1⟩
        have q3 : ((T.tab.length : Int) == 3) = true := by simp; omega
        clear hop h3
        generalize T.tab.length = tl at *
        go_wp2_with fail
        refine bodyPost_ret (v := .tuple #[stV T (.slice va tl vc), .int .i64 (-2), .bool false]) ?_ rfl ?_
        · simp [results, Try.results41, go_sem, z0, z1, z2, z3, z4, z5, z6]
        · rw [H1.out.1, H1.out.2.1, H1.out.2.2]
          refine ⟨(.slice va tl vc), ?_, rfl, ?_⟩
          · exact (HO2.out.but (b := w.heap.size + 1 + 1) (by omega) ((((((((But.refl _ _).set 0 _).set 1 _).set 2 _).set 3 _).set 4 _).set 5 _).set 6 _)).base (by omega)
          · repeat refine Keeps.set ?_ (by simp <;> omega) _
            exact HK2.out
      · have H1 : Hid (takenAns T e = 0 ∧ takenDone T e = false ∧ takenSt T e = { T with tab := putTab T.tab ⟨e.client, 0, T.clock, []⟩ }) := ⟨by rw [HA.out, q1]; exact (hop.2 h3).2.1, by rw [HD.out, q1]; rfl, by rw [HS.out, q1]; exact (hop.2 h3).1⟩
        have q3 : ((T.tab.length : Int) == 3) = false := by simp; omega
        have HPE : Hid (putErr T.tab ⟨e.client, 0, T.clock, []⟩ = 0) := (hop.2 h3).2.2
        clear hop h3
        have C : Hid (Calls Try.prog 59 #[.slice va T.tab.length vc, .agg #[.int .i64 e.client, .int .i64 0, .int .i64 T.clock, .slice none 0 0]] w2 fun y w' => ∃ v', OwnTab w2.heap.size w' v' (putTab T.tab ⟨e.client, 0, T.clock, []⟩) ∧ y = .returned (.tuple #[v', .int .i64 (putErr T.tab ⟨e.client, 0, T.clock, []⟩)]) ∧ Keeps w2 w') := put_of T.tab _ ⟨e.client, 0, T.clock, []⟩ _ w2 HO2.out.tab (kept_nil _)
        go_wp2_with fail
        refine C.out.mono ?_
        rintro y w3 ⟨v3, ho, rfl, hb⟩
        obtain ⟨pa, pc, rfl, _⟩ := ho.tab.len
        have HO3 : Hid (OwnTab w2.heap.size w3 (.slice pa (putTab T.tab ⟨e.client, 0, T.clock, []⟩).length pc) (putTab T.tab ⟨e.client, 0, T.clock, []⟩)) := ho
        have HK3 : Hid (Keeps w w3) := HK2.out.trans hb
        have B3 := HB2.out.keep hb
        have Z3 := HZ2.out.keep hb
        clear ho b0 b1 b2 b3 b4 b5 b6 bz bl z0 z1 z2 z3 z4 z5 z6 zf zl e0 e2 el C
        have b0 := B3.c0
        have b1 := B3.c1
        have b2 := B3.c2
        have b3 := B3.c3
        have b4 := B3.c4
        have b5 := B3.c5
        have b6 := B3.c6
        have bz := B3.fz
        have bl := B3.lt
        have z0 := Z3.c0
        have z1 := Z3.c1
        have z2 := Z3.c2
        have z3 := Z3.c3
        have z4 := Z3.c4
        have z5 := Z3.c5
        have z6 := Z3.c6
        have zf := Z3.fz
        have zl := Z3.lt
        clear B3 Z3 hb
        generalize hpt : (putTab T.tab ⟨e.client, 0, T.clock, []⟩) = pt at *
        generalize pt.length = pl at *
        go_wp2_with fail
        refine bodyPost_ret (v := .tuple #[stV { T with tab := pt } (.slice pa pl pc), .int .i64 0, .bool false]) ?_ rfl ?_
        · simp [results, Try.results41, go_sem, z0, z1, z2, z3, z4, z5, z6]
        · rw [H1.out.1, H1.out.2.1, H1.out.2.2]
          refine ⟨.slice pa pl pc, ?_, rfl, ?_⟩
          · exact ((HO3.out.but (b := w.heap.size) (by omega) ((But.refl _ _).set 6 _)).but (b := w.heap.size + 1 + 1) (by omega) ((((((((But.refl _ _).set 0 _).set 1 _).set 2 _).set 3 _).set 4 _).set 5 _).set 6 _)).base (by omega)
          · repeat refine Keeps.set ?_ (by simp <;> omega) _
            exact HK3.out
    | false =>
      have H1 : Hid (takenAns T e = -3 ∧ takenDone T e = false ∧ takenSt T e = T) := by
        have c1 := call_none HN.out
        have c2 := closed_none HTS.out HN.out
        refine ⟨?_, ?_, ?_⟩
        · rw [HA.out, q1]
          cases (e.kind == 3)
          · exact c1.2.1
          · exact c2.2
        · rw [HD.out, q1]
          cases (e.kind == 3)
          · exact c1.2.2
          · rfl
        · rw [HS.out, q1]
          cases (e.kind == 3)
          · exact c1.1
          · exact c2.1
      generalize T.tab.length = tl at *
      go_wp2_with fail
      refine bodyPost_ret (v := .tuple #[stV T (.slice va tl vc), .int .i64 (-3), .bool false]) ?_ rfl ?_
      · simp [results, Try.results41, go_sem, z0, z1, z2, z3, z4, z5, z6]
      · rw [H1.out.1, H1.out.2.1, H1.out.2.2]
        refine ⟨(.slice va tl vc), ?_, rfl, ?_⟩
        · exact (HO2.out.but (b := w.heap.size + 1 + 1) (by omega) ((((((((But.refl _ _).set 0 _).set 1 _).set 2 _).set 3 _).set 4 _).set 5 _).set 6 _)).base (by omega)
        · repeat refine Keeps.set ?_ (by simp <;> omega) _
          exact HK2.out
  · subst hr1
    clear HR
    have HKL : Hid (k < T.tab.length) := hk
    obtain ⟨g, ks, cap, hOn⟩ := HO2.out.on (by omega)
    have hval := hOn.val
    injection hval with hv1 hv2 hv3
    subst hv1 hv3
    clear hv2
    have hgl := hOn.row.lt
    have hgb := hOn.le
    have hcells := hOn.own.tab.cells k hk _ rfl
    simp only [Nat.zero_add] at hcells
    obtain ⟨c0, c1, c2, ka, kc, c3, hkv⟩ := hcells
    have gz := fun i => hOn.row.frozen i
    have HON : Hid (TabOn g (w.heap.size + 3) w2 (.slice (some ⟨g, 0, none⟩) T.tab.length vc) T.tab ks vc) := hOn
    have HSOME : Hid (findSes T.tab e.client = some (T.tab[k])) := hsome
    clear hOn hsome
    have hl3 := tab_three HTS.out
    cases q1 : (e.kind == 1) with
    | true =>
      have hop := opened_found HTS.out HKL.out HSOME.out
      have H1 : Hid (takenAns T e = 0 ∧ takenDone T e = false ∧ takenSt T e = { T with tab := T.tab.set k { T.tab[k] with seen := T.clock } }) := ⟨by rw [HA.out, q1]; exact hop.2, by rw [HD.out, q1]; rfl, by rw [HS.out, q1]; exact hop.1⟩
      have ON3 : Hid (TabOn g (w.heap.size + 3) (w2.setCell ⟨g, k * 4 + 2, none⟩ (.int .i64 T.clock)) (.slice (some ⟨g, 0, none⟩) T.tab.length vc) (T.tab.set k { T.tab[k] with seen := T.clock }) ks vc) := HON.out.seen hk T.clock
      have hgN : (g = w.heap.size) = False := eq_false (by omega)
      have hgZ : (g = w.heap.size + 1 + 1) = False := eq_false (by omega)
      clear hop
      go_wp2_with fail
      refine bodyPost_ret (v := .tuple #[stV { T with tab := T.tab.set k { T.tab[k] with seen := T.clock } } (.slice (some ⟨g, 0, none⟩) T.tab.length vc), .int .i64 0, .bool false]) ?_ rfl ?_
      · simp [results, Try.results41, go_sem, z0, z1, z2, z3, z4, z5, z6]
      · rw [H1.out.1, H1.out.2.1, H1.out.2.2]
        refine ⟨.slice (some ⟨g, 0, none⟩) T.tab.length vc, ?_, rfl, ?_⟩
        · exact (ON3.out.own.but (b := w.heap.size + 1 + 1) (by omega) ((((((((But.refl _ _).set 0 _).set 1 _).set 2 _).set 3 _).set 4 _).set 5 _).set 6 _)).base (by omega)
        · repeat refine Keeps.set ?_ (by simp <;> omega) _
          exact HK2.out
    | false =>
      cases q3 : (e.kind == 3) with
      | true =>
        have hcl := closed_found HTS.out HSOME.out
        have H1 : Hid (takenAns T e = 0 ∧ takenDone T e = false ∧ takenSt T e = { T with tab := T.tab.filter (fun x : Ses => x.client != e.client) }) := ⟨by rw [HA.out, q1, q3]; exact hcl.2, by rw [HD.out, q1, q3]; rfl, by rw [HS.out, q1, q3]; exact hcl.1⟩
        have hk3 : ∀ y ∈ T.tab, y.kept.length ≤ 3 := fun y hy => kept_le ((tab_right (stErr_in HTS.out).2.1).2.1 y hy)
        have C : Hid (Calls Try.prog 60 #[.slice (some ⟨g, 0, none⟩) T.tab.length vc, .int .i64 e.client] w2 fun y w' => ∃ v', OwnTab w2.heap.size w' v' (T.tab.filter (fun x : Ses => x.client != e.client)) ∧ y = .returned v' ∧ Keeps w2 w') := without_c T.tab _ e.client w2 HO2.out.tab hl3 hk3
        clear hk3 hcl
        go_wp2_with fail
        refine C.out.mono ?_
        rintro y w3 ⟨v3, ho, rfl, hb⟩
        obtain ⟨pa, pc, rfl, _⟩ := ho.tab.len
        have HO3 : Hid (OwnTab w2.heap.size w3 (.slice pa (T.tab.filter (fun x : Ses => x.client != e.client)).length pc) (T.tab.filter (fun x : Ses => x.client != e.client))) := ho
        have HK3 : Hid (Keeps w w3) := HK2.out.trans hb
        have B3 := HB2.out.keep hb
        have Z3 := HZ2.out.keep hb
        clear ho b0 b1 b2 b3 b4 b5 b6 bz bl z0 z1 z2 z3 z4 z5 z6 zf zl e0 e2 el C c0 c1 c2 c3 hkv gz
        have b0 := B3.c0
        have b1 := B3.c1
        have b2 := B3.c2
        have b3 := B3.c3
        have b4 := B3.c4
        have b5 := B3.c5
        have b6 := B3.c6
        have bz := B3.fz
        have bl := B3.lt
        have z0 := Z3.c0
        have z1 := Z3.c1
        have z2 := Z3.c2
        have z3 := Z3.c3
        have z4 := Z3.c4
        have z5 := Z3.c5
        have z6 := Z3.c6
        have zf := Z3.fz
        have zl := Z3.lt
        clear B3 Z3 hb
        generalize (T.tab.filter (fun x : Ses => x.client != e.client)) = pt at *
        generalize pt.length = pl at *
        go_wp2_with fail
        refine bodyPost_ret (v := .tuple #[stV { T with tab := pt } (.slice pa pl pc), .int .i64 0, .bool false]) ?_ rfl ?_
        · simp [results, Try.results41, go_sem, z0, z1, z2, z3, z4, z5, z6]
        · rw [H1.out.1, H1.out.2.1, H1.out.2.2]
          refine ⟨.slice pa pl pc, ?_, rfl, ?_⟩
          · exact ((HO3.out.but (b := w.heap.size) (by omega) ((But.refl _ _).set 6 _)).but (b := w.heap.size + 1 + 1) (by omega) ((((((((But.refl _ _).set 0 _).set 1 _).set 2 _).set 3 _).set 4 _).set 5 _).set 6 _)).base (by omega)
          · repeat refine Keeps.set ?_ (by simp <;> omega) _
            exact HK3.out
      | false =>
        have hk2 : e.kind = 2 := by
          simp at q1 q3
          omega
        have hcf := call_found HTS.out HE0.out hk2 HKL.out HSOME.out
        have HSA : Hid (takenAns T e = ansOf T (calledSes T (T.tab[k]) e) e ∧ takenDone T e = ansDone (calledSes T (T.tab[k]) e) e ∧ takenSt T e = { ansSt T (calledSes T (T.tab[k]) e) e with tab := T.tab.set k (callSes T (T.tab[k]) e) }) := ⟨by rw [HA.out, q1, q3]; exact hcf.2.1, by rw [HD.out, q1, q3]; exact hcf.2.2, by rw [HS.out, q1, q3]; exact hcf.1⟩
        obtain ⟨⟨eq0, eq1⟩, ⟨ea0, ea1⟩, hop⟩ := HCALL.out hk2
        have HOP : Hid (opErr e.ok e.okey e.oto e.on = 0) := hop
        have HFE : Hid (sesErr (T.tab[k]) = 0) := tab_ses HTS.out HKL.out
        have hra := inB_iff.1 (ses_right HFE.out).2.1
        obtain ⟨hra0, hra1⟩ := hra
        have e3 := HE2.out.c3
        have e4 := HE2.out.c4
        have HKV : Hid (KeptAt w2 (.slice ka (T.tab[k]).kept.length kc) (T.tab[k]).kept) := hkv
        clear hk2 hcf hop hkv HA HD HS HCALL
        generalize hF : T.tab[k] = f at *
        have HFK : Hid (∀ h, T.tab[k]'h = f) := fun _ => hF
        clear hF
        go_wp2_with fail
        have SX4 : SesBox w2.heap.size { f with acked := max f.acked e.ack, seen := T.clock } (.slice ka f.kept.length kc) (w2.alloc (.cells #[.int .i64 f.client, .int .i64 (max f.acked e.ack), .int .i64 T.clock, .slice ka f.kept.length kc] 48)) := SesBox.new w2 { f with acked := max f.acked e.ack, seen := T.clock } _ 48
        have k24 : Keeps w2 (w2.alloc (.cells #[.int .i64 f.client, .int .i64 (max f.acked e.ack), .int .i64 T.clock, .slice ka f.kept.length kc] 48)) := (Keeps.refl _).alloc _
        have hz4 : (w2.alloc (.cells #[.int .i64 f.client, .int .i64 (max f.acked e.ack), .int .i64 T.clock, .slice ka f.kept.length kc] 48)).heap.size = w2.heap.size + 1 := World.size_alloc _ _
        generalize (w2.alloc (.cells #[.int .i64 f.client, .int .i64 (max f.acked e.ack), .int .i64 T.clock, .slice ka f.kept.length kc] 48)) = W4 at *
        have HSX : Hid (SesBox w2.heap.size { f with acked := max f.acked e.ack, seen := T.clock } (.slice ka f.kept.length kc) W4) := SX4
        have HK4 : Hid (Keeps w W4) := HK2.out.trans k24
        have HB4 : Hid (StBox w.heap.size T (.slice (some ⟨g, 0, none⟩) T.tab.length vc) W4) := HB2.out.keep k24
        have HE4 : Hid (EntBox (w.heap.size + 1) e W4) := HE2.out.keep k24
        have HZ4 : Hid (StBox (w.heap.size + 1 + 1) zeroSt (.slice none 0 0) W4) := HZ2.out.keep k24
        have HN4 : Hid (TabOn g (w.heap.size + 3) W4 (.slice (some ⟨g, 0, none⟩) T.tab.length vc) T.tab ks vc) := HON.out.keep k24
        have HV4 : Hid (KeptAt W4 (.slice ka f.kept.length kc) f.kept) := HKV.out.keep k24
        have hfl := kept_le HFE.out
        obtain ⟨hac0, hac1⟩ : 0 ≤ max f.acked e.ack ∧ max f.acked e.ack ≤ 60 := by omega
        have HCS : Hid (calledSes T f e = { f with acked := max f.acked e.ack, seen := T.clock, kept := keptAfter (max f.acked e.ack) f.kept }) := rfl
        have HCC : Hid (callSes T f e = { f with acked := max f.acked e.ack, seen := T.clock, kept := ansKept T (calledSes T f e) e }) := rfl
        have HK24 : Hid (Keeps w2 W4) := k24
        have HON2 : Hid (TabOn g (w.heap.size + 3) w2 (.slice (some ⟨g, 0, none⟩) T.tab.length vc) T.tab ks vc) := HON.out
        have hXB : w2.heap.size ≤ w2.heap.size := Nat.le_refl _
        have hgX : g < w2.heap.size := hgl
        generalize hXE : w2.heap.size = XB at *
        have HXB : Hid (w2.heap.size ≤ XB) := by show _ ≤ _; omega
        clear hXB hXE
        clear b0 b1 b2 b3 b4 b5 b6 bz bl z0 z1 z2 z3 z4 z5 z6 zf zl e0 e2 el e3 e4 c0 c1 c2 c3 gz SX4 k24 HB2 HE2 HZ2 HON HKV HK2 HO2
        generalize hAC : max f.acked e.ack = ac at *
        go_loopw [9, 10] (fun o i wr => ∃ (j : Nat), j ≤ f.kept.length ∧ i = .int .i64 j ∧ Hid (Keeps W4 wr) ∧ Hid (wr.ownsRow W4.heap.size 78 2 o (keptAfter ac (f.kept.take j)).length (repCells (keptAfter ac (f.kept.take j))))) (fun _ i _ => f.kept.length - (intOf i).toNat)
        case atStart => exact ⟨0, Nat.zero_le _, rfl, Keeps.refl _, World.ownsRow_nil _ _ _ _⟩
        case round =>
          obtain ⟨j, hj, rfl, HKr, HOr⟩ := hrel
          have SXr := HSX.out.keep HKr.out
          have x1 := SXr.c1
          have x3 := SXr.c3
          have xl := SXr.lt
          by_cases hlt : j < f.kept.length
          · obtain ⟨gb, off, cp, hv, _, hcell⟩ := (HV4.out.keep HKr.out).at hlt
            injection hv with hv1 hv2 hv3
            subst hv1
            clear hv2 hv3
            obtain ⟨d0, d1⟩ := hcell j hlt
            clear hcell
            have HKT : Hid (keptAfter ac (f.kept.take (j + 1)) = keptAfter ac (f.kept.take j) ++ (if ac < (f.kept[j]).1 then [f.kept[j]] else [])) := keptAfter_take hlt
            have hol : (keptAfter ac (f.kept.take j)).length ≤ 3 := Nat.le_trans (List.length_filter_le _ _) (by simp; omega)
            generalize f.kept[j] = z at *
            obtain ⟨zq, zv⟩ := z
            generalize keptAfter ac (f.kept.take j) = ol at *
            cases hq : decide (ac < zq) with
            | false =>
              have HO2 : Hid (keptAfter ac (f.kept.take (j + 1)) = ol) := by
                show _ = _
                rw [HKT.out, if_neg (by simpa using hq), List.append_nil]
              go_wp2_with fail
              go_quiet (fail)
              go_wp2_with fail
              go_roundw
              case rel => exact ⟨j + 1, by omega, by go_num, HKr.out.drewN _, by rw [HO2.out]; exact owns_keep HOr.out ((Keeps.refl _).drewN _)⟩
              case measure => simp [intOf]; omega
            | true =>
              have HO2 : Hid (keptAfter ac (f.kept.take (j + 1)) = ol ++ [(zq, zv)]) := by
                show _ = _
                rw [HKT.out, if_pos (by simpa using hq)]
              go_wp2_with fail
              go_quiet (fail)
              obtain ⟨W5, hW5⟩ : ∃ W5, W5 = wr.drewN nq := ⟨_, rfl⟩
              have k5 : Keeps wr W5 := by rw [hW5]; exact (Keeps.refl _).drewN _
              rw [← hW5]
              clear hW5
              have x3 := cell_kept x3 k5
              have d0 := cell_kept d0 k5
              have d1 := cell_kept d1 k5
              have HOw := owns_keep HOr.out k5
              have HKw := HKr.out.trans k5
              have hzw := HKw.size
              obtain ⟨v', w', hr, ho', hg⟩ := run_append_read (W5.alloc (.cells #[.int .i64 zq, .int .i64 zv] 78)) W4.heap.size 46 46 78 2 16 _ infoRep Try.underlying46 rfl (by decide) u9 ol.length (repCells ol) (owns_keep HOw ((Keeps.refl _).alloc _)) _ 1 (repCells [(zq, zv)]) (kept_one W5 zq zv) (repCells_one _) (by unfold maxLen; omega) (by omega) (by simp; omega)
              have Hr := (show Hid (_ = _) from hr)
              have hbk : ∀ k, u9.ownBlock = some k → W4.heap.size ≤ k := fun k hk => (HOw.lt k hk).1
              have HK' : Hid (Keeps W4 w') := keeps_grown (HKw.alloc _) hg hbk
              have HO' : Hid (w'.ownsRow W4.heap.size 78 2 v' (keptAfter ac (f.kept.take (j + 1))).length (repCells (keptAfter ac (f.kept.take (j + 1))))) := by
                show World.ownsRow _ _ _ _ _ _ _
                rw [HO2.out, List.length_append, repCells_append]
                exact ho'
              clear hr ho' hg hbk HOw HKw HKr HOr
              go_wp2_with (at_builtin; refine wpList_append_run rfl _ _ _ rfl rfl rfl Hr.out ?_)
              go_roundw
              case rel => exact ⟨j + 1, by omega, by go_num, HK', HO'⟩
              case measure => simp [intOf]; omega
          · have HOF : Hid (wr.ownsRow W4.heap.size 78 2 u9 (keptAfter ac f.kept).length (repCells (keptAfter ac f.kept))) := by
              have := HOr.out
              rw [List.take_of_length_le (by omega)] at this
              exact this
            obtain ⟨oa, oc, hu9, _⟩ := (RowAt.of_owns HOF.out).len
            subst hu9
            have Br := HB4.out.keep HKr.out
            have Er := HE4.out.keep HKr.out
            have Zr := HZ4.out.keep HKr.out
            have Nr := HN4.out.keep HKr.out
            have hcells := Nr.own.tab.cells k hk _ (HFK.out hk)
            simp only [Nat.zero_add] at hcells
            obtain ⟨c0, c1, c2, ka2, kc2, c3, _⟩ := hcells
            have gz := fun i => Nr.row.frozen i
            have gl := Nr.row.lt
            have xz := SXr.fz
            have x0 := SXr.c0
            have x2 := SXr.c2
            have b6 := Br.c6
            have bl := Br.lt
            have e3 := Er.c3
            have el := Er.lt
            have hXg : (XB = g) = False := eq_false (by omega)
            have hXN : (XB = w.heap.size) = False := eq_false (by omega)
            have hXE : (XB = w.heap.size + 1) = False := eq_false (by omega)
            have hgN : (g = w.heap.size) = False := eq_false (by omega)
            have hgE : (g = w.heap.size + 1) = False := eq_false (by omega)
            have K2r : Keeps w2 wr := HK24.out.trans HKr.out
            -- the worlds behind the two stores
            obtain ⟨W5, hW5⟩ : ∃ W5, W5 = wr.setCell ⟨XB, 3, none⟩ (.slice oa (keptAfter ac f.kept).length oc) := ⟨_, rfl⟩
            have bt5 : But XB wr W5 := by rw [hW5]; exact (But.refl _ _).set 3 _
            have K25 : Keeps w2 W5 := by rw [hW5]; exact K2r.set HXB.out _
            have O5 : W5.ownsRow W4.heap.size 78 2 (.slice oa (keptAfter ac f.kept).length oc) (keptAfter ac f.kept).length (repCells (keptAfter ac f.kept)) := by rw [hW5]; exact ownsRow_setCell_below HOF.out (by simp; omega) _
            have SX5 : SesBox XB { f with acked := ac, seen := T.clock, kept := keptAfter ac f.kept } (.slice oa (keptAfter ac f.kept).length oc) W5 := by rw [hW5]; exact SXr.set_kept _ _
            obtain ⟨W6, hW6⟩ : ∃ W6, W6 = (((W5.setCell ⟨g, k * 4, none⟩ (.int .i64 f.client)).setCell ⟨g, k * 4 + 1, none⟩ (.int .i64 ac)).setCell ⟨g, k * 4 + 2, none⟩ (.int .i64 T.clock)).setCell ⟨g, k * 4 + 3, none⟩ (.slice oa (keptAfter ac f.kept).length oc) := ⟨_, rfl⟩
            have bt6 : But g W5 W6 := by rw [hW6]; exact ((((But.refl _ _).set _ _).set _ _).set _ _).set _ _
            have ON6 : TabOn g (w.heap.size + 3) W6 (.slice (some ⟨g, 0, none⟩) T.tab.length vc) (T.tab.set k { f with acked := ac, seen := T.clock, kept := keptAfter ac f.kept }) (ks.set k (.slice oa (keptAfter ac f.kept).length oc)) vc := by
              rw [hW6]
              exact (HON2.out.keep K25).put hk { f with acked := ac, seen := T.clock, kept := keptAfter ac f.kept } _ (owns_base O5 (by omega))
            have O6 : W6.ownsRow W4.heap.size 78 2 (.slice oa (keptAfter ac f.kept).length oc) (keptAfter ac f.kept).length (repCells (keptAfter ac f.kept)) := owns_far O5 (by omega) bt6
            have B6 := (Br.other bt5 (by omega)).other bt6 (by omega)
            have E6 := (Er.but bt5 (by omega)).but bt6 (by omega)
            have Z6 := (Zr.other bt5 (by omega)).other bt6 (by omega)
            have SX6 := SX5.other bt6 (by omega)
            have K6 : Keeps w W6 := But.to (But.to (HK4.out.trans HKr.out) (by omega) bt5) (by omega) bt6
            have HW6 : Hid (W6 = ((((wr.setCell ⟨XB, 3, none⟩ (.slice oa (keptAfter ac f.kept).length oc)).setCell ⟨g, k * 4, none⟩ (.int .i64 f.client)).setCell ⟨g, k * 4 + 1, none⟩ (.int .i64 ac)).setCell ⟨g, k * 4 + 2, none⟩ (.int .i64 T.clock)).setCell ⟨g, k * 4 + 3, none⟩ (.slice oa (keptAfter ac f.kept).length oc)) := by show _ = _; rw [hW6, hW5]
            have hz6 : W4.heap.size ≤ W6.heap.size := Nat.le_trans HKr.out.size (Nat.le_trans bt5.size bt6.size)
            have HON6 : Hid (TabOn g (w.heap.size + 3) W6 (.slice (some ⟨g, 0, none⟩) T.tab.length vc) (T.tab.set k { f with acked := ac, seen := T.clock, kept := keptAfter ac f.kept }) (ks.set k (.slice oa (keptAfter ac f.kept).length oc)) vc) := ON6
            have HO6 : Hid (W6.ownsRow W4.heap.size 78 2 (.slice oa (keptAfter ac f.kept).length oc) (keptAfter ac f.kept).length (repCells (keptAfter ac f.kept))) := O6
            have HB6 : Hid (StBox w.heap.size T (.slice (some ⟨g, 0, none⟩) T.tab.length vc) W6) := B6
            have HE6 : Hid (EntBox (w.heap.size + 1) e W6) := E6
            have HZ6 : Hid (StBox (w.heap.size + 1 + 1) zeroSt (.slice none 0 0) W6) := Z6
            have HSX6 : Hid (SesBox XB { f with acked := ac, seen := T.clock, kept := keptAfter ac f.kept } (.slice oa (keptAfter ac f.kept).length oc) W6) := SX6
            have HK6 : Hid (Keeps w W6) := K6
            clear hW5 bt5 K25 O5 SX5 hW6 bt6 ON6 O6 B6 E6 Z6 SX6 K6 Br Er Zr Nr SXr K2r
            clear W5
            have hXZ : (XB = w.heap.size + 1 + 1) = False := eq_false (by omega)
            have hgZ : (g = w.heap.size + 1 + 1) = False := eq_false (by omega)
            have HACK : Hid ((calledSes T f e).acked = ac ∧ (calledSes T f e).kept = keptAfter ac f.kept) := ⟨hAC, by rw [HCS.out]⟩
            cases qs : decide (e.seq ≤ ac) with
            | true =>
              have hd : ansDone (calledSes T f e) e = false := by simp only [ansDone, HACK.out.1, qs]; rfl
              have H1 : Hid (takenAns T e = -4 ∧ takenDone T e = false ∧ takenSt T e = { T with tab := T.tab.set k { f with acked := ac, seen := T.clock, kept := keptAfter ac f.kept } }) := by
                refine ⟨?_, ?_, ?_⟩
                · rw [HSA.out.1, ansOf, hd, ansNo, HACK.out.1]
                  show (if e.seq ≤ ac then (-4 : Int) else _) = -4
                  rw [if_pos (by simpa using qs)]
                · rw [HSA.out.2.1, hd]
                · rw [HSA.out.2.2, HCC.out, ansSt, ansKept, hd]
                  show ({ T with tab := T.tab.set k { f with acked := ac, seen := T.clock, kept := (calledSes T f e).kept } } : St) = _
                  rw [HACK.out.2]
              have b0 := (HB4.out.keep HKr.out).c0
              have b1 := (HB4.out.keep HKr.out).c1
              have b2 := (HB4.out.keep HKr.out).c2
              have b3 := (HB4.out.keep HKr.out).c3
              have b4 := (HB4.out.keep HKr.out).c4
              have b5 := (HB4.out.keep HKr.out).c5
              have z0 := (HZ4.out.keep HKr.out).c0
              have z1 := (HZ4.out.keep HKr.out).c1
              have z2 := (HZ4.out.keep HKr.out).c2
              have z3 := (HZ4.out.keep HKr.out).c3
              have z4 := (HZ4.out.keep HKr.out).c4
              have z5 := (HZ4.out.keep HKr.out).c5
              have z6 := (HZ4.out.keep HKr.out).c6
              have zf := (HZ4.out.keep HKr.out).fz
              have zl := (HZ4.out.keep HKr.out).lt
              clear hd
              go_wp2_with fail
              rw [← HW6.out]
              clear z0 z1 z2 z3 z4 z5 z6
              have z0 := HZ6.out.c0
              have z1 := HZ6.out.c1
              have z2 := HZ6.out.c2
              have z3 := HZ6.out.c3
              have z4 := HZ6.out.c4
              have z5 := HZ6.out.c5
              have z6 := HZ6.out.c6
              refine bodyPost_ret (v := .tuple #[stV { T with tab := T.tab.set k { f with acked := ac, seen := T.clock, kept := keptAfter ac f.kept } } (.slice (some ⟨g, 0, none⟩) T.tab.length vc), .int .i64 (-4), .bool false]) ?_ rfl ?_
              · simp [results, Try.results41, go_sem, z0, z1, z2, z3, z4, z5, z6]
              · rw [H1.out.1, H1.out.2.1, H1.out.2.2]
                refine ⟨.slice (some ⟨g, 0, none⟩) T.tab.length vc, ?_, rfl, ?_⟩
                · exact (HON6.out.own.but (b := w.heap.size + 1 + 1) (by omega) ((((((((But.refl _ _).set 0 _).set 1 _).set 2 _).set 3 _).set 4 _).set 5 _).set 6 _)).base (by omega)
                · repeat refine Keeps.set ?_ (by simp <;> omega) _
                  exact HK6.out
            | false =>
              have HNQ : Hid (¬ e.seq ≤ ac) := by show ¬ _; simpa using qs
              have HPW : Hid ((keptAfter ac f.kept).Pairwise (fun a b => a.1 < b.1)) := (kept_pair HFE.out).filter _
              have hnl : (keptAfter ac f.kept).length ≤ 3 := Nat.le_trans (List.length_filter_le _ _) hfl
              go_wp2_with fail
              rw [← HW6.out]
              clear HW6 HOF HKr HOr x0 x1 x2 x3 xl xz c0 c1 c2 c3 gz gl b6 bl e3 el
              generalize hNK : keptAfter ac f.kept = nk at *
              clear hNK
              have hq6 := HK6.out.size
              have HKP : Hid (KeptAt W6 (.slice oa nk.length oc) nk) := RowAt.of_owns HO6.out
              go_loopw [11] (fun i wr2 => ∃ (j2 : Nat), j2 ≤ nk.length ∧ i = .int .i64 j2 ∧ Hid (Keeps W6 wr2) ∧ Hid (∀ r ∈ nk.take j2, r.1 ≠ e.seq)) (fun i _ => nk.length - (intOf i).toNat)
              case atStart => exact ⟨0, Nat.zero_le _, rfl, Keeps.refl _, fun r hr => by simp at hr⟩
              case round =>
                obtain ⟨j2, hj2, rfl, HKs, HNO⟩ := hrel
                have Es := HE6.out.keep HKs.out
                have e3 := Es.c3
                have el := Es.lt
                by_cases hlt2 : j2 < nk.length
                · obtain ⟨gb, off, cp, hv, _, hcell⟩ := (HKP.out.keep HKs.out).at hlt2
                  injection hv with hv1 hv2 hv3
                  subst hv1
                  clear hv2 hv3
                  obtain ⟨d0, d1⟩ := hcell j2 hlt2
                  clear hcell
                  have HMEM : Hid (nk[j2] ∈ nk) := List.getElem_mem hlt2
                  have HTK2 : Hid (nk.take (j2 + 1) = nk.take j2 ++ [nk[j2]]) := List.take_succ_eq_append_getElem hlt2
                  generalize nk[j2] = z at *
                  obtain ⟨zq, zv⟩ := z
                  cases hq : (zq == e.seq) with
                  | false =>
                    have HNO2 : Hid (∀ r ∈ nk.take (j2 + 1), r.1 ≠ e.seq) := by
                      intro r hr
                      rw [HTK2.out] at hr
                      rcases List.mem_append.1 hr with hr | hr
                      · exact HNO.out r hr
                      · rw [List.mem_singleton] at hr
                        subst hr
                        simpa using hq
                    go_wp2_with fail
                    go_quiet (fail)
                    go_wp2_with fail
                    go_roundw
                    case rel => exact ⟨j2 + 1, by omega, by go_num, HKs.out.drewN _, HNO2⟩
                    case measure => simp [intOf]; omega
                  | true =>
                    have hqe : zq = e.seq := by simpa using hq
                    have hhas := has_mem HPW.out (show (e.seq, zv) ∈ nk from by rw [← hqe]; exact HMEM.out)
                    have hd : ansDone (calledSes T f e) e = false := by simp [ansDone, HACK.out.2, hhas.1]
                    have H1 : Hid (takenAns T e = zv ∧ takenDone T e = false ∧ takenSt T e = { T with tab := T.tab.set k { f with acked := ac, seen := T.clock, kept := nk } }) := by
                      refine ⟨?_, ?_, ?_⟩
                      · rw [HSA.out.1, ansOf, hd, ansNo, HACK.out.1, HACK.out.2, hhas.1, hhas.2]
                        show (if e.seq ≤ ac then (-4 : Int) else zv) = zv
                        rw [if_neg (by have := HNQ.out; omega)]
                      · rw [HSA.out.2.1, hd]
                      · rw [HSA.out.2.2, HCC.out, ansSt, ansKept, hd]
                        show ({ T with tab := T.tab.set k { f with acked := ac, seen := T.clock, kept := (calledSes T f e).kept } } : St) = _
                        rw [HACK.out.2]
                    clear hd hhas hqe
                    go_wp2_with fail
                    go_quiet (fail)
                    obtain ⟨W7, hW7⟩ : ∃ W7, W7 = wr.drewN nq := ⟨_, rfl⟩
                    have k67 : Keeps W6 W7 := by rw [hW7]; exact HKs.out.drewN _
                    have d1 : W7.cell? ⟨gb, off + j2 * 2 + 1, none⟩ = some (.int .i64 zv) := by rw [hW7]; exact d1
                    rw [← hW7]
                    clear hW7 e3 el d0
                    have B7 := HB6.out.keep k67
                    have Z7 := HZ6.out.keep k67
                    have b0 := B7.c0
                    have b1 := B7.c1
                    have b2 := B7.c2
                    have b3 := B7.c3
                    have b4 := B7.c4
                    have b5 := B7.c5
                    have b6 := B7.c6
                    have bl := B7.lt
                    have z0 := Z7.c0
                    have z1 := Z7.c1
                    have z2 := Z7.c2
                    have z3 := Z7.c3
                    have z4 := Z7.c4
                    have z5 := Z7.c5
                    have z6 := Z7.c6
                    have zf := Z7.fz
                    have zl := Z7.lt
                    have HN7 : Hid (TabOn g (w.heap.size + 3) W7 (.slice (some ⟨g, 0, none⟩) T.tab.length vc) (T.tab.set k { f with acked := ac, seen := T.clock, kept := nk }) (ks.set k (.slice (some ⟨gb, off, none⟩) nk.length oc)) vc) := HON6.out.keep k67
                    have HK7 : Hid (Keeps w W7) := HK6.out.trans k67
                    have hgbl := (HO6.out.lt gb rfl).1
                    have hgbZ : (gb = w.heap.size + 1 + 1) = False := eq_false (by omega)
                    have hgbZ2 : (w.heap.size + 1 + 1 = gb) = False := eq_false (by omega)
                    clear B7 Z7 k67 hgbl
                    go_wp2_with fail
                    go_region
                    all_goals go_wp2_with fail
                    all_goals
                      refine bodyPost_ret (v := .tuple #[stV { T with tab := T.tab.set k { f with acked := ac, seen := T.clock, kept := nk } } (.slice (some ⟨g, 0, none⟩) T.tab.length vc), .int .i64 zv, .bool false]) ?_ rfl ?_
                      · simp [results, Try.results41, go_sem, z0, z1, z2, z3, z4, z5, z6]
                      · rw [H1.out.1, H1.out.2.1, H1.out.2.2]
                        refine ⟨.slice (some ⟨g, 0, none⟩) T.tab.length vc, ?_, rfl, ?_⟩
                        · exact ((HN7.out.own.but (b := w.heap.size + 1 + 1) (by omega) ((((((((But.refl _ _).set 0 _).set 1 _).set 2 _).set 3 _).set 4 _).set 5 _).set 6 _)).keep (Keeps.refl _).drew).base (by omega)
                        · refine Keeps.drew ?_
                          repeat refine Keeps.set ?_ (by simp <;> omega) _
                          exact HK7.out
                · have HNO2 : Hid (∀ r ∈ nk, r.1 ≠ e.seq) := by
                    have := HNO.out
                    rw [List.take_of_length_le (by omega)] at this
                    exact this
                  have hnh : keptHas nk e.seq = false := by
                    cases hh : keptHas nk e.seq with
                    | false => rfl
                    | true =>
                      obtain ⟨hp, _⟩ := kept_found hh
                      have h2 := HNO2.out _ (List.getElem_mem hp)
                      simp [keptHas, thereB, List.getElem?_eq_getElem hp] at hh
                      exact absurd hh h2
                  have HNH : Hid (keptHas nk e.seq = false) := hnh
                  have Xs := HSX6.out.keep HKs.out
                  have x1 := Xs.c1
                  have xl := Xs.lt
                  have Bs := HB6.out.keep HKs.out
                  have Zs := HZ6.out.keep HKs.out
                  cases qf : decide (ac + 3 < e.seq) with
                  | true =>
                    have hd : ansDone (calledSes T f e) e = false := by simp only [ansDone, HACK.out.1, HACK.out.2, qf]; simp
                    have H1 : Hid (takenAns T e = -5 ∧ takenDone T e = false ∧ takenSt T e = { T with tab := T.tab.set k { f with acked := ac, seen := T.clock, kept := nk } }) := by
                      refine ⟨?_, ?_, ?_⟩
                      · rw [HSA.out.1, ansOf, hd, ansNo, HACK.out.1, HACK.out.2, HNH.out]
                        show (if e.seq ≤ ac then (-4 : Int) else -5) = -5
                        rw [if_neg (by have := HNQ.out; omega)]
                      · rw [HSA.out.2.1, hd]
                      · rw [HSA.out.2.2, HCC.out, ansSt, ansKept, hd]
                        show ({ T with tab := T.tab.set k { f with acked := ac, seen := T.clock, kept := (calledSes T f e).kept } } : St) = _
                        rw [HACK.out.2]
                    have b0 := Bs.c0
                    have b1 := Bs.c1
                    have b2 := Bs.c2
                    have b3 := Bs.c3
                    have b4 := Bs.c4
                    have b5 := Bs.c5
                    have b6 := Bs.c6
                    have bl := Bs.lt
                    have z0 := Zs.c0
                    have z1 := Zs.c1
                    have z2 := Zs.c2
                    have z3 := Zs.c3
                    have z4 := Zs.c4
                    have z5 := Zs.c5
                    have z6 := Zs.c6
                    have zf := Zs.fz
                    have zl := Zs.lt
                    have HNs : Hid (TabOn g (w.heap.size + 3) wr (.slice (some ⟨g, 0, none⟩) T.tab.length vc) (T.tab.set k { f with acked := ac, seen := T.clock, kept := nk }) (ks.set k (.slice oa nk.length oc)) vc) := HON6.out.keep HKs.out
                    clear hd hnh Xs Bs Zs
                    go_wp2_with fail
                    refine bodyPost_ret (v := .tuple #[stV { T with tab := T.tab.set k { f with acked := ac, seen := T.clock, kept := nk } } (.slice (some ⟨g, 0, none⟩) T.tab.length vc), .int .i64 (-5), .bool false]) ?_ rfl ?_
                    · simp [results, Try.results41, go_sem, z0, z1, z2, z3, z4, z5, z6]
                    · rw [H1.out.1, H1.out.2.1, H1.out.2.2]
                      refine ⟨.slice (some ⟨g, 0, none⟩) T.tab.length vc, ?_, rfl, ?_⟩
                      · exact (HNs.out.own.but (b := w.heap.size + 1 + 1) (by omega) ((((((((But.refl _ _).set 0 _).set 1 _).set 2 _).set 3 _).set 4 _).set 5 _).set 6 _)).base (by omega)
                      · repeat refine Keeps.set ?_ (by simp <;> omega) _
                        exact HK6.out.trans HKs.out
                  | false =>
                    have hdn : ansDone (calledSes T f e) e = true := by
                      simp only [ansDone, HACK.out.1, HACK.out.2, HNH.out, qf]
                      simp
                      have := HNQ.out
                      omega
                    have HDV : Hid (∀ W, Calls Try.prog 61 #[.agg #[.int .i64 T.v0, .int .i64 T.v1, .int .i64 T.v2, .int .i64 T.v3], .agg #[.int .i64 e.ok, .int .i64 e.okey, .int .i64 e.oto, .int .i64 e.on]] W fun y w' => y = .returned (.tuple #[.agg #[.int .i64 (doneVals T e 0), .int .i64 (doneVals T e 1), .int .i64 (doneVals T e 2), .int .i64 (doneVals T e 3)], .int .i64 (doneAns T e)]) ∧ Keeps W w') := by
                      intro W
                      have hv := vals_of HTS.out
                      have h1 := did_c (stG T) e.ok e.okey e.oto e.on W HOP.out hv
                      have e1 : doneVals T e = (if stepOk e.ok (stG T) e.okey e.oto e.on then stepTo e.ok (stG T) e.okey e.oto e.on else stG T) := by simp [doneVals, doVals, HOP.out, hv]
                      have e2 : doneAns T e = (if stepOk e.ok (stG T) e.okey e.oto e.on then stepTo e.ok (stG T) e.okey e.oto e.on e.okey.toNat else -1) := by simp [doneAns, doAns, HOP.out, hv]
                      rw [← e1, ← e2] at h1
                      exact h1
                    have H1 : Hid (takenAns T e = doneAns T e ∧ takenDone T e = true ∧ takenSt T e = { setVals T (doneVals T e) with tab := T.tab.set k { f with acked := ac, seen := T.clock, kept := keptPut nk e.seq (doneAns T e) } }) := by
                      refine ⟨?_, ?_, ?_⟩
                      · rw [HSA.out.1, ansOf, hdn]
                        rfl
                      · rw [HSA.out.2.1, hdn]
                      · rw [HSA.out.2.2, HCC.out, ansSt, ansKept, hdn]
                        show ({ setVals T (doneVals T e) with tab := T.tab.set k { f with acked := ac, seen := T.clock, kept := keptPut (calledSes T f e).kept e.seq (doneAns T e) } } : St) = _
                        rw [HACK.out.2]
                    have b2 := Bs.c2
                    have b3 := Bs.c3
                    have b4 := Bs.c4
                    have b5 := Bs.c5
                    have bl := Bs.lt
                    have e5 := Es.c5
                    have e6 := Es.c6
                    have e7 := Es.c7
                    have e8 := Es.c8
                    clear hdn hnh Xs Bs Zs HSA HCC HCS
                    generalize doneVals T e = dv at *
                    generalize doneAns T e = da at *
                    go_wp2_with fail
                    refine (HDV.out _).mono ?_
                    rintro y w8 ⟨rfl, hb⟩
                    have k68 : Keeps W6 w8 := HKs.out.trans hb
                    have HK68 : Hid (Keeps W6 w8) := k68
                    have B8 := HB6.out.keep k68
                    clear hb b2 b3 b4 b5 bl e3 e5 e6 e7 e8 el x1 xl HDV Es
                    have b2 := B8.c2
                    have b3 := B8.c3
                    have b4 := B8.c4
                    have b5 := B8.c5
                    have bz := B8.fz
                    have bl := B8.lt
                    clear B8 k68
                    go_wp2_with fail
                    have bt9 : But w.heap.size w8 (((((w8.setCell ⟨w.heap.size, 2, none⟩ (.int .i64 (dv 0))).setCell ⟨w.heap.size, 3, none⟩ (.int .i64 (dv 1))).setCell ⟨w.heap.size, 4, none⟩ (.int .i64 (dv 2))).setCell ⟨w.heap.size, 5, none⟩ (.int .i64 (dv 3))).alloc (.cells #[.int .i64 (dv 0), .int .i64 (dv 1), .int .i64 (dv 2), .int .i64 (dv 3)] 22)) := (((((But.refl _ _).set 2 _).set 3 _).set 4 _).set 5 _).keeps ((Keeps.refl _).alloc _)
                    have B9 := ((HB6.out.keep HK68.out).vals dv).keep ((Keeps.refl _).alloc (.cells #[.int .i64 (dv 0), .int .i64 (dv 1), .int .i64 (dv 2), .int .i64 (dv 3)] 22))
                    generalize (((((w8.setCell ⟨w.heap.size, 2, none⟩ (.int .i64 (dv 0))).setCell ⟨w.heap.size, 3, none⟩ (.int .i64 (dv 1))).setCell ⟨w.heap.size, 4, none⟩ (.int .i64 (dv 2))).setCell ⟨w.heap.size, 5, none⟩ (.int .i64 (dv 3))).alloc (.cells #[.int .i64 (dv 0), .int .i64 (dv 1), .int .i64 (dv 2), .int .i64 (dv 3)] 22)) = W9 at *
                    have HB9 : Hid (StBox w.heap.size (setVals T dv) (.slice (some ⟨g, 0, none⟩) T.tab.length vc) W9) := B9
                    have HE9 : Hid (EntBox (w.heap.size + 1) e W9) := (HE6.out.keep HK68.out).but bt9 (by omega)
                    have HZ9 : Hid (StBox (w.heap.size + 1 + 1) zeroSt (.slice none 0 0) W9) := (HZ6.out.keep HK68.out).other bt9 (by omega)
                    have HN9 : Hid (TabOn g (w.heap.size + 3) W9 (.slice (some ⟨g, 0, none⟩) T.tab.length vc) (T.tab.set k { f with acked := ac, seen := T.clock, kept := nk }) (ks.set k (.slice oa nk.length oc)) vc) := (HON6.out.keep HK68.out).but (by omega) bt9
                    have HO9 : Hid (W9.ownsRow W4.heap.size 78 2 (.slice oa nk.length oc) nk.length (repCells nk)) := owns_far (owns_keep HO6.out HK68.out) (by omega) bt9
                    have HK9 : Hid (Keeps w W9) := But.to (HK6.out.trans HK68.out) (Nat.le_refl _) bt9
                    have HKP9 : Hid (KeptAt W9 (.slice oa nk.length oc) nk) := RowAt.of_owns HO9.out
                    clear bt9 B9 b2 b3 b4 b5 bz bl HK68 HB6 HE6 HZ6 HON6 HO6 HK6 HKP HKs HSX6
                    go_loopw [14] (fun i wr3 => ∃ (j3 : Nat), j3 ≤ nk.length ∧ i = .int .i64 j3 ∧ Hid (Keeps W9 wr3) ∧ Hid (∀ r ∈ nk.take j3, r.1 < e.seq)) (fun i _ => nk.length - (intOf i).toNat)
                    case atStart => exact ⟨0, Nat.zero_le _, rfl, Keeps.refl _, fun r hr => by simp at hr⟩
                    case round =>
                      obtain ⟨j3, hj3, rfl, HKt, HLO⟩ := hrel
                      have Et := HE9.out.keep HKt.out
                      have e3 := Et.c3
                      have el := Et.lt
                      by_cases hlt3 : j3 < nk.length
                      · obtain ⟨gb, off, cp, hv, _, hcell⟩ := (HKP9.out.keep HKt.out).at hlt3
                        injection hv with hv1 hv2 hv3
                        subst hv1
                        clear hv2 hv3
                        obtain ⟨d0, d1⟩ := hcell j3 hlt3
                        clear hcell
                        have HTK3 : Hid (nk.take (j3 + 1) = nk.take j3 ++ [nk[j3]]) := List.take_succ_eq_append_getElem hlt3
                        have HZ3 : Hid (∀ q v, nk[j3] = (q, v) → nk[j3].1 = q) := fun q v h => by rw [h]
                        have HGE : Hid (∀ q, nk[j3].1 = q → ¬ q < e.seq → posOf nk e.seq = j3) := by
                          intro q hq hn
                          refine Place.pos ⟨hj3, fun i hi hij => HLO.out _ ?_, fun i hi hij => ?_⟩
                          · exact List.mem_take_iff_getElem.2 ⟨i, by omega, rfl⟩
                          · by_cases he : i = j3
                            · subst he; omega
                            · have := rises_pair.2 HPW.out j3 i hlt3 hi (by omega)
                              omega
                        generalize hzz : nk[j3] = z at *
                        obtain ⟨zq, zv⟩ := z
                        have HGE2 : Hid (¬ zq < e.seq → posOf nk e.seq = j3) := fun h => HGE.out zq rfl h
                        clear hzz HGE HZ3
                        have hltI : ((j3 : Int) < (nk.length : Int)) := by omega
                        cases hq : decide (zq < e.seq) with
                        | true =>
                          have HLO2 : Hid (∀ r ∈ nk.take (j3 + 1), r.1 < e.seq) := by
                            intro r hr
                            rw [HTK3.out] at hr
                            rcases List.mem_append.1 hr with hr | hr
                            · exact HLO.out r hr
                            · rw [List.mem_singleton] at hr
                              subst hr
                              simpa using hq
                          go_wp2_with fail
                          go_quiet (fail)
                          go_wp2_with fail
                          go_roundw
                          case rel => exact ⟨j3 + 1, by omega, by go_num, HKt.out.drewN _, HLO2⟩
                          case measure => simp [intOf]; omega
                        | false =>
                          have HPOS : Hid (posOf nk e.seq = j3) := HGE2.out (by simpa using hq)
                          have hltI : decide ((j3 : Int) < (nk.length : Int)) = true := by simp; omega
                          go_wp2_with fail
                          go_quiet (fail)
                          go_wp2_with fail
                          clear d0 d1
                          generalize (some (⟨gb, off, none⟩ : Addr)) = oa at *
                          obtain ⟨Wa, hWa⟩ : ∃ Wa, Wa = wr.drewN nq := ⟨_, rfl⟩
                          have ka : Keeps W9 Wa := by rw [hWa]; exact HKt.out.drewN _
                          rw [← hWa]
                          clear hWa
                          have kd : Keeps W9 Wa.drew := ka.drew
                          have hSd : Wa.drew.cell? ⟨w.heap.size, 6, none⟩ = some (.slice (some ⟨g, 0, none⟩) T.tab.length vc) ∧ Wa.drew.cell? ⟨w.heap.size + 1, 3, none⟩ = some (.int .i64 e.seq) := ⟨(HB9.out.keep kd).c6, (HE9.out.keep kd).c3⟩
                          have hcap : nk.length ≤ oc := owns_cap HO9.out
                          have hjc : (j3 : Int) ≤ (oc : Int) := by omega
                          have hjl : (j3 : Int) ≤ (nk.length : Int) := by omega
                          have hz3 : ∀ w, (Go.sizeOf 78).run Try.prog w = .ok 2 w := fun _ => by kernel_rfl
                          have hmap0 : Option.map (fun x : Addr => x.add 0) oa = oa := by cases oa <;> rfl
                          have hmin : min j3 nk.length = j3 := Nat.min_eq_left hj3
                          clear e3 el Et ka
                          refine wp_region_held_drew (S := fun w' => w'.cell? ⟨w.heap.size, 6, none⟩ = some (.slice (some ⟨g, 0, none⟩) T.tab.length vc) ∧ w'.cell? ⟨w.heap.size + 1, 3, none⟩ = some (.int .i64 e.seq)) (by kernel_rfl) hSd (fun hS => ?_)
                          obtain ⟨Wd, hWd⟩ : ∃ z, z = Wa.drew := ⟨_, rfl⟩
                          rw [← hWd] at kd hSd hS ⊢
                          clear hWd
                          refine wpAnyH_take (i := 0) (v := .pointer (some ⟨w.heap.size, 6, none⟩)) rfl (by kernel_rfl) (by kernel_rfl) (by kernel_rfl) (fun _ _ _ h => h) (Or.inl ⟨by rfl, ?_⟩) hS ?_
                          · intro w hS; go_simp
                          refine wpAnyH_take (i := 1) (v := .slice (some ⟨g, 0, none⟩) T.tab.length vc) rfl (by kernel_rfl) (by kernel_rfl) (by kernel_rfl) (fun _ _ _ h => h) (Or.inl ⟨by rfl, ?_⟩) hS ?_
                          · intro w hS; go_simp
                          refine wpAnyH_take (i := 2) (v := .int .i64 k) rfl (by kernel_rfl) (by kernel_rfl) (by kernel_rfl) (fun _ _ _ h => h) (Or.inl ⟨by rfl, ?_⟩) hS ?_
                          · intro w hS; go_simp
                          refine wpAnyH_take (i := 4) (v := .slice oa nk.length oc) rfl (by kernel_rfl) (by kernel_rfl) (by kernel_rfl) (fun _ _ _ h => h) (Or.inl ⟨by rfl, ?_⟩) hS ?_
                          · intro w hS; go_simp
                          refine wpAnyH_take (i := 5) (v := .int .i64 j3) rfl (by kernel_rfl) (by kernel_rfl) (by kernel_rfl) (fun _ _ _ h => h) (Or.inl ⟨by rfl, ?_⟩) hS ?_
                          · intro w hS; go_simp
                          refine wpAnyH_take (i := 6) (v := .slice (if oc = 0 then oa else oa.map (·.add (0 * 2))) j3 oc) rfl (by kernel_rfl) (by kernel_rfl) (by kernel_rfl) (fun _ _ _ h => h) (Or.inl ⟨by rfl, ?_⟩) hS ?_
                          · intro w hS; go_simp
                          refine wpAnyH_take (i := 8) (v := .pointer (some ⟨w.heap.size + 1, 3, none⟩)) rfl (by kernel_rfl) (by kernel_rfl) (by kernel_rfl) (fun _ _ _ h => h) (Or.inl ⟨by rfl, ?_⟩) hS ?_
                          · intro w hS; go_simp
                          refine wpAnyH_take (i := 9) (v := .int .i64 e.seq) rfl (by kernel_rfl) (by kernel_rfl) (by kernel_rfl) (fun _ _ _ h => h) (Or.inl ⟨by rfl, ?_⟩) hS ?_
                          · intro w hS; go_simp
                          refine wpAnyH_take (i := 10) (v := .int .i64 da) rfl (by kernel_rfl) (by kernel_rfl) (by kernel_rfl) (fun _ _ _ h => h) (Or.inl ⟨by rfl, ?_⟩) hS ?_
                          · intro w hS; go_simp
                          refine wpAnyH_take (i := 11) (v := .agg #[.int .i64 e.seq, .int .i64 da]) rfl (by kernel_rfl) (by kernel_rfl) (by kernel_rfl) (fun _ _ _ h => h) (Or.inl ⟨by rfl, ?_⟩) hS ?_
                          · intro w hS; go_simp
                          refine wpAnyH_take (i := 14) (v := .slice oa nk.length oc) rfl (by kernel_rfl) (by kernel_rfl) (by kernel_rfl) (fun _ _ _ h => h) (Or.inl ⟨by rfl, ?_⟩) hS ?_
                          · intro w hS; go_simp
                          refine wpAnyH_take (i := 15) (v := .int .i64 j3) rfl (by kernel_rfl) (by kernel_rfl) (by kernel_rfl) (fun _ _ _ h => h) (Or.inl ⟨by rfl, ?_⟩) hS ?_
                          · intro w hS; go_simp
                          refine wpAnyH_take (i := 16) (v := .slice (if oc = j3 then oa else oa.map (·.add (j3 * 2))) (nk.length - j3) (oc - j3)) rfl (by kernel_rfl) (by kernel_rfl) (by kernel_rfl) (fun _ _ _ h => h) (Or.inl ⟨by rfl, ?_⟩) hS ?_
                          · intro w hS; go_simp
                          obtain ⟨W0, hW0⟩ : ∃ z, z = Wd := ⟨_, rfl⟩
                          have k0 : Keeps Wd W0 := by rw [hW0]; exact Keeps.refl _
                          rw [← hW0] at hS ⊢
                          clear hW0
                          refine wpAnyH_ready (rs := [3, 12]) (by kernel_rfl) (by simp) ?_
                          refine AllReadyH.cons rfl (fun K hK => ?_) (AllReadyH.cons rfl (fun K hK => ?_) AllReadyH.nil)
                          · go_simp
                            have oR1 := owns_bare W0 Wd.heap.size k0.size
                            have k1 : Keeps Wd (W0.alloc (.cells #[] 78)) := k0.alloc _
                            obtain ⟨W1, hW1⟩ : ∃ z, z = W0.alloc (.cells #[] 78) := ⟨_, rfl⟩
                            rw [← hW1] at oR1 k1 ⊢
                            have hs1 : W1.heap.size = W0.heap.size + 1 := by rw [hW1]; exact World.size_alloc _ _
                            clear hW1
                            refine hK.out _ _ ⟨cell_kept hSd.1 k1, cell_kept hSd.2 k1⟩ (fun hS => ?_)
                            clear hK K
                            refine wpAnyH_ready (rs := [7, 12]) (by kernel_rfl) (by simp) ?_
                            refine AllReadyH.cons rfl (fun K hK => ?_) (AllReadyH.cons rfl (fun K hK => ?_) AllReadyH.nil)
                            · obtain ⟨ra2, rc2, W2, hr2, oR2, hkk2, hfr2⟩ := app_rep W1 Wd.heap.size _ [] oR1 _ (nk.take j3) (kept_prefix (HKP9.out.keep (kd.trans k1)) hj3) (by simp; omega) k1.size
                              have k2 := hkk2 Wd rfl k1
                              refine step_append_run rfl _ _ 46 rfl (by simp [Act.eval, Act.put, hmap0, hmin]) (by simp [Act.eval, Act.put, hmap0, hmin]) hr2 ?_
                              refine hK.out _ _ ⟨cell_kept hSd.1 k2, cell_kept hSd.2 k2⟩ (fun hS => ?_)
                              clear hK K
                              refine wpAnyH_ready (rs := [12]) (by kernel_rfl) (by simp) ?_
                              refine AllReadyH.cons rfl (fun K hK => ?_) AllReadyH.nil
                              go_simp
                              have hP3 := kept_one W2 e.seq da
                              have k3 : Keeps Wd (W2.alloc (.cells #[.int .i64 e.seq, .int .i64 da] 78)) := k2.alloc _
                              have oR3 := owns_keep oR2 ((Keeps.refl W2).alloc (.cells #[.int .i64 e.seq, .int .i64 da] 78))
                              obtain ⟨W3, hW3⟩ : ∃ z, z = W2.alloc (.cells #[.int .i64 e.seq, .int .i64 da] 78) := ⟨_, rfl⟩
                              rw [← hW3] at hP3 k3 oR3 ⊢
                              have hs3 : W3.heap.size = W2.heap.size + 1 := by rw [hW3]; exact World.size_alloc _ _
                              clear hW3
                              refine hK.out _ _ ⟨cell_kept hSd.1 k3, cell_kept hSd.2 k3⟩ (fun hS => ?_)
                              clear hK K
                              refine wpAnyH_ready (rs := [13]) (by kernel_rfl) (by simp) ?_
                              refine AllReadyH.cons rfl (fun K hK => ?_) AllReadyH.nil
                              obtain ⟨ra4, rc4, W4, hr4, oR4, hkk4, hfr4⟩ := app_rep W3 Wd.heap.size _ (nk.take j3) oR3 _ [(e.seq, da)] hP3 (by simp; omega) k3.size
                              have k4 := hkk4 Wd rfl k3
                              refine step_append_run rfl _ _ 46 rfl (by simp [Act.eval, Act.put, hmap0, hmin]) (by simp [Act.eval, Act.put, hmap0, hmin]) hr4 ?_
                              refine hK.out _ _ ⟨cell_kept hSd.1 k4, cell_kept hSd.2 k4⟩ (fun hS => ?_)
                              clear hK K
                              refine wpAnyH_ready (rs := [17]) (by kernel_rfl) (by simp) ?_
                              refine AllReadyH.cons rfl (fun K hK => ?_) AllReadyH.nil
                              obtain ⟨ra5, rc5, W5, hr5, oR5, hkk5, hfr5⟩ := app_rep W4 Wd.heap.size _ (nk.take j3 ++ [(e.seq, da)]) oR4 _ (nk.drop j3) (kept_suffix (HKP9.out.keep (kd.trans k4)) hj3 hcap) (by simp; omega) k4.size
                              have k5 := hkk5 Wd rfl k4
                              have hln : ∃ ln, ln = (nk.take j3 ++ [(e.seq, da)] ++ nk.drop j3).length := ⟨_, rfl⟩
                              have hlm := Classical.choose_spec hln
                              generalize Classical.choose hln = ln at hlm
                              rw [← hlm] at hr5 oR5
                              have HLM : Hid (ln = (nk.take j3 ++ [(e.seq, da)] ++ nk.drop j3).length) := hlm
                              clear hln hlm
                              refine step_append_run rfl _ _ 46 rfl (by simp [Act.eval, Act.put, hmap0, hmin]) (by simp [Act.eval, Act.put, hmap0, hmin]) hr5 ?_
                              refine hK.out _ _ ⟨cell_kept hSd.1 k5, cell_kept hSd.2 k5⟩ (fun hS => ?_)
                              clear hK K
                              refine wpAnyH_take (i := 18) (v := .pointer (some ⟨g, k * 4, none⟩)) rfl (by kernel_rfl) (by kernel_rfl) (by kernel_rfl) (fun _ _ _ h => h) (Or.inl ⟨by rfl, ?_⟩) hS ?_
                              · intro w hS; go_simp
                              refine wpAnyH_take (i := 19) (v := .pointer (some ⟨g, k * 4 + 3, none⟩)) rfl (by kernel_rfl) (by kernel_rfl) (by kernel_rfl) (fun _ _ _ h => h) (Or.inl ⟨by rfl, ?_⟩) hS ?_
                              · intro w hS; go_simp
                              refine wpAnyH_ready (rs := [20]) (by kernel_rfl) (by simp) ?_
                              refine AllReadyH.cons rfl (fun K hK => ?_) AllReadyH.nil
                              have hn5 := HN9.out.keep (kd.trans k5)
                              have hq5 : k < (T.tab.set k { f with acked := ac, seen := T.clock, kept := nk }).length := by simpa using hk
                              have htab : TabAt W5 (.slice (some ⟨g, 0, none⟩) (T.tab.set k { f with acked := ac, seen := T.clock, kept := nk }).length vc) (T.tab.set k { f with acked := ac, seen := T.clock, kept := nk }) := by have := hn5.own.tab; simpa only [List.length_set] using this
                              have hd3 : ∃ u, W5.cell? ⟨g, k * 4 + 3, none⟩ = some u := cell_three htab hq5
                              clear htab
                              have d3 := Classical.choose_spec hd3
                              generalize Classical.choose hd3 = y3 at d3
                              clear hd3
                              have dz := fun i => hn5.row.frozen i
                              have dl := hn5.row.lt
                              go_simp
                              have bt : But g W5 (W5.setCell ⟨g, k * 4 + 3, none⟩ (.slice ra5 ln rc5)) := (But.refl _ _).set _ _
                              have hoo : W5.ownsRow (w.heap.size + 3) 78 2 (.slice ra5 ln rc5) (nk.take j3 ++ [(e.seq, da)] ++ nk.drop j3).length (repCells (nk.take j3 ++ [(e.seq, da)] ++ nk.drop j3)) := by rw [← HLM.out]; exact owns_base oR5 (by have := (HZ9.out.keep kd).lt; omega)
                              have hnn := hn5.keptSet hq5 (nk.take j3 ++ [(e.seq, da)] ++ nk.drop j3) _ hoo
                              obtain ⟨WE, hWE⟩ : ∃ z, z = W5.setCell ⟨g, k * 4 + 3, none⟩ (.slice ra5 ln rc5) := ⟨_, rfl⟩
                              rw [← hWE] at bt hnn ⊢
                              clear hWE
                              have BE := (HB9.out.keep (kd.trans k5)).other bt (by omega)
                              have EE := (HE9.out.keep (kd.trans k5)).but bt (by omega)
                              have ZE := (HZ9.out.keep (kd.trans k5)).other bt (by omega)
                              have KE : Keeps w WE := But.to (HK9.out.trans (kd.trans k5)) (by omega) bt
                              refine hK.out _ _ ⟨BE.c6, EE.c3⟩ (fun hS => ?_)
                              clear hK K
                              refine wpAnyH_done (by kernel_rfl) ?_ _
                              have HKE : Hid (Keeps w WE) := KE
                              have HNE : Hid (TabOn g (w.heap.size + 3) WE (.slice (some ⟨g, 0, none⟩) T.tab.length vc) (T.tab.set k { f with acked := ac, seen := T.clock, kept := keptPut nk e.seq da }) ((ks.set k (.slice oa nk.length oc)).set k (.slice ra5 ln rc5)) vc) := by
                                have := hnn
                                simp only [List.getElem_set_self, List.set_set] at this
                                rw [show keptPut nk e.seq da = nk.take j3 ++ [(e.seq, da)] ++ nk.drop j3 from by rw [keptPut, HPOS.out]; simp]
                                show TabOn _ _ _ _ _ _ _
                                simpa [List.set_set] using this
                              have b0 := BE.c0
                              have b1 := BE.c1
                              have b2 := BE.c2
                              have b3 := BE.c3
                              have b4 := BE.c4
                              have b5 := BE.c5
                              have b6 := BE.c6
                              have bl := BE.lt
                              have z0 := ZE.c0
                              have z1 := ZE.c1
                              have z2 := ZE.c2
                              have z3 := ZE.c3
                              have z4 := ZE.c4
                              have z5 := ZE.c5
                              have z6 := ZE.c6
                              have zf := ZE.fz
                              have zl := ZE.lt
                              clear hnn bt BE EE ZE KE hS hSd d3 dz dl hn5 hq5 hoo HLM
                              clear oR1 k1 hs1 hr2 oR2 hkk2 hfr2 k2 hP3 k3 oR3 hs3 hr4 oR4 hkk4 hfr4 k4 hr5 oR5 hkk5 hfr5 k5 hmap0 hmin hz3 hjc hjl hcap kd k0
                              simp only [setVals] at b0 b1 b2 b3 b4 b5
                              go_wp2_with fail
                              all_goals
                                refine bodyPost_ret (v := .tuple #[stV { setVals T dv with tab := T.tab.set k { f with acked := ac, seen := T.clock, kept := keptPut nk e.seq da } } (.slice (some ⟨g, 0, none⟩) T.tab.length vc), .int .i64 da, .bool true]) ?_ rfl ?_
                                · simp [results, Try.results41, go_sem, z0, z1, z2, z3, z4, z5, z6, setVals]
                                · rw [H1.out.1, H1.out.2.1, H1.out.2.2]
                                  refine ⟨.slice (some ⟨g, 0, none⟩) T.tab.length vc, ?_, rfl, ?_⟩
                                  · exact (HNE.out.own.but (b := w.heap.size + 1 + 1) (by omega) ((((((((But.refl _ _).set 0 _).set 1 _).set 2 _).set 3 _).set 4 _).set 5 _).set 6 _)).base (by omega)
                                  · repeat refine Keeps.set ?_ (by simp <;> omega) _
                                    exact HKE.out
                            · go_simp
                              have hP2 := kept_one W1 e.seq da
                              have k2 : Keeps Wd (W1.alloc (.cells #[.int .i64 e.seq, .int .i64 da] 78)) := k1.alloc _
                              have oR2 := owns_keep oR1 ((Keeps.refl W1).alloc (.cells #[.int .i64 e.seq, .int .i64 da] 78))
                              obtain ⟨W2, hW2⟩ : ∃ z, z = W1.alloc (.cells #[.int .i64 e.seq, .int .i64 da] 78) := ⟨_, rfl⟩
                              rw [← hW2] at hP2 k2 oR2 ⊢
                              have hs2 : W2.heap.size = W1.heap.size + 1 := by rw [hW2]; exact World.size_alloc _ _
                              clear hW2
                              refine hK.out _ _ ⟨cell_kept hSd.1 k2, cell_kept hSd.2 k2⟩ (fun hS => ?_)
                              clear hK K
                              refine wpAnyH_ready (rs := [7]) (by kernel_rfl) (by simp) ?_
                              refine AllReadyH.cons rfl (fun K hK => ?_) AllReadyH.nil
                              obtain ⟨ra3, rc3, W3, hr3, oR3, hkk3, hfr3⟩ := app_rep W2 Wd.heap.size _ [] oR2 _ (nk.take j3) (kept_prefix (HKP9.out.keep (kd.trans k2)) hj3) (by simp; omega) k2.size
                              have k3 := hkk3 Wd rfl k2
                              have hP3 := kept_far hP2 (hfr3 _ (by simp [Value.ownBlock]; omega) (by omega))
                              refine step_append_run rfl _ _ 46 rfl (by simp [Act.eval, Act.put, hmap0, hmin]) (by simp [Act.eval, Act.put, hmap0, hmin]) hr3 ?_
                              refine hK.out _ _ ⟨cell_kept hSd.1 k3, cell_kept hSd.2 k3⟩ (fun hS => ?_)
                              clear hK K
                              refine wpAnyH_ready (rs := [13]) (by kernel_rfl) (by simp) ?_
                              refine AllReadyH.cons rfl (fun K hK => ?_) AllReadyH.nil
                              obtain ⟨ra4, rc4, W4, hr4, oR4, hkk4, hfr4⟩ := app_rep W3 Wd.heap.size _ (nk.take j3) oR3 _ [(e.seq, da)] hP3 (by simp; omega) k3.size
                              have k4 := hkk4 Wd rfl k3
                              refine step_append_run rfl _ _ 46 rfl (by simp [Act.eval, Act.put, hmap0, hmin]) (by simp [Act.eval, Act.put, hmap0, hmin]) hr4 ?_
                              refine hK.out _ _ ⟨cell_kept hSd.1 k4, cell_kept hSd.2 k4⟩ (fun hS => ?_)
                              clear hK K
                              refine wpAnyH_ready (rs := [17]) (by kernel_rfl) (by simp) ?_
                              refine AllReadyH.cons rfl (fun K hK => ?_) AllReadyH.nil
                              obtain ⟨ra5, rc5, W5, hr5, oR5, hkk5, hfr5⟩ := app_rep W4 Wd.heap.size _ (nk.take j3 ++ [(e.seq, da)]) oR4 _ (nk.drop j3) (kept_suffix (HKP9.out.keep (kd.trans k4)) hj3 hcap) (by simp; omega) k4.size
                              have k5 := hkk5 Wd rfl k4
                              have hln : ∃ ln, ln = (nk.take j3 ++ [(e.seq, da)] ++ nk.drop j3).length := ⟨_, rfl⟩
                              have hlm := Classical.choose_spec hln
                              generalize Classical.choose hln = ln at hlm
                              rw [← hlm] at hr5 oR5
                              have HLM : Hid (ln = (nk.take j3 ++ [(e.seq, da)] ++ nk.drop j3).length) := hlm
                              clear hln hlm
                              refine step_append_run rfl _ _ 46 rfl (by simp [Act.eval, Act.put, hmap0, hmin]) (by simp [Act.eval, Act.put, hmap0, hmin]) hr5 ?_
                              refine hK.out _ _ ⟨cell_kept hSd.1 k5, cell_kept hSd.2 k5⟩ (fun hS => ?_)
                              clear hK K
                              refine wpAnyH_take (i := 18) (v := .pointer (some ⟨g, k * 4, none⟩)) rfl (by kernel_rfl) (by kernel_rfl) (by kernel_rfl) (fun _ _ _ h => h) (Or.inl ⟨by rfl, ?_⟩) hS ?_
                              · intro w hS; go_simp
                              refine wpAnyH_take (i := 19) (v := .pointer (some ⟨g, k * 4 + 3, none⟩)) rfl (by kernel_rfl) (by kernel_rfl) (by kernel_rfl) (fun _ _ _ h => h) (Or.inl ⟨by rfl, ?_⟩) hS ?_
                              · intro w hS; go_simp
                              refine wpAnyH_ready (rs := [20]) (by kernel_rfl) (by simp) ?_
                              refine AllReadyH.cons rfl (fun K hK => ?_) AllReadyH.nil
                              have hn5 := HN9.out.keep (kd.trans k5)
                              have hq5 : k < (T.tab.set k { f with acked := ac, seen := T.clock, kept := nk }).length := by simpa using hk
                              have htab : TabAt W5 (.slice (some ⟨g, 0, none⟩) (T.tab.set k { f with acked := ac, seen := T.clock, kept := nk }).length vc) (T.tab.set k { f with acked := ac, seen := T.clock, kept := nk }) := by have := hn5.own.tab; simpa only [List.length_set] using this
                              have hd3 : ∃ u, W5.cell? ⟨g, k * 4 + 3, none⟩ = some u := cell_three htab hq5
                              clear htab
                              have d3 := Classical.choose_spec hd3
                              generalize Classical.choose hd3 = y3 at d3
                              clear hd3
                              have dz := fun i => hn5.row.frozen i
                              have dl := hn5.row.lt
                              go_simp
                              have bt : But g W5 (W5.setCell ⟨g, k * 4 + 3, none⟩ (.slice ra5 ln rc5)) := (But.refl _ _).set _ _
                              have hoo : W5.ownsRow (w.heap.size + 3) 78 2 (.slice ra5 ln rc5) (nk.take j3 ++ [(e.seq, da)] ++ nk.drop j3).length (repCells (nk.take j3 ++ [(e.seq, da)] ++ nk.drop j3)) := by rw [← HLM.out]; exact owns_base oR5 (by have := (HZ9.out.keep kd).lt; omega)
                              have hnn := hn5.keptSet hq5 (nk.take j3 ++ [(e.seq, da)] ++ nk.drop j3) _ hoo
                              obtain ⟨WE, hWE⟩ : ∃ z, z = W5.setCell ⟨g, k * 4 + 3, none⟩ (.slice ra5 ln rc5) := ⟨_, rfl⟩
                              rw [← hWE] at bt hnn ⊢
                              clear hWE
                              have BE := (HB9.out.keep (kd.trans k5)).other bt (by omega)
                              have EE := (HE9.out.keep (kd.trans k5)).but bt (by omega)
                              have ZE := (HZ9.out.keep (kd.trans k5)).other bt (by omega)
                              have KE : Keeps w WE := But.to (HK9.out.trans (kd.trans k5)) (by omega) bt
                              refine hK.out _ _ ⟨BE.c6, EE.c3⟩ (fun hS => ?_)
                              clear hK K
                              refine wpAnyH_done (by kernel_rfl) ?_ _
                              have HKE : Hid (Keeps w WE) := KE
                              have HNE : Hid (TabOn g (w.heap.size + 3) WE (.slice (some ⟨g, 0, none⟩) T.tab.length vc) (T.tab.set k { f with acked := ac, seen := T.clock, kept := keptPut nk e.seq da }) ((ks.set k (.slice oa nk.length oc)).set k (.slice ra5 ln rc5)) vc) := by
                                have := hnn
                                simp only [List.getElem_set_self, List.set_set] at this
                                rw [show keptPut nk e.seq da = nk.take j3 ++ [(e.seq, da)] ++ nk.drop j3 from by rw [keptPut, HPOS.out]; simp]
                                show TabOn _ _ _ _ _ _ _
                                simpa [List.set_set] using this
                              have b0 := BE.c0
                              have b1 := BE.c1
                              have b2 := BE.c2
                              have b3 := BE.c3
                              have b4 := BE.c4
                              have b5 := BE.c5
                              have b6 := BE.c6
                              have bl := BE.lt
                              have z0 := ZE.c0
                              have z1 := ZE.c1
                              have z2 := ZE.c2
                              have z3 := ZE.c3
                              have z4 := ZE.c4
                              have z5 := ZE.c5
                              have z6 := ZE.c6
                              have zf := ZE.fz
                              have zl := ZE.lt
                              clear hnn bt BE EE ZE KE hS hSd d3 dz dl hn5 hq5 hoo HLM
                              clear oR1 k1 hs1 hP2 k2 oR2 hs2 hr3 oR3 hkk3 hfr3 k3 hP3 hr4 oR4 hkk4 hfr4 k4 hr5 oR5 hkk5 hfr5 k5 hmap0 hmin hz3 hjc hjl hcap kd k0
                              simp only [setVals] at b0 b1 b2 b3 b4 b5
                              go_wp2_with fail
                              all_goals
                                refine bodyPost_ret (v := .tuple #[stV { setVals T dv with tab := T.tab.set k { f with acked := ac, seen := T.clock, kept := keptPut nk e.seq da } } (.slice (some ⟨g, 0, none⟩) T.tab.length vc), .int .i64 da, .bool true]) ?_ rfl ?_
                                · simp [results, Try.results41, go_sem, z0, z1, z2, z3, z4, z5, z6, setVals]
                                · rw [H1.out.1, H1.out.2.1, H1.out.2.2]
                                  refine ⟨.slice (some ⟨g, 0, none⟩) T.tab.length vc, ?_, rfl, ?_⟩
                                  · exact (HNE.out.own.but (b := w.heap.size + 1 + 1) (by omega) ((((((((But.refl _ _).set 0 _).set 1 _).set 2 _).set 3 _).set 4 _).set 5 _).set 6 _)).base (by omega)
                                  · repeat refine Keeps.set ?_ (by simp <;> omega) _
                                    exact HKE.out
                          · go_simp
                            have hP1 := kept_one W0 e.seq da
                            have k1 : Keeps Wd (W0.alloc (.cells #[.int .i64 e.seq, .int .i64 da] 78)) := k0.alloc _
                            obtain ⟨W1, hW1⟩ : ∃ z, z = W0.alloc (.cells #[.int .i64 e.seq, .int .i64 da] 78) := ⟨_, rfl⟩
                            rw [← hW1] at hP1 k1 ⊢
                            have hs1 : W1.heap.size = W0.heap.size + 1 := by rw [hW1]; exact World.size_alloc _ _
                            clear hW1
                            refine hK.out _ _ ⟨cell_kept hSd.1 k1, cell_kept hSd.2 k1⟩ (fun hS => ?_)
                            clear hK K
                            refine wpAnyH_ready (rs := [3]) (by kernel_rfl) (by simp) ?_
                            refine AllReadyH.cons rfl (fun K hK => ?_) AllReadyH.nil
                            go_simp
                            have oR2 := owns_bare W1 Wd.heap.size k1.size
                            have k2 : Keeps Wd (W1.alloc (.cells #[] 78)) := k1.alloc _
                            have hP2 := hP1.keep ((Keeps.refl W1).alloc (.cells #[] 78))
                            obtain ⟨W2, hW2⟩ : ∃ z, z = W1.alloc (.cells #[] 78) := ⟨_, rfl⟩
                            rw [← hW2] at oR2 k2 hP2 ⊢
                            have hs2 : W2.heap.size = W1.heap.size + 1 := by rw [hW2]; exact World.size_alloc _ _
                            clear hW2
                            refine hK.out _ _ ⟨cell_kept hSd.1 k2, cell_kept hSd.2 k2⟩ (fun hS => ?_)
                            clear hK K
                            refine wpAnyH_ready (rs := [7]) (by kernel_rfl) (by simp) ?_
                            refine AllReadyH.cons rfl (fun K hK => ?_) AllReadyH.nil
                            obtain ⟨ra3, rc3, W3, hr3, oR3, hkk3, hfr3⟩ := app_rep W2 Wd.heap.size _ [] oR2 _ (nk.take j3) (kept_prefix (HKP9.out.keep (kd.trans k2)) hj3) (by simp; omega) k2.size
                            have k3 := hkk3 Wd rfl k2
                            have hP3 := kept_far hP2 (hfr3 _ (by simp [Value.ownBlock]; omega) (by omega))
                            refine step_append_run rfl _ _ 46 rfl (by simp [Act.eval, Act.put, hmap0, hmin]) (by simp [Act.eval, Act.put, hmap0, hmin]) hr3 ?_
                            refine hK.out _ _ ⟨cell_kept hSd.1 k3, cell_kept hSd.2 k3⟩ (fun hS => ?_)
                            clear hK K
                            refine wpAnyH_ready (rs := [13]) (by kernel_rfl) (by simp) ?_
                            refine AllReadyH.cons rfl (fun K hK => ?_) AllReadyH.nil
                            obtain ⟨ra4, rc4, W4, hr4, oR4, hkk4, hfr4⟩ := app_rep W3 Wd.heap.size _ (nk.take j3) oR3 _ [(e.seq, da)] hP3 (by simp; omega) k3.size
                            have k4 := hkk4 Wd rfl k3
                            refine step_append_run rfl _ _ 46 rfl (by simp [Act.eval, Act.put, hmap0, hmin]) (by simp [Act.eval, Act.put, hmap0, hmin]) hr4 ?_
                            refine hK.out _ _ ⟨cell_kept hSd.1 k4, cell_kept hSd.2 k4⟩ (fun hS => ?_)
                            clear hK K
                            refine wpAnyH_ready (rs := [17]) (by kernel_rfl) (by simp) ?_
                            refine AllReadyH.cons rfl (fun K hK => ?_) AllReadyH.nil
                            obtain ⟨ra5, rc5, W5, hr5, oR5, hkk5, hfr5⟩ := app_rep W4 Wd.heap.size _ (nk.take j3 ++ [(e.seq, da)]) oR4 _ (nk.drop j3) (kept_suffix (HKP9.out.keep (kd.trans k4)) hj3 hcap) (by simp; omega) k4.size
                            have k5 := hkk5 Wd rfl k4
                            have hln : ∃ ln, ln = (nk.take j3 ++ [(e.seq, da)] ++ nk.drop j3).length := ⟨_, rfl⟩
                            have hlm := Classical.choose_spec hln
                            generalize Classical.choose hln = ln at hlm
                            rw [← hlm] at hr5 oR5
                            have HLM : Hid (ln = (nk.take j3 ++ [(e.seq, da)] ++ nk.drop j3).length) := hlm
                            clear hln hlm
                            refine step_append_run rfl _ _ 46 rfl (by simp [Act.eval, Act.put, hmap0, hmin]) (by simp [Act.eval, Act.put, hmap0, hmin]) hr5 ?_
                            refine hK.out _ _ ⟨cell_kept hSd.1 k5, cell_kept hSd.2 k5⟩ (fun hS => ?_)
                            clear hK K
                            refine wpAnyH_take (i := 18) (v := .pointer (some ⟨g, k * 4, none⟩)) rfl (by kernel_rfl) (by kernel_rfl) (by kernel_rfl) (fun _ _ _ h => h) (Or.inl ⟨by rfl, ?_⟩) hS ?_
                            · intro w hS; go_simp
                            refine wpAnyH_take (i := 19) (v := .pointer (some ⟨g, k * 4 + 3, none⟩)) rfl (by kernel_rfl) (by kernel_rfl) (by kernel_rfl) (fun _ _ _ h => h) (Or.inl ⟨by rfl, ?_⟩) hS ?_
                            · intro w hS; go_simp
                            refine wpAnyH_ready (rs := [20]) (by kernel_rfl) (by simp) ?_
                            refine AllReadyH.cons rfl (fun K hK => ?_) AllReadyH.nil
                            have hn5 := HN9.out.keep (kd.trans k5)
                            have hq5 : k < (T.tab.set k { f with acked := ac, seen := T.clock, kept := nk }).length := by simpa using hk
                            have htab : TabAt W5 (.slice (some ⟨g, 0, none⟩) (T.tab.set k { f with acked := ac, seen := T.clock, kept := nk }).length vc) (T.tab.set k { f with acked := ac, seen := T.clock, kept := nk }) := by have := hn5.own.tab; simpa only [List.length_set] using this
                            have hd3 : ∃ u, W5.cell? ⟨g, k * 4 + 3, none⟩ = some u := cell_three htab hq5
                            clear htab
                            have d3 := Classical.choose_spec hd3
                            generalize Classical.choose hd3 = y3 at d3
                            clear hd3
                            have dz := fun i => hn5.row.frozen i
                            have dl := hn5.row.lt
                            go_simp
                            have bt : But g W5 (W5.setCell ⟨g, k * 4 + 3, none⟩ (.slice ra5 ln rc5)) := (But.refl _ _).set _ _
                            have hoo : W5.ownsRow (w.heap.size + 3) 78 2 (.slice ra5 ln rc5) (nk.take j3 ++ [(e.seq, da)] ++ nk.drop j3).length (repCells (nk.take j3 ++ [(e.seq, da)] ++ nk.drop j3)) := by rw [← HLM.out]; exact owns_base oR5 (by have := (HZ9.out.keep kd).lt; omega)
                            have hnn := hn5.keptSet hq5 (nk.take j3 ++ [(e.seq, da)] ++ nk.drop j3) _ hoo
                            obtain ⟨WE, hWE⟩ : ∃ z, z = W5.setCell ⟨g, k * 4 + 3, none⟩ (.slice ra5 ln rc5) := ⟨_, rfl⟩
                            rw [← hWE] at bt hnn ⊢
                            clear hWE
                            have BE := (HB9.out.keep (kd.trans k5)).other bt (by omega)
                            have EE := (HE9.out.keep (kd.trans k5)).but bt (by omega)
                            have ZE := (HZ9.out.keep (kd.trans k5)).other bt (by omega)
                            have KE : Keeps w WE := But.to (HK9.out.trans (kd.trans k5)) (by omega) bt
                            refine hK.out _ _ ⟨BE.c6, EE.c3⟩ (fun hS => ?_)
                            clear hK K
                            refine wpAnyH_done (by kernel_rfl) ?_ _
                            have HKE : Hid (Keeps w WE) := KE
                            have HNE : Hid (TabOn g (w.heap.size + 3) WE (.slice (some ⟨g, 0, none⟩) T.tab.length vc) (T.tab.set k { f with acked := ac, seen := T.clock, kept := keptPut nk e.seq da }) ((ks.set k (.slice oa nk.length oc)).set k (.slice ra5 ln rc5)) vc) := by
                              have := hnn
                              simp only [List.getElem_set_self, List.set_set] at this
                              rw [show keptPut nk e.seq da = nk.take j3 ++ [(e.seq, da)] ++ nk.drop j3 from by rw [keptPut, HPOS.out]; simp]
                              show TabOn _ _ _ _ _ _ _
                              simpa [List.set_set] using this
                            have b0 := BE.c0
                            have b1 := BE.c1
                            have b2 := BE.c2
                            have b3 := BE.c3
                            have b4 := BE.c4
                            have b5 := BE.c5
                            have b6 := BE.c6
                            have bl := BE.lt
                            have z0 := ZE.c0
                            have z1 := ZE.c1
                            have z2 := ZE.c2
                            have z3 := ZE.c3
                            have z4 := ZE.c4
                            have z5 := ZE.c5
                            have z6 := ZE.c6
                            have zf := ZE.fz
                            have zl := ZE.lt
                            clear hnn bt BE EE ZE KE hS hSd d3 dz dl hn5 hq5 hoo HLM
                            clear hP1 k1 hs1 oR2 k2 hP2 hs2 hr3 oR3 hkk3 hfr3 k3 hP3 hr4 oR4 hkk4 hfr4 k4 hr5 oR5 hkk5 hfr5 k5 hmap0 hmin hz3 hjc hjl hcap kd k0
                            simp only [setVals] at b0 b1 b2 b3 b4 b5
                            go_wp2_with fail
                            all_goals
                              refine bodyPost_ret (v := .tuple #[stV { setVals T dv with tab := T.tab.set k { f with acked := ac, seen := T.clock, kept := keptPut nk e.seq da } } (.slice (some ⟨g, 0, none⟩) T.tab.length vc), .int .i64 da, .bool true]) ?_ rfl ?_
                              · simp [results, Try.results41, go_sem, z0, z1, z2, z3, z4, z5, z6, setVals]
                              · rw [H1.out.1, H1.out.2.1, H1.out.2.2]
                                refine ⟨.slice (some ⟨g, 0, none⟩) T.tab.length vc, ?_, rfl, ?_⟩
                                · exact (HNE.out.own.but (b := w.heap.size + 1 + 1) (by omega) ((((((((But.refl _ _).set 0 _).set 1 _).set 2 _).set 3 _).set 4 _).set 5 _).set 6 _)).base (by omega)
                                · repeat refine Keeps.set ?_ (by simp <;> omega) _
                                  exact HKE.out
                      · have HPOS : Hid (posOf nk e.seq = j3) := by
                          refine Place.pos ⟨hj3, fun i hi hij => HLO.out _ ?_, fun i hi hij => ?_⟩
                          · exact List.mem_take_iff_getElem.2 ⟨i, by omega, rfl⟩
                          · omega
                        have hltI : decide ((j3 : Int) < (nk.length : Int)) = false := by simp; omega
                        go_wp2_with fail
                        go_quiet (fail)
                        go_wp2_with fail
                        obtain ⟨Wa, hWa⟩ : ∃ Wa, Wa = wr.drewN nq := ⟨_, rfl⟩
                        have ka : Keeps W9 Wa := by rw [hWa]; exact HKt.out.drewN _
                        rw [← hWa]
                        clear hWa
                        have kd : Keeps W9 Wa.drew := ka.drew
                        have hSd : Wa.drew.cell? ⟨w.heap.size, 6, none⟩ = some (.slice (some ⟨g, 0, none⟩) T.tab.length vc) ∧ Wa.drew.cell? ⟨w.heap.size + 1, 3, none⟩ = some (.int .i64 e.seq) := ⟨(HB9.out.keep kd).c6, (HE9.out.keep kd).c3⟩
                        have hcap : nk.length ≤ oc := owns_cap HO9.out
                        have hjc : (j3 : Int) ≤ (oc : Int) := by omega
                        have hjl : (j3 : Int) ≤ (nk.length : Int) := by omega
                        have hz3 : ∀ w, (Go.sizeOf 78).run Try.prog w = .ok 2 w := fun _ => by kernel_rfl
                        have hmap0 : Option.map (fun x : Addr => x.add 0) oa = oa := by cases oa <;> rfl
                        have hmin : min j3 nk.length = j3 := Nat.min_eq_left hj3
                        clear e3 el Et ka
                        refine wp_region_held_drew (S := fun w' => w'.cell? ⟨w.heap.size, 6, none⟩ = some (.slice (some ⟨g, 0, none⟩) T.tab.length vc) ∧ w'.cell? ⟨w.heap.size + 1, 3, none⟩ = some (.int .i64 e.seq)) (by kernel_rfl) hSd (fun hS => ?_)
                        obtain ⟨Wd, hWd⟩ : ∃ z, z = Wa.drew := ⟨_, rfl⟩
                        rw [← hWd] at kd hSd hS ⊢
                        clear hWd
                        refine wpAnyH_take (i := 0) (v := .pointer (some ⟨w.heap.size, 6, none⟩)) rfl (by kernel_rfl) (by kernel_rfl) (by kernel_rfl) (fun _ _ _ h => h) (Or.inl ⟨by rfl, ?_⟩) hS ?_
                        · intro w hS; go_simp
                        refine wpAnyH_take (i := 1) (v := .slice (some ⟨g, 0, none⟩) T.tab.length vc) rfl (by kernel_rfl) (by kernel_rfl) (by kernel_rfl) (fun _ _ _ h => h) (Or.inl ⟨by rfl, ?_⟩) hS ?_
                        · intro w hS; go_simp
                        refine wpAnyH_take (i := 2) (v := .int .i64 k) rfl (by kernel_rfl) (by kernel_rfl) (by kernel_rfl) (fun _ _ _ h => h) (Or.inl ⟨by rfl, ?_⟩) hS ?_
                        · intro w hS; go_simp
                        refine wpAnyH_take (i := 4) (v := .slice oa nk.length oc) rfl (by kernel_rfl) (by kernel_rfl) (by kernel_rfl) (fun _ _ _ h => h) (Or.inl ⟨by rfl, ?_⟩) hS ?_
                        · intro w hS; go_simp
                        refine wpAnyH_take (i := 5) (v := .int .i64 j3) rfl (by kernel_rfl) (by kernel_rfl) (by kernel_rfl) (fun _ _ _ h => h) (Or.inl ⟨by rfl, ?_⟩) hS ?_
                        · intro w hS; go_simp
                        refine wpAnyH_take (i := 6) (v := .slice (if oc = 0 then oa else oa.map (·.add (0 * 2))) j3 oc) rfl (by kernel_rfl) (by kernel_rfl) (by kernel_rfl) (fun _ _ _ h => h) (Or.inl ⟨by rfl, ?_⟩) hS ?_
                        · intro w hS; go_simp
                        refine wpAnyH_take (i := 8) (v := .pointer (some ⟨w.heap.size + 1, 3, none⟩)) rfl (by kernel_rfl) (by kernel_rfl) (by kernel_rfl) (fun _ _ _ h => h) (Or.inl ⟨by rfl, ?_⟩) hS ?_
                        · intro w hS; go_simp
                        refine wpAnyH_take (i := 9) (v := .int .i64 e.seq) rfl (by kernel_rfl) (by kernel_rfl) (by kernel_rfl) (fun _ _ _ h => h) (Or.inl ⟨by rfl, ?_⟩) hS ?_
                        · intro w hS; go_simp
                        refine wpAnyH_take (i := 10) (v := .int .i64 da) rfl (by kernel_rfl) (by kernel_rfl) (by kernel_rfl) (fun _ _ _ h => h) (Or.inl ⟨by rfl, ?_⟩) hS ?_
                        · intro w hS; go_simp
                        refine wpAnyH_take (i := 11) (v := .agg #[.int .i64 e.seq, .int .i64 da]) rfl (by kernel_rfl) (by kernel_rfl) (by kernel_rfl) (fun _ _ _ h => h) (Or.inl ⟨by rfl, ?_⟩) hS ?_
                        · intro w hS; go_simp
                        refine wpAnyH_take (i := 14) (v := .slice oa nk.length oc) rfl (by kernel_rfl) (by kernel_rfl) (by kernel_rfl) (fun _ _ _ h => h) (Or.inl ⟨by rfl, ?_⟩) hS ?_
                        · intro w hS; go_simp
                        refine wpAnyH_take (i := 15) (v := .int .i64 j3) rfl (by kernel_rfl) (by kernel_rfl) (by kernel_rfl) (fun _ _ _ h => h) (Or.inl ⟨by rfl, ?_⟩) hS ?_
                        · intro w hS; go_simp
                        refine wpAnyH_take (i := 16) (v := .slice (if oc = j3 then oa else oa.map (·.add (j3 * 2))) (nk.length - j3) (oc - j3)) rfl (by kernel_rfl) (by kernel_rfl) (by kernel_rfl) (fun _ _ _ h => h) (Or.inl ⟨by rfl, ?_⟩) hS ?_
                        · intro w hS; go_simp
                        obtain ⟨W0, hW0⟩ : ∃ z, z = Wd := ⟨_, rfl⟩
                        have k0 : Keeps Wd W0 := by rw [hW0]; exact Keeps.refl _
                        rw [← hW0] at hS ⊢
                        clear hW0
                        refine wpAnyH_ready (rs := [3, 12]) (by kernel_rfl) (by simp) ?_
                        refine AllReadyH.cons rfl (fun K hK => ?_) (AllReadyH.cons rfl (fun K hK => ?_) AllReadyH.nil)
                        · go_simp
                          have oR1 := owns_bare W0 Wd.heap.size k0.size
                          have k1 : Keeps Wd (W0.alloc (.cells #[] 78)) := k0.alloc _
                          obtain ⟨W1, hW1⟩ : ∃ z, z = W0.alloc (.cells #[] 78) := ⟨_, rfl⟩
                          rw [← hW1] at oR1 k1 ⊢
                          have hs1 : W1.heap.size = W0.heap.size + 1 := by rw [hW1]; exact World.size_alloc _ _
                          clear hW1
                          refine hK.out _ _ ⟨cell_kept hSd.1 k1, cell_kept hSd.2 k1⟩ (fun hS => ?_)
                          clear hK K
                          refine wpAnyH_ready (rs := [7, 12]) (by kernel_rfl) (by simp) ?_
                          refine AllReadyH.cons rfl (fun K hK => ?_) (AllReadyH.cons rfl (fun K hK => ?_) AllReadyH.nil)
                          · obtain ⟨ra2, rc2, W2, hr2, oR2, hkk2, hfr2⟩ := app_rep W1 Wd.heap.size _ [] oR1 _ (nk.take j3) (kept_prefix (HKP9.out.keep (kd.trans k1)) hj3) (by simp; omega) k1.size
                            have k2 := hkk2 Wd rfl k1
                            refine step_append_run rfl _ _ 46 rfl (by simp [Act.eval, Act.put, hmap0, hmin]) (by simp [Act.eval, Act.put, hmap0, hmin]) hr2 ?_
                            refine hK.out _ _ ⟨cell_kept hSd.1 k2, cell_kept hSd.2 k2⟩ (fun hS => ?_)
                            clear hK K
                            refine wpAnyH_ready (rs := [12]) (by kernel_rfl) (by simp) ?_
                            refine AllReadyH.cons rfl (fun K hK => ?_) AllReadyH.nil
                            go_simp
                            have hP3 := kept_one W2 e.seq da
                            have k3 : Keeps Wd (W2.alloc (.cells #[.int .i64 e.seq, .int .i64 da] 78)) := k2.alloc _
                            have oR3 := owns_keep oR2 ((Keeps.refl W2).alloc (.cells #[.int .i64 e.seq, .int .i64 da] 78))
                            obtain ⟨W3, hW3⟩ : ∃ z, z = W2.alloc (.cells #[.int .i64 e.seq, .int .i64 da] 78) := ⟨_, rfl⟩
                            rw [← hW3] at hP3 k3 oR3 ⊢
                            have hs3 : W3.heap.size = W2.heap.size + 1 := by rw [hW3]; exact World.size_alloc _ _
                            clear hW3
                            refine hK.out _ _ ⟨cell_kept hSd.1 k3, cell_kept hSd.2 k3⟩ (fun hS => ?_)
                            clear hK K
                            refine wpAnyH_ready (rs := [13]) (by kernel_rfl) (by simp) ?_
                            refine AllReadyH.cons rfl (fun K hK => ?_) AllReadyH.nil
                            obtain ⟨ra4, rc4, W4, hr4, oR4, hkk4, hfr4⟩ := app_rep W3 Wd.heap.size _ (nk.take j3) oR3 _ [(e.seq, da)] hP3 (by simp; omega) k3.size
                            have k4 := hkk4 Wd rfl k3
                            refine step_append_run rfl _ _ 46 rfl (by simp [Act.eval, Act.put, hmap0, hmin]) (by simp [Act.eval, Act.put, hmap0, hmin]) hr4 ?_
                            refine hK.out _ _ ⟨cell_kept hSd.1 k4, cell_kept hSd.2 k4⟩ (fun hS => ?_)
                            clear hK K
                            refine wpAnyH_ready (rs := [17]) (by kernel_rfl) (by simp) ?_
                            refine AllReadyH.cons rfl (fun K hK => ?_) AllReadyH.nil
                            obtain ⟨ra5, rc5, W5, hr5, oR5, hkk5, hfr5⟩ := app_rep W4 Wd.heap.size _ (nk.take j3 ++ [(e.seq, da)]) oR4 _ (nk.drop j3) (kept_suffix (HKP9.out.keep (kd.trans k4)) hj3 hcap) (by simp; omega) k4.size
                            have k5 := hkk5 Wd rfl k4
                            have hln : ∃ ln, ln = (nk.take j3 ++ [(e.seq, da)] ++ nk.drop j3).length := ⟨_, rfl⟩
                            have hlm := Classical.choose_spec hln
                            generalize Classical.choose hln = ln at hlm
                            rw [← hlm] at hr5 oR5
                            have HLM : Hid (ln = (nk.take j3 ++ [(e.seq, da)] ++ nk.drop j3).length) := hlm
                            clear hln hlm
                            refine step_append_run rfl _ _ 46 rfl (by simp [Act.eval, Act.put, hmap0, hmin]) (by simp [Act.eval, Act.put, hmap0, hmin]) hr5 ?_
                            refine hK.out _ _ ⟨cell_kept hSd.1 k5, cell_kept hSd.2 k5⟩ (fun hS => ?_)
                            clear hK K
                            refine wpAnyH_take (i := 18) (v := .pointer (some ⟨g, k * 4, none⟩)) rfl (by kernel_rfl) (by kernel_rfl) (by kernel_rfl) (fun _ _ _ h => h) (Or.inl ⟨by rfl, ?_⟩) hS ?_
                            · intro w hS; go_simp
                            refine wpAnyH_take (i := 19) (v := .pointer (some ⟨g, k * 4 + 3, none⟩)) rfl (by kernel_rfl) (by kernel_rfl) (by kernel_rfl) (fun _ _ _ h => h) (Or.inl ⟨by rfl, ?_⟩) hS ?_
                            · intro w hS; go_simp
                            refine wpAnyH_ready (rs := [20]) (by kernel_rfl) (by simp) ?_
                            refine AllReadyH.cons rfl (fun K hK => ?_) AllReadyH.nil
                            have hn5 := HN9.out.keep (kd.trans k5)
                            have hq5 : k < (T.tab.set k { f with acked := ac, seen := T.clock, kept := nk }).length := by simpa using hk
                            have htab : TabAt W5 (.slice (some ⟨g, 0, none⟩) (T.tab.set k { f with acked := ac, seen := T.clock, kept := nk }).length vc) (T.tab.set k { f with acked := ac, seen := T.clock, kept := nk }) := by have := hn5.own.tab; simpa only [List.length_set] using this
                            have hd3 : ∃ u, W5.cell? ⟨g, k * 4 + 3, none⟩ = some u := cell_three htab hq5
                            clear htab
                            have d3 := Classical.choose_spec hd3
                            generalize Classical.choose hd3 = y3 at d3
                            clear hd3
                            have dz := fun i => hn5.row.frozen i
                            have dl := hn5.row.lt
                            go_simp
                            have bt : But g W5 (W5.setCell ⟨g, k * 4 + 3, none⟩ (.slice ra5 ln rc5)) := (But.refl _ _).set _ _
                            have hoo : W5.ownsRow (w.heap.size + 3) 78 2 (.slice ra5 ln rc5) (nk.take j3 ++ [(e.seq, da)] ++ nk.drop j3).length (repCells (nk.take j3 ++ [(e.seq, da)] ++ nk.drop j3)) := by rw [← HLM.out]; exact owns_base oR5 (by have := (HZ9.out.keep kd).lt; omega)
                            have hnn := hn5.keptSet hq5 (nk.take j3 ++ [(e.seq, da)] ++ nk.drop j3) _ hoo
                            obtain ⟨WE, hWE⟩ : ∃ z, z = W5.setCell ⟨g, k * 4 + 3, none⟩ (.slice ra5 ln rc5) := ⟨_, rfl⟩
                            rw [← hWE] at bt hnn ⊢
                            clear hWE
                            have BE := (HB9.out.keep (kd.trans k5)).other bt (by omega)
                            have EE := (HE9.out.keep (kd.trans k5)).but bt (by omega)
                            have ZE := (HZ9.out.keep (kd.trans k5)).other bt (by omega)
                            have KE : Keeps w WE := But.to (HK9.out.trans (kd.trans k5)) (by omega) bt
                            refine hK.out _ _ ⟨BE.c6, EE.c3⟩ (fun hS => ?_)
                            clear hK K
                            refine wpAnyH_done (by kernel_rfl) ?_ _
                            have HKE : Hid (Keeps w WE) := KE
                            have HNE : Hid (TabOn g (w.heap.size + 3) WE (.slice (some ⟨g, 0, none⟩) T.tab.length vc) (T.tab.set k { f with acked := ac, seen := T.clock, kept := keptPut nk e.seq da }) ((ks.set k (.slice oa nk.length oc)).set k (.slice ra5 ln rc5)) vc) := by
                              have := hnn
                              simp only [List.getElem_set_self, List.set_set] at this
                              rw [show keptPut nk e.seq da = nk.take j3 ++ [(e.seq, da)] ++ nk.drop j3 from by rw [keptPut, HPOS.out]; simp]
                              show TabOn _ _ _ _ _ _ _
                              simpa [List.set_set] using this
                            have b0 := BE.c0
                            have b1 := BE.c1
                            have b2 := BE.c2
                            have b3 := BE.c3
                            have b4 := BE.c4
                            have b5 := BE.c5
                            have b6 := BE.c6
                            have bl := BE.lt
                            have z0 := ZE.c0
                            have z1 := ZE.c1
                            have z2 := ZE.c2
                            have z3 := ZE.c3
                            have z4 := ZE.c4
                            have z5 := ZE.c5
                            have z6 := ZE.c6
                            have zf := ZE.fz
                            have zl := ZE.lt
                            clear hnn bt BE EE ZE KE hS hSd d3 dz dl hn5 hq5 hoo HLM
                            clear oR1 k1 hs1 hr2 oR2 hkk2 hfr2 k2 hP3 k3 oR3 hs3 hr4 oR4 hkk4 hfr4 k4 hr5 oR5 hkk5 hfr5 k5 hmap0 hmin hz3 hjc hjl hcap kd k0
                            simp only [setVals] at b0 b1 b2 b3 b4 b5
                            go_wp2_with fail
                            all_goals
                              refine bodyPost_ret (v := .tuple #[stV { setVals T dv with tab := T.tab.set k { f with acked := ac, seen := T.clock, kept := keptPut nk e.seq da } } (.slice (some ⟨g, 0, none⟩) T.tab.length vc), .int .i64 da, .bool true]) ?_ rfl ?_
                              · simp [results, Try.results41, go_sem, z0, z1, z2, z3, z4, z5, z6, setVals]
                              · rw [H1.out.1, H1.out.2.1, H1.out.2.2]
                                refine ⟨.slice (some ⟨g, 0, none⟩) T.tab.length vc, ?_, rfl, ?_⟩
                                · exact (HNE.out.own.but (b := w.heap.size + 1 + 1) (by omega) ((((((((But.refl _ _).set 0 _).set 1 _).set 2 _).set 3 _).set 4 _).set 5 _).set 6 _)).base (by omega)
                                · repeat refine Keeps.set ?_ (by simp <;> omega) _
                                  exact HKE.out
                          · go_simp
                            have hP2 := kept_one W1 e.seq da
                            have k2 : Keeps Wd (W1.alloc (.cells #[.int .i64 e.seq, .int .i64 da] 78)) := k1.alloc _
                            have oR2 := owns_keep oR1 ((Keeps.refl W1).alloc (.cells #[.int .i64 e.seq, .int .i64 da] 78))
                            obtain ⟨W2, hW2⟩ : ∃ z, z = W1.alloc (.cells #[.int .i64 e.seq, .int .i64 da] 78) := ⟨_, rfl⟩
                            rw [← hW2] at hP2 k2 oR2 ⊢
                            have hs2 : W2.heap.size = W1.heap.size + 1 := by rw [hW2]; exact World.size_alloc _ _
                            clear hW2
                            refine hK.out _ _ ⟨cell_kept hSd.1 k2, cell_kept hSd.2 k2⟩ (fun hS => ?_)
                            clear hK K
                            refine wpAnyH_ready (rs := [7]) (by kernel_rfl) (by simp) ?_
                            refine AllReadyH.cons rfl (fun K hK => ?_) AllReadyH.nil
                            obtain ⟨ra3, rc3, W3, hr3, oR3, hkk3, hfr3⟩ := app_rep W2 Wd.heap.size _ [] oR2 _ (nk.take j3) (kept_prefix (HKP9.out.keep (kd.trans k2)) hj3) (by simp; omega) k2.size
                            have k3 := hkk3 Wd rfl k2
                            have hP3 := kept_far hP2 (hfr3 _ (by simp [Value.ownBlock]; omega) (by omega))
                            refine step_append_run rfl _ _ 46 rfl (by simp [Act.eval, Act.put, hmap0, hmin]) (by simp [Act.eval, Act.put, hmap0, hmin]) hr3 ?_
                            refine hK.out _ _ ⟨cell_kept hSd.1 k3, cell_kept hSd.2 k3⟩ (fun hS => ?_)
                            clear hK K
                            refine wpAnyH_ready (rs := [13]) (by kernel_rfl) (by simp) ?_
                            refine AllReadyH.cons rfl (fun K hK => ?_) AllReadyH.nil
                            obtain ⟨ra4, rc4, W4, hr4, oR4, hkk4, hfr4⟩ := app_rep W3 Wd.heap.size _ (nk.take j3) oR3 _ [(e.seq, da)] hP3 (by simp; omega) k3.size
                            have k4 := hkk4 Wd rfl k3
                            refine step_append_run rfl _ _ 46 rfl (by simp [Act.eval, Act.put, hmap0, hmin]) (by simp [Act.eval, Act.put, hmap0, hmin]) hr4 ?_
                            refine hK.out _ _ ⟨cell_kept hSd.1 k4, cell_kept hSd.2 k4⟩ (fun hS => ?_)
                            clear hK K
                            refine wpAnyH_ready (rs := [17]) (by kernel_rfl) (by simp) ?_
                            refine AllReadyH.cons rfl (fun K hK => ?_) AllReadyH.nil
                            obtain ⟨ra5, rc5, W5, hr5, oR5, hkk5, hfr5⟩ := app_rep W4 Wd.heap.size _ (nk.take j3 ++ [(e.seq, da)]) oR4 _ (nk.drop j3) (kept_suffix (HKP9.out.keep (kd.trans k4)) hj3 hcap) (by simp; omega) k4.size
                            have k5 := hkk5 Wd rfl k4
                            have hln : ∃ ln, ln = (nk.take j3 ++ [(e.seq, da)] ++ nk.drop j3).length := ⟨_, rfl⟩
                            have hlm := Classical.choose_spec hln
                            generalize Classical.choose hln = ln at hlm
                            rw [← hlm] at hr5 oR5
                            have HLM : Hid (ln = (nk.take j3 ++ [(e.seq, da)] ++ nk.drop j3).length) := hlm
                            clear hln hlm
                            refine step_append_run rfl _ _ 46 rfl (by simp [Act.eval, Act.put, hmap0, hmin]) (by simp [Act.eval, Act.put, hmap0, hmin]) hr5 ?_
                            refine hK.out _ _ ⟨cell_kept hSd.1 k5, cell_kept hSd.2 k5⟩ (fun hS => ?_)
                            clear hK K
                            refine wpAnyH_take (i := 18) (v := .pointer (some ⟨g, k * 4, none⟩)) rfl (by kernel_rfl) (by kernel_rfl) (by kernel_rfl) (fun _ _ _ h => h) (Or.inl ⟨by rfl, ?_⟩) hS ?_
                            · intro w hS; go_simp
                            refine wpAnyH_take (i := 19) (v := .pointer (some ⟨g, k * 4 + 3, none⟩)) rfl (by kernel_rfl) (by kernel_rfl) (by kernel_rfl) (fun _ _ _ h => h) (Or.inl ⟨by rfl, ?_⟩) hS ?_
                            · intro w hS; go_simp
                            refine wpAnyH_ready (rs := [20]) (by kernel_rfl) (by simp) ?_
                            refine AllReadyH.cons rfl (fun K hK => ?_) AllReadyH.nil
                            have hn5 := HN9.out.keep (kd.trans k5)
                            have hq5 : k < (T.tab.set k { f with acked := ac, seen := T.clock, kept := nk }).length := by simpa using hk
                            have htab : TabAt W5 (.slice (some ⟨g, 0, none⟩) (T.tab.set k { f with acked := ac, seen := T.clock, kept := nk }).length vc) (T.tab.set k { f with acked := ac, seen := T.clock, kept := nk }) := by have := hn5.own.tab; simpa only [List.length_set] using this
                            have hd3 : ∃ u, W5.cell? ⟨g, k * 4 + 3, none⟩ = some u := cell_three htab hq5
                            clear htab
                            have d3 := Classical.choose_spec hd3
                            generalize Classical.choose hd3 = y3 at d3
                            clear hd3
                            have dz := fun i => hn5.row.frozen i
                            have dl := hn5.row.lt
                            go_simp
                            have bt : But g W5 (W5.setCell ⟨g, k * 4 + 3, none⟩ (.slice ra5 ln rc5)) := (But.refl _ _).set _ _
                            have hoo : W5.ownsRow (w.heap.size + 3) 78 2 (.slice ra5 ln rc5) (nk.take j3 ++ [(e.seq, da)] ++ nk.drop j3).length (repCells (nk.take j3 ++ [(e.seq, da)] ++ nk.drop j3)) := by rw [← HLM.out]; exact owns_base oR5 (by have := (HZ9.out.keep kd).lt; omega)
                            have hnn := hn5.keptSet hq5 (nk.take j3 ++ [(e.seq, da)] ++ nk.drop j3) _ hoo
                            obtain ⟨WE, hWE⟩ : ∃ z, z = W5.setCell ⟨g, k * 4 + 3, none⟩ (.slice ra5 ln rc5) := ⟨_, rfl⟩
                            rw [← hWE] at bt hnn ⊢
                            clear hWE
                            have BE := (HB9.out.keep (kd.trans k5)).other bt (by omega)
                            have EE := (HE9.out.keep (kd.trans k5)).but bt (by omega)
                            have ZE := (HZ9.out.keep (kd.trans k5)).other bt (by omega)
                            have KE : Keeps w WE := But.to (HK9.out.trans (kd.trans k5)) (by omega) bt
                            refine hK.out _ _ ⟨BE.c6, EE.c3⟩ (fun hS => ?_)
                            clear hK K
                            refine wpAnyH_done (by kernel_rfl) ?_ _
                            have HKE : Hid (Keeps w WE) := KE
                            have HNE : Hid (TabOn g (w.heap.size + 3) WE (.slice (some ⟨g, 0, none⟩) T.tab.length vc) (T.tab.set k { f with acked := ac, seen := T.clock, kept := keptPut nk e.seq da }) ((ks.set k (.slice oa nk.length oc)).set k (.slice ra5 ln rc5)) vc) := by
                              have := hnn
                              simp only [List.getElem_set_self, List.set_set] at this
                              rw [show keptPut nk e.seq da = nk.take j3 ++ [(e.seq, da)] ++ nk.drop j3 from by rw [keptPut, HPOS.out]; simp]
                              show TabOn _ _ _ _ _ _ _
                              simpa [List.set_set] using this
                            have b0 := BE.c0
                            have b1 := BE.c1
                            have b2 := BE.c2
                            have b3 := BE.c3
                            have b4 := BE.c4
                            have b5 := BE.c5
                            have b6 := BE.c6
                            have bl := BE.lt
                            have z0 := ZE.c0
                            have z1 := ZE.c1
                            have z2 := ZE.c2
                            have z3 := ZE.c3
                            have z4 := ZE.c4
                            have z5 := ZE.c5
                            have z6 := ZE.c6
                            have zf := ZE.fz
                            have zl := ZE.lt
                            clear hnn bt BE EE ZE KE hS hSd d3 dz dl hn5 hq5 hoo HLM
                            clear oR1 k1 hs1 hP2 k2 oR2 hs2 hr3 oR3 hkk3 hfr3 k3 hP3 hr4 oR4 hkk4 hfr4 k4 hr5 oR5 hkk5 hfr5 k5 hmap0 hmin hz3 hjc hjl hcap kd k0
                            simp only [setVals] at b0 b1 b2 b3 b4 b5
                            go_wp2_with fail
                            all_goals
                              refine bodyPost_ret (v := .tuple #[stV { setVals T dv with tab := T.tab.set k { f with acked := ac, seen := T.clock, kept := keptPut nk e.seq da } } (.slice (some ⟨g, 0, none⟩) T.tab.length vc), .int .i64 da, .bool true]) ?_ rfl ?_
                              · simp [results, Try.results41, go_sem, z0, z1, z2, z3, z4, z5, z6, setVals]
                              · rw [H1.out.1, H1.out.2.1, H1.out.2.2]
                                refine ⟨.slice (some ⟨g, 0, none⟩) T.tab.length vc, ?_, rfl, ?_⟩
                                · exact (HNE.out.own.but (b := w.heap.size + 1 + 1) (by omega) ((((((((But.refl _ _).set 0 _).set 1 _).set 2 _).set 3 _).set 4 _).set 5 _).set 6 _)).base (by omega)
                                · repeat refine Keeps.set ?_ (by simp <;> omega) _
                                  exact HKE.out
                        · go_simp
                          have hP1 := kept_one W0 e.seq da
                          have k1 : Keeps Wd (W0.alloc (.cells #[.int .i64 e.seq, .int .i64 da] 78)) := k0.alloc _
                          obtain ⟨W1, hW1⟩ : ∃ z, z = W0.alloc (.cells #[.int .i64 e.seq, .int .i64 da] 78) := ⟨_, rfl⟩
                          rw [← hW1] at hP1 k1 ⊢
                          have hs1 : W1.heap.size = W0.heap.size + 1 := by rw [hW1]; exact World.size_alloc _ _
                          clear hW1
                          refine hK.out _ _ ⟨cell_kept hSd.1 k1, cell_kept hSd.2 k1⟩ (fun hS => ?_)
                          clear hK K
                          refine wpAnyH_ready (rs := [3]) (by kernel_rfl) (by simp) ?_
                          refine AllReadyH.cons rfl (fun K hK => ?_) AllReadyH.nil
                          go_simp
                          have oR2 := owns_bare W1 Wd.heap.size k1.size
                          have k2 : Keeps Wd (W1.alloc (.cells #[] 78)) := k1.alloc _
                          have hP2 := hP1.keep ((Keeps.refl W1).alloc (.cells #[] 78))
                          obtain ⟨W2, hW2⟩ : ∃ z, z = W1.alloc (.cells #[] 78) := ⟨_, rfl⟩
                          rw [← hW2] at oR2 k2 hP2 ⊢
                          have hs2 : W2.heap.size = W1.heap.size + 1 := by rw [hW2]; exact World.size_alloc _ _
                          clear hW2
                          refine hK.out _ _ ⟨cell_kept hSd.1 k2, cell_kept hSd.2 k2⟩ (fun hS => ?_)
                          clear hK K
                          refine wpAnyH_ready (rs := [7]) (by kernel_rfl) (by simp) ?_
                          refine AllReadyH.cons rfl (fun K hK => ?_) AllReadyH.nil
                          obtain ⟨ra3, rc3, W3, hr3, oR3, hkk3, hfr3⟩ := app_rep W2 Wd.heap.size _ [] oR2 _ (nk.take j3) (kept_prefix (HKP9.out.keep (kd.trans k2)) hj3) (by simp; omega) k2.size
                          have k3 := hkk3 Wd rfl k2
                          have hP3 := kept_far hP2 (hfr3 _ (by simp [Value.ownBlock]; omega) (by omega))
                          refine step_append_run rfl _ _ 46 rfl (by simp [Act.eval, Act.put, hmap0, hmin]) (by simp [Act.eval, Act.put, hmap0, hmin]) hr3 ?_
                          refine hK.out _ _ ⟨cell_kept hSd.1 k3, cell_kept hSd.2 k3⟩ (fun hS => ?_)
                          clear hK K
                          refine wpAnyH_ready (rs := [13]) (by kernel_rfl) (by simp) ?_
                          refine AllReadyH.cons rfl (fun K hK => ?_) AllReadyH.nil
                          obtain ⟨ra4, rc4, W4, hr4, oR4, hkk4, hfr4⟩ := app_rep W3 Wd.heap.size _ (nk.take j3) oR3 _ [(e.seq, da)] hP3 (by simp; omega) k3.size
                          have k4 := hkk4 Wd rfl k3
                          refine step_append_run rfl _ _ 46 rfl (by simp [Act.eval, Act.put, hmap0, hmin]) (by simp [Act.eval, Act.put, hmap0, hmin]) hr4 ?_
                          refine hK.out _ _ ⟨cell_kept hSd.1 k4, cell_kept hSd.2 k4⟩ (fun hS => ?_)
                          clear hK K
                          refine wpAnyH_ready (rs := [17]) (by kernel_rfl) (by simp) ?_
                          refine AllReadyH.cons rfl (fun K hK => ?_) AllReadyH.nil
                          obtain ⟨ra5, rc5, W5, hr5, oR5, hkk5, hfr5⟩ := app_rep W4 Wd.heap.size _ (nk.take j3 ++ [(e.seq, da)]) oR4 _ (nk.drop j3) (kept_suffix (HKP9.out.keep (kd.trans k4)) hj3 hcap) (by simp; omega) k4.size
                          have k5 := hkk5 Wd rfl k4
                          have hln : ∃ ln, ln = (nk.take j3 ++ [(e.seq, da)] ++ nk.drop j3).length := ⟨_, rfl⟩
                          have hlm := Classical.choose_spec hln
                          generalize Classical.choose hln = ln at hlm
                          rw [← hlm] at hr5 oR5
                          have HLM : Hid (ln = (nk.take j3 ++ [(e.seq, da)] ++ nk.drop j3).length) := hlm
                          clear hln hlm
                          refine step_append_run rfl _ _ 46 rfl (by simp [Act.eval, Act.put, hmap0, hmin]) (by simp [Act.eval, Act.put, hmap0, hmin]) hr5 ?_
                          refine hK.out _ _ ⟨cell_kept hSd.1 k5, cell_kept hSd.2 k5⟩ (fun hS => ?_)
                          clear hK K
                          refine wpAnyH_take (i := 18) (v := .pointer (some ⟨g, k * 4, none⟩)) rfl (by kernel_rfl) (by kernel_rfl) (by kernel_rfl) (fun _ _ _ h => h) (Or.inl ⟨by rfl, ?_⟩) hS ?_
                          · intro w hS; go_simp
                          refine wpAnyH_take (i := 19) (v := .pointer (some ⟨g, k * 4 + 3, none⟩)) rfl (by kernel_rfl) (by kernel_rfl) (by kernel_rfl) (fun _ _ _ h => h) (Or.inl ⟨by rfl, ?_⟩) hS ?_
                          · intro w hS; go_simp
                          refine wpAnyH_ready (rs := [20]) (by kernel_rfl) (by simp) ?_
                          refine AllReadyH.cons rfl (fun K hK => ?_) AllReadyH.nil
                          have hn5 := HN9.out.keep (kd.trans k5)
                          have hq5 : k < (T.tab.set k { f with acked := ac, seen := T.clock, kept := nk }).length := by simpa using hk
                          have htab : TabAt W5 (.slice (some ⟨g, 0, none⟩) (T.tab.set k { f with acked := ac, seen := T.clock, kept := nk }).length vc) (T.tab.set k { f with acked := ac, seen := T.clock, kept := nk }) := by have := hn5.own.tab; simpa only [List.length_set] using this
                          have hd3 : ∃ u, W5.cell? ⟨g, k * 4 + 3, none⟩ = some u := cell_three htab hq5
                          clear htab
                          have d3 := Classical.choose_spec hd3
                          generalize Classical.choose hd3 = y3 at d3
                          clear hd3
                          have dz := fun i => hn5.row.frozen i
                          have dl := hn5.row.lt
                          go_simp
                          have bt : But g W5 (W5.setCell ⟨g, k * 4 + 3, none⟩ (.slice ra5 ln rc5)) := (But.refl _ _).set _ _
                          have hoo : W5.ownsRow (w.heap.size + 3) 78 2 (.slice ra5 ln rc5) (nk.take j3 ++ [(e.seq, da)] ++ nk.drop j3).length (repCells (nk.take j3 ++ [(e.seq, da)] ++ nk.drop j3)) := by rw [← HLM.out]; exact owns_base oR5 (by have := (HZ9.out.keep kd).lt; omega)
                          have hnn := hn5.keptSet hq5 (nk.take j3 ++ [(e.seq, da)] ++ nk.drop j3) _ hoo
                          obtain ⟨WE, hWE⟩ : ∃ z, z = W5.setCell ⟨g, k * 4 + 3, none⟩ (.slice ra5 ln rc5) := ⟨_, rfl⟩
                          rw [← hWE] at bt hnn ⊢
                          clear hWE
                          have BE := (HB9.out.keep (kd.trans k5)).other bt (by omega)
                          have EE := (HE9.out.keep (kd.trans k5)).but bt (by omega)
                          have ZE := (HZ9.out.keep (kd.trans k5)).other bt (by omega)
                          have KE : Keeps w WE := But.to (HK9.out.trans (kd.trans k5)) (by omega) bt
                          refine hK.out _ _ ⟨BE.c6, EE.c3⟩ (fun hS => ?_)
                          clear hK K
                          refine wpAnyH_done (by kernel_rfl) ?_ _
                          have HKE : Hid (Keeps w WE) := KE
                          have HNE : Hid (TabOn g (w.heap.size + 3) WE (.slice (some ⟨g, 0, none⟩) T.tab.length vc) (T.tab.set k { f with acked := ac, seen := T.clock, kept := keptPut nk e.seq da }) ((ks.set k (.slice oa nk.length oc)).set k (.slice ra5 ln rc5)) vc) := by
                            have := hnn
                            simp only [List.getElem_set_self, List.set_set] at this
                            rw [show keptPut nk e.seq da = nk.take j3 ++ [(e.seq, da)] ++ nk.drop j3 from by rw [keptPut, HPOS.out]; simp]
                            show TabOn _ _ _ _ _ _ _
                            simpa [List.set_set] using this
                          have b0 := BE.c0
                          have b1 := BE.c1
                          have b2 := BE.c2
                          have b3 := BE.c3
                          have b4 := BE.c4
                          have b5 := BE.c5
                          have b6 := BE.c6
                          have bl := BE.lt
                          have z0 := ZE.c0
                          have z1 := ZE.c1
                          have z2 := ZE.c2
                          have z3 := ZE.c3
                          have z4 := ZE.c4
                          have z5 := ZE.c5
                          have z6 := ZE.c6
                          have zf := ZE.fz
                          have zl := ZE.lt
                          clear hnn bt BE EE ZE KE hS hSd d3 dz dl hn5 hq5 hoo HLM
                          clear hP1 k1 hs1 oR2 k2 hP2 hs2 hr3 oR3 hkk3 hfr3 k3 hP3 hr4 oR4 hkk4 hfr4 k4 hr5 oR5 hkk5 hfr5 k5 hmap0 hmin hz3 hjc hjl hcap kd k0
                          simp only [setVals] at b0 b1 b2 b3 b4 b5
                          go_wp2_with fail
                          all_goals
                            refine bodyPost_ret (v := .tuple #[stV { setVals T dv with tab := T.tab.set k { f with acked := ac, seen := T.clock, kept := keptPut nk e.seq da } } (.slice (some ⟨g, 0, none⟩) T.tab.length vc), .int .i64 da, .bool true]) ?_ rfl ?_
                            · simp [results, Try.results41, go_sem, z0, z1, z2, z3, z4, z5, z6, setVals]
                            · rw [H1.out.1, H1.out.2.1, H1.out.2.2]
                              refine ⟨.slice (some ⟨g, 0, none⟩) T.tab.length vc, ?_, rfl, ?_⟩
                              · exact (HNE.out.own.but (b := w.heap.size + 1 + 1) (by omega) ((((((((But.refl _ _).set 0 _).set 1 _).set 2 _).set 3 _).set 4 _).set 5 _).set 6 _)).base (by omega)
                              · repeat refine Keeps.set ?_ (by simp <;> omega) _
                                exact HKE.out
end Go.Proofs.Yteabfjpajgakiab
