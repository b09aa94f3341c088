/- ApR, ApS, ApT. -/
import Derived.Test.YteabfjpajgakiabJ02
import Derived.Test.YteabfjpajgakiabJ15
import Derived.Test.YteabfjpajgakiabJ16
import Derived.Test.YteabfjpajgakiabJ17
import Derived.Test.YteabfjpajgakiabJ18
/- The reference's OwnState, and applied. -/
set_option linter.unusedSimpArgs false
set_option linter.unusedVariables false
set_option maxRecDepth 10000
namespace Go.Proofs.Yteabfjpajgakiab
open Go.RowKit

theorem applied_c (s : St) (e : Ent) (x : Value) (w : World) (hT : TabAt w x s.tab) (hs : stErr s = 0) (he : entErr e = 0) (hat : s.at_ ≠ 50) :
    Calls Try.prog 41 #[stV s x, entV e] w fun y w' => ∃ x', OwnTab w.heap.size w' x' (takenSt (ticked s e.time) e).tab ∧ y = .returned (.tuple #[stV (takenSt (ticked s e.time) e) x', .int .i64 (takenAns (ticked s e.time) e), .bool (takenDone (ticked s e.time) e)]) ∧ Keeps w w' :=
  applied_at s _ e rfl x w hT hs he hat

set_option maxHeartbeats 2000000 in
theorem own_state (s : St) (x : Value) (w : World) (hT : TabAt w x s.tab) (h3 : s.tab.length ≤ 3) (hk3 : ∀ y ∈ s.tab, y.kept.length ≤ 3) (hc : ∀ y ∈ s.tab, y.client ≠ -1) :
    Calls Try.prog 42 #[stV s x] w fun y w' => ∃ x', OwnTab w.heap.size w' x' s.tab ∧ y = .returned (stV s x') ∧ Keeps w w' := by
  obtain ⟨xa, xc, rfl, _⟩ := hT.len
  have HT : Hid (TabAt w (.slice xa s.tab.length xc) s.tab) := hT
  have hfl : s.tab.filter (fun y : Ses => y.client != -1) = s.tab := List.filter_eq_self.2 (fun y hy => by simpa using hc y hy)
  have C : Hid (∀ W, TabAt W (.slice xa s.tab.length xc) s.tab → Calls Try.prog 60 #[.slice xa s.tab.length xc, .int .i64 (-1)] W fun e w' => ∃ v', OwnTab W.heap.size w' v' s.tab ∧ e = .returned v' ∧ Keeps W w') := by
    intro W hW
    have := without_c s.tab _ (-1) W hW h3 hk3
    rw [hfl] at this
    exact this
  clear hT hc hfl h3 hk3
  go_enter Try.func42, Try.ntmps42
  go_wp2_with fail
  obtain ⟨W1, hW1⟩ : ∃ W1, W1 = (w.alloc (.cells #[.int .i64 s.at_, .int .i64 s.clock, .int .i64 s.v0, .int .i64 s.v1, .int .i64 s.v2, .int .i64 s.v3, .slice xa s.tab.length xc] 25)).alloc (.cells #[.int .i64 0, .int .i64 0, .int .i64 0, .int .i64 0, .int .i64 0, .int .i64 0, .slice none 0 0] 25) := ⟨_, rfl⟩
  have k1 : Keeps w W1 := by rw [hW1]; exact ((Keeps.refl _).alloc _).alloc _
  have B1 : StBox w.heap.size s (.slice xa s.tab.length xc) W1 := by rw [hW1]; exact (StBox.new w s _ 25).keep ((Keeps.refl _).alloc _)
  have Z1 : StBox (w.heap.size + 1) zeroSt (.slice none 0 0) W1 := by
    rw [hW1]
    have := StBox.new (w.alloc (.cells #[.int .i64 s.at_, .int .i64 s.clock, .int .i64 s.v0, .int .i64 s.v1, .int .i64 s.v2, .int .i64 s.v3, .slice xa s.tab.length xc] 25)) zeroSt (.slice none 0 0) 25
    simp only [World.size_alloc] at this
    exact this
  have hz1 : W1.heap.size = w.heap.size + 2 := by rw [hW1]; simp
  rw [← hW1]
  clear hW1
  refine (C.out W1 (HT.out.keep k1)).mono ?_
  rintro y w2 ⟨v', ho, rfl, hb⟩
  obtain ⟨va, vc, rfl, _⟩ := ho.tab.len
  have HO : Hid (OwnTab W1.heap.size w2 (.slice va s.tab.length vc) s.tab) := ho
  have HK : Hid (Keeps w w2) := k1.trans hb
  have B2 := B1.keep hb
  have Z2 := Z1.keep hb
  have b0 := B2.c0
  have b1 := B2.c1
  have b2 := B2.c2
  have b3 := B2.c3
  have b4 := B2.c4
  have b5 := B2.c5
  have b6 := B2.c6
  have bz := B2.fz
  have bl := B2.lt
  have z0 := Z2.c0
  have z1 := Z2.c1
  have z2 := Z2.c2
  have z3 := Z2.c3
  have z4 := Z2.c4
  have z5 := Z2.c5
  have z6 := Z2.c6
  have zf := Z2.fz
  have zl := Z2.lt
  clear ho k1 B1 Z1 B2 Z2 hb C HT
  generalize hsl : s.tab.length = sl at *
  go_wp2_with fail
  refine bodyPost_ret (v := stV s (.slice va sl vc)) ?_ rfl ?_
  · simp [results, Try.results42, go_sem, z0, z1, z2, z3, z4, z5, z6]
  · refine ⟨.slice va sl vc, ?_, rfl, ?_⟩
    · exact ((HO.out.but (b := w.heap.size) (by omega) ((But.refl _ _).set 6 _)).but (b := w.heap.size + 1) (by omega) ((((((((But.refl _ _).set 0 _).set 1 _).set 2 _).set 3 _).set 4 _).set 5 _).set 6 _)).base (by omega)
    · repeat refine Keeps.set ?_ (by simp <;> omega) _
      exact HK.out

/-- .. of a right state. -/
theorem own_right {s : St} (x : Value) (w : World) (hT : TabAt w x s.tab) (hs : stErr s = 0) :
    Calls Try.prog 42 #[stV s x] w fun y w' => ∃ x', OwnTab w.heap.size w' x' s.tab ∧ y = .returned (stV s x') ∧ Keeps w w' := by
  refine own_state s x w hT (tab_three hs) (fun y hy => kept_le ((tab_right (stErr_in hs).2.1).2.1 y hy)) (fun y hy => ?_)
  have := (inB_iff.1 (ses_right ((tab_right (stErr_in hs).2.1).2.1 y hy)).1).1
  omega
end Go.Proofs.Yteabfjpajgakiab

/- The reference's OneOf; ApplyOnes: the walk. -/
set_option linter.unusedSimpArgs false
set_option linter.unusedVariables false
set_option maxRecDepth 10000
namespace Go.Proofs.Yteabfjpajgakiab
open Go.RowKit

set_option maxHeartbeats 4000000 in
theorem one_of (s : St) (e : Ent) (x : Value) (w : World) (hT : TabAt w x s.tab) :
    Calls Try.prog 18 #[stV s x, entV e] w fun y w' => ∃ x', TabAt w' x' (oneSt s e).tab ∧ y = .returned (.tuple #[stV (oneSt s e) x', .int .i64 (oneAns s e), .bool (oneDone s e), .int .i64 (bothErr s e)]) ∧ Keeps w w' := by
  obtain ⟨xa, xc, rfl, _⟩ := hT.len
  have HT : Hid (TabAt w (.slice xa s.tab.length xc) s.tab) := hT
  clear hT
  have HS : Hid (oneSt s e = if bothErr s e == 0 then takenSt (ticked s e.time) e else zeroSt) := rfl
  have HA : Hid (oneAns s e = if bothErr s e == 0 then takenAns (ticked s e.time) e else 0) := rfl
  have HD : Hid (oneDone s e = if bothErr s e == 0 then takenDone (ticked s e.time) e else false) := rfl
  have HBE : Hid (bothErr s e = if stErr s == 0 then (if entErr e == 0 then (if s.at_ == 50 then 2 else 0) else entErr e) else stErr s) := rfl
  have HZT : Hid (zeroSt.tab = []) := rfl
  go_enter Try.func18, Try.ntmps18
  go_wp2_with fail
  obtain ⟨W1, hW1⟩ : ∃ W1, W1 = ((w.alloc (.cells #[.int .i64 s.at_, .int .i64 s.clock, .int .i64 s.v0, .int .i64 s.v1, .int .i64 s.v2, .int .i64 s.v3, .slice xa s.tab.length xc] 25)).alloc (.cells #[.int .i64 e.kind, .int .i64 e.time, .int .i64 e.client, .int .i64 e.seq, .int .i64 e.ack, .int .i64 e.ok, .int .i64 e.okey, .int .i64 e.oto, .int .i64 e.on] 33)).alloc (.cells #[.int .i64 0, .int .i64 0, .int .i64 0, .int .i64 0, .int .i64 0, .int .i64 0, .slice none 0 0] 25) := ⟨_, rfl⟩
  have k1 : Keeps w W1 := by rw [hW1]; exact (((Keeps.refl _).alloc _).alloc _).alloc _
  have B1 : StBox w.heap.size s (.slice xa s.tab.length xc) W1 := by rw [hW1]; exact (StBox.new w s _ 25).keep (((Keeps.refl _).alloc _).alloc _)
  have E1 : EntBox (w.heap.size + 1) e W1 := by
    rw [hW1]
    have := (EntBox.new (w.alloc (.cells #[.int .i64 s.at_, .int .i64 s.clock, .int .i64 s.v0, .int .i64 s.v1, .int .i64 s.v2, .int .i64 s.v3, .slice xa s.tab.length xc] 25)) e 33).keep ((Keeps.refl _).alloc (.cells #[.int .i64 0, .int .i64 0, .int .i64 0, .int .i64 0, .int .i64 0, .int .i64 0, .slice none 0 0] 25))
    simpa using this
  have Z1 : StBox (w.heap.size + 1 + 1) zeroSt (.slice none 0 0) W1 := by
    rw [hW1]
    have := StBox.new ((w.alloc (.cells #[.int .i64 s.at_, .int .i64 s.clock, .int .i64 s.v0, .int .i64 s.v1, .int .i64 s.v2, .int .i64 s.v3, .slice xa s.tab.length xc] 25)).alloc (.cells #[.int .i64 e.kind, .int .i64 e.time, .int .i64 e.client, .int .i64 e.seq, .int .i64 e.ack, .int .i64 e.ok, .int .i64 e.okey, .int .i64 e.oto, .int .i64 e.on] 33)) zeroSt (.slice none 0 0) 25
    simp only [World.size_alloc] at this
    exact this
  rw [← hW1]
  clear hW1
  refine (state_error s _ W1 (HT.out.keep k1)).mono ?_
  rintro y w1 ⟨rfl, hb⟩
  have HK1 : Hid (Keeps w w1) := k1.trans hb
  have HB1 : Hid (StBox w.heap.size s (.slice xa s.tab.length xc) w1) := B1.keep hb
  have HE1 : Hid (EntBox (w.heap.size + 1) e w1) := E1.keep hb
  have HZ1 : Hid (StBox (w.heap.size + 1 + 1) zeroSt (.slice none 0 0) w1) := Z1.keep hb
  clear k1 B1 E1 Z1 hb
  clear W1
  cases q : (stErr s == 0) with
  | false =>
    have q' : (stErr s != 0) = true := by simp [bne, q]
    have hbe : bothErr s e = stErr s := by rw [HBE.out, q]; rfl
    have H1 : Hid (oneSt s e = zeroSt ∧ oneAns s e = 0 ∧ oneDone s e = false ∧ bothErr s e = stErr s) := ⟨by rw [HS.out, hbe, q]; rfl, by rw [HA.out, hbe, q]; rfl, by rw [HD.out, hbe, q]; rfl, hbe⟩
    clear hbe
    generalize stErr s = er at *
    have z0 := HZ1.out.c0
    have z1 := HZ1.out.c1
    have z2 := HZ1.out.c2
    have z3 := HZ1.out.c3
    have z4 := HZ1.out.c4
    have z5 := HZ1.out.c5
    have z6 := HZ1.out.c6
    have zf := HZ1.out.fz
    have zl := HZ1.out.lt
    have hk1 := HK1.out
    go_wp2_with fail
    refine bodyPost_ret (v := .tuple #[stV zeroSt (.slice none 0 0), .int .i64 0, .bool false, .int .i64 er]) ?_ rfl ?_
    · simp [results, Try.results18, go_sem, zeroSt, z0, z1, z2, z3, z4, z5, z6]
    · rw [H1.out.1, H1.out.2.1, H1.out.2.2.1, H1.out.2.2.2]
      refine ⟨.slice none 0 0, ?_, rfl, ?_⟩
      · rw [HZT.out]
        exact tab_nil _
      · repeat refine Keeps.set ?_ (by simp <;> omega) _
        exact hk1
  | true =>
    have q' : (stErr s != 0) = false := by simp [bne, q]
    have x0 := HE1.out.c0
    have x1 := HE1.out.c1
    have x2 := HE1.out.c2
    have x3 := HE1.out.c3
    have x4 := HE1.out.c4
    have x5 := HE1.out.c5
    have x6 := HE1.out.c6
    have x7 := HE1.out.c7
    have x8 := HE1.out.c8
    have el := HE1.out.lt
    have HST : Hid (stErr s = 0) := by show _ = _; simpa using q
    go_wp2_with fail
    refine (entry_error e _).mono ?_
    rintro y w2 ⟨rfl, hb⟩
    have HK2 : Hid (Keeps w w2) := HK1.out.trans hb
    have HB2 : Hid (StBox w.heap.size s (.slice xa s.tab.length xc) w2) := HB1.out.keep hb
    have HE2 : Hid (EntBox (w.heap.size + 1) e w2) := HE1.out.keep hb
    have HZ2 : Hid (StBox (w.heap.size + 1 + 1) zeroSt (.slice none 0 0) w2) := HZ1.out.keep hb
    clear hb x0 x1 x2 x3 x4 x5 x6 x7 x8 el HK1 HB1 HE1 HZ1
    clear w1
    have HK1 := HK2
    have HZ1 := HZ2
    cases p : (entErr e == 0) with
    | false =>
      have p' : (entErr e != 0) = true := by simp [bne, p]
      have hbe : bothErr s e = entErr e := by rw [HBE.out, q, p]; rfl
      have H1 : Hid (oneSt s e = zeroSt ∧ oneAns s e = 0 ∧ oneDone s e = false ∧ bothErr s e = entErr e) := ⟨by rw [HS.out, hbe, p]; rfl, by rw [HA.out, hbe, p]; rfl, by rw [HD.out, hbe, p]; rfl, hbe⟩
      clear hbe
      generalize entErr e = er at *
      have z0 := HZ1.out.c0
      have z1 := HZ1.out.c1
      have z2 := HZ1.out.c2
      have z3 := HZ1.out.c3
      have z4 := HZ1.out.c4
      have z5 := HZ1.out.c5
      have z6 := HZ1.out.c6
      have zf := HZ1.out.fz
      have zl := HZ1.out.lt
      have hk1 := HK1.out
      go_wp2_with fail
      refine bodyPost_ret (v := .tuple #[stV zeroSt (.slice none 0 0), .int .i64 0, .bool false, .int .i64 er]) ?_ rfl ?_
      · simp [results, Try.results18, go_sem, zeroSt, z0, z1, z2, z3, z4, z5, z6]
      · rw [H1.out.1, H1.out.2.1, H1.out.2.2.1, H1.out.2.2.2]
        refine ⟨.slice none 0 0, ?_, rfl, ?_⟩
        · rw [HZT.out]
          exact tab_nil _
        · repeat refine Keeps.set ?_ (by simp <;> omega) _
          exact hk1
    | true =>
      have p' : (entErr e != 0) = false := by simp [bne, p]
      have b0 := HB2.out.c0
      have bl := HB2.out.lt
      cases r : (s.at_ == 50) with
      | true =>
        have hbe : bothErr s e = 2 := by rw [HBE.out, q, p, r]; rfl
        have H1 : Hid (oneSt s e = zeroSt ∧ oneAns s e = 0 ∧ oneDone s e = false ∧ bothErr s e = 2) := ⟨by rw [HS.out, hbe]; rfl, by rw [HA.out, hbe]; rfl, by rw [HD.out, hbe]; rfl, hbe⟩
        clear hbe
        have z0 := HZ1.out.c0
        have z1 := HZ1.out.c1
        have z2 := HZ1.out.c2
        have z3 := HZ1.out.c3
        have z4 := HZ1.out.c4
        have z5 := HZ1.out.c5
        have z6 := HZ1.out.c6
        have zf := HZ1.out.fz
        have zl := HZ1.out.lt
        have hk1 := HK1.out
        go_wp2_with fail
        refine bodyPost_ret (v := .tuple #[stV zeroSt (.slice none 0 0), .int .i64 0, .bool false, .int .i64 2]) ?_ rfl ?_
        · simp [results, Try.results18, go_sem, zeroSt, z0, z1, z2, z3, z4, z5, z6]
        · rw [H1.out.1, H1.out.2.1, H1.out.2.2.1, H1.out.2.2.2]
          refine ⟨.slice none 0 0, ?_, rfl, ?_⟩
          · rw [HZT.out]
            exact tab_nil _
          · repeat refine Keeps.set ?_ (by simp <;> omega) _
            exact hk1
      | false =>
        have hbe : bothErr s e = 0 := by rw [HBE.out, q, p, r]; rfl
        have H1 : Hid (oneSt s e = takenSt (ticked s e.time) e ∧ oneAns s e = takenAns (ticked s e.time) e ∧ oneDone s e = takenDone (ticked s e.time) e ∧ bothErr s e = 0) := ⟨by rw [HS.out, hbe]; rfl, by rw [HA.out, hbe]; rfl, by rw [HD.out, hbe]; rfl, hbe⟩
        have hent : entErr e = 0 := by simpa using p
        have hat : s.at_ ≠ 50 := by simpa using r
        have HOWN : Hid (∀ W, Keeps w W → Calls Try.prog 42 #[stV s (.slice xa s.tab.length xc)] W fun y w' => ∃ va vc, Hid (TabAt w' (.slice va s.tab.length vc) s.tab) ∧ y = .returned (stV s (.slice va s.tab.length vc)) ∧ Keeps W w') := by
          intro W hW
          refine (own_right _ W (HT.out.keep hW) HST.out).mono ?_
          rintro y w' ⟨x', ho, rfl, hb⟩
          obtain ⟨va, vc, rfl, _⟩ := ho.tab.len
          exact ⟨va, vc, ho.tab, rfl, hb⟩
        have HAPP : Hid (∀ W va vc, TabAt W (.slice va s.tab.length vc) s.tab → Calls Try.prog 41 #[stV s (.slice va s.tab.length vc), entV e] W fun y w' => ∃ za zc, Hid (OwnTab W.heap.size w' (.slice za (takenSt (ticked s e.time) e).tab.length zc) (takenSt (ticked s e.time) e).tab) ∧ y = .returned (.tuple #[stV (takenSt (ticked s e.time) e) (.slice za (takenSt (ticked s e.time) e).tab.length zc), .int .i64 (takenAns (ticked s e.time) e), .bool (takenDone (ticked s e.time) e)]) ∧ Keeps W w') := by
          intro W va vc hW
          refine (applied_c s e _ W hW HST.out hent hat).mono ?_
          rintro y w' ⟨x', ho, rfl, hb⟩
          obtain ⟨za, zc, rfl, _⟩ := ho.tab.len
          exact ⟨za, zc, ho, rfl, hb⟩
        clear hbe hent hat
        generalize takenSt (ticked s e.time) e = us at *
        generalize takenAns (ticked s e.time) e = ua at *
        generalize takenDone (ticked s e.time) e = ud at *
        have HS9 : Hid (∀ W, Keeps w2 W → W.cell? ⟨w.heap.size, 0, none⟩ = some (.int .i64 s.at_) ∧ W.cell? ⟨w.heap.size, 1, none⟩ = some (.int .i64 s.clock) ∧ W.cell? ⟨w.heap.size, 2, none⟩ = some (.int .i64 s.v0) ∧ W.cell? ⟨w.heap.size, 3, none⟩ = some (.int .i64 s.v1) ∧ W.cell? ⟨w.heap.size, 4, none⟩ = some (.int .i64 s.v2) ∧ W.cell? ⟨w.heap.size, 5, none⟩ = some (.int .i64 s.v3) ∧ W.cell? ⟨w.heap.size, 6, none⟩ = some (.slice xa s.tab.length xc) ∧ W.cell? ⟨w.heap.size + 1, 0, none⟩ = some (.int .i64 e.kind) ∧ W.cell? ⟨w.heap.size + 1, 1, none⟩ = some (.int .i64 e.time) ∧ W.cell? ⟨w.heap.size + 1, 2, none⟩ = some (.int .i64 e.client) ∧ W.cell? ⟨w.heap.size + 1, 3, none⟩ = some (.int .i64 e.seq) ∧ W.cell? ⟨w.heap.size + 1, 4, none⟩ = some (.int .i64 e.ack) ∧ W.cell? ⟨w.heap.size + 1, 5, none⟩ = some (.int .i64 e.ok) ∧ W.cell? ⟨w.heap.size + 1, 6, none⟩ = some (.int .i64 e.okey) ∧ W.cell? ⟨w.heap.size + 1, 7, none⟩ = some (.int .i64 e.oto) ∧ W.cell? ⟨w.heap.size + 1, 8, none⟩ = some (.int .i64 e.on)) := fun W hk =>
          have B := HB2.out.keep hk
          have E := HE2.out.keep hk
          ⟨B.c0, B.c1, B.c2, B.c3, B.c4, B.c5, B.c6, E.c0, E.c1, E.c2, E.c3, E.c4, E.c5, E.c6, E.c7, E.c8⟩
        have HKw : Hid (Keeps w w2) := HK2.out
        go_wp2_with fail
        obtain ⟨W0, hW0⟩ : ∃ z, z = w2.drew := ⟨_, rfl⟩
        have k0 : Keeps w2 W0 := by rw [hW0]; exact (Keeps.refl _).drew
        refine wp_region_held_drew (S := fun W => W.cell? ⟨w.heap.size, 0, none⟩ = some (.int .i64 s.at_) ∧ W.cell? ⟨w.heap.size, 1, none⟩ = some (.int .i64 s.clock) ∧ W.cell? ⟨w.heap.size, 2, none⟩ = some (.int .i64 s.v0) ∧ W.cell? ⟨w.heap.size, 3, none⟩ = some (.int .i64 s.v1) ∧ W.cell? ⟨w.heap.size, 4, none⟩ = some (.int .i64 s.v2) ∧ W.cell? ⟨w.heap.size, 5, none⟩ = some (.int .i64 s.v3) ∧ W.cell? ⟨w.heap.size, 6, none⟩ = some (.slice xa s.tab.length xc) ∧ W.cell? ⟨w.heap.size + 1, 0, none⟩ = some (.int .i64 e.kind) ∧ W.cell? ⟨w.heap.size + 1, 1, none⟩ = some (.int .i64 e.time) ∧ W.cell? ⟨w.heap.size + 1, 2, none⟩ = some (.int .i64 e.client) ∧ W.cell? ⟨w.heap.size + 1, 3, none⟩ = some (.int .i64 e.seq) ∧ W.cell? ⟨w.heap.size + 1, 4, none⟩ = some (.int .i64 e.ack) ∧ W.cell? ⟨w.heap.size + 1, 5, none⟩ = some (.int .i64 e.ok) ∧ W.cell? ⟨w.heap.size + 1, 6, none⟩ = some (.int .i64 e.okey) ∧ W.cell? ⟨w.heap.size + 1, 7, none⟩ = some (.int .i64 e.oto) ∧ W.cell? ⟨w.heap.size + 1, 8, none⟩ = some (.int .i64 e.on)) (by kernel_rfl) (HS9.out _ (Keeps.refl _).drew) (fun hS => ?_)
        rw [← hW0] at hS ⊢
        clear hW0
        refine wpAnyH_take (i := 0) (v := stV s (.slice xa s.tab.length xc)) rfl (by kernel_rfl) (by kernel_rfl) (by kernel_rfl) (fun _ _ _ h => h) (Or.inl ⟨by rfl, ?_⟩) hS ?_
        · intro w hS; go_simp
        refine wpAnyH_take (i := 2) (v := entV e) rfl (by kernel_rfl) (by kernel_rfl) (by kernel_rfl) (fun _ _ _ h => h) (Or.inl ⟨by rfl, ?_⟩) hS ?_
        · intro w hS; go_simp
        refine wpAnyH_ready (rs := [1, 8]) (by kernel_rfl) (by simp) ?_
        refine AllReadyH.cons rfl (fun K hK => ?_) (AllReadyH.cons rfl (fun K hK => ?_) AllReadyH.nil)
        · go_simp
          refine (HOWN.out W0 (HKw.out.trans k0)).mono ?_
          rintro y W1 ⟨va, vc, HO1, rfl, hb⟩
          have k1 := k0.trans hb
          have hz1 := hb.size
          clear hb
          go_simp
          refine hK.out _ _ (HS9.out _ k1) (fun hS => ?_)
          clear hK K
          refine wpAnyH_ready (rs := [3, 8]) (by kernel_rfl) (by simp) ?_
          refine AllReadyH.cons rfl (fun K hK => ?_) (AllReadyH.cons rfl (fun K hK => ?_) AllReadyH.nil)
          · go_simp
            refine (HAPP.out W1 va vc HO1.out).mono ?_
            rintro y W2 ⟨za, zc, HO2, rfl, hb⟩
            have k2 := k1.trans hb
            have hz2 := hb.size
            clear hb
            go_simp
            refine hK.out _ _ (HS9.out _ k2) (fun hS => ?_)
            clear hK K
            refine wpAnyH_take (i := 4) (v := .tuple #[stV us (.slice za us.tab.length zc), .int .i64 ua, .bool ud]) rfl (by kernel_rfl) (by kernel_rfl) (by kernel_rfl) (fun _ _ _ h => h) (Or.inl ⟨by rfl, ?_⟩) hS ?_
            · intro w hS; go_simp
            refine wpAnyH_take (i := 5) (v := stV us (.slice za us.tab.length zc)) rfl (by kernel_rfl) (by kernel_rfl) (by kernel_rfl) (fun _ _ _ h => h) (Or.inl ⟨by rfl, ?_⟩) hS ?_
            · intro w hS; go_simp
            refine wpAnyH_take (i := 6) (v := .int .i64 ua) rfl (by kernel_rfl) (by kernel_rfl) (by kernel_rfl) (fun _ _ _ h => h) (Or.inl ⟨by rfl, ?_⟩) hS ?_
            · intro w hS; go_simp
            refine wpAnyH_take (i := 7) (v := .bool ud) rfl (by kernel_rfl) (by kernel_rfl) (by kernel_rfl) (fun _ _ _ h => h) (Or.inl ⟨by rfl, ?_⟩) hS ?_
            · intro w hS; go_simp
            refine wpAnyH_ready (rs := [8]) (by kernel_rfl) (by simp) ?_
            refine AllReadyH.cons rfl (fun K hK => ?_) AllReadyH.nil
            go_simp
            have HQ3 : Hid (StBox W2.heap.size zeroSt (.slice none 0 0) (W2.alloc (.cells #[.int .i64 0, .int .i64 0, .int .i64 0, .int .i64 0, .int .i64 0, .int .i64 0, .slice none 0 0] 25))) := StBox.new W2 zeroSt (.slice none 0 0) 25
            have k3 : Keeps w2 (W2.alloc (.cells #[.int .i64 0, .int .i64 0, .int .i64 0, .int .i64 0, .int .i64 0, .int .i64 0, .slice none 0 0] 25)) := k2.alloc _
            have hz3 : (W2.alloc (.cells #[.int .i64 0, .int .i64 0, .int .i64 0, .int .i64 0, .int .i64 0, .int .i64 0, .slice none 0 0] 25)).heap.size = W2.heap.size + 1 := World.size_alloc _ _
            have HTF : Hid (∀ WF, But W2.heap.size (W2.alloc (.cells #[.int .i64 0, .int .i64 0, .int .i64 0, .int .i64 0, .int .i64 0, .int .i64 0, .slice none 0 0] 25)) WF → OwnTab w2.heap.size WF (.slice za us.tab.length zc) us.tab) := fun WF hF => (HO2.out.keep (But.to ((Keeps.refl _).alloc _) (Nat.le_refl _) hF)).base k1.size
            generalize W2.alloc (.cells #[.int .i64 0, .int .i64 0, .int .i64 0, .int .i64 0, .int .i64 0, .int .i64 0, .slice none 0 0] 25) = W3 at *
            refine hK.out _ _ (HS9.out _ k3) (fun hS => ?_)
            clear hK K
            refine wpAnyH_ready (rs := [9]) (by kernel_rfl) (by simp) ?_
            refine AllReadyH.cons rfl (fun K hK => ?_) AllReadyH.nil
            have z0 := HQ3.out.c0
            have z1 := HQ3.out.c1
            have z2 := HQ3.out.c2
            have z3 := HQ3.out.c3
            have z4 := HQ3.out.c4
            have z5 := HQ3.out.c5
            have z6 := HQ3.out.c6
            have zf := HQ3.out.fz
            have zl := HQ3.out.lt
            go_simp
            clear z0 z1 z2 z3 z4 z5 z6 zf
            have BP := HQ3.out.put us (.slice za us.tab.length zc)
            have BT := But.puts (b := W2.heap.size) W3 us (.slice za us.tab.length zc)
            have hwz : w2.heap.size ≤ W2.heap.size := k2.size
            have KF := But.to k3 hwz BT
            have HTE := HTF.out _ BT
            obtain ⟨WF, hWF⟩ : ∃ z, z = (((((((W3.setCell ⟨W2.heap.size, 0, none⟩ (.int .i64 us.at_)).setCell ⟨W2.heap.size, 1, none⟩ (.int .i64 us.clock)).setCell ⟨W2.heap.size, 2, none⟩ (.int .i64 us.v0)).setCell ⟨W2.heap.size, 3, none⟩ (.int .i64 us.v1)).setCell ⟨W2.heap.size, 4, none⟩ (.int .i64 us.v2)).setCell ⟨W2.heap.size, 5, none⟩ (.int .i64 us.v3)).setCell ⟨W2.heap.size, 6, none⟩ (.slice za us.tab.length zc)) := ⟨_, rfl⟩
            rw [← hWF] at BP BT KF HTE ⊢
            clear hWF
            refine hK.out _ _ (HS9.out _ KF) (fun hS => ?_)
            clear hK K
            have hwz2 : w.heap.size + 1 + 1 < w2.heap.size := HZ2.out.lt
            refine wpAnyH_take (i := 10) (v := .int .i64 ua) rfl (by kernel_rfl) (by kernel_rfl) (by kernel_rfl) (fun _ _ _ h => h) (Or.inl ⟨by rfl, ?_⟩) hS ?_
            · intro w hS; go_simp
            refine wpAnyH_take (i := 11) (v := .bool ud) rfl (by kernel_rfl) (by kernel_rfl) (by kernel_rfl) (fun _ _ _ h => h) (Or.inl ⟨by rfl, ?_⟩) hS ?_
            · intro w hS; go_simp
            refine wpAnyH_done (by kernel_rfl) ?_ _
            have ZF := HZ2.out.keep KF
            have HKF : Hid (Keeps w WF) := HKw.out.trans KF
            have HTE2 : Hid (OwnTab w2.heap.size WF (.slice za us.tab.length zc) us.tab) := HTE
            have b0 := BP.c0
            have b1 := BP.c1
            have b2 := BP.c2
            have b3 := BP.c3
            have b4 := BP.c4
            have b5 := BP.c5
            have b6 := BP.c6
            have bl := BP.lt
            have z0 := ZF.c0
            have z1 := ZF.c1
            have z2 := ZF.c2
            have z3 := ZF.c3
            have z4 := ZF.c4
            have z5 := ZF.c5
            have z6 := ZF.c6
            have zf := ZF.fz
            have zl := ZF.lt
            clear BP BT KF HTE HTF ZF hS
            generalize us.tab.length = ul at *
            go_wp2_with fail
            refine bodyPost_ret (v := .tuple #[stV us (.slice za ul zc), .int .i64 ua, .bool ud, .int .i64 0]) ?_ rfl ?_
            · simp [results, Try.results18, go_sem, z0, z1, z2, z3, z4, z5, z6]
            · rw [H1.out.1, H1.out.2.1, H1.out.2.2.1, H1.out.2.2.2]
              refine ⟨.slice za ul zc, ?_, rfl, ?_⟩
              · exact (HTE2.out.but (b := w.heap.size + 1 + 1) hwz2 ((((((((But.refl _ _).set 0 _).set 1 _).set 2 _).set 3 _).set 4 _).set 5 _).set 6 _)).tab
              · repeat refine Keeps.set ?_ (by simp <;> omega) _
                exact HKF.out
          · go_simp
            have HQ2 : Hid (StBox W1.heap.size zeroSt (.slice none 0 0) (W1.alloc (.cells #[.int .i64 0, .int .i64 0, .int .i64 0, .int .i64 0, .int .i64 0, .int .i64 0, .slice none 0 0] 25))) := StBox.new W1 zeroSt (.slice none 0 0) 25
            have k2 : Keeps w2 (W1.alloc (.cells #[.int .i64 0, .int .i64 0, .int .i64 0, .int .i64 0, .int .i64 0, .int .i64 0, .slice none 0 0] 25)) := k1.alloc _
            have hz2 : (W1.alloc (.cells #[.int .i64 0, .int .i64 0, .int .i64 0, .int .i64 0, .int .i64 0, .int .i64 0, .slice none 0 0] 25)).heap.size = W1.heap.size + 1 := World.size_alloc _ _
            have HO2 : Hid (TabAt (W1.alloc (.cells #[.int .i64 0, .int .i64 0, .int .i64 0, .int .i64 0, .int .i64 0, .int .i64 0, .slice none 0 0] 25)) (.slice va s.tab.length vc) s.tab) := HO1.out.keep ((Keeps.refl _).alloc _)
            generalize W1.alloc (.cells #[.int .i64 0, .int .i64 0, .int .i64 0, .int .i64 0, .int .i64 0, .int .i64 0, .slice none 0 0] 25) = W2 at *
            refine hK.out _ _ (HS9.out _ k2) (fun hS => ?_)
            clear hK K
            refine wpAnyH_ready (rs := [3]) (by kernel_rfl) (by simp) ?_
            refine AllReadyH.cons rfl (fun K hK => ?_) AllReadyH.nil
            go_simp
            refine (HAPP.out W2 va vc HO2.out).mono ?_
            rintro y W3 ⟨za, zc, HO3, rfl, hb⟩
            have k3 := k2.trans hb
            have hz3 := hb.size
            have HQ3 : Hid (StBox W1.heap.size zeroSt (.slice none 0 0) W3) := HQ2.out.keep hb
            have HTF : Hid (∀ WF, But W1.heap.size W3 WF → OwnTab w2.heap.size WF (.slice za us.tab.length zc) us.tab) := fun WF hF => (HO3.out.but (by omega) hF).base k2.size
            clear hb
            go_simp
            refine hK.out _ _ (HS9.out _ k3) (fun hS => ?_)
            clear hK K
            refine wpAnyH_take (i := 4) (v := .tuple #[stV us (.slice za us.tab.length zc), .int .i64 ua, .bool ud]) rfl (by kernel_rfl) (by kernel_rfl) (by kernel_rfl) (fun _ _ _ h => h) (Or.inl ⟨by rfl, ?_⟩) hS ?_
            · intro w hS; go_simp
            refine wpAnyH_take (i := 5) (v := stV us (.slice za us.tab.length zc)) rfl (by kernel_rfl) (by kernel_rfl) (by kernel_rfl) (fun _ _ _ h => h) (Or.inl ⟨by rfl, ?_⟩) hS ?_
            · intro w hS; go_simp
            refine wpAnyH_take (i := 6) (v := .int .i64 ua) rfl (by kernel_rfl) (by kernel_rfl) (by kernel_rfl) (fun _ _ _ h => h) (Or.inl ⟨by rfl, ?_⟩) hS ?_
            · intro w hS; go_simp
            refine wpAnyH_take (i := 7) (v := .bool ud) rfl (by kernel_rfl) (by kernel_rfl) (by kernel_rfl) (fun _ _ _ h => h) (Or.inl ⟨by rfl, ?_⟩) hS ?_
            · intro w hS; go_simp
            refine wpAnyH_ready (rs := [9]) (by kernel_rfl) (by simp) ?_
            refine AllReadyH.cons rfl (fun K hK => ?_) AllReadyH.nil
            have z0 := HQ3.out.c0
            have z1 := HQ3.out.c1
            have z2 := HQ3.out.c2
            have z3 := HQ3.out.c3
            have z4 := HQ3.out.c4
            have z5 := HQ3.out.c5
            have z6 := HQ3.out.c6
            have zf := HQ3.out.fz
            have zl := HQ3.out.lt
            go_simp
            clear z0 z1 z2 z3 z4 z5 z6 zf
            have BP := HQ3.out.put us (.slice za us.tab.length zc)
            have BT := But.puts (b := W1.heap.size) W3 us (.slice za us.tab.length zc)
            have hwz : w2.heap.size ≤ W1.heap.size := k1.size
            have KF := But.to k3 hwz BT
            have HTE := HTF.out _ BT
            obtain ⟨WF, hWF⟩ : ∃ z, z = (((((((W3.setCell ⟨W1.heap.size, 0, none⟩ (.int .i64 us.at_)).setCell ⟨W1.heap.size, 1, none⟩ (.int .i64 us.clock)).setCell ⟨W1.heap.size, 2, none⟩ (.int .i64 us.v0)).setCell ⟨W1.heap.size, 3, none⟩ (.int .i64 us.v1)).setCell ⟨W1.heap.size, 4, none⟩ (.int .i64 us.v2)).setCell ⟨W1.heap.size, 5, none⟩ (.int .i64 us.v3)).setCell ⟨W1.heap.size, 6, none⟩ (.slice za us.tab.length zc)) := ⟨_, rfl⟩
            rw [← hWF] at BP BT KF HTE ⊢
            clear hWF
            refine hK.out _ _ (HS9.out _ KF) (fun hS => ?_)
            clear hK K
            have hwz2 : w.heap.size + 1 + 1 < w2.heap.size := HZ2.out.lt
            refine wpAnyH_take (i := 10) (v := .int .i64 ua) rfl (by kernel_rfl) (by kernel_rfl) (by kernel_rfl) (fun _ _ _ h => h) (Or.inl ⟨by rfl, ?_⟩) hS ?_
            · intro w hS; go_simp
            refine wpAnyH_take (i := 11) (v := .bool ud) rfl (by kernel_rfl) (by kernel_rfl) (by kernel_rfl) (fun _ _ _ h => h) (Or.inl ⟨by rfl, ?_⟩) hS ?_
            · intro w hS; go_simp
            refine wpAnyH_done (by kernel_rfl) ?_ _
            have ZF := HZ2.out.keep KF
            have HKF : Hid (Keeps w WF) := HKw.out.trans KF
            have HTE2 : Hid (OwnTab w2.heap.size WF (.slice za us.tab.length zc) us.tab) := HTE
            have b0 := BP.c0
            have b1 := BP.c1
            have b2 := BP.c2
            have b3 := BP.c3
            have b4 := BP.c4
            have b5 := BP.c5
            have b6 := BP.c6
            have bl := BP.lt
            have z0 := ZF.c0
            have z1 := ZF.c1
            have z2 := ZF.c2
            have z3 := ZF.c3
            have z4 := ZF.c4
            have z5 := ZF.c5
            have z6 := ZF.c6
            have zf := ZF.fz
            have zl := ZF.lt
            clear BP BT KF HTE HTF ZF hS
            generalize us.tab.length = ul at *
            go_wp2_with fail
            refine bodyPost_ret (v := .tuple #[stV us (.slice za ul zc), .int .i64 ua, .bool ud, .int .i64 0]) ?_ rfl ?_
            · simp [results, Try.results18, go_sem, z0, z1, z2, z3, z4, z5, z6]
            · rw [H1.out.1, H1.out.2.1, H1.out.2.2.1, H1.out.2.2.2]
              refine ⟨.slice za ul zc, ?_, rfl, ?_⟩
              · exact (HTE2.out.but (b := w.heap.size + 1 + 1) hwz2 ((((((((But.refl _ _).set 0 _).set 1 _).set 2 _).set 3 _).set 4 _).set 5 _).set 6 _)).tab
              · repeat refine Keeps.set ?_ (by simp <;> omega) _
                exact HKF.out
        · go_simp
          have HQ1 : Hid (StBox W0.heap.size zeroSt (.slice none 0 0) (W0.alloc (.cells #[.int .i64 0, .int .i64 0, .int .i64 0, .int .i64 0, .int .i64 0, .int .i64 0, .slice none 0 0] 25))) := StBox.new W0 zeroSt (.slice none 0 0) 25
          have k1 : Keeps w2 (W0.alloc (.cells #[.int .i64 0, .int .i64 0, .int .i64 0, .int .i64 0, .int .i64 0, .int .i64 0, .slice none 0 0] 25)) := k0.alloc _
          have hz1 : (W0.alloc (.cells #[.int .i64 0, .int .i64 0, .int .i64 0, .int .i64 0, .int .i64 0, .int .i64 0, .slice none 0 0] 25)).heap.size = W0.heap.size + 1 := World.size_alloc _ _
          generalize W0.alloc (.cells #[.int .i64 0, .int .i64 0, .int .i64 0, .int .i64 0, .int .i64 0, .int .i64 0, .slice none 0 0] 25) = W1 at *
          refine hK.out _ _ (HS9.out _ k1) (fun hS => ?_)
          clear hK K
          refine wpAnyH_ready (rs := [1]) (by kernel_rfl) (by simp) ?_
          refine AllReadyH.cons rfl (fun K hK => ?_) AllReadyH.nil
          go_simp
          refine (HOWN.out W1 (HKw.out.trans k1)).mono ?_
          rintro y W2 ⟨va, vc, HO2, rfl, hb⟩
          have k2 := k1.trans hb
          have hz2 := hb.size
          have HQ2 : Hid (StBox W0.heap.size zeroSt (.slice none 0 0) W2) := HQ1.out.keep hb
          clear hb
          go_simp
          refine hK.out _ _ (HS9.out _ k2) (fun hS => ?_)
          clear hK K
          refine wpAnyH_ready (rs := [3]) (by kernel_rfl) (by simp) ?_
          refine AllReadyH.cons rfl (fun K hK => ?_) AllReadyH.nil
          go_simp
          refine (HAPP.out W2 va vc HO2.out).mono ?_
          rintro y W3 ⟨za, zc, HO3, rfl, hb⟩
          have k3 := k2.trans hb
          have hz3 := hb.size
          have HQ3 : Hid (StBox W0.heap.size zeroSt (.slice none 0 0) W3) := HQ2.out.keep hb
          have HTF : Hid (∀ WF, But W0.heap.size W3 WF → OwnTab w2.heap.size WF (.slice za us.tab.length zc) us.tab) := fun WF hF => (HO3.out.but (by omega) hF).base k2.size
          clear hb
          go_simp
          refine hK.out _ _ (HS9.out _ k3) (fun hS => ?_)
          clear hK K
          refine wpAnyH_take (i := 4) (v := .tuple #[stV us (.slice za us.tab.length zc), .int .i64 ua, .bool ud]) rfl (by kernel_rfl) (by kernel_rfl) (by kernel_rfl) (fun _ _ _ h => h) (Or.inl ⟨by rfl, ?_⟩) hS ?_
          · intro w hS; go_simp
          refine wpAnyH_take (i := 5) (v := stV us (.slice za us.tab.length zc)) rfl (by kernel_rfl) (by kernel_rfl) (by kernel_rfl) (fun _ _ _ h => h) (Or.inl ⟨by rfl, ?_⟩) hS ?_
          · intro w hS; go_simp
          refine wpAnyH_take (i := 6) (v := .int .i64 ua) rfl (by kernel_rfl) (by kernel_rfl) (by kernel_rfl) (fun _ _ _ h => h) (Or.inl ⟨by rfl, ?_⟩) hS ?_
          · intro w hS; go_simp
          refine wpAnyH_take (i := 7) (v := .bool ud) rfl (by kernel_rfl) (by kernel_rfl) (by kernel_rfl) (fun _ _ _ h => h) (Or.inl ⟨by rfl, ?_⟩) hS ?_
          · intro w hS; go_simp
          refine wpAnyH_ready (rs := [9]) (by kernel_rfl) (by simp) ?_
          refine AllReadyH.cons rfl (fun K hK => ?_) AllReadyH.nil
          have z0 := HQ3.out.c0
          have z1 := HQ3.out.c1
          have z2 := HQ3.out.c2
          have z3 := HQ3.out.c3
          have z4 := HQ3.out.c4
          have z5 := HQ3.out.c5
          have z6 := HQ3.out.c6
          have zf := HQ3.out.fz
          have zl := HQ3.out.lt
          go_simp
          clear z0 z1 z2 z3 z4 z5 z6 zf
          have BP := HQ3.out.put us (.slice za us.tab.length zc)
          have BT := But.puts (b := W0.heap.size) W3 us (.slice za us.tab.length zc)
          have hwz : w2.heap.size ≤ W0.heap.size := k0.size
          have KF := But.to k3 hwz BT
          have HTE := HTF.out _ BT
          obtain ⟨WF, hWF⟩ : ∃ z, z = (((((((W3.setCell ⟨W0.heap.size, 0, none⟩ (.int .i64 us.at_)).setCell ⟨W0.heap.size, 1, none⟩ (.int .i64 us.clock)).setCell ⟨W0.heap.size, 2, none⟩ (.int .i64 us.v0)).setCell ⟨W0.heap.size, 3, none⟩ (.int .i64 us.v1)).setCell ⟨W0.heap.size, 4, none⟩ (.int .i64 us.v2)).setCell ⟨W0.heap.size, 5, none⟩ (.int .i64 us.v3)).setCell ⟨W0.heap.size, 6, none⟩ (.slice za us.tab.length zc)) := ⟨_, rfl⟩
          rw [← hWF] at BP BT KF HTE ⊢
          clear hWF
          refine hK.out _ _ (HS9.out _ KF) (fun hS => ?_)
          clear hK K
          have hwz2 : w.heap.size + 1 + 1 < w2.heap.size := HZ2.out.lt
          refine wpAnyH_take (i := 10) (v := .int .i64 ua) rfl (by kernel_rfl) (by kernel_rfl) (by kernel_rfl) (fun _ _ _ h => h) (Or.inl ⟨by rfl, ?_⟩) hS ?_
          · intro w hS; go_simp
          refine wpAnyH_take (i := 11) (v := .bool ud) rfl (by kernel_rfl) (by kernel_rfl) (by kernel_rfl) (fun _ _ _ h => h) (Or.inl ⟨by rfl, ?_⟩) hS ?_
          · intro w hS; go_simp
          refine wpAnyH_done (by kernel_rfl) ?_ _
          have ZF := HZ2.out.keep KF
          have HKF : Hid (Keeps w WF) := HKw.out.trans KF
          have HTE2 : Hid (OwnTab w2.heap.size WF (.slice za us.tab.length zc) us.tab) := HTE
          have b0 := BP.c0
          have b1 := BP.c1
          have b2 := BP.c2
          have b3 := BP.c3
          have b4 := BP.c4
          have b5 := BP.c5
          have b6 := BP.c6
          have bl := BP.lt
          have z0 := ZF.c0
          have z1 := ZF.c1
          have z2 := ZF.c2
          have z3 := ZF.c3
          have z4 := ZF.c4
          have z5 := ZF.c5
          have z6 := ZF.c6
          have zf := ZF.fz
          have zl := ZF.lt
          clear BP BT KF HTE HTF ZF hS
          generalize us.tab.length = ul at *
          go_wp2_with fail
          refine bodyPost_ret (v := .tuple #[stV us (.slice za ul zc), .int .i64 ua, .bool ud, .int .i64 0]) ?_ rfl ?_
          · simp [results, Try.results18, go_sem, z0, z1, z2, z3, z4, z5, z6]
          · rw [H1.out.1, H1.out.2.1, H1.out.2.2.1, H1.out.2.2.2]
            refine ⟨.slice za ul zc, ?_, rfl, ?_⟩
            · exact (HTE2.out.but (b := w.heap.size + 1 + 1) hwz2 ((((((((But.refl _ _).set 0 _).set 1 _).set 2 _).set 3 _).set 4 _).set 5 _).set 6 _)).tab
            · repeat refine Keeps.set ?_ (by simp <;> omega) _
              exact HKF.out

end Go.Proofs.Yteabfjpajgakiab

/- ApplyOnes: the law's walk. -/
set_option linter.unusedSimpArgs false
set_option linter.unusedVariables false
set_option maxRecDepth 10000
namespace Go.Proofs.Yteabfjpajgakiab
open Go.RowKit

set_option maxHeartbeats 4000000 in
theorem ones_law (s : St) (e : Ent) (x : Value) (w : World) (hT : TabAt w x s.tab) : Calls Try.prog 5 #[stV s x, entV e] w fun y w' => y = .returned (.bool true) ∧ Keeps w w' := by
  obtain ⟨xa, xc, rfl, _⟩ := hT.len
  have HT : Hid (TabAt w (.slice xa s.tab.length xc) s.tab) := hT
  clear hT
  go_enter Try.func5, Try.ntmps5
  go_wp2_with fail
  obtain ⟨W1, hW1⟩ : ∃ W1, W1 = (w.alloc (.cells #[.int .i64 s.at_, .int .i64 s.clock, .int .i64 s.v0, .int .i64 s.v1, .int .i64 s.v2, .int .i64 s.v3, .slice xa s.tab.length xc] 25)).alloc (.cells #[.int .i64 e.kind, .int .i64 e.time, .int .i64 e.client, .int .i64 e.seq, .int .i64 e.ack, .int .i64 e.ok, .int .i64 e.okey, .int .i64 e.oto, .int .i64 e.on] 33) := ⟨_, rfl⟩
  have k1 : Keeps w W1 := by rw [hW1]; exact ((Keeps.refl _).alloc _).alloc _
  have B1 : StBox w.heap.size s (.slice xa s.tab.length xc) W1 := by rw [hW1]; exact (StBox.new w s _ 25).keep ((Keeps.refl _).alloc _)
  have E1 : EntBox (w.heap.size + 1) e W1 := by
    rw [hW1]
    have := EntBox.new (w.alloc (.cells #[.int .i64 s.at_, .int .i64 s.clock, .int .i64 s.v0, .int .i64 s.v1, .int .i64 s.v2, .int .i64 s.v3, .slice xa s.tab.length xc] 25)) e 33
    simpa using this
  rw [← hW1]
  clear hW1
  refine (one_c s e _ W1 (HT.out.keep k1)).mono ?_
  rintro y w1 ⟨x', ho, rfl, hb⟩
  obtain ⟨ya, yc, rfl, _⟩ := ho.tab.len
  have HK1 : Hid (Keeps w w1) := k1.trans hb
  have B2 := B1.keep hb
  have E2 := E1.keep hb
  have HO1 : Hid (TabAt w1 (.slice ya (oneSt s e).tab.length yc) (oneSt s e).tab) := ho.tab
  have b0 := B2.c0
  have b1 := B2.c1
  have b2 := B2.c2
  have b3 := B2.c3
  have b4 := B2.c4
  have b5 := B2.c5
  have b6 := B2.c6
  have bl := B2.lt
  have e0 := E2.c0
  have e1 := E2.c1
  have e2 := E2.c2
  have e3 := E2.c3
  have e4 := E2.c4
  have e5 := E2.c5
  have e6 := E2.c6
  have e7 := E2.c7
  have e8 := E2.c8
  have el := E2.lt
  have HOF : Hid (∀ W, Keeps w W → Calls Try.prog 18 #[stV s (.slice xa s.tab.length xc), entV e] W fun y w' => ∃ x', TabAt w' x' (oneSt s e).tab ∧ y = .returned (.tuple #[stV (oneSt s e) x', .int .i64 (oneAns s e), .bool (oneDone s e), .int .i64 (bothErr s e)]) ∧ Keeps W w') := fun W hW => one_of s e _ W (HT.out.keep hW)
  clear k1 B1 E1 hb ho B2 E2
  clear W1
  generalize oneSt s e = t at *
  generalize oneAns s e = n at *
  generalize oneDone s e = d at *
  generalize bothErr s e = er at *
  go_wp2_with fail
  have T2 : StBox w1.heap.size t (.slice ya t.tab.length yc) (w1.alloc (.cells #[.int .i64 t.at_, .int .i64 t.clock, .int .i64 t.v0, .int .i64 t.v1, .int .i64 t.v2, .int .i64 t.v3, .slice ya t.tab.length yc] 25)) := StBox.new w1 t _ 25
  have k12 : Keeps w1 (w1.alloc (.cells #[.int .i64 t.at_, .int .i64 t.clock, .int .i64 t.v0, .int .i64 t.v1, .int .i64 t.v2, .int .i64 t.v3, .slice ya t.tab.length yc] 25)) := (Keeps.refl _).alloc _
  generalize (w1.alloc (.cells #[.int .i64 t.at_, .int .i64 t.clock, .int .i64 t.v0, .int .i64 t.v1, .int .i64 t.v2, .int .i64 t.v3, .slice ya t.tab.length yc] 25)) = w2 at *
  generalize w1.heap.size = TB at *
  refine (HOF.out w2 (HK1.out.trans k12)).mono ?_
  rintro y w3 ⟨x3, ho3, rfl, hb⟩
  obtain ⟨za, zc, rfl, _⟩ := ho3.len
  have HK3 : Hid (Keeps w w3) := (HK1.out.trans k12).trans hb
  have HT3 : Hid (StBox TB t (.slice ya t.tab.length yc) w3) := T2.keep hb
  have HO3 : Hid (TabAt w3 (.slice ya t.tab.length yc) t.tab) := (HO1.out.keep k12).keep hb
  have HP3 : Hid (TabAt w3 (.slice za t.tab.length zc) t.tab) := ho3
  clear hb ho3 T2 k12 HK1 HO1 HOF b0 b1 b2 b3 b4 b5 b6 bl e0 e1 e2 e3 e4 e5 e6 e7 e8 el
  go_wp2_with fail
  have U4 : StBox w3.heap.size t (.slice za t.tab.length zc) (w3.alloc (.cells #[.int .i64 t.at_, .int .i64 t.clock, .int .i64 t.v0, .int .i64 t.v1, .int .i64 t.v2, .int .i64 t.v3, .slice za t.tab.length zc] 25)) := StBox.new w3 t _ 25
  have k34 : Keeps w3 (w3.alloc (.cells #[.int .i64 t.at_, .int .i64 t.clock, .int .i64 t.v0, .int .i64 t.v1, .int .i64 t.v2, .int .i64 t.v3, .slice za t.tab.length zc] 25)) := (Keeps.refl _).alloc _
  generalize (w3.alloc (.cells #[.int .i64 t.at_, .int .i64 t.clock, .int .i64 t.v0, .int .i64 t.v1, .int .i64 t.v2, .int .i64 t.v3, .slice za t.tab.length zc] 25)) = w4 at *
  generalize w3.heap.size = UB at *
  refine (apply_begun w4).mono ?_
  rintro y w5 ⟨rfl, hb⟩
  have k35 := k34.trans hb
  have HK5 : Hid (Keeps w w5) := HK3.out.trans k35
  have T5 := HT3.out.keep k35
  have U5 := U4.keep hb
  have HO5 : Hid (TabAt w5 (.slice ya t.tab.length yc) t.tab) := HO3.out.keep k35
  have HP5 : Hid (TabAt w5 (.slice za t.tab.length zc) t.tab) := HP3.out.keep k35
  have t0 := T5.c0
  have t1 := T5.c1
  have t2 := T5.c2
  have t3 := T5.c3
  have t4 := T5.c4
  have t5 := T5.c5
  have t6 := T5.c6
  have tl := T5.lt
  have u0 := U5.c0
  have u1 := U5.c1
  have u2 := U5.c2
  have u3 := U5.c3
  have u4 := U5.c4
  have u5 := U5.c5
  have u6 := U5.c6
  have ul := U5.lt
  have HSS : Hid (sameSt t t = true) := same_self t
  clear hb k34 k35 T5 U5 U4 HT3 HO3 HP3 HK3
  go_wp2_with fail
  refine (same_of t t _ _ w5 HO5.out HP5.out).mono ?_
  rintro y w6 ⟨rfl, hb⟩
  have HK6 : Hid (Keeps w w6) := HK5.out.trans hb
  rw [HSS.out]
  clear hb t0 t1 t2 t3 t4 t5 t6 tl u0 u1 u2 u3 u4 u5 u6 ul
  go_wp2_with fail
  go_ret
  exact ⟨rfl, HK6.out⟩
end Go.Proofs.Yteabfjpajgakiab
