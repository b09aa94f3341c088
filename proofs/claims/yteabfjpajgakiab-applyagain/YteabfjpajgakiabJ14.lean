/- ApJ, ApK. -/
import Derived.Test.YteabfjpajgakiabJ03
import Derived.Test.YteabfjpajgakiabJ13
/- Applying: the machine's take, and One. -/
set_option linter.unusedSimpArgs false
set_option linter.unusedVariables false
set_option maxRecDepth 10000
namespace Go.Proofs.Yteabfjpajgakiab
open Go.RowKit

def takenSt (s : St) (e : Ent) : St := if e.kind == 1 then openedSt s e.client else if e.kind == 3 then closedSt s e.client else callSt s e
def takenAns (s : St) (e : Ent) : Int := if e.kind == 1 then openedAns s e.client else if e.kind == 3 then closedAns s e.client else callAns s e
def takenDone (s : St) (e : Ent) : Bool := if e.kind == 1 then false else if e.kind == 3 then false else callDone s e

/-- A right entry. -/
theorem ent_right {e : Ent} (h : entErr e = 0) : (1 ≤ e.kind ∧ e.kind ≤ 3) ∧ (0 ≤ e.time ∧ e.time ≤ 999) ∧ (1 ≤ e.client ∧ e.client ≤ 5) ∧ (e.kind = 2 → (1 ≤ e.seq ∧ e.seq ≤ 60) ∧ (0 ≤ e.ack ∧ e.ack ≤ e.seq - 1) ∧ opErr e.ok e.okey e.oto e.on = 0) ∧ (e.kind ≠ 2 → e.seq = 0 ∧ e.ack = 0 ∧ e.ok = 0 ∧ e.okey = 0 ∧ e.oto = 0 ∧ e.on = 0) := by
  unfold entErr at h
  split at h
  · rename_i h1
    split at h
    · rename_i h2
      simp only [entIn, Bool.and_eq_true, Bool.or_eq_true] at h2
      refine ⟨inB_iff.1 h1, inB_iff.1 h2.1, inB_iff.1 h2.2.1, ?_, ?_⟩
      · intro hk
        rw [if_pos (by simpa using hk)] at h
        rcases h2.2.2 with h3 | h3
        · simp [hk] at h3
        · exact ⟨inB_iff.1 h3.1, inB_iff.1 h3.2, h⟩
      · intro hk
        rw [if_neg (by simpa using hk)] at h
        split at h
        · rename_i h3
          simp [opNone] at h3
          exact h3
        · cases h
    · cases h
  · cases h

set_option maxHeartbeats 4000000 in
theorem take_c (s : St) (e : Ent) (b base : Nat) (x : Value) (w : World) (hB : StBox b s x w) (hO : OwnTab base w x s.tab) (hbb : b < base) (hbw : base ≤ w.heap.size) (he : tabErr s.tab = 0) (hent : entErr e = 0) :
    Calls Try.prog 40 #[macV b, entV e] w fun y w' => y = .returned (.tuple #[.int .i64 (takenAns s e), .bool (takenDone s e)]) ∧ ∃ x', StBox b (takenSt s e) x' w' ∧ OwnTab base w' x' (takenSt s e).tab ∧ But b w w' := by
  have hbl := hB.lt
  have HB : Hid (StBox b s x w) := hB
  have HT : Hid (OwnTab base w x s.tab) := hO
  have HR := (show Hid _ from ent_right hent)
  have HA : Hid (takenAns s e = if e.kind == 1 then openedAns s e.client else if e.kind == 3 then closedAns s e.client else callAns s e) := rfl
  have HD : Hid (takenDone s e = if e.kind == 1 then false else if e.kind == 3 then false else callDone s e) := rfl
  have HS : Hid (takenSt s e = if e.kind == 1 then openedSt s e.client else if e.kind == 3 then closedSt s e.client else callSt s e) := rfl
  clear hB hO
  have k1 : Keeps w ((w.alloc (.cells #[.pointer (some ⟨b, 0, none⟩)] 62)).alloc (.cells #[.int .i64 e.kind, .int .i64 e.time, .int .i64 e.client, .int .i64 e.seq, .int .i64 e.ack, .int .i64 e.ok, .int .i64 e.okey, .int .i64 e.oto, .int .i64 e.on] 33)) := ((Keeps.refl _).alloc _).alloc _
  cases q1 : (e.kind == 1) with
  | true =>
    have H1 : Hid (takenAns s e = openedAns s e.client ∧ takenDone s e = false ∧ takenSt s e = openedSt s e.client) := ⟨by rw [HA.out, q1]; rfl, by rw [HD.out, q1]; rfl, by rw [HS.out, q1]; rfl⟩
    go_enter Try.func40, Try.ntmps40
    go_wp2_with fail
    refine (open_c s b base x e.client _ (HB.out.keep k1) (HT.out.keep k1) hbb (Nat.le_trans hbw k1.size) he).mono ?_
    rintro y w1 ⟨rfl, x', B1, T1, F1⟩
    have HB1 : Hid (StBox b (openedSt s e.client) x' w1) := B1
    have HT1 : Hid (OwnTab base w1 x' (openedSt s e.client).tab) := T1
    have HF1 : Hid (But b w w1) := (But.of k1).trans F1
    clear B1 T1 F1 k1
    go_wp2_with fail
    go_ret2
    refine ⟨by rw [H1.out.1, H1.out.2.1]; rfl, ?_⟩
    rw [H1.out.2.2]
    exact ⟨x', HB1.out, HT1.out, HF1.out⟩
  | false =>
    cases q2 : (e.kind == 3) with
    | true =>
      have H1 : Hid (takenAns s e = closedAns s e.client ∧ takenDone s e = false ∧ takenSt s e = closedSt s e.client) := ⟨by rw [HA.out, q1, q2]; rfl, by rw [HD.out, q1, q2]; rfl, by rw [HS.out, q1, q2]; rfl⟩
      go_enter Try.func40, Try.ntmps40
      go_wp2_with fail
      refine (close_c s b base x e.client _ (HB.out.keep k1) (HT.out.keep k1) hbb (Nat.le_trans hbw k1.size)).mono ?_
      rintro y w1 ⟨rfl, x', B1, T1, F1⟩
      have HB1 : Hid (StBox b (closedSt s e.client) x' w1) := B1
      have HT1 : Hid (OwnTab base w1 x' (closedSt s e.client).tab) := T1
      have HF1 : Hid (But b w w1) := (But.of k1).trans F1
      clear B1 T1 F1 k1
      go_wp2_with fail
      go_ret2
      refine ⟨by rw [H1.out.1, H1.out.2.1]; rfl, ?_⟩
      rw [H1.out.2.2]
      exact ⟨x', HB1.out, HT1.out, HF1.out⟩
    | false =>
      have H1 : Hid (takenAns s e = callAns s e ∧ takenDone s e = callDone s e ∧ takenSt s e = callSt s e) := ⟨by rw [HA.out, q1, q2]; rfl, by rw [HD.out, q1, q2]; rfl, by rw [HS.out, q1, q2]; rfl⟩
      have hk2 : e.kind = 2 := by
        have := HR.out.1
        simp at q1 q2
        omega
      have hc := HR.out.2.2.2.1 hk2
      have C : Hid (Calls Try.prog 56 #[macV b, entV e] ((w.alloc (.cells #[.pointer (some ⟨b, 0, none⟩)] 62)).alloc (.cells #[.int .i64 e.kind, .int .i64 e.time, .int .i64 e.client, .int .i64 e.seq, .int .i64 e.ack, .int .i64 e.ok, .int .i64 e.okey, .int .i64 e.oto, .int .i64 e.on] 33)) fun y w' => y = .returned (.tuple #[.int .i64 (callAns s e), .bool (callDone s e)]) ∧ ∃ x', StBox b (callSt s e) x' w' ∧ OwnTab base w' x' (callSt s e).tab ∧ But b ((w.alloc (.cells #[.pointer (some ⟨b, 0, none⟩)] 62)).alloc (.cells #[.int .i64 e.kind, .int .i64 e.time, .int .i64 e.client, .int .i64 e.seq, .int .i64 e.ack, .int .i64 e.ok, .int .i64 e.okey, .int .i64 e.oto, .int .i64 e.on] 33)) w') := call_c s e b base x _ (HB.out.keep k1) (HT.out.keep k1) hbb (Nat.le_trans hbw k1.size) he hc.1.1 hc.1.2 hc.2.1.1 (by omega)
      clear hk2 hc
      go_enter Try.func40, Try.ntmps40
      go_wp2_with fail
      refine C.out.mono ?_
      rintro y w1 ⟨rfl, x', B1, T1, F1⟩
      have HB1 : Hid (StBox b (callSt s e) x' w1) := B1
      have HT1 : Hid (OwnTab base w1 x' (callSt s e).tab) := T1
      have HF1 : Hid (But b w w1) := (But.of k1).trans F1
      clear B1 T1 F1 k1 C
      go_wp2_with fail
      go_ret2
      refine ⟨by rw [H1.out.1, H1.out.2.1]; rfl, ?_⟩
      rw [H1.out.2.2]
      exact ⟨x', HB1.out, HT1.out, HF1.out⟩

def zeroSt : St := ⟨0, 0, 0, 0, 0, 0, []⟩
/-- One's answers. -/
def oneSt (s : St) (e : Ent) : St := if bothErr s e == 0 then takenSt (ticked s e.time) e else zeroSt
def oneAns (s : St) (e : Ent) : Int := if bothErr s e == 0 then takenAns (ticked s e.time) e else 0
def oneDone (s : St) (e : Ent) : Bool := if bothErr s e == 0 then takenDone (ticked s e.time) e else false

theorem both_right {s : St} {e : Ent} (h : bothErr s e = 0) : stErr s = 0 ∧ entErr e = 0 ∧ s.at_ ≠ 50 := by
  unfold bothErr at h
  split at h
  · rename_i h1
    split at h
    · rename_i h2
      split at h
      · cases h
      · rename_i h3
        exact ⟨by simpa using h1, by simpa using h2, by simpa using h3⟩
    · rename_i h2
      simp [h] at h2
  · rename_i h1
    simp [h] at h1

/-- The box of a state that has just been laid. -/
theorem StBox.new (w : World) (s : St) (x : Value) (t : TypeId) : StBox w.heap.size s x (w.alloc (.cells #[.int .i64 s.at_, .int .i64 s.clock, .int .i64 s.v0, .int .i64 s.v1, .int .i64 s.v2, .int .i64 s.v3, x] t)) :=
  ⟨by simp [go_sem], by simp [go_sem], by simp [go_sem], by simp [go_sem], by simp [go_sem], by simp [go_sem], by simp [go_sem], fun i => by simp [go_sem]⟩

set_option maxHeartbeats 4000000 in
theorem one_c (s : St) (e : Ent) (x : Value) (w : World) (hT : TabAt w x s.tab) :
    Calls Try.prog 17 #[stV s x, entV e] w fun y w' => ∃ x', OwnTab w.heap.size w' x' (oneSt s e).tab ∧ y = .returned (.tuple #[stV (oneSt s e) x', .int .i64 (oneAns s e), .bool (oneDone s e), .int .i64 (bothErr s e)]) ∧ Keeps w w' := by
  obtain ⟨xa, xc, rfl, _⟩ := hT.len
  have HT : Hid (TabAt w (.slice xa s.tab.length xc) s.tab) := hT
  clear hT
  have HS : Hid (oneSt s e = if bothErr s e == 0 then takenSt (ticked s e.time) e else zeroSt) := rfl
  have HA : Hid (oneAns s e = if bothErr s e == 0 then takenAns (ticked s e.time) e else 0) := rfl
  have HD : Hid (oneDone s e = if bothErr s e == 0 then takenDone (ticked s e.time) e else false) := rfl
  have HBR : Hid (bothErr s e = 0 → stErr s = 0 ∧ entErr e = 0 ∧ s.at_ ≠ 50) := both_right
  have HZT : Hid (zeroSt.tab = []) := rfl
  go_enter Try.func17, Try.ntmps17
  go_wp2_with fail
  obtain ⟨W1, hW1⟩ : ∃ W1, W1 = ((w.alloc (.cells #[.int .i64 s.at_, .int .i64 s.clock, .int .i64 s.v0, .int .i64 s.v1, .int .i64 s.v2, .int .i64 s.v3, .slice xa s.tab.length xc] 25)).alloc (.cells #[.int .i64 e.kind, .int .i64 e.time, .int .i64 e.client, .int .i64 e.seq, .int .i64 e.ack, .int .i64 e.ok, .int .i64 e.okey, .int .i64 e.oto, .int .i64 e.on] 33)).alloc (.cells #[.int .i64 0, .int .i64 0, .int .i64 0, .int .i64 0, .int .i64 0, .int .i64 0, .slice none 0 0] 25) := ⟨_, rfl⟩
  have k1 : Keeps w W1 := by rw [hW1]; exact (((Keeps.refl _).alloc _).alloc _).alloc _
  have B1 : StBox w.heap.size s (.slice xa s.tab.length xc) W1 := by rw [hW1]; exact (StBox.new w s _ 25).keep (((Keeps.refl _).alloc _).alloc _)
  have E1 : EntBox (w.heap.size + 1) e W1 := by
    rw [hW1]
    have := (EntBox.new (w.alloc (.cells #[.int .i64 s.at_, .int .i64 s.clock, .int .i64 s.v0, .int .i64 s.v1, .int .i64 s.v2, .int .i64 s.v3, .slice xa s.tab.length xc] 25)) e 33).keep ((Keeps.refl _).alloc (.cells #[.int .i64 0, .int .i64 0, .int .i64 0, .int .i64 0, .int .i64 0, .int .i64 0, .slice none 0 0] 25))
    simpa using this
  have Z1 : StBox (w.heap.size + 1 + 1) zeroSt (.slice none 0 0) W1 := by
    rw [hW1]
    have := StBox.new ((w.alloc (.cells #[.int .i64 s.at_, .int .i64 s.clock, .int .i64 s.v0, .int .i64 s.v1, .int .i64 s.v2, .int .i64 s.v3, .slice xa s.tab.length xc] 25)).alloc (.cells #[.int .i64 e.kind, .int .i64 e.time, .int .i64 e.client, .int .i64 e.seq, .int .i64 e.ack, .int .i64 e.ok, .int .i64 e.okey, .int .i64 e.oto, .int .i64 e.on] 33)) zeroSt (.slice none 0 0) 25
    simp only [World.size_alloc] at this
    exact this
  rw [← hW1]
  clear hW1
  refine (check_both s e _ W1 (HT.out.keep k1)).mono ?_
  rintro y w1 ⟨rfl, hb⟩
  have HK1 : Hid (Keeps w w1) := k1.trans hb
  have HB1 : Hid (StBox w.heap.size s (.slice xa s.tab.length xc) w1) := B1.keep hb
  have HE1 : Hid (EntBox (w.heap.size + 1) e w1) := E1.keep hb
  have HZ1 : Hid (StBox (w.heap.size + 1 + 1) zeroSt (.slice none 0 0) w1) := Z1.keep hb
  clear k1 B1 E1 Z1 hb
  clear W1
  cases q : (bothErr s e == 0) with
  | false =>
    have q' : (bothErr s e != 0) = true := by simp [bne, q]
    have H1 : Hid (oneSt s e = zeroSt ∧ oneAns s e = 0 ∧ oneDone s e = false) := ⟨by rw [HS.out, q]; rfl, by rw [HA.out, q]; rfl, by rw [HD.out, q]; rfl⟩
    have z0 := HZ1.out.c0
    have z1 := HZ1.out.c1
    have z2 := HZ1.out.c2
    have z3 := HZ1.out.c3
    have z4 := HZ1.out.c4
    have z5 := HZ1.out.c5
    have z6 := HZ1.out.c6
    have zf := HZ1.out.fz
    have zl := HZ1.out.lt
    have hk1 := HK1.out
    go_wp2_with fail
    refine bodyPost_ret (v := .tuple #[stV zeroSt (.slice none 0 0), .int .i64 0, .bool false, .int .i64 (bothErr s e)]) ?_ rfl ?_
    · simp [results, Try.results17, go_sem, zeroSt, z0, z1, z2, z3, z4, z5, z6]
    · rw [H1.out.1, H1.out.2.1, H1.out.2.2]
      refine ⟨.slice none 0 0, ?_, rfl, ?_⟩
      · rw [HZT.out]
        exact OwnTab.nil _ _
      · repeat refine Keeps.set ?_ (by simp <;> omega) _
        exact hk1
  | true =>
    have q' : (bothErr s e != 0) = false := by simp [bne, q]
    have H1 : Hid (oneSt s e = takenSt (ticked s e.time) e ∧ oneAns s e = takenAns (ticked s e.time) e ∧ oneDone s e = takenDone (ticked s e.time) e ∧ bothErr s e = 0) := ⟨by rw [HS.out, q]; rfl, by rw [HA.out, q]; rfl, by rw [HD.out, q]; rfl, by simpa using q⟩
    have hright := HBR.out (by simpa using q)
    have HST : Hid (stErr s = 0) := hright.1
    have HET : Hid (entErr e = 0) := hright.2.1
    have et := (ent_right hright.2.1).2.1
    obtain ⟨et0, et1⟩ := et
    have HTE : Hid (tabErr (ticked s e.time).tab = 0) := fresh_right (stErr_in hright.1).2.1
    have e1 := HE1.out.c1
    have hEl := HE1.out.lt
    have hBl := HB1.out.lt
    have hZl := HZ1.out.lt
    clear hright
    go_wp2_with fail
    have k12 : Keeps w1 (w1.alloc (.cells #[.pointer (some ⟨w.heap.size, 0, none⟩)] 62)) := (Keeps.refl _).alloc _
    have m2 : (w1.alloc (.cells #[.pointer (some ⟨w.heap.size, 0, none⟩)] 62)).cell? ⟨w1.heap.size, 0, none⟩ = some (.pointer (some ⟨w.heap.size, 0, none⟩)) := by simp [go_sem]
    generalize hMB : w1.heap.size = MB at *
    generalize (w1.alloc (.cells #[.pointer (some ⟨w.heap.size, 0, none⟩)] 62)) = w2 at *
    have hz12 := k12.size
    rw [hMB] at hz12
    refine (tick_c s w.heap.size _ e.time w2 (HB1.out.keep k12) (HT.out.far (HK1.out.trans k12) (Nat.le_refl _)) HST.out et0 et1).mono ?_
    rintro y w3 ⟨rfl, x3, B3, O3, F3⟩
    obtain ⟨ya, yc, rfl, _⟩ := O3.tab.len
    have E3 := (HE1.out.keep k12).but F3 (by omega)
    have Z3 := (HZ1.out.keep k12).other F3 (by omega)
    have m3 : w3.cell? ⟨MB, 0, none⟩ = some (.pointer (some ⟨w.heap.size, 0, none⟩)) := F3.at m2 (by simp; omega)
    have K3 : Keeps w w3 := But.to (HK1.out.trans k12) (Nat.le_refl _) F3
    have hz23 := F3.size
    have HB3 : Hid (StBox w.heap.size (ticked s e.time) (.slice ya (ticked s e.time).tab.length yc) w3) := B3
    have HO3 : Hid (OwnTab w2.heap.size w3 (.slice ya (ticked s e.time).tab.length yc) (ticked s e.time).tab) := O3
    have HE3 : Hid (EntBox (w.heap.size + 1) e w3) := E3
    have HZ3 : Hid (StBox (w.heap.size + 1 + 1) zeroSt (.slice none 0 0) w3) := Z3
    have HK3 : Hid (Keeps w w3) := K3
    have x0 := E3.c0
    have x1 := E3.c1
    have x2 := E3.c2
    have x3 := E3.c3
    have x4 := E3.c4
    have x5 := E3.c5
    have x6 := E3.c6
    have x7 := E3.c7
    have x8 := E3.c8
    have hEl := E3.lt
    have hMl := World.block_lt_of_cell? _ _ m3
    simp only [] at hMl
    clear B3 O3 E3 Z3 F3 K3 k12 m2 HB1 HE1 HZ1 HK1 e1
    generalize ticked s e.time = ts at *
    go_wp2_with fail
    refine (take_c ts e w.heap.size w2.heap.size _ w3 HB3.out HO3.out (by omega) (by omega) HTE.out HET.out).mono ?_
    rintro y w4 ⟨rfl, x4, B4, O4, F4⟩
    obtain ⟨za, zc, rfl, _⟩ := O4.tab.len
    have Z4 := HZ3.out.other F4 (by omega)
    have K4 : Keeps w w4 := But.to HK3.out (Nat.le_refl _) F4
    have HO4 : Hid (OwnTab w2.heap.size w4 (.slice za (takenSt ts e).tab.length zc) (takenSt ts e).tab) := O4
    have c0 := B4.c0
    have c1 := B4.c1
    have c2 := B4.c2
    have c3 := B4.c3
    have c4 := B4.c4
    have c5 := B4.c5
    have c6 := B4.c6
    have cl := B4.lt
    have z0 := Z4.c0
    have z1 := Z4.c1
    have z2 := Z4.c2
    have z3 := Z4.c3
    have z4 := Z4.c4
    have z5 := Z4.c5
    have z6 := Z4.c6
    have zf := Z4.fz
    have zl := Z4.lt
    have HK4 : Hid (Keeps w w4) := K4
    clear B4 O4 F4 Z4 K4 HB3 HO3 HE3 HZ3 HK3 x0 x1 x2 x3 x4 x5 x6 x7 x8 m3 hEl hMl
    generalize takenSt ts e = us at *
    generalize takenAns ts e = ua at *
    generalize takenDone ts e = ud at *
    generalize hul : us.tab.length = ul at *
    go_wp2_with fail
    refine bodyPost_ret (v := .tuple #[stV us (.slice za ul zc), .int .i64 ua, .bool ud, .int .i64 0]) ?_ rfl ?_
    · simp [results, Try.results17, go_sem, z0, z1, z2, z3, z4, z5, z6]
    · rw [H1.out.1, H1.out.2.1, H1.out.2.2.1, H1.out.2.2.2]
      refine ⟨.slice za ul zc, ?_, rfl, ?_⟩
      · exact (HO4.out.but (b := w.heap.size + 1 + 1) (by omega) ((((((((But.refl _ _).set 0 _).set 1 _).set 2 _).set 3 _).set 4 _).set 5 _).set 6 _)).base (by omega)
      · repeat refine Keeps.set ?_ (by simp <;> omega) _
        exact HK4.out
end Go.Proofs.Yteabfjpajgakiab

/- What the laws make entries of; applyBegun. Written by tools/genApK.py. -/
set_option linter.unusedSimpArgs false
set_option linter.unusedVariables false
set_option maxRecDepth 10000
namespace Go.Proofs.Yteabfjpajgakiab
open Go.RowKit

theorem add_c (n : Int) (w : World) : Calls Try.prog 33 #[.int .i64 n] w fun y w' => y = .returned (.agg #[.int .i64 2, .int .i64 0, .int .i64 0, .int .i64 n]) ∧ Keeps w w' := by
  go_enter Try.func33, Try.ntmps33
  go_wp2_with fail
  refine bodyPost_ret (v := .agg #[.int .i64 2, .int .i64 0, .int .i64 0, .int .i64 n]) ?_ rfl ?_
  · simp [results, Try.results33, go_sem]
  · exact ⟨rfl, (Keeps.refl _).alloc _⟩

theorem mkcall_c (t c q a k key tk n : Int) (w : World) : Calls Try.prog 32 #[.int .i64 t, .int .i64 c, .int .i64 q, .int .i64 a, .agg #[.int .i64 k, .int .i64 key, .int .i64 tk, .int .i64 n]] w fun y w' => y = .returned (entV ⟨2, t, c, q, a, k, key, tk, n⟩) ∧ Keeps w w' := by
  go_enter Try.func32, Try.ntmps32
  go_wp2_with fail
  refine bodyPost_ret (v := entV ⟨2, t, c, q, a, k, key, tk, n⟩) ?_ rfl ?_
  · simp [results, Try.results32, go_sem]
  · exact ⟨rfl, ((Keeps.refl _).alloc _).alloc _⟩

theorem mkopen_c (t c : Int) (w : World) : Calls Try.prog 34 #[.int .i64 t, .int .i64 c] w fun y w' => y = .returned (entV ⟨1, t, c, 0, 0, 0, 0, 0, 0⟩) ∧ Keeps w w' := by
  go_enter Try.func34, Try.ntmps34
  go_wp2_with fail
  refine bodyPost_ret (v := entV ⟨1, t, c, 0, 0, 0, 0, 0, 0⟩) ?_ rfl ?_
  · simp [results, Try.results34, go_sem]
  · exact ⟨rfl, (Keeps.refl _).alloc _⟩

/-- One, of a state and an entry that are known. -/
theorem one_at (s t : St) (e : Ent) (n : Int) (d : Bool) (er : Int) (h : oneSt s e = t ∧ oneAns s e = n ∧ oneDone s e = d ∧ bothErr s e = er) (x : Value) (w : World) (hT : TabAt w x s.tab) :
    Calls Try.prog 17 #[stV s x, entV e] w fun y w' => ∃ xa xc, y = .returned (.tuple #[stV t (.slice xa t.tab.length xc), .int .i64 n, .bool d, .int .i64 er]) ∧ OwnTab w.heap.size w' (.slice xa t.tab.length xc) t.tab ∧ Keeps w w' := by
  obtain ⟨rfl, rfl, rfl, rfl⟩ := h
  refine (one_c s e x w hT).mono ?_
  rintro y w' ⟨x', ho, rfl, hb⟩
  obtain ⟨xa, xc, rfl, _⟩ := ho.tab.len
  exact ⟨xa, xc, rfl, ho, hb⟩
/-- .. where the state then is not looked at. -/
theorem one_to (s : St) (e : Ent) (n : Int) (d : Bool) (er : Int) (h : oneAns s e = n ∧ oneDone s e = d ∧ bothErr s e = er) (x : Value) (w : World) (hT : TabAt w x s.tab) :
    Calls Try.prog 17 #[stV s x, entV e] w fun y w' => ∃ (t : St) (xa : Option Addr) (xn xc : Nat), y = .returned (.tuple #[.agg #[.int .i64 t.at_, .int .i64 t.clock, .int .i64 t.v0, .int .i64 t.v1, .int .i64 t.v2, .int .i64 t.v3, .slice xa xn xc], .int .i64 n, .bool d, .int .i64 er]) ∧ Keeps w w' := by
  refine (one_at s _ e n d er ⟨rfl, h⟩ x w hT).mono ?_
  rintro y w' ⟨xa, xc, rfl, _, hb⟩
  exact ⟨_, xa, _, xc, rfl, hb⟩

abbrev begA : St := ⟨7, 11, 10, 0, 0, 1, [⟨2, 2, 11, [(3, 7), (4, 10), (5, -1)]⟩, rowS 4]⟩
abbrev begB : St := ⟨7, 11, 10, 0, 0, 1, [⟨2, 4, 11, [(5, -1), (6, 10)]⟩, rowS 4]⟩
abbrev begC : St := ⟨7, 30, 7, 0, 0, 1, [⟨1, 0, 30, []⟩]⟩

set_option maxHeartbeats 8000000 in
theorem apply_begun (w : World) : Calls Try.prog 14 #[] w fun e w' => e = .returned (.bool true) ∧ Keeps w w' := by
  go_enter Try.func14, Try.ntmps14
  go_wp2_with fail
  refine (shop_c _).mono ?_
  rintro e w1 ⟨b0, _, _, _, _, _, hs, -, rfl, hb⟩
  have T : Hid (TabAt w1 (.slice (some ⟨b0, 0, none⟩) 2 2) shopS.tab) := hs.tab
  have HK : Hid (Keeps w w1) := hb
  clear hs hb
  go_wp2_with fail
  refine (add_c _ _).mono ?_
  rintro e w2 ⟨rfl, hb⟩
  replace HK : Hid (Keeps w w2) := HK.out.trans hb
  replace T : Hid (TabAt w2 (.slice (some ⟨b0, 0, none⟩) 2 2) shopS.tab) := T.out.keep hb
  clear hb
  go_wp2_with fail
  refine (mkcall_c _ _ _ _ _ _ _ _ _).mono ?_
  rintro e w3 ⟨rfl, hb⟩
  replace HK : Hid (Keeps w w3) := HK.out.trans hb
  replace T : Hid (TabAt w3 (.slice (some ⟨b0, 0, none⟩) 2 2) shopS.tab) := T.out.keep hb
  clear hb
  go_wp2_with fail
  refine (one_at shopS begA ⟨2, 11, 2, 4, 2, 2, 0, 0, 3⟩ (10) true 0 ⟨by kernel_rfl, by decide +kernel⟩ _ _ T.out).mono ?_
  rintro e w4 ⟨xabegA, xcbegA, rfl, ho, hb⟩
  have ObegA : Hid (TabAt w4 (.slice xabegA begA.tab.length xcbegA) begA.tab) := ho.tab
  clear ho
  replace HK : Hid (Keeps w w4) := HK.out.trans hb
  clear hb T
  go_wp2_with fail
  refine (shop_c _).mono ?_
  rintro e w5 ⟨b1, _, _, _, _, _, hs, -, rfl, hb⟩
  have T : Hid (TabAt w5 (.slice (some ⟨b1, 0, none⟩) 2 2) shopS.tab) := hs.tab
  replace HK : Hid (Keeps w w5) := (HK.out.alloc _).trans hb
  have HbegA : Hid (StBox w4.heap.size begA (.slice xabegA begA.tab.length xcbegA) w5 ∧ TabAt w5 (.slice xabegA begA.tab.length xcbegA) begA.tab) := ⟨(StBox.new w4 begA _ 25).keep hb, ObegA.out.keep (((Keeps.refl _).alloc _).trans hb)⟩
  clear ObegA
  generalize w4.heap.size = pbegA at *
  clear hs hb
  go_wp2_with fail
  refine (add_c _ _).mono ?_
  rintro e w6 ⟨rfl, hb⟩
  replace HbegA : Hid (StBox pbegA begA (.slice xabegA begA.tab.length xcbegA) w6 ∧ TabAt w6 (.slice xabegA begA.tab.length xcbegA) begA.tab) := ⟨HbegA.out.1.keep hb, HbegA.out.2.keep hb⟩
  replace HK : Hid (Keeps w w6) := HK.out.trans hb
  replace T : Hid (TabAt w6 (.slice (some ⟨b1, 0, none⟩) 2 2) shopS.tab) := T.out.keep hb
  clear hb
  go_wp2_with fail
  refine (mkcall_c _ _ _ _ _ _ _ _ _).mono ?_
  rintro e w7 ⟨rfl, hb⟩
  replace HbegA : Hid (StBox pbegA begA (.slice xabegA begA.tab.length xcbegA) w7 ∧ TabAt w7 (.slice xabegA begA.tab.length xcbegA) begA.tab) := ⟨HbegA.out.1.keep hb, HbegA.out.2.keep hb⟩
  replace HK : Hid (Keeps w w7) := HK.out.trans hb
  replace T : Hid (TabAt w7 (.slice (some ⟨b1, 0, none⟩) 2 2) shopS.tab) := T.out.keep hb
  clear hb
  go_wp2_with fail
  refine (one_to shopS ⟨2, 11, 2, 3, 2, 2, 0, 0, 3⟩ (7) false 0 (by decide +kernel) _ _ T.out).mono ?_
  rintro e w8 ⟨t1, xa1, xn1, xc1, rfl, hb⟩
  replace HbegA : Hid (StBox pbegA begA (.slice xabegA begA.tab.length xcbegA) w8 ∧ TabAt w8 (.slice xabegA begA.tab.length xcbegA) begA.tab) := ⟨HbegA.out.1.keep hb, HbegA.out.2.keep hb⟩
  replace HK : Hid (Keeps w w8) := HK.out.trans hb
  clear hb T
  go_wp2_with fail
  refine (shop_c _).mono ?_
  rintro e w9 ⟨b2, _, _, _, _, _, hs, -, rfl, hb⟩
  have T : Hid (TabAt w9 (.slice (some ⟨b2, 0, none⟩) 2 2) shopS.tab) := hs.tab
  replace HbegA : Hid (StBox pbegA begA (.slice xabegA begA.tab.length xcbegA) w9 ∧ TabAt w9 (.slice xabegA begA.tab.length xcbegA) begA.tab) := ⟨HbegA.out.1.keep (((Keeps.refl _).alloc _).trans hb), HbegA.out.2.keep (((Keeps.refl _).alloc _).trans hb)⟩
  replace HK : Hid (Keeps w w9) := (HK.out.alloc _).trans hb
  clear hs hb
  go_wp2_with fail
  refine (add_c _ _).mono ?_
  rintro e w10 ⟨rfl, hb⟩
  replace HbegA : Hid (StBox pbegA begA (.slice xabegA begA.tab.length xcbegA) w10 ∧ TabAt w10 (.slice xabegA begA.tab.length xcbegA) begA.tab) := ⟨HbegA.out.1.keep hb, HbegA.out.2.keep hb⟩
  replace HK : Hid (Keeps w w10) := HK.out.trans hb
  replace T : Hid (TabAt w10 (.slice (some ⟨b2, 0, none⟩) 2 2) shopS.tab) := T.out.keep hb
  clear hb
  go_wp2_with fail
  refine (mkcall_c _ _ _ _ _ _ _ _ _).mono ?_
  rintro e w11 ⟨rfl, hb⟩
  replace HbegA : Hid (StBox pbegA begA (.slice xabegA begA.tab.length xcbegA) w11 ∧ TabAt w11 (.slice xabegA begA.tab.length xcbegA) begA.tab) := ⟨HbegA.out.1.keep hb, HbegA.out.2.keep hb⟩
  replace HK : Hid (Keeps w w11) := HK.out.trans hb
  replace T : Hid (TabAt w11 (.slice (some ⟨b2, 0, none⟩) 2 2) shopS.tab) := T.out.keep hb
  clear hb
  go_wp2_with fail
  refine (one_at shopS begB ⟨2, 11, 2, 6, 4, 2, 0, 0, 3⟩ (10) true 0 ⟨by kernel_rfl, by decide +kernel⟩ _ _ T.out).mono ?_
  rintro e w12 ⟨xabegB, xcbegB, rfl, ho, hb⟩
  have ObegB : Hid (TabAt w12 (.slice xabegB begB.tab.length xcbegB) begB.tab) := ho.tab
  clear ho
  replace HbegA : Hid (StBox pbegA begA (.slice xabegA begA.tab.length xcbegA) w12 ∧ TabAt w12 (.slice xabegA begA.tab.length xcbegA) begA.tab) := ⟨HbegA.out.1.keep hb, HbegA.out.2.keep hb⟩
  replace HK : Hid (Keeps w w12) := HK.out.trans hb
  clear hb T
  go_wp2_with fail
  refine (shop_c _).mono ?_
  rintro e w13 ⟨b3, _, _, _, _, _, hs, -, rfl, hb⟩
  have T : Hid (TabAt w13 (.slice (some ⟨b3, 0, none⟩) 2 2) shopS.tab) := hs.tab
  replace HbegA : Hid (StBox pbegA begA (.slice xabegA begA.tab.length xcbegA) w13 ∧ TabAt w13 (.slice xabegA begA.tab.length xcbegA) begA.tab) := ⟨HbegA.out.1.keep (((Keeps.refl _).alloc _).trans hb), HbegA.out.2.keep (((Keeps.refl _).alloc _).trans hb)⟩
  replace HK : Hid (Keeps w w13) := (HK.out.alloc _).trans hb
  have HbegB : Hid (StBox w12.heap.size begB (.slice xabegB begB.tab.length xcbegB) w13 ∧ TabAt w13 (.slice xabegB begB.tab.length xcbegB) begB.tab) := ⟨(StBox.new w12 begB _ 25).keep hb, ObegB.out.keep (((Keeps.refl _).alloc _).trans hb)⟩
  clear ObegB
  generalize w12.heap.size = pbegB at *
  clear hs hb
  go_wp2_with fail
  refine (add_c _ _).mono ?_
  rintro e w14 ⟨rfl, hb⟩
  replace HbegA : Hid (StBox pbegA begA (.slice xabegA begA.tab.length xcbegA) w14 ∧ TabAt w14 (.slice xabegA begA.tab.length xcbegA) begA.tab) := ⟨HbegA.out.1.keep hb, HbegA.out.2.keep hb⟩
  replace HbegB : Hid (StBox pbegB begB (.slice xabegB begB.tab.length xcbegB) w14 ∧ TabAt w14 (.slice xabegB begB.tab.length xcbegB) begB.tab) := ⟨HbegB.out.1.keep hb, HbegB.out.2.keep hb⟩
  replace HK : Hid (Keeps w w14) := HK.out.trans hb
  replace T : Hid (TabAt w14 (.slice (some ⟨b3, 0, none⟩) 2 2) shopS.tab) := T.out.keep hb
  clear hb
  go_wp2_with fail
  refine (mkcall_c _ _ _ _ _ _ _ _ _).mono ?_
  rintro e w15 ⟨rfl, hb⟩
  replace HbegA : Hid (StBox pbegA begA (.slice xabegA begA.tab.length xcbegA) w15 ∧ TabAt w15 (.slice xabegA begA.tab.length xcbegA) begA.tab) := ⟨HbegA.out.1.keep hb, HbegA.out.2.keep hb⟩
  replace HbegB : Hid (StBox pbegB begB (.slice xabegB begB.tab.length xcbegB) w15 ∧ TabAt w15 (.slice xabegB begB.tab.length xcbegB) begB.tab) := ⟨HbegB.out.1.keep hb, HbegB.out.2.keep hb⟩
  replace HK : Hid (Keeps w w15) := HK.out.trans hb
  replace T : Hid (TabAt w15 (.slice (some ⟨b3, 0, none⟩) 2 2) shopS.tab) := T.out.keep hb
  clear hb
  go_wp2_with fail
  refine (one_to shopS ⟨2, 11, 2, 2, 0, 2, 0, 0, 3⟩ (-4) false 0 (by decide +kernel) _ _ T.out).mono ?_
  rintro e w16 ⟨t3, xa3, xn3, xc3, rfl, hb⟩
  replace HbegA : Hid (StBox pbegA begA (.slice xabegA begA.tab.length xcbegA) w16 ∧ TabAt w16 (.slice xabegA begA.tab.length xcbegA) begA.tab) := ⟨HbegA.out.1.keep hb, HbegA.out.2.keep hb⟩
  replace HbegB : Hid (StBox pbegB begB (.slice xabegB begB.tab.length xcbegB) w16 ∧ TabAt w16 (.slice xabegB begB.tab.length xcbegB) begB.tab) := ⟨HbegB.out.1.keep hb, HbegB.out.2.keep hb⟩
  replace HK : Hid (Keeps w w16) := HK.out.trans hb
  clear hb T
  go_wp2_with fail
  refine (shop_c _).mono ?_
  rintro e w17 ⟨b4, _, _, _, _, _, hs, -, rfl, hb⟩
  have T : Hid (TabAt w17 (.slice (some ⟨b4, 0, none⟩) 2 2) shopS.tab) := hs.tab
  replace HbegA : Hid (StBox pbegA begA (.slice xabegA begA.tab.length xcbegA) w17 ∧ TabAt w17 (.slice xabegA begA.tab.length xcbegA) begA.tab) := ⟨HbegA.out.1.keep (((Keeps.refl _).alloc _).trans hb), HbegA.out.2.keep (((Keeps.refl _).alloc _).trans hb)⟩
  replace HbegB : Hid (StBox pbegB begB (.slice xabegB begB.tab.length xcbegB) w17 ∧ TabAt w17 (.slice xabegB begB.tab.length xcbegB) begB.tab) := ⟨HbegB.out.1.keep (((Keeps.refl _).alloc _).trans hb), HbegB.out.2.keep (((Keeps.refl _).alloc _).trans hb)⟩
  replace HK : Hid (Keeps w w17) := (HK.out.alloc _).trans hb
  clear hs hb
  go_wp2_with fail
  refine (add_c _ _).mono ?_
  rintro e w18 ⟨rfl, hb⟩
  replace HbegA : Hid (StBox pbegA begA (.slice xabegA begA.tab.length xcbegA) w18 ∧ TabAt w18 (.slice xabegA begA.tab.length xcbegA) begA.tab) := ⟨HbegA.out.1.keep hb, HbegA.out.2.keep hb⟩
  replace HbegB : Hid (StBox pbegB begB (.slice xabegB begB.tab.length xcbegB) w18 ∧ TabAt w18 (.slice xabegB begB.tab.length xcbegB) begB.tab) := ⟨HbegB.out.1.keep hb, HbegB.out.2.keep hb⟩
  replace HK : Hid (Keeps w w18) := HK.out.trans hb
  replace T : Hid (TabAt w18 (.slice (some ⟨b4, 0, none⟩) 2 2) shopS.tab) := T.out.keep hb
  clear hb
  go_wp2_with fail
  refine (mkcall_c _ _ _ _ _ _ _ _ _).mono ?_
  rintro e w19 ⟨rfl, hb⟩
  replace HbegA : Hid (StBox pbegA begA (.slice xabegA begA.tab.length xcbegA) w19 ∧ TabAt w19 (.slice xabegA begA.tab.length xcbegA) begA.tab) := ⟨HbegA.out.1.keep hb, HbegA.out.2.keep hb⟩
  replace HbegB : Hid (StBox pbegB begB (.slice xabegB begB.tab.length xcbegB) w19 ∧ TabAt w19 (.slice xabegB begB.tab.length xcbegB) begB.tab) := ⟨HbegB.out.1.keep hb, HbegB.out.2.keep hb⟩
  replace HK : Hid (Keeps w w19) := HK.out.trans hb
  replace T : Hid (TabAt w19 (.slice (some ⟨b4, 0, none⟩) 2 2) shopS.tab) := T.out.keep hb
  clear hb
  go_wp2_with fail
  refine (one_to shopS ⟨2, 11, 2, 6, 2, 2, 0, 0, 3⟩ (-5) false 0 (by decide +kernel) _ _ T.out).mono ?_
  rintro e w20 ⟨t4, xa4, xn4, xc4, rfl, hb⟩
  replace HbegA : Hid (StBox pbegA begA (.slice xabegA begA.tab.length xcbegA) w20 ∧ TabAt w20 (.slice xabegA begA.tab.length xcbegA) begA.tab) := ⟨HbegA.out.1.keep hb, HbegA.out.2.keep hb⟩
  replace HbegB : Hid (StBox pbegB begB (.slice xabegB begB.tab.length xcbegB) w20 ∧ TabAt w20 (.slice xabegB begB.tab.length xcbegB) begB.tab) := ⟨HbegB.out.1.keep hb, HbegB.out.2.keep hb⟩
  replace HK : Hid (Keeps w w20) := HK.out.trans hb
  clear hb T
  go_wp2_with fail
  refine (shop_c _).mono ?_
  rintro e w21 ⟨b5, _, _, _, _, _, hs, -, rfl, hb⟩
  have T : Hid (TabAt w21 (.slice (some ⟨b5, 0, none⟩) 2 2) shopS.tab) := hs.tab
  replace HbegA : Hid (StBox pbegA begA (.slice xabegA begA.tab.length xcbegA) w21 ∧ TabAt w21 (.slice xabegA begA.tab.length xcbegA) begA.tab) := ⟨HbegA.out.1.keep (((Keeps.refl _).alloc _).trans hb), HbegA.out.2.keep (((Keeps.refl _).alloc _).trans hb)⟩
  replace HbegB : Hid (StBox pbegB begB (.slice xabegB begB.tab.length xcbegB) w21 ∧ TabAt w21 (.slice xabegB begB.tab.length xcbegB) begB.tab) := ⟨HbegB.out.1.keep (((Keeps.refl _).alloc _).trans hb), HbegB.out.2.keep (((Keeps.refl _).alloc _).trans hb)⟩
  replace HK : Hid (Keeps w w21) := (HK.out.alloc _).trans hb
  clear hs hb
  go_wp2_with fail
  refine (add_c _ _).mono ?_
  rintro e w22 ⟨rfl, hb⟩
  replace HbegA : Hid (StBox pbegA begA (.slice xabegA begA.tab.length xcbegA) w22 ∧ TabAt w22 (.slice xabegA begA.tab.length xcbegA) begA.tab) := ⟨HbegA.out.1.keep hb, HbegA.out.2.keep hb⟩
  replace HbegB : Hid (StBox pbegB begB (.slice xabegB begB.tab.length xcbegB) w22 ∧ TabAt w22 (.slice xabegB begB.tab.length xcbegB) begB.tab) := ⟨HbegB.out.1.keep hb, HbegB.out.2.keep hb⟩
  replace HK : Hid (Keeps w w22) := HK.out.trans hb
  replace T : Hid (TabAt w22 (.slice (some ⟨b5, 0, none⟩) 2 2) shopS.tab) := T.out.keep hb
  clear hb
  go_wp2_with fail
  refine (mkcall_c _ _ _ _ _ _ _ _ _).mono ?_
  rintro e w23 ⟨rfl, hb⟩
  replace HbegA : Hid (StBox pbegA begA (.slice xabegA begA.tab.length xcbegA) w23 ∧ TabAt w23 (.slice xabegA begA.tab.length xcbegA) begA.tab) := ⟨HbegA.out.1.keep hb, HbegA.out.2.keep hb⟩
  replace HbegB : Hid (StBox pbegB begB (.slice xabegB begB.tab.length xcbegB) w23 ∧ TabAt w23 (.slice xabegB begB.tab.length xcbegB) begB.tab) := ⟨HbegB.out.1.keep hb, HbegB.out.2.keep hb⟩
  replace HK : Hid (Keeps w w23) := HK.out.trans hb
  replace T : Hid (TabAt w23 (.slice (some ⟨b5, 0, none⟩) 2 2) shopS.tab) := T.out.keep hb
  clear hb
  go_wp2_with fail
  refine (one_to shopS ⟨2, 30, 2, 4, 2, 2, 0, 0, 3⟩ (-3) false 0 (by decide +kernel) _ _ T.out).mono ?_
  rintro e w24 ⟨t5, xa5, xn5, xc5, rfl, hb⟩
  replace HbegA : Hid (StBox pbegA begA (.slice xabegA begA.tab.length xcbegA) w24 ∧ TabAt w24 (.slice xabegA begA.tab.length xcbegA) begA.tab) := ⟨HbegA.out.1.keep hb, HbegA.out.2.keep hb⟩
  replace HbegB : Hid (StBox pbegB begB (.slice xabegB begB.tab.length xcbegB) w24 ∧ TabAt w24 (.slice xabegB begB.tab.length xcbegB) begB.tab) := ⟨HbegB.out.1.keep hb, HbegB.out.2.keep hb⟩
  replace HK : Hid (Keeps w w24) := HK.out.trans hb
  clear hb T
  go_wp2_with fail
  refine (shop_c _).mono ?_
  rintro e w25 ⟨b6, _, _, _, _, _, hs, -, rfl, hb⟩
  have T : Hid (TabAt w25 (.slice (some ⟨b6, 0, none⟩) 2 2) shopS.tab) := hs.tab
  replace HbegA : Hid (StBox pbegA begA (.slice xabegA begA.tab.length xcbegA) w25 ∧ TabAt w25 (.slice xabegA begA.tab.length xcbegA) begA.tab) := ⟨HbegA.out.1.keep (((Keeps.refl _).alloc _).trans hb), HbegA.out.2.keep (((Keeps.refl _).alloc _).trans hb)⟩
  replace HbegB : Hid (StBox pbegB begB (.slice xabegB begB.tab.length xcbegB) w25 ∧ TabAt w25 (.slice xabegB begB.tab.length xcbegB) begB.tab) := ⟨HbegB.out.1.keep (((Keeps.refl _).alloc _).trans hb), HbegB.out.2.keep (((Keeps.refl _).alloc _).trans hb)⟩
  replace HK : Hid (Keeps w w25) := (HK.out.alloc _).trans hb
  clear hs hb
  go_wp2_with fail
  refine (mkopen_c _ _ _).mono ?_
  rintro e w26 ⟨rfl, hb⟩
  replace HbegA : Hid (StBox pbegA begA (.slice xabegA begA.tab.length xcbegA) w26 ∧ TabAt w26 (.slice xabegA begA.tab.length xcbegA) begA.tab) := ⟨HbegA.out.1.keep hb, HbegA.out.2.keep hb⟩
  replace HbegB : Hid (StBox pbegB begB (.slice xabegB begB.tab.length xcbegB) w26 ∧ TabAt w26 (.slice xabegB begB.tab.length xcbegB) begB.tab) := ⟨HbegB.out.1.keep hb, HbegB.out.2.keep hb⟩
  replace HK : Hid (Keeps w w26) := HK.out.trans hb
  replace T : Hid (TabAt w26 (.slice (some ⟨b6, 0, none⟩) 2 2) shopS.tab) := T.out.keep hb
  clear hb
  go_wp2_with fail
  refine (one_at shopS begC ⟨1, 30, 1, 0, 0, 0, 0, 0, 0⟩ (0) false 0 ⟨by kernel_rfl, by decide +kernel⟩ _ _ T.out).mono ?_
  rintro e w27 ⟨xabegC, xcbegC, rfl, ho, hb⟩
  have ObegC : Hid (TabAt w27 (.slice xabegC begC.tab.length xcbegC) begC.tab) := ho.tab
  clear ho
  replace HbegA : Hid (StBox pbegA begA (.slice xabegA begA.tab.length xcbegA) w27 ∧ TabAt w27 (.slice xabegA begA.tab.length xcbegA) begA.tab) := ⟨HbegA.out.1.keep hb, HbegA.out.2.keep hb⟩
  replace HbegB : Hid (StBox pbegB begB (.slice xabegB begB.tab.length xcbegB) w27 ∧ TabAt w27 (.slice xabegB begB.tab.length xcbegB) begB.tab) := ⟨HbegB.out.1.keep hb, HbegB.out.2.keep hb⟩
  replace HK : Hid (Keeps w w27) := HK.out.trans hb
  clear hb T
  go_wp2_with fail
  refine (shop_c _).mono ?_
  rintro e w28 ⟨b7, _, _, _, _, _, hs, -, rfl, hb⟩
  have T : Hid (TabAt w28 (.slice (some ⟨b7, 0, none⟩) 2 2) shopS.tab) := hs.tab
  replace HbegA : Hid (StBox pbegA begA (.slice xabegA begA.tab.length xcbegA) w28 ∧ TabAt w28 (.slice xabegA begA.tab.length xcbegA) begA.tab) := ⟨HbegA.out.1.keep (((Keeps.refl _).alloc _).trans hb), HbegA.out.2.keep (((Keeps.refl _).alloc _).trans hb)⟩
  replace HbegB : Hid (StBox pbegB begB (.slice xabegB begB.tab.length xcbegB) w28 ∧ TabAt w28 (.slice xabegB begB.tab.length xcbegB) begB.tab) := ⟨HbegB.out.1.keep (((Keeps.refl _).alloc _).trans hb), HbegB.out.2.keep (((Keeps.refl _).alloc _).trans hb)⟩
  replace HK : Hid (Keeps w w28) := (HK.out.alloc _).trans hb
  have HbegC : Hid (StBox w27.heap.size begC (.slice xabegC begC.tab.length xcbegC) w28 ∧ TabAt w28 (.slice xabegC begC.tab.length xcbegC) begC.tab) := ⟨(StBox.new w27 begC _ 25).keep hb, ObegC.out.keep (((Keeps.refl _).alloc _).trans hb)⟩
  clear ObegC
  generalize w27.heap.size = pbegC at *
  clear hs hb
  go_wp2_with fail
  refine (add_c _ _).mono ?_
  rintro e w29 ⟨rfl, hb⟩
  replace HbegA : Hid (StBox pbegA begA (.slice xabegA begA.tab.length xcbegA) w29 ∧ TabAt w29 (.slice xabegA begA.tab.length xcbegA) begA.tab) := ⟨HbegA.out.1.keep hb, HbegA.out.2.keep hb⟩
  replace HbegB : Hid (StBox pbegB begB (.slice xabegB begB.tab.length xcbegB) w29 ∧ TabAt w29 (.slice xabegB begB.tab.length xcbegB) begB.tab) := ⟨HbegB.out.1.keep hb, HbegB.out.2.keep hb⟩
  replace HbegC : Hid (StBox pbegC begC (.slice xabegC begC.tab.length xcbegC) w29 ∧ TabAt w29 (.slice xabegC begC.tab.length xcbegC) begC.tab) := ⟨HbegC.out.1.keep hb, HbegC.out.2.keep hb⟩
  replace HK : Hid (Keeps w w29) := HK.out.trans hb
  replace T : Hid (TabAt w29 (.slice (some ⟨b7, 0, none⟩) 2 2) shopS.tab) := T.out.keep hb
  clear hb
  go_wp2_with fail
  refine (mkcall_c _ _ _ _ _ _ _ _ _).mono ?_
  rintro e w30 ⟨rfl, hb⟩
  replace HbegA : Hid (StBox pbegA begA (.slice xabegA begA.tab.length xcbegA) w30 ∧ TabAt w30 (.slice xabegA begA.tab.length xcbegA) begA.tab) := ⟨HbegA.out.1.keep hb, HbegA.out.2.keep hb⟩
  replace HbegB : Hid (StBox pbegB begB (.slice xabegB begB.tab.length xcbegB) w30 ∧ TabAt w30 (.slice xabegB begB.tab.length xcbegB) begB.tab) := ⟨HbegB.out.1.keep hb, HbegB.out.2.keep hb⟩
  replace HbegC : Hid (StBox pbegC begC (.slice xabegC begC.tab.length xcbegC) w30 ∧ TabAt w30 (.slice xabegC begC.tab.length xcbegC) begC.tab) := ⟨HbegC.out.1.keep hb, HbegC.out.2.keep hb⟩
  replace HK : Hid (Keeps w w30) := HK.out.trans hb
  replace T : Hid (TabAt w30 (.slice (some ⟨b7, 0, none⟩) 2 2) shopS.tab) := T.out.keep hb
  clear hb
  go_wp2_with fail
  refine (one_to shopS ⟨2, 11, 2, 4, 4, 2, 0, 0, 3⟩ (0) false 3 (by decide +kernel) _ _ T.out).mono ?_
  rintro e w31 ⟨t7, xa7, xn7, xc7, rfl, hb⟩
  replace HbegA : Hid (StBox pbegA begA (.slice xabegA begA.tab.length xcbegA) w31 ∧ TabAt w31 (.slice xabegA begA.tab.length xcbegA) begA.tab) := ⟨HbegA.out.1.keep hb, HbegA.out.2.keep hb⟩
  replace HbegB : Hid (StBox pbegB begB (.slice xabegB begB.tab.length xcbegB) w31 ∧ TabAt w31 (.slice xabegB begB.tab.length xcbegB) begB.tab) := ⟨HbegB.out.1.keep hb, HbegB.out.2.keep hb⟩
  replace HbegC : Hid (StBox pbegC begC (.slice xabegC begC.tab.length xcbegC) w31 ∧ TabAt w31 (.slice xabegC begC.tab.length xcbegC) begC.tab) := ⟨HbegC.out.1.keep hb, HbegC.out.2.keep hb⟩
  replace HK : Hid (Keeps w w31) := HK.out.trans hb
  clear hb T
  obtain ⟨gbegA, obegA, cbegA, hv, hcell⟩ := HbegA.out.2.at (k := 0) (by decide)
  injection hv with hv1 hv2 hv3
  subst hv1
  obtain ⟨_, _, s2begA, kabegA, kcbegA, s3begA, _⟩ := hcell 0 (by decide)
  simp only [List.getElem_cons_zero, List.length_cons, List.length_nil, Nat.zero_mul, Nat.add_zero, Nat.reduceAdd] at s2begA s3begA
  have a0begA := HbegA.out.1.c0
  have a2begA := HbegA.out.1.c2
  have a6begA := HbegA.out.1.c6
  have albegA := HbegA.out.1.lt
  have glbegA := World.block_lt_of_cell? _ _ s3begA
  simp only [] at glbegA
  clear hv2 hv3 hcell HbegA
  obtain ⟨gbegB, obegB, cbegB, hv, hcell⟩ := HbegB.out.2.at (k := 0) (by decide)
  injection hv with hv1 hv2 hv3
  subst hv1
  obtain ⟨_, _, s2begB, kabegB, kcbegB, s3begB, _⟩ := hcell 0 (by decide)
  simp only [List.getElem_cons_zero, List.length_cons, List.length_nil, Nat.zero_mul, Nat.add_zero, Nat.reduceAdd] at s2begB s3begB
  have a0begB := HbegB.out.1.c0
  have a2begB := HbegB.out.1.c2
  have a6begB := HbegB.out.1.c6
  have albegB := HbegB.out.1.lt
  have glbegB := World.block_lt_of_cell? _ _ s3begB
  simp only [] at glbegB
  clear hv2 hv3 hcell HbegB
  obtain ⟨gbegC, obegC, cbegC, hv, hcell⟩ := HbegC.out.2.at (k := 0) (by decide)
  injection hv with hv1 hv2 hv3
  subst hv1
  obtain ⟨_, _, s2begC, kabegC, kcbegC, s3begC, _⟩ := hcell 0 (by decide)
  simp only [List.getElem_cons_zero, List.length_cons, List.length_nil, Nat.zero_mul, Nat.add_zero, Nat.reduceAdd] at s2begC s3begC
  have a0begC := HbegC.out.1.c0
  have a2begC := HbegC.out.1.c2
  have a6begC := HbegC.out.1.c6
  have albegC := HbegC.out.1.lt
  have glbegC := World.block_lt_of_cell? _ _ s3begC
  simp only [] at glbegC
  clear hv2 hv3 hcell HbegC
  simp only [List.length_cons, List.length_nil, Nat.reduceAdd] at *
  go_wp2_with fail
  go_ret
  exact ⟨rfl, HK.out.alloc _⟩
end Go.Proofs.Yteabfjpajgakiab
