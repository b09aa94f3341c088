/- Applying: the machine's take, and One. -/
import Derived.Test.YthjcnbimapgdnabApI
import Derived.Test.YthjcnbimapgdnabSesP
set_option linter.unusedSimpArgs false
set_option linter.unusedVariables false
set_option maxRecDepth 10000
namespace Go.Proofs.Ythjcnbimapgdnab
open Go.RowKit

def takenSt (s : St) (e : Ent) : St := if e.kind == 1 then openedSt s e.client else if e.kind == 3 then closedSt s e.client else callSt s e
def takenAns (s : St) (e : Ent) : Int := if e.kind == 1 then openedAns s e.client else if e.kind == 3 then closedAns s e.client else callAns s e
def takenDone (s : St) (e : Ent) : Bool := if e.kind == 1 then false else if e.kind == 3 then false else callDone s e

/-- A right entry. -/
theorem ent_right {e : Ent} (h : entErr e = 0) : (1 ≤ e.kind ∧ e.kind ≤ 3) ∧ (0 ≤ e.time ∧ e.time ≤ 999) ∧ (1 ≤ e.client ∧ e.client ≤ 5) ∧ (e.kind = 2 → (1 ≤ e.seq ∧ e.seq ≤ 60) ∧ (0 ≤ e.ack ∧ e.ack ≤ e.seq - 1) ∧ opErr e.ok e.okey e.oto e.on = 0) ∧ (e.kind ≠ 2 → e.seq = 0 ∧ e.ack = 0 ∧ e.ok = 0 ∧ e.okey = 0 ∧ e.oto = 0 ∧ e.on = 0) := by
  unfold entErr at h
  split at h
  · rename_i h1
    split at h
    · rename_i h2
      simp only [entIn, Bool.and_eq_true, Bool.or_eq_true] at h2
      refine ⟨inB_iff.1 h1, inB_iff.1 h2.1, inB_iff.1 h2.2.1, ?_, ?_⟩
      · intro hk
        rw [if_pos (by simpa using hk)] at h
        rcases h2.2.2 with h3 | h3
        · simp [hk] at h3
        · exact ⟨inB_iff.1 h3.1, inB_iff.1 h3.2, h⟩
      · intro hk
        rw [if_neg (by simpa using hk)] at h
        split at h
        · rename_i h3
          simp [opNone] at h3
          exact h3
        · cases h
    · cases h
  · cases h

set_option maxHeartbeats 4000000 in
theorem take_c (s : St) (e : Ent) (b base : Nat) (x : Value) (w : World) (hB : StBox b s x w) (hO : OwnTab base w x s.tab) (hbb : b < base) (hbw : base ≤ w.heap.size) (he : tabErr s.tab = 0) (hent : entErr e = 0) :
    Calls Try.prog 40 #[macV b, entV e] w fun y w' => y = .returned (.tuple #[.int .i64 (takenAns s e), .bool (takenDone s e)]) ∧ ∃ x', StBox b (takenSt s e) x' w' ∧ OwnTab base w' x' (takenSt s e).tab ∧ But b w w' := by
  have hbl := hB.lt
  have HB : Hid (StBox b s x w) := hB
  have HT : Hid (OwnTab base w x s.tab) := hO
  have HR := (show Hid _ from ent_right hent)
  have HA : Hid (takenAns s e = if e.kind == 1 then openedAns s e.client else if e.kind == 3 then closedAns s e.client else callAns s e) := rfl
  have HD : Hid (takenDone s e = if e.kind == 1 then false else if e.kind == 3 then false else callDone s e) := rfl
  have HS : Hid (takenSt s e = if e.kind == 1 then openedSt s e.client else if e.kind == 3 then closedSt s e.client else callSt s e) := rfl
  clear hB hO
  have k1 : Keeps w ((w.alloc (.cells #[.pointer (some ⟨b, 0, none⟩)] 62)).alloc (.cells #[.int .i64 e.kind, .int .i64 e.time, .int .i64 e.client, .int .i64 e.seq, .int .i64 e.ack, .int .i64 e.ok, .int .i64 e.okey, .int .i64 e.oto, .int .i64 e.on] 33)) := ((Keeps.refl _).alloc _).alloc _
  cases q1 : (e.kind == 1) with
  | true =>
    have H1 : Hid (takenAns s e = openedAns s e.client ∧ takenDone s e = false ∧ takenSt s e = openedSt s e.client) := ⟨by rw [HA.out, q1]; rfl, by rw [HD.out, q1]; rfl, by rw [HS.out, q1]; rfl⟩
    go_enter Try.func40, Try.ntmps40
    go_wp2_with fail
    refine (open_c s b base x e.client _ (HB.out.keep k1) (HT.out.keep k1) hbb (Nat.le_trans hbw k1.size) he).mono ?_
    rintro y w1 ⟨rfl, x', B1, T1, F1⟩
    have HB1 : Hid (StBox b (openedSt s e.client) x' w1) := B1
    have HT1 : Hid (OwnTab base w1 x' (openedSt s e.client).tab) := T1
    have HF1 : Hid (But b w w1) := (But.of k1).trans F1
    clear B1 T1 F1 k1
    go_wp2_with fail
    go_ret2
    refine ⟨by rw [H1.out.1, H1.out.2.1]; rfl, ?_⟩
    rw [H1.out.2.2]
    exact ⟨x', HB1.out, HT1.out, HF1.out⟩
  | false =>
    cases q2 : (e.kind == 3) with
    | true =>
      have H1 : Hid (takenAns s e = closedAns s e.client ∧ takenDone s e = false ∧ takenSt s e = closedSt s e.client) := ⟨by rw [HA.out, q1, q2]; rfl, by rw [HD.out, q1, q2]; rfl, by rw [HS.out, q1, q2]; rfl⟩
      go_enter Try.func40, Try.ntmps40
      go_wp2_with fail
      refine (close_c s b base x e.client _ (HB.out.keep k1) (HT.out.keep k1) hbb (Nat.le_trans hbw k1.size)).mono ?_
      rintro y w1 ⟨rfl, x', B1, T1, F1⟩
      have HB1 : Hid (StBox b (closedSt s e.client) x' w1) := B1
      have HT1 : Hid (OwnTab base w1 x' (closedSt s e.client).tab) := T1
      have HF1 : Hid (But b w w1) := (But.of k1).trans F1
      clear B1 T1 F1 k1
      go_wp2_with fail
      go_ret2
      refine ⟨by rw [H1.out.1, H1.out.2.1]; rfl, ?_⟩
      rw [H1.out.2.2]
      exact ⟨x', HB1.out, HT1.out, HF1.out⟩
    | false =>
      have H1 : Hid (takenAns s e = callAns s e ∧ takenDone s e = callDone s e ∧ takenSt s e = callSt s e) := ⟨by rw [HA.out, q1, q2]; rfl, by rw [HD.out, q1, q2]; rfl, by rw [HS.out, q1, q2]; rfl⟩
      have hk2 : e.kind = 2 := by
        have := HR.out.1
        simp at q1 q2
        omega
      have hc := HR.out.2.2.2.1 hk2
      have C : Hid (Calls Try.prog 56 #[macV b, entV e] ((w.alloc (.cells #[.pointer (some ⟨b, 0, none⟩)] 62)).alloc (.cells #[.int .i64 e.kind, .int .i64 e.time, .int .i64 e.client, .int .i64 e.seq, .int .i64 e.ack, .int .i64 e.ok, .int .i64 e.okey, .int .i64 e.oto, .int .i64 e.on] 33)) fun y w' => y = .returned (.tuple #[.int .i64 (callAns s e), .bool (callDone s e)]) ∧ ∃ x', StBox b (callSt s e) x' w' ∧ OwnTab base w' x' (callSt s e).tab ∧ But b ((w.alloc (.cells #[.pointer (some ⟨b, 0, none⟩)] 62)).alloc (.cells #[.int .i64 e.kind, .int .i64 e.time, .int .i64 e.client, .int .i64 e.seq, .int .i64 e.ack, .int .i64 e.ok, .int .i64 e.okey, .int .i64 e.oto, .int .i64 e.on] 33)) w') := call_c s e b base x _ (HB.out.keep k1) (HT.out.keep k1) hbb (Nat.le_trans hbw k1.size) he hc.1.1 hc.1.2 hc.2.1.1 (by omega)
      clear hk2 hc
      go_enter Try.func40, Try.ntmps40
      go_wp2_with fail
      refine C.out.mono ?_
      rintro y w1 ⟨rfl, x', B1, T1, F1⟩
      have HB1 : Hid (StBox b (callSt s e) x' w1) := B1
      have HT1 : Hid (OwnTab base w1 x' (callSt s e).tab) := T1
      have HF1 : Hid (But b w w1) := (But.of k1).trans F1
      clear B1 T1 F1 k1 C
      go_wp2_with fail
      go_ret2
      refine ⟨by rw [H1.out.1, H1.out.2.1]; rfl, ?_⟩
      rw [H1.out.2.2]
      exact ⟨x', HB1.out, HT1.out, HF1.out⟩

def zeroSt : St := ⟨0, 0, 0, 0, 0, 0, []⟩
/-- One's answers. -/
def oneSt (s : St) (e : Ent) : St := if bothErr s e == 0 then takenSt (ticked s e.time) e else zeroSt
def oneAns (s : St) (e : Ent) : Int := if bothErr s e == 0 then takenAns (ticked s e.time) e else 0
def oneDone (s : St) (e : Ent) : Bool := if bothErr s e == 0 then takenDone (ticked s e.time) e else false

theorem both_right {s : St} {e : Ent} (h : bothErr s e = 0) : stErr s = 0 ∧ entErr e = 0 ∧ s.at_ ≠ 50 := by
  unfold bothErr at h
  split at h
  · rename_i h1
    split at h
    · rename_i h2
      split at h
      · cases h
      · rename_i h3
        exact ⟨by simpa using h1, by simpa using h2, by simpa using h3⟩
    · rename_i h2
      simp [h] at h2
  · rename_i h1
    simp [h] at h1

/-- The box of a state that has just been laid. -/
theorem StBox.new (w : World) (s : St) (x : Value) (t : TypeId) : StBox w.heap.size s x (w.alloc (.cells #[.int .i64 s.at_, .int .i64 s.clock, .int .i64 s.v0, .int .i64 s.v1, .int .i64 s.v2, .int .i64 s.v3, x] t)) :=
  ⟨by simp [go_sem], by simp [go_sem], by simp [go_sem], by simp [go_sem], by simp [go_sem], by simp [go_sem], by simp [go_sem], fun i => by simp [go_sem]⟩

set_option maxHeartbeats 4000000 in
theorem one_c (s : St) (e : Ent) (x : Value) (w : World) (hT : TabAt w x s.tab) :
    Calls Try.prog 17 #[stV s x, entV e] w fun y w' => ∃ x', OwnTab w.heap.size w' x' (oneSt s e).tab ∧ y = .returned (.tuple #[stV (oneSt s e) x', .int .i64 (oneAns s e), .bool (oneDone s e), .int .i64 (bothErr s e)]) ∧ Keeps w w' := by
  obtain ⟨xa, xc, rfl, _⟩ := hT.len
  have HT : Hid (TabAt w (.slice xa s.tab.length xc) s.tab) := hT
  clear hT
  have HS : Hid (oneSt s e = if bothErr s e == 0 then takenSt (ticked s e.time) e else zeroSt) := rfl
  have HA : Hid (oneAns s e = if bothErr s e == 0 then takenAns (ticked s e.time) e else 0) := rfl
  have HD : Hid (oneDone s e = if bothErr s e == 0 then takenDone (ticked s e.time) e else false) := rfl
  have HBR : Hid (bothErr s e = 0 → stErr s = 0 ∧ entErr e = 0 ∧ s.at_ ≠ 50) := both_right
  have HZT : Hid (zeroSt.tab = []) := rfl
  go_enter Try.func17, Try.ntmps17
  go_wp2_with fail
  obtain ⟨W1, hW1⟩ : ∃ W1, W1 = ((w.alloc (.cells #[.int .i64 s.at_, .int .i64 s.clock, .int .i64 s.v0, .int .i64 s.v1, .int .i64 s.v2, .int .i64 s.v3, .slice xa s.tab.length xc] 25)).alloc (.cells #[.int .i64 e.kind, .int .i64 e.time, .int .i64 e.client, .int .i64 e.seq, .int .i64 e.ack, .int .i64 e.ok, .int .i64 e.okey, .int .i64 e.oto, .int .i64 e.on] 33)).alloc (.cells #[.int .i64 0, .int .i64 0, .int .i64 0, .int .i64 0, .int .i64 0, .int .i64 0, .slice none 0 0] 25) := ⟨_, rfl⟩
  have k1 : Keeps w W1 := by rw [hW1]; exact (((Keeps.refl _).alloc _).alloc _).alloc _
  have B1 : StBox w.heap.size s (.slice xa s.tab.length xc) W1 := by rw [hW1]; exact (StBox.new w s _ 25).keep (((Keeps.refl _).alloc _).alloc _)
  have E1 : EntBox (w.heap.size + 1) e W1 := by
    rw [hW1]
    have := (EntBox.new (w.alloc (.cells #[.int .i64 s.at_, .int .i64 s.clock, .int .i64 s.v0, .int .i64 s.v1, .int .i64 s.v2, .int .i64 s.v3, .slice xa s.tab.length xc] 25)) e 33).keep ((Keeps.refl _).alloc (.cells #[.int .i64 0, .int .i64 0, .int .i64 0, .int .i64 0, .int .i64 0, .int .i64 0, .slice none 0 0] 25))
    simpa using this
  have Z1 : StBox (w.heap.size + 1 + 1) zeroSt (.slice none 0 0) W1 := by
    rw [hW1]
    have := StBox.new ((w.alloc (.cells #[.int .i64 s.at_, .int .i64 s.clock, .int .i64 s.v0, .int .i64 s.v1, .int .i64 s.v2, .int .i64 s.v3, .slice xa s.tab.length xc] 25)).alloc (.cells #[.int .i64 e.kind, .int .i64 e.time, .int .i64 e.client, .int .i64 e.seq, .int .i64 e.ack, .int .i64 e.ok, .int .i64 e.okey, .int .i64 e.oto, .int .i64 e.on] 33)) zeroSt (.slice none 0 0) 25
    simp only [World.size_alloc] at this
    exact this
  rw [← hW1]
  clear hW1
  refine (check_both s e _ W1 (HT.out.keep k1)).mono ?_
  rintro y w1 ⟨rfl, hb⟩
  have HK1 : Hid (Keeps w w1) := k1.trans hb
  have HB1 : Hid (StBox w.heap.size s (.slice xa s.tab.length xc) w1) := B1.keep hb
  have HE1 : Hid (EntBox (w.heap.size + 1) e w1) := E1.keep hb
  have HZ1 : Hid (StBox (w.heap.size + 1 + 1) zeroSt (.slice none 0 0) w1) := Z1.keep hb
  clear k1 B1 E1 Z1 hb
  clear W1
  cases q : (bothErr s e == 0) with
  | false =>
    have q' : (bothErr s e != 0) = true := by simp [bne, q]
    have H1 : Hid (oneSt s e = zeroSt ∧ oneAns s e = 0 ∧ oneDone s e = false) := ⟨by rw [HS.out, q]; rfl, by rw [HA.out, q]; rfl, by rw [HD.out, q]; rfl⟩
    have z0 := HZ1.out.c0
    have z1 := HZ1.out.c1
    have z2 := HZ1.out.c2
    have z3 := HZ1.out.c3
    have z4 := HZ1.out.c4
    have z5 := HZ1.out.c5
    have z6 := HZ1.out.c6
    have zf := HZ1.out.fz
    have zl := HZ1.out.lt
    have hk1 := HK1.out
    go_wp2_with fail
    refine bodyPost_ret (v := .tuple #[stV zeroSt (.slice none 0 0), .int .i64 0, .bool false, .int .i64 (bothErr s e)]) ?_ rfl ?_
    · simp [results, Try.results17, go_sem, zeroSt, z0, z1, z2, z3, z4, z5, z6]
    · rw [H1.out.1, H1.out.2.1, H1.out.2.2]
      refine ⟨.slice none 0 0, ?_, rfl, ?_⟩
      · rw [HZT.out]
        exact OwnTab.nil _ _
      · repeat refine Keeps.set ?_ (by simp <;> omega) _
        exact hk1
  | true =>
    have q' : (bothErr s e != 0) = false := by simp [bne, q]
    have H1 : Hid (oneSt s e = takenSt (ticked s e.time) e ∧ oneAns s e = takenAns (ticked s e.time) e ∧ oneDone s e = takenDone (ticked s e.time) e ∧ bothErr s e = 0) := ⟨by rw [HS.out, q]; rfl, by rw [HA.out, q]; rfl, by rw [HD.out, q]; rfl, by simpa using q⟩
    have hright := HBR.out (by simpa using q)
    have HST : Hid (stErr s = 0) := hright.1
    have HET : Hid (entErr e = 0) := hright.2.1
    have et := (ent_right hright.2.1).2.1
    obtain ⟨et0, et1⟩ := et
    have HTE : Hid (tabErr (ticked s e.time).tab = 0) := fresh_right (stErr_in hright.1).2.1
    have e1 := HE1.out.c1
    have hEl := HE1.out.lt
    have hBl := HB1.out.lt
    have hZl := HZ1.out.lt
    clear hright
    go_wp2_with fail
    have k12 : Keeps w1 (w1.alloc (.cells #[.pointer (some ⟨w.heap.size, 0, none⟩)] 62)) := (Keeps.refl _).alloc _
    have m2 : (w1.alloc (.cells #[.pointer (some ⟨w.heap.size, 0, none⟩)] 62)).cell? ⟨w1.heap.size, 0, none⟩ = some (.pointer (some ⟨w.heap.size, 0, none⟩)) := by simp [go_sem]
    generalize hMB : w1.heap.size = MB at *
    generalize (w1.alloc (.cells #[.pointer (some ⟨w.heap.size, 0, none⟩)] 62)) = w2 at *
    have hz12 := k12.size
    rw [hMB] at hz12
    refine (tick_c s w.heap.size _ e.time w2 (HB1.out.keep k12) (HT.out.far (HK1.out.trans k12) (Nat.le_refl _)) HST.out et0 et1).mono ?_
    rintro y w3 ⟨rfl, x3, B3, O3, F3⟩
    obtain ⟨ya, yc, rfl, _⟩ := O3.tab.len
    have E3 := (HE1.out.keep k12).but F3 (by omega)
    have Z3 := (HZ1.out.keep k12).other F3 (by omega)
    have m3 : w3.cell? ⟨MB, 0, none⟩ = some (.pointer (some ⟨w.heap.size, 0, none⟩)) := F3.at m2 (by simp; omega)
    have K3 : Keeps w w3 := But.to (HK1.out.trans k12) (Nat.le_refl _) F3
    have hz23 := F3.size
    have HB3 : Hid (StBox w.heap.size (ticked s e.time) (.slice ya (ticked s e.time).tab.length yc) w3) := B3
    have HO3 : Hid (OwnTab w2.heap.size w3 (.slice ya (ticked s e.time).tab.length yc) (ticked s e.time).tab) := O3
    have HE3 : Hid (EntBox (w.heap.size + 1) e w3) := E3
    have HZ3 : Hid (StBox (w.heap.size + 1 + 1) zeroSt (.slice none 0 0) w3) := Z3
    have HK3 : Hid (Keeps w w3) := K3
    have x0 := E3.c0
    have x1 := E3.c1
    have x2 := E3.c2
    have x3 := E3.c3
    have x4 := E3.c4
    have x5 := E3.c5
    have x6 := E3.c6
    have x7 := E3.c7
    have x8 := E3.c8
    have hEl := E3.lt
    have hMl := World.block_lt_of_cell? _ _ m3
    simp only [] at hMl
    clear B3 O3 E3 Z3 F3 K3 k12 m2 HB1 HE1 HZ1 HK1 e1
    generalize ticked s e.time = ts at *
    go_wp2_with fail
    refine (take_c ts e w.heap.size w2.heap.size _ w3 HB3.out HO3.out (by omega) (by omega) HTE.out HET.out).mono ?_
    rintro y w4 ⟨rfl, x4, B4, O4, F4⟩
    obtain ⟨za, zc, rfl, _⟩ := O4.tab.len
    have Z4 := HZ3.out.other F4 (by omega)
    have K4 : Keeps w w4 := But.to HK3.out (Nat.le_refl _) F4
    have HO4 : Hid (OwnTab w2.heap.size w4 (.slice za (takenSt ts e).tab.length zc) (takenSt ts e).tab) := O4
    have c0 := B4.c0
    have c1 := B4.c1
    have c2 := B4.c2
    have c3 := B4.c3
    have c4 := B4.c4
    have c5 := B4.c5
    have c6 := B4.c6
    have cl := B4.lt
    have z0 := Z4.c0
    have z1 := Z4.c1
    have z2 := Z4.c2
    have z3 := Z4.c3
    have z4 := Z4.c4
    have z5 := Z4.c5
    have z6 := Z4.c6
    have zf := Z4.fz
    have zl := Z4.lt
    have HK4 : Hid (Keeps w w4) := K4
    clear B4 O4 F4 Z4 K4 HB3 HO3 HE3 HZ3 HK3 x0 x1 x2 x3 x4 x5 x6 x7 x8 m3 hEl hMl
    generalize takenSt ts e = us at *
    generalize takenAns ts e = ua at *
    generalize takenDone ts e = ud at *
    generalize hul : us.tab.length = ul at *
    go_wp2_with fail
    refine bodyPost_ret (v := .tuple #[stV us (.slice za ul zc), .int .i64 ua, .bool ud, .int .i64 0]) ?_ rfl ?_
    · simp [results, Try.results17, go_sem, z0, z1, z2, z3, z4, z5, z6]
    · rw [H1.out.1, H1.out.2.1, H1.out.2.2.1, H1.out.2.2.2]
      refine ⟨.slice za ul zc, ?_, rfl, ?_⟩
      · exact (HO4.out.but (b := w.heap.size + 1 + 1) (by omega) ((((((((But.refl _ _).set 0 _).set 1 _).set 2 _).set 3 _).set 4 _).set 5 _).set 6 _)).base (by omega)
      · repeat refine Keeps.set ?_ (by simp <;> omega) _
        exact HK4.out
end Go.Proofs.Ythjcnbimapgdnab
