/- ApJ, OpI, ApM0, ApP, ApN0, ApQ0, ApQ1, SuI. -/
import Derived.Deep.RegionHeld3
import Derived.Deep.DeepCutAuto
import Derived.Test.YteabfjpajgakiagJ04
import Derived.Test.YteabfjpajgakiagJ06
import Derived.Test.YteabfjpajgakiagJ11
import Derived.Test.YteabfjpajgakiagJ12
/- Applying: the machine's take, and One. -/
set_option linter.unusedSimpArgs false
set_option linter.unusedVariables false
set_option maxRecDepth 10000
namespace Go.Proofs.Yteabfjpajgakiag
open Go.RowKit

def takenSt (s : St) (e : Ent) : St := if e.kind == 1 then openedSt s e.client else if e.kind == 3 then closedSt s e.client else callSt s e
def takenAns (s : St) (e : Ent) : Int := if e.kind == 1 then openedAns s e.client else if e.kind == 3 then closedAns s e.client else callAns s e
def takenDone (s : St) (e : Ent) : Bool := if e.kind == 1 then false else if e.kind == 3 then false else callDone s e

/-- A right entry. -/
theorem ent_right {e : Ent} (h : entErr e = 0) : (1 ≤ e.kind ∧ e.kind ≤ 3) ∧ (0 ≤ e.time ∧ e.time ≤ 999) ∧ (1 ≤ e.client ∧ e.client ≤ 5) ∧ (e.kind = 2 → (1 ≤ e.seq ∧ e.seq ≤ 60) ∧ (0 ≤ e.ack ∧ e.ack ≤ e.seq - 1) ∧ opErr e.ok e.okey e.oto e.on = 0) ∧ (e.kind ≠ 2 → e.seq = 0 ∧ e.ack = 0 ∧ e.ok = 0 ∧ e.okey = 0 ∧ e.oto = 0 ∧ e.on = 0) := by
  unfold entErr at h
  split at h
  · rename_i h1
    split at h
    · rename_i h2
      simp only [entIn, Bool.and_eq_true, Bool.or_eq_true] at h2
      refine ⟨inB_iff.1 h1, inB_iff.1 h2.1, inB_iff.1 h2.2.1, ?_, ?_⟩
      · intro hk
        rw [if_pos (by simpa using hk)] at h
        rcases h2.2.2 with h3 | h3
        · simp [hk] at h3
        · exact ⟨inB_iff.1 h3.1, inB_iff.1 h3.2, h⟩
      · intro hk
        rw [if_neg (by simpa using hk)] at h
        split at h
        · rename_i h3
          simp [opNone] at h3
          exact h3
        · cases h
    · cases h
  · cases h

set_option maxHeartbeats 4000000 in
theorem take_c (s : St) (e : Ent) (b base : Nat) (x : Value) (w : World) (hB : StBox b s x w) (hO : OwnTab base w x s.tab) (hbb : b < base) (hbw : base ≤ w.heap.size) (he : tabErr s.tab = 0) (hent : entErr e = 0) :
    Calls Try.prog 59 #[macV b, entV e] w fun y w' => y = .returned (.tuple #[.int .i64 (takenAns s e), .bool (takenDone s e)]) ∧ ∃ x', StBox b (takenSt s e) x' w' ∧ OwnTab base w' x' (takenSt s e).tab ∧ But b w w' := by
  have hbl := hB.lt
  have HB : Hid (StBox b s x w) := hB
  have HT : Hid (OwnTab base w x s.tab) := hO
  have HR := (show Hid _ from ent_right hent)
  have HA : Hid (takenAns s e = if e.kind == 1 then openedAns s e.client else if e.kind == 3 then closedAns s e.client else callAns s e) := rfl
  have HD : Hid (takenDone s e = if e.kind == 1 then false else if e.kind == 3 then false else callDone s e) := rfl
  have HS : Hid (takenSt s e = if e.kind == 1 then openedSt s e.client else if e.kind == 3 then closedSt s e.client else callSt s e) := rfl
  clear hB hO
  have k1 : Keeps w ((w.alloc (.cells #[.pointer (some ⟨b, 0, none⟩)] 94)).alloc (.cells #[.int .i64 e.kind, .int .i64 e.time, .int .i64 e.client, .int .i64 e.seq, .int .i64 e.ack, .int .i64 e.ok, .int .i64 e.okey, .int .i64 e.oto, .int .i64 e.on] 28)) := ((Keeps.refl _).alloc _).alloc _
  cases q1 : (e.kind == 1) with
  | true =>
    have H1 : Hid (takenAns s e = openedAns s e.client ∧ takenDone s e = false ∧ takenSt s e = openedSt s e.client) := ⟨by rw [HA.out, q1]; rfl, by rw [HD.out, q1]; rfl, by rw [HS.out, q1]; rfl⟩
    go_enter Try.func59, Try.ntmps59
    go_wp2_with fail
    refine (open_c s b base x e.client _ (HB.out.keep k1) (HT.out.keep k1) hbb (Nat.le_trans hbw k1.size) he).mono ?_
    rintro y w1 ⟨rfl, x', B1, T1, F1⟩
    have HB1 : Hid (StBox b (openedSt s e.client) x' w1) := B1
    have HT1 : Hid (OwnTab base w1 x' (openedSt s e.client).tab) := T1
    have HF1 : Hid (But b w w1) := (But.of k1).trans F1
    clear B1 T1 F1 k1
    go_wp2_with fail
    go_ret2
    refine ⟨by rw [H1.out.1, H1.out.2.1]; rfl, ?_⟩
    rw [H1.out.2.2]
    exact ⟨x', HB1.out, HT1.out, HF1.out⟩
  | false =>
    cases q2 : (e.kind == 3) with
    | true =>
      have H1 : Hid (takenAns s e = closedAns s e.client ∧ takenDone s e = false ∧ takenSt s e = closedSt s e.client) := ⟨by rw [HA.out, q1, q2]; rfl, by rw [HD.out, q1, q2]; rfl, by rw [HS.out, q1, q2]; rfl⟩
      go_enter Try.func59, Try.ntmps59
      go_wp2_with fail
      refine (close_c s b base x e.client _ (HB.out.keep k1) (HT.out.keep k1) hbb (Nat.le_trans hbw k1.size)).mono ?_
      rintro y w1 ⟨rfl, x', B1, T1, F1⟩
      have HB1 : Hid (StBox b (closedSt s e.client) x' w1) := B1
      have HT1 : Hid (OwnTab base w1 x' (closedSt s e.client).tab) := T1
      have HF1 : Hid (But b w w1) := (But.of k1).trans F1
      clear B1 T1 F1 k1
      go_wp2_with fail
      go_ret2
      refine ⟨by rw [H1.out.1, H1.out.2.1]; rfl, ?_⟩
      rw [H1.out.2.2]
      exact ⟨x', HB1.out, HT1.out, HF1.out⟩
    | false =>
      have H1 : Hid (takenAns s e = callAns s e ∧ takenDone s e = callDone s e ∧ takenSt s e = callSt s e) := ⟨by rw [HA.out, q1, q2]; rfl, by rw [HD.out, q1, q2]; rfl, by rw [HS.out, q1, q2]; rfl⟩
      have hk2 : e.kind = 2 := by
        have := HR.out.1
        simp at q1 q2
        omega
      have hc := HR.out.2.2.2.1 hk2
      have C : Hid (Calls Try.prog 69 #[macV b, entV e] ((w.alloc (.cells #[.pointer (some ⟨b, 0, none⟩)] 94)).alloc (.cells #[.int .i64 e.kind, .int .i64 e.time, .int .i64 e.client, .int .i64 e.seq, .int .i64 e.ack, .int .i64 e.ok, .int .i64 e.okey, .int .i64 e.oto, .int .i64 e.on] 28)) fun y w' => y = .returned (.tuple #[.int .i64 (callAns s e), .bool (callDone s e)]) ∧ ∃ x', StBox b (callSt s e) x' w' ∧ OwnTab base w' x' (callSt s e).tab ∧ But b ((w.alloc (.cells #[.pointer (some ⟨b, 0, none⟩)] 94)).alloc (.cells #[.int .i64 e.kind, .int .i64 e.time, .int .i64 e.client, .int .i64 e.seq, .int .i64 e.ack, .int .i64 e.ok, .int .i64 e.okey, .int .i64 e.oto, .int .i64 e.on] 28)) w') := call_c s e b base x _ (HB.out.keep k1) (HT.out.keep k1) hbb (Nat.le_trans hbw k1.size) he hc.1.1 hc.1.2 hc.2.1.1 (by omega)
      clear hk2 hc
      go_enter Try.func59, Try.ntmps59
      go_wp2_with fail
      refine C.out.mono ?_
      rintro y w1 ⟨rfl, x', B1, T1, F1⟩
      have HB1 : Hid (StBox b (callSt s e) x' w1) := B1
      have HT1 : Hid (OwnTab base w1 x' (callSt s e).tab) := T1
      have HF1 : Hid (But b w w1) := (But.of k1).trans F1
      clear B1 T1 F1 k1 C
      go_wp2_with fail
      go_ret2
      refine ⟨by rw [H1.out.1, H1.out.2.1]; rfl, ?_⟩
      rw [H1.out.2.2]
      exact ⟨x', HB1.out, HT1.out, HF1.out⟩

def zeroSt : St := ⟨0, 0, 0, 0, 0, 0, []⟩
/-- One's answers. -/
def oneSt (s : St) (e : Ent) : St := if bothErr s e == 0 then takenSt (ticked s e.time) e else zeroSt
def oneAns (s : St) (e : Ent) : Int := if bothErr s e == 0 then takenAns (ticked s e.time) e else 0
def oneDone (s : St) (e : Ent) : Bool := if bothErr s e == 0 then takenDone (ticked s e.time) e else false

theorem both_right {s : St} {e : Ent} (h : bothErr s e = 0) : stErr s = 0 ∧ entErr e = 0 ∧ s.at_ ≠ 50 := by
  unfold bothErr at h
  split at h
  · rename_i h1
    split at h
    · rename_i h2
      split at h
      · cases h
      · rename_i h3
        exact ⟨by simpa using h1, by simpa using h2, by simpa using h3⟩
    · rename_i h2
      simp [h] at h2
  · rename_i h1
    simp [h] at h1

/-- The box of a state that has just been laid. -/
theorem StBox.new (w : World) (s : St) (x : Value) (t : TypeId) : StBox w.heap.size s x (w.alloc (.cells #[.int .i64 s.at_, .int .i64 s.clock, .int .i64 s.v0, .int .i64 s.v1, .int .i64 s.v2, .int .i64 s.v3, x] t)) :=
  ⟨by simp [go_sem], by simp [go_sem], by simp [go_sem], by simp [go_sem], by simp [go_sem], by simp [go_sem], by simp [go_sem], fun i => by simp [go_sem]⟩

set_option maxHeartbeats 4000000 in
theorem one_c (s : St) (e : Ent) (x : Value) (w : World) (hT : TabAt w x s.tab) :
    Calls Try.prog 49 #[stV s x, entV e] w fun y w' => ∃ x', OwnTab w.heap.size w' x' (oneSt s e).tab ∧ y = .returned (.tuple #[stV (oneSt s e) x', .int .i64 (oneAns s e), .bool (oneDone s e), .int .i64 (bothErr s e)]) ∧ Keeps w w' := by
  obtain ⟨xa, xc, rfl, _⟩ := hT.len
  have HT : Hid (TabAt w (.slice xa s.tab.length xc) s.tab) := hT
  clear hT
  have HS : Hid (oneSt s e = if bothErr s e == 0 then takenSt (ticked s e.time) e else zeroSt) := rfl
  have HA : Hid (oneAns s e = if bothErr s e == 0 then takenAns (ticked s e.time) e else 0) := rfl
  have HD : Hid (oneDone s e = if bothErr s e == 0 then takenDone (ticked s e.time) e else false) := rfl
  have HBR : Hid (bothErr s e = 0 → stErr s = 0 ∧ entErr e = 0 ∧ s.at_ ≠ 50) := both_right
  have HZT : Hid (zeroSt.tab = []) := rfl
  go_enter Try.func49, Try.ntmps49
  go_wp2_with fail
  obtain ⟨W1, hW1⟩ : ∃ W1, W1 = ((w.alloc (.cells #[.int .i64 s.at_, .int .i64 s.clock, .int .i64 s.v0, .int .i64 s.v1, .int .i64 s.v2, .int .i64 s.v3, .slice xa s.tab.length xc] 47)).alloc (.cells #[.int .i64 e.kind, .int .i64 e.time, .int .i64 e.client, .int .i64 e.seq, .int .i64 e.ack, .int .i64 e.ok, .int .i64 e.okey, .int .i64 e.oto, .int .i64 e.on] 28)).alloc (.cells #[.int .i64 0, .int .i64 0, .int .i64 0, .int .i64 0, .int .i64 0, .int .i64 0, .slice none 0 0] 47) := ⟨_, rfl⟩
  have k1 : Keeps w W1 := by rw [hW1]; exact (((Keeps.refl _).alloc _).alloc _).alloc _
  have B1 : StBox w.heap.size s (.slice xa s.tab.length xc) W1 := by rw [hW1]; exact (StBox.new w s _ 47).keep (((Keeps.refl _).alloc _).alloc _)
  have E1 : EntBox (w.heap.size + 1) e W1 := by
    rw [hW1]
    have := (EntBox.new (w.alloc (.cells #[.int .i64 s.at_, .int .i64 s.clock, .int .i64 s.v0, .int .i64 s.v1, .int .i64 s.v2, .int .i64 s.v3, .slice xa s.tab.length xc] 47)) e 28).keep ((Keeps.refl _).alloc (.cells #[.int .i64 0, .int .i64 0, .int .i64 0, .int .i64 0, .int .i64 0, .int .i64 0, .slice none 0 0] 47))
    simpa using this
  have Z1 : StBox (w.heap.size + 1 + 1) zeroSt (.slice none 0 0) W1 := by
    rw [hW1]
    have := StBox.new ((w.alloc (.cells #[.int .i64 s.at_, .int .i64 s.clock, .int .i64 s.v0, .int .i64 s.v1, .int .i64 s.v2, .int .i64 s.v3, .slice xa s.tab.length xc] 47)).alloc (.cells #[.int .i64 e.kind, .int .i64 e.time, .int .i64 e.client, .int .i64 e.seq, .int .i64 e.ack, .int .i64 e.ok, .int .i64 e.okey, .int .i64 e.oto, .int .i64 e.on] 28)) zeroSt (.slice none 0 0) 47
    simp only [World.size_alloc] at this
    exact this
  rw [← hW1]
  clear hW1
  refine (check_both s e _ W1 (HT.out.keep k1)).mono ?_
  rintro y w1 ⟨rfl, hb⟩
  have HK1 : Hid (Keeps w w1) := k1.trans hb
  have HB1 : Hid (StBox w.heap.size s (.slice xa s.tab.length xc) w1) := B1.keep hb
  have HE1 : Hid (EntBox (w.heap.size + 1) e w1) := E1.keep hb
  have HZ1 : Hid (StBox (w.heap.size + 1 + 1) zeroSt (.slice none 0 0) w1) := Z1.keep hb
  clear k1 B1 E1 Z1 hb
  clear W1
  cases q : (bothErr s e == 0) with
  | false =>
    have q' : (bothErr s e != 0) = true := by simp [bne, q]
    have H1 : Hid (oneSt s e = zeroSt ∧ oneAns s e = 0 ∧ oneDone s e = false) := ⟨by rw [HS.out, q]; rfl, by rw [HA.out, q]; rfl, by rw [HD.out, q]; rfl⟩
    have z0 := HZ1.out.c0
    have z1 := HZ1.out.c1
    have z2 := HZ1.out.c2
    have z3 := HZ1.out.c3
    have z4 := HZ1.out.c4
    have z5 := HZ1.out.c5
    have z6 := HZ1.out.c6
    have zf := HZ1.out.fz
    have zl := HZ1.out.lt
    have hk1 := HK1.out
    go_wp2_with fail
    refine bodyPost_ret (v := .tuple #[stV zeroSt (.slice none 0 0), .int .i64 0, .bool false, .int .i64 (bothErr s e)]) ?_ rfl ?_
    · simp [results, Try.results49, go_sem, zeroSt, z0, z1, z2, z3, z4, z5, z6]
    · rw [H1.out.1, H1.out.2.1, H1.out.2.2]
      refine ⟨.slice none 0 0, ?_, rfl, ?_⟩
      · rw [HZT.out]
        exact OwnTab.nil _ _
      · repeat refine Keeps.set ?_ (by simp <;> omega) _
        exact hk1
  | true =>
    have q' : (bothErr s e != 0) = false := by simp [bne, q]
    have H1 : Hid (oneSt s e = takenSt (ticked s e.time) e ∧ oneAns s e = takenAns (ticked s e.time) e ∧ oneDone s e = takenDone (ticked s e.time) e ∧ bothErr s e = 0) := ⟨by rw [HS.out, q]; rfl, by rw [HA.out, q]; rfl, by rw [HD.out, q]; rfl, by simpa using q⟩
    have hright := HBR.out (by simpa using q)
    have HST : Hid (stErr s = 0) := hright.1
    have HET : Hid (entErr e = 0) := hright.2.1
    have et := (ent_right hright.2.1).2.1
    obtain ⟨et0, et1⟩ := et
    have HTE : Hid (tabErr (ticked s e.time).tab = 0) := fresh_right (stErr_in hright.1).2.1
    have e1 := HE1.out.c1
    have hEl := HE1.out.lt
    have hBl := HB1.out.lt
    have hZl := HZ1.out.lt
    clear hright
    go_wp2_with fail
    have k12 : Keeps w1 (w1.alloc (.cells #[.pointer (some ⟨w.heap.size, 0, none⟩)] 94)) := (Keeps.refl _).alloc _
    have m2 : (w1.alloc (.cells #[.pointer (some ⟨w.heap.size, 0, none⟩)] 94)).cell? ⟨w1.heap.size, 0, none⟩ = some (.pointer (some ⟨w.heap.size, 0, none⟩)) := by simp [go_sem]
    generalize hMB : w1.heap.size = MB at *
    generalize (w1.alloc (.cells #[.pointer (some ⟨w.heap.size, 0, none⟩)] 94)) = w2 at *
    have hz12 := k12.size
    rw [hMB] at hz12
    refine (tick_c s w.heap.size _ e.time w2 (HB1.out.keep k12) (HT.out.far (HK1.out.trans k12) (Nat.le_refl _)) HST.out et0 et1).mono ?_
    rintro y w3 ⟨rfl, x3, B3, O3, F3⟩
    obtain ⟨ya, yc, rfl, _⟩ := O3.tab.len
    have E3 := (HE1.out.keep k12).but F3 (by omega)
    have Z3 := (HZ1.out.keep k12).other F3 (by omega)
    have m3 : w3.cell? ⟨MB, 0, none⟩ = some (.pointer (some ⟨w.heap.size, 0, none⟩)) := F3.at m2 (by simp; omega)
    have K3 : Keeps w w3 := But.to (HK1.out.trans k12) (Nat.le_refl _) F3
    have hz23 := F3.size
    have HB3 : Hid (StBox w.heap.size (ticked s e.time) (.slice ya (ticked s e.time).tab.length yc) w3) := B3
    have HO3 : Hid (OwnTab w2.heap.size w3 (.slice ya (ticked s e.time).tab.length yc) (ticked s e.time).tab) := O3
    have HE3 : Hid (EntBox (w.heap.size + 1) e w3) := E3
    have HZ3 : Hid (StBox (w.heap.size + 1 + 1) zeroSt (.slice none 0 0) w3) := Z3
    have HK3 : Hid (Keeps w w3) := K3
    have x0 := E3.c0
    have x1 := E3.c1
    have x2 := E3.c2
    have x3 := E3.c3
    have x4 := E3.c4
    have x5 := E3.c5
    have x6 := E3.c6
    have x7 := E3.c7
    have x8 := E3.c8
    have hEl := E3.lt
    have hMl := World.block_lt_of_cell? _ _ m3
    simp only [] at hMl
    clear B3 O3 E3 Z3 F3 K3 k12 m2 HB1 HE1 HZ1 HK1 e1
    generalize ticked s e.time = ts at *
    go_wp2_with fail
    refine (take_c ts e w.heap.size w2.heap.size _ w3 HB3.out HO3.out (by omega) (by omega) HTE.out HET.out).mono ?_
    rintro y w4 ⟨rfl, x4, B4, O4, F4⟩
    obtain ⟨za, zc, rfl, _⟩ := O4.tab.len
    have Z4 := HZ3.out.other F4 (by omega)
    have K4 : Keeps w w4 := But.to HK3.out (Nat.le_refl _) F4
    have HO4 : Hid (OwnTab w2.heap.size w4 (.slice za (takenSt ts e).tab.length zc) (takenSt ts e).tab) := O4
    have c0 := B4.c0
    have c1 := B4.c1
    have c2 := B4.c2
    have c3 := B4.c3
    have c4 := B4.c4
    have c5 := B4.c5
    have c6 := B4.c6
    have cl := B4.lt
    have z0 := Z4.c0
    have z1 := Z4.c1
    have z2 := Z4.c2
    have z3 := Z4.c3
    have z4 := Z4.c4
    have z5 := Z4.c5
    have z6 := Z4.c6
    have zf := Z4.fz
    have zl := Z4.lt
    have HK4 : Hid (Keeps w w4) := K4
    clear B4 O4 F4 Z4 K4 HB3 HO3 HE3 HZ3 HK3 x0 x1 x2 x3 x4 x5 x6 x7 x8 m3 hEl hMl
    generalize takenSt ts e = us at *
    generalize takenAns ts e = ua at *
    generalize takenDone ts e = ud at *
    generalize hul : us.tab.length = ul at *
    go_wp2_with fail
    refine bodyPost_ret (v := .tuple #[stV us (.slice za ul zc), .int .i64 ua, .bool ud, .int .i64 0]) ?_ rfl ?_
    · simp [results, Try.results49, go_sem, z0, z1, z2, z3, z4, z5, z6]
    · rw [H1.out.1, H1.out.2.1, H1.out.2.2.1, H1.out.2.2.2]
      refine ⟨.slice za ul zc, ?_, rfl, ?_⟩
      · exact (HO4.out.but (b := w.heap.size + 1 + 1) (by omega) ((((((((But.refl _ _).set 0 _).set 1 _).set 2 _).set 3 _).set 4 _).set 5 _).set 6 _)).base (by omega)
      · repeat refine Keeps.set ?_ (by simp <;> omega) _
        exact HK4.out
end Go.Proofs.Yteabfjpajgakiag

/- What op.Do's answer is good for: plain mathematics. -/
set_option linter.unusedSimpArgs false
set_option linter.unusedVariables false
namespace Go.Proofs.Yteabfjpajgakiag

structure DoGood (g r : Nat → Int) (k key tk m : Int) : Prop where
  k0 : 0 ≤ key
  k3 : key ≤ 3
  kind : (k = 1 ∧ tk = 0) ∨ (k = 2 ∧ tk = 0) ∨ (k = 3 ∧ 0 ≤ tk ∧ tk ≤ 3) ∨ (k = 4 ∧ tk = 0)
  vals : ∀ i, i < 4 → 0 ≤ g i ∧ g i ≤ 999
  outs : ∀ i, i < 4 → 0 ≤ r i ∧ r i ≤ 999
  diff : ∀ i, i < 4 → r i = g i ∨ (i : Int) = key ∨ (k = 3 ∧ (i : Int) = tk)
  fail : m = -1 → ∀ i, i < 4 → r i = g i
  ans : m ≠ -1 → m = r key.toNat
  sum : k = 3 ∨ k = 4 → r 0 + r 1 + r 2 + r 3 = g 0 + g 1 + g 2 + g 3
  get : k = 4 → ∀ i, i < 4 → r i = g i

theorem upd_in {g : Nat → Int} {j : Nat} {x : Int} (hg : ∀ i, i < 4 → 0 ≤ g i ∧ g i ≤ 999) (hx : 0 ≤ x ∧ x ≤ 999) : ∀ i, i < 4 → 0 ≤ upd g j x i ∧ upd g j x i ≤ 999 := by
  intro i hi; unfold upd; split
  · exact hx
  · exact hg i hi

theorem do_good (g : Nat → Int) (k key tk n : Int) (h : doErr g k key tk n = 0) : DoGood g (doVals g k key tk n) k key tk (doAns g k key tk n) := by
  have he : (opErr k key tk n == 0) = true := by
    cases e : (opErr k key tk n == 0) with
    | true => rfl
    | false => simp [doErr, e] at h; simp [h] at e
  have hv : valsOk g = true := by
    cases e : valsOk g with
    | true => rfl
    | false => simp [doErr, he, e] at h
  have h0 : opErr k key tk n = 0 := by simpa using he
  have hg := vals_at hv
  obtain ⟨⟨hk0, hk3⟩, hk⟩ := op_right h0
  have hkey : (key.toNat : Int) = key := by omega
  have hgk := hg key.toNat (by omega)
  have e1 : doVals g k key tk n = if stepOk k g key tk n then stepTo k g key tk n else g := by simp [doVals, he, hv]
  have e2 : doAns g k key tk n = if stepOk k g key tk n then stepTo k g key tk n key.toNat else -1 := by simp [doAns, he, hv]
  rw [e1, e2]
  have same : DoGood g g k key tk (-1) := by
    refine ⟨hk0, hk3, by omega, hg, hg, fun i _ => .inl rfl, fun _ i _ => rfl, fun h => absurd rfl h, fun _ => rfl, fun _ i _ => rfl⟩
  cases hs : stepOk k g key tk n with
  | false => simpa using same
  | true =>
    simp only [if_true]
    rcases hk with ⟨rfl, ht, hn0, hn1⟩ | ⟨rfl, ht, hn0, hn1⟩ | ⟨rfl, ⟨ht0, ht3⟩, hn0, hn1⟩ | ⟨rfl, ht, hn⟩
    · have e : stepTo 1 g key tk n = upd g key.toNat n := rfl
      rw [e]
      refine ⟨hk0, hk3, by omega, hg, upd_in hg ⟨hn0, hn1⟩, fun i _ => ?_, fun h => ?_, fun _ => rfl, fun h => by omega, fun h => by omega⟩
      · unfold upd; split
        · right; left; omega
        · left; rfl
      · exfalso; simp [upd] at h; omega
    · have e : stepTo 2 g key tk n = upd g key.toNat (g key.toNat + n) := rfl
      have hb : 0 ≤ g key.toNat + n ∧ g key.toNat + n ≤ 999 := by simpa [stepOk, inB] using hs
      rw [e]
      refine ⟨hk0, hk3, by omega, hg, upd_in hg hb, fun i _ => ?_, fun h => ?_, fun _ => rfl, fun h => by omega, fun h => by omega⟩
      · unfold upd; split
        · right; left; omega
        · left; rfl
      · exfalso; simp [upd] at h; omega
    · have e : stepTo 3 g key tk n = upd (upd g key.toNat (g key.toNat + -n)) tk.toNat (upd g key.toNat (g key.toNat + -n) tk.toNat + n) := rfl
      have hb : (0 ≤ g key.toNat + -n ∧ g key.toNat + -n ≤ 999) ∧ 0 ≤ upd g key.toNat (g key.toNat + -n) tk.toNat + n ∧ upd g key.toNat (g key.toNat + -n) tk.toNat + n ≤ 999 := by
        simpa [stepOk, inB] using hs
      rw [e]
      have hin := upd_in (upd_in hg hb.1 (j := key.toNat)) hb.2 (j := tk.toNat)
      refine ⟨hk0, hk3, by omega, hg, hin, fun i _ => ?_, fun h => ?_, fun _ => rfl, fun _ => ?_, fun h => by omega⟩
      · by_cases h1 : i = tk.toNat
        · right; right; exact ⟨rfl, by omega⟩
        · by_cases h2 : i = key.toNat
          · right; left; omega
          · left; simp [upd, h1, h2]
      · exfalso; have := hin key.toNat (by omega); omega
      · rcases four hk0 hk3 with rfl | rfl | rfl | rfl <;> rcases four ht0 ht3 with rfl | rfl | rfl | rfl <;> simp [upd] <;> omega
    · have e : stepTo 4 g key tk n = g := rfl
      rw [e]
      exact ⟨hk0, hk3, by omega, hg, hg, fun i _ => .inl rfl, fun _ i _ => rfl, fun _ => rfl, fun _ => rfl, fun _ i _ => rfl⟩
end Go.Proofs.Yteabfjpajgakiag

/- What One makes of a right state is right: plain mathematics. -/
set_option linter.unusedSimpArgs false
set_option linter.unusedVariables false
namespace Go.Proofs.Yteabfjpajgakiag
open Go.RowKit

theorem keptOk_iff : ∀ {hi lo : Int} {l : List (Int × Int)}, keptOk hi lo l = true ↔ l.Pairwise (fun a b => a.1 < b.1) ∧ ∀ r ∈ l, (lo ≤ r.1 ∧ r.1 ≤ hi) ∧ -1 ≤ r.2 ∧ r.2 ≤ 999
  | hi, lo, [] => by simp [keptOk]
  | hi, lo, (q, v) :: t => by
    have ih := keptOk_iff (hi := hi) (lo := q + 1) (l := t)
    simp only [keptOk, Bool.and_eq_true, inB_iff, ih, List.pairwise_cons, List.mem_cons]
    constructor
    · rintro ⟨⟨h1, h2⟩, h3, h4⟩
      refine ⟨⟨fun a ha => ?_, h3⟩, fun r hr => ?_⟩
      · have := (h4 a ha).1.1
        show q < a.1
        omega
      · rcases hr with rfl | hr
        · exact ⟨h1, h2⟩
        · have := h4 r hr
          exact ⟨⟨by omega, this.1.2⟩, this.2⟩
    · rintro ⟨⟨h1, h2⟩, h3⟩
      have h0 := h3 (q, v) (.inl rfl)
      refine ⟨⟨h0.1, h0.2⟩, h2, fun r hr => ?_⟩
      have a1 := h1 r hr
      have a2 := h3 r (.inr hr)
      have a1 : q < r.1 := a1
      exact ⟨⟨by omega, a2.1.2⟩, a2.2⟩

theorem rises_pair {l : List (Int × Int)} : Rises l ↔ l.Pairwise (fun a b => a.1 < b.1) := by
  rw [List.pairwise_iff_getElem]
  exact ⟨fun h i j hi hj hij => h i j hi hj hij, fun h i j hi hj hij => h i j hi hj hij⟩

/-- Where a number belongs. -/
theorem place_pos : ∀ {l : List (Int × Int)} (seq : Int), l.Pairwise (fun a b => a.1 < b.1) → (∀ r ∈ l.take (posOf l seq), r.1 < seq) ∧ (∀ r ∈ l.drop (posOf l seq), seq ≤ r.1)
  | [], seq, _ => by simp [posOf]
  | a :: t, seq, h => by
    rw [List.pairwise_cons] at h
    by_cases ha : a.1 < seq
    · have e : posOf (a :: t) seq = posOf t seq + 1 := by simp [posOf, List.takeWhile_cons, ha]
      have ih := place_pos seq h.2
      rw [e, List.take_succ_cons, List.drop_succ_cons]
      refine ⟨fun r hr => ?_, ih.2⟩
      rcases List.mem_cons.1 hr with rfl | hr
      · exact ha
      · exact ih.1 r hr
    · have e : posOf (a :: t) seq = 0 := by simp [posOf, List.takeWhile_cons, ha]
      rw [e]
      refine ⟨by simp, fun r hr => ?_⟩
      rw [List.drop_zero] at hr
      rcases List.mem_cons.1 hr with rfl | hr
      · omega
      · have := h.1 r hr
        omega
theorem place_gone {l : List (Int × Int)} {seq : Int} (hp : l.Pairwise (fun a b => a.1 < b.1)) (h : keptHas l seq = false) : ∀ r ∈ l.drop (posOf l seq), seq < r.1 := by
  have h2 := (place_pos seq hp).2
  unfold keptHas thereB at h
  have hd : (l.drop (posOf l seq)).Pairwise (fun a b => a.1 < b.1) := hp.sublist (List.drop_sublist _ _)
  have hget : l[posOf l seq]? = (l.drop (posOf l seq))[0]? := by rw [List.getElem?_drop, Nat.add_zero]
  rw [hget] at h
  cases hl : l.drop (posOf l seq) with
  | nil => intro r hr; cases hr
  | cons a t =>
    rw [hl] at h h2 hd
    simp at h
    intro r hr
    have ha := h2 a (List.mem_cons_self ..)
    rcases List.mem_cons.1 hr with rfl | hr
    · omega
    · have := (List.pairwise_cons.1 hd).1 r hr
      omega

theorem keptPut_ok {hi lo seq v : Int} {l : List (Int × Int)} (h : keptOk hi lo l = true) (h1 : lo ≤ seq) (h2 : seq ≤ hi) (h3 : -1 ≤ v) (h4 : v ≤ 999) (hn : keptHas l seq = false) : keptOk hi lo (keptPut l seq v) = true := by
  obtain ⟨hp, hb⟩ := keptOk_iff.1 h
  have ht := (place_pos seq hp).1
  have hd := place_gone hp hn
  refine keptOk_iff.2 ⟨?_, fun r hr => ?_⟩
  · unfold keptPut
    rw [List.pairwise_append, List.pairwise_cons]
    refine ⟨hp.sublist (List.take_sublist _ _), ⟨fun a ha => hd a ha, hp.sublist (List.drop_sublist _ _)⟩, fun a ha b hb' => ?_⟩
    have := ht a ha
    rcases List.mem_cons.1 hb' with rfl | hb'
    · exact this
    · have := hd b hb'
      omega
  · unfold keptPut at hr
    rcases List.mem_append.1 hr with hr | hr
    · exact hb r (List.mem_of_mem_take hr)
    · rcases List.mem_cons.1 hr with rfl | hr
      · exact ⟨⟨h1, h2⟩, h3, h4⟩
      · exact hb r (List.mem_of_mem_drop hr)

theorem keptAfter_ok {a b : Int} {l : List (Int × Int)} (h : keptOk (min (a + 3) 60) (a + 1) l = true) (hab : a ≤ b) : keptOk (min (b + 3) 60) (b + 1) (keptAfter b l) = true := by
  obtain ⟨hp, hb⟩ := keptOk_iff.1 h
  refine keptOk_iff.2 ⟨hp.filter _, fun r hr => ?_⟩
  obtain ⟨h1, h2⟩ := List.mem_filter.1 hr
  have := hb r h1
  simp at h2
  omega

theorem seenAll_iff {c : Int} : ∀ {L : List Ses}, seenAll c L = true ↔ ∀ s ∈ L, c - 20 ≤ s.seen ∧ s.seen ≤ c
  | [] => by simp [seenAll]
  | a :: t => by
    simp only [seenAll, Bool.and_eq_true, inB_iff, seenAll_iff (L := t), List.mem_cons]
    constructor
    · rintro ⟨h1, h2⟩ s (rfl | hs)
      · exact h1
      · exact h2 s hs
    · exact fun h => ⟨h a (.inl rfl), fun s hs => h s (.inr hs)⟩

theorem stErr_of {s : St} (h1 : stIn s = true) (h2 : tabErr s.tab = 0) (h3 : seenAll s.clock s.tab = true) : stErr s = 0 := by simp [stErr, h1, h2, h3]

theorem ticked_right {s : St} {time : Int} (h : stErr s = 0) (h0 : 0 ≤ time) (h1 : time ≤ 999) (hat : s.at_ ≠ 50) : stErr (ticked s time) = 0 := by
  obtain ⟨hin, htab, hseen⟩ := stErr_in h
  obtain ⟨⟨ha0, ha1⟩, hc0, hc1⟩ := stErr_bounds h
  refine stErr_of ?_ (fresh_right htab) ?_
  · simp only [stIn, Bool.and_eq_true, inB_iff] at hin ⊢
    refine ⟨hin.1, ?_, ?_⟩
    · show 0 ≤ s.at_ + 1 ∧ s.at_ + 1 ≤ 50
      omega
    · show 0 ≤ max s.clock time ∧ max s.clock time ≤ 999
      omega
  · refine seenAll_iff.2 fun x hx => ?_
    obtain ⟨hx1, hx2⟩ := List.mem_filter.1 hx
    have := seenAll_iff.1 hseen x hx1
    simp at hx2
    show max s.clock time - 20 ≤ x.seen ∧ x.seen ≤ max s.clock time
    omega

theorem mem_putList {L : List Ses} {s x : Ses} (h : x ∈ putList L s) : x = s ∨ x ∈ L := by
  unfold putList at h
  simp only [List.mem_append, List.mem_filter, List.mem_singleton] at h
  rcases h with (h | h) | h
  · exact .inr h.1
  · exact .inl h
  · exact .inr h.1

theorem put_zero {L : List Ses} {s : Ses} (h1 : tabErr L = 0) (h2 : sesErr s = 0) (h3 : (putList L s).length ≤ 3) : putErr L s = 0 := by
  simp [putErr, h1, h2]
  omega

/-- A session in the place of its client's. -/
theorem put_len : ∀ {L : List Ses} {f : Ses} (s : Ses), L.Pairwise (fun a b => a.client < b.client) → f ∈ L → f.client = s.client → (putList L s).length = L.length
  | [], f, s, _, h, _ => by cases h
  | a :: t, f, s, hp, hf, hc => by
    rw [List.pairwise_cons] at hp
    rcases List.mem_cons.1 hf with rfl | hf
    · have e1 : (f :: t).filter (fun o => decide (o.client < s.client)) = [] := by
        rw [List.filter_eq_nil_iff]
        intro o ho
        rcases List.mem_cons.1 ho with rfl | ho
        · simp [hc]
        · have := hp.1 o ho
          simp
          omega
      have e2 : (f :: t).filter (fun o => decide (s.client < o.client)) = t := by
        rw [List.filter_cons_of_neg (by simp [hc]), List.filter_eq_self.2]
        intro o ho
        have := hp.1 o ho
        simp
        omega
      unfold putList
      rw [e1, e2]
      simp
    · have hac := hp.1 f hf
      have ih := put_len s hp.2 hf hc
      unfold putList at ih ⊢
      rw [List.filter_cons_of_pos (by simp; omega), List.filter_cons_of_neg (by simp; omega)]
      simp at ih ⊢
      omega

/-- A state whose table is turned. -/
theorem tab_turned {s : St} {L : List Ses} (h : stErr s = 0) (h1 : tabErr L = 0) (h2 : ∀ x ∈ L, s.clock - 20 ≤ x.seen ∧ x.seen ≤ s.clock) : stErr { s with tab := L } = 0 :=
  stErr_of (stErr_in h).1 h1 (seenAll_iff.2 h2)

theorem opened_right {s : St} {c : Int} (h : stErr s = 0) : stErr (openedSt s c) = 0 := by
  unfold openedSt
  split
  · rename_i hp
    have hp : putErr s.tab (openSes s c) = 0 := by simpa using hp
    have hb := (stErr_bounds h).2
    have hs := seenAll_iff.1 (stErr_in h).2.2
    refine tab_turned h (by rw [putTab_ok hp]; exact put_right hp) fun x hx => ?_
    rw [putTab_ok hp] at hx
    rcases mem_putList hx with rfl | hx
    · show s.clock - 20 ≤ s.clock ∧ s.clock ≤ s.clock
      omega
    · exact hs x hx
  · exact h

theorem closed_right {s : St} {c : Int} (h : stErr s = 0) : stErr (closedSt s c) = 0 := by
  unfold closedSt
  split
  · rename_i hp
    have hp : dropErr s.tab c = 0 := by simpa using hp
    have hs := seenAll_iff.1 (stErr_in h).2.2
    refine tab_turned h (by rw [drop_tab hp]; exact tab_sub (stErr_in h).2.1 List.filter_sublist) fun x hx => ?_
    rw [drop_tab hp] at hx
    exact hs x (List.mem_filter.1 hx).1
  · exact h

theorem vals_of {s : St} (h : stErr s = 0) : valsOk (stG s) = true := by
  have h1 := (stErr_in h).1
  simp only [stIn, valsIn, Bool.and_eq_true, inB_iff] at h1
  simp [valsOk, stG, inB]
  omega
theorem done_good {s : St} {e : Ent} (h : stErr s = 0) (he : opErr e.ok e.okey e.oto e.on = 0) : DoGood (stG s) (doneVals s e) e.ok e.okey e.oto (doneAns s e) :=
  do_good _ _ _ _ _ (by simp [doErr, he, vals_of h])
theorem doneAns_in {s : St} {e : Ent} (h : stErr s = 0) (he : opErr e.ok e.okey e.oto e.on = 0) : -1 ≤ doneAns s e ∧ doneAns s e ≤ 999 := by
  have hg := done_good h he
  by_cases hm : doneAns s e = -1
  · omega
  · have h1 := hg.ans hm
    have h2 := hg.outs e.okey.toNat (by have := hg.k0; have := hg.k3; omega)
    omega

theorem ses_zero {f : Ses} (h1 : 1 ≤ f.client ∧ f.client ≤ 5) (h2 : 0 ≤ f.acked ∧ f.acked ≤ 60) (h3 : 0 ≤ f.seen ∧ f.seen ≤ 999) (h4 : keptOk (min (f.acked + 3) 60) (f.acked + 1) f.kept = true) : sesErr f = 0 :=
  sesErr_ok (inB_iff.2 h1) (inB_iff.2 h2) (inB_iff.2 h3) h4

/-- What a Call leaves of its session is right. -/
theorem callSes_right {s : St} {f : Ses} {e : Ent} (h : stErr s = 0) (hf : sesErr f = 0) (he : entErr e = 0) (hk : e.kind = 2) : sesErr (callSes s f e) = 0 := by
  obtain ⟨_, _, _, hcall, _⟩ := ent_right he
  obtain ⟨⟨hq0, hq1⟩, ⟨ha0, ha1⟩, hop⟩ := hcall hk
  obtain ⟨r1, r2, r3, r4⟩ := ses_right hf
  have r1 := inB_iff.1 r1
  have r2 := inB_iff.1 r2
  have hc := (stErr_bounds h).2
  have hk0 : keptOk (min (max f.acked e.ack + 3) 60) (max f.acked e.ack + 1) (keptAfter (max f.acked e.ack) f.kept) = true := keptAfter_ok r4 (by omega)
  refine ses_zero r1 ?_ hc ?_
  · show 0 ≤ max f.acked e.ack ∧ max f.acked e.ack ≤ 60
    omega
  · show keptOk (min (max f.acked e.ack + 3) 60) (max f.acked e.ack + 1) (ansKept s (calledSes s f e) e) = true
    unfold ansKept
    split
    · rename_i hd
      simp only [ansDone, Bool.and_eq_true, Bool.not_eq_true', decide_eq_false_iff_not] at hd
      obtain ⟨d1, d2, d3⟩ := hd
      have e1 : (calledSes s f e).acked = max f.acked e.ack := rfl
      rw [e1] at d1 d3
      have hin := doneAns_in h hop
      exact keptPut_ok hk0 (by omega) (by omega) hin.1 hin.2 d2
    · exact hk0

theorem ansSt_same {s : St} {f : Ses} {e : Ent} : (ansSt s f e).at_ = s.at_ ∧ (ansSt s f e).clock = s.clock ∧ (ansSt s f e).tab = s.tab := by
  unfold ansSt
  split
  · exact ⟨rfl, rfl, rfl⟩
  · exact ⟨rfl, rfl, rfl⟩
theorem ansSt_right {s : St} {f : Ses} {e : Ent} (h : stErr s = 0) (he : opErr e.ok e.okey e.oto e.on = 0) : stErr (ansSt s f e) = 0 := by
  unfold ansSt
  split
  · have hg := (done_good h he).outs
    obtain ⟨h1, h2, h3⟩ := stErr_in h
    refine stErr_of ?_ h2 h3
    simp only [stIn, valsIn, Bool.and_eq_true, inB_iff] at h1 ⊢
    exact ⟨⟨hg 0 (by omega), hg 1 (by omega), hg 2 (by omega), hg 3 (by omega)⟩, h1.2⟩
  · exact h

theorem call_put {s : St} {f : Ses} {e : Ent} (h : stErr s = 0) (he : entErr e = 0) (hk : e.kind = 2) (hf : findSes s.tab e.client = some f) : putErr s.tab (callSes s f e) = 0 ∧ sesErr f = 0 ∧ f.client = e.client ∧ f ∈ s.tab := by
  have htab := (stErr_in h).2.1
  obtain ⟨t1, t2, t3⟩ := tab_right htab
  obtain ⟨hm, hc⟩ := findSes_mem hf
  refine ⟨put_zero htab (callSes_right h (t2 f hm) he hk) ?_, t2 f hm, hc, hm⟩
  rw [put_len (callSes s f e) (rising_iff.1 t3) hm rfl]
  exact t1

theorem called_right {s : St} {e : Ent} (h : stErr s = 0) (he : entErr e = 0) (hk : e.kind = 2) : stErr (callSt s e) = 0 ∧ (callSt s e).at_ = s.at_ ∧ (callSt s e).clock = s.clock := by
  unfold callSt
  cases hf : findSes s.tab e.client with
  | none => exact ⟨h, rfl, rfl⟩
  | some f =>
    obtain ⟨hp, _, _, _⟩ := call_put h he hk hf
    have hop := ((ent_right he).2.2.2.1 hk).2.2
    have hs := seenAll_iff.1 (stErr_in h).2.2
    obtain ⟨e1, e2, e3⟩ := ansSt_same (s := s) (f := calledSes s f e) (e := e)
    refine ⟨tab_turned (ansSt_right h hop) (by rw [putTab_ok hp]; exact put_right hp) fun x hx => ?_, e1, e2⟩
    rw [putTab_ok hp] at hx
    rw [e2]
    rcases mem_putList hx with rfl | hx
    · show s.clock - 20 ≤ s.clock ∧ s.clock ≤ s.clock
      omega
    · exact hs x hx

theorem taken_right {s : St} {e : Ent} (h : stErr s = 0) (he : entErr e = 0) : stErr (takenSt s e) = 0 ∧ (takenSt s e).at_ = s.at_ ∧ (takenSt s e).clock = s.clock := by
  have hk := (ent_right he).1
  unfold takenSt
  split
  · refine ⟨opened_right h, ?_⟩
    unfold openedSt
    split <;> exact ⟨rfl, rfl⟩
  · rename_i h1
    split
    · refine ⟨closed_right h, ?_⟩
      unfold closedSt
      split <;> exact ⟨rfl, rfl⟩
    · rename_i h3
      simp at h1 h3
      exact called_right h he (by omega)

/-- WHAT COMES IS RIGHT. -/
theorem one_right {s : St} {e : Ent} (h : bothErr s e = 0) : stErr (oneSt s e) = 0 ∧ (oneSt s e).at_ = s.at_ + 1 ∧ (oneSt s e).clock = max s.clock e.time := by
  obtain ⟨h1, h2, h3⟩ := both_right h
  have ht := (ent_right h2).2.1
  have e0 : oneSt s e = takenSt (ticked s e.time) e := by simp [oneSt, h]
  rw [e0]
  exact taken_right (ticked_right h1 ht.1 ht.2 h3) h2

theorem setVals_G {s : St} {g : Nat → Int} : ∀ i, i < 4 → stG (setVals s g) i = g i := by
  intro i hi
  have : i = 0 ∨ i = 1 ∨ i = 2 ∨ i = 3 := by omega
  rcases this with rfl | rfl | rfl | rfl <;> rfl

/-- The values are turned by a Call alone by which an op was done. -/
theorem one_vals {s : St} {e : Ent} (h : bothErr s e = 0) : (oneDone s e = false → sameVals (oneSt s e) s = true) ∧
    (oneDone s e = true → e.kind = 2 ∧ doErr (stG s) e.ok e.okey e.oto e.on = 0 ∧ ((oneSt s e).v0 = doneVals s e 0 ∧ (oneSt s e).v1 = doneVals s e 1 ∧ (oneSt s e).v2 = doneVals s e 2 ∧ (oneSt s e).v3 = doneVals s e 3) ∧ oneAns s e = doneAns s e) := by
  obtain ⟨h1, h2, h3⟩ := both_right h
  have e0 : oneSt s e = takenSt (ticked s e.time) e := by simp [oneSt, h]
  have e1 : oneDone s e = takenDone (ticked s e.time) e := by simp [oneDone, h]
  have e2 : oneAns s e = takenAns (ticked s e.time) e := by simp [oneAns, h]
  have hk := (ent_right h2).1
  have same : ∀ t : St, t.v0 = s.v0 → t.v1 = s.v1 → t.v2 = s.v2 → t.v3 = s.v3 → sameVals t s = true := fun t a b c d => by simp [sameVals, a, b, c, d]
  rw [e0, e1, e2]
  unfold takenDone takenSt takenAns
  by_cases k1 : e.kind = 1
  · simp only [k1, beq_self_eq_true, if_true]
    refine ⟨fun _ => ?_, fun h => by cases h⟩
    unfold openedSt
    split <;> exact same _ rfl rfl rfl rfl
  · have k1' : (e.kind == 1) = false := by simpa using k1
    by_cases k3 : e.kind = 3
    · simp only [k3, beq_self_eq_true, if_true, show ((3 : Int) == 1) = false from rfl, Bool.false_eq_true, if_false]
      refine ⟨fun _ => ?_, fun h => by cases h⟩
      unfold closedSt
      split <;> exact same _ rfl rfl rfl rfl
    · have k3' : (e.kind == 3) = false := by simpa using k3
      simp only [k1', k3', Bool.false_eq_true, if_false]
      have k2 : e.kind = 2 := by omega
      have hop := ((ent_right h2).2.2.2.1 k2).2.2
      unfold callDone callSt callAns
      cases hf : findSes (ticked s e.time).tab e.client with
      | none => exact ⟨fun _ => same _ rfl rfl rfl rfl, fun h => by cases h⟩
      | some f =>
        simp only []
        refine ⟨fun hd => ?_, fun hd => ⟨k2, by simp [doErr, hop, vals_of h1], ?_, ?_⟩⟩
        · unfold ansSt
          rw [hd]
          exact same _ rfl rfl rfl rfl
        · unfold ansSt
          rw [hd]
          exact ⟨rfl, rfl, rfl, rfl⟩
        · unfold ansOf
          rw [hd]
          rfl
end Go.Proofs.Yteabfjpajgakiag

/- A table of its own, one of whose sessions is turned in its place. -/
set_option linter.unusedSimpArgs false
set_option linter.unusedVariables false
set_option maxRecDepth 10000
namespace Go.Proofs.Yteabfjpajgakiag
open Go.RowKit

/-- A row of sessions in block g. -/
def SesRow (w : World) (g cap : Nat) (xs : List Value) : Prop := ∃ cur : Array Value, w.heap[g]? = some (.cells cur 82 (0, 0)) ∧ cur.size = cap * 4 ∧ cap ≤ maxLen ∧ xs.length ≤ cap * 4 ∧ cur.toList.take xs.length = xs
theorem SesRow.lt {w : World} {g cap : Nat} {xs : List Value} (h : SesRow w g cap xs) : g < w.heap.size := by
  obtain ⟨cur, h1, _⟩ := h
  exact (Array.getElem?_eq_some_iff.1 h1).1
theorem SesRow.set {w : World} {g cap : Nat} {xs : List Value} (h : SesRow w g cap xs) (i : Nat) (u : Value) : SesRow (w.setCell ⟨g, i, none⟩ u) g cap (xs.set i u) := by
  obtain ⟨cur, h1, h2, h3, h4, h5⟩ := h
  refine ⟨cur.setIfInBounds i u, ?_, by simpa using h2, h3, by simpa using h4, ?_⟩
  · simp [World.setCell, Array.getElem?_modify, h1]
  · simp only [List.length_set, Array.toList_setIfInBounds]
    rw [List.take_set, h5]
theorem SesRow.frozen {w : World} {g cap : Nat} {xs : List Value} (h : SesRow w g cap xs) (i : Nat) : w.frozen? ⟨g, i, none⟩ = false := by
  obtain ⟨cur, h1, _⟩ := h
  simp [World.frozen?, h1]

theorem sesCells_set : ∀ (L : List Ses) (ks : List Value) (k : Nat) (s : Ses) (kv : Value), ks.length = L.length → k < L.length →
    sesCells (L.set k s) (ks.set k kv) = ((((sesCells L ks).set (k * 4) (.int .i64 s.client)).set (k * 4 + 1) (.int .i64 s.acked)).set (k * 4 + 2) (.int .i64 s.seen)).set (k * 4 + 3) kv
  | [], ks, k, s, kv, _, h => by simp at h
  | a :: L, [], k, s, kv, h, _ => by simp at h
  | a :: L, b :: ks, 0, s, kv, _, _ => by simp [sesCells]
  | a :: L, b :: ks, k + 1, s, kv, h, hk => by
    have ih := sesCells_set L ks k s kv (by simpa using h) (by simpa using hk)
    rw [List.set_cons_succ, List.set_cons_succ, show (k + 1) * 4 = k * 4 + 1 + 1 + 1 + 1 from by omega]
    simp only [sesCells, List.set_cons_succ, ih]
theorem sesCells_seen : ∀ (L : List Ses) (ks : List Value) (k : Nat) (c : Int), ks.length = L.length → (hk : k < L.length) →
    sesCells (L.set k { L[k] with seen := c }) ks = (sesCells L ks).set (k * 4 + 2) (.int .i64 c)
  | [], ks, k, c, _, h => by simp at h
  | a :: L, [], k, c, h, _ => by simp at h
  | a :: L, b :: ks, 0, c, _, _ => by simp [sesCells]
  | a :: L, b :: ks, k + 1, c, h, hk => by
    have ih := sesCells_seen L ks k c (by simpa using h) (by simpa using hk)
    rw [show (k + 1) * 4 + 2 = k * 4 + 2 + 1 + 1 + 1 + 1 from by omega]
    simp only [List.set_cons_succ, List.getElem_cons_succ, sesCells, ih]
theorem sesCells_kept : ∀ (L : List Ses) (ks : List Value) (k : Nat) (l : List (Int × Int)) (kv : Value), ks.length = L.length → (hk : k < L.length) →
    sesCells (L.set k { L[k] with kept := l }) (ks.set k kv) = (sesCells L ks).set (k * 4 + 3) kv
  | [], ks, k, l, kv, _, h => by simp at h
  | a :: L, [], k, l, kv, h, _ => by simp at h
  | a :: L, b :: ks, 0, l, kv, _, _ => by simp [sesCells]
  | a :: L, b :: ks, k + 1, l, kv, h, hk => by
    have ih := sesCells_kept L ks k l kv (by simpa using h) (by simpa using hk)
    rw [show (k + 1) * 4 + 3 = k * 4 + 3 + 1 + 1 + 1 + 1 from by omega]
    simp only [List.set_cons_succ, List.getElem_cons_succ, sesCells, ih]

theorem KeptsOwn.set {base : Nat} {w : World} : ∀ {L : List Ses} {ks : List Value} (k : Nat) (s : Ses) (kv : Value), KeptsOwn base w L ks → w.ownsRow base 109 2 kv s.kept.length (repCells s.kept) → KeptsOwn base w (L.set k s) (ks.set k kv)
  | [], [], _, _, _, _, _ => trivial
  | _ :: _, _ :: _, 0, _, _, h, h' => ⟨h', h.2⟩
  | _ :: _, _ :: _, k + 1, s, kv, h, h' => ⟨h.1, KeptsOwn.set k s kv h.2 h'⟩
theorem KeptsOwn.seen {base : Nat} {w : World} : ∀ {L : List Ses} {ks : List Value} (k : Nat) (c : Int) (hk : k < L.length), KeptsOwn base w L ks → KeptsOwn base w (L.set k { L[k] with seen := c }) ks
  | [], [], _, _, hk, _ => by simp at hk
  | _ :: _, _ :: _, 0, _, _, h => ⟨h.1, h.2⟩
  | _ :: L, _ :: _, k + 1, c, hk, h => ⟨h.1, by have := KeptsOwn.seen k c (by simpa using hk) h.2; simpa using this⟩

/-- A table of its own whose row lies in block g. -/
structure TabOn (g base : Nat) (w : World) (v : Value) (L : List Ses) (ks : List Value) (cap : Nat) : Prop where
  le : base ≤ g
  val : v = .slice (some ⟨g, 0, none⟩) L.length cap
  row : SesRow w g cap (sesCells L ks)
  kept : KeptsOwn base w L ks
  fit : L.length ≤ cap

theorem TabOn.own {g base cap : Nat} {w : World} {v : Value} {L : List Ses} {ks : List Value} (h : TabOn g base w v L ks cap) : OwnTab base w v L := by
  obtain ⟨cur, h1, h2, h3, h4, h5⟩ := h.row
  have hl : (sesCells L ks).length = L.length * 4 := by
    have hk := h.kept.len
    clear h h1 h2 h3 h4 h5
    induction L generalizing ks with
    | nil => simp [sesCells]
    | cons a L ih =>
      cases ks with
      | nil => simp at hk
      | cons b ks => simp only [sesCells, List.length_cons, ih (by simpa using hk)]; omega
  rw [hl] at h5
  exact ⟨ks, h.kept, hl, .inr ⟨g, cap, cur, h.val, h.le, h1, h.fit, h3, h2, h5⟩⟩
theorem OwnTab.on {base : Nat} {w : World} {v : Value} {L : List Ses} (h : OwnTab base w v L) (h0 : 0 < L.length) : ∃ g ks cap, TabOn g base w v L ks cap := by
  obtain ⟨ks, h1, h2, h3⟩ := h
  rcases h3 with ⟨_, h3⟩ | ⟨g, cap, cur, hv, hg, hh, hn, hm, hs, ht⟩
  · omega
  · exact ⟨g, ks, cap, hg, hv, ⟨cur, hh, hs, hm, by rw [h2]; omega, by rw [h2]; exact ht⟩, h1, hn⟩
theorem TabOn.grown {g base cap : Nat} {w w' : World} {v : Value} {L : List Ses} {ks : List Value} (h : TabOn g base w v L ks cap) (hb : But g w w') : KeptsOwn base w' L ks := by
  have ho := h.own
  have hrow : ∃ row m ys, w.ownsRow base 82 4 row m ys ∧ row.ownBlock = some g := by
    obtain ⟨cur, h1, h2, h3, h4, h5⟩ := h.row
    have ⟨ks', hk', hr'⟩ := ho
    refine ⟨v, _, _, hr', ?_⟩
    rw [h.val]
    rfl
  obtain ⟨row, m, ys, hr, hg⟩ := hrow
  exact KeptsOwn.kept hr (by rw [hg]; exact ⟨hb.os, hb.tape, hb.output, hb.size, fun k hk hne => hb.block k hk (fun e => hne (by rw [e]))⟩) h.kept

/-- Its session number k is turned whole. -/
theorem TabOn.put {g base cap : Nat} {w : World} {v : Value} {L : List Ses} {ks : List Value} (h : TabOn g base w v L ks cap) {k : Nat} (hk : k < L.length) (s : Ses) (kv : Value) (hs : w.ownsRow base 109 2 kv s.kept.length (repCells s.kept)) :
    TabOn g base ((((w.setCell ⟨g, k * 4, none⟩ (.int .i64 s.client)).setCell ⟨g, k * 4 + 1, none⟩ (.int .i64 s.acked)).setCell ⟨g, k * 4 + 2, none⟩ (.int .i64 s.seen)).setCell ⟨g, k * 4 + 3, none⟩ kv) v (L.set k s) (ks.set k kv) cap := by
  have hb : But g w ((((w.setCell ⟨g, k * 4, none⟩ (.int .i64 s.client)).setCell ⟨g, k * 4 + 1, none⟩ (.int .i64 s.acked)).setCell ⟨g, k * 4 + 2, none⟩ (.int .i64 s.seen)).setCell ⟨g, k * 4 + 3, none⟩ kv) := ((((But.refl _ _).set _ _).set _ _).set _ _).set _ _
  have hl := h.kept.len
  have h2 : TabOn g base w v (L.set k s) (ks.set k kv) cap → True := fun _ => trivial
  refine ⟨h.le, by rw [h.val]; simp, ?_, ?_, by simpa using h.fit⟩
  · rw [sesCells_set L ks k s kv hl hk]
    exact (((h.row.set _ _).set _ _).set _ _).set _ _
  · have ho := h.own
    obtain ⟨ks', hk', hr'⟩ := ho
    have hgb : v.ownBlock = some g := by rw [h.val]; rfl
    exact KeptsOwn.kept hr' (by rw [hgb]; exact ⟨hb.os, hb.tape, hb.output, hb.size, fun k hk hne => hb.block k hk (fun e => hne (by rw [e]))⟩) (h.kept.set k s kv hs)
/-- .. when it was seen. -/
theorem TabOn.seen {g base cap : Nat} {w : World} {v : Value} {L : List Ses} {ks : List Value} (h : TabOn g base w v L ks cap) {k : Nat} (hk : k < L.length) (c : Int) :
    TabOn g base (w.setCell ⟨g, k * 4 + 2, none⟩ (.int .i64 c)) v (L.set k { L[k] with seen := c }) ks cap := by
  refine ⟨h.le, by rw [h.val]; simp, ?_, ?_, by simpa using h.fit⟩
  · rw [sesCells_seen L ks k c h.kept.len hk]
    exact h.row.set _ _
  · exact (h.grown ((But.refl _ _).set _ _)).seen k c hk
/-- .. what it keeps. -/
theorem TabOn.keptSet {g base cap : Nat} {w : World} {v : Value} {L : List Ses} {ks : List Value} (h : TabOn g base w v L ks cap) {k : Nat} (hk : k < L.length) (l : List (Int × Int)) (kv : Value) (hs : w.ownsRow base 109 2 kv l.length (repCells l)) :
    TabOn g base (w.setCell ⟨g, k * 4 + 3, none⟩ kv) v (L.set k { L[k] with kept := l }) (ks.set k kv) cap := by
  have hb : But g w (w.setCell ⟨g, k * 4 + 3, none⟩ kv) := (But.refl _ _).set _ _
  have hgb : v.ownBlock = some g := by rw [h.val]; rfl
  refine ⟨h.le, by rw [h.val]; simp, ?_, ?_, by simpa using h.fit⟩
  · rw [sesCells_kept L ks k l kv h.kept.len hk]
    exact h.row.set _ _
  · have ho := h.own
    obtain ⟨ks', hk', hr'⟩ := ho
    exact KeptsOwn.kept hr' (by rw [hgb]; exact ⟨hb.os, hb.tape, hb.output, hb.size, fun k hk hne => hb.block k hk (fun e => hne (by rw [e]))⟩) (h.kept.set k _ kv hs)
theorem TabOn.keep {g base cap : Nat} {w w' : World} {v : Value} {L : List Ses} {ks : List Value} (h : TabOn g base w v L ks cap) (hk : Keeps w w') : TabOn g base w' v L ks cap := by
  refine ⟨h.le, h.val, ?_, h.kept.keep hk, h.fit⟩
  have hl := h.row.lt
  obtain ⟨cur, h1, r⟩ := h.row
  exact ⟨cur, (hk.block g hl).trans h1, r⟩
theorem TabOn.but {g b base cap : Nat} {w w' : World} {v : Value} {L : List Ses} {ks : List Value} (h : TabOn g base w v L ks cap) (hb : b < base) (hk : But b w w') : TabOn g base w' v L ks cap := by
  refine ⟨h.le, h.val, ?_, h.kept.far hb hk, h.fit⟩
  have hl := h.row.lt
  have hle := h.le
  obtain ⟨cur, h1, r⟩ := h.row
  exact ⟨cur, (hk.block g hl (by omega)).trans h1, r⟩

/-- A session in the place of its client's, by its place. -/
theorem put_set : ∀ {L : List Ses} {k : Nat} (s : Ses), L.Pairwise (fun a b => a.client < b.client) → (hk : k < L.length) → (L[k]).client = s.client → putList L s = L.set k s
  | [], k, s, _, h, _ => by simp at h
  | a :: t, 0, s, hp, _, hc => by
    rw [List.pairwise_cons] at hp
    simp only [List.getElem_cons_zero] at hc
    unfold putList
    rw [List.filter_eq_nil_iff.2, List.filter_cons_of_neg (by simp; omega), List.filter_eq_self.2]
    · simp
    · intro o ho
      have := hp.1 o ho
      simp
      omega
    · intro o ho
      rcases List.mem_cons.1 ho with rfl | ho
      · simp; omega
      · have := hp.1 o ho
        simp
        omega
  | a :: t, k + 1, s, hp, hk, hc => by
    rw [List.pairwise_cons] at hp
    simp only [List.getElem_cons_succ] at hc
    have hk' : k < t.length := by simpa using hk
    have hac := hp.1 _ (List.getElem_mem hk')
    have ih := put_set s hp.2 hk' hc
    unfold putList at ih ⊢
    rw [List.filter_cons_of_pos (by simp; omega), List.filter_cons_of_neg (by simp; omega), List.set_cons_succ, ← ih]
    rfl
end Go.Proofs.Yteabfjpajgakiag

/- What comes again is answered as it was: plain mathematics. -/
set_option linter.unusedSimpArgs false
set_option linter.unusedVariables false
namespace Go.Proofs.Yteabfjpajgakiag
open Go.RowKit

theorem pos_mem : ∀ {l : List (Int × Int)} {seq v : Int}, l.Pairwise (fun a b => a.1 < b.1) → (seq, v) ∈ l → l[posOf l seq]? = some (seq, v)
  | [], seq, v, _, h => by cases h
  | a :: t, seq, v, hp, h => by
    rw [List.pairwise_cons] at hp
    rcases List.mem_cons.1 h with rfl | h
    · simp [posOf, List.takeWhile_cons]
    · have ha := hp.1 _ h
      have e : posOf (a :: t) seq = posOf t seq + 1 := by simp [posOf, List.takeWhile_cons, show a.1 < seq from ha]
      rw [e, List.getElem?_cons_succ]
      exact pos_mem hp.2 h
/-- An answer that is kept is found. -/
theorem has_mem {l : List (Int × Int)} {seq v : Int} (hp : l.Pairwise (fun a b => a.1 < b.1)) (h : (seq, v) ∈ l) : keptHas l seq = true ∧ keptVal l seq = v := by
  have := pos_mem hp h
  simp [keptHas, thereB, keptVal, this]
theorem mem_put {l : List (Int × Int)} {seq v : Int} : (seq, v) ∈ keptPut l seq v := by simp [keptPut]
theorem mem_put_of {l : List (Int × Int)} {seq v : Int} {r : Int × Int} (h : r ∈ l) : r ∈ keptPut l seq v := by
  unfold keptPut
  rw [← List.take_append_drop (posOf l seq) l] at h
  rcases List.mem_append.1 h with h | h
  · exact List.mem_append_left _ h
  · exact List.mem_append_right _ (List.mem_cons_of_mem _ h)

/-- A right state is not aged by the time that it has. -/
theorem fresh_same {s : St} (h : stErr s = 0) : freshTab s.tab s.clock = s.tab := by
  have hs := seenAll_iff.1 (stErr_in h).2.2
  unfold freshTab
  rw [List.filter_eq_self]
  intro x hx
  have := hs x hx
  simp
  omega
theorem ticked_same {s : St} {time : Int} (h : stErr s = 0) (ht : time ≤ s.clock) : ticked s time = { s with at_ := s.at_ + 1 } := by
  unfold ticked
  rw [show max s.clock time = s.clock from by omega, fresh_same h]

theorem put_put (L : List Ses) (s : Ses) : putList (putList L s) s = putList L s := by
  unfold putList
  simp only [List.filter_append, List.filter_filter]
  have e1 : [s].filter (fun o => decide (o.client < s.client)) = [] := by simp
  have e2 : [s].filter (fun o => decide (s.client < o.client)) = [] := by simp
  have e3 : L.filter (fun o => decide (o.client < s.client) && decide (s.client < o.client)) = [] := by
    rw [List.filter_eq_nil_iff]
    intro o _
    simp
    omega
  have e4 : L.filter (fun o => decide (s.client < o.client) && decide (o.client < s.client)) = [] := by
    rw [List.filter_eq_nil_iff]
    intro o _
    simp
    omega
  rw [e1, e2, e3, e4]
  simp

theorem find_kept {L : List Ses} {c : Int} {f : Ses} {p : Ses → Bool} (h : findSes L c = some f) (hp : p f = true) : findSes (L.filter p) c = some f := by
  unfold findSes at h ⊢
  rw [List.find?_filter]
  rw [List.find?_eq_some_iff_append] at h ⊢
  obtain ⟨h1, l1, l2, h2, h3⟩ := h
  exact ⟨by simp [hp, h1], l1, l2, h2, fun a ha => by have := h3 a ha; simp at this ⊢; exact .inr this⟩

/-- What kept is right. -/
theorem kept_pair {f : Ses} (h : sesErr f = 0) : f.kept.Pairwise (fun a b => a.1 < b.1) := (keptOk_iff.1 (ses_right h).2.2.2).1
theorem kept_low {f : Ses} (h : sesErr f = 0) : ∀ r ∈ f.kept, f.acked < r.1 := fun r hr => by
  have := ((keptOk_iff.1 (ses_right h).2.2.2).2 r hr).1.1
  omega

/-- A call by a number whose answer is kept. -/
theorem call_kept {s : St} {e : Ent} {f : Ses} {v : Int} (hs : stErr s = 0) (he : entErr e = 0) (hk : e.kind = 2) (hf : findSes s.tab e.client = some f) (ha : f.acked < e.seq) (hm : (e.seq, v) ∈ f.kept) :
    callDone s e = false ∧ callAns s e = v ∧ sameVals (callSt s e) s = true := by
  have hfe : sesErr f = 0 := (tab_right (stErr_in hs).2.1).2.1 f (findSes_mem hf).1
  obtain ⟨⟨hq0, hq1⟩, ⟨ha0, ha1⟩, hop⟩ := (ent_right he).2.2.2.1 hk
  have e1 : (calledSes s f e).acked = max f.acked e.ack := rfl
  have hm2 : (e.seq, v) ∈ (calledSes s f e).kept := by
    show (e.seq, v) ∈ keptAfter (max f.acked e.ack) f.kept
    refine List.mem_filter.2 ⟨hm, ?_⟩
    simp
    omega
  have hpw : (calledSes s f e).kept.Pairwise (fun a b => a.1 < b.1) := (kept_pair hfe).filter _
  obtain ⟨k1, k2⟩ := has_mem hpw hm2
  have hn : ¬ e.seq ≤ (calledSes s f e).acked := by rw [e1]; omega
  have hd : ansDone (calledSes s f e) e = false := by simp [ansDone, k1]
  unfold callDone callAns callSt
  rw [hf]
  refine ⟨hd, ?_, ?_⟩
  · show ansOf s (calledSes s f e) e = v
    simp [ansOf, hd, ansNo, hn, k1, k2]
  · show sameVals { ansSt s (calledSes s f e) e with tab := _ } s = true
    simp [ansSt, hd, sameVals]

/-- What is done is kept. -/
theorem done_kept {s : St} {e : Ent} (hs : stErr s = 0) (he : entErr e = 0) (hk : e.kind = 2) (hd : callDone s e = true) :
    ∃ c, findSes (callSt s e).tab e.client = some c ∧ c.acked < e.seq ∧ (e.seq, callAns s e) ∈ c.kept ∧ c.seen = s.clock := by
  unfold callDone at hd
  cases hf : findSes s.tab e.client with
  | none => rw [hf] at hd; cases hd
  | some f =>
    rw [hf] at hd
    obtain ⟨hp, hfe, hc, hm⟩ := call_put hs he hk hf
    have hd : ansDone (calledSes s f e) e = true := hd
    have hfd := find_put s.tab (callSes s f e)
    rw [show (callSes s f e).client = e.client from hc] at hfd
    refine ⟨callSes s f e, ?_, ?_, ?_, rfl⟩
    · unfold callSt
      rw [hf]
      show findSes (putTab s.tab (callSes s f e)) e.client = _
      rw [putTab_ok hp]
      exact hfd
    · simp only [ansDone, Bool.and_eq_true, Bool.not_eq_true', decide_eq_false_iff_not] at hd
      show (calledSes s f e).acked < e.seq
      omega
    · unfold callAns
      rw [hf]
      show (e.seq, ansOf s (calledSes s f e) e) ∈ ansKept s (calledSes s f e) e
      unfold ansOf ansKept
      rw [hd]
      exact mem_put

/-- The entry, at another time. -/
def atTime (e : Ent) (t : Int) : Ent := { e with time := t }
theorem atTime_right {e : Ent} {t : Int} (h : entErr e = 0) (h0 : 0 ≤ t) (h1 : t ≤ 999) : entErr (atTime e t) = 0 := by
  have hr := (ent_right h).2.1
  unfold entErr entIn at h ⊢
  have e1 : inB (atTime e t).time 0 999 = true := inB_iff.2 ⟨h0, h1⟩
  have e2 : inB e.time 0 999 = true := inB_iff.2 hr
  rw [e2] at h
  rw [e1]
  exact h

theorem callSt_time (s : St) (e : Ent) (t : Int) : callSt s (atTime e t) = callSt s e ∧ callAns s (atTime e t) = callAns s e ∧ callDone s (atTime e t) = callDone s e := ⟨rfl, rfl, rfl⟩

/-- A CALL THAT COMES AGAIN AT ONCE. -/
theorem call_again {s : St} {e : Ent} (hs : stErr s = 0) (he : entErr e = 0) (hk : e.kind = 2) (n : Int) :
    callDone { callSt s e with at_ := n } e = false ∧ callAns { callSt s e with at_ := n } e = callAns s e ∧ sameVals (callSt { callSt s e with at_ := n } e) (callSt s e) = true ∧ (callSt { callSt s e with at_ := n } e).tab = (callSt s e).tab := by
  cases hf : findSes s.tab e.client with
  | none =>
    have e1 : callSt s e = s := by unfold callSt; rw [hf]
    have e2 : callAns s e = -3 := by unfold callAns; rw [hf]
    rw [e1, e2]
    have hf' : findSes ({ s with at_ := n } : St).tab e.client = none := hf
    unfold callDone callAns callSt
    rw [hf']
    exact ⟨rfl, rfl, by simp [sameVals], rfl⟩
  | some f =>
    obtain ⟨hp, hfe, hc, hm⟩ := call_put hs he hk hf
    obtain ⟨⟨hq0, hq1⟩, ⟨ha0, ha1⟩, hop⟩ := (ent_right he).2.2.2.1 hk
    have hcr := callSes_right hs hfe he hk
    have e1 : callSt s e = { ansSt s (calledSes s f e) e with tab := putList s.tab (callSes s f e) } := by
      unfold callSt
      rw [hf]
      show ({ ansSt s (calledSes s f e) e with tab := putTab s.tab (callSes s f e) } : St) = _
      rw [putTab_ok hp]
    have e2 : callAns s e = ansOf s (calledSes s f e) e := by unfold callAns; rw [hf]
    have hclk : (callSt s e).clock = s.clock := (called_right hs he hk).2.2
    have hfd : findSes (callSt s e).tab e.client = some (callSes s f e) := by
      rw [e1]
      show findSes (putList s.tab (callSes s f e)) e.client = _
      have := find_put s.tab (callSes s f e)
      rw [show (callSes s f e).client = e.client from hc] at this
      exact this
    generalize hx : callSt s e = x at *
    obtain ⟨c, hcc⟩ : ∃ c, c = callSes s f e := ⟨_, rfl⟩
    have hck : c.kept = ansKept s (calledSes s f e) e := by rw [hcc]; rfl
    have hca : c.acked = (calledSes s f e).acked := by rw [hcc]; rfl
    have hca2 : c.acked = max f.acked e.ack := by rw [hcc]; rfl
    have hcs : c.seen = s.clock := by rw [hcc]; rfl
    rw [← hcc] at hfd hcr e1 hp
    have hsame : calledSes { x with at_ := n } c e = c := by
      unfold calledSes
      have a1 : max c.acked e.ack = c.acked := by omega
      have a2 : keptAfter c.acked c.kept = c.kept := keptAfter_all (kept_low hcr)
      rw [a1, a2]
      show (⟨c.client, c.acked, x.clock, c.kept⟩ : Ses) = c
      rw [hclk, ← hcs]
    have key : ansDone c e = false ∧ ansNo c e = ansOf s (calledSes s f e) e := by
      by_cases h1 : e.seq ≤ c.acked
      · have h1' : e.seq ≤ (calledSes s f e).acked := by omega
        exact ⟨by simp [ansDone, h1], by simp [ansNo, h1, ansOf, ansDone, h1']⟩
      · have h1' : ¬ e.seq ≤ (calledSes s f e).acked := by omega
        cases h2 : keptHas (calledSes s f e).kept e.seq with
        | true =>
          have hd : ansDone (calledSes s f e) e = false := by simp [ansDone, h2]
          have hk2 : c.kept = (calledSes s f e).kept := by rw [hck]; simp [ansKept, hd]
          exact ⟨by simp [ansDone, hk2, h2], by simp [ansNo, h1, hk2, h2, ansOf, hd, h1']⟩
        | false =>
          by_cases h3 : c.acked + 3 < e.seq
          · have h3' : (calledSes s f e).acked + 3 < e.seq := by omega
            have hd : ansDone (calledSes s f e) e = false := by simp [ansDone, h3']
            have hk2 : c.kept = (calledSes s f e).kept := by rw [hck]; simp [ansKept, hd]
            exact ⟨by simp [ansDone, h3], by simp [ansNo, h1, hk2, h2, ansOf, hd, h1']⟩
          · have h3' : ¬ (calledSes s f e).acked + 3 < e.seq := by omega
            have hd : ansDone (calledSes s f e) e = true := by simp [ansDone, h1', h2, h3']
            have hmm : (e.seq, doneAns s e) ∈ c.kept := by rw [hck]; simp only [ansKept, hd, if_true]; exact mem_put
            obtain ⟨k1, k2⟩ := has_mem (kept_pair hcr) hmm
            exact ⟨by simp [ansDone, k1], by simp [ansNo, h1, k1, k2, ansOf, hd]⟩
    have hfd2 : findSes ({ x with at_ := n } : St).tab e.client = some c := hfd
    have htab : x.tab = putList s.tab c := by rw [e1]
    have hcall : callSes { x with at_ := n } c e = c := by
      unfold callSes
      rw [hsame]
      show (⟨c.client, c.acked, c.seen, ansKept { x with at_ := n } c e⟩ : Ses) = c
      rw [show ansKept { x with at_ := n } c e = c.kept from by simp [ansKept, key.1]]
    have hput : putTab x.tab c = x.tab := by
      have hp2 : putErr x.tab c = 0 := by
        refine put_zero ?_ hcr ?_
        · rw [htab]; exact put_right hp
        · rw [htab, put_put]; exact (put_ok hp).2.2
      rw [putTab_ok hp2, htab, put_put]
    rw [e2]
    unfold callDone callAns
    rw [hfd2]
    refine ⟨?_, ?_, ?_, ?_⟩
    · show ansDone (calledSes _ c e) e = false
      rw [hsame]; exact key.1
    · show ansOf _ (calledSes { x with at_ := n } c e) e = _
      rw [hsame, ← key.2]
      simp [ansOf, key.1]
    · unfold callSt
      rw [hfd2]
      show sameVals { ansSt { x with at_ := n } (calledSes { x with at_ := n } c e) e with tab := _ } x = true
      rw [hsame]
      simp [ansSt, key.1, sameVals]
    · unfold callSt
      rw [hfd2]
      show putTab x.tab (callSes { x with at_ := n } c e) = x.tab
      rw [hcall, hput]

theorem taken_call {s : St} {e : Ent} (hk : e.kind = 2) : takenSt s e = callSt s e ∧ takenAns s e = callAns s e ∧ takenDone s e = callDone s e := by
  simp [takenSt, takenAns, takenDone, hk]
theorem one_ok {s : St} {e : Ent} (h : bothErr s e = 0) : oneSt s e = takenSt (ticked s e.time) e ∧ oneAns s e = takenAns (ticked s e.time) e ∧ oneDone s e = takenDone (ticked s e.time) e := by
  simp [oneSt, oneAns, oneDone, h]
theorem both_of {s : St} {e : Ent} (h1 : stErr s = 0) (h2 : entErr e = 0) (h3 : s.at_ ≠ 50) : bothErr s e = 0 := by simp [bothErr, h1, h2, h3]

theorem one_again {s : St} {e : Ent} {t : Int} (h : bothErr s e = 0) (hk : e.kind = 2) (hx : (oneSt s e).at_ < 50) (h0 : 0 ≤ t) (h1 : t ≤ (oneSt s e).clock) :
    bothErr (oneSt s e) (atTime e t) = 0 ∧ oneDone (oneSt s e) (atTime e t) = false ∧ oneAns (oneSt s e) (atTime e t) = oneAns s e ∧ sameVals (oneSt (oneSt s e) (atTime e t)) (oneSt s e) = true ∧ (oneSt (oneSt s e) (atTime e t)).tab = (oneSt s e).tab := by
  obtain ⟨b1, b2, b3⟩ := both_right h
  have ht := (ent_right b2).2.1
  have hT := ticked_right b1 ht.1 ht.2 b3
  obtain ⟨r1, r2, r3⟩ := one_right h
  have hcb := (stErr_bounds r1).2
  have hb := both_of r1 (atTime_right b2 h0 (by omega)) (show (oneSt s e).at_ ≠ 50 from by omega)
  obtain ⟨a1, a2, a3⟩ := one_ok h
  obtain ⟨c1, c2, c3⟩ := one_ok hb
  obtain ⟨d1, d2, _⟩ := taken_call (s := ticked s e.time) hk
  have e1 : ticked (oneSt s e) (atTime e t).time = { oneSt s e with at_ := (oneSt s e).at_ + 1 } := ticked_same r1 h1
  obtain ⟨f1, f2, f3⟩ := taken_call (s := ticked (oneSt s e) (atTime e t).time) (e := atTime e t) hk
  rw [e1] at f1 f2 f3 c1 c2 c3
  obtain ⟨g1, g2, g3⟩ := callSt_time { oneSt s e with at_ := (oneSt s e).at_ + 1 } e t
  have key := call_again hT b2 hk ((oneSt s e).at_ + 1)
  rw [← d1, ← a1, ← d2, ← a2] at key
  refine ⟨hb, ?_, ?_, ?_, ?_⟩
  · rw [c3, f3, g3]; exact key.1
  · rw [c2, f2, g2]; exact key.2.1
  · rw [c1, f1, g1]; exact key.2.2.1
  · rw [c1, f1, g1]; exact key.2.2.2

/-- An answer is kept in a session. -/
def KeptIn (s : St) (cl seq n : Int) : Prop := ∃ c, findSes s.tab cl = some c ∧ c.acked < seq ∧ (seq, n) ∈ c.kept

theorem taken_kept {s : St} {o : Ent} {cl seq n : Int} (hs : stErr s = 0) (ho : entErr o = 0) (h : KeptIn s cl seq n) (hc : ¬ (o.client = cl ∧ (o.kind = 3 ∨ seq ≤ o.ack))) : KeptIn (takenSt s o) cl seq n := by
  obtain ⟨c, hf, ha, hm⟩ := h
  have hk := (ent_right ho).1
  by_cases h1 : o.kind = 1
  · have e1 : takenSt s o = openedSt s o.client := by simp [takenSt, h1]
    rw [e1]
    unfold openedSt
    split
    · rename_i hp
      have hp : putErr s.tab (openSes s o.client) = 0 := by simpa using hp
      unfold KeptIn
      show ∃ c', findSes (putTab s.tab (openSes s o.client)) cl = some c' ∧ _
      rw [putTab_ok hp]
      by_cases he : o.client = cl
      · refine ⟨openSes s o.client, ?_, ?_, ?_⟩
        · have := find_put s.tab (openSes s o.client)
          rw [show (openSes s o.client).client = cl from he] at this
          exact this
        · show ((findSes s.tab o.client).getD zeroSes).acked < seq
          rw [he, hf]; exact ha
        · show _ ∈ ((findSes s.tab o.client).getD zeroSes).kept
          rw [he, hf]; exact hm
      · exact ⟨c, by rw [find_other _ _ (show cl ≠ (openSes s o.client).client from fun h => he h.symm)]; exact hf, ha, hm⟩
    · exact ⟨c, hf, ha, hm⟩
  · by_cases h3 : o.kind = 3
    · have e1 : takenSt s o = closedSt s o.client := by simp [takenSt, h3]
      have hne : o.client ≠ cl := fun h => hc ⟨h, .inl h3⟩
      rw [e1]
      unfold closedSt
      split
      · rename_i hp
        have hp : dropErr s.tab o.client = 0 := by simpa using hp
        refine ⟨c, ?_, ha, hm⟩
        show findSes (dropTab s.tab o.client) cl = some c
        rw [drop_tab hp]
        refine find_kept hf ?_
        have := (findSes_mem hf).2
        simp
        omega
      · exact ⟨c, hf, ha, hm⟩
    · have h2 : o.kind = 2 := by omega
      rw [(taken_call h2).1]
      unfold callSt
      cases hfo : findSes s.tab o.client with
      | none => exact ⟨c, hf, ha, hm⟩
      | some f =>
        obtain ⟨hp, hfe, hcl, hmem⟩ := call_put hs ho h2 hfo
        unfold KeptIn
        show ∃ c', findSes (putTab s.tab (callSes s f o)) cl = some c' ∧ _
        rw [putTab_ok hp]
        by_cases he : o.client = cl
        · have hfc : f = c := by rw [he, hf] at hfo; injection hfo with h; exact h.symm
          subst hfc
          have hack : o.ack < seq := by
            have : ¬ seq ≤ o.ack := fun h => hc ⟨he, .inr h⟩
            omega
          refine ⟨callSes s f o, ?_, ?_, ?_⟩
          · have := find_put s.tab (callSes s f o)
            rw [show (callSes s f o).client = cl from hcl.trans he] at this
            exact this
          · show max f.acked o.ack < seq
            omega
          · show _ ∈ ansKept s (calledSes s f o) o
            have hm2 : (seq, n) ∈ (calledSes s f o).kept := by
              show (seq, n) ∈ keptAfter (max f.acked o.ack) f.kept
              refine List.mem_filter.2 ⟨hm, ?_⟩
              simp
              omega
            unfold ansKept
            split
            · exact mem_put_of hm2
            · exact hm2
        · exact ⟨c, by rw [find_other _ _ (show cl ≠ (callSes s f o).client from fun h => he (hcl.symm.trans h.symm))]; exact hf, ha, hm⟩

/-- AN ANSWER IS KEPT AS LONG AS IT IS NOT ACKNOWLEDGED. -/
theorem one_kept {s : St} {e o : Ent} (h : bothErr s e = 0) (hd : oneDone s e = true) (ho : bothErr (oneSt s e) o = 0) (hat : (oneSt (oneSt s e) o).at_ < 50)
    (hc : ¬ (o.client = e.client ∧ (o.kind = 3 ∨ e.seq ≤ o.ack))) (hl : (oneSt (oneSt s e) o).clock ≤ (oneSt s e).clock + 20) :
    bothErr (oneSt (oneSt s e) o) (atTime e 0) = 0 ∧ oneDone (oneSt (oneSt s e) o) (atTime e 0) = false ∧ oneAns (oneSt (oneSt s e) o) (atTime e 0) = oneAns s e ∧ sameVals (oneSt (oneSt (oneSt s e) o) (atTime e 0)) (oneSt (oneSt s e) o) = true := by
  have hk := ((one_vals h).2 hd).1
  obtain ⟨b1, b2, b3⟩ := both_right h
  have ht := (ent_right b2).2.1
  have hT := ticked_right b1 ht.1 ht.2 b3
  obtain ⟨a1, a2, a3⟩ := one_ok h
  obtain ⟨d1, d2, d3⟩ := taken_call (s := ticked s e.time) hk
  obtain ⟨r1, r2, r3⟩ := one_right h
  have hd' : callDone (ticked s e.time) e = true := by rw [← d3, ← a3]; exact hd
  obtain ⟨c, k1, k2, k3, k4⟩ := done_kept hT b2 hk hd'
  rw [← d2, ← a2] at k3
  rw [← d1, ← a1] at k1
  have hseen : c.seen = (oneSt s e).clock := by rw [k4, a1, d1, (called_right hT b2 hk).2.2]
  generalize oneSt s e = x at *
  generalize oneAns s e = n at *
  obtain ⟨o1, o2, o3⟩ := both_right ho
  have hot := (ent_right o2).2.1
  have hT2 := ticked_right o1 hot.1 hot.2 o3
  obtain ⟨y1, y2, y3⟩ := one_right ho
  have hK2 : KeptIn (ticked x o.time) e.client e.seq n := by
    refine ⟨c, find_kept k1 ?_, k2, k3⟩
    simp
    omega
  have hK3 := taken_kept hT2 o2 hK2 hc
  rw [← (one_ok ho).1] at hK3
  generalize oneSt x o = y at *
  have hyb := (stErr_bounds y1).2
  have he0 := atTime_right (t := 0) b2 (by omega) (by omega)
  have hb := both_of y1 he0 (show y.at_ ≠ 50 from by omega)
  obtain ⟨c1, c2, c3⟩ := one_ok hb
  have e1 : ticked y (atTime e 0).time = { y with at_ := y.at_ + 1 } := ticked_same y1 hyb.1
  obtain ⟨f1, f2, f3⟩ := taken_call (s := ticked y (atTime e 0).time) (e := atTime e 0) hk
  have hT4 : stErr (ticked y (atTime e 0).time) = 0 := ticked_right y1 (show (0 : Int) ≤ 0 from by decide) (show (0 : Int) ≤ 999 from by decide) (by omega)
  rw [e1] at f1 f2 f3 c1 c2 c3 hT4
  obtain ⟨c', m1, m2, m3⟩ := hK3
  have key := call_kept (e := atTime e 0) hT4 he0 hk m1 m2 m3
  refine ⟨hb, ?_, ?_, ?_⟩
  · rw [c3, f3]; exact key.1
  · rw [c2, f2]; exact key.2.1
  · rw [c1, f1]; exact key.2.2
end Go.Proofs.Yteabfjpajgakiag

/- What the reference's applied makes, said by places: plain mathematics. -/
set_option linter.unusedSimpArgs false
set_option linter.unusedVariables false
namespace Go.Proofs.Yteabfjpajgakiag
open Go.RowKit

theorem put_len_new {L : List Ses} {s : Ses} (h : findSes L s.client = none) : (putList L s).length = L.length + 1 := by
  have hne : ∀ x ∈ L, x.client ≠ s.client := by
    intro x hx hc
    unfold findSes at h
    rw [List.find?_eq_none] at h
    exact h x hx (by simpa using hc)
  have key : ∀ M : List Ses, (∀ x ∈ M, x.client ≠ s.client) → (M.filter (fun o => decide (o.client < s.client))).length + (M.filter (fun o => decide (s.client < o.client))).length = M.length := by
    intro M
    induction M with
    | nil => intro _; rfl
    | cons a t ih =>
      intro hM
      have ha := hM a (List.mem_cons_self ..)
      have iht := ih (fun x hx => hM x (List.mem_cons_of_mem _ hx))
      by_cases hlt : a.client < s.client
      · rw [List.filter_cons_of_pos (by simpa using hlt), List.filter_cons_of_neg (by simp; omega)]
        simp only [List.length_cons]
        omega
      · rw [List.filter_cons_of_neg (by simpa using hlt), List.filter_cons_of_pos (by simp; omega)]
        simp only [List.length_cons]
        omega
  have := key L hne
  unfold putList
  simp only [List.length_append, List.length_cons, List.length_nil]
  omega

/-- A right table's sessions. -/
theorem tab_ses {s : St} (h : stErr s = 0) {k : Nat} (hk : k < s.tab.length) : sesErr (s.tab[k]) = 0 := (tab_right (stErr_in h).2.1).2.1 _ (List.getElem_mem hk)
theorem tab_pair {s : St} (h : stErr s = 0) : s.tab.Pairwise (fun a b => a.client < b.client) := rising_iff.1 (tab_right (stErr_in h).2.1).2.2
theorem tab_three {s : St} (h : stErr s = 0) : s.tab.length ≤ 3 := (tab_right (stErr_in h).2.1).1

theorem opened_found {s : St} {c : Int} {k : Nat} (h : stErr s = 0) (hk : k < s.tab.length) (hf : findSes s.tab c = some (s.tab[k])) :
    openedSt s c = { s with tab := s.tab.set k { s.tab[k] with seen := s.clock } } ∧ openedAns s c = 0 := by
  have hc := (findSes_mem hf).2
  have e1 : openSes s c = { s.tab[k] with seen := s.clock } := by
    unfold openSes
    rw [hf]
    show (⟨c, (s.tab[k]).acked, s.clock, (s.tab[k]).kept⟩ : Ses) = _
    rw [← hc]
  have hcl := (stErr_bounds h).2
  obtain ⟨r1, r2, r3, r4⟩ := ses_right (tab_ses h hk)
  have hse : sesErr { s.tab[k] with seen := s.clock } = 0 := ses_zero (inB_iff.1 r1) (inB_iff.1 r2) hcl r4
  have hp : putErr s.tab (openSes s c) = 0 := by
    rw [e1]
    exact put_zero (stErr_in h).2.1 hse (by rw [put_len (f := s.tab[k]) { s.tab[k] with seen := s.clock } (tab_pair h) (List.getElem_mem hk) rfl]; exact tab_three h)
  refine ⟨?_, by simp [openedAns, hp]⟩
  unfold openedSt
  rw [if_pos (by simpa using hp), putTab_ok hp, e1, put_set (k := k) { s.tab[k] with seen := s.clock } (tab_pair h) hk rfl]

theorem opened_none {s : St} {c : Int} (h : stErr s = 0) (hc : 1 ≤ c ∧ c ≤ 5) (hf : findSes s.tab c = none) :
    (s.tab.length = 3 → openedSt s c = s ∧ openedAns s c = -2) ∧ (s.tab.length ≠ 3 → openedSt s c = { s with tab := putTab s.tab ⟨c, 0, s.clock, []⟩ } ∧ openedAns s c = 0 ∧ putErr s.tab ⟨c, 0, s.clock, []⟩ = 0) := by
  have e1 : openSes s c = ⟨c, 0, s.clock, []⟩ := by unfold openSes; rw [hf]; rfl
  have hcl := (stErr_bounds h).2
  have hse : sesErr ⟨c, 0, s.clock, []⟩ = 0 := ses_zero hc (show (0 : Int) ≤ 0 ∧ (0 : Int) ≤ 60 from by decide) hcl rfl
  have hl := put_len_new (L := s.tab) (s := ⟨c, 0, s.clock, []⟩) hf
  have h3 := tab_three h
  refine ⟨fun h' => ?_, fun h' => ?_⟩
  · have hp : putErr s.tab (openSes s c) = 2 := by
      rw [e1]
      simp [putErr, (stErr_in h).2.1, hse]
      omega
    exact ⟨by simp [openedSt, hp], by simp [openedAns, hp]⟩
  · have hp : putErr s.tab ⟨c, 0, s.clock, []⟩ = 0 := put_zero (stErr_in h).2.1 hse (by omega)
    exact ⟨by simp [openedSt, e1, hp], by simp [openedAns, e1, hp], hp⟩

theorem closed_found {s : St} {c : Int} (h : stErr s = 0) {f : Ses} (hf : findSes s.tab c = some f) : closedSt s c = { s with tab := s.tab.filter (fun x => x.client != c) } ∧ closedAns s c = 0 := by
  have hn : (s.tab.filter (fun x => x.client != c)).length ≠ s.tab.length := by
    intro e
    have := drop_none.2 e
    rw [hf] at this
    cases this
  have hd : dropErr s.tab c = 0 := by
    simp only [dropErr, (stErr_in h).2.1, beq_self_eq_true, if_true]
    rw [if_neg (by rw [beq_iff_eq]; exact hn)]
  exact ⟨by simp [closedSt, hd, dropTab], by simp [closedAns, hd]⟩
theorem closed_none {s : St} {c : Int} (h : stErr s = 0) (hf : findSes s.tab c = none) : closedSt s c = s ∧ closedAns s c = -3 := by
  have hd : dropErr s.tab c = 5 := by
    simp only [dropErr, (stErr_in h).2.1, beq_self_eq_true, if_true]
    rw [if_pos (by simpa using drop_none.1 hf)]
  exact ⟨by simp [closedSt, hd], by simp [closedAns, hd]⟩

theorem call_found {s : St} {e : Ent} {k : Nat} (h : stErr s = 0) (he : entErr e = 0) (hkd : e.kind = 2) (hk : k < s.tab.length) (hf : findSes s.tab e.client = some (s.tab[k])) :
    callSt s e = { ansSt s (calledSes s (s.tab[k]) e) e with tab := s.tab.set k (callSes s (s.tab[k]) e) } ∧ callAns s e = ansOf s (calledSes s (s.tab[k]) e) e ∧ callDone s e = ansDone (calledSes s (s.tab[k]) e) e := by
  obtain ⟨hp, _, _, _⟩ := call_put h he hkd hf
  unfold callSt callAns callDone
  rw [hf]
  refine ⟨?_, rfl, rfl⟩
  show ({ ansSt s (calledSes s (s.tab[k]) e) e with tab := putTab s.tab (callSes s (s.tab[k]) e) } : St) = _
  rw [putTab_ok hp, put_set (k := k) (callSes s (s.tab[k]) e) (tab_pair h) hk rfl]
theorem call_none {s : St} {e : Ent} (hf : findSes s.tab e.client = none) : callSt s e = s ∧ callAns s e = -3 ∧ callDone s e = false := by
  unfold callSt callAns callDone
  rw [hf]
  exact ⟨rfl, rfl, rfl⟩
end Go.Proofs.Yteabfjpajgakiag

/- Three appends in one statement, and parts of a row of answers. -/
set_option linter.unusedSimpArgs false
set_option linter.unusedVariables false
namespace Go.Proofs.Yteabfjpajgakiag
open Go.RowKit

/-- An append whose run is known, as a step of a region that draws. -/
theorem step_append_run {P : Program} {ops : Array Oper} {o : Oper} {a : Act} {w w' : World} {K : Act → World → Prop} {Q : Exit → Act → World → Prop} {E : Prop} {v x v' : Value} (hgd : o.guard = none) (s y : Operand) (t : TypeId)
    (ho : o.op = .call { callee := .builtin .append, args := #[s, y], argTypes := #[t, t] }) (hs : a.eval s = v) (hx : a.eval y = x)
    (hr : (Builtin.append_ #[t, t] o.type #[v, x]).run P w = .ok v' w') (hK : K (a.put o.dst v') w') : if Region.wanted o (yielded ops a.tmps) = true then Oper.wp P o a w K Q else E := by
  have hw : Region.wanted o (yielded ops a.tmps) = true := by simp [Region.wanted, hgd]
  rw [if_pos hw]
  unfold Oper.wp
  simp [execOp, ho, resolve, invoke, builtin, hs, hx, hr, Result.andThen]
  exact hK

theorem kept_prefix {w : World} {oa : Option Addr} {oc j : Nat} {l : List (Int × Int)} (h : KeptAt w (.slice oa l.length oc) l) (hj : j ≤ l.length) : KeptAt w (.slice (if oc = 0 then oa else oa.map (·.add (0 * 2))) j oc) (l.take j) := by
  obtain ⟨h1, h2, h3⟩ := h
  have hl : (l.take j).length = j := by simp; omega
  refine ⟨by rw [repCells_len], by rw [hl]; omega, ?_⟩
  rcases h3 with ⟨e, hn⟩ | ⟨a, cap, e, h3⟩
  · injection e with e1 e2 e3
    subst e1 e3
    left
    have : j = 0 := by omega
    subst this
    exact ⟨rfl, by simp⟩
  · injection e with e1 e2 e3
    subst e1
    right
    refine ⟨a, oc, ?_, fun i u hu => ?_⟩
    · rw [hl]
      have : a.add (0 * 2) = a := rfl
      simp only [Option.map_some, this, ite_self]
    · rw [← repCells_take] at hu
      rw [List.getElem?_take] at hu
      split at hu
      · exact h3 i u hu
      · cases hu

theorem kept_suffix {w : World} {oa : Option Addr} {oc j : Nat} {l : List (Int × Int)} (h : KeptAt w (.slice oa l.length oc) l) (hj : j ≤ l.length) (hc : l.length ≤ oc) : KeptAt w (.slice (if oc = j then oa else oa.map (·.add (j * 2))) (l.length - j) (oc - j)) (l.drop j) := by
  obtain ⟨h1, h2, h3⟩ := h
  have hl : (l.drop j).length = l.length - j := by simp
  refine ⟨by rw [repCells_len], by rw [hl]; omega, ?_⟩
  rcases h3 with ⟨e, hn⟩ | ⟨a, cap, e, h3⟩
  · injection e with e1 e2 e3
    subst e1 e3
    left
    have : j = 0 := by omega
    subst this
    rw [hl, hn]
    exact ⟨rfl, rfl⟩
  · injection e with e1 e2 e3
    subst e1
    right
    by_cases hcj : oc = j
    · refine ⟨a, oc - j, by rw [if_pos hcj, hl], fun i u hu => ?_⟩
      rw [List.drop_of_length_le (by omega)] at hu
      simp [repCells] at hu
    · refine ⟨a.add (j * 2), oc - j, by rw [if_neg hcj, hl]; rfl, fun i u hu => ?_⟩
      rw [← repCells_drop, List.getElem?_drop] at hu
      have := h3 _ u hu
      have e : (a.add (j * 2)).add i = a.add (j * 2 + i) := by
        obtain ⟨b, o, sp⟩ := a
        rcases Nat.eq_zero_or_pos j with h0 | h0
        · subst h0
          rw [Nat.zero_mul, Nat.zero_add]
          rfl
        · have h2 : j * 2 ≠ 0 := by omega
          have h3 : j * 2 + i ≠ 0 := by omega
          rcases Nat.eq_zero_or_pos i with h4 | h4
          · subst h4
            rfl
          · have h5 : i ≠ 0 := by omega
            simp only [Addr.add, h2, h3, h5, if_false, Nat.add_assoc]
      rw [e]
      exact this

/-- 'append(v, x...)' of answers, v the call's own from base on. -/
theorem app_rep (w : World) (base : Nat) (v : Value) (A : List (Int × Int)) (hown : w.ownsRow base 109 2 v A.length (repCells A)) (x : Value) (B : List (Int × Int)) (hx : KeptAt w x B) (hl : A.length + B.length ≤ 100) (hbase : base ≤ w.heap.size) :
    ∃ va vc w', (Builtin.append_ #[80, 80] 80 #[v, x]).run Try.prog w = .ok (.slice va (A ++ B).length vc) w' ∧ w'.ownsRow base 109 2 (.slice va (A ++ B).length vc) (A ++ B).length (repCells (A ++ B)) ∧ (∀ w0, w0.heap.size = base → Keeps w0 w → Keeps w0 w') ∧ ∀ b, some b ≠ v.ownBlock → b < w.heap.size → w'.heap[b]? = w.heap[b]? := by
  obtain ⟨v', w', hr, ho, hg⟩ := run_append_read w base 80 80 109 2 16 _ infoRep Try.underlying80 rfl (by decide) v A.length (repCells A) hown x B.length (repCells B) hx (repCells_one _) (by unfold maxLen; omega) (by omega) hbase
  rw [← List.length_append, ← repCells_append] at ho
  obtain ⟨va, vc, hv, _⟩ := (RowAt.of_owns ho).len
  subst hv
  refine ⟨va, vc, w', hr, ho, fun w0 h0 hk => keeps_grown hk hg (fun k hk' => ?_), fun b hb hl => hg.block b hl hb⟩
  rw [h0]
  exact (hown.lt k hk').1

theorem owns_cap {w : World} {base n m oc size : Nat} {e : TypeId} {oa : Option Addr} {xs : List Value} (h : w.ownsRow base e size (.slice oa n oc) m xs) : m ≤ oc := by
  rcases h.2 with ⟨e, h⟩ | ⟨g, cap, cur, e, _, _, h, _⟩
  · omega
  · injection e with _ _ e
    subst e
    exact h
theorem kept_far {w w' : World} {b n c : Nat} {l : List (Int × Int)} (h : KeptAt w (.slice (some ⟨b, 0, none⟩) n c) l) (he : w'.heap[b]? = w.heap[b]?) : KeptAt w' (.slice (some ⟨b, 0, none⟩) n c) l := by
  obtain ⟨h1, h2, h3⟩ := h
  refine ⟨h1, h2, ?_⟩
  rcases h3 with h3 | ⟨a, cap, e, h3⟩
  · exact .inl h3
  · injection e with e1 e2 e3
    injection e1 with e1
    subst e1 e2 e3
    exact .inr ⟨_, _, rfl, fun j u hu => by rw [← h3 j u hu]; exact World.cell?_of_block (by rw [Addr.add_lit]; exact he)⟩

theorem cell_three {w : World} {g cap k : Nat} {L : List Ses} (h : TabAt w (.slice (some ⟨g, 0, none⟩) L.length cap) L) (hk : k < L.length) : ∃ u, w.cell? ⟨g, k * 4 + 3, none⟩ = some u := by
  have hc := (h.cells k hk _ rfl).2.2.2
  obtain ⟨ka, kc, hc, _⟩ := hc
  rw [Nat.zero_add] at hc
  exact ⟨_, hc⟩

/-- A row without an element, just laid. -/
theorem owns_bare (w : World) (base : Nat) (hb : base ≤ w.heap.size) : (w.alloc (.cells #[] 109)).ownsRow base 109 2 (.slice (some ⟨w.heap.size, 0, none⟩) 0 0) ([] : List (Int × Int)).length (repCells []) := by
  have := World.ownsRow_made (base := base) (e := 109) (size := 2) w #[] 0 hb (by unfold maxLen; omega) rfl
  exact this
end Go.Proofs.Yteabfjpajgakiag

/- The reference's NextOf. -/
set_option linter.unusedSimpArgs false
set_option linter.unusedVariables false
set_option maxRecDepth 10000
namespace Go.Proofs.Yteabfjpajgakiag
open Go.RowKit

set_option maxHeartbeats 4000000 in
theorem next_of (s : Stu) (time o0 o1 o2 o3 : Int) (t : Value) (w : World) (h : IntsAt w t s.came) : Calls Try.prog 7 #[stuV s t, .int .i64 time, opV o0 o1 o2 o3] w fun e w' => ∃ ra rc, IntsAt w' (.slice ra (nextS s time (o0, o1, o2, o3)).came.length rc) (nextS s time (o0, o1, o2, o3)).came ∧ e = .returned (.tuple #[stuV (nextS s time (o0, o1, o2, o3)) (.slice ra (nextS s time (o0, o1, o2, o3)).came.length rc), entV (nextE s time (o0, o1, o2, o3)), .int .i64 (nextErr s time (o0, o1, o2, o3))]) ∧ Keeps w w' := by
  obtain ⟨ta, tc, rfl, hlen⟩ := RowAt.len h
  unfold maxLen at hlen
  have HI : Hid (IntsAt w (.slice ta s.came.length tc) s.came) := h
  have HE : Hid (nextErr s time (o0, o1, o2, o3) = if stuErr s == 0 then entErr (stuCall s time s.next (o0, o1, o2, o3)) else stuErr s) := rfl
  have HNZ : Hid ((nextErr s time (o0, o1, o2, o3) == 0) = false → nextS s time (o0, o1, o2, o3) = zeroStu ∧ nextE s time (o0, o1, o2, o3) = zeroE) := fun h => ⟨by unfold nextS; rw [h]; rfl, by unfold nextE; rw [h]; rfl⟩
  have HNO : Hid (nextErr s time (o0, o1, o2, o3) = 0 → nextS s time (o0, o1, o2, o3) = ⟨s.client, s.next + 1, s.came⟩ ∧ nextE s time (o0, o1, o2, o3) = stuCall s time s.next (o0, o1, o2, o3)) := fun h => ⟨by unfold nextS; rw [h]; rfl, by unfold nextE; rw [h]; rfl⟩
  obtain ⟨ak, hak⟩ : ∃ ak : Int, ak = ackOf s.came := ⟨_, rfl⟩
  have hsc : stuCall s time s.next (o0, o1, o2, o3) = ⟨2, time, s.client, s.next, ak, o0, o1, o2, o3⟩ := by rw [hak]; rfl
  rw [hsc] at HE HNO
  clear hsc
  generalize nextErr s time (o0, o1, o2, o3) = er at *
  generalize nextS s time (o0, o1, o2, o3) = ns at *
  generalize nextE s time (o0, o1, o2, o3) = ne at *
  have HC0 : Hid (stuErr s = 0 → ∀ W, Keeps w W → Calls Try.prog 23 #[stuV s (.slice ta s.came.length tc)] W fun e w' => e = .returned (.int .i64 ak) ∧ Keeps W w') := fun h0 W hk => by rw [hak]; exact ack_c s _ W (HI.out.keep hk) h0
  clear h hak
  go_enter Try.func7, Try.ntmps7
  go_wp2_with fail
  obtain ⟨W1, hW1⟩ : ∃ W1, W1 = (((w.alloc (.cells #[.int .i64 s.client, .int .i64 s.next, .slice ta s.came.length tc] 24)).alloc (.cells #[.int .i64 o0, .int .i64 o1, .int .i64 o2, .int .i64 o3] 26)).alloc (.cells #[.int .i64 0, .int .i64 0, .slice none 0 0] 24)).alloc (.cells #[.int .i64 0, .int .i64 0, .int .i64 0, .int .i64 0, .int .i64 0, .int .i64 0, .int .i64 0, .int .i64 0, .int .i64 0] 28) := ⟨_, rfl⟩
  have k1 : Keeps w W1 := by rw [hW1]; exact ((((Keeps.refl _).alloc _).alloc _).alloc _).alloc _
  have B1 : StuBox w.heap.size s (.slice ta s.came.length tc) W1 := by rw [hW1]; exact (StuBox.new w s _ rfl 24).keep ((((Keeps.refl _).alloc _).alloc _).alloc _)
  have O1 : W1.cell? ⟨w.heap.size + 1, 0, none⟩ = some (.int .i64 o0) ∧ W1.cell? ⟨w.heap.size + 1, 1, none⟩ = some (.int .i64 o1) ∧ W1.cell? ⟨w.heap.size + 1, 2, none⟩ = some (.int .i64 o2) ∧ W1.cell? ⟨w.heap.size + 1, 3, none⟩ = some (.int .i64 o3) := by rw [hW1]; refine ⟨?_, ?_, ?_, ?_⟩ <;> simp [go_sem]
  have Z1 : StuBox (w.heap.size + 1 + 1) zeroStu (.slice none 0 0) W1 := by
    rw [hW1]
    have := (StuBox.new ((w.alloc (.cells #[.int .i64 s.client, .int .i64 s.next, .slice ta s.came.length tc] 24)).alloc (.cells #[.int .i64 o0, .int .i64 o1, .int .i64 o2, .int .i64 o3] 26)) zeroStu (.slice none 0 0) rfl 24).keep ((Keeps.refl _).alloc (.cells #[.int .i64 0, .int .i64 0, .int .i64 0, .int .i64 0, .int .i64 0, .int .i64 0, .int .i64 0, .int .i64 0, .int .i64 0] 28))
    simp only [World.size_alloc] at this
    exact this
  have Y1 : EBox (w.heap.size + 1 + 1 + 1) zeroE W1 := by
    rw [hW1]
    have := EBox.new (((w.alloc (.cells #[.int .i64 s.client, .int .i64 s.next, .slice ta s.came.length tc] 24)).alloc (.cells #[.int .i64 o0, .int .i64 o1, .int .i64 o2, .int .i64 o3] 26)).alloc (.cells #[.int .i64 0, .int .i64 0, .slice none 0 0] 24)) zeroE 28
    simp only [World.size_alloc] at this
    exact this
  rw [← hW1]
  clear hW1
  obtain ⟨yb, hyb⟩ : ∃ yb, yb = w.heap.size + 1 + 1 + 1 := ⟨_, rfl⟩
  rw [← hyb] at Y1 ⊢
  obtain ⟨zb, hzb⟩ : ∃ zb, zb = w.heap.size + 1 + 1 := ⟨_, rfl⟩
  rw [← hzb] at Z1 ⊢
  have HZB : Hid (zb = w.heap.size + 2 ∧ yb = w.heap.size + 3) := ⟨by omega, by omega⟩
  have hyz : (yb = zb) = False := eq_false (by omega)
  have hzy : (zb = yb) = False := eq_false (by omega)
  clear hzb hyb
  refine (stub_error s _ W1 (HI.out.keep k1)).mono ?_
  rintro e w1 ⟨rfl, hb⟩
  have HK1 : Hid (Keeps w w1) := k1.trans hb
  have HB1 : Hid (StuBox w.heap.size s (.slice ta s.came.length tc) w1) := B1.keep hb
  have HO1 : Hid (w1.cell? ⟨w.heap.size + 1, 0, none⟩ = some (.int .i64 o0) ∧ w1.cell? ⟨w.heap.size + 1, 1, none⟩ = some (.int .i64 o1) ∧ w1.cell? ⟨w.heap.size + 1, 2, none⟩ = some (.int .i64 o2) ∧ w1.cell? ⟨w.heap.size + 1, 3, none⟩ = some (.int .i64 o3)) := ⟨cell_stays O1.1 hb, cell_stays O1.2.1 hb, cell_stays O1.2.2.1 hb, cell_stays O1.2.2.2 hb⟩
  have HZ1 : Hid (StuBox zb zeroStu (.slice none 0 0) w1) := Z1.keep hb
  have HY1 : Hid (EBox yb zeroE w1) := Y1.keep hb
  clear k1 B1 O1 Z1 Y1 hb
  clear W1
  cases q1 : (stuErr s == 0) with
  | false =>
    have q1' : (stuErr s != 0) = true := by simp [bne, q1]
    have HE2 : Hid (er = stuErr s) := by show _ = _; rw [HE.out, q1]; rfl
    have H1 := (show Hid _ from HNZ.out (by rw [HE2.out]; exact q1))
    have z0 := HZ1.out.c0
    have z1 := HZ1.out.c1
    have z2 := HZ1.out.c2
    have zf := HZ1.out.fz
    have zl := HZ1.out.lt
    have y0 := HY1.out.c0
    have y1 := HY1.out.c1
    have y2 := HY1.out.c2
    have y3 := HY1.out.c3
    have y4 := HY1.out.c4
    have y5 := HY1.out.c5
    have y6 := HY1.out.c6
    have y7 := HY1.out.c7
    have y8 := HY1.out.c8
    have yf := HY1.out.fz
    have yl := HY1.out.lt
    have hk := HK1.out
    go_wp2_with fail
    refine bodyPost_ret (v := .tuple #[stuV zeroStu (.slice none 0 0), entV zeroE, .int .i64 (stuErr s)]) ?_ rfl ?_
    · simp [results, Try.results7, go_sem, zeroStu, zeroE, z0, z1, z2, y0, y1, y2, y3, y4, y5, y6, y7, y8, hyz, hzy]
    · have hzz := HZB.out
      rw [HE2.out, H1.out.1, H1.out.2]
      refine ⟨none, 0, ints_nil _, rfl, ?_⟩
      repeat refine Keeps.set ?_ (by simp <;> omega) _
      exact hk
  | true =>
    have q1' : (stuErr s != 0) = false := by simp [bne, q1]
    have q0 : stuErr s = 0 := by simpa using q1
    obtain ⟨_, ⟨hn1, hn2⟩, hck⟩ := stu_right q0
    have hl60 : s.came.length ≤ 60 := by have := came_len hck (by omega); omega
    have HE2 : Hid (er = entErr ⟨2, time, s.client, s.next, ak, o0, o1, o2, o3⟩) := by show _ = _; rw [HE.out, q1]; rfl
    have HC : Hid (∀ W, Keeps w1 W → Calls Try.prog 23 #[stuV s (.slice ta s.came.length tc)] W fun e w' => e = .returned (.int .i64 ak) ∧ Keeps W w') := fun W hk => HC0.out q0 W (HK1.out.trans hk)
    have HSA : Hid (∀ W, Keeps w1 W → W.cell? ⟨w.heap.size, 0, none⟩ = some (.int .i64 s.client) ∧ W.cell? ⟨w.heap.size, 1, none⟩ = some (.int .i64 s.next) ∧ W.cell? ⟨w.heap.size, 2, none⟩ = some (.slice ta s.came.length tc) ∧ W.cell? ⟨w.heap.size + 1, 0, none⟩ = some (.int .i64 o0) ∧ W.cell? ⟨w.heap.size + 1, 1, none⟩ = some (.int .i64 o1) ∧ W.cell? ⟨w.heap.size + 1, 2, none⟩ = some (.int .i64 o2) ∧ W.cell? ⟨w.heap.size + 1, 3, none⟩ = some (.int .i64 o3)) := fun W hk => ⟨(HB1.out.keep hk).c0, (HB1.out.keep hk).c1, (HB1.out.keep hk).c2, cell_stays HO1.out.1 hk, cell_stays HO1.out.2.1 hk, cell_stays HO1.out.2.2.1 hk, cell_stays HO1.out.2.2.2 hk⟩
    clear q0 hck HC0
    go_wp2_with fail
    go_cut [10] (fun p wc => ∃ eb, p = .pointer (some ⟨eb, 0, none⟩) ∧ EBox eb ⟨2, time, s.client, s.next, ak, o0, o1, o2, o3⟩ wc ∧ Keeps w1 wc ∧ w1.heap.size ≤ eb)
    case first =>
      obtain ⟨V0, hV0⟩ : ∃ z, z = w1.drew := ⟨_, rfl⟩
      have k0 : Keeps w1 V0 := by rw [hV0]; exact (Keeps.refl _).drew
      refine wp_region_held_drew (S := fun W => W.cell? ⟨w.heap.size, 0, none⟩ = some (.int .i64 s.client) ∧ W.cell? ⟨w.heap.size, 1, none⟩ = some (.int .i64 s.next) ∧ W.cell? ⟨w.heap.size, 2, none⟩ = some (.slice ta s.came.length tc) ∧ W.cell? ⟨w.heap.size + 1, 0, none⟩ = some (.int .i64 o0) ∧ W.cell? ⟨w.heap.size + 1, 1, none⟩ = some (.int .i64 o1) ∧ W.cell? ⟨w.heap.size + 1, 2, none⟩ = some (.int .i64 o2) ∧ W.cell? ⟨w.heap.size + 1, 3, none⟩ = some (.int .i64 o3)) (by kernel_rfl) (HSA.out _ (Keeps.refl _).drew) (fun hS => ?_)
      rw [← hV0] at hS ⊢
      clear hV0
      refine wpAnyH_take (i := 0) (v := .int .i64 time) rfl (by kernel_rfl) (by kernel_rfl) (by kernel_rfl) (fun _ _ _ h => h) (Or.inl ⟨by rfl, ?_⟩) hS ?_
      · intro w hS; go_simp
      refine wpAnyH_take (i := 1) (v := .pointer (some ⟨w.heap.size, 0, none⟩)) rfl (by kernel_rfl) (by kernel_rfl) (by kernel_rfl) (fun _ _ _ h => h) (Or.inl ⟨by rfl, ?_⟩) hS ?_
      · intro w hS; go_simp
      refine wpAnyH_take (i := 2) (v := .int .i64 s.client) rfl (by kernel_rfl) (by kernel_rfl) (by kernel_rfl) (fun _ _ _ h => h) (Or.inl ⟨by rfl, ?_⟩) hS ?_
      · intro w hS; go_simp
      refine wpAnyH_take (i := 3) (v := .pointer (some ⟨w.heap.size, 1, none⟩)) rfl (by kernel_rfl) (by kernel_rfl) (by kernel_rfl) (fun _ _ _ h => h) (Or.inl ⟨by rfl, ?_⟩) hS ?_
      · intro w hS; go_simp
      refine wpAnyH_take (i := 4) (v := .int .i64 s.next) rfl (by kernel_rfl) (by kernel_rfl) (by kernel_rfl) (fun _ _ _ h => h) (Or.inl ⟨by rfl, ?_⟩) hS ?_
      · intro w hS; go_simp
      refine wpAnyH_take (i := 5) (v := stuV s (.slice ta s.came.length tc)) rfl (by kernel_rfl) (by kernel_rfl) (by kernel_rfl) (fun _ _ _ h => h) (Or.inl ⟨by rfl, ?_⟩) hS ?_
      · intro w hS; go_simp
      refine wpAnyH_take (i := 7) (v := opV o0 o1 o2 o3) rfl (by kernel_rfl) (by kernel_rfl) (by kernel_rfl) (fun _ _ _ h => h) (Or.inl ⟨by rfl, ?_⟩) hS ?_
      · intro w hS; go_simp
      refine wpAnyH_ready (rs := [6, 9]) (by kernel_rfl) (by simp) ?_
      refine AllReadyH.cons rfl (fun K hK => ?_) (AllReadyH.cons rfl (fun K hK => ?_) (AllReadyH.nil))
      · go_simp
        refine (HC.out V0 k0).mono ?_
        rintro y V1 ⟨rfl, hb⟩
        have k1 := k0.trans hb
        clear hb
        go_simp
        refine hK.out _ _ (HSA.out _ k1) (fun hS => ?_)
        clear hK K
        refine wpAnyH_take (i := 8) (v := .agg #[.int .i64 2, .int .i64 time, .int .i64 s.client, .int .i64 s.next, .int .i64 ak, .int .i64 o0, .int .i64 o1, .int .i64 o2, .int .i64 o3]) rfl (by kernel_rfl) (by kernel_rfl) (by kernel_rfl) (fun _ _ _ h => h) (Or.inl ⟨by rfl, ?_⟩) hS ?_
        · intro w hS; go_simp
        refine wpAnyH_ready (rs := [9]) (by kernel_rfl) (by simp) ?_
        refine AllReadyH.cons rfl (fun K hK => ?_) (AllReadyH.nil)
        go_simp
        have hb : Keeps V1 (V1.alloc (.cells #[.int .i64 0, .int .i64 0, .int .i64 0, .int .i64 0, .int .i64 0, .int .i64 0, .int .i64 0, .int .i64 0, .int .i64 0] 28)) := (Keeps.refl _).alloc _
        have HQ2 : Hid (EBox V1.heap.size zeroE (V1.alloc (.cells #[.int .i64 0, .int .i64 0, .int .i64 0, .int .i64 0, .int .i64 0, .int .i64 0, .int .i64 0, .int .i64 0, .int .i64 0] 28))) := EBox.new V1 zeroE 28
        generalize V1.alloc (.cells #[.int .i64 0, .int .i64 0, .int .i64 0, .int .i64 0, .int .i64 0, .int .i64 0, .int .i64 0, .int .i64 0, .int .i64 0] 28) = V2 at *
        have k2 := k1.trans hb
        clear hb
        refine hK.out _ _ (HSA.out _ k2) (fun hS => ?_)
        clear hK K
        refine wpAnyH_ready (rs := [10]) (by kernel_rfl) (by simp) ?_
        refine AllReadyH.cons rfl (fun K hK => ?_) (AllReadyH.nil)
        have z0 := HQ2.out.c0
        have z1 := HQ2.out.c1
        have z2 := HQ2.out.c2
        have z3 := HQ2.out.c3
        have z4 := HQ2.out.c4
        have z5 := HQ2.out.c5
        have z6 := HQ2.out.c6
        have z7 := HQ2.out.c7
        have z8 := HQ2.out.c8
        have zf := HQ2.out.fz
        have zl := HQ2.out.lt
        go_simp
        have BP := HQ2.out.put ⟨2, time, s.client, s.next, ak, o0, o1, o2, o3⟩
        have KF := But.to k2 k1.size BP.2
        refine hK.out _ _ (HSA.out _ KF) (fun hS => ?_)
        clear hK K
        refine wpAnyH_done (by kernel_rfl) ?_ _
        go_wp2_with fail
        go_meet
        exact ⟨_, rfl, BP.1, KF, k1.size⟩
      · go_simp
        have hb : Keeps V0 (V0.alloc (.cells #[.int .i64 0, .int .i64 0, .int .i64 0, .int .i64 0, .int .i64 0, .int .i64 0, .int .i64 0, .int .i64 0, .int .i64 0] 28)) := (Keeps.refl _).alloc _
        have HQ1 : Hid (EBox V0.heap.size zeroE (V0.alloc (.cells #[.int .i64 0, .int .i64 0, .int .i64 0, .int .i64 0, .int .i64 0, .int .i64 0, .int .i64 0, .int .i64 0, .int .i64 0] 28))) := EBox.new V0 zeroE 28
        generalize V0.alloc (.cells #[.int .i64 0, .int .i64 0, .int .i64 0, .int .i64 0, .int .i64 0, .int .i64 0, .int .i64 0, .int .i64 0, .int .i64 0] 28) = V1 at *
        have k1 := k0.trans hb
        clear hb
        refine hK.out _ _ (HSA.out _ k1) (fun hS => ?_)
        clear hK K
        refine wpAnyH_ready (rs := [6]) (by kernel_rfl) (by simp) ?_
        refine AllReadyH.cons rfl (fun K hK => ?_) (AllReadyH.nil)
        go_simp
        refine (HC.out V1 k1).mono ?_
        rintro y V2 ⟨rfl, hb⟩
        have k2 := k1.trans hb
        have HQ2 : Hid (EBox V0.heap.size zeroE V2) := HQ1.out.keep hb
        clear hb
        go_simp
        refine hK.out _ _ (HSA.out _ k2) (fun hS => ?_)
        clear hK K
        refine wpAnyH_take (i := 8) (v := .agg #[.int .i64 2, .int .i64 time, .int .i64 s.client, .int .i64 s.next, .int .i64 ak, .int .i64 o0, .int .i64 o1, .int .i64 o2, .int .i64 o3]) rfl (by kernel_rfl) (by kernel_rfl) (by kernel_rfl) (fun _ _ _ h => h) (Or.inl ⟨by rfl, ?_⟩) hS ?_
        · intro w hS; go_simp
        refine wpAnyH_ready (rs := [10]) (by kernel_rfl) (by simp) ?_
        refine AllReadyH.cons rfl (fun K hK => ?_) (AllReadyH.nil)
        have z0 := HQ2.out.c0
        have z1 := HQ2.out.c1
        have z2 := HQ2.out.c2
        have z3 := HQ2.out.c3
        have z4 := HQ2.out.c4
        have z5 := HQ2.out.c5
        have z6 := HQ2.out.c6
        have z7 := HQ2.out.c7
        have z8 := HQ2.out.c8
        have zf := HQ2.out.fz
        have zl := HQ2.out.lt
        go_simp
        have BP := HQ2.out.put ⟨2, time, s.client, s.next, ak, o0, o1, o2, o3⟩
        have KF := But.to k2 k0.size BP.2
        refine hK.out _ _ (HSA.out _ KF) (fun hS => ?_)
        clear hK K
        refine wpAnyH_done (by kernel_rfl) ?_ _
        go_wp2_with fail
        go_meet
        exact ⟨_, rfl, BP.1, KF, k0.size⟩
    case rest =>
      obtain ⟨cb, rfl, hE, hkc, heb⟩ := hcut
      obtain ⟨w2, hw2⟩ : ∃ z, z = wc := ⟨_, rfl⟩
      rw [← hw2] at hE hkc ⊢
      clear hw2
      have HK2 : Hid (Keeps w w2) := HK1.out.trans hkc
      have HB2 : Hid (StuBox w.heap.size s (.slice ta s.came.length tc) w2) := HB1.out.keep hkc
      have HZ2 : Hid (StuBox zb zeroStu (.slice none 0 0) w2) := HZ1.out.keep hkc
      have HY2 : Hid (EBox yb zeroE w2) := HY1.out.keep hkc
      have HE2b : Hid (EBox cb ⟨2, time, s.client, s.next, ak, o0, o1, o2, o3⟩ w2) := hE
      have HCB : Hid (w1.heap.size ≤ cb ∧ w.heap.size < w1.heap.size ∧ zb < w1.heap.size ∧ yb < w1.heap.size) := ⟨heb, HB1.out.lt, HZ1.out.lt, HY1.out.lt⟩
      clear HSA HC HO1 HB1 HZ1 HY1 HK1 hkc hE heb
      obtain ⟨ce, hce⟩ : ∃ ce : Ent, ce = ⟨2, time, s.client, s.next, ak, o0, o1, o2, o3⟩ := ⟨_, rfl⟩
      rw [← hce] at HE2b HE2 HNO
      clear hce
      have e0 := HE2b.out.c0
      have e1 := HE2b.out.c1
      have e2 := HE2b.out.c2
      have e3 := HE2b.out.c3
      have e4 := HE2b.out.c4
      have e5 := HE2b.out.c5
      have e6 := HE2b.out.c6
      have e7 := HE2b.out.c7
      have e8 := HE2b.out.c8
      have el := HE2b.out.lt
      go_wp2_with fail
      refine (entry_error ce w2).mono ?_
      rintro y w3 ⟨rfl, hb⟩
      have HK3 : Hid (Keeps w w3) := HK2.out.trans hb
      have HB3 : Hid (StuBox w.heap.size s (.slice ta s.came.length tc) w3) := HB2.out.keep hb
      have HZ3 : Hid (StuBox zb zeroStu (.slice none 0 0) w3) := HZ2.out.keep hb
      have HY3 : Hid (EBox yb zeroE w3) := HY2.out.keep hb
      have HE3 : Hid (EBox cb ce w3) := HE2b.out.keep hb
      clear hb e0 e1 e2 e3 e4 e5 e6 e7 e8 el HK2 HB2 HZ2 HY2 HE2b
      generalize entErr ce = ee at *
      cases q2 : (ee == 0) with
      | false =>
        have q2' : (ee != 0) = true := by simp [bne, q2]
        have H1 := (show Hid _ from HNZ.out (by rw [HE2.out]; exact q2))
        have z0 := HZ3.out.c0
        have z1 := HZ3.out.c1
        have z2 := HZ3.out.c2
        have zf := HZ3.out.fz
        have zl := HZ3.out.lt
        have y0 := HY3.out.c0
        have y1 := HY3.out.c1
        have y2 := HY3.out.c2
        have y3 := HY3.out.c3
        have y4 := HY3.out.c4
        have y5 := HY3.out.c5
        have y6 := HY3.out.c6
        have y7 := HY3.out.c7
        have y8 := HY3.out.c8
        have yf := HY3.out.fz
        have yl := HY3.out.lt
        have hk := HK3.out
        go_wp2_with fail
        refine bodyPost_ret (v := .tuple #[stuV zeroStu (.slice none 0 0), entV zeroE, .int .i64 ee]) ?_ rfl ?_
        · simp [results, Try.results7, go_sem, zeroStu, zeroE, z0, z1, z2, y0, y1, y2, y3, y4, y5, y6, y7, y8, hyz, hzy]
        · have hzz := HZB.out
          rw [HE2.out, H1.out.1, H1.out.2]
          refine ⟨none, 0, ints_nil _, rfl, ?_⟩
          repeat refine Keeps.set ?_ (by simp <;> omega) _
          exact hk
      | true =>
        have q2' : (ee != 0) = false := by simp [bne, q2]
        have e0 : ee = 0 := by simpa using q2
        have HN := (show Hid _ from HNO.out (by rw [HE2.out, e0]))
        clear q2
        subst e0
        have HD : Hid (w.heap.size ≠ zb ∧ w.heap.size ≠ yb ∧ cb ≠ zb ∧ cb ≠ yb ∧ zb ≠ yb ∧ w.heap.size ≤ zb ∧ w.heap.size ≤ yb ∧ zb < w3.heap.size ∧ yb < w3.heap.size) := by
          have h1 := HCB.out
          have h2 := HZB.out
          have h3 := HZ3.out.lt
          have h4 := HY3.out.lt
          exact ⟨by omega, by omega, by omega, by omega, by omega, by omega, by omega, h3, h4⟩
        have HSX : Hid (∀ W, StuBox w.heap.size s (.slice ta s.came.length tc) W → EBox cb ce W → W.cell? ⟨w.heap.size, 0, none⟩ = some (.int .i64 s.client) ∧ W.cell? ⟨w.heap.size, 1, none⟩ = some (.int .i64 s.next) ∧ W.cell? ⟨w.heap.size, 2, none⟩ = some (.slice ta s.came.length tc) ∧ W.cell? ⟨cb, 0, none⟩ = some (.int .i64 ce.kind) ∧ W.cell? ⟨cb, 1, none⟩ = some (.int .i64 ce.time) ∧ W.cell? ⟨cb, 2, none⟩ = some (.int .i64 ce.client) ∧ W.cell? ⟨cb, 3, none⟩ = some (.int .i64 ce.seq) ∧ W.cell? ⟨cb, 4, none⟩ = some (.int .i64 ce.ack) ∧ W.cell? ⟨cb, 5, none⟩ = some (.int .i64 ce.ok) ∧ W.cell? ⟨cb, 6, none⟩ = some (.int .i64 ce.okey) ∧ W.cell? ⟨cb, 7, none⟩ = some (.int .i64 ce.oto) ∧ W.cell? ⟨cb, 8, none⟩ = some (.int .i64 ce.on)) := fun W B C => ⟨B.c0, B.c1, B.c2, C.c0, C.c1, C.c2, C.c3, C.c4, C.c5, C.c6, C.c7, C.c8⟩
        have HSA : Hid (∀ W, Keeps w3 W → W.cell? ⟨w.heap.size, 0, none⟩ = some (.int .i64 s.client) ∧ W.cell? ⟨w.heap.size, 1, none⟩ = some (.int .i64 s.next) ∧ W.cell? ⟨w.heap.size, 2, none⟩ = some (.slice ta s.came.length tc) ∧ W.cell? ⟨cb, 0, none⟩ = some (.int .i64 ce.kind) ∧ W.cell? ⟨cb, 1, none⟩ = some (.int .i64 ce.time) ∧ W.cell? ⟨cb, 2, none⟩ = some (.int .i64 ce.client) ∧ W.cell? ⟨cb, 3, none⟩ = some (.int .i64 ce.seq) ∧ W.cell? ⟨cb, 4, none⟩ = some (.int .i64 ce.ack) ∧ W.cell? ⟨cb, 5, none⟩ = some (.int .i64 ce.ok) ∧ W.cell? ⟨cb, 6, none⟩ = some (.int .i64 ce.okey) ∧ W.cell? ⟨cb, 7, none⟩ = some (.int .i64 ce.oto) ∧ W.cell? ⟨cb, 8, none⟩ = some (.int .i64 ce.on)) := fun W hk => HSX.out W (HB3.out.keep hk) (HE3.out.keep hk)
        go_wp2_with fail
        obtain ⟨V0, hV0⟩ : ∃ z, z = w3.drew := ⟨_, rfl⟩
        have k0 : Keeps w3 V0 := by rw [hV0]; exact (Keeps.refl _).drew
        refine wp_region_held_drew (S := fun W => W.cell? ⟨w.heap.size, 0, none⟩ = some (.int .i64 s.client) ∧ W.cell? ⟨w.heap.size, 1, none⟩ = some (.int .i64 s.next) ∧ W.cell? ⟨w.heap.size, 2, none⟩ = some (.slice ta s.came.length tc) ∧ W.cell? ⟨cb, 0, none⟩ = some (.int .i64 ce.kind) ∧ W.cell? ⟨cb, 1, none⟩ = some (.int .i64 ce.time) ∧ W.cell? ⟨cb, 2, none⟩ = some (.int .i64 ce.client) ∧ W.cell? ⟨cb, 3, none⟩ = some (.int .i64 ce.seq) ∧ W.cell? ⟨cb, 4, none⟩ = some (.int .i64 ce.ack) ∧ W.cell? ⟨cb, 5, none⟩ = some (.int .i64 ce.ok) ∧ W.cell? ⟨cb, 6, none⟩ = some (.int .i64 ce.okey) ∧ W.cell? ⟨cb, 7, none⟩ = some (.int .i64 ce.oto) ∧ W.cell? ⟨cb, 8, none⟩ = some (.int .i64 ce.on)) (by kernel_rfl) (HSA.out _ (Keeps.refl _).drew) (fun hS => ?_)
        rw [← hV0] at hS ⊢
        clear hV0
        refine wpAnyH_take (i := 0) (v := .pointer (some ⟨w.heap.size, 0, none⟩)) rfl (by kernel_rfl) (by kernel_rfl) (by kernel_rfl) (fun _ _ _ h => h) (Or.inl ⟨by rfl, ?_⟩) hS ?_
        · intro w hS; go_simp
        refine wpAnyH_take (i := 1) (v := .int .i64 s.client) rfl (by kernel_rfl) (by kernel_rfl) (by kernel_rfl) (fun _ _ _ h => h) (Or.inl ⟨by rfl, ?_⟩) hS ?_
        · intro w hS; go_simp
        refine wpAnyH_take (i := 2) (v := .pointer (some ⟨w.heap.size, 1, none⟩)) rfl (by kernel_rfl) (by kernel_rfl) (by kernel_rfl) (fun _ _ _ h => h) (Or.inl ⟨by rfl, ?_⟩) hS ?_
        · intro w hS; go_simp
        refine wpAnyH_take (i := 3) (v := .int .i64 s.next) rfl (by kernel_rfl) (by kernel_rfl) (by kernel_rfl) (fun _ _ _ h => h) (Or.inl ⟨by rfl, ?_⟩) hS ?_
        · intro w hS; go_simp
        refine wpAnyH_take (i := 4) (v := .int .i64 (s.next + 1)) rfl (by kernel_rfl) (by kernel_rfl) (by kernel_rfl) (fun _ _ _ h => h) (Or.inl ⟨by rfl, ?_⟩) hS ?_
        · intro w hS
          go_simp
          first | (rw [IntKind.wrap_i64]; omega) | (simp only [IntKind.wrap_i64, wrap64]; omega)
        refine wpAnyH_take (i := 6) (v := .pointer (some ⟨w.heap.size, 2, none⟩)) rfl (by kernel_rfl) (by kernel_rfl) (by kernel_rfl) (fun _ _ _ h => h) (Or.inl ⟨by rfl, ?_⟩) hS ?_
        · intro w hS; go_simp
        refine wpAnyH_take (i := 7) (v := .slice ta s.came.length tc) rfl (by kernel_rfl) (by kernel_rfl) (by kernel_rfl) (fun _ _ _ h => h) (Or.inl ⟨by rfl, ?_⟩) hS ?_
        · intro w hS; go_simp
        refine wpAnyH_take (i := 10) (v := entV ce) rfl (by kernel_rfl) (by kernel_rfl) (by kernel_rfl) (fun _ _ _ h => h) (Or.inl ⟨by rfl, ?_⟩) hS ?_
        · intro w hS; go_simp
        refine wpAnyH_ready (rs := [5]) (by kernel_rfl) (by simp) ?_
        refine AllReadyH.cons rfl (fun K hK => ?_) (AllReadyH.nil)
        go_simp
        have hb : Keeps V0 (V0.alloc (.cells #[] 3)) := (Keeps.refl _).alloc _
        have hmade := World.ownsRow_made (base := V0.heap.size) (e := 3) (size := 1) V0 #[] 0 (Nat.le_refl _) (by unfold maxLen; omega) rfl
        obtain ⟨V1, hV1⟩ : ∃ z, z = V0.alloc (.cells #[] 3) := ⟨_, rfl⟩
        rw [← hV1] at hb hmade ⊢
        clear hV1
        have k1 := k0.trans hb
        refine hK.out _ _ (HSA.out _ k1) (fun hS => ?_)
        clear hK K
        obtain ⟨v1, V2, hr1, ho1, hg1⟩ := run_append_read V1 V0.heap.size 22 22 3 1 8 _ infoInt Try.underlying22 rfl (by decide) _ 0 [] hmade (.slice ta s.came.length tc) s.came.length (intCells s.came) (HI.out.keep (HK3.out.trans k1)) (by intro u hu; obtain ⟨n, _, rfl⟩ := List.mem_map.1 hu; rfl) (by unfold maxLen; omega) (by omega) hb.size
        have hb2 : Keeps V0 V2 := keeps_grown hb hg1 (fun g h => by have := (hmade.lt g h).1; omega)
        rw [Nat.zero_add, List.nil_append] at ho1
        obtain ⟨qa, qc, rfl, _⟩ := (RowAt.of_owns ho1).len
        refine wpAnyH_ready (rs := [8]) (by kernel_rfl) (by simp) ?_
        refine AllReadyH.cons rfl (fun K hK => ?_) (AllReadyH.nil)
        refine step_append_run rfl _ _ 22 rfl (by simp [Act.eval, Act.put]) (by simp [Act.eval, Act.put]) hr1 ?_
        have k2 := k0.trans hb2
        refine hK.out _ _ (HSA.out _ k2) (fun hS => ?_)
        clear hK K hb hmade hr1 hg1
        have HIG : Hid (∃ g, IntsOn g V2 (.slice qa s.came.length qc) s.came ∧ w3.heap.size ≤ g) := by
          obtain ⟨g, hg, h1, _⟩ := IntsOn.of_owns ho1
          have h2 := k0.size
          exact ⟨g, hg, by omega⟩
        clear ho1
        refine wpAnyH_take (i := 9) (v := .agg #[.int .i64 s.client, .int .i64 (s.next + 1), .slice qa s.came.length qc]) rfl (by kernel_rfl) (by kernel_rfl) (by kernel_rfl) (fun _ _ _ h => h) (Or.inl ⟨by rfl, ?_⟩) hS ?_
        · intro w hS; go_simp
        refine wpAnyH_ready (rs := [11]) (by kernel_rfl) (by simp) ?_
        refine AllReadyH.cons rfl (fun K hK => ?_) (AllReadyH.nil)
        have z0 := (HZ3.out.keep k2).c0
        have z1 := (HZ3.out.keep k2).c1
        have z2 := (HZ3.out.keep k2).c2
        have zf := (HZ3.out.keep k2).fz
        have zl := (HZ3.out.keep k2).lt
        go_simp
        have BP := (HZ3.out.keep k2).put ⟨s.client, s.next + 1, s.came⟩ (.slice qa s.came.length qc)
        obtain ⟨WF, hWF⟩ : ∃ z, z = ((V2.setCell ⟨zb, 0, none⟩ (.int .i64 s.client)).setCell ⟨zb, 1, none⟩ (.int .i64 (s.next + 1))).setCell ⟨zb, 2, none⟩ (.slice qa s.came.length qc) := ⟨_, rfl⟩
        rw [← hWF] at BP ⊢
        clear hWF z0 z1 z2 zf zl
        have hd := HD.out
        have HYF : Hid (EBox yb zeroE WF) := (HY3.out.keep k2).other BP.2 (by omega)
        have HNF : Hid (StuBox w.heap.size s (.slice ta s.came.length tc) WF) := (HB3.out.keep k2).other BP.2 (by omega)
        have HEF : Hid (EBox cb ce WF) := (HE3.out.keep k2).other BP.2 (by omega)
        have HKF : Hid (Keeps w WF) := But.to (HK3.out.trans k2) (by omega) BP.2
        have HBP := (show Hid _ from BP)
        clear BP hd
        refine hK.out _ _ (HSX.out _ HNF.out HEF.out) (fun hS => ?_)
        clear hK K
        refine wpAnyH_ready (rs := [12]) (by kernel_rfl) (by simp) ?_
        refine AllReadyH.cons rfl (fun K hK => ?_) (AllReadyH.nil)
        have y0 := HYF.out.c0
        have y1 := HYF.out.c1
        have y2 := HYF.out.c2
        have y3 := HYF.out.c3
        have y4 := HYF.out.c4
        have y5 := HYF.out.c5
        have y6 := HYF.out.c6
        have y7 := HYF.out.c7
        have y8 := HYF.out.c8
        have yf := HYF.out.fz
        have yl := HYF.out.lt
        go_simp
        have BQ := HYF.out.put ce
        obtain ⟨WG, hWG⟩ : ∃ z, z = (((((((((WF.setCell ⟨yb, 0, none⟩ (.int .i64 ce.kind)).setCell ⟨yb, 1, none⟩ (.int .i64 ce.time)).setCell ⟨yb, 2, none⟩ (.int .i64 ce.client)).setCell ⟨yb, 3, none⟩ (.int .i64 ce.seq)).setCell ⟨yb, 4, none⟩ (.int .i64 ce.ack)).setCell ⟨yb, 5, none⟩ (.int .i64 ce.ok)).setCell ⟨yb, 6, none⟩ (.int .i64 ce.okey)).setCell ⟨yb, 7, none⟩ (.int .i64 ce.oto)).setCell ⟨yb, 8, none⟩ (.int .i64 ce.on)) := ⟨_, rfl⟩
        rw [← hWG] at BQ ⊢
        clear hWG y0 y1 y2 y3 y4 y5 y6 y7 y8 yf yl
        have hd := HD.out
        have HZG : Hid (StuBox zb ⟨s.client, s.next + 1, s.came⟩ (.slice qa s.came.length qc) WG) := HBP.out.1.other BQ.2 (by omega)
        have HKG : Hid (Keeps w WG) := But.to HKF.out (by omega) BQ.2
        have HNG := HNF.out.other BQ.2 (by omega)
        have HEG := HEF.out.other BQ.2 (by omega)
        have HBQ := (show Hid _ from BQ)
        clear BQ hd
        refine hK.out _ _ (HSX.out _ HNG HEG) (fun hS => ?_)
        clear hK K HNG HEG
        refine wpAnyH_take (i := 13) (v := .int .i64 0) rfl (by kernel_rfl) (by kernel_rfl) (by kernel_rfl) (fun _ _ _ h => h) (Or.inl ⟨by rfl, ?_⟩) hS ?_
        · intro w hS; go_simp
        refine wpAnyH_done (by kernel_rfl) ?_ _
        go_wp2_with fail
        have c0 := HZG.out.c0
        have c1 := HZG.out.c1
        have c2 := HZG.out.c2
        have d0 := HBQ.out.1.c0
        have d1 := HBQ.out.1.c1
        have d2 := HBQ.out.1.c2
        have d3 := HBQ.out.1.c3
        have d4 := HBQ.out.1.c4
        have d5 := HBQ.out.1.c5
        have d6 := HBQ.out.1.c6
        have d7 := HBQ.out.1.c7
        have d8 := HBQ.out.1.c8
        refine bodyPost_ret (v := .tuple #[stuV ⟨s.client, s.next + 1, s.came⟩ (.slice qa s.came.length qc), entV ce, .int .i64 0]) ?_ rfl ?_
        · simp only [results, Try.results7, go_sem, c0, c1, c2, d0, d1, d2, d3, d4, d5, d6, d7, d8]
          simp [go_sem, c0, c1, c2, d0, d1, d2, d3, d4, d5, d6, d7, d8]
        · rw [HE2.out, HN.out.1, HN.out.2]
          have hd := HD.out
          obtain ⟨g, hg, hg1⟩ := HIG.out
          exact ⟨qa, qc, ((hg.but HBP.out.2 (by omega)).but HBQ.out.2 (by omega)).kept, rfl, HKG.out⟩
end Go.Proofs.Yteabfjpajgakiag
