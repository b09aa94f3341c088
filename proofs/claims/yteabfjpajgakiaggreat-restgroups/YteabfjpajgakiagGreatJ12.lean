/- ApJ, FoA, OpenEnts, OpI, ApM0, ApP, ApN0, ApQ0, FoB, StP, FoC, FoD, Ints. -/
import Derived.RangeFuncNested
import Derived.RangeFuncBound
import Derived.RangeFuncCalls
import Derived.RangeFuncLeaves
import Derived.Shelf.Abstract
import Derived.Shelf.RegionOpen
import Derived.OwnWalkIn
import Derived.TacticsInMore
import Derived.LoopNIn
import Derived.LoopIn
import Derived.Test.YteabfjpajgakiagGreatJ01
import Derived.Test.YteabfjpajgakiagGreatJ02
import Derived.Test.YteabfjpajgakiagGreatJ03
import Derived.Test.YteabfjpajgakiagGreatJ10
import Derived.Test.YteabfjpajgakiagGreatJ11
/- Applying: the machine's take, and One. -/
set_option linter.unusedSimpArgs false
set_option linter.unusedVariables false
set_option maxRecDepth 10000
namespace Go.Proofs.YteabfjpajgakiagGreat
open Go.RowKit

def takenSt (s : St) (e : Ent) : St := if e.kind == 1 then openedSt s e.client else if e.kind == 3 then closedSt s e.client else callSt s e
def takenAns (s : St) (e : Ent) : Int := if e.kind == 1 then openedAns s e.client else if e.kind == 3 then closedAns s e.client else callAns s e
def takenDone (s : St) (e : Ent) : Bool := if e.kind == 1 then false else if e.kind == 3 then false else callDone s e

/-- A right entry. -/
theorem ent_right {e : Ent} (h : entErr e = 0) : (1 ≤ e.kind ∧ e.kind ≤ 3) ∧ (0 ≤ e.time ∧ e.time ≤ 999) ∧ (1 ≤ e.client ∧ e.client ≤ 5) ∧ (e.kind = 2 → (1 ≤ e.seq ∧ e.seq ≤ 60) ∧ (0 ≤ e.ack ∧ e.ack ≤ e.seq - 1) ∧ opErr e.ok e.okey e.oto e.on = 0) ∧ (e.kind ≠ 2 → e.seq = 0 ∧ e.ack = 0 ∧ e.ok = 0 ∧ e.okey = 0 ∧ e.oto = 0 ∧ e.on = 0) := by
  unfold entErr at h
  split at h
  · rename_i h1
    split at h
    · rename_i h2
      simp only [entIn, Bool.and_eq_true, Bool.or_eq_true] at h2
      refine ⟨inB_iff.1 h1, inB_iff.1 h2.1, inB_iff.1 h2.2.1, ?_, ?_⟩
      · intro hk
        rw [if_pos (by simpa using hk)] at h
        rcases h2.2.2 with h3 | h3
        · simp [hk] at h3
        · exact ⟨inB_iff.1 h3.1, inB_iff.1 h3.2, h⟩
      · intro hk
        rw [if_neg (by simpa using hk)] at h
        split at h
        · rename_i h3
          simp [opNone] at h3
          exact h3
        · cases h
    · cases h
  · cases h

set_option maxHeartbeats 4000000 in
theorem take_c (s : St) (e : Ent) (b base : Nat) (x : Value) (w : World) (hB : StBox b s x w) (hO : OwnTab base w x s.tab) (hbb : b < base) (hbw : base ≤ w.heap.size) (he : tabErr s.tab = 0) (hent : entErr e = 0) :
    Calls Tryz.prog 83 #[macV b, entV e] w fun y w' => y = .returned (.tuple #[.int .i64 (takenAns s e), .bool (takenDone s e)]) ∧ ∃ x', StBox b (takenSt s e) x' w' ∧ OwnTab base w' x' (takenSt s e).tab ∧ But b w w' := by
  have hbl := hB.lt
  have HB : Hid (StBox b s x w) := hB
  have HT : Hid (OwnTab base w x s.tab) := hO
  have HR := (show Hid _ from ent_right hent)
  have HA : Hid (takenAns s e = if e.kind == 1 then openedAns s e.client else if e.kind == 3 then closedAns s e.client else callAns s e) := rfl
  have HD : Hid (takenDone s e = if e.kind == 1 then false else if e.kind == 3 then false else callDone s e) := rfl
  have HS : Hid (takenSt s e = if e.kind == 1 then openedSt s e.client else if e.kind == 3 then closedSt s e.client else callSt s e) := rfl
  clear hB hO
  have k1 : Keeps w ((w.alloc (.cells #[.pointer (some ⟨b, 0, none⟩)] 128)).alloc (.cells #[.int .i64 e.kind, .int .i64 e.time, .int .i64 e.client, .int .i64 e.seq, .int .i64 e.ack, .int .i64 e.ok, .int .i64 e.okey, .int .i64 e.oto, .int .i64 e.on] 35)) := ((Keeps.refl _).alloc _).alloc _
  cases q1 : (e.kind == 1) with
  | true =>
    have H1 : Hid (takenAns s e = openedAns s e.client ∧ takenDone s e = false ∧ takenSt s e = openedSt s e.client) := ⟨by rw [HA.out, q1]; rfl, by rw [HD.out, q1]; rfl, by rw [HS.out, q1]; rfl⟩
    go_enter Tryz.func83, Tryz.ntmps83
    go_wp2_with fail
    refine (open_c s b base x e.client _ (HB.out.keep k1) (HT.out.keep k1) hbb (Nat.le_trans hbw k1.size) he).mono ?_
    rintro y w1 ⟨rfl, x', B1, T1, F1⟩
    have HB1 : Hid (StBox b (openedSt s e.client) x' w1) := B1
    have HT1 : Hid (OwnTab base w1 x' (openedSt s e.client).tab) := T1
    have HF1 : Hid (But b w w1) := (But.of k1).trans F1
    clear B1 T1 F1 k1
    go_wp2_with fail
    go_ret2
    refine ⟨by rw [H1.out.1, H1.out.2.1]; rfl, ?_⟩
    rw [H1.out.2.2]
    exact ⟨x', HB1.out, HT1.out, HF1.out⟩
  | false =>
    cases q2 : (e.kind == 3) with
    | true =>
      have H1 : Hid (takenAns s e = closedAns s e.client ∧ takenDone s e = false ∧ takenSt s e = closedSt s e.client) := ⟨by rw [HA.out, q1, q2]; rfl, by rw [HD.out, q1, q2]; rfl, by rw [HS.out, q1, q2]; rfl⟩
      go_enter Tryz.func83, Tryz.ntmps83
      go_wp2_with fail
      refine (close_c s b base x e.client _ (HB.out.keep k1) (HT.out.keep k1) hbb (Nat.le_trans hbw k1.size)).mono ?_
      rintro y w1 ⟨rfl, x', B1, T1, F1⟩
      have HB1 : Hid (StBox b (closedSt s e.client) x' w1) := B1
      have HT1 : Hid (OwnTab base w1 x' (closedSt s e.client).tab) := T1
      have HF1 : Hid (But b w w1) := (But.of k1).trans F1
      clear B1 T1 F1 k1
      go_wp2_with fail
      go_ret2
      refine ⟨by rw [H1.out.1, H1.out.2.1]; rfl, ?_⟩
      rw [H1.out.2.2]
      exact ⟨x', HB1.out, HT1.out, HF1.out⟩
    | false =>
      have H1 : Hid (takenAns s e = callAns s e ∧ takenDone s e = callDone s e ∧ takenSt s e = callSt s e) := ⟨by rw [HA.out, q1, q2]; rfl, by rw [HD.out, q1, q2]; rfl, by rw [HS.out, q1, q2]; rfl⟩
      have hk2 : e.kind = 2 := by
        have := HR.out.1
        simp at q1 q2
        omega
      have hc := HR.out.2.2.2.1 hk2
      have C : Hid (Calls Tryz.prog 92 #[macV b, entV e] ((w.alloc (.cells #[.pointer (some ⟨b, 0, none⟩)] 128)).alloc (.cells #[.int .i64 e.kind, .int .i64 e.time, .int .i64 e.client, .int .i64 e.seq, .int .i64 e.ack, .int .i64 e.ok, .int .i64 e.okey, .int .i64 e.oto, .int .i64 e.on] 35)) fun y w' => y = .returned (.tuple #[.int .i64 (callAns s e), .bool (callDone s e)]) ∧ ∃ x', StBox b (callSt s e) x' w' ∧ OwnTab base w' x' (callSt s e).tab ∧ But b ((w.alloc (.cells #[.pointer (some ⟨b, 0, none⟩)] 128)).alloc (.cells #[.int .i64 e.kind, .int .i64 e.time, .int .i64 e.client, .int .i64 e.seq, .int .i64 e.ack, .int .i64 e.ok, .int .i64 e.okey, .int .i64 e.oto, .int .i64 e.on] 35)) w') := call_c s e b base x _ (HB.out.keep k1) (HT.out.keep k1) hbb (Nat.le_trans hbw k1.size) he hc.1.1 hc.1.2 hc.2.1.1 (by omega)
      clear hk2 hc
      go_enter Tryz.func83, Tryz.ntmps83
      go_wp2_with fail
      refine C.out.mono ?_
      rintro y w1 ⟨rfl, x', B1, T1, F1⟩
      have HB1 : Hid (StBox b (callSt s e) x' w1) := B1
      have HT1 : Hid (OwnTab base w1 x' (callSt s e).tab) := T1
      have HF1 : Hid (But b w w1) := (But.of k1).trans F1
      clear B1 T1 F1 k1 C
      go_wp2_with fail
      go_ret2
      refine ⟨by rw [H1.out.1, H1.out.2.1]; rfl, ?_⟩
      rw [H1.out.2.2]
      exact ⟨x', HB1.out, HT1.out, HF1.out⟩

def zeroSt : St := ⟨0, 0, 0, 0, 0, 0, []⟩
/-- One's answers. -/
def oneSt (s : St) (e : Ent) : St := if bothErr s e == 0 then takenSt (ticked s e.time) e else zeroSt
def oneAns (s : St) (e : Ent) : Int := if bothErr s e == 0 then takenAns (ticked s e.time) e else 0
def oneDone (s : St) (e : Ent) : Bool := if bothErr s e == 0 then takenDone (ticked s e.time) e else false

theorem both_right {s : St} {e : Ent} (h : bothErr s e = 0) : stErr s = 0 ∧ entErr e = 0 ∧ s.at_ ≠ 50 := by
  unfold bothErr at h
  split at h
  · rename_i h1
    split at h
    · rename_i h2
      split at h
      · cases h
      · rename_i h3
        exact ⟨by simpa using h1, by simpa using h2, by simpa using h3⟩
    · rename_i h2
      simp [h] at h2
  · rename_i h1
    simp [h] at h1

/-- The box of a state that has just been laid. -/
theorem StBox.new (w : World) (s : St) (x : Value) (t : TypeId) : StBox w.heap.size s x (w.alloc (.cells #[.int .i64 s.at_, .int .i64 s.clock, .int .i64 s.v0, .int .i64 s.v1, .int .i64 s.v2, .int .i64 s.v3, x] t)) :=
  ⟨by simp [go_sem], by simp [go_sem], by simp [go_sem], by simp [go_sem], by simp [go_sem], by simp [go_sem], by simp [go_sem], fun i => by simp [go_sem]⟩

set_option maxHeartbeats 4000000 in
theorem one_c (s : St) (e : Ent) (x : Value) (w : World) (hT : TabAt w x s.tab) :
    Calls Tryz.prog 63 #[stV s x, entV e] w fun y w' => ∃ x', OwnTab w.heap.size w' x' (oneSt s e).tab ∧ y = .returned (.tuple #[stV (oneSt s e) x', .int .i64 (oneAns s e), .bool (oneDone s e), .int .i64 (bothErr s e)]) ∧ Keeps w w' := by
  obtain ⟨xa, xc, rfl, _⟩ := hT.len
  have HT : Hid (TabAt w (.slice xa s.tab.length xc) s.tab) := hT
  clear hT
  have HS : Hid (oneSt s e = if bothErr s e == 0 then takenSt (ticked s e.time) e else zeroSt) := rfl
  have HA : Hid (oneAns s e = if bothErr s e == 0 then takenAns (ticked s e.time) e else 0) := rfl
  have HD : Hid (oneDone s e = if bothErr s e == 0 then takenDone (ticked s e.time) e else false) := rfl
  have HBR : Hid (bothErr s e = 0 → stErr s = 0 ∧ entErr e = 0 ∧ s.at_ ≠ 50) := both_right
  have HZT : Hid (zeroSt.tab = []) := rfl
  go_enter Tryz.func63, Tryz.ntmps63
  go_wp2_with fail
  obtain ⟨W1, hW1⟩ : ∃ W1, W1 = ((w.alloc (.cells #[.int .i64 s.at_, .int .i64 s.clock, .int .i64 s.v0, .int .i64 s.v1, .int .i64 s.v2, .int .i64 s.v3, .slice xa s.tab.length xc] 25)).alloc (.cells #[.int .i64 e.kind, .int .i64 e.time, .int .i64 e.client, .int .i64 e.seq, .int .i64 e.ack, .int .i64 e.ok, .int .i64 e.okey, .int .i64 e.oto, .int .i64 e.on] 35)).alloc (.cells #[.int .i64 0, .int .i64 0, .int .i64 0, .int .i64 0, .int .i64 0, .int .i64 0, .slice none 0 0] 25) := ⟨_, rfl⟩
  have k1 : Keeps w W1 := by rw [hW1]; exact (((Keeps.refl _).alloc _).alloc _).alloc _
  have B1 : StBox w.heap.size s (.slice xa s.tab.length xc) W1 := by rw [hW1]; exact (StBox.new w s _ 25).keep (((Keeps.refl _).alloc _).alloc _)
  have E1 : EntBox (w.heap.size + 1) e W1 := by
    rw [hW1]
    have := (EntBox.new (w.alloc (.cells #[.int .i64 s.at_, .int .i64 s.clock, .int .i64 s.v0, .int .i64 s.v1, .int .i64 s.v2, .int .i64 s.v3, .slice xa s.tab.length xc] 25)) e 35).keep ((Keeps.refl _).alloc (.cells #[.int .i64 0, .int .i64 0, .int .i64 0, .int .i64 0, .int .i64 0, .int .i64 0, .slice none 0 0] 25))
    simpa using this
  have Z1 : StBox (w.heap.size + 1 + 1) zeroSt (.slice none 0 0) W1 := by
    rw [hW1]
    have := StBox.new ((w.alloc (.cells #[.int .i64 s.at_, .int .i64 s.clock, .int .i64 s.v0, .int .i64 s.v1, .int .i64 s.v2, .int .i64 s.v3, .slice xa s.tab.length xc] 25)).alloc (.cells #[.int .i64 e.kind, .int .i64 e.time, .int .i64 e.client, .int .i64 e.seq, .int .i64 e.ack, .int .i64 e.ok, .int .i64 e.okey, .int .i64 e.oto, .int .i64 e.on] 35)) zeroSt (.slice none 0 0) 25
    simp only [World.size_alloc] at this
    exact this
  rw [← hW1]
  clear hW1
  refine (check_both s e _ W1 (HT.out.keep k1)).mono ?_
  rintro y w1 ⟨rfl, hb⟩
  have HK1 : Hid (Keeps w w1) := k1.trans hb
  have HB1 : Hid (StBox w.heap.size s (.slice xa s.tab.length xc) w1) := B1.keep hb
  have HE1 : Hid (EntBox (w.heap.size + 1) e w1) := E1.keep hb
  have HZ1 : Hid (StBox (w.heap.size + 1 + 1) zeroSt (.slice none 0 0) w1) := Z1.keep hb
  clear k1 B1 E1 Z1 hb
  clear W1
  cases q : (bothErr s e == 0) with
  | false =>
    have q' : (bothErr s e != 0) = true := by simp [bne, q]
    have H1 : Hid (oneSt s e = zeroSt ∧ oneAns s e = 0 ∧ oneDone s e = false) := ⟨by rw [HS.out, q]; rfl, by rw [HA.out, q]; rfl, by rw [HD.out, q]; rfl⟩
    have z0 := HZ1.out.c0
    have z1 := HZ1.out.c1
    have z2 := HZ1.out.c2
    have z3 := HZ1.out.c3
    have z4 := HZ1.out.c4
    have z5 := HZ1.out.c5
    have z6 := HZ1.out.c6
    have zf := HZ1.out.fz
    have zl := HZ1.out.lt
    have hk1 := HK1.out
    go_wp2_with fail
    refine bodyPost_ret (v := .tuple #[stV zeroSt (.slice none 0 0), .int .i64 0, .bool false, .int .i64 (bothErr s e)]) ?_ rfl ?_
    · simp [results, Tryz.results63, go_sem, zeroSt, z0, z1, z2, z3, z4, z5, z6]
    · rw [H1.out.1, H1.out.2.1, H1.out.2.2]
      refine ⟨.slice none 0 0, ?_, rfl, ?_⟩
      · rw [HZT.out]
        exact OwnTab.nil _ _
      · repeat refine Keeps.set ?_ (by simp <;> omega) _
        exact hk1
  | true =>
    have q' : (bothErr s e != 0) = false := by simp [bne, q]
    have H1 : Hid (oneSt s e = takenSt (ticked s e.time) e ∧ oneAns s e = takenAns (ticked s e.time) e ∧ oneDone s e = takenDone (ticked s e.time) e ∧ bothErr s e = 0) := ⟨by rw [HS.out, q]; rfl, by rw [HA.out, q]; rfl, by rw [HD.out, q]; rfl, by simpa using q⟩
    have hright := HBR.out (by simpa using q)
    have HST : Hid (stErr s = 0) := hright.1
    have HET : Hid (entErr e = 0) := hright.2.1
    have et := (ent_right hright.2.1).2.1
    obtain ⟨et0, et1⟩ := et
    have HTE : Hid (tabErr (ticked s e.time).tab = 0) := fresh_right (stErr_in hright.1).2.1
    have e1 := HE1.out.c1
    have hEl := HE1.out.lt
    have hBl := HB1.out.lt
    have hZl := HZ1.out.lt
    clear hright
    go_wp2_with fail
    have k12 : Keeps w1 (w1.alloc (.cells #[.pointer (some ⟨w.heap.size, 0, none⟩)] 128)) := (Keeps.refl _).alloc _
    have m2 : (w1.alloc (.cells #[.pointer (some ⟨w.heap.size, 0, none⟩)] 128)).cell? ⟨w1.heap.size, 0, none⟩ = some (.pointer (some ⟨w.heap.size, 0, none⟩)) := by simp [go_sem]
    generalize hMB : w1.heap.size = MB at *
    generalize (w1.alloc (.cells #[.pointer (some ⟨w.heap.size, 0, none⟩)] 128)) = w2 at *
    have hz12 := k12.size
    rw [hMB] at hz12
    refine (tick_c s w.heap.size _ e.time w2 (HB1.out.keep k12) (HT.out.far (HK1.out.trans k12) (Nat.le_refl _)) HST.out et0 et1).mono ?_
    rintro y w3 ⟨rfl, x3, B3, O3, F3⟩
    obtain ⟨ya, yc, rfl, _⟩ := O3.tab.len
    have E3 := (HE1.out.keep k12).but F3 (by omega)
    have Z3 := (HZ1.out.keep k12).other F3 (by omega)
    have m3 : w3.cell? ⟨MB, 0, none⟩ = some (.pointer (some ⟨w.heap.size, 0, none⟩)) := F3.at m2 (by simp; omega)
    have K3 : Keeps w w3 := But.to (HK1.out.trans k12) (Nat.le_refl _) F3
    have hz23 := F3.size
    have HB3 : Hid (StBox w.heap.size (ticked s e.time) (.slice ya (ticked s e.time).tab.length yc) w3) := B3
    have HO3 : Hid (OwnTab w2.heap.size w3 (.slice ya (ticked s e.time).tab.length yc) (ticked s e.time).tab) := O3
    have HE3 : Hid (EntBox (w.heap.size + 1) e w3) := E3
    have HZ3 : Hid (StBox (w.heap.size + 1 + 1) zeroSt (.slice none 0 0) w3) := Z3
    have HK3 : Hid (Keeps w w3) := K3
    have x0 := E3.c0
    have x1 := E3.c1
    have x2 := E3.c2
    have x3 := E3.c3
    have x4 := E3.c4
    have x5 := E3.c5
    have x6 := E3.c6
    have x7 := E3.c7
    have x8 := E3.c8
    have hEl := E3.lt
    have hMl := World.block_lt_of_cell? _ _ m3
    simp only [] at hMl
    clear B3 O3 E3 Z3 F3 K3 k12 m2 HB1 HE1 HZ1 HK1 e1
    generalize ticked s e.time = ts at *
    go_wp2_with fail
    refine (take_c ts e w.heap.size w2.heap.size _ w3 HB3.out HO3.out (by omega) (by omega) HTE.out HET.out).mono ?_
    rintro y w4 ⟨rfl, x4, B4, O4, F4⟩
    obtain ⟨za, zc, rfl, _⟩ := O4.tab.len
    have Z4 := HZ3.out.other F4 (by omega)
    have K4 : Keeps w w4 := But.to HK3.out (Nat.le_refl _) F4
    have HO4 : Hid (OwnTab w2.heap.size w4 (.slice za (takenSt ts e).tab.length zc) (takenSt ts e).tab) := O4
    have c0 := B4.c0
    have c1 := B4.c1
    have c2 := B4.c2
    have c3 := B4.c3
    have c4 := B4.c4
    have c5 := B4.c5
    have c6 := B4.c6
    have cl := B4.lt
    have z0 := Z4.c0
    have z1 := Z4.c1
    have z2 := Z4.c2
    have z3 := Z4.c3
    have z4 := Z4.c4
    have z5 := Z4.c5
    have z6 := Z4.c6
    have zf := Z4.fz
    have zl := Z4.lt
    have HK4 : Hid (Keeps w w4) := K4
    clear B4 O4 F4 Z4 K4 HB3 HO3 HE3 HZ3 HK3 x0 x1 x2 x3 x4 x5 x6 x7 x8 m3 hEl hMl
    generalize takenSt ts e = us at *
    generalize takenAns ts e = ua at *
    generalize takenDone ts e = ud at *
    generalize hul : us.tab.length = ul at *
    go_wp2_with fail
    refine bodyPost_ret (v := .tuple #[stV us (.slice za ul zc), .int .i64 ua, .bool ud, .int .i64 0]) ?_ rfl ?_
    · simp [results, Tryz.results63, go_sem, z0, z1, z2, z3, z4, z5, z6]
    · rw [H1.out.1, H1.out.2.1, H1.out.2.2.1, H1.out.2.2.2]
      refine ⟨.slice za ul zc, ?_, rfl, ?_⟩
      · exact (HO4.out.but (b := w.heap.size + 1 + 1) (by omega) ((((((((But.refl _ _).set 0 _).set 1 _).set 2 _).set 3 _).set 4 _).set 5 _).set 6 _)).base (by omega)
      · repeat refine Keeps.set ?_ (by simp <;> omega) _
        exact HK4.out
end Go.Proofs.YteabfjpajgakiagGreat

/- Entries in memory; fold.Check, fold.checkBoth. -/
set_option linter.unusedSimpArgs false
set_option linter.unusedVariables false
set_option maxRecDepth 10000
namespace Go.Proofs.YteabfjpajgakiagGreat
open Go.RowKit

/-- The cells of entries. -/
def entCells : List Ent → List Value
  | [] => []
  | e :: r => .int .i64 e.kind :: .int .i64 e.time :: .int .i64 e.client :: .int .i64 e.seq :: .int .i64 e.ack :: .int .i64 e.ok :: .int .i64 e.okey :: .int .i64 e.oto :: .int .i64 e.on :: entCells r

def EntsAt (w : World) (v : Value) (L : List Ent) : Prop := RowAt w 9 v L.length (entCells L)

theorem EntsAt.keep {w w' : World} {v : Value} {L : List Ent} (h : EntsAt w v L) (hk : Keeps w w') : EntsAt w' v L := RowAt.keep h hk
theorem EntsAt.len {w : World} {v : Value} {L : List Ent} (h : EntsAt w v L) : ∃ a cap, v = .slice a L.length cap ∧ L.length ≤ maxLen := RowAt.len h

theorem entCells_len : ∀ l : List Ent, (entCells l).length = l.length * 9
  | [] => rfl
  | _ :: r => by simp only [entCells, List.length_cons, entCells_len r]; omega

theorem entCells_drop : ∀ (l : List Ent) (k : Nat), (entCells l).drop (k * 9) = entCells (l.drop k)
  | l, 0 => by simp
  | [], k + 1 => by simp [entCells]
  | e :: r, k + 1 => by
    rw [show (k + 1) * 9 = k * 9 + 1 + 1 + 1 + 1 + 1 + 1 + 1 + 1 + 1 from by omega]
    simp only [entCells, List.drop_succ_cons]
    exact entCells_drop r k
theorem entCells_take : ∀ (l : List Ent) (k : Nat), (entCells l).take (k * 9) = entCells (l.take k)
  | l, 0 => by simp [entCells]
  | [], k + 1 => by simp [entCells]
  | e :: r, k + 1 => by
    rw [show (k + 1) * 9 = k * 9 + 1 + 1 + 1 + 1 + 1 + 1 + 1 + 1 + 1 from by omega]
    simp only [entCells, List.take_succ_cons, entCells_take r k]
theorem entCells_append : ∀ (l m : List Ent), entCells (l ++ m) = entCells l ++ entCells m
  | [], m => rfl
  | _ :: r, m => by simp only [entCells, List.cons_append, entCells_append r m]
theorem entCells_one : ∀ (l : List Ent), ∀ u ∈ entCells l, u.oneCell' = true
  | [], u, h => by simp [entCells] at h
  | e :: r, u, h => by
    simp only [entCells, List.mem_cons] at h
    rcases h with rfl | rfl | rfl | rfl | rfl | rfl | rfl | rfl | rfl | h
    all_goals first | rfl | exact entCells_one r u h

/-- Entry number k, in memory. -/
theorem EntsAt.at {w : World} {v : Value} {L : List Ent} (h : EntsAt w v L) {k : Nat} (hk : k < L.length) :
    ∃ b off cap, v = .slice (some ⟨b, off, none⟩) L.length cap ∧
      w.cell? ⟨b, off + k * 9, none⟩ = some (.int .i64 (L[k]).kind) ∧ w.cell? ⟨b, off + k * 9 + 1, none⟩ = some (.int .i64 (L[k]).time) ∧ w.cell? ⟨b, off + k * 9 + 2, none⟩ = some (.int .i64 (L[k]).client) ∧
      w.cell? ⟨b, off + k * 9 + 3, none⟩ = some (.int .i64 (L[k]).seq) ∧ w.cell? ⟨b, off + k * 9 + 4, none⟩ = some (.int .i64 (L[k]).ack) ∧ w.cell? ⟨b, off + k * 9 + 5, none⟩ = some (.int .i64 (L[k]).ok) ∧
      w.cell? ⟨b, off + k * 9 + 6, none⟩ = some (.int .i64 (L[k]).okey) ∧ w.cell? ⟨b, off + k * 9 + 7, none⟩ = some (.int .i64 (L[k]).oto) ∧ w.cell? ⟨b, off + k * 9 + 8, none⟩ = some (.int .i64 (L[k]).on) := by
  obtain ⟨b, off, cap, rfl, h3⟩ := RowAt.plain h (by rw [entCells_len]; omega)
  refine ⟨b, off, cap, rfl, ?_⟩
  have hd : (entCells L).drop (k * 9) = entCells (L[k] :: L.drop (k + 1)) := by rw [entCells_drop, List.drop_eq_getElem_cons hk]
  have go : ∀ i u, (entCells (L[k] :: L.drop (k + 1)))[i]? = some u → w.cell? ⟨b, off + k * 9 + i, none⟩ = some u := by
    intro i u hu
    rw [← hd, List.getElem?_drop] at hu
    rw [Nat.add_assoc]
    exact h3 _ _ hu
  exact ⟨go 0 _ rfl, go 1 _ rfl, go 2 _ rfl, go 3 _ rfl, go 4 _ rfl, go 5 _ rfl, go 6 _ rfl, go 7 _ rfl, go 8 _ rfl⟩

def fentErr : List Ent → Int
  | [] => 0
  | e :: r => if entErr e == 0 then fentErr r else entErr e
def listErr (L : List Ent) : Int := if 50 < L.length then 2 else fentErr L

theorem fentErr_at {L : List Ent} {k : Nat} (hk : k < L.length) : fentErr (L.drop k) = if entErr (L[k]) == 0 then fentErr (L.drop (k + 1)) else entErr (L[k]) := by
  rw [List.drop_eq_getElem_cons hk]
  rfl

theorem fent_zero {L : List Ent} : fentErr L = 0 ↔ ∀ e ∈ L, entErr e = 0 := by
  induction L with
  | nil => simp [fentErr]
  | cons a t ih =>
    simp only [fentErr, List.mem_cons, forall_eq_or_imp]
    by_cases h : entErr a = 0
    · simp [h, ih]
    · simp [h]

set_option maxHeartbeats 2000000 in
theorem fold_check (L : List Ent) (v : Value) (w : World) (hL : EntsAt w v L) : Calls Tryz.prog 49 #[v] w fun y w' => y = .returned (.int .i64 (listErr L)) ∧ Keeps w w' := by
  obtain ⟨a, cap, rfl, hlen⟩ := hL.len
  unfold maxLen at hlen
  have HL : Hid (EntsAt w (.slice a L.length cap) L) := hL
  clear hL
  by_cases h50 : 50 < L.length
  · have HE : Hid (listErr L = 2) := by show _ = _; simp [listErr, h50]
    go_enter Tryz.func49, Tryz.ntmps49
    go_wp2_with fail
    go_ret
    exact ⟨ret_int HE.out.symm, Keeps.refl _⟩
  · have HE : Hid (listErr L = fentErr L) := by show _ = _; simp [listErr, h50]
    go_enter Tryz.func49, Tryz.ntmps49
    go_wp2_with fail
    go_loopw [11] (fun i wr => ∃ (k : Nat), k ≤ L.length ∧ i = .int .i64 k ∧ Hid (Keeps w wr) ∧ Hid (fentErr L = fentErr (L.drop k))) (fun i _ => L.length - (intOf i).toNat)
    case atStart => exact ⟨0, Nat.zero_le _, rfl, Keeps.refl _, rfl⟩
    case round =>
      obtain ⟨k, hk, rfl, HK, HQ⟩ := hrel
      by_cases hlt : k < L.length
      · obtain ⟨b, off, cap', hv, c0, c1, c2, c3, c4, c5, c6, c7, c8⟩ := (HL.out.keep HK.out).at hlt
        injection hv with hv1 hv2 hv3
        subst hv1
        clear hv2 hv3
        have HR : Hid (fentErr L = if entErr (L[k]) == 0 then fentErr (L.drop (k + 1)) else entErr (L[k])) := HQ.out.trans (fentErr_at hlt)
        clear HQ
        generalize L[k] = e at *
        go_wp2_with fail
        refine (ent_check e _).mono ?_
        rintro y w2 ⟨rfl, hb⟩
        have HK2 : Hid (Keeps w w2) := (HK.out.alloc _).trans hb
        clear hb c0 c1 c2 c3 c4 c5 c6 c7 c8
        cases hq : (entErr e == 0) with
        | true =>
          have hq' : (entErr e != 0) = false := by simp [bne, hq]
          have HN : Hid (fentErr L = fentErr (L.drop (k + 1))) := by show _ = _; rw [HR.out, hq]; rfl
          generalize entErr e = er at *
          go_wp2_with fail
          go_roundw
          case rel => exact ⟨k + 1, by omega, by go_num, HK2, HN⟩
          case measure => simp [intOf]; omega
        | false =>
          have hq' : (entErr e != 0) = true := by simp [bne, hq]
          have HN : Hid (listErr L = entErr e) := by show _ = _; rw [HE.out, HR.out, hq]; rfl
          generalize entErr e = er at *
          go_wp2_with fail
          go_ret
          exact ⟨ret_int HN.out.symm, HK2.out⟩
      · have HN : Hid (listErr L = 0) := by show _ = _; rw [HE.out, HQ.out, List.drop_of_length_le (by omega)]; rfl
        go_wp2_with fail
        go_ret
        exact ⟨ret_int HN.out.symm, HK.out⟩

def foldErr (s : St) (L : List Ent) : Int := if stErr s == 0 then (if listErr L == 0 then (if 50 < s.at_ + L.length then 2 else 0) else listErr L) else stErr s

set_option maxHeartbeats 2000000 in
theorem fold_both (s : St) (L : List Ent) (x v : Value) (w : World) (hT : TabAt w x s.tab) (hL : EntsAt w v L) : Calls Tryz.prog 70 #[stV s x, v] w fun y w' => y = .returned (.int .i64 (foldErr s L)) ∧ Keeps w w' := by
  obtain ⟨xa, xc, rfl, _⟩ := hT.len
  obtain ⟨a, cap, rfl, hlen⟩ := hL.len
  unfold maxLen at hlen
  have HE : Hid (foldErr s L = if stErr s == 0 then (if listErr L == 0 then (if 50 < s.at_ + L.length then 2 else 0) else listErr L) else stErr s) := rfl
  have HT : Hid (TabAt w (.slice xa s.tab.length xc) s.tab) := hT
  have HL : Hid (EntsAt w (.slice a L.length cap) L) := hL
  have HB : Hid (stErr s = 0 → (0 ≤ s.at_ ∧ s.at_ ≤ 50) ∧ (0 ≤ s.clock ∧ s.clock ≤ 999)) := stErr_bounds
  have HC : Hid (listErr L = 0 → L.length ≤ 50) := by
    intro h
    unfold listErr at h
    split at h
    · cases h
    · omega
  clear hT hL
  go_enter Tryz.func70, Tryz.ntmps70
  go_wp2_with fail
  have k1 : Keeps w (w.alloc (.cells #[.int .i64 s.at_, .int .i64 s.clock, .int .i64 s.v0, .int .i64 s.v1, .int .i64 s.v2, .int .i64 s.v3, .slice xa s.tab.length xc] 25)) := (Keeps.refl _).alloc _
  have z0 : (w.alloc (.cells #[.int .i64 s.at_, .int .i64 s.clock, .int .i64 s.v0, .int .i64 s.v1, .int .i64 s.v2, .int .i64 s.v3, .slice xa s.tab.length xc] 25)).cell? ⟨w.heap.size, 0, none⟩ = some (.int .i64 s.at_) := by simp [go_sem]
  generalize (w.alloc (.cells #[.int .i64 s.at_, .int .i64 s.clock, .int .i64 s.v0, .int .i64 s.v1, .int .i64 s.v2, .int .i64 s.v3, .slice xa s.tab.length xc] 25)) = W1 at *
  refine (state_check s _ W1 (HT.out.keep k1)).mono ?_
  rintro y w1 ⟨rfl, hb⟩
  have HK1 : Hid (Keeps w w1) := k1.trans hb
  have z0 := cell_kept z0 hb
  clear hb k1
  cases q1 : (stErr s == 0) with
  | false =>
    have q1' : (stErr s != 0) = true := by simp [bne, q1]
    have HE2 : Hid (foldErr s L = stErr s) := by show _ = _; rw [HE.out, q1]; rfl
    generalize stErr s = er at *
    go_wp2_with fail
    go_ret
    exact ⟨ret_int HE2.out.symm, HK1.out⟩
  | true =>
    have q1' : (stErr s != 0) = false := by simp [bne, q1]
    have hbd := HB.out (by simpa using q1)
    obtain ⟨⟨ba0, ba1⟩, _, _⟩ := hbd
    generalize stErr s = er at *
    go_wp2_with fail
    refine (fold_check L _ w1 (HL.out.keep HK1.out)).mono ?_
    rintro y w2 ⟨rfl, hb⟩
    have HK2 : Hid (Keeps w w2) := HK1.out.trans hb
    have z0 := cell_kept z0 hb
    clear hb
    cases q2 : (listErr L == 0) with
    | false =>
      have q2' : (listErr L != 0) = true := by simp [bne, q2]
      have HE2 : Hid (foldErr s L = listErr L) := by show _ = _; rw [HE.out, q1, q2]; rfl
      generalize listErr L = le at *
      go_wp2_with fail
      go_ret
      exact ⟨ret_int HE2.out.symm, HK2.out⟩
    | true =>
      have q2' : (listErr L != 0) = false := by simp [bne, q2]
      have hl50 := HC.out (by simpa using q2)
      have hlt := World.block_lt_of_cell? _ _ z0
      simp only [] at hlt
      by_cases h : 50 < s.at_ + L.length
      · have HE2 : Hid (foldErr s L = 2) := by show _ = _; rw [HE.out, q1, q2]; simp [h]
        go_wp2_with fail
        go_ret
        exact ⟨ret_int HE2.out.symm, HK2.out⟩
      · have HE2 : Hid (foldErr s L = 0) := by show _ = _; rw [HE.out, q1, q2]; simp [h]
        go_wp2_with fail
        go_ret
        exact ⟨ret_int HE2.out.symm, HK2.out⟩
end Go.Proofs.YteabfjpajgakiagGreat

/- The arguments of a law: a list of entries. -/
set_option linter.unusedSimpArgs false
set_option linter.unusedVariables false
set_option maxRecDepth 100000
namespace Go.Proofs.YteabfjpajgakiagGreat
open Go.ChangeShapes Go.WideShapes Go.ChangeAt Go.RowKit Go.Joins Go.Deep

section
variable {H : Type} {enc : TypeId × Value → H} {w : World} {base : Nat} {spare : Nat → Bool} {held : Bool}

instance : Inhabited Ent := ⟨⟨0, 0, 0, 0, 0, 0, 0, 0, 0⟩⟩

theorem entCells_nine {L : List Ent} {i c : Nat} (hi : i < L.length) (hc : c < 9) : (entCells L)[i * 9 + c]? = [Value.int .i64 (L[i]).kind, .int .i64 (L[i]).time, .int .i64 (L[i]).client, .int .i64 (L[i]).seq, .int .i64 (L[i]).ack, .int .i64 (L[i]).ok, .int .i64 (L[i]).okey, .int .i64 (L[i]).oto, .int .i64 (L[i]).on][c]? := by
  have h : (entCells L).drop (i * 9) = entCells (L[i] :: L.drop (i + 1)) := by rw [entCells_drop, List.drop_eq_getElem_cons hi]
  have : (entCells L)[i * 9 + c]? = ((entCells L).drop (i * 9))[c]? := by rw [List.getElem?_drop]
  rw [this, h]
  match c, hc with
  | 0, _ | 1, _ | 2, _ | 3, _ | 4, _ | 5, _ | 6, _ | 7, _ | 8, _ => rfl

end
end Go.Proofs.YteabfjpajgakiagGreat

/- What op.Do's answer is good for: plain mathematics. -/
set_option linter.unusedSimpArgs false
set_option linter.unusedVariables false
namespace Go.Proofs.YteabfjpajgakiagGreat

structure DoGood (g r : Nat → Int) (k key tk m : Int) : Prop where
  k0 : 0 ≤ key
  k3 : key ≤ 3
  kind : (k = 1 ∧ tk = 0) ∨ (k = 2 ∧ tk = 0) ∨ (k = 3 ∧ 0 ≤ tk ∧ tk ≤ 3) ∨ (k = 4 ∧ tk = 0)
  vals : ∀ i, i < 4 → 0 ≤ g i ∧ g i ≤ 999
  outs : ∀ i, i < 4 → 0 ≤ r i ∧ r i ≤ 999
  diff : ∀ i, i < 4 → r i = g i ∨ (i : Int) = key ∨ (k = 3 ∧ (i : Int) = tk)
  fail : m = -1 → ∀ i, i < 4 → r i = g i
  ans : m ≠ -1 → m = r key.toNat
  sum : k = 3 ∨ k = 4 → r 0 + r 1 + r 2 + r 3 = g 0 + g 1 + g 2 + g 3
  get : k = 4 → ∀ i, i < 4 → r i = g i

theorem upd_in {g : Nat → Int} {j : Nat} {x : Int} (hg : ∀ i, i < 4 → 0 ≤ g i ∧ g i ≤ 999) (hx : 0 ≤ x ∧ x ≤ 999) : ∀ i, i < 4 → 0 ≤ upd g j x i ∧ upd g j x i ≤ 999 := by
  intro i hi; unfold upd; split
  · exact hx
  · exact hg i hi

theorem do_good (g : Nat → Int) (k key tk n : Int) (h : doErr g k key tk n = 0) : DoGood g (doVals g k key tk n) k key tk (doAns g k key tk n) := by
  have he : (opErr k key tk n == 0) = true := by
    cases e : (opErr k key tk n == 0) with
    | true => rfl
    | false => simp [doErr, e] at h; simp [h] at e
  have hv : valsOk g = true := by
    cases e : valsOk g with
    | true => rfl
    | false => simp [doErr, he, e] at h
  have h0 : opErr k key tk n = 0 := by simpa using he
  have hg := vals_at hv
  obtain ⟨⟨hk0, hk3⟩, hk⟩ := op_right h0
  have hkey : (key.toNat : Int) = key := by omega
  have hgk := hg key.toNat (by omega)
  have e1 : doVals g k key tk n = if stepOk k g key tk n then stepTo k g key tk n else g := by simp [doVals, he, hv]
  have e2 : doAns g k key tk n = if stepOk k g key tk n then stepTo k g key tk n key.toNat else -1 := by simp [doAns, he, hv]
  rw [e1, e2]
  have same : DoGood g g k key tk (-1) := by
    refine ⟨hk0, hk3, by omega, hg, hg, fun i _ => .inl rfl, fun _ i _ => rfl, fun h => absurd rfl h, fun _ => rfl, fun _ i _ => rfl⟩
  cases hs : stepOk k g key tk n with
  | false => simpa using same
  | true =>
    simp only [if_true]
    rcases hk with ⟨rfl, ht, hn0, hn1⟩ | ⟨rfl, ht, hn0, hn1⟩ | ⟨rfl, ⟨ht0, ht3⟩, hn0, hn1⟩ | ⟨rfl, ht, hn⟩
    · have e : stepTo 1 g key tk n = upd g key.toNat n := rfl
      rw [e]
      refine ⟨hk0, hk3, by omega, hg, upd_in hg ⟨hn0, hn1⟩, fun i _ => ?_, fun h => ?_, fun _ => rfl, fun h => by omega, fun h => by omega⟩
      · unfold upd; split
        · right; left; omega
        · left; rfl
      · exfalso; simp [upd] at h; omega
    · have e : stepTo 2 g key tk n = upd g key.toNat (g key.toNat + n) := rfl
      have hb : 0 ≤ g key.toNat + n ∧ g key.toNat + n ≤ 999 := by simpa [stepOk, inB] using hs
      rw [e]
      refine ⟨hk0, hk3, by omega, hg, upd_in hg hb, fun i _ => ?_, fun h => ?_, fun _ => rfl, fun h => by omega, fun h => by omega⟩
      · unfold upd; split
        · right; left; omega
        · left; rfl
      · exfalso; simp [upd] at h; omega
    · have e : stepTo 3 g key tk n = upd (upd g key.toNat (g key.toNat + -n)) tk.toNat (upd g key.toNat (g key.toNat + -n) tk.toNat + n) := rfl
      have hb : (0 ≤ g key.toNat + -n ∧ g key.toNat + -n ≤ 999) ∧ 0 ≤ upd g key.toNat (g key.toNat + -n) tk.toNat + n ∧ upd g key.toNat (g key.toNat + -n) tk.toNat + n ≤ 999 := by
        simpa [stepOk, inB] using hs
      rw [e]
      have hin := upd_in (upd_in hg hb.1 (j := key.toNat)) hb.2 (j := tk.toNat)
      refine ⟨hk0, hk3, by omega, hg, hin, fun i _ => ?_, fun h => ?_, fun _ => rfl, fun _ => ?_, fun h => by omega⟩
      · by_cases h1 : i = tk.toNat
        · right; right; exact ⟨rfl, by omega⟩
        · by_cases h2 : i = key.toNat
          · right; left; omega
          · left; simp [upd, h1, h2]
      · exfalso; have := hin key.toNat (by omega); omega
      · rcases four hk0 hk3 with rfl | rfl | rfl | rfl <;> rcases four ht0 ht3 with rfl | rfl | rfl | rfl <;> simp [upd] <;> omega
    · have e : stepTo 4 g key tk n = g := rfl
      rw [e]
      exact ⟨hk0, hk3, by omega, hg, hg, fun i _ => .inl rfl, fun _ i _ => rfl, fun _ => rfl, fun _ => rfl, fun _ i _ => rfl⟩
end Go.Proofs.YteabfjpajgakiagGreat

/- What One makes of a right state is right: plain mathematics. -/
set_option linter.unusedSimpArgs false
set_option linter.unusedVariables false
namespace Go.Proofs.YteabfjpajgakiagGreat
open Go.RowKit

theorem keptOk_iff : ∀ {hi lo : Int} {l : List (Int × Int)}, keptOk hi lo l = true ↔ l.Pairwise (fun a b => a.1 < b.1) ∧ ∀ r ∈ l, (lo ≤ r.1 ∧ r.1 ≤ hi) ∧ -1 ≤ r.2 ∧ r.2 ≤ 999
  | hi, lo, [] => by simp [keptOk]
  | hi, lo, (q, v) :: t => by
    have ih := keptOk_iff (hi := hi) (lo := q + 1) (l := t)
    simp only [keptOk, Bool.and_eq_true, inB_iff, ih, List.pairwise_cons, List.mem_cons]
    constructor
    · rintro ⟨⟨h1, h2⟩, h3, h4⟩
      refine ⟨⟨fun a ha => ?_, h3⟩, fun r hr => ?_⟩
      · have := (h4 a ha).1.1
        show q < a.1
        omega
      · rcases hr with rfl | hr
        · exact ⟨h1, h2⟩
        · have := h4 r hr
          exact ⟨⟨by omega, this.1.2⟩, this.2⟩
    · rintro ⟨⟨h1, h2⟩, h3⟩
      have h0 := h3 (q, v) (.inl rfl)
      refine ⟨⟨h0.1, h0.2⟩, h2, fun r hr => ?_⟩
      have a1 := h1 r hr
      have a2 := h3 r (.inr hr)
      have a1 : q < r.1 := a1
      exact ⟨⟨by omega, a2.1.2⟩, a2.2⟩

theorem rises_pair {l : List (Int × Int)} : Rises l ↔ l.Pairwise (fun a b => a.1 < b.1) := by
  rw [List.pairwise_iff_getElem]
  exact ⟨fun h i j hi hj hij => h i j hi hj hij, fun h i j hi hj hij => h i j hi hj hij⟩

/-- Where a number belongs. -/
theorem place_pos : ∀ {l : List (Int × Int)} (seq : Int), l.Pairwise (fun a b => a.1 < b.1) → (∀ r ∈ l.take (posOf l seq), r.1 < seq) ∧ (∀ r ∈ l.drop (posOf l seq), seq ≤ r.1)
  | [], seq, _ => by simp [posOf]
  | a :: t, seq, h => by
    rw [List.pairwise_cons] at h
    by_cases ha : a.1 < seq
    · have e : posOf (a :: t) seq = posOf t seq + 1 := by simp [posOf, List.takeWhile_cons, ha]
      have ih := place_pos seq h.2
      rw [e, List.take_succ_cons, List.drop_succ_cons]
      refine ⟨fun r hr => ?_, ih.2⟩
      rcases List.mem_cons.1 hr with rfl | hr
      · exact ha
      · exact ih.1 r hr
    · have e : posOf (a :: t) seq = 0 := by simp [posOf, List.takeWhile_cons, ha]
      rw [e]
      refine ⟨by simp, fun r hr => ?_⟩
      rw [List.drop_zero] at hr
      rcases List.mem_cons.1 hr with rfl | hr
      · omega
      · have := h.1 r hr
        omega
theorem place_gone {l : List (Int × Int)} {seq : Int} (hp : l.Pairwise (fun a b => a.1 < b.1)) (h : keptHas l seq = false) : ∀ r ∈ l.drop (posOf l seq), seq < r.1 := by
  have h2 := (place_pos seq hp).2
  unfold keptHas thereB at h
  have hd : (l.drop (posOf l seq)).Pairwise (fun a b => a.1 < b.1) := hp.sublist (List.drop_sublist _ _)
  have hget : l[posOf l seq]? = (l.drop (posOf l seq))[0]? := by rw [List.getElem?_drop, Nat.add_zero]
  rw [hget] at h
  cases hl : l.drop (posOf l seq) with
  | nil => intro r hr; cases hr
  | cons a t =>
    rw [hl] at h h2 hd
    simp at h
    intro r hr
    have ha := h2 a (List.mem_cons_self ..)
    rcases List.mem_cons.1 hr with rfl | hr
    · omega
    · have := (List.pairwise_cons.1 hd).1 r hr
      omega

theorem keptPut_ok {hi lo seq v : Int} {l : List (Int × Int)} (h : keptOk hi lo l = true) (h1 : lo ≤ seq) (h2 : seq ≤ hi) (h3 : -1 ≤ v) (h4 : v ≤ 999) (hn : keptHas l seq = false) : keptOk hi lo (keptPut l seq v) = true := by
  obtain ⟨hp, hb⟩ := keptOk_iff.1 h
  have ht := (place_pos seq hp).1
  have hd := place_gone hp hn
  refine keptOk_iff.2 ⟨?_, fun r hr => ?_⟩
  · unfold keptPut
    rw [List.pairwise_append, List.pairwise_cons]
    refine ⟨hp.sublist (List.take_sublist _ _), ⟨fun a ha => hd a ha, hp.sublist (List.drop_sublist _ _)⟩, fun a ha b hb' => ?_⟩
    have := ht a ha
    rcases List.mem_cons.1 hb' with rfl | hb'
    · exact this
    · have := hd b hb'
      omega
  · unfold keptPut at hr
    rcases List.mem_append.1 hr with hr | hr
    · exact hb r (List.mem_of_mem_take hr)
    · rcases List.mem_cons.1 hr with rfl | hr
      · exact ⟨⟨h1, h2⟩, h3, h4⟩
      · exact hb r (List.mem_of_mem_drop hr)

theorem keptAfter_ok {a b : Int} {l : List (Int × Int)} (h : keptOk (min (a + 3) 60) (a + 1) l = true) (hab : a ≤ b) : keptOk (min (b + 3) 60) (b + 1) (keptAfter b l) = true := by
  obtain ⟨hp, hb⟩ := keptOk_iff.1 h
  refine keptOk_iff.2 ⟨hp.filter _, fun r hr => ?_⟩
  obtain ⟨h1, h2⟩ := List.mem_filter.1 hr
  have := hb r h1
  simp at h2
  omega

theorem seenAll_iff {c : Int} : ∀ {L : List Ses}, seenAll c L = true ↔ ∀ s ∈ L, c - 20 ≤ s.seen ∧ s.seen ≤ c
  | [] => by simp [seenAll]
  | a :: t => by
    simp only [seenAll, Bool.and_eq_true, inB_iff, seenAll_iff (L := t), List.mem_cons]
    constructor
    · rintro ⟨h1, h2⟩ s (rfl | hs)
      · exact h1
      · exact h2 s hs
    · exact fun h => ⟨h a (.inl rfl), fun s hs => h s (.inr hs)⟩

theorem stErr_of {s : St} (h1 : stIn s = true) (h2 : tabErr s.tab = 0) (h3 : seenAll s.clock s.tab = true) : stErr s = 0 := by simp [stErr, h1, h2, h3]

theorem ticked_right {s : St} {time : Int} (h : stErr s = 0) (h0 : 0 ≤ time) (h1 : time ≤ 999) (hat : s.at_ ≠ 50) : stErr (ticked s time) = 0 := by
  obtain ⟨hin, htab, hseen⟩ := stErr_in h
  obtain ⟨⟨ha0, ha1⟩, hc0, hc1⟩ := stErr_bounds h
  refine stErr_of ?_ (fresh_right htab) ?_
  · simp only [stIn, Bool.and_eq_true, inB_iff] at hin ⊢
    refine ⟨hin.1, ?_, ?_⟩
    · show 0 ≤ s.at_ + 1 ∧ s.at_ + 1 ≤ 50
      omega
    · show 0 ≤ max s.clock time ∧ max s.clock time ≤ 999
      omega
  · refine seenAll_iff.2 fun x hx => ?_
    obtain ⟨hx1, hx2⟩ := List.mem_filter.1 hx
    have := seenAll_iff.1 hseen x hx1
    simp at hx2
    show max s.clock time - 20 ≤ x.seen ∧ x.seen ≤ max s.clock time
    omega

theorem mem_putList {L : List Ses} {s x : Ses} (h : x ∈ putList L s) : x = s ∨ x ∈ L := by
  unfold putList at h
  simp only [List.mem_append, List.mem_filter, List.mem_singleton] at h
  rcases h with (h | h) | h
  · exact .inr h.1
  · exact .inl h
  · exact .inr h.1

theorem put_zero {L : List Ses} {s : Ses} (h1 : tabErr L = 0) (h2 : sesErr s = 0) (h3 : (putList L s).length ≤ 3) : putErr L s = 0 := by
  simp [putErr, h1, h2]
  omega

/-- A session in the place of its client's. -/
theorem put_len : ∀ {L : List Ses} {f : Ses} (s : Ses), L.Pairwise (fun a b => a.client < b.client) → f ∈ L → f.client = s.client → (putList L s).length = L.length
  | [], f, s, _, h, _ => by cases h
  | a :: t, f, s, hp, hf, hc => by
    rw [List.pairwise_cons] at hp
    rcases List.mem_cons.1 hf with rfl | hf
    · have e1 : (f :: t).filter (fun o => decide (o.client < s.client)) = [] := by
        rw [List.filter_eq_nil_iff]
        intro o ho
        rcases List.mem_cons.1 ho with rfl | ho
        · simp [hc]
        · have := hp.1 o ho
          simp
          omega
      have e2 : (f :: t).filter (fun o => decide (s.client < o.client)) = t := by
        rw [List.filter_cons_of_neg (by simp [hc]), List.filter_eq_self.2]
        intro o ho
        have := hp.1 o ho
        simp
        omega
      unfold putList
      rw [e1, e2]
      simp
    · have hac := hp.1 f hf
      have ih := put_len s hp.2 hf hc
      unfold putList at ih ⊢
      rw [List.filter_cons_of_pos (by simp; omega), List.filter_cons_of_neg (by simp; omega)]
      simp at ih ⊢
      omega

/-- A state whose table is turned. -/
theorem tab_turned {s : St} {L : List Ses} (h : stErr s = 0) (h1 : tabErr L = 0) (h2 : ∀ x ∈ L, s.clock - 20 ≤ x.seen ∧ x.seen ≤ s.clock) : stErr { s with tab := L } = 0 :=
  stErr_of (stErr_in h).1 h1 (seenAll_iff.2 h2)

theorem opened_right {s : St} {c : Int} (h : stErr s = 0) : stErr (openedSt s c) = 0 := by
  unfold openedSt
  split
  · rename_i hp
    have hp : putErr s.tab (openSes s c) = 0 := by simpa using hp
    have hb := (stErr_bounds h).2
    have hs := seenAll_iff.1 (stErr_in h).2.2
    refine tab_turned h (by rw [putTab_ok hp]; exact put_right hp) fun x hx => ?_
    rw [putTab_ok hp] at hx
    rcases mem_putList hx with rfl | hx
    · show s.clock - 20 ≤ s.clock ∧ s.clock ≤ s.clock
      omega
    · exact hs x hx
  · exact h

theorem closed_right {s : St} {c : Int} (h : stErr s = 0) : stErr (closedSt s c) = 0 := by
  unfold closedSt
  split
  · rename_i hp
    have hp : dropErr s.tab c = 0 := by simpa using hp
    have hs := seenAll_iff.1 (stErr_in h).2.2
    refine tab_turned h (by rw [drop_tab hp]; exact tab_sub (stErr_in h).2.1 List.filter_sublist) fun x hx => ?_
    rw [drop_tab hp] at hx
    exact hs x (List.mem_filter.1 hx).1
  · exact h

theorem vals_of {s : St} (h : stErr s = 0) : valsOk (stG s) = true := by
  have h1 := (stErr_in h).1
  simp only [stIn, valsIn, Bool.and_eq_true, inB_iff] at h1
  simp [valsOk, stG, inB]
  omega
theorem done_good {s : St} {e : Ent} (h : stErr s = 0) (he : opErr e.ok e.okey e.oto e.on = 0) : DoGood (stG s) (doneVals s e) e.ok e.okey e.oto (doneAns s e) :=
  do_good _ _ _ _ _ (by simp [doErr, he, vals_of h])
theorem doneAns_in {s : St} {e : Ent} (h : stErr s = 0) (he : opErr e.ok e.okey e.oto e.on = 0) : -1 ≤ doneAns s e ∧ doneAns s e ≤ 999 := by
  have hg := done_good h he
  by_cases hm : doneAns s e = -1
  · omega
  · have h1 := hg.ans hm
    have h2 := hg.outs e.okey.toNat (by have := hg.k0; have := hg.k3; omega)
    omega

theorem ses_zero {f : Ses} (h1 : 1 ≤ f.client ∧ f.client ≤ 5) (h2 : 0 ≤ f.acked ∧ f.acked ≤ 60) (h3 : 0 ≤ f.seen ∧ f.seen ≤ 999) (h4 : keptOk (min (f.acked + 3) 60) (f.acked + 1) f.kept = true) : sesErr f = 0 :=
  sesErr_ok (inB_iff.2 h1) (inB_iff.2 h2) (inB_iff.2 h3) h4

/-- What a Call leaves of its session is right. -/
theorem callSes_right {s : St} {f : Ses} {e : Ent} (h : stErr s = 0) (hf : sesErr f = 0) (he : entErr e = 0) (hk : e.kind = 2) : sesErr (callSes s f e) = 0 := by
  obtain ⟨_, _, _, hcall, _⟩ := ent_right he
  obtain ⟨⟨hq0, hq1⟩, ⟨ha0, ha1⟩, hop⟩ := hcall hk
  obtain ⟨r1, r2, r3, r4⟩ := ses_right hf
  have r1 := inB_iff.1 r1
  have r2 := inB_iff.1 r2
  have hc := (stErr_bounds h).2
  have hk0 : keptOk (min (max f.acked e.ack + 3) 60) (max f.acked e.ack + 1) (keptAfter (max f.acked e.ack) f.kept) = true := keptAfter_ok r4 (by omega)
  refine ses_zero r1 ?_ hc ?_
  · show 0 ≤ max f.acked e.ack ∧ max f.acked e.ack ≤ 60
    omega
  · show keptOk (min (max f.acked e.ack + 3) 60) (max f.acked e.ack + 1) (ansKept s (calledSes s f e) e) = true
    unfold ansKept
    split
    · rename_i hd
      simp only [ansDone, Bool.and_eq_true, Bool.not_eq_true', decide_eq_false_iff_not] at hd
      obtain ⟨d1, d2, d3⟩ := hd
      have e1 : (calledSes s f e).acked = max f.acked e.ack := rfl
      rw [e1] at d1 d3
      have hin := doneAns_in h hop
      exact keptPut_ok hk0 (by omega) (by omega) hin.1 hin.2 d2
    · exact hk0

theorem ansSt_same {s : St} {f : Ses} {e : Ent} : (ansSt s f e).at_ = s.at_ ∧ (ansSt s f e).clock = s.clock ∧ (ansSt s f e).tab = s.tab := by
  unfold ansSt
  split
  · exact ⟨rfl, rfl, rfl⟩
  · exact ⟨rfl, rfl, rfl⟩
theorem ansSt_right {s : St} {f : Ses} {e : Ent} (h : stErr s = 0) (he : opErr e.ok e.okey e.oto e.on = 0) : stErr (ansSt s f e) = 0 := by
  unfold ansSt
  split
  · have hg := (done_good h he).outs
    obtain ⟨h1, h2, h3⟩ := stErr_in h
    refine stErr_of ?_ h2 h3
    simp only [stIn, valsIn, Bool.and_eq_true, inB_iff] at h1 ⊢
    exact ⟨⟨hg 0 (by omega), hg 1 (by omega), hg 2 (by omega), hg 3 (by omega)⟩, h1.2⟩
  · exact h

theorem call_put {s : St} {f : Ses} {e : Ent} (h : stErr s = 0) (he : entErr e = 0) (hk : e.kind = 2) (hf : findSes s.tab e.client = some f) : putErr s.tab (callSes s f e) = 0 ∧ sesErr f = 0 ∧ f.client = e.client ∧ f ∈ s.tab := by
  have htab := (stErr_in h).2.1
  obtain ⟨t1, t2, t3⟩ := tab_right htab
  obtain ⟨hm, hc⟩ := findSes_mem hf
  refine ⟨put_zero htab (callSes_right h (t2 f hm) he hk) ?_, t2 f hm, hc, hm⟩
  rw [put_len (callSes s f e) (rising_iff.1 t3) hm rfl]
  exact t1

theorem called_right {s : St} {e : Ent} (h : stErr s = 0) (he : entErr e = 0) (hk : e.kind = 2) : stErr (callSt s e) = 0 ∧ (callSt s e).at_ = s.at_ ∧ (callSt s e).clock = s.clock := by
  unfold callSt
  cases hf : findSes s.tab e.client with
  | none => exact ⟨h, rfl, rfl⟩
  | some f =>
    obtain ⟨hp, _, _, _⟩ := call_put h he hk hf
    have hop := ((ent_right he).2.2.2.1 hk).2.2
    have hs := seenAll_iff.1 (stErr_in h).2.2
    obtain ⟨e1, e2, e3⟩ := ansSt_same (s := s) (f := calledSes s f e) (e := e)
    refine ⟨tab_turned (ansSt_right h hop) (by rw [putTab_ok hp]; exact put_right hp) fun x hx => ?_, e1, e2⟩
    rw [putTab_ok hp] at hx
    rw [e2]
    rcases mem_putList hx with rfl | hx
    · show s.clock - 20 ≤ s.clock ∧ s.clock ≤ s.clock
      omega
    · exact hs x hx

theorem taken_right {s : St} {e : Ent} (h : stErr s = 0) (he : entErr e = 0) : stErr (takenSt s e) = 0 ∧ (takenSt s e).at_ = s.at_ ∧ (takenSt s e).clock = s.clock := by
  have hk := (ent_right he).1
  unfold takenSt
  split
  · refine ⟨opened_right h, ?_⟩
    unfold openedSt
    split <;> exact ⟨rfl, rfl⟩
  · rename_i h1
    split
    · refine ⟨closed_right h, ?_⟩
      unfold closedSt
      split <;> exact ⟨rfl, rfl⟩
    · rename_i h3
      simp at h1 h3
      exact called_right h he (by omega)

/-- WHAT COMES IS RIGHT. -/
theorem one_right {s : St} {e : Ent} (h : bothErr s e = 0) : stErr (oneSt s e) = 0 ∧ (oneSt s e).at_ = s.at_ + 1 ∧ (oneSt s e).clock = max s.clock e.time := by
  obtain ⟨h1, h2, h3⟩ := both_right h
  have ht := (ent_right h2).2.1
  have e0 : oneSt s e = takenSt (ticked s e.time) e := by simp [oneSt, h]
  rw [e0]
  exact taken_right (ticked_right h1 ht.1 ht.2 h3) h2

end Go.Proofs.YteabfjpajgakiagGreat

/- A table of its own, one of whose sessions is turned in its place. -/
set_option linter.unusedSimpArgs false
set_option linter.unusedVariables false
set_option maxRecDepth 10000
namespace Go.Proofs.YteabfjpajgakiagGreat
open Go.RowKit

/-- A row of sessions in block g. -/
def SesRow (w : World) (g cap : Nat) (xs : List Value) : Prop := ∃ cur : Array Value, w.heap[g]? = some (.cells cur 71 (0, 0)) ∧ cur.size = cap * 4 ∧ cap ≤ maxLen ∧ xs.length ≤ cap * 4 ∧ cur.toList.take xs.length = xs
theorem SesRow.lt {w : World} {g cap : Nat} {xs : List Value} (h : SesRow w g cap xs) : g < w.heap.size := by
  obtain ⟨cur, h1, _⟩ := h
  exact (Array.getElem?_eq_some_iff.1 h1).1
theorem SesRow.set {w : World} {g cap : Nat} {xs : List Value} (h : SesRow w g cap xs) (i : Nat) (u : Value) : SesRow (w.setCell ⟨g, i, none⟩ u) g cap (xs.set i u) := by
  obtain ⟨cur, h1, h2, h3, h4, h5⟩ := h
  refine ⟨cur.setIfInBounds i u, ?_, by simpa using h2, h3, by simpa using h4, ?_⟩
  · simp [World.setCell, Array.getElem?_modify, h1]
  · simp only [List.length_set, Array.toList_setIfInBounds]
    rw [List.take_set, h5]
theorem SesRow.frozen {w : World} {g cap : Nat} {xs : List Value} (h : SesRow w g cap xs) (i : Nat) : w.frozen? ⟨g, i, none⟩ = false := by
  obtain ⟨cur, h1, _⟩ := h
  simp [World.frozen?, h1]

theorem sesCells_set : ∀ (L : List Ses) (ks : List Value) (k : Nat) (s : Ses) (kv : Value), ks.length = L.length → k < L.length →
    sesCells (L.set k s) (ks.set k kv) = ((((sesCells L ks).set (k * 4) (.int .i64 s.client)).set (k * 4 + 1) (.int .i64 s.acked)).set (k * 4 + 2) (.int .i64 s.seen)).set (k * 4 + 3) kv
  | [], ks, k, s, kv, _, h => by simp at h
  | a :: L, [], k, s, kv, h, _ => by simp at h
  | a :: L, b :: ks, 0, s, kv, _, _ => by simp [sesCells]
  | a :: L, b :: ks, k + 1, s, kv, h, hk => by
    have ih := sesCells_set L ks k s kv (by simpa using h) (by simpa using hk)
    rw [List.set_cons_succ, List.set_cons_succ, show (k + 1) * 4 = k * 4 + 1 + 1 + 1 + 1 from by omega]
    simp only [sesCells, List.set_cons_succ, ih]
theorem sesCells_seen : ∀ (L : List Ses) (ks : List Value) (k : Nat) (c : Int), ks.length = L.length → (hk : k < L.length) →
    sesCells (L.set k { L[k] with seen := c }) ks = (sesCells L ks).set (k * 4 + 2) (.int .i64 c)
  | [], ks, k, c, _, h => by simp at h
  | a :: L, [], k, c, h, _ => by simp at h
  | a :: L, b :: ks, 0, c, _, _ => by simp [sesCells]
  | a :: L, b :: ks, k + 1, c, h, hk => by
    have ih := sesCells_seen L ks k c (by simpa using h) (by simpa using hk)
    rw [show (k + 1) * 4 + 2 = k * 4 + 2 + 1 + 1 + 1 + 1 from by omega]
    simp only [List.set_cons_succ, List.getElem_cons_succ, sesCells, ih]
theorem sesCells_kept : ∀ (L : List Ses) (ks : List Value) (k : Nat) (l : List (Int × Int)) (kv : Value), ks.length = L.length → (hk : k < L.length) →
    sesCells (L.set k { L[k] with kept := l }) (ks.set k kv) = (sesCells L ks).set (k * 4 + 3) kv
  | [], ks, k, l, kv, _, h => by simp at h
  | a :: L, [], k, l, kv, h, _ => by simp at h
  | a :: L, b :: ks, 0, l, kv, _, _ => by simp [sesCells]
  | a :: L, b :: ks, k + 1, l, kv, h, hk => by
    have ih := sesCells_kept L ks k l kv (by simpa using h) (by simpa using hk)
    rw [show (k + 1) * 4 + 3 = k * 4 + 3 + 1 + 1 + 1 + 1 from by omega]
    simp only [List.set_cons_succ, List.getElem_cons_succ, sesCells, ih]

theorem KeptsOwn.set {base : Nat} {w : World} : ∀ {L : List Ses} {ks : List Value} (k : Nat) (s : Ses) (kv : Value), KeptsOwn base w L ks → w.ownsRow base 73 2 kv s.kept.length (repCells s.kept) → KeptsOwn base w (L.set k s) (ks.set k kv)
  | [], [], _, _, _, _, _ => trivial
  | _ :: _, _ :: _, 0, _, _, h, h' => ⟨h', h.2⟩
  | _ :: _, _ :: _, k + 1, s, kv, h, h' => ⟨h.1, KeptsOwn.set k s kv h.2 h'⟩
theorem KeptsOwn.seen {base : Nat} {w : World} : ∀ {L : List Ses} {ks : List Value} (k : Nat) (c : Int) (hk : k < L.length), KeptsOwn base w L ks → KeptsOwn base w (L.set k { L[k] with seen := c }) ks
  | [], [], _, _, hk, _ => by simp at hk
  | _ :: _, _ :: _, 0, _, _, h => ⟨h.1, h.2⟩
  | _ :: L, _ :: _, k + 1, c, hk, h => ⟨h.1, by have := KeptsOwn.seen k c (by simpa using hk) h.2; simpa using this⟩

/-- A table of its own whose row lies in block g. -/
structure TabOn (g base : Nat) (w : World) (v : Value) (L : List Ses) (ks : List Value) (cap : Nat) : Prop where
  le : base ≤ g
  val : v = .slice (some ⟨g, 0, none⟩) L.length cap
  row : SesRow w g cap (sesCells L ks)
  kept : KeptsOwn base w L ks
  fit : L.length ≤ cap

theorem TabOn.own {g base cap : Nat} {w : World} {v : Value} {L : List Ses} {ks : List Value} (h : TabOn g base w v L ks cap) : OwnTab base w v L := by
  obtain ⟨cur, h1, h2, h3, h4, h5⟩ := h.row
  have hl : (sesCells L ks).length = L.length * 4 := by
    have hk := h.kept.len
    clear h h1 h2 h3 h4 h5
    induction L generalizing ks with
    | nil => simp [sesCells]
    | cons a L ih =>
      cases ks with
      | nil => simp at hk
      | cons b ks => simp only [sesCells, List.length_cons, ih (by simpa using hk)]; omega
  rw [hl] at h5
  exact ⟨ks, h.kept, hl, .inr ⟨g, cap, cur, h.val, h.le, h1, h.fit, h3, h2, h5⟩⟩
theorem OwnTab.on {base : Nat} {w : World} {v : Value} {L : List Ses} (h : OwnTab base w v L) (h0 : 0 < L.length) : ∃ g ks cap, TabOn g base w v L ks cap := by
  obtain ⟨ks, h1, h2, h3⟩ := h
  rcases h3 with ⟨_, h3⟩ | ⟨g, cap, cur, hv, hg, hh, hn, hm, hs, ht⟩
  · omega
  · exact ⟨g, ks, cap, hg, hv, ⟨cur, hh, hs, hm, by rw [h2]; omega, by rw [h2]; exact ht⟩, h1, hn⟩
theorem TabOn.grown {g base cap : Nat} {w w' : World} {v : Value} {L : List Ses} {ks : List Value} (h : TabOn g base w v L ks cap) (hb : But g w w') : KeptsOwn base w' L ks := by
  have ho := h.own
  have hrow : ∃ row m ys, w.ownsRow base 71 4 row m ys ∧ row.ownBlock = some g := by
    obtain ⟨cur, h1, h2, h3, h4, h5⟩ := h.row
    have ⟨ks', hk', hr'⟩ := ho
    refine ⟨v, _, _, hr', ?_⟩
    rw [h.val]
    rfl
  obtain ⟨row, m, ys, hr, hg⟩ := hrow
  exact KeptsOwn.kept hr (by rw [hg]; exact ⟨hb.os, hb.tape, hb.output, hb.size, fun k hk hne => hb.block k hk (fun e => hne (by rw [e]))⟩) h.kept

/-- Its session number k is turned whole. -/
theorem TabOn.put {g base cap : Nat} {w : World} {v : Value} {L : List Ses} {ks : List Value} (h : TabOn g base w v L ks cap) {k : Nat} (hk : k < L.length) (s : Ses) (kv : Value) (hs : w.ownsRow base 73 2 kv s.kept.length (repCells s.kept)) :
    TabOn g base ((((w.setCell ⟨g, k * 4, none⟩ (.int .i64 s.client)).setCell ⟨g, k * 4 + 1, none⟩ (.int .i64 s.acked)).setCell ⟨g, k * 4 + 2, none⟩ (.int .i64 s.seen)).setCell ⟨g, k * 4 + 3, none⟩ kv) v (L.set k s) (ks.set k kv) cap := by
  have hb : But g w ((((w.setCell ⟨g, k * 4, none⟩ (.int .i64 s.client)).setCell ⟨g, k * 4 + 1, none⟩ (.int .i64 s.acked)).setCell ⟨g, k * 4 + 2, none⟩ (.int .i64 s.seen)).setCell ⟨g, k * 4 + 3, none⟩ kv) := ((((But.refl _ _).set _ _).set _ _).set _ _).set _ _
  have hl := h.kept.len
  have h2 : TabOn g base w v (L.set k s) (ks.set k kv) cap → True := fun _ => trivial
  refine ⟨h.le, by rw [h.val]; simp, ?_, ?_, by simpa using h.fit⟩
  · rw [sesCells_set L ks k s kv hl hk]
    exact (((h.row.set _ _).set _ _).set _ _).set _ _
  · have ho := h.own
    obtain ⟨ks', hk', hr'⟩ := ho
    have hgb : v.ownBlock = some g := by rw [h.val]; rfl
    exact KeptsOwn.kept hr' (by rw [hgb]; exact ⟨hb.os, hb.tape, hb.output, hb.size, fun k hk hne => hb.block k hk (fun e => hne (by rw [e]))⟩) (h.kept.set k s kv hs)
/-- .. when it was seen. -/
theorem TabOn.seen {g base cap : Nat} {w : World} {v : Value} {L : List Ses} {ks : List Value} (h : TabOn g base w v L ks cap) {k : Nat} (hk : k < L.length) (c : Int) :
    TabOn g base (w.setCell ⟨g, k * 4 + 2, none⟩ (.int .i64 c)) v (L.set k { L[k] with seen := c }) ks cap := by
  refine ⟨h.le, by rw [h.val]; simp, ?_, ?_, by simpa using h.fit⟩
  · rw [sesCells_seen L ks k c h.kept.len hk]
    exact h.row.set _ _
  · exact (h.grown ((But.refl _ _).set _ _)).seen k c hk
/-- .. what it keeps. -/
theorem TabOn.keptSet {g base cap : Nat} {w : World} {v : Value} {L : List Ses} {ks : List Value} (h : TabOn g base w v L ks cap) {k : Nat} (hk : k < L.length) (l : List (Int × Int)) (kv : Value) (hs : w.ownsRow base 73 2 kv l.length (repCells l)) :
    TabOn g base (w.setCell ⟨g, k * 4 + 3, none⟩ kv) v (L.set k { L[k] with kept := l }) (ks.set k kv) cap := by
  have hb : But g w (w.setCell ⟨g, k * 4 + 3, none⟩ kv) := (But.refl _ _).set _ _
  have hgb : v.ownBlock = some g := by rw [h.val]; rfl
  refine ⟨h.le, by rw [h.val]; simp, ?_, ?_, by simpa using h.fit⟩
  · rw [sesCells_kept L ks k l kv h.kept.len hk]
    exact h.row.set _ _
  · have ho := h.own
    obtain ⟨ks', hk', hr'⟩ := ho
    exact KeptsOwn.kept hr' (by rw [hgb]; exact ⟨hb.os, hb.tape, hb.output, hb.size, fun k hk hne => hb.block k hk (fun e => hne (by rw [e]))⟩) (h.kept.set k _ kv hs)
theorem TabOn.keep {g base cap : Nat} {w w' : World} {v : Value} {L : List Ses} {ks : List Value} (h : TabOn g base w v L ks cap) (hk : Keeps w w') : TabOn g base w' v L ks cap := by
  refine ⟨h.le, h.val, ?_, h.kept.keep hk, h.fit⟩
  have hl := h.row.lt
  obtain ⟨cur, h1, r⟩ := h.row
  exact ⟨cur, (hk.block g hl).trans h1, r⟩
theorem TabOn.but {g b base cap : Nat} {w w' : World} {v : Value} {L : List Ses} {ks : List Value} (h : TabOn g base w v L ks cap) (hb : b < base) (hk : But b w w') : TabOn g base w' v L ks cap := by
  refine ⟨h.le, h.val, ?_, h.kept.far hb hk, h.fit⟩
  have hl := h.row.lt
  have hle := h.le
  obtain ⟨cur, h1, r⟩ := h.row
  exact ⟨cur, (hk.block g hl (by omega)).trans h1, r⟩

/-- A session in the place of its client's, by its place. -/
theorem put_set : ∀ {L : List Ses} {k : Nat} (s : Ses), L.Pairwise (fun a b => a.client < b.client) → (hk : k < L.length) → (L[k]).client = s.client → putList L s = L.set k s
  | [], k, s, _, h, _ => by simp at h
  | a :: t, 0, s, hp, _, hc => by
    rw [List.pairwise_cons] at hp
    simp only [List.getElem_cons_zero] at hc
    unfold putList
    rw [List.filter_eq_nil_iff.2, List.filter_cons_of_neg (by simp; omega), List.filter_eq_self.2]
    · simp
    · intro o ho
      have := hp.1 o ho
      simp
      omega
    · intro o ho
      rcases List.mem_cons.1 ho with rfl | ho
      · simp; omega
      · have := hp.1 o ho
        simp
        omega
  | a :: t, k + 1, s, hp, hk, hc => by
    rw [List.pairwise_cons] at hp
    simp only [List.getElem_cons_succ] at hc
    have hk' : k < t.length := by simpa using hk
    have hac := hp.1 _ (List.getElem_mem hk')
    have ih := put_set s hp.2 hk' hc
    unfold putList at ih ⊢
    rw [List.filter_cons_of_pos (by simp; omega), List.filter_cons_of_neg (by simp; omega), List.set_cons_succ, ← ih]
    rfl
end Go.Proofs.YteabfjpajgakiagGreat

/- What comes again is answered as it was: plain mathematics. -/
set_option linter.unusedSimpArgs false
set_option linter.unusedVariables false
namespace Go.Proofs.YteabfjpajgakiagGreat
open Go.RowKit

theorem pos_mem : ∀ {l : List (Int × Int)} {seq v : Int}, l.Pairwise (fun a b => a.1 < b.1) → (seq, v) ∈ l → l[posOf l seq]? = some (seq, v)
  | [], seq, v, _, h => by cases h
  | a :: t, seq, v, hp, h => by
    rw [List.pairwise_cons] at hp
    rcases List.mem_cons.1 h with rfl | h
    · simp [posOf, List.takeWhile_cons]
    · have ha := hp.1 _ h
      have e : posOf (a :: t) seq = posOf t seq + 1 := by simp [posOf, List.takeWhile_cons, show a.1 < seq from ha]
      rw [e, List.getElem?_cons_succ]
      exact pos_mem hp.2 h
/-- An answer that is kept is found. -/
theorem has_mem {l : List (Int × Int)} {seq v : Int} (hp : l.Pairwise (fun a b => a.1 < b.1)) (h : (seq, v) ∈ l) : keptHas l seq = true ∧ keptVal l seq = v := by
  have := pos_mem hp h
  simp [keptHas, thereB, keptVal, this]
/-- What kept is right. -/
theorem kept_pair {f : Ses} (h : sesErr f = 0) : f.kept.Pairwise (fun a b => a.1 < b.1) := (keptOk_iff.1 (ses_right h).2.2.2).1
end Go.Proofs.YteabfjpajgakiagGreat

/- What the reference's applied makes, said by places: plain mathematics. -/
set_option linter.unusedSimpArgs false
set_option linter.unusedVariables false
namespace Go.Proofs.YteabfjpajgakiagGreat
open Go.RowKit

theorem put_len_new {L : List Ses} {s : Ses} (h : findSes L s.client = none) : (putList L s).length = L.length + 1 := by
  have hne : ∀ x ∈ L, x.client ≠ s.client := by
    intro x hx hc
    unfold findSes at h
    rw [List.find?_eq_none] at h
    exact h x hx (by simpa using hc)
  have key : ∀ M : List Ses, (∀ x ∈ M, x.client ≠ s.client) → (M.filter (fun o => decide (o.client < s.client))).length + (M.filter (fun o => decide (s.client < o.client))).length = M.length := by
    intro M
    induction M with
    | nil => intro _; rfl
    | cons a t ih =>
      intro hM
      have ha := hM a (List.mem_cons_self ..)
      have iht := ih (fun x hx => hM x (List.mem_cons_of_mem _ hx))
      by_cases hlt : a.client < s.client
      · rw [List.filter_cons_of_pos (by simpa using hlt), List.filter_cons_of_neg (by simp; omega)]
        simp only [List.length_cons]
        omega
      · rw [List.filter_cons_of_neg (by simpa using hlt), List.filter_cons_of_pos (by simp; omega)]
        simp only [List.length_cons]
        omega
  have := key L hne
  unfold putList
  simp only [List.length_append, List.length_cons, List.length_nil]
  omega

/-- A right table's sessions. -/
theorem tab_ses {s : St} (h : stErr s = 0) {k : Nat} (hk : k < s.tab.length) : sesErr (s.tab[k]) = 0 := (tab_right (stErr_in h).2.1).2.1 _ (List.getElem_mem hk)
theorem tab_pair {s : St} (h : stErr s = 0) : s.tab.Pairwise (fun a b => a.client < b.client) := rising_iff.1 (tab_right (stErr_in h).2.1).2.2
theorem tab_three {s : St} (h : stErr s = 0) : s.tab.length ≤ 3 := (tab_right (stErr_in h).2.1).1

theorem opened_found {s : St} {c : Int} {k : Nat} (h : stErr s = 0) (hk : k < s.tab.length) (hf : findSes s.tab c = some (s.tab[k])) :
    openedSt s c = { s with tab := s.tab.set k { s.tab[k] with seen := s.clock } } ∧ openedAns s c = 0 := by
  have hc := (findSes_mem hf).2
  have e1 : openSes s c = { s.tab[k] with seen := s.clock } := by
    unfold openSes
    rw [hf]
    show (⟨c, (s.tab[k]).acked, s.clock, (s.tab[k]).kept⟩ : Ses) = _
    rw [← hc]
  have hcl := (stErr_bounds h).2
  obtain ⟨r1, r2, r3, r4⟩ := ses_right (tab_ses h hk)
  have hse : sesErr { s.tab[k] with seen := s.clock } = 0 := ses_zero (inB_iff.1 r1) (inB_iff.1 r2) hcl r4
  have hp : putErr s.tab (openSes s c) = 0 := by
    rw [e1]
    exact put_zero (stErr_in h).2.1 hse (by rw [put_len (f := s.tab[k]) { s.tab[k] with seen := s.clock } (tab_pair h) (List.getElem_mem hk) rfl]; exact tab_three h)
  refine ⟨?_, by simp [openedAns, hp]⟩
  unfold openedSt
  rw [if_pos (by simpa using hp), putTab_ok hp, e1, put_set (k := k) { s.tab[k] with seen := s.clock } (tab_pair h) hk rfl]

theorem opened_none {s : St} {c : Int} (h : stErr s = 0) (hc : 1 ≤ c ∧ c ≤ 5) (hf : findSes s.tab c = none) :
    (s.tab.length = 3 → openedSt s c = s ∧ openedAns s c = -2) ∧ (s.tab.length ≠ 3 → openedSt s c = { s with tab := putTab s.tab ⟨c, 0, s.clock, []⟩ } ∧ openedAns s c = 0 ∧ putErr s.tab ⟨c, 0, s.clock, []⟩ = 0) := by
  have e1 : openSes s c = ⟨c, 0, s.clock, []⟩ := by unfold openSes; rw [hf]; rfl
  have hcl := (stErr_bounds h).2
  have hse : sesErr ⟨c, 0, s.clock, []⟩ = 0 := ses_zero hc (show (0 : Int) ≤ 0 ∧ (0 : Int) ≤ 60 from by decide) hcl rfl
  have hl := put_len_new (L := s.tab) (s := ⟨c, 0, s.clock, []⟩) hf
  have h3 := tab_three h
  refine ⟨fun h' => ?_, fun h' => ?_⟩
  · have hp : putErr s.tab (openSes s c) = 2 := by
      rw [e1]
      simp [putErr, (stErr_in h).2.1, hse]
      omega
    exact ⟨by simp [openedSt, hp], by simp [openedAns, hp]⟩
  · have hp : putErr s.tab ⟨c, 0, s.clock, []⟩ = 0 := put_zero (stErr_in h).2.1 hse (by omega)
    exact ⟨by simp [openedSt, e1, hp], by simp [openedAns, e1, hp], hp⟩

theorem closed_found {s : St} {c : Int} (h : stErr s = 0) {f : Ses} (hf : findSes s.tab c = some f) : closedSt s c = { s with tab := s.tab.filter (fun x => x.client != c) } ∧ closedAns s c = 0 := by
  have hn : (s.tab.filter (fun x => x.client != c)).length ≠ s.tab.length := by
    intro e
    have := drop_none.2 e
    rw [hf] at this
    cases this
  have hd : dropErr s.tab c = 0 := by
    simp only [dropErr, (stErr_in h).2.1, beq_self_eq_true, if_true]
    rw [if_neg (by rw [beq_iff_eq]; exact hn)]
  exact ⟨by simp [closedSt, hd, dropTab], by simp [closedAns, hd]⟩
theorem closed_none {s : St} {c : Int} (h : stErr s = 0) (hf : findSes s.tab c = none) : closedSt s c = s ∧ closedAns s c = -3 := by
  have hd : dropErr s.tab c = 5 := by
    simp only [dropErr, (stErr_in h).2.1, beq_self_eq_true, if_true]
    rw [if_pos (by simpa using drop_none.1 hf)]
  exact ⟨by simp [closedSt, hd], by simp [closedAns, hd]⟩

theorem call_found {s : St} {e : Ent} {k : Nat} (h : stErr s = 0) (he : entErr e = 0) (hkd : e.kind = 2) (hk : k < s.tab.length) (hf : findSes s.tab e.client = some (s.tab[k])) :
    callSt s e = { ansSt s (calledSes s (s.tab[k]) e) e with tab := s.tab.set k (callSes s (s.tab[k]) e) } ∧ callAns s e = ansOf s (calledSes s (s.tab[k]) e) e ∧ callDone s e = ansDone (calledSes s (s.tab[k]) e) e := by
  obtain ⟨hp, _, _, _⟩ := call_put h he hkd hf
  unfold callSt callAns callDone
  rw [hf]
  refine ⟨?_, rfl, rfl⟩
  show ({ ansSt s (calledSes s (s.tab[k]) e) e with tab := putTab s.tab (callSes s (s.tab[k]) e) } : St) = _
  rw [putTab_ok hp, put_set (k := k) (callSes s (s.tab[k]) e) (tab_pair h) hk rfl]
theorem call_none {s : St} {e : Ent} (hf : findSes s.tab e.client = none) : callSt s e = s ∧ callAns s e = -3 ∧ callDone s e = false := by
  unfold callSt callAns callDone
  rw [hf]
  exact ⟨rfl, rfl, rfl⟩
end Go.Proofs.YteabfjpajgakiagGreat

/- twin.State. -/
set_option linter.unusedSimpArgs false
set_option linter.unusedVariables false
set_option maxRecDepth 10000
namespace Go.Proofs.YteabfjpajgakiagGreat
open Go.RowKit

set_option maxHeartbeats 2000000 in
theorem twin_state (s : St) (x : Value) (w : World) (hT : TabAt w x s.tab) (h3 : s.tab.length ≤ 3) (hk3 : ∀ y ∈ s.tab, y.kept.length ≤ 3) :
    Calls Tryz.prog 61 #[stV s x] w fun y w' => ∃ x', OwnTab w.heap.size w' x' s.tab ∧ y = .returned (stV s x') ∧ Keeps w w' := by
  obtain ⟨xa, xc, rfl, hlen⟩ := hT.len
  unfold maxLen at hlen
  have HT : Hid (TabAt w (.slice xa s.tab.length xc) s.tab) := hT
  have HK3 : Hid (∀ y ∈ s.tab, y.kept.length ≤ 3) := hk3
  clear hT hk3
  go_enter Tryz.func61, Tryz.ntmps61
  go_wp2_with fail
  obtain ⟨W1, hW1⟩ : ∃ W1, W1 = (w.alloc (.cells #[.int .i64 s.at_, .int .i64 s.clock, .int .i64 s.v0, .int .i64 s.v1, .int .i64 s.v2, .int .i64 s.v3, .slice xa s.tab.length xc] 25)).alloc (.cells #[.int .i64 0, .int .i64 0, .int .i64 0, .int .i64 0, .int .i64 0, .int .i64 0, .slice none 0 0] 25) := ⟨_, rfl⟩
  have k1 : Keeps w W1 := by rw [hW1]; exact ((Keeps.refl _).alloc _).alloc _
  have B1 : StBox w.heap.size s (.slice xa s.tab.length xc) W1 := by rw [hW1]; exact (StBox.new w s _ 25).keep ((Keeps.refl _).alloc _)
  have Z1 : StBox (w.heap.size + 1) zeroSt (.slice none 0 0) W1 := by
    rw [hW1]
    have := StBox.new (w.alloc (.cells #[.int .i64 s.at_, .int .i64 s.clock, .int .i64 s.v0, .int .i64 s.v1, .int .i64 s.v2, .int .i64 s.v3, .slice xa s.tab.length xc] 25)) zeroSt (.slice none 0 0) 25
    simp only [World.size_alloc] at this
    exact this
  have hz1 : W1.heap.size = w.heap.size + 2 := by rw [hW1]; simp
  rw [← hW1]
  clear hW1
  have HB1 : Hid (StBox w.heap.size s (.slice xa s.tab.length xc) W1) := B1
  have HZ1 : Hid (StBox (w.heap.size + 1) zeroSt (.slice none 0 0) W1) := Z1
  have HK1 : Hid (Keeps w W1) := k1
  clear B1 Z1 k1
  go_loopw [3, 9] (fun o i wr => ∃ (k : Nat), k ≤ s.tab.length ∧ i = .int .i64 k ∧ Keeps W1 wr ∧ Hid (OwnTab W1.heap.size wr o (s.tab.take k))) (fun _ i _ => s.tab.length - (intOf i).toNat)
  case atStart => exact ⟨0, Nat.zero_le _, rfl, Keeps.refl _, OwnTab.nil _ _⟩
  case round =>
    obtain ⟨k, hk, rfl, hkw, HO⟩ := hrel
    by_cases hlt : k < s.tab.length
    · obtain ⟨b, off, cap', hv, hcell⟩ := ((HT.out.keep HK1.out).keep hkw).at hlt
      injection hv with hv1 hv2 hv3
      subst hv1
      clear hv2 hv3
      obtain ⟨c0, c1, c2, ka, kc, c3, hkv⟩ := hcell k hlt
      clear hcell
      have HKV : Hid (KeptAt wr (.slice ka (s.tab[k]).kept.length kc) (s.tab[k]).kept) := hkv
      clear hkv
      have HF : Hid (s.tab.take (k + 1) = s.tab.take k ++ [s.tab[k]]) := List.take_succ_eq_append_getElem hlt
      have hn3 : (s.tab[k]).kept.length ≤ 3 := HK3.out _ (List.getElem_mem hlt)
      have hfl : (s.tab.take k).length ≤ 3 := by simp; omega
      generalize s.tab[k] = f at *
      generalize hO : s.tab.take k = O at *
      go_wp2_with fail
      have kA : Keeps wr (wr.alloc (.cells #[.int .i64 f.client, .int .i64 f.acked, .int .i64 f.seen, .slice ka f.kept.length kc] 71)) := (Keeps.refl _).alloc _
      generalize (wr.alloc (.cells #[.int .i64 f.client, .int .i64 f.acked, .int .i64 f.seen, .slice ka f.kept.length kc] 71)) = wA at *
      refine (twin_c f _ wA (HKV.out.keep kA) hn3).mono ?_
      rintro e w2 ⟨kv', ho, rfl, hb2⟩
      have hb2 : Keeps wr w2 := kA.trans hb2
      have ho : w2.ownsRow wr.heap.size 73 2 kv' f.kept.length (repCells f.kept) := owns_base ho kA.size
      clear kA
      obtain ⟨va, vc, rfl⟩ : ∃ va vc, kv' = .slice va f.kept.length vc := by obtain ⟨x, y, h, _⟩ := (RowAt.of_owns ho).len; exact ⟨x, y, h⟩
      have hM : KeptsOwn W1.heap.size (w2.alloc (.cells #[.int .i64 f.client, .int .i64 f.acked, .int .i64 f.seen, .slice va f.kept.length vc] 71)) [f] [.slice va f.kept.length vc] := ⟨owns_keep (owns_base ho hkw.size) ((Keeps.refl _).alloc _), trivial⟩
      obtain ⟨v', w', hr, hO', hg, hbk⟩ := run_append_tab (w2.alloc (.cells #[.int .i64 f.client, .int .i64 f.acked, .int .i64 f.seen, .slice va f.kept.length vc] 71)) W1.heap.size u3 O ((HO.out.keep hb2).keep ((Keeps.refl _).alloc _)) _ [f] _ hM (row_one w2 f _) (by simp; omega) (by simp; have := hkw.size; have := hb2.size; omega)
      have hk' : Keeps W1 w' := keeps_grown ((hkw.trans hb2).alloc _) hg hbk
      have Hr := (show Hid (_ = _) from hr)
      have HO1 : Hid (OwnTab W1.heap.size w' v' (s.tab.take (k + 1))) := by show OwnTab _ _ _ _; rw [HF.out]; exact hO'
      clear hr hM hO' hg hbk ho hb2 HO HF HKV
      go_wp2_with (at_builtin; refine wpList_append_run rfl _ _ _ rfl rfl rfl Hr.out ?_)
      go_roundw
      case rel => exact ⟨k + 1, by omega, by go_num, hk', HO1⟩
      case measure => simp [intOf]; omega
    · have HO1 : Hid (OwnTab W1.heap.size wr u3 s.tab) := by
        have := HO.out
        rw [List.take_of_length_le (by omega)] at this
        exact this
      obtain ⟨va, vc, hu, _⟩ := HO1.out.tab.len
      subst hu
      have B2 := HB1.out.keep hkw
      have Z2 := HZ1.out.keep hkw
      have b0 := B2.c0
      have b1 := B2.c1
      have b2 := B2.c2
      have b3 := B2.c3
      have b4 := B2.c4
      have b5 := B2.c5
      have b6 := B2.c6
      have bz := B2.fz
      have bl := B2.lt
      have z0 := Z2.c0
      have z1 := Z2.c1
      have z2 := Z2.c2
      have z3 := Z2.c3
      have z4 := Z2.c4
      have z5 := Z2.c5
      have z6 := Z2.c6
      have zf := Z2.fz
      have zl := Z2.lt
      have HKw : Hid (Keeps w wr) := HK1.out.trans hkw
      clear B2 Z2 HT HO hkw
      generalize hsl : s.tab.length = sl at *
      go_wp2_with fail
      refine bodyPost_ret (v := stV s (.slice va sl vc)) ?_ rfl ?_
      · simp [results, Tryz.results61, go_sem, z0, z1, z2, z3, z4, z5, z6]
      · refine ⟨.slice va sl vc, ?_, rfl, ?_⟩
        · exact ((HO1.out.but (b := w.heap.size) (by omega) ((But.refl _ _).set 6 _)).but (b := w.heap.size + 1) (by omega) ((((((((But.refl _ _).set 0 _).set 1 _).set 2 _).set 3 _).set 4 _).set 5 _).set 6 _)).base (by omega)
        · repeat refine Keeps.set ?_ (by simp <;> omega) _
          exact HKw.out

theorem twin_right {s : St} (x : Value) (w : World) (hT : TabAt w x s.tab) (hs : stErr s = 0) :
    Calls Tryz.prog 61 #[stV s x] w fun y w' => ∃ x', OwnTab w.heap.size w' x' s.tab ∧ y = .returned (stV s x') ∧ Keeps w w' :=
  twin_state s x w hT (tab_three hs) (fun y hy => kept_le ((tab_right (stErr_in hs).2.1).2.1 y hy))
end Go.Proofs.YteabfjpajgakiagGreat

/- A state laid into its box. -/
namespace Go.Proofs.YteabfjpajgakiagGreat
open Go.RowKit

/-- A state laid into its box. -/
theorem StBox.put {b : Nat} {s : St} {t : Value} {w : World} (h : StBox b s t w) (s' : St) (t' : Value) : StBox b s' t' (((((((w.setCell ⟨b, 0, none⟩ (.int .i64 s'.at_)).setCell ⟨b, 1, none⟩ (.int .i64 s'.clock)).setCell ⟨b, 2, none⟩ (.int .i64 s'.v0)).setCell ⟨b, 3, none⟩ (.int .i64 s'.v1)).setCell ⟨b, 4, none⟩ (.int .i64 s'.v2)).setCell ⟨b, 5, none⟩ (.int .i64 s'.v3)).setCell ⟨b, 6, none⟩ t') :=
  ((((((h.set (s' := { s with at_ := s'.at_ }) (t' := t) 0 (.int .i64 s'.at_) rfl rfl rfl rfl rfl rfl rfl).set (s' := { s with at_ := s'.at_, clock := s'.clock }) (t' := t) 1 (.int .i64 s'.clock) rfl rfl rfl rfl rfl rfl rfl).set (s' := { s with at_ := s'.at_, clock := s'.clock, v0 := s'.v0 }) (t' := t) 2 (.int .i64 s'.v0) rfl rfl rfl rfl rfl rfl rfl).set (s' := { s with at_ := s'.at_, clock := s'.clock, v0 := s'.v0, v1 := s'.v1 }) (t' := t) 3 (.int .i64 s'.v1) rfl rfl rfl rfl rfl rfl rfl).set (s' := { s with at_ := s'.at_, clock := s'.clock, v0 := s'.v0, v1 := s'.v1, v2 := s'.v2 }) (t' := t) 4 (.int .i64 s'.v2) rfl rfl rfl rfl rfl rfl rfl).set (s' := { s with at_ := s'.at_, clock := s'.clock, v0 := s'.v0, v1 := s'.v1, v2 := s'.v2, v3 := s'.v3 }) (t' := t) 5 (.int .i64 s'.v3) rfl rfl rfl rfl rfl rfl rfl).set (s' := s') (t' := t') 6 t' rfl rfl rfl rfl rfl rfl rfl
theorem But.puts {b : Nat} (w : World) (s' : St) (t' : Value) : But b w (((((((w.setCell ⟨b, 0, none⟩ (.int .i64 s'.at_)).setCell ⟨b, 1, none⟩ (.int .i64 s'.clock)).setCell ⟨b, 2, none⟩ (.int .i64 s'.v0)).setCell ⟨b, 3, none⟩ (.int .i64 s'.v1)).setCell ⟨b, 4, none⟩ (.int .i64 s'.v2)).setCell ⟨b, 5, none⟩ (.int .i64 s'.v3)).setCell ⟨b, 6, none⟩ t') :=
  (((((((But.refl _ _).set 0 _).set 1 _).set 2 _).set 3 _).set 4 _).set 5 _).set 6 _
end Go.Proofs.YteabfjpajgakiagGreat

/- All of it, plain; what a round of a loop over a function spares; a round out of its body's walk. -/
set_option linter.unusedSimpArgs false
set_option linter.unusedVariables false
namespace Go.Proofs.YteabfjpajgakiagGreat
open Go.RowKit

/-- The state behind entries, and their answers. -/
def runSt (s : St) (L : List Ent) : St := L.foldl oneSt s
def runAns : St → List Ent → List Int
  | _, [] => []
  | s, e :: r => oneAns s e :: runAns (oneSt s e) r
def runDone : St → List Ent → List Bool
  | _, [] => []
  | s, e :: r => oneDone s e :: runDone (oneSt s e) r

theorem runSt_snoc (s : St) (L : List Ent) (e : Ent) : runSt s (L ++ [e]) = oneSt (runSt s L) e := by simp [runSt]
theorem runSt_append (s : St) (L M : List Ent) : runSt s (L ++ M) = runSt (runSt s L) M := by simp [runSt]
theorem runAns_append : ∀ (s : St) (L M : List Ent), runAns s (L ++ M) = runAns s L ++ runAns (runSt s L) M
  | s, [], M => rfl
  | s, e :: r, M => by simp only [List.cons_append, runAns, runAns_append (oneSt s e) r M]; rfl
theorem runDone_append : ∀ (s : St) (L M : List Ent), runDone s (L ++ M) = runDone s L ++ runDone (runSt s L) M
  | s, [], M => rfl
  | s, e :: r, M => by simp only [List.cons_append, runDone, runDone_append (oneSt s e) r M]; rfl
theorem runAns_len : ∀ (s : St) (L : List Ent), (runAns s L).length = L.length
  | s, [] => rfl
  | s, e :: r => by simp [runAns, runAns_len (oneSt s e) r]
theorem both_zero {s : St} {e : Ent} (h1 : stErr s = 0) (h2 : entErr e = 0) (h3 : s.at_ ≠ 50) : bothErr s e = 0 := by simp [bothErr, h1, h2, h3]

theorem run_right : ∀ {L : List Ent} {s : St}, stErr s = 0 → (∀ e ∈ L, entErr e = 0) → s.at_ + L.length ≤ 50 → stErr (runSt s L) = 0 ∧ (runSt s L).at_ = s.at_ + L.length
  | [], s, h, _, _ => ⟨h, by simp [runSt]⟩
  | e :: r, s, h, hL, hr => by
    have hb : bothErr s e = 0 := both_zero h (hL e (List.mem_cons_self ..)) (by simp at hr; omega)
    obtain ⟨h1, h2, _⟩ := one_right hb
    have ih := run_right (L := r) h1 (fun x hx => hL x (List.mem_cons_of_mem _ hx)) (by rw [h2]; simp at hr; omega)
    refine ⟨ih.1, ?_⟩
    show (runSt (oneSt s e) r).at_ = _
    rw [ih.2, h2]
    simp
    omega

/-- What is spared is as it was. -/
structure Spares (p : Nat → Prop) (x y : World) : Prop where
  os : y.os = x.os
  tape : y.tape = x.tape
  output : y.output = x.output
  size : x.heap.size ≤ y.heap.size
  block : ∀ k, k < x.heap.size → p k → y.heap[k]? = x.heap[k]?
theorem Spares.refl (p : Nat → Prop) (x : World) : Spares p x x := ⟨rfl, rfl, rfl, Nat.le_refl _, fun _ _ _ => rfl⟩
theorem Spares.trans {p : Nat → Prop} {x y z : World} (h : Spares p x y) (k : Spares p y z) : Spares p x z :=
  ⟨k.os.trans h.os, k.tape.trans h.tape, k.output.trans h.output, Nat.le_trans h.size k.size, fun i hi hp => (k.block i (Nat.lt_of_lt_of_le hi h.size) hp).trans (h.block i hi hp)⟩
theorem Spares.mono {p q : Nat → Prop} {x y : World} (h : Spares p x y) (hq : ∀ k, k < x.heap.size → q k → p k) : Spares q x y := ⟨h.os, h.tape, h.output, h.size, fun k hk hp => h.block k hk (hq k hk hp)⟩
theorem Spares.of {p : Nat → Prop} {x y : World} (h : Keeps x y) : Spares p x y := ⟨h.os, h.tape, h.output, h.size, fun k hk _ => h.block k hk⟩
theorem Spares.but {p : Nat → Prop} {b : Nat} {x y : World} (h : But b x y) (hb : ¬ p b) : Spares p x y := ⟨h.os, h.tape, h.output, h.size, fun k hk hp => h.block k hk (fun e => hb (by rw [← e]; exact hp))⟩
theorem Spares.grown {p : Nat → Prop} {r : Option Nat} {x y : World} (h : x.grownBy y r) (hb : ∀ b, r = some b → ¬ p b) : Spares p x y := ⟨h.os, h.tape, h.output, h.size, fun k hk hp => h.block k hk (fun e => hb k e.symm hp)⟩
theorem Spares.put {p : Nat → Prop} {x : World} {l : Nat} (o : Obj) (hb : ¬ p l) : Spares p x (x.putObj l o) := Spares.grown (grownBy_putObj' x l o) (fun b e => by cases e; exact hb)
theorem Spares.keeps {p : Nat → Prop} {a x y : World} (h : Spares p x y) (ha : Keeps a x) (hp : ∀ k, k < a.heap.size → p k) : Keeps a y :=
  Below.trans ha (⟨h.os, h.tape, h.output, h.size, fun k hk => h.block k (Nat.lt_of_lt_of_le hk ha.size) (hp k hk)⟩ : Below a.heap.size x y)
theorem owns_spared {p : Nat → Prop} {m : Nat} {w w' : World} {e : TypeId} {size : Nat} {v : Value} {n : Nat} {xs : List Value} (h : w.ownsRow m e size v n xs) (hs : Spares p w w') (hp : ∀ k, m ≤ k → k < w.heap.size → p k) : w'.ownsRow m e size v n xs := by
  refine ⟨h.1, ?_⟩
  rcases h.2 with h2 | ⟨g, cap, cur, hv, hg, hc, r⟩
  · exact .inl h2
  · exact .inr ⟨g, cap, cur, hv, hg, (hs.block g (Array.getElem?_eq_some_iff.1 hc).1 (hp g hg (Array.getElem?_eq_some_iff.1 hc).1)).trans hc, r⟩
theorem KeptsOwn.spared {p : Nat → Prop} {m : Nat} {w w' : World} (hs : Spares p w w') (hp : ∀ k, m ≤ k → k < w.heap.size → p k) : ∀ {L : List Ses} {ks : List Value}, KeptsOwn m w L ks → KeptsOwn m w' L ks
  | [], [], _ => trivial
  | _ :: _, _ :: _, h => ⟨owns_spared h.1 hs hp, KeptsOwn.spared hs hp h.2⟩
theorem OwnTab.spared {p : Nat → Prop} {m : Nat} {w w' : World} {v : Value} {L : List Ses} (h : OwnTab m w v L) (hs : Spares p w w') (hp : ∀ k, m ≤ k → k < w.heap.size → p k) : OwnTab m w' v L := by
  obtain ⟨ks, h1, h2⟩ := h
  exact ⟨ks, h1.spared hs hp, owns_spared h2 hs hp⟩
theorem StBox.spared {p : Nat → Prop} {b : Nat} {s : St} {t : Value} {w w' : World} (h : StBox b s t w) (hs : Spares p w w') (hp : p b) : StBox b s t w' := by
  have hb := hs.block b h.lt hp
  have hc : ∀ i, w'.cell? ⟨b, i, none⟩ = w.cell? ⟨b, i, none⟩ := fun i => World.cell?_of_block hb
  exact ⟨(hc _).trans h.c0, (hc _).trans h.c1, (hc _).trans h.c2, (hc _).trans h.c3, (hc _).trans h.c4, (hc _).trans h.c5, (hc _).trans h.c6, fun i => (World.frozen?_of_block hb).trans (h.fz i)⟩

/-- A round of a loop over a function, whose body goes on: out of the walk of its assignments and of its body. -/
theorem yield_round {F : Fence} {m : Nat} {P : Program} {l : Nat} {r : Loop} {args tmps : Array Value} {ps : Array Tmp} {assign body : Code} {W : World} {R : Ending → World → Prop} (hl : W.heap[l]? = some (.loop r)) (hr : r.state = .ready) (hp : r.pending = none) (hfn : F.fn r.fn)
    (e1 : r.params = ps) (e2 : r.tmps = tmps) (e3 : r.assign = assign) (e4 : r.body = body) (hs : args.size = ps.size)
    (h : ∀ rb : Loop, assign.wpIn (F.inRound l) m P (Exit.then (fun a₁ w₁ => w₁.heap[l]? = some (.loop r) ∧ body.wpIn (F.inRound l) m P (fun e _ W3 => e = .normal ∧ W3.heap[l]? = some (.loop rb) ∧ R (.returned (.bool true)) (W3.putObj l (.loop r))) a₁ (w₁.putObj l (.loop rb))) (fun _ _ _ => False))
      { tmps := (ps.zip args).foldl (fun t (p, v) => t.setIfInBounds p v) tmps, defers := [] } W) :
    YieldAt F m P l args W R := by
  subst e1 e2 e3 e4
  refine ⟨r.fn, _, r.assign, r.body, run_yield hl hs, roundIn_of_wpIn hfn (wpIn_mono (h { r with state := .busy }) ?_)⟩
  intro e a w1 he
  cases e with
  | normal =>
    obtain ⟨h1, h2⟩ := he
    refine ⟨_, run_beginRound h1 hr, wpIn_mono h2 ?_⟩
    rintro e a3 W3 ⟨rfl, h3, h4⟩
    refine ⟨_, _, run_endRound none h3, ?_⟩
    have e1 : ({ { r with state := LoopState.busy } with state := if (none : Option Code).isNone = true then LoopState.ready else LoopState.done, pending := none } : Loop) = r := by
      cases r
      simp at hr hp ⊢
      exact ⟨hr.symm, hp.symm⟩
    rw [e1]
    exact h4
  | _ => exact he.elim

/-- A loop over a function, whose body never leaves: by a contract of the function at this very loop. -/
theorem range_walk {F : Fence} {n : Nat} {P : Program} {g : Operand} {ps : Array Tmp} {assign body : Code} {Q : Exit → Act → World → Prop} {a : Act} {w : World} (hro : F.round = none) (h1 : 1 ≤ n) {gf : Nat} {lb : Array Value} (hg : a.eval g = .func (.func gf) #[] lb) (hFg : F.fn gf)
    (eg : ∀ args w, (callFunc gf args).run P w = .ok (.enter gf args) w)
    (h : ∀ r : Loop, F.fn r.fn → r.state = .ready → r.pending = none → r.params = ps → r.tmps = a.tmps → r.assign = assign → r.body = body →
      CallsIn F (n - 1) P gf (#[.func (.yield (w.heap.size + 1)) #[] #[]] ++ lb) ((w.alloc (.deferred (some []))).alloc (.loop r)) fun e W' => (∃ v, e = .returned v) ∧ W'.heap[w.heap.size + 1]? = some (.loop r) ∧ Q .normal { a with defers := { target := .collected w.heap.size, args := #[] } :: a.defers } (W'.putObj (w.heap.size + 1) (.loop { r with state := .exhausted }))) :
    (Code.rangeFunc g ps assign body).wpIn F n P Q a w := by
  refine wpIn_rangeFunc ?_
  intro fn hfn
  rw [hro]
  obtain ⟨r, hr⟩ : ∃ r : Loop, r = { state := .ready, pending := none, fn, tmps := a.tmps, params := ps, assign, body, defers := w.heap.size } := ⟨_, rfl⟩
  have hen := run_enterLoop_outer (P := P) (w := w) fn a.tmps ps assign body
  rw [← hr] at hen
  refine ⟨w.heap.size + 1, [{ target := .collected w.heap.size, args := #[] }], (w.alloc (.deferred (some []))).alloc (.loop r), { target := .fn (.func gf) lb, args := #[.func (.yield (w.heap.size + 1)) #[] #[]] }, (w.alloc (.deferred (some []))).alloc (.loop r), gf, #[.func (.yield (w.heap.size + 1)) #[] #[]] ++ lb, (w.alloc (.deferred (some []))).alloc (.loop r), hen, ?_, ?_, ?_, fun _ => h1, ?_⟩
  · simp only [resolve, hg]
    simp [go_sem]
  · intro f' hf'
    simp [Target.leads] at hf'
    subst hf'
    exact hFg
  · simp [invoke, go_sem, eg]
  · refine (h r (by rw [hr]; exact hfn) (by rw [hr]) (by rw [hr]) (by rw [hr]) (by rw [hr]) (by rw [hr]) (by rw [hr])).mono ?_
    rintro e W2 ⟨⟨v, rfl⟩, hl, hq⟩
    have hel := run_endLoop (P := P) hl (by rw [hr]; simp)
    have hpn : r.pending = none := by rw [hr]
    simp only [hpn] at hel hq
    exact ⟨none, _, hel, hq⟩
end Go.Proofs.YteabfjpajgakiagGreat

/- The iterator of fold.All. -/
set_option linter.unusedSimpArgs false
set_option linter.unusedVariables false
set_option maxRecDepth 10000
namespace Go.Proofs.YteabfjpajgakiagGreat
open Go.RowKit Go.Shelf
attribute [local go_sem] Oper.semAt_some

set_option maxHeartbeats 2000000 in
theorem steps_in (n l bL bS : Nat) (s : St) (L : List Ent) (la : Option Addr) (lc : Nat) (hs : stErr s = 0) (hL : ∀ e ∈ L, entErr e = 0) (hroom : s.at_ + L.length ≤ 50) (W0 : World) (hE : EntsAt W0 (.slice la L.length lc) L)
    (J : Nat → World → Prop) (hJ : ∀ i W W', J i W → But bS W W' → J i W')
    (hY : ∀ i v Wb W1 (hi : i < L.length), J i Wb → Keeps Wb W1 → OwnTab Wb.heap.size W1 v (runSt s (L.take (i + 1))).tab → bS < Wb.heap.size → Keeps W0 Wb → YieldAt Fence.wide (n - 1) Tryz.prog l #[stV (runSt s (L.take (i + 1))) v, .int .i64 (oneAns (runSt s (L.take i)) (L[i]))] W1 fun e W' => e = .returned (.bool true) ∧ J (i + 1) W' ∧ Spares (fun k => k < W0.heap.size ∨ k = bS ∨ Wb.heap.size ≤ k) W1 W')
    (W : World) (x : Value) (hk0 : Keeps W0 W) (hb0 : W0.heap.size ≤ bS) (hbL : W.cell? ⟨bL, 0, none⟩ = some (.slice la L.length lc)) (hB : StBox bS s x W) (hT : TabAt W x s.tab) (h0 : J 0 W) :
    CallsIn Fence.wide n Tryz.prog 87 #[.func (.yield l) #[] #[], .pointer (some ⟨bL, 0, none⟩), .pointer (some ⟨bS, 0, none⟩)] W fun e W' => (∃ v, e = .returned v) ∧ J L.length W' := by
  have hlen : L.length ≤ 50 := by have := (stErr_bounds hs).1.1; omega
  have HE : Hid (EntsAt W0 (.slice la L.length lc) L) := hE
  have HJ : Hid (∀ i W W', J i W → But bS W W' → J i W') := hJ
  have HY := (show Hid _ from hY)
  have HS : Hid (stErr s = 0) := hs
  have HLE : Hid (∀ e ∈ L, entErr e = 0) := hL
  have HB : Hid (StBox bS s x W) := hB
  have HT : Hid (TabAt W x s.tab) := hT
  have H0 : Hid (J 0 W) := h0
  have HK0 : Hid (Keeps W0 W) := hk0
  have hlL := World.block_lt_of_cell? _ _ hbL
  simp only [] at hlL
  clear hE hJ hY hs hL hB hT h0 hk0
  refine callsIn_of_wp Tryz.func87 rfl trivial ?_ rfl
  simp only [Tryz.ntmps87, List.size_toArray, List.length_cons, List.length_nil, Nat.reduceAdd, Nat.reduceSub, Array.replicate_succ, Array.replicate_zero, List.push_toArray, List.append_toArray, List.nil_append, List.cons_append]
  gi_wp2
  gi_loopw [12] (fun i wr => ∃ (j : Nat), j ≤ L.length ∧ i = .int .i64 j ∧ Hid (J j wr) ∧ Hid (∃ y, StBox bS (runSt s (L.take j)) y wr ∧ TabAt wr y (runSt s (L.take j)).tab) ∧ Hid (Keeps W0 wr)) (fun i _ => L.length - (intOf i).toNat)
  case atStart => exact ⟨0, Nat.zero_le _, rfl, H0, ⟨x, HB.out, HT.out⟩, HK0⟩
  case round =>
    obtain ⟨j, hj, rfl, HJj, HX, HKw⟩ := hrel
    by_cases hlt : j < L.length
    · obtain ⟨b, off, cap', hv, c0, c1, c2, c3, c4, c5, c6, c7, c8⟩ := (HE.out.keep HKw.out).at hlt
      injection hv with hv1 hv2 hv3
      subst hv1
      clear hv2 hv3
      obtain ⟨y, hBy, hTy⟩ := HX.out
      obtain ⟨ya, yc, rfl, _⟩ := hTy.len
      have hr0 : ∀ e ∈ L.take j, entErr e = 0 := fun e he => HLE.out e (List.mem_of_mem_take he)
      have hst := run_right HS.out hr0 (by simp; omega)
      have hent := HLE.out _ (List.getElem_mem hlt)
      have htl : ((L.take j).length : Int) = j := by simp; omega
      have hbe : bothErr (runSt s (L.take j)) (L[j]) = 0 := both_zero hst.1 hent (by rw [hst.2, htl]; omega)
      have HNX : Hid (runSt s (L.take (j + 1)) = oneSt (runSt s (L.take j)) (L[j])) := by show _ = _; rw [List.take_succ_eq_append_getElem hlt, runSt_snoc]
      have HYj := (show Hid _ from fun v Wb W1 => HY.out j v Wb W1 hlt)
      have HBy : Hid (StBox bS (runSt s (L.take j)) (.slice ya (runSt s (L.take j)).tab.length yc) wr) := hBy
      have HTy : Hid (TabAt wr (.slice ya (runSt s (L.take j)).tab.length yc) (runSt s (L.take j)).tab) := hTy
      have HBE : Hid (bothErr (runSt s (L.take j)) (L[j]) = 0) := hbe
      clear hBy hTy hr0 hst hent htl hbe HX HY HB HT H0 HK0 HS HLE
      obtain ⟨t', htt⟩ : ∃ t', runSt s (L.take (j + 1)) = t' := ⟨_, rfl⟩
      rw [htt] at HNX HYj
      have HTT : Hid (runSt s (L.take (j + 1)) = t') := htt
      clear htt
      generalize runSt s (L.take j) = t at *
      generalize L[j] = e at *
      have b0 := HBy.out.c0
      have b1 := HBy.out.c1
      have b2 := HBy.out.c2
      have b3 := HBy.out.c3
      have b4 := HBy.out.c4
      have b5 := HBy.out.c5
      have b6 := HBy.out.c6
      have bl := HBy.out.lt
      gi_wp2
      have kB : Keeps wr (wr.alloc (.cells #[.int .i64 e.kind, .int .i64 e.time, .int .i64 e.client, .int .i64 e.seq, .int .i64 e.ack, .int .i64 e.ok, .int .i64 e.okey, .int .i64 e.oto, .int .i64 e.on] 35)) := (Keeps.refl _).alloc _
      generalize (wr.alloc (.cells #[.int .i64 e.kind, .int .i64 e.time, .int .i64 e.client, .int .i64 e.seq, .int .i64 e.ack, .int .i64 e.ok, .int .i64 e.okey, .int .i64 e.oto, .int .i64 e.on] 35)) = wB at *
      refine ⟨trivial, (fun h => (by cases h)), CallsIn.mono (callsIn_wide.2 (one_c t e _ wB (HTy.out.keep kB))) ?_⟩
      rintro y w1 ⟨x', ho, rfl, hb⟩
      rw [← HNX.out] at ho
      rw [← HNX.out, HBE.out]
      obtain ⟨za, zc, rfl, _⟩ := ho.tab.len
      have HO : Hid (OwnTab wB.heap.size w1 (.slice za t'.tab.length zc) t'.tab) := ho
      have HBb : Hid (StBox bS t (.slice ya t.tab.length yc) w1) := (HBy.out.keep kB).keep hb
      have hbB := (HBy.out.keep kB).lt
      have HKB : Hid (Keeps W0 wB) := HKw.out.trans kB
      have HJB : Hid (J j wB) := HJ.out _ _ _ HJj.out (But.of kB)
      have HKb : Hid (Keeps wB w1) := hb
      have hzB := hb.size
      clear ho b0 b1 b2 b3 b4 b5 b6 bl c0 c1 c2 c3 c4 c5 c6 c7 c8 HBy HTy HNX HBE HKw HJj kB hb HE
      generalize oneAns t e = an at *
      generalize oneDone t e = dn at *
      obtain ⟨fn, tmps, assign, body, hy, hR⟩ := HYj.out (.slice za t'.tab.length zc) wB (w1.alloc (.cells #[.int .i64 t'.at_, .int .i64 t'.clock, .int .i64 t'.v0, .int .i64 t'.v1, .int .i64 t'.v2, .int .i64 t'.v3, .slice za t'.tab.length zc] 25)) HJB.out (HKb.out.alloc _) (HO.out.keep ((Keeps.refl _).alloc _)) hbB HKB.out
      gi_wp2
      refine ⟨(fun h => (by cases h)), hR.mono ?_⟩
      rintro e' W3 ⟨rfl, hJ3, hsp⟩
      have T3 : StBox w1.heap.size t' (.slice za t'.tab.length zc) W3 := (StBox.new w1 t' _ 25).spared hsp (.inr (.inr hzB))
      have B3 : StBox bS t (.slice ya t.tab.length yc) W3 := (HBb.out.keep ((Keeps.refl _).alloc _)).spared hsp (.inr (.inl rfl))
      have O3 : OwnTab wB.heap.size W3 (.slice za t'.tab.length zc) t'.tab := (HO.out.keep ((Keeps.refl _).alloc _)).spared hsp (fun k hk _ => .inr (.inr hk))
      have K3 : Keeps W0 W3 := hsp.keeps (HKB.out.trans (HKb.out.alloc _)) (fun k hk => .inl hk)
      have HJ3 : Hid (J (j + 1) W3) := hJ3
      have HB3 : Hid (StBox bS t (.slice ya t.tab.length yc) W3) := B3
      have HO3 : Hid (OwnTab wB.heap.size W3 (.slice za t'.tab.length zc) t'.tab) := O3
      have HK3 : Hid (Keeps W0 W3) := K3
      have t0 := T3.c0
      have t1 := T3.c1
      have t2 := T3.c2
      have t3 := T3.c3
      have t4 := T3.c4
      have t5 := T3.c5
      have t6 := T3.c6
      have tl := T3.lt
      have b0 := B3.c0
      have b1 := B3.c1
      have b2 := B3.c2
      have b3 := B3.c3
      have b4 := B3.c4
      have b5 := B3.c5
      have b6 := B3.c6
      have bz := B3.fz
      have bl := B3.lt
      have hne : (w1.heap.size = bS) = False := eq_false (by omega)
      have hne2 : (bS = w1.heap.size) = False := eq_false (by omega)
      clear hy hR hJ3 hsp T3 B3 O3 K3 HYj
      gi_wp2
      have BP := HB3.out.put t' (.slice za t'.tab.length zc)
      have BT := But.puts (b := bS) W3 t' (.slice za t'.tab.length zc)
      go_roundw
      case rel => exact ⟨j + 1, by omega, by go_num, HJ.out _ _ _ HJ3.out BT, (by show ∃ y, _; rw [HTT.out]; exact ⟨_, BP, (HO3.out.but hbB BT).tab⟩), But.to HK3.out hb0 BT⟩
      case measure => simp [intOf]; omega
    · gi_wp2
      go_end0
      have : j = L.length := by omega
      subst this
      exact ⟨⟨_, rfl⟩, HJj.out⟩
end Go.Proofs.YteabfjpajgakiagGreat

/- Rows of numbers; SameInts. -/
set_option linter.unusedSimpArgs false
set_option linter.unusedVariables false
set_option maxRecDepth 10000
namespace Go.Proofs.YteabfjpajgakiagGreat
open Go.RowKit

theorem infoInt : (Tryz.prog.info? 3).map (fun i => (i.zero, i.size, i.bytes)) = some (some (.int .i64 0), 1, 8) := by kernel_rfl
def intCells (l : List Int) : List Value := l.map (fun n => .int .i64 n)

def IntsAt (w : World) (v : Value) (l : List Int) : Prop := RowAt w 1 v l.length (intCells l)
theorem IntsAt.keep {w w' : World} {v : Value} {l : List Int} (h : IntsAt w v l) (hk : Keeps w w') : IntsAt w' v l := RowAt.keep h hk
theorem IntsAt.of {w : World} {base : Nat} {v : Value} {l : List Int} (h : w.ownsRow base 3 1 v l.length (intCells l)) : IntsAt w v l := RowAt.of_owns h
theorem IntsAt.at {w : World} {v : Value} {l : List Int} (h : IntsAt w v l) {k : Nat} (hk : k < l.length) : ∃ b off cap, v = .slice (some ⟨b, off, none⟩) l.length cap ∧ w.cell? ⟨b, off + k, none⟩ = some (.int .i64 (l[k])) := by
  obtain ⟨b, off, cap, rfl, h3⟩ := RowAt.plain h (by simp [intCells]; omega)
  exact ⟨b, off, cap, rfl, h3 k _ (by simp [intCells, List.getElem?_eq_getElem hk])⟩

end Go.Proofs.YteabfjpajgakiagGreat
