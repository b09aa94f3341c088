/- ApJ, FoA, OpenEnts, LoA, LoB, Swap, Pre, Grow, GrowI, Cel, SnA, SnC, SnD. -/
import Derived.Deep.AppendLies
import Derived.Laws.IdiomStrings
import Derived.Laws.BitsAllLaws
import Derived.StillTail
import Derived.Deep.RegionHeld3
import Derived.RangeFuncRecord
import Derived.Deep.MidRow
import Derived.Test.YteabfjpajgakiadJ00
import Derived.Test.YteabfjpajgakiadJ01
import Derived.Test.YteabfjpajgakiadJ02
import Derived.Test.YteabfjpajgakiadJ03
import Derived.Test.YteabfjpajgakiadJ11
/- Applying: the machine's take, and One. -/
set_option linter.unusedSimpArgs false
set_option linter.unusedVariables false
set_option maxRecDepth 10000
namespace Go.Proofs.Yteabfjpajgakiad
open Go.RowKit

def takenSt (s : St) (e : Ent) : St := if e.kind == 1 then openedSt s e.client else if e.kind == 3 then closedSt s e.client else callSt s e
def takenAns (s : St) (e : Ent) : Int := if e.kind == 1 then openedAns s e.client else if e.kind == 3 then closedAns s e.client else callAns s e
def takenDone (s : St) (e : Ent) : Bool := if e.kind == 1 then false else if e.kind == 3 then false else callDone s e

/-- A right entry. -/
theorem ent_right {e : Ent} (h : entErr e = 0) : (1 ≤ e.kind ∧ e.kind ≤ 3) ∧ (0 ≤ e.time ∧ e.time ≤ 999) ∧ (1 ≤ e.client ∧ e.client ≤ 5) ∧ (e.kind = 2 → (1 ≤ e.seq ∧ e.seq ≤ 60) ∧ (0 ≤ e.ack ∧ e.ack ≤ e.seq - 1) ∧ opErr e.ok e.okey e.oto e.on = 0) ∧ (e.kind ≠ 2 → e.seq = 0 ∧ e.ack = 0 ∧ e.ok = 0 ∧ e.okey = 0 ∧ e.oto = 0 ∧ e.on = 0) := by
  unfold entErr at h
  split at h
  · rename_i h1
    split at h
    · rename_i h2
      simp only [entIn, Bool.and_eq_true, Bool.or_eq_true] at h2
      refine ⟨inB_iff.1 h1, inB_iff.1 h2.1, inB_iff.1 h2.2.1, ?_, ?_⟩
      · intro hk
        rw [if_pos (by simpa using hk)] at h
        rcases h2.2.2 with h3 | h3
        · simp [hk] at h3
        · exact ⟨inB_iff.1 h3.1, inB_iff.1 h3.2, h⟩
      · intro hk
        rw [if_neg (by simpa using hk)] at h
        split at h
        · rename_i h3
          simp [opNone] at h3
          exact h3
        · cases h
    · cases h
  · cases h

set_option maxHeartbeats 4000000 in
theorem take_c (s : St) (e : Ent) (b base : Nat) (x : Value) (w : World) (hB : StBox b s x w) (hO : OwnTab base w x s.tab) (hbb : b < base) (hbw : base ≤ w.heap.size) (he : tabErr s.tab = 0) (hent : entErr e = 0) :
    Calls Try.prog 85 #[macV b, entV e] w fun y w' => y = .returned (.tuple #[.int .i64 (takenAns s e), .bool (takenDone s e)]) ∧ ∃ x', StBox b (takenSt s e) x' w' ∧ OwnTab base w' x' (takenSt s e).tab ∧ But b w w' := by
  have hbl := hB.lt
  have HB : Hid (StBox b s x w) := hB
  have HT : Hid (OwnTab base w x s.tab) := hO
  have HR := (show Hid _ from ent_right hent)
  have HA : Hid (takenAns s e = if e.kind == 1 then openedAns s e.client else if e.kind == 3 then closedAns s e.client else callAns s e) := rfl
  have HD : Hid (takenDone s e = if e.kind == 1 then false else if e.kind == 3 then false else callDone s e) := rfl
  have HS : Hid (takenSt s e = if e.kind == 1 then openedSt s e.client else if e.kind == 3 then closedSt s e.client else callSt s e) := rfl
  clear hB hO
  have k1 : Keeps w ((w.alloc (.cells #[.pointer (some ⟨b, 0, none⟩)] 121)).alloc (.cells #[.int .i64 e.kind, .int .i64 e.time, .int .i64 e.client, .int .i64 e.seq, .int .i64 e.ack, .int .i64 e.ok, .int .i64 e.okey, .int .i64 e.oto, .int .i64 e.on] 89)) := ((Keeps.refl _).alloc _).alloc _
  cases q1 : (e.kind == 1) with
  | true =>
    have H1 : Hid (takenAns s e = openedAns s e.client ∧ takenDone s e = false ∧ takenSt s e = openedSt s e.client) := ⟨by rw [HA.out, q1]; rfl, by rw [HD.out, q1]; rfl, by rw [HS.out, q1]; rfl⟩
    go_enter Try.func85, Try.ntmps85
    go_wp2_with fail
    refine (open_c s b base x e.client _ (HB.out.keep k1) (HT.out.keep k1) hbb (Nat.le_trans hbw k1.size) he).mono ?_
    rintro y w1 ⟨rfl, x', B1, T1, F1⟩
    have HB1 : Hid (StBox b (openedSt s e.client) x' w1) := B1
    have HT1 : Hid (OwnTab base w1 x' (openedSt s e.client).tab) := T1
    have HF1 : Hid (But b w w1) := (But.of k1).trans F1
    clear B1 T1 F1 k1
    go_wp2_with fail
    go_ret2
    refine ⟨by rw [H1.out.1, H1.out.2.1]; rfl, ?_⟩
    rw [H1.out.2.2]
    exact ⟨x', HB1.out, HT1.out, HF1.out⟩
  | false =>
    cases q2 : (e.kind == 3) with
    | true =>
      have H1 : Hid (takenAns s e = closedAns s e.client ∧ takenDone s e = false ∧ takenSt s e = closedSt s e.client) := ⟨by rw [HA.out, q1, q2]; rfl, by rw [HD.out, q1, q2]; rfl, by rw [HS.out, q1, q2]; rfl⟩
      go_enter Try.func85, Try.ntmps85
      go_wp2_with fail
      refine (close_c s b base x e.client _ (HB.out.keep k1) (HT.out.keep k1) hbb (Nat.le_trans hbw k1.size)).mono ?_
      rintro y w1 ⟨rfl, x', B1, T1, F1⟩
      have HB1 : Hid (StBox b (closedSt s e.client) x' w1) := B1
      have HT1 : Hid (OwnTab base w1 x' (closedSt s e.client).tab) := T1
      have HF1 : Hid (But b w w1) := (But.of k1).trans F1
      clear B1 T1 F1 k1
      go_wp2_with fail
      go_ret2
      refine ⟨by rw [H1.out.1, H1.out.2.1]; rfl, ?_⟩
      rw [H1.out.2.2]
      exact ⟨x', HB1.out, HT1.out, HF1.out⟩
    | false =>
      have H1 : Hid (takenAns s e = callAns s e ∧ takenDone s e = callDone s e ∧ takenSt s e = callSt s e) := ⟨by rw [HA.out, q1, q2]; rfl, by rw [HD.out, q1, q2]; rfl, by rw [HS.out, q1, q2]; rfl⟩
      have hk2 : e.kind = 2 := by
        have := HR.out.1
        simp at q1 q2
        omega
      have hc := HR.out.2.2.2.1 hk2
      have C : Hid (Calls Try.prog 99 #[macV b, entV e] ((w.alloc (.cells #[.pointer (some ⟨b, 0, none⟩)] 121)).alloc (.cells #[.int .i64 e.kind, .int .i64 e.time, .int .i64 e.client, .int .i64 e.seq, .int .i64 e.ack, .int .i64 e.ok, .int .i64 e.okey, .int .i64 e.oto, .int .i64 e.on] 89)) fun y w' => y = .returned (.tuple #[.int .i64 (callAns s e), .bool (callDone s e)]) ∧ ∃ x', StBox b (callSt s e) x' w' ∧ OwnTab base w' x' (callSt s e).tab ∧ But b ((w.alloc (.cells #[.pointer (some ⟨b, 0, none⟩)] 121)).alloc (.cells #[.int .i64 e.kind, .int .i64 e.time, .int .i64 e.client, .int .i64 e.seq, .int .i64 e.ack, .int .i64 e.ok, .int .i64 e.okey, .int .i64 e.oto, .int .i64 e.on] 89)) w') := call_c s e b base x _ (HB.out.keep k1) (HT.out.keep k1) hbb (Nat.le_trans hbw k1.size) he hc.1.1 hc.1.2 hc.2.1.1 (by omega)
      clear hk2 hc
      go_enter Try.func85, Try.ntmps85
      go_wp2_with fail
      refine C.out.mono ?_
      rintro y w1 ⟨rfl, x', B1, T1, F1⟩
      have HB1 : Hid (StBox b (callSt s e) x' w1) := B1
      have HT1 : Hid (OwnTab base w1 x' (callSt s e).tab) := T1
      have HF1 : Hid (But b w w1) := (But.of k1).trans F1
      clear B1 T1 F1 k1 C
      go_wp2_with fail
      go_ret2
      refine ⟨by rw [H1.out.1, H1.out.2.1]; rfl, ?_⟩
      rw [H1.out.2.2]
      exact ⟨x', HB1.out, HT1.out, HF1.out⟩

def zeroSt : St := ⟨0, 0, 0, 0, 0, 0, []⟩
/-- One's answers. -/
def oneSt (s : St) (e : Ent) : St := if bothErr s e == 0 then takenSt (ticked s e.time) e else zeroSt
def oneAns (s : St) (e : Ent) : Int := if bothErr s e == 0 then takenAns (ticked s e.time) e else 0
def oneDone (s : St) (e : Ent) : Bool := if bothErr s e == 0 then takenDone (ticked s e.time) e else false

theorem both_right {s : St} {e : Ent} (h : bothErr s e = 0) : stErr s = 0 ∧ entErr e = 0 ∧ s.at_ ≠ 50 := by
  unfold bothErr at h
  split at h
  · rename_i h1
    split at h
    · rename_i h2
      split at h
      · cases h
      · rename_i h3
        exact ⟨by simpa using h1, by simpa using h2, by simpa using h3⟩
    · rename_i h2
      simp [h] at h2
  · rename_i h1
    simp [h] at h1

/-- The box of a state that has just been laid. -/
theorem StBox.new (w : World) (s : St) (x : Value) (t : TypeId) : StBox w.heap.size s x (w.alloc (.cells #[.int .i64 s.at_, .int .i64 s.clock, .int .i64 s.v0, .int .i64 s.v1, .int .i64 s.v2, .int .i64 s.v3, x] t)) :=
  ⟨by simp [go_sem], by simp [go_sem], by simp [go_sem], by simp [go_sem], by simp [go_sem], by simp [go_sem], by simp [go_sem], fun i => by simp [go_sem]⟩

set_option maxHeartbeats 4000000 in
theorem one_c (s : St) (e : Ent) (x : Value) (w : World) (hT : TabAt w x s.tab) :
    Calls Try.prog 69 #[stV s x, entV e] w fun y w' => ∃ x', OwnTab w.heap.size w' x' (oneSt s e).tab ∧ y = .returned (.tuple #[stV (oneSt s e) x', .int .i64 (oneAns s e), .bool (oneDone s e), .int .i64 (bothErr s e)]) ∧ Keeps w w' := by
  obtain ⟨xa, xc, rfl, _⟩ := hT.len
  have HT : Hid (TabAt w (.slice xa s.tab.length xc) s.tab) := hT
  clear hT
  have HS : Hid (oneSt s e = if bothErr s e == 0 then takenSt (ticked s e.time) e else zeroSt) := rfl
  have HA : Hid (oneAns s e = if bothErr s e == 0 then takenAns (ticked s e.time) e else 0) := rfl
  have HD : Hid (oneDone s e = if bothErr s e == 0 then takenDone (ticked s e.time) e else false) := rfl
  have HBR : Hid (bothErr s e = 0 → stErr s = 0 ∧ entErr e = 0 ∧ s.at_ ≠ 50) := both_right
  have HZT : Hid (zeroSt.tab = []) := rfl
  go_enter Try.func69, Try.ntmps69
  go_wp2_with fail
  obtain ⟨W1, hW1⟩ : ∃ W1, W1 = ((w.alloc (.cells #[.int .i64 s.at_, .int .i64 s.clock, .int .i64 s.v0, .int .i64 s.v1, .int .i64 s.v2, .int .i64 s.v3, .slice xa s.tab.length xc] 25)).alloc (.cells #[.int .i64 e.kind, .int .i64 e.time, .int .i64 e.client, .int .i64 e.seq, .int .i64 e.ack, .int .i64 e.ok, .int .i64 e.okey, .int .i64 e.oto, .int .i64 e.on] 89)).alloc (.cells #[.int .i64 0, .int .i64 0, .int .i64 0, .int .i64 0, .int .i64 0, .int .i64 0, .slice none 0 0] 25) := ⟨_, rfl⟩
  have k1 : Keeps w W1 := by rw [hW1]; exact (((Keeps.refl _).alloc _).alloc _).alloc _
  have B1 : StBox w.heap.size s (.slice xa s.tab.length xc) W1 := by rw [hW1]; exact (StBox.new w s _ 25).keep (((Keeps.refl _).alloc _).alloc _)
  have E1 : EntBox (w.heap.size + 1) e W1 := by
    rw [hW1]
    have := (EntBox.new (w.alloc (.cells #[.int .i64 s.at_, .int .i64 s.clock, .int .i64 s.v0, .int .i64 s.v1, .int .i64 s.v2, .int .i64 s.v3, .slice xa s.tab.length xc] 25)) e 89).keep ((Keeps.refl _).alloc (.cells #[.int .i64 0, .int .i64 0, .int .i64 0, .int .i64 0, .int .i64 0, .int .i64 0, .slice none 0 0] 25))
    simpa using this
  have Z1 : StBox (w.heap.size + 1 + 1) zeroSt (.slice none 0 0) W1 := by
    rw [hW1]
    have := StBox.new ((w.alloc (.cells #[.int .i64 s.at_, .int .i64 s.clock, .int .i64 s.v0, .int .i64 s.v1, .int .i64 s.v2, .int .i64 s.v3, .slice xa s.tab.length xc] 25)).alloc (.cells #[.int .i64 e.kind, .int .i64 e.time, .int .i64 e.client, .int .i64 e.seq, .int .i64 e.ack, .int .i64 e.ok, .int .i64 e.okey, .int .i64 e.oto, .int .i64 e.on] 89)) zeroSt (.slice none 0 0) 25
    simp only [World.size_alloc] at this
    exact this
  rw [← hW1]
  clear hW1
  refine (check_both s e _ W1 (HT.out.keep k1)).mono ?_
  rintro y w1 ⟨rfl, hb⟩
  have HK1 : Hid (Keeps w w1) := k1.trans hb
  have HB1 : Hid (StBox w.heap.size s (.slice xa s.tab.length xc) w1) := B1.keep hb
  have HE1 : Hid (EntBox (w.heap.size + 1) e w1) := E1.keep hb
  have HZ1 : Hid (StBox (w.heap.size + 1 + 1) zeroSt (.slice none 0 0) w1) := Z1.keep hb
  clear k1 B1 E1 Z1 hb
  clear W1
  cases q : (bothErr s e == 0) with
  | false =>
    have q' : (bothErr s e != 0) = true := by simp [bne, q]
    have H1 : Hid (oneSt s e = zeroSt ∧ oneAns s e = 0 ∧ oneDone s e = false) := ⟨by rw [HS.out, q]; rfl, by rw [HA.out, q]; rfl, by rw [HD.out, q]; rfl⟩
    have z0 := HZ1.out.c0
    have z1 := HZ1.out.c1
    have z2 := HZ1.out.c2
    have z3 := HZ1.out.c3
    have z4 := HZ1.out.c4
    have z5 := HZ1.out.c5
    have z6 := HZ1.out.c6
    have zf := HZ1.out.fz
    have zl := HZ1.out.lt
    have hk1 := HK1.out
    go_wp2_with fail
    refine bodyPost_ret (v := .tuple #[stV zeroSt (.slice none 0 0), .int .i64 0, .bool false, .int .i64 (bothErr s e)]) ?_ rfl ?_
    · simp [results, Try.results69, go_sem, zeroSt, z0, z1, z2, z3, z4, z5, z6]
    · rw [H1.out.1, H1.out.2.1, H1.out.2.2]
      refine ⟨.slice none 0 0, ?_, rfl, ?_⟩
      · rw [HZT.out]
        exact OwnTab.nil _ _
      · repeat refine Keeps.set ?_ (by simp <;> omega) _
        exact hk1
  | true =>
    have q' : (bothErr s e != 0) = false := by simp [bne, q]
    have H1 : Hid (oneSt s e = takenSt (ticked s e.time) e ∧ oneAns s e = takenAns (ticked s e.time) e ∧ oneDone s e = takenDone (ticked s e.time) e ∧ bothErr s e = 0) := ⟨by rw [HS.out, q]; rfl, by rw [HA.out, q]; rfl, by rw [HD.out, q]; rfl, by simpa using q⟩
    have hright := HBR.out (by simpa using q)
    have HST : Hid (stErr s = 0) := hright.1
    have HET : Hid (entErr e = 0) := hright.2.1
    have et := (ent_right hright.2.1).2.1
    obtain ⟨et0, et1⟩ := et
    have HTE : Hid (tabErr (ticked s e.time).tab = 0) := fresh_right (stErr_in hright.1).2.1
    have e1 := HE1.out.c1
    have hEl := HE1.out.lt
    have hBl := HB1.out.lt
    have hZl := HZ1.out.lt
    clear hright
    go_wp2_with fail
    have k12 : Keeps w1 (w1.alloc (.cells #[.pointer (some ⟨w.heap.size, 0, none⟩)] 121)) := (Keeps.refl _).alloc _
    have m2 : (w1.alloc (.cells #[.pointer (some ⟨w.heap.size, 0, none⟩)] 121)).cell? ⟨w1.heap.size, 0, none⟩ = some (.pointer (some ⟨w.heap.size, 0, none⟩)) := by simp [go_sem]
    generalize hMB : w1.heap.size = MB at *
    generalize (w1.alloc (.cells #[.pointer (some ⟨w.heap.size, 0, none⟩)] 121)) = w2 at *
    have hz12 := k12.size
    rw [hMB] at hz12
    refine (tick_c s w.heap.size _ e.time w2 (HB1.out.keep k12) (HT.out.far (HK1.out.trans k12) (Nat.le_refl _)) HST.out et0 et1).mono ?_
    rintro y w3 ⟨rfl, x3, B3, O3, F3⟩
    obtain ⟨ya, yc, rfl, _⟩ := O3.tab.len
    have E3 := (HE1.out.keep k12).but F3 (by omega)
    have Z3 := (HZ1.out.keep k12).other F3 (by omega)
    have m3 : w3.cell? ⟨MB, 0, none⟩ = some (.pointer (some ⟨w.heap.size, 0, none⟩)) := F3.at m2 (by simp; omega)
    have K3 : Keeps w w3 := But.to (HK1.out.trans k12) (Nat.le_refl _) F3
    have hz23 := F3.size
    have HB3 : Hid (StBox w.heap.size (ticked s e.time) (.slice ya (ticked s e.time).tab.length yc) w3) := B3
    have HO3 : Hid (OwnTab w2.heap.size w3 (.slice ya (ticked s e.time).tab.length yc) (ticked s e.time).tab) := O3
    have HE3 : Hid (EntBox (w.heap.size + 1) e w3) := E3
    have HZ3 : Hid (StBox (w.heap.size + 1 + 1) zeroSt (.slice none 0 0) w3) := Z3
    have HK3 : Hid (Keeps w w3) := K3
    have x0 := E3.c0
    have x1 := E3.c1
    have x2 := E3.c2
    have x3 := E3.c3
    have x4 := E3.c4
    have x5 := E3.c5
    have x6 := E3.c6
    have x7 := E3.c7
    have x8 := E3.c8
    have hEl := E3.lt
    have hMl := World.block_lt_of_cell? _ _ m3
    simp only [] at hMl
    clear B3 O3 E3 Z3 F3 K3 k12 m2 HB1 HE1 HZ1 HK1 e1
    generalize ticked s e.time = ts at *
    go_wp2_with fail
    refine (take_c ts e w.heap.size w2.heap.size _ w3 HB3.out HO3.out (by omega) (by omega) HTE.out HET.out).mono ?_
    rintro y w4 ⟨rfl, x4, B4, O4, F4⟩
    obtain ⟨za, zc, rfl, _⟩ := O4.tab.len
    have Z4 := HZ3.out.other F4 (by omega)
    have K4 : Keeps w w4 := But.to HK3.out (Nat.le_refl _) F4
    have HO4 : Hid (OwnTab w2.heap.size w4 (.slice za (takenSt ts e).tab.length zc) (takenSt ts e).tab) := O4
    have c0 := B4.c0
    have c1 := B4.c1
    have c2 := B4.c2
    have c3 := B4.c3
    have c4 := B4.c4
    have c5 := B4.c5
    have c6 := B4.c6
    have cl := B4.lt
    have z0 := Z4.c0
    have z1 := Z4.c1
    have z2 := Z4.c2
    have z3 := Z4.c3
    have z4 := Z4.c4
    have z5 := Z4.c5
    have z6 := Z4.c6
    have zf := Z4.fz
    have zl := Z4.lt
    have HK4 : Hid (Keeps w w4) := K4
    clear B4 O4 F4 Z4 K4 HB3 HO3 HE3 HZ3 HK3 x0 x1 x2 x3 x4 x5 x6 x7 x8 m3 hEl hMl
    generalize takenSt ts e = us at *
    generalize takenAns ts e = ua at *
    generalize takenDone ts e = ud at *
    generalize hul : us.tab.length = ul at *
    go_wp2_with fail
    refine bodyPost_ret (v := .tuple #[stV us (.slice za ul zc), .int .i64 ua, .bool ud, .int .i64 0]) ?_ rfl ?_
    · simp [results, Try.results69, go_sem, z0, z1, z2, z3, z4, z5, z6]
    · rw [H1.out.1, H1.out.2.1, H1.out.2.2.1, H1.out.2.2.2]
      refine ⟨.slice za ul zc, ?_, rfl, ?_⟩
      · exact (HO4.out.but (b := w.heap.size + 1 + 1) (by omega) ((((((((But.refl _ _).set 0 _).set 1 _).set 2 _).set 3 _).set 4 _).set 5 _).set 6 _)).base (by omega)
      · repeat refine Keeps.set ?_ (by simp <;> omega) _
        exact HK4.out
end Go.Proofs.Yteabfjpajgakiad

/- Entries in memory; fold.Check, fold.checkBoth. -/
set_option linter.unusedSimpArgs false
set_option linter.unusedVariables false
set_option maxRecDepth 10000
namespace Go.Proofs.Yteabfjpajgakiad
open Go.RowKit

/-- The cells of entries. -/
def entCells : List Ent → List Value
  | [] => []
  | e :: r => .int .i64 e.kind :: .int .i64 e.time :: .int .i64 e.client :: .int .i64 e.seq :: .int .i64 e.ack :: .int .i64 e.ok :: .int .i64 e.okey :: .int .i64 e.oto :: .int .i64 e.on :: entCells r

def EntsAt (w : World) (v : Value) (L : List Ent) : Prop := RowAt w 9 v L.length (entCells L)

theorem EntsAt.keep {w w' : World} {v : Value} {L : List Ent} (h : EntsAt w v L) (hk : Keeps w w') : EntsAt w' v L := RowAt.keep h hk
theorem EntsAt.len {w : World} {v : Value} {L : List Ent} (h : EntsAt w v L) : ∃ a cap, v = .slice a L.length cap ∧ L.length ≤ maxLen := RowAt.len h

theorem entCells_len : ∀ l : List Ent, (entCells l).length = l.length * 9
  | [] => rfl
  | _ :: r => by simp only [entCells, List.length_cons, entCells_len r]; omega

theorem entCells_drop : ∀ (l : List Ent) (k : Nat), (entCells l).drop (k * 9) = entCells (l.drop k)
  | l, 0 => by simp
  | [], k + 1 => by simp [entCells]
  | e :: r, k + 1 => by
    rw [show (k + 1) * 9 = k * 9 + 1 + 1 + 1 + 1 + 1 + 1 + 1 + 1 + 1 from by omega]
    simp only [entCells, List.drop_succ_cons]
    exact entCells_drop r k
theorem entCells_take : ∀ (l : List Ent) (k : Nat), (entCells l).take (k * 9) = entCells (l.take k)
  | l, 0 => by simp [entCells]
  | [], k + 1 => by simp [entCells]
  | e :: r, k + 1 => by
    rw [show (k + 1) * 9 = k * 9 + 1 + 1 + 1 + 1 + 1 + 1 + 1 + 1 + 1 from by omega]
    simp only [entCells, List.take_succ_cons, entCells_take r k]
/-- Entry number k, in memory. -/
theorem EntsAt.at {w : World} {v : Value} {L : List Ent} (h : EntsAt w v L) {k : Nat} (hk : k < L.length) :
    ∃ b off cap, v = .slice (some ⟨b, off, none⟩) L.length cap ∧
      w.cell? ⟨b, off + k * 9, none⟩ = some (.int .i64 (L[k]).kind) ∧ w.cell? ⟨b, off + k * 9 + 1, none⟩ = some (.int .i64 (L[k]).time) ∧ w.cell? ⟨b, off + k * 9 + 2, none⟩ = some (.int .i64 (L[k]).client) ∧
      w.cell? ⟨b, off + k * 9 + 3, none⟩ = some (.int .i64 (L[k]).seq) ∧ w.cell? ⟨b, off + k * 9 + 4, none⟩ = some (.int .i64 (L[k]).ack) ∧ w.cell? ⟨b, off + k * 9 + 5, none⟩ = some (.int .i64 (L[k]).ok) ∧
      w.cell? ⟨b, off + k * 9 + 6, none⟩ = some (.int .i64 (L[k]).okey) ∧ w.cell? ⟨b, off + k * 9 + 7, none⟩ = some (.int .i64 (L[k]).oto) ∧ w.cell? ⟨b, off + k * 9 + 8, none⟩ = some (.int .i64 (L[k]).on) := by
  obtain ⟨b, off, cap, rfl, h3⟩ := RowAt.plain h (by rw [entCells_len]; omega)
  refine ⟨b, off, cap, rfl, ?_⟩
  have hd : (entCells L).drop (k * 9) = entCells (L[k] :: L.drop (k + 1)) := by rw [entCells_drop, List.drop_eq_getElem_cons hk]
  have go : ∀ i u, (entCells (L[k] :: L.drop (k + 1)))[i]? = some u → w.cell? ⟨b, off + k * 9 + i, none⟩ = some u := by
    intro i u hu
    rw [← hd, List.getElem?_drop] at hu
    rw [Nat.add_assoc]
    exact h3 _ _ hu
  exact ⟨go 0 _ rfl, go 1 _ rfl, go 2 _ rfl, go 3 _ rfl, go 4 _ rfl, go 5 _ rfl, go 6 _ rfl, go 7 _ rfl, go 8 _ rfl⟩

def fentErr : List Ent → Int
  | [] => 0
  | e :: r => if entErr e == 0 then fentErr r else entErr e
def listErr (L : List Ent) : Int := if 50 < L.length then 2 else fentErr L

theorem fentErr_at {L : List Ent} {k : Nat} (hk : k < L.length) : fentErr (L.drop k) = if entErr (L[k]) == 0 then fentErr (L.drop (k + 1)) else entErr (L[k]) := by
  rw [List.drop_eq_getElem_cons hk]
  rfl

theorem fent_zero {L : List Ent} : fentErr L = 0 ↔ ∀ e ∈ L, entErr e = 0 := by
  induction L with
  | nil => simp [fentErr]
  | cons a t ih =>
    simp only [fentErr, List.mem_cons, forall_eq_or_imp]
    by_cases h : entErr a = 0
    · simp [h, ih]
    · simp [h]

set_option maxHeartbeats 2000000 in
theorem fold_check (L : List Ent) (v : Value) (w : World) (hL : EntsAt w v L) : Calls Try.prog 53 #[v] w fun y w' => y = .returned (.int .i64 (listErr L)) ∧ Keeps w w' := by
  obtain ⟨a, cap, rfl, hlen⟩ := hL.len
  unfold maxLen at hlen
  have HL : Hid (EntsAt w (.slice a L.length cap) L) := hL
  clear hL
  by_cases h50 : 50 < L.length
  · have HE : Hid (listErr L = 2) := by show _ = _; simp [listErr, h50]
    go_enter Try.func53, Try.ntmps53
    go_wp2_with fail
    go_ret
    exact ⟨ret_int HE.out.symm, Keeps.refl _⟩
  · have HE : Hid (listErr L = fentErr L) := by show _ = _; simp [listErr, h50]
    go_enter Try.func53, Try.ntmps53
    go_wp2_with fail
    go_loopw [11] (fun i wr => ∃ (k : Nat), k ≤ L.length ∧ i = .int .i64 k ∧ Hid (Keeps w wr) ∧ Hid (fentErr L = fentErr (L.drop k))) (fun i _ => L.length - (intOf i).toNat)
    case atStart => exact ⟨0, Nat.zero_le _, rfl, Keeps.refl _, rfl⟩
    case round =>
      obtain ⟨k, hk, rfl, HK, HQ⟩ := hrel
      by_cases hlt : k < L.length
      · obtain ⟨b, off, cap', hv, c0, c1, c2, c3, c4, c5, c6, c7, c8⟩ := (HL.out.keep HK.out).at hlt
        injection hv with hv1 hv2 hv3
        subst hv1
        clear hv2 hv3
        have HR : Hid (fentErr L = if entErr (L[k]) == 0 then fentErr (L.drop (k + 1)) else entErr (L[k])) := HQ.out.trans (fentErr_at hlt)
        clear HQ
        generalize L[k] = e at *
        go_wp2_with fail
        refine (ent_check e _).mono ?_
        rintro y w2 ⟨rfl, hb⟩
        have HK2 : Hid (Keeps w w2) := (HK.out.alloc _).trans hb
        clear hb c0 c1 c2 c3 c4 c5 c6 c7 c8
        cases hq : (entErr e == 0) with
        | true =>
          have hq' : (entErr e != 0) = false := by simp [bne, hq]
          have HN : Hid (fentErr L = fentErr (L.drop (k + 1))) := by show _ = _; rw [HR.out, hq]; rfl
          generalize entErr e = er at *
          go_wp2_with fail
          go_roundw
          case rel => exact ⟨k + 1, by omega, by go_num, HK2, HN⟩
          case measure => simp [intOf]; omega
        | false =>
          have hq' : (entErr e != 0) = true := by simp [bne, hq]
          have HN : Hid (listErr L = entErr e) := by show _ = _; rw [HE.out, HR.out, hq]; rfl
          generalize entErr e = er at *
          go_wp2_with fail
          go_ret
          exact ⟨ret_int HN.out.symm, HK2.out⟩
      · have HN : Hid (listErr L = 0) := by show _ = _; rw [HE.out, HQ.out, List.drop_of_length_le (by omega)]; rfl
        go_wp2_with fail
        go_ret
        exact ⟨ret_int HN.out.symm, HK.out⟩

def foldErr (s : St) (L : List Ent) : Int := if stErr s == 0 then (if listErr L == 0 then (if 50 < s.at_ + L.length then 2 else 0) else listErr L) else stErr s

set_option maxHeartbeats 2000000 in
theorem fold_both (s : St) (L : List Ent) (x v : Value) (w : World) (hT : TabAt w x s.tab) (hL : EntsAt w v L) : Calls Try.prog 44 #[stV s x, v] w fun y w' => y = .returned (.int .i64 (foldErr s L)) ∧ Keeps w w' := by
  obtain ⟨xa, xc, rfl, _⟩ := hT.len
  obtain ⟨a, cap, rfl, hlen⟩ := hL.len
  unfold maxLen at hlen
  have HE : Hid (foldErr s L = if stErr s == 0 then (if listErr L == 0 then (if 50 < s.at_ + L.length then 2 else 0) else listErr L) else stErr s) := rfl
  have HT : Hid (TabAt w (.slice xa s.tab.length xc) s.tab) := hT
  have HL : Hid (EntsAt w (.slice a L.length cap) L) := hL
  have HB : Hid (stErr s = 0 → (0 ≤ s.at_ ∧ s.at_ ≤ 50) ∧ (0 ≤ s.clock ∧ s.clock ≤ 999)) := stErr_bounds
  have HC : Hid (listErr L = 0 → L.length ≤ 50) := by
    intro h
    unfold listErr at h
    split at h
    · cases h
    · omega
  clear hT hL
  go_enter Try.func44, Try.ntmps44
  go_wp2_with fail
  have k1 : Keeps w (w.alloc (.cells #[.int .i64 s.at_, .int .i64 s.clock, .int .i64 s.v0, .int .i64 s.v1, .int .i64 s.v2, .int .i64 s.v3, .slice xa s.tab.length xc] 25)) := (Keeps.refl _).alloc _
  have z0 : (w.alloc (.cells #[.int .i64 s.at_, .int .i64 s.clock, .int .i64 s.v0, .int .i64 s.v1, .int .i64 s.v2, .int .i64 s.v3, .slice xa s.tab.length xc] 25)).cell? ⟨w.heap.size, 0, none⟩ = some (.int .i64 s.at_) := by simp [go_sem]
  generalize (w.alloc (.cells #[.int .i64 s.at_, .int .i64 s.clock, .int .i64 s.v0, .int .i64 s.v1, .int .i64 s.v2, .int .i64 s.v3, .slice xa s.tab.length xc] 25)) = W1 at *
  refine (state_check s _ W1 (HT.out.keep k1)).mono ?_
  rintro y w1 ⟨rfl, hb⟩
  have HK1 : Hid (Keeps w w1) := k1.trans hb
  have z0 := cell_kept z0 hb
  clear hb k1
  cases q1 : (stErr s == 0) with
  | false =>
    have q1' : (stErr s != 0) = true := by simp [bne, q1]
    have HE2 : Hid (foldErr s L = stErr s) := by show _ = _; rw [HE.out, q1]; rfl
    generalize stErr s = er at *
    go_wp2_with fail
    go_ret
    exact ⟨ret_int HE2.out.symm, HK1.out⟩
  | true =>
    have q1' : (stErr s != 0) = false := by simp [bne, q1]
    have hbd := HB.out (by simpa using q1)
    obtain ⟨⟨ba0, ba1⟩, _, _⟩ := hbd
    generalize stErr s = er at *
    go_wp2_with fail
    refine (fold_check L _ w1 (HL.out.keep HK1.out)).mono ?_
    rintro y w2 ⟨rfl, hb⟩
    have HK2 : Hid (Keeps w w2) := HK1.out.trans hb
    have z0 := cell_kept z0 hb
    clear hb
    cases q2 : (listErr L == 0) with
    | false =>
      have q2' : (listErr L != 0) = true := by simp [bne, q2]
      have HE2 : Hid (foldErr s L = listErr L) := by show _ = _; rw [HE.out, q1, q2]; rfl
      generalize listErr L = le at *
      go_wp2_with fail
      go_ret
      exact ⟨ret_int HE2.out.symm, HK2.out⟩
    | true =>
      have q2' : (listErr L != 0) = false := by simp [bne, q2]
      have hl50 := HC.out (by simpa using q2)
      have hlt := World.block_lt_of_cell? _ _ z0
      simp only [] at hlt
      by_cases h : 50 < s.at_ + L.length
      · have HE2 : Hid (foldErr s L = 2) := by show _ = _; rw [HE.out, q1, q2]; simp [h]
        go_wp2_with fail
        go_ret
        exact ⟨ret_int HE2.out.symm, HK2.out⟩
      · have HE2 : Hid (foldErr s L = 0) := by show _ = _; rw [HE.out, q1, q2]; simp [h]
        go_wp2_with fail
        go_ret
        exact ⟨ret_int HE2.out.symm, HK2.out⟩
end Go.Proofs.Yteabfjpajgakiad

/- The arguments of a law: a list of entries. -/
set_option linter.unusedSimpArgs false
set_option linter.unusedVariables false
set_option maxRecDepth 100000
namespace Go.Proofs.Yteabfjpajgakiad
open Go.ChangeShapes Go.WideShapes Go.ChangeAt Go.RowKit Go.Joins Go.Deep

section
variable {H : Type} {enc : TypeId × Value → H} {w : World} {base : Nat} {spare : Nat → Bool} {held : Bool}

instance : Inhabited Ent := ⟨⟨0, 0, 0, 0, 0, 0, 0, 0, 0⟩⟩

theorem entCells_nine {L : List Ent} {i c : Nat} (hi : i < L.length) (hc : c < 9) : (entCells L)[i * 9 + c]? = [Value.int .i64 (L[i]).kind, .int .i64 (L[i]).time, .int .i64 (L[i]).client, .int .i64 (L[i]).seq, .int .i64 (L[i]).ack, .int .i64 (L[i]).ok, .int .i64 (L[i]).okey, .int .i64 (L[i]).oto, .int .i64 (L[i]).on][c]? := by
  have h : (entCells L).drop (i * 9) = entCells (L[i] :: L.drop (i + 1)) := by rw [entCells_drop, List.drop_eq_getElem_cons hi]
  have : (entCells L)[i * 9 + c]? = ((entCells L).drop (i * 9))[c]? := by rw [List.getElem?_drop]
  rw [this, h]
  match c, hc with
  | 0, _ | 1, _ | 2, _ | 3, _ | 4, _ | 5, _ | 6, _ | 7, _ | 8, _ => rfl

/-- A list of entries. -/
theorem open_ents {r : Reach} {b0 : Nat} {v : Value} {d : DataW H} {p : List MemPlace} (hv : Value.okWide Try.prog w r b0 38 v) (h : DataW.Trod enc Try.prog w base spare held 38 v d p) :
    ∃ L a c, v = .slice a L.length c ∧ EntsAt w v L ∧ L.length ≤ c := by
  obtain ⟨va, vl, vc, rfl⟩ := okWide_slice Try.underlying38 hv
  obtain ⟨n, hn⟩ := field_of_Trod h (by simp [Value.cells])
  rcases open_slice Try.underlying38 hn with ⟨h0, _⟩ | ⟨a, len, cap, m, k, D, Pl, hv', hcp, hl, hm, hmm, _, hx⟩
  · obtain ⟨rfl, rfl, rfl⟩ : va = none ∧ vl = 0 ∧ vc = 0 := by simpa using h0
    exact ⟨[], none, 0, rfl, ⟨rfl, by unfold maxLen; simp, .inl ⟨rfl, rfl⟩⟩, Nat.le_refl _⟩
  · obtain ⟨rfl, rfl, rfl⟩ : va = some a ∧ vl = len ∧ vc = cap := by simpa using hv'
    have hlm : vl ≤ m := by rw [hmm]; split <;> omega
    have each : ∀ i, i < vl → ∃ e : Ent, ∀ c, c < 9 → w.cell? (a.add (i * 9 + c)) = [Value.int .i64 e.kind, .int .i64 e.time, .int .i64 e.client, .int .i64 e.seq, .int .i64 e.ack, .int .i64 e.ok, .int .i64 e.okey, .int .i64 e.oto, .int .i64 e.on][c]? := by
      intro i hi
      obtain ⟨cs', h1, h2⟩ := hx i (by omega)
      rw [cellsEnt] at h1
      obtain ⟨_, hlen, hcell⟩ := World.cells?_some h1
      match cs', hlen with
      | [v0, v1, v2, v3, v4, v5, v6, v7, v8], _ =>
        obtain ⟨e, rfl, rfl, rfl, rfl, rfl, rfl, rfl, rfl, rfl⟩ := ent_cells h2
        refine ⟨e, fun c hc => ?_⟩
        have := hcell c (by omega)
        rw [add_add] at this
        simpa using this
    obtain ⟨q, hq⟩ := choose_lt each
    refine ⟨(List.range vl).map q, some a, vc, by simp, ⟨entCells_len _, by simp; omega, .inr ⟨a, vc, by simp, fun j u hu => ?_⟩⟩, by simp; omega⟩
    have hj : j < vl * 9 := by
      have := (List.getElem?_eq_some_iff.1 hu).1
      rw [entCells_len] at this
      simpa using this
    have hi : j / 9 < vl := by omega
    have e9 := entCells_nine (L := (List.range vl).map q) (i := j / 9) (c := j % 9) (by simpa using hi) (by omega)
    rw [show j / 9 * 9 + j % 9 = j by omega, hu] at e9
    have c9 := hq (j / 9) hi (j % 9) (by omega)
    rw [show j / 9 * 9 + j % 9 = j by omega] at c9
    rw [c9]
    simpa using e9.symm
end
end Go.Proofs.Yteabfjpajgakiad

/- Entries as bytes (plain). -/
set_option linter.unusedSimpArgs false
set_option linter.unusedVariables false
set_option maxRecDepth 10000
namespace Go.Proofs.Yteabfjpajgakiad
open Go.RowKit

/-- A number as a byte. -/
def b8 (n : Int) : UInt8 := UInt8.ofNat (n % 256).toNat
def i8 (b : UInt8) : Int := (b.toNat : Int)
theorem i8_lo (b : UInt8) : 0 ≤ i8 b := Int.natCast_nonneg _
theorem i8_hi (b : UInt8) : i8 b < 256 := by
  have := b.toNat_lt
  unfold i8
  omega
theorem i8_b8 {n : Int} (h0 : 0 ≤ n) (h1 : n < 256) : i8 (b8 n) = n := by
  unfold i8 b8
  rw [UInt8.toNat_ofNat']
  omega
theorem b8_i8 (b : UInt8) : b8 (i8 b) = b := by
  have h := b.toNat_lt
  apply UInt8.toNat_inj.1
  unfold i8 b8
  rw [UInt8.toNat_ofNat']
  omega
theorem b8_mod (n : Int) : b8 (n % 256) = b8 n := by
  unfold b8
  rw [Int.emod_emod_of_dvd _ (Int.dvd_refl _)]
def wide (n : Int) : List UInt8 := [b8 (n / 256), b8 n]
theorem wide_two (h l : UInt8) : wide (i8 h * 256 + i8 l) = [h, l] := by
  have h0 := i8_lo h; have h1 := i8_hi h; have l0 := i8_lo l; have l1 := i8_hi l
  unfold wide
  have e1 : (i8 h * 256 + i8 l) / 256 = i8 h := by omega
  have e2 : b8 (i8 h * 256 + i8 l) = b8 (i8 l) := by
    rw [← b8_mod]
    congr 1
    omega
  rw [e1, e2, b8_i8, b8_i8]
theorem two_wide {n : Int} (h0 : 0 ≤ n) (h1 : n < 65536) : i8 (b8 (n / 256)) * 256 + i8 (b8 n) = n := by
  have e2 : b8 n = b8 (n % 256) := (b8_mod n).symm
  rw [i8_b8 (by omega) (by omega), e2, i8_b8 (by omega) (by omega)]
  omega
end Go.Proofs.Yteabfjpajgakiad

/- Bytes in memory; octet.Small, octet.Wide. -/
set_option linter.unusedSimpArgs false
set_option linter.unusedVariables false
set_option maxRecDepth 10000
namespace Go.Proofs.Yteabfjpajgakiad
open Go.RowKit

def byCells (B : List UInt8) : List Value := B.map fun b => .int .u8 (i8 b)
def bt (l : List UInt8) : ByteArray := ⟨l.toArray⟩
theorem wrap_b8 (n : Int) : IntKind.u8.wrap n = i8 (b8 n) := by
  rw [IntKind.wrap_u8', ← b8_mod, i8_b8 (by omega) (by omega)]
def BOwn (base : Nat) (w : World) (v : Value) (B : List UInt8) : Prop := w.ownsRow base 5 1 v B.length (byCells B)
theorem BOwn.nil {base : Nat} {w : World} : BOwn base w (.slice none 0 0) [] := ⟨rfl, .inl ⟨rfl, rfl⟩⟩
theorem byCells_append (a b : List UInt8) : byCells (a ++ b) = byCells a ++ byCells b := List.map_append ..
theorem byCells_len (a : List UInt8) : (byCells a).length = a.length := List.length_map ..
theorem byCells_one (a : List UInt8) : ∀ u ∈ byCells a, u.oneCell' = true := by
  intro u hu
  obtain ⟨b, _, rfl⟩ := List.mem_map.1 hu
  rfl
theorem byCells_at {a : List UInt8} {j : Nat} (h : j < a.length) : (byCells a)[j]? = some (.int .u8 (i8 a[j])) := by
  unfold byCells
  rw [List.getElem?_map, List.getElem?_eq_getElem h]
  rfl
/-- Only what v has, and what is new, is written; and v' is where v was, or is new. -/
structure GrowsTo (w w' : World) (v v' : Value) : Prop where
  grown : w.grownBy w' v.ownBlock
  lies : ∀ k, v'.ownBlock = some k → v.ownBlock = some k ∨ w.heap.size ≤ k
theorem GrowsTo.refl (w : World) (v : Value) : GrowsTo w w v v := ⟨⟨rfl, rfl, rfl, Nat.le_refl _, fun _ _ _ => rfl⟩, fun _ h => .inl h⟩
theorem GrowsTo.trans {w1 w2 w3 : World} {a b c : Value} (h : GrowsTo w1 w2 a b) (k : GrowsTo w2 w3 b c) : GrowsTo w1 w3 a c := by
  refine ⟨⟨k.grown.os.trans h.grown.os, k.grown.tape.trans h.grown.tape, k.grown.output.trans h.grown.output, Nat.le_trans h.grown.size k.grown.size, fun i hi hne => ?_⟩, fun i hi => ?_⟩
  · rw [k.grown.block i (Nat.lt_of_lt_of_le hi h.grown.size) (fun e => ?_), h.grown.block i hi hne]
    rcases h.lies i e.symm with h1 | h1
    · exact hne h1.symm
    · omega
  · rcases k.lies i hi with h1 | h1
    · exact h.lies i h1
    · exact .inr (Nat.le_trans h.grown.size h1)
theorem GrowsTo.of {w w' : World} (v : Value) (h : Keeps w w') : GrowsTo w w' v v := ⟨⟨h.os, h.tape, h.output, h.size, fun k hk _ => h.block k hk⟩, fun _ h => .inl h⟩
theorem BOwn.own {base : Nat} {w : World} {v : Value} {B : List UInt8} (h : BOwn base w v B) {k : Nat} (hk : v.ownBlock = some k) : base ≤ k ∧ k < w.heap.size := by
  rcases h.2 with ⟨rfl, _⟩ | ⟨g, cap, cur, rfl, hb, hg, _⟩
  · cases hk
  · have e : g = k := by simpa [Value.ownBlock] using hk
    subst e
    refine ⟨hb, ?_⟩
    rcases Nat.lt_or_ge g w.heap.size with hlt | hge
    · exact hlt
    · rw [Array.getElem?_eq_none hge] at hg; cases hg
theorem GrowsTo.below {base : Nat} {w w' : World} {v v' : Value} {B : List UInt8} (h : GrowsTo w w' v v') (hv : BOwn base w v B) (hb : base ≤ w.heap.size) : Below base w w' :=
  ⟨h.grown.os, h.grown.tape, h.grown.output, h.grown.size, fun k hk => h.grown.block k (Nat.lt_of_lt_of_le hk hb) (fun e => by have := (hv.own e.symm).1; omega)⟩
theorem BOwn.keep {base : Nat} {w w' : World} {v : Value} {B : List UInt8} (h : BOwn base w v B) (hk : Keeps w w') : BOwn base w' v B := by
  rcases h.2 with ⟨rfl, h0⟩ | ⟨g, cap, cur, rfl, hb, hg, h1⟩
  · exact ⟨h.1, .inl ⟨rfl, h0⟩⟩
  · exact ⟨h.1, .inr ⟨g, cap, cur, rfl, hb, by rw [hk.block g (h.own rfl).2]; exact hg, h1⟩⟩
theorem BOwn.len {base : Nat} {w : World} {v : Value} {B : List UInt8} (h : BOwn base w v B) : ∃ a c, v = .slice a B.length c := by
  rcases h.2 with ⟨rfl, h0⟩ | ⟨g, cap, cur, rfl, _⟩
  · exact ⟨_, _, by rw [h0]⟩
  · exact ⟨_, _, rfl⟩
theorem infoByte : ∃ i, Try.prog.info? 5 = some i ∧ i.zero = some (.int .u8 0) ∧ i.size = 1 ∧ i.bytes = 1 := ⟨_, rfl, rfl, rfl, rfl⟩
theorem run_append_bytes (w : World) (base : Nat) (hb : base ≤ w.heap.size) (ty : TypeId) (v : Value) (B : List UInt8) (hown : BOwn base w v B) (ad : Addr) (c : Nat) (N : List UInt8) (hN : ∀ j u, (byCells N)[j]? = some u → w.cell? (ad.add j) = some u) (hm : 0 < N.length) (hlen : B.length + N.length ≤ 100000) :
    ∃ g cap w', (Builtin.append_ #[55, 55] ty #[v, .slice (some ad) N.length c]).run Try.prog w = .ok (.slice (some ⟨g, 0, none⟩) (B ++ N).length cap) w' ∧ BOwn base w' (.slice (some ⟨g, 0, none⟩) (B ++ N).length cap) (B ++ N) ∧ GrowsTo w w' v (.slice (some ⟨g, 0, none⟩) (B ++ N).length cap) := by
  obtain ⟨i, hi, hz, hs, hby⟩ := infoByte
  obtain ⟨g, cap, w', h1, h2, h3, h4, h5⟩ := run_append_lies (P := Try.prog) w 55 ty base 5 i _ 1 1 Try.underlying55 hi hz hs hby rfl (by decide) v B.length (byCells B) hown ad N.length c (byCells N) (by rw [byCells_len]; omega) hN (byCells_one N) hm (by unfold maxLen; omega) (by omega) hb _ rfl
  rw [← byCells_append] at h2
  rw [List.length_append]
  refine ⟨g, cap, w', h1, ?_, h3, fun k hk => ?_⟩
  · unfold BOwn
    rw [List.length_append]
    exact h2
  · have e : g = k := by simpa [Value.ownBlock] using hk
    subst e
    rcases h4 with h4 | h4
    · exact .inl h4
    · exact .inr (by omega)
theorem app_bytes {ops : Array Oper} {rest : List Oper} {o : Oper} {a : Act} {Q : Exit → Act → World → Prop} (w : World) (hg : o.guard = none) (s x : Operand) (hop : o.op = .call { callee := .builtin .append, args := #[s, x], argTypes := #[55, 55] })
    (base : Nat) (hb : base ≤ w.heap.size) (v : Value) (B : List UInt8) (hs : a.eval s = v) (hown : BOwn base w v B) (ad : Addr) (c : Nat) (N : List UInt8) (hx : a.eval x = .slice (some ad) N.length c) (hN : ∀ j u, (byCells N)[j]? = some u → w.cell? (ad.add j) = some u) (hm : 0 < N.length) (hlen : B.length + N.length ≤ 100000)
    (h : ∀ v' w', BOwn base w' v' (B ++ N) → GrowsTo w w' v v' → wpList Try.prog ops Q rest (a.put o.dst v') w') : wpList Try.prog ops Q (o :: rest) a w := by
  obtain ⟨g, cap, w', hr, h2, h3⟩ := run_append_bytes w base hb o.type v B hown ad c N hN hm hlen
  refine wpList_plain hg fun K hK => ?_
  unfold Oper.wp execOp
  simp only [hop, resolve, invoke, builtin, Sem.run_bind, Sem.run_pure, Result.andThen_ok, List.map_toArray, List.map_cons, List.map_nil, hs, hx, hr]
  exact hK _ _ (h _ w' h2 h3)
theorem new_bytes (w : World) (N : List UInt8) (t : TypeId) : ∀ j u, (byCells N)[j]? = some u → (w.alloc (.cells (byCells N).toArray t)).cell? ((⟨w.heap.size, 0, none⟩ : Addr).add j) = some u :=
  World.news_of_block (w := w.alloc (.cells (byCells N).toArray t)) (cs := (byCells N).toArray) (t := t) (fr := (0, 0)) (by simp only [World.alloc, Array.getElem?_push_size])
theorem new_byte {w : World} {m n : Int} {t : TypeId} (h : m = i8 (b8 n)) : ∀ j u, (byCells [b8 n])[j]? = some u → (w.alloc (.cells #[.int .u8 m] t)).cell? ((⟨w.heap.size, 0, none⟩ : Addr).add j) = some u := by
  rw [h]
  exact new_bytes w [b8 n] t
/-- Numbers in one block. -/
def NumsAt (w : World) (b : Nat) (N : List Int) : Prop := ∀ i n, N[i]? = some n → w.cell? ⟨b, i, none⟩ = some (.int .i64 n)
theorem NumsAt.same {w w' : World} {b : Nat} {N : List Int} (h : NumsAt w b N) (he : w'.heap[b]? = w.heap[b]?) : NumsAt w' b N := fun i n hn => (World.cell?_of_block he).trans (h i n hn)

set_option maxHeartbeats 1000000 in
theorem small_c (base : Nat) (B : List UInt8) (v : Value) (N : List Int) (nb : Nat) (w : World) (hb : base ≤ w.heap.size) (hv : BOwn base w v B) (hN : NumsAt w nb N) (hnb : nb < w.heap.size) (hne : v.ownBlock ≠ some nb) (hlen : B.length + N.length ≤ 100000) :
    Calls Try.prog 30 #[v, .slice (some ⟨nb, 0, none⟩) N.length N.length] w fun e w' => ∃ v', e = .returned v' ∧ BOwn base w' v' (B ++ N.map b8) ∧ GrowsTo w w' v v' := by
  have HV : Hid (BOwn base w v B) := hv
  have HN : Hid (NumsAt w nb N) := hN
  have HL : Hid (v.ownBlock ≠ some nb) := hne
  have HB : Hid (base ≤ w.heap.size) := hb
  have HNB : Hid (nb < w.heap.size) := hnb
  have hnl : N.length ≤ 100000 := by omega
  clear hv hN hne hb hnb
  go_enter Try.func30, Try.ntmps30
  go_wp2_with fail
  go_loopw [0, 9] (fun b i wr => ∃ (k : Nat), k ≤ N.length ∧ i = .int .i64 k ∧ Hid (BOwn base wr b (B ++ (N.take k).map b8)) ∧ Hid (GrowsTo w wr v b)) (fun _ i _ => N.length - (intOf i).toNat)
  case atStart =>
    refine ⟨0, Nat.zero_le _, rfl, ?_, GrowsTo.refl _ _⟩
    show BOwn base w v (B ++ [])
    rw [List.append_nil]
    exact HV.out
  case round =>
    obtain ⟨k, hk, rfl, HO, HG⟩ := hrel
    by_cases hlt : k < N.length
    · have hc : wr.cell? ⟨nb, k, none⟩ = some (.int .i64 N[k]) := by
        exact (HN.out.same (HG.out.grown.block nb HNB.out (fun e => HL.out e.symm))) k _ (List.getElem?_eq_getElem hlt)
      have HR : Hid (B ++ (N.take k).map b8 ++ [b8 N[k]] = B ++ (N.take (k + 1)).map b8) := by
        show _ = _
        rw [List.append_assoc, List.take_succ_eq_append_getElem hlt, List.map_append]
        rfl
      generalize N[k] = n at *
      have hb2 : base ≤ wr.heap.size := Nat.le_trans HB.out HG.out.grown.size
      have hl2 : (B ++ (N.take k).map b8).length + [b8 n].length ≤ 100000 := by simp; omega
      have hm : IntKind.u8.wrap n = i8 (b8 n) := wrap_b8 n
      go_wp2_with (first | (refine app_bytes _ rfl _ _ rfl base (Nat.le_trans hb2 (by simp)) u0 _ rfl (HO.out.keep ((Keeps.refl _).alloc _)) ⟨wr.heap.size, 0, none⟩ 1 [b8 n] rfl (new_byte rfl) (by simp) hl2 ?_; intro v2 w2 hO2 hG2))
      go_roundw
      case rel => exact ⟨k + 1, by omega, by go_num, by rw [← HR.out]; exact hO2, (HG.out.trans (GrowsTo.of _ ((Keeps.refl _).alloc _))).trans hG2⟩
      case measure => simp [intOf]; omega
    · have e : k = N.length := by omega
      subst e
      have hO := HO.out
      rw [List.take_length] at hO
      go_wp2_with fail
      go_ret
      exact ⟨_, rfl, hO, HG.out⟩
theorem new_nums (w : World) (N : List Int) (t : TypeId) : NumsAt (w.alloc (.cells (N.map (Value.int .i64)).toArray t)) w.heap.size N := fun i n hn => by
  have h := World.news_of_block (w := w.alloc (.cells (N.map (Value.int .i64)).toArray t)) (B := w.heap.size) (cs := (N.map (Value.int .i64)).toArray) (t := t) (fr := (0, 0)) (by simp only [World.alloc, Array.getElem?_push_size]) i (.int .i64 n) (by simp [hn])
  have e : (⟨w.heap.size, 0, none⟩ : Addr).add i = ⟨w.heap.size, i, none⟩ := by unfold Addr.add; split <;> simp_all
  rw [e] at h
  exact h
/-- Numbers, two bytes each. -/
def wides : List Int → List UInt8
  | [] => []
  | n :: r => wide n ++ wides r
theorem wides_append : ∀ (a b : List Int), wides (a ++ b) = wides a ++ wides b
  | [], _ => rfl
  | n :: r, b => by
    show wide n ++ wides (r ++ b) = (wide n ++ wides r) ++ wides b
    rw [wides_append r b, List.append_assoc]
theorem wides_len : ∀ (a : List Int), (wides a).length = 2 * a.length
  | [] => rfl
  | n :: r => by
    show (wide n ++ wides r).length = _
    rw [List.length_append, wides_len r]
    simp [wide]
    omega

set_option maxHeartbeats 1000000 in
theorem wide_c (base : Nat) (B : List UInt8) (v : Value) (N : List Int) (nb : Nat) (w : World) (hb : base ≤ w.heap.size) (hv : BOwn base w v B) (hN : NumsAt w nb N) (hnb : nb < w.heap.size) (hne : v.ownBlock ≠ some nb) (hlen : B.length + 2 * N.length ≤ 100000) :
    Calls Try.prog 31 #[v, .slice (some ⟨nb, 0, none⟩) N.length N.length] w fun e w' => ∃ v', e = .returned v' ∧ BOwn base w' v' (B ++ wides N) ∧ GrowsTo w w' v v' := by
  have HV : Hid (BOwn base w v B) := hv
  have HN : Hid (NumsAt w nb N) := hN
  have HL : Hid (v.ownBlock ≠ some nb) := hne
  have HB : Hid (base ≤ w.heap.size) := hb
  have HNB : Hid (nb < w.heap.size) := hnb
  have hnl : N.length ≤ 100000 := by omega
  clear hv hN hne hb hnb
  go_enter Try.func31, Try.ntmps31
  go_wp2_with fail
  go_loopw [0, 9] (fun b i wr => ∃ (k : Nat), k ≤ N.length ∧ i = .int .i64 k ∧ Hid (BOwn base wr b (B ++ wides (N.take k))) ∧ Hid (GrowsTo w wr v b)) (fun _ i _ => N.length - (intOf i).toNat)
  case atStart =>
    refine ⟨0, Nat.zero_le _, rfl, ?_, GrowsTo.refl _ _⟩
    show BOwn base w v (B ++ [])
    rw [List.append_nil]
    exact HV.out
  case round =>
    obtain ⟨k, hk, rfl, HO, HG⟩ := hrel
    by_cases hlt : k < N.length
    · have hc : wr.cell? ⟨nb, k, none⟩ = some (.int .i64 N[k]) := by
        exact (HN.out.same (HG.out.grown.block nb HNB.out (fun e => HL.out e.symm))) k _ (List.getElem?_eq_getElem hlt)
      have HR : Hid (B ++ wides (N.take k) ++ wide N[k] = B ++ wides (N.take (k + 1))) := by
        show _ = _
        rw [List.append_assoc, List.take_succ_eq_append_getElem hlt, wides_append]
        simp [wides]
      generalize N[k] = n at *
      have hb2 : base ≤ wr.heap.size := Nat.le_trans HB.out HG.out.grown.size
      have hl2 : (B ++ wides (N.take k)).length + 2 ≤ 100000 := by rw [List.length_append, wides_len, List.length_take]; omega
      have HW : Hid ([n / 256, n].map b8 = wide n) := rfl
      go_wp2_with fail
      refine (small_c base _ u0 [n / 256, n] wr.heap.size _ (Nat.le_trans hb2 (by simp)) (HO.out.keep ((Keeps.refl _).alloc _)) (new_nums wr [n / 256, n] _) (by simp) (fun e => by have := (HO.out.own e).2; omega) hl2).mono ?_
      rintro e w2 ⟨v2, rfl, hO2, hG2⟩
      rw [HW.out, HR.out] at hO2
      have HO2 : Hid (BOwn base w2 v2 (B ++ wides (N.take (k + 1)))) := hO2
      have HG2 : Hid (GrowsTo w w2 v v2) := (HG.out.trans (GrowsTo.of _ ((Keeps.refl _).alloc _))).trans hG2
      clear hO2 hG2 HO HG HR HW
      go_wp2_with fail
      go_roundw
      case rel => exact ⟨k + 1, by omega, by go_num, HO2, HG2⟩
      case measure => simp [intOf]; omega
    · have e : k = N.length := by omega
      subst e
      have hO := HO.out
      rw [List.take_length] at hO
      go_wp2_with fail
      go_ret
      exact ⟨_, rfl, hO, HG.out⟩
end Go.Proofs.Yteabfjpajgakiad

/- A region that draws its order, whose order is forced but for two neighbours. -/
set_option linter.unusedSimpArgs false
set_option linter.unusedVariables false
namespace Go.Proofs.Yteabfjpajgakiad
open Go.RowKit

/-- The first k are done. -/
def upTo (N k : Nat) : Array Bool := Array.ofFn (n := N) fun i => decide (i.1 < k)

theorem upTo_true {N k i : Nat} : (upTo N k).getD i true = false ↔ i < N ∧ k ≤ i := by
  unfold upTo
  by_cases h : i < N
  · simp [h]
  · simp [h]

theorem upTo_false {N k i : Nat} : (upTo N k).getD i false = true ↔ i < N ∧ i < k := by
  unfold upTo
  by_cases h : i < N
  · simp [h]
  · simp [h]

theorem upTo_true' {N k i : Nat} : ((upTo N k).setIfInBounds (k + 1) true).getD i true = false ↔ i < N ∧ k ≤ i ∧ i ≠ k + 1 := by
  unfold upTo
  by_cases h : i < N
  · simp only [Array.getD_eq_getD_getElem?, Array.getElem?_setIfInBounds]
    by_cases h' : k + 1 = i
    · subst h'; simp [h]
    · rw [if_neg h']; simp [h]; omega
  · have h2 : ¬ (i < ((Array.ofFn (n := N) fun i => decide (i.1 < k)).setIfInBounds (k + 1) true).size) := by simpa using h
    simp [Array.getD, h]

theorem upTo_false' {N k i : Nat} : ((upTo N k).setIfInBounds (k + 1) true).getD i false = true ↔ i < N ∧ (i < k ∨ i = k + 1) := by
  unfold upTo
  by_cases h : i < N
  · simp only [Array.getD_eq_getD_getElem?, Array.getElem?_setIfInBounds]
    by_cases h' : k + 1 = i
    · subst h'; simp [h]
    · rw [if_neg h']; simp [h]; omega
  · simp [Array.getD, h]

def waits (ops : Array Oper) (j i : Nat) : Bool := Region.waitsFor .any ops j i

structure Chain (ops : Array Oper) (n : Nat) : Prop where
  one : 1 ≤ n
  size : n + 2 ≤ ops.size
  skip : waits ops (n + 1) (n - 1) = true
  both : n + 2 < ops.size → waits ops (n + 2) n = true
  prev : ∀ t, t < ops.size → t ≠ 0 → t ≠ n + 1 → waits ops t (t - 1) = true
  back : ∀ t o, ops[t]? = some o → ∀ e ∈ o.after, Region.binds .any e = true → e.on < t ∧ (t = n + 1 → e.on ≠ n)

theorem waits_of {ops : Array Oper} {j i : Nat} {o : Oper} (h : waits ops j i = true) (ho : ops[j]? = some o) {listed : Array Bool} (ha : ∀ e ∈ o.after, Region.binds .any e = true → listed.getD e.on false = true) : listed.getD i false = true := by
  obtain ⟨oj, hj, e, he, hb, rfl⟩ := Region.waitsFor_spec h
  rw [ho] at hj
  cases hj
  exact ha e he hb

theorem size_of {ops : Array Oper} {i : Nat} {o : Oper} (h : ops[i]? = some o) : i < ops.size := by
  rcases Nat.lt_or_ge i ops.size with h' | h'
  · exact h'
  · rw [Array.getElem?_eq_none h'] at h; cases h

/-- Elsewhere one alone may come up. -/
theorem Chain.only {ops : Array Oper} {n : Nat} (C : Chain ops n) {k i : Nat} (hk : k ≠ n) (hi : i ∈ Region.ready .any ops (upTo ops.size k)) : i = k := by
  obtain ⟨h1, o, ho, ha⟩ := mem_ready.1 hi
  obtain ⟨hN, hki⟩ := upTo_true.1 h1
  by_cases hn : i = n + 1
  · have := (upTo_false.1 (waits_of (i := n - 1) (by rw [hn]; exact C.skip) ho ha)).2
    have := C.one
    omega
  · by_cases h0 : i = 0
    · omega
    · have := (upTo_false.1 (waits_of (C.prev i hN h0 hn) ho ha)).2
      omega

theorem Chain.first {ops : Array Oper} {n : Nat} (C : Chain ops n) {k : Nat} (hk : k < ops.size) : k ∈ Region.ready .any ops (upTo ops.size k) := by
  refine mem_ready.2 ⟨upTo_true.2 ⟨hk, Nat.le_refl _⟩, ops[k], by simp [hk], fun e he hb => upTo_false.2 ?_⟩
  have := (C.back k ops[k] (by simp [hk]) e he hb).1
  omega

theorem Chain.other {ops : Array Oper} {n : Nat} (C : Chain ops n) {i : Nat} (hi : i ∈ Region.ready .any ops ((upTo ops.size n).setIfInBounds (n + 1) true)) : i = n := by
  obtain ⟨h1, o, ho, ha⟩ := mem_ready.1 hi
  obtain ⟨hN, hki, hne⟩ := upTo_true'.1 h1
  by_cases h0 : i = 0
  · omega
  · by_cases h2 : i = n + 2
    · have := (upTo_false'.1 (waits_of (i := n) (by rw [h2]; exact C.both (by omega)) ho ha)).2
      omega
    · have := (upTo_false'.1 (waits_of (C.prev i hN h0 hne) ho ha)).2
      omega

theorem Chain.done {ops : Array Oper} {k : Nat} (hk : ops.size ≤ k) : Region.ready .any ops (upTo ops.size k) = [] := by
  apply List.eq_nil_iff_forall_not_mem.2
  intro i hi
  obtain ⟨h1, _⟩ := mem_ready.1 hi
  obtain ⟨hN, hki⟩ := upTo_true.1 h1
  omega

end Go.Proofs.Yteabfjpajgakiad

/- A region that draws its order: stretches of it whose order is forced are walked as the text has them. -/
set_option linter.unusedSimpArgs false
set_option linter.unusedVariables false
namespace Go.Proofs.Yteabfjpajgakiad
open Go.RowKit

end Go.Proofs.Yteabfjpajgakiad

/- A region that draws its order: whatever the order, each operation's value meets a condition of its own; the conditions stand when memory is added, and, where an operation writes (a store, an append in its place: 'special'), as far as that operation's own frame keeps them. -/
set_option linter.unusedSimpArgs false
set_option linter.unusedVariables false
namespace Go.Proofs.Yteabfjpajgakiad
open Go.RowKit

/-- A condition on a value that stands when memory is added. -/
structure Pr where
  p : Value → World → Prop
  keep : ∀ v W W', p v W → Keeps W W' → p v W'
def Pr.any : Pr := ⟨fun _ _ => True, fun _ _ _ _ _ => trivial⟩
def Pr.is (x : Value) : Pr := ⟨fun v _ => v = x, fun _ _ _ h _ => h⟩

def prAt : List Pr → Nat → Pr
  | [], _ => Pr.any
  | r :: _, 0 => r
  | _ :: rs, i + 1 => prAt rs i

def fillL : List (Option Tmp) → (Nat → Value) → Nat → Act → Act
  | [], _, _, a => a
  | d :: ds, vs, k, a => fillL ds vs (k + 1) (a.put d (vs k))

theorem put_twice (a : Act) (d : Option Tmp) (x y : Value) : (a.put d x).put d y = a.put d y := by
  cases d <;> simp [Act.put]
theorem put_comm' (a : Act) {d e : Option Tmp} (x y : Value) (h : ∀ t, d = some t → e ≠ some t) : (a.put d x).put e y = (a.put e y).put d x := by
  cases d with
  | none => rfl
  | some d =>
    cases e with
    | none => rfl
    | some e =>
      simp only [Act.put]
      rw [Array.setIfInBounds_comm _ _ (fun q => h d rfl (by rw [q]))]
/-- No slot is written twice. -/
def apartB : List (Option Tmp) → Bool
  | [] => true
  | none :: ds => apartB ds
  | some d :: ds => !ds.contains (some d) && apartB ds
theorem fillL_comm {d : Option Tmp} : ∀ (ds : List (Option Tmp)) (vs : Nat → Value) (k : Nat) (a : Act) (v : Value), (∀ t, d = some t → some t ∉ ds) → (fillL ds vs k a).put d v = fillL ds vs k (a.put d v)
  | [], _, _, _, _, _ => rfl
  | e :: ds, vs, k, a, v, h => by
    simp only [fillL]
    rw [fillL_comm ds vs (k + 1) _ v (fun t ht hm => h t ht (List.mem_cons_of_mem _ hm)), put_comm' a (vs k) v (fun t ht hd => h t hd (by rw [ht]; exact List.mem_cons_self ..))]
theorem fillL_congr : ∀ (ds : List (Option Tmp)) (vs vs' : Nat → Value) (k : Nat) (a : Act), (∀ j, k ≤ j → vs j = vs' j) → fillL ds vs k a = fillL ds vs' k a
  | [], _, _, _, _, _ => rfl
  | d :: ds, vs, vs', k, a, h => by
    simp only [fillL]
    rw [h k (Nat.le_refl _)]
    exact fillL_congr ds vs vs' (k + 1) _ (fun j hj => h j (by omega))
theorem fillL_put {d : Option Tmp} : ∀ (ds : List (Option Tmp)) (vs : Nat → Value) (k i : Nat) (a : Act) (v : Value), apartB ds = true → ds[i]? = some d → (fillL ds vs k a).put d v = fillL ds (fun j => if j = k + i then v else vs j) k a
  | [], _, _, i, _, _, _, h => by simp at h
  | e :: ds, vs, k, 0, a, v, hn, h => by
    obtain rfl : e = d := by simpa using h
    simp only [fillL]
    rw [fillL_comm ds vs (k + 1) _ v (fun t ht hm => by subst ht; simp [apartB] at hn; exact hn.1 hm), put_twice]
    simp only [Nat.add_zero, if_true]
    exact fillL_congr ds _ _ (k + 1) _ (fun j hj => by simp [show j ≠ k by omega])
  | e :: ds, vs, k, i + 1, a, v, hn, h => by
    have hn' : apartB ds = true := by
      cases e with
      | none => exact hn
      | some e => simp [apartB] at hn; exact hn.2
    simp only [fillL]
    rw [fillL_put ds vs (k + 1) i _ v hn' (by simpa using h)]
    simp only [show k ≠ k + (i + 1) by omega, if_false]
    exact fillL_congr ds _ _ (k + 1) _ (fun j hj => by simp [show k + 1 + i = k + (i + 1) by omega])

def cntU (listed : Array Bool) : Nat → Nat
  | 0 => 0
  | n + 1 => cntU listed n + (if listed.getD n false = true then 0 else 1)
theorem getD_set {listed : Array Bool} {i : Nat} (hi : i < listed.size) (j : Nat) : (listed.setIfInBounds i true).getD j false = if j = i then true else listed.getD j false := by
  simp only [Array.getD_eq_getD_getElem?, Array.getElem?_setIfInBounds]
  by_cases h : i = j
  · subst h; simp [hi]
  · rw [if_neg h, if_neg (fun e => h e.symm)]
theorem cnt_ge {listed : Array Bool} {i : Nat} (hi : i < listed.size) : ∀ n, n ≤ i → cntU (listed.setIfInBounds i true) n = cntU listed n
  | 0, _ => rfl
  | n + 1, h => by
    simp only [cntU]
    rw [cnt_ge hi n (by omega), getD_set hi, if_neg (by omega : ¬ n = i)]
theorem cnt_lt {listed : Array Bool} {i : Nat} (hi : i < listed.size) (hu : listed.getD i false = false) : ∀ n, i < n → cntU listed n = cntU (listed.setIfInBounds i true) n + 1
  | 0, h => by omega
  | n + 1, h => by
    simp only [cntU]
    by_cases hn : i = n
    · subst hn
      rw [cnt_ge hi i (Nat.le_refl _), getD_set hi, hu]
      simp
    · rw [cnt_lt hi hu n (by omega), getD_set hi, if_neg (by omega : ¬ n = i)]
      omega
theorem cnt_zero {listed : Array Bool} : ∀ n, cntU listed n = 0 → ∀ i, i < n → listed.getD i false = true
  | 0, _, i, h => by omega
  | n + 1, h, i, hi => by
    simp only [cntU] at h
    by_cases hn : i = n
    · subst hn
      cases q : listed.getD i false with
      | true => rfl
      | false => rw [q] at h; simp at h
    · exact cnt_zero n (by omega) i (by omega)
theorem cnt_pos {listed : Array Bool} : ∀ n, cntU listed n ≠ 0 → ∃ i, i < n ∧ listed.getD i false = false
  | 0, h => absurd rfl h
  | n + 1, h => by
    simp only [cntU] at h
    cases q : listed.getD n false with
    | false => exact ⟨n, by omega, q⟩
    | true =>
      rw [q] at h
      obtain ⟨i, hi, hu⟩ := cnt_pos n (by simpa using h)
      exact ⟨i, by omega, hu⟩

/-- j waits for i. -/
def waitB (ops : Array Oper) (j i : Nat) : Bool := ((ops[j]?).map fun o => o.after.any fun e => Region.binds .any e && e.on == i).getD false
/-- None waits for one behind it. -/
def growB (ops : Array Oper) : Bool := (List.range ops.size).all fun i => ((ops[i]?).map fun o => o.after.all fun e => !Region.binds .any e || decide (e.on < i)).getD false
theorem grow_back {ops : Array Oper} (h : growB ops = true) : ∀ i, i < ops.size → ∃ o, ops[i]? = some o ∧ ∀ e ∈ o.after, Region.binds .any e = true → e.on < i := by
  simp only [growB, List.all_eq_true, List.mem_range] at h
  intro i hi
  have := h i hi
  cases ho : ops[i]? with
  | none => rw [ho] at this; cases this
  | some o =>
    rw [ho] at this
    simp only [Option.map_some, Option.getD_some, Array.all_eq_true', Bool.or_eq_true, Bool.not_eq_true', decide_eq_true_eq] at this
    refine ⟨o, rfl, fun e he hb => ?_⟩
    rcases this e he with h' | h'
    · rw [hb] at h'; cases h'
    · exact h'

structure Listed (ops : Array Oper) (listed : Array Bool) : Prop where
  size : listed.size = ops.size
  down : ∀ j, listed.getD j false = true → ∀ o, ops[j]? = some o → ∀ e ∈ o.after, Region.binds .any e = true → listed.getD e.on false = true

theorem waitB_iff {ops : Array Oper} {j i : Nat} (h : waitB ops j i = true) : ∃ o, ops[j]? = some o ∧ ∃ e ∈ o.after, Region.binds .any e = true ∧ e.on = i := by
  unfold waitB at h
  cases ho : ops[j]? with
  | none => rw [ho] at h; cases h
  | some o =>
    rw [ho] at h
    simp only [Option.map_some, Option.getD_some, Array.any_eq_true', Bool.and_eq_true, beq_iff_eq] at h
    obtain ⟨e, he, hb, hk⟩ := h
    exact ⟨o, rfl, e, he, hb, hk⟩
theorem getD_both {listed : Array Bool} {i : Nat} (hi : i < listed.size) : listed.getD i true = listed.getD i false := by
  simp [Array.getD, hi]
theorem grow_some {ops : Array Oper} (G : ∀ i, i < ops.size → ∃ o, ops[i]? = some o ∧ ∀ e ∈ o.after, Region.binds .any e = true → e.on < i) {listed : Array Bool} (L : Listed ops listed) : ∀ k u, u ≤ k → u < ops.size → listed.getD u false = false → ∃ i, i ∈ Region.ready .any ops listed := by
  intro k
  induction k with
  | zero =>
    intro u hk hu hul
    obtain ⟨o, ho, hb⟩ := G u hu
    exact ⟨u, mem_ready.2 ⟨by rw [getD_both (by rw [L.size]; omega)]; exact hul, o, ho, fun e he hbd => by have := hb e he hbd; omega⟩⟩
  | succ k ih =>
    intro u hk hu hul
    obtain ⟨o, ho, hb⟩ := G u hu
    by_cases hall : ∀ e ∈ o.after, Region.binds .any e = true → listed.getD e.on false = true
    · exact ⟨u, mem_ready.2 ⟨by rw [getD_both (by rw [L.size]; omega)]; exact hul, o, ho, hall⟩⟩
    · have : ∃ e, e ∈ o.after ∧ Region.binds .any e = true ∧ listed.getD e.on false = false := by
        apply Classical.byContradiction
        intro hc
        refine hall (fun e he hbd => ?_)
        cases q : listed.getD e.on false with
        | true => rfl
        | false => exact absurd ⟨e, he, hbd, q⟩ hc
      obtain ⟨e, he, hbd, q⟩ := this
      have := hb e he hbd
      exact ih e.on (by omega) (by omega) q

/-- It comes behind k. -/
def reachB (ops : Array Oper) : Nat → Nat → Nat → Bool
  | 0, _, _ => false
  | f + 1, i, k => waitB ops i k || (List.range i).any fun j => waitB ops i j && reachB ops f j k
theorem reach_listed {ops : Array Oper} {listed : Array Bool} (L : Listed ops listed) : ∀ f i k, reachB ops f i k = true → listed.getD i false = true → listed.getD k false = true
  | 0, _, _, h, _ => by cases h
  | f + 1, i, k, h, hl => by
    have one : ∀ j, waitB ops i j = true → listed.getD j false = true := fun j hw => by
      obtain ⟨o, ho, e, he, hb, rfl⟩ := waitB_iff hw
      exact L.down i hl o ho e he hb
    simp only [reachB, Bool.or_eq_true, List.any_eq_true, Bool.and_eq_true] at h
    rcases h with h | ⟨j, _, h1, h2⟩
    · exact one k h
    · exact reach_listed L f j k h2 (one j h1)

/-- An operation that writes: its number, the numbers whose conditions it ends, its frame. -/
structure Wr where
  num : Nat
  dead : List Nat
  frame : World → World → Prop
def Fr (xs : List Wr) (w0 : World) (i : Nat) (W W' : World) : Prop := ((∀ x ∈ xs, x.num ≠ i) → Keeps W W') ∧ Keeps w0 W' ∧ ∀ x ∈ xs, x.num = i → x.frame W W'
theorem Fr.of {xs : List Wr} {w0 : World} {i : Nat} {W W' : World} (h : ∀ x ∈ xs, x.num ≠ i) (h0 : Keeps w0 W) (hk : Keeps W W') : Fr xs w0 i W W' := ⟨fun _ => hk, h0.trans hk, fun x hx e => absurd e (h x hx)⟩

/-- What i may use of j. -/
def mayB (ops : Array Oper) (xs : List Wr) (i j : Nat) : Bool := waitB ops i j && xs.all fun x => !x.dead.contains j || (x.num == i || reachB ops ops.size x.num i)

theorem rep_false (N k : Nat) : (Array.replicate N false).getD k false = false := by
  by_cases h : k < N <;> simp [Array.getD, h]

end Go.Proofs.Yteabfjpajgakiad

/- The rule for drawn regions, with an invariant of one's own. -/
set_option linter.unusedSimpArgs false
set_option linter.unusedVariables false
namespace Go.Proofs.Yteabfjpajgakiad
open Go.RowKit

def FrI (xs : List Wr) (I : World → Prop) (i : Nat) (W W' : World) : Prop := ((∀ x ∈ xs, x.num ≠ i) → Keeps W W') ∧ I W' ∧ ∀ x ∈ xs, x.num = i → x.frame W W'
theorem FrI.of {xs : List Wr} {I : World → Prop} {i : Nat} {W W' : World} (h : ∀ x ∈ xs, x.num ≠ i) (h0 : I W') (hk : Keeps W W') : FrI xs I i W W' := ⟨fun _ => hk, h0, fun x hx e => absurd e (h x hx)⟩

/-- What one operation is to do. -/
structure GrowStepI (P : Program) (l : List Oper) (Q : Exit → Act → World → Prop) (a0 : Act) (I : World → Prop) (J : Pr) (ds : List (Option Tmp)) (R : List Pr) (xs : List Wr) (i : Nat) : Prop where
  out : ∀ (vs : Nat → Value) (W : World), I W → ((xs.all fun x => x.num == i || reachB l.toArray l.toArray.size x.num i) = true → J.p undef W) → (∀ j, mayB l.toArray xs i j = true → (prAt R j).p (vs j) W) →
    ∀ K : Act → World → Prop, Shut (∀ a' v W', a' = (fillL ds vs 0 a0).put (ds.getD i none) v → FrI xs I i W W' → (prAt R i).p v W' → K a' W') →
      match l[i]? with
      | none => False
      | some o => if Region.wanted o (yielded l.toArray (fillL ds vs 0 a0).tmps) = true then o.wp P (fillL ds vs 0 a0) W K Q else K ((fillL ds vs 0 a0).put o.dst undef) W

theorem growI_all {P : Program} {l : List Oper} {Q : Exit → Act → World → Prop} {a0 : Act} {I : World → Prop} {J : Pr} {ds : List (Option Tmp)} {R : List Pr} {xs : List Wr} (hds : l.map (·.dst) = ds) (hnd : apartB ds = true) (hG : growB l.toArray = true)
    (hstep : ∀ i, i < l.length → GrowStepI P l Q a0 I J ds R xs i)
    (hF : ∀ x ∈ xs, ∀ j, j < l.length → j ∉ x.dead → j ≠ x.num → reachB l.toArray l.toArray.size j x.num = false → ∀ v W W', (prAt R j).p v W → x.frame W W' → (prAt R j).p v W')
    (hend : ∀ vs W, I W → (∀ i, i < l.length → (∀ x ∈ xs, i ∉ x.dead) → (prAt R i).p (vs i) W) → Q .normal (fillL ds vs 0 a0) W) :
    ∀ c (listed : Array Bool) (vs : Nat → Value) (W : World), cntU listed l.length = c → Listed l.toArray listed → I W → ((∀ x ∈ xs, listed.getD x.num false = false) → J.p undef W) → (∀ i, i < l.length → listed.getD i false = true → (∀ x ∈ xs, listed.getD x.num false = true → i ∉ x.dead) → (prAt R i).p (vs i) W) →
      wpAny P .any l.toArray Q c listed (fillL ds vs 0 a0) W := by
  have G := grow_back hG
  have hN : l.toArray.size = l.length := by simp
  intro c
  induction c with
  | zero =>
    intro listed vs W hc L hk hJ hR
    have hall := cnt_zero l.length hc
    refine ⟨?_, hend vs W hk (fun i hi hd => hR i hi (hall i hi) (fun x hx _ => hd x hx))⟩
    apply List.eq_nil_iff_forall_not_mem.2
    intro i hi
    obtain ⟨h1, o, ho, _⟩ := mem_ready.1 hi
    have hil : i < l.length := by have := size_of ho; omega
    rw [getD_both (by rw [L.size]; omega), hall i hil] at h1
    cases h1
  | succ c ih =>
    intro listed vs W hc L hk hJ hR
    obtain ⟨u, hu, hul⟩ := cnt_pos l.length (by omega : cntU listed l.length ≠ 0)
    refine ⟨fun h0 => ?_, fun i hi => ?_⟩
    · obtain ⟨i, hi⟩ := grow_some G L u u (Nat.le_refl _) (by omega) hul
      rw [h0] at hi
      cases hi
    · obtain ⟨h1, o, ho, ha⟩ := mem_ready.1 hi
      have hin : i < l.length := by have := size_of ho; omega
      have his : i < listed.size := by rw [L.size]; omega
      have hiu : listed.getD i false = false := by rw [← getD_both his]; exact h1
      have hlo : l[i]? = some o := by simpa using ho
      have hdst : o.dst = ds.getD i none ∧ ds[i]? = some (ds.getD i none) := by
        have e1 : (l.map (·.dst))[i]? = some o.dst := by simp [hlo]
        rw [hds] at e1
        have e2 : ds.getD i none = o.dst := by simp [List.getD, e1]
        exact ⟨e2.symm, by rw [e2]; exact e1⟩
      have hs := (hstep i hin).out vs W hk (fun hall => hJ (fun x hx => by
        simp only [List.all_eq_true, Bool.or_eq_true, beq_iff_eq] at hall
        rcases hall x hx with h' | h'
        · rw [h']; exact hiu
        · cases q : listed.getD x.num false with
          | false => rfl
          | true =>
            have := reach_listed L _ x.num i h' q
            rw [hiu] at this
            cases this)) (fun j hw => by
        simp only [mayB, Bool.and_eq_true, List.all_eq_true, Bool.or_eq_true, Bool.not_eq_true', beq_iff_eq] at hw
        obtain ⟨o', ho', e, he, hb, rfl⟩ := waitB_iff hw.1
        rw [ho] at ho'
        cases ho'
        obtain ⟨o2, ho2, hb2⟩ := G i (by omega)
        rw [ho] at ho2
        cases ho2
        refine hR e.on (by have := hb2 e he hb; omega) (ha e he hb) (fun x hx hxl => ?_)
        rcases hw.2 x hx with h' | h' | h'
        · intro hm
          rw [List.contains_iff_mem.2 hm] at h'
          cases h'
        · rw [h', hiu] at hxl; cases hxl
        · have := reach_listed L _ x.num i h' hxl
          rw [hiu] at this
          cases this)
      refine wpOp_step ho (fun K hK => ?_)
      have hs' := hs K (fun a' v W' ha' hfr hv => by
        subst ha'
        refine hK _ _ ?_
        rw [fillL_put ds vs 0 i a0 v hnd hdst.2, Nat.zero_add]
        refine ih (listed.setIfInBounds i true) _ W' (by have := cnt_lt his hiu l.length hin; omega) ⟨by rw [Array.size_setIfInBounds]; exact L.size, ?_⟩ hfr.2.1 ?_ ?_
        · intro j hj o' ho' e he hb
          rw [getD_set his] at hj ⊢
          by_cases hje : j = i
          · subst hje
            rw [ho] at ho'
            cases ho'
            rw [ha e he hb]
            simp
          · rw [if_neg hje] at hj
            rw [L.down j hj o' ho' e he hb]
            simp
        · intro hno
          have hni : ∀ x ∈ xs, x.num ≠ i := fun x hx e => by
            have := hno x hx
            rw [getD_set his, if_pos e] at this
            cases this
          refine J.keep _ _ _ (hJ (fun x hx => ?_)) (hfr.1 hni)
          have := hno x hx
          rw [getD_set his, if_neg (hni x hx)] at this
          exact this
        · intro j hj hjl hjd
          rw [getD_set his] at hjl
          by_cases hje : j = i
          · subst hje
            simp only [if_true]
            exact hv
          · rw [if_neg hje] at hjl
            simp only [if_neg hje]
            have hold : (prAt R j).p (vs j) W := hR j hj hjl (fun x hx hxl => hjd x hx (by rw [getD_set his, hxl, ite_self]))
            by_cases hix : ∃ x, x ∈ xs ∧ x.num = i
            · obtain ⟨x, hx, rfl⟩ := hix
              refine hF x hx j hj (hjd x hx (by rw [getD_set his, if_pos rfl])) hje ?_ _ W W' hold (hfr.2.2 x hx rfl)
              cases q : reachB l.toArray l.toArray.size j x.num with
              | false => rfl
              | true =>
                have := reach_listed L _ j x.num q hjl
                rw [hiu] at this
                cases this
            · exact (prAt R j).keep _ _ _ hold (hfr.1 (fun x hx e => hix ⟨x, hx, e⟩)))
      rw [hlo] at hs'
      simp only at hs'
      exact hs'

/-- THE RULE. -/
theorem wp_region_growI {P : Program} {id : Nat} {Q : Exit → Act → World → Prop} {a0 : Act} {w : World} {l : List Oper} (I : World → Prop) (hI : I w.drew) (J : Pr) (hJ : J.p undef w.drew) (ds : List (Option Tmp)) (R : List Pr) (xs : List Wr) (hm : P.follows .mixedOrders = true) (hds : l.map (·.dst) = ds) (hnd : apartB ds = true) (hG : growB l.toArray = true)
    (hstep : ∀ i, i < l.length → GrowStepI P l Q a0 I J ds R xs i)
    (hF : ∀ x ∈ xs, ∀ j, j < l.length → j ∉ x.dead → j ≠ x.num → reachB l.toArray l.toArray.size j x.num = false → ∀ v W W', (prAt R j).p v W → x.frame W W' → (prAt R j).p v W')
    (hend : ∀ vs W, I W → (∀ i, i < l.length → (∀ x ∈ xs, i ∉ x.dead) → (prAt R i).p (vs i) W) → Q .normal (fillL ds vs 0 a0) W) : (Code.region id l.toArray true).wp P Q a0 w := by
  refine wp_region_any hm ?_
  obtain ⟨vs, hvs⟩ : ∃ vs : Nat → Value, vs = fun i => match ds.getD i none with | some d => a0.tmps.getD d undef | none => undef := ⟨_, rfl⟩
  have key := growI_all hds hnd hG hstep hF hend l.length (Array.replicate l.toArray.size false) vs w.drew
  have hcnt : ∀ k, k ≤ l.toArray.size → cntU (Array.replicate l.toArray.size false) k = k := by
    intro k
    induction k with
    | zero => intro _; rfl
    | succ k ih =>
      intro hk
      simp only [cntU]
      rw [ih (by omega), rep_false]
      simp
  have hfill : ∀ (ds' : List (Option Tmp)) (k : Nat) (vs : Nat → Value), (∀ i d, ds'[i]? = some (some d) → vs (k + i) = a0.tmps.getD d undef) → fillL ds' vs k a0 = a0 := by
    intro ds'
    induction ds' with
    | nil => intro _ _ _; rfl
    | cons d ds' ih =>
      intro k vs h
      simp only [fillL]
      have : a0.put d (vs k) = a0 := by
        cases d with
        | none => rfl
        | some d =>
          have h0 := h 0 d rfl
          rw [Nat.add_zero] at h0
          rw [h0]
          simp only [Act.put]
          congr 1
          apply Array.ext
          · simp
          · intro i h1 h2
            rw [Array.getElem_setIfInBounds]
            split
            · rename_i hdi
              subst hdi
              simp [Array.getD, h2]
            · rfl
      rw [this]
      exact ih (k + 1) vs (fun i d' hd => by rw [← h (i + 1) d' (by simpa using hd)]; congr 1; omega)
  have hf := hfill ds 0 vs (fun i d hd => by rw [hvs]; simp [List.getD, hd])
  rw [hf] at key
  have hsz : l.length = l.toArray.size := by simp
  rw [hsz] at key
  exact key (hcnt _ (Nat.le_refl _)) ⟨by simp, fun j hj => (by rw [rep_false] at hj; cases hj)⟩ hI (fun _ => hJ) (fun i hi hj _ => (by rw [rep_false] at hj; cases hj))
end Go.Proofs.Yteabfjpajgakiad

/- Laws for variables of many cells, readers, drawn regions. -/
set_option linter.unusedSimpArgs false
set_option linter.unusedVariables false
set_option maxRecDepth 10000
namespace Go.Proofs.Yteabfjpajgakiad
open Go.RowKit

/-- A variable of cells. -/
def CBox (b : Nat) (cs : List Value) (w : World) : Prop := (∀ i u, cs[i]? = some u → w.cell? ⟨b, i, none⟩ = some u) ∧ ∀ i, w.frozen? ⟨b, i, none⟩ = false
theorem CBox.lt {b : Nat} {cs : List Value} {w : World} (h : CBox b cs w) (hc : 0 < cs.length) : b < w.heap.size := World.block_lt_of_cell? _ _ (h.1 0 _ (List.getElem?_eq_getElem hc))
theorem CBox.same {b : Nat} {cs : List Value} {w w' : World} (h : CBox b cs w) (he : w'.heap[b]? = w.heap[b]?) : CBox b cs w' := ⟨fun i u hu => (World.cell?_of_block he).trans (h.1 i u hu), fun i => (World.frozen?_of_block he).trans (h.2 i)⟩
theorem CBox.keep {b : Nat} {cs : List Value} {w w' : World} (h : CBox b cs w) (hk : Keeps w w') (hc : 0 < cs.length := by simp) : CBox b cs w' := h.same (hk.block b (h.lt hc))
theorem CBox.other {b c : Nat} {cs : List Value} {w w' : World} (h : CBox b cs w) (hk : But c w w') (hb : b ≠ c) (hc : 0 < cs.length := by simp) : CBox b cs w' := h.same (hk.block b (h.lt hc) hb)
theorem CBox.new (w : World) (cs : List Value) (ty : TypeId) : CBox w.heap.size cs (w.alloc (.cells cs.toArray ty)) := by
  refine ⟨fun i u hu => ?_, fun i => ?_⟩
  · unfold World.cell?
    rw [World.alloc_heap_new]
    simpa using hu
  · simp [go_sem]

theorem range_of {b : Nat} {cs : List Value} {w : World} (h : CBox b cs w) (o n : Nat) {ds : List Value} (hd : (cs.drop o).take n = ds) : w.rangeAt b o ds := by
  intro j v hv
  refine h.1 (o + j) v ?_
  rw [← hd] at hv
  rw [List.getElem?_take] at hv
  split at hv
  · rw [List.getElem?_drop] at hv
    exact hv
  · cases hv

theorem CBox.there {b : Nat} {cs : List Value} {w : World} (h : CBox b cs w) (o n : Nat) (hn : o + n ≤ cs.length) : w.there b o n := fun j hj => ⟨by rw [h.1 (o + j) _ (List.getElem?_eq_getElem (by omega))]; rfl, h.2 _⟩
theorem frozen_setCells {b : Nat} : ∀ (vs : List Value) (o : Nat) (w : World) (a : Addr), (w.setCells b o vs).frozen? a = w.frozen? a
  | [], _, _, _ => rfl
  | v :: r, o, w, a => (frozen_setCells r (o + 1) _ a).trans (World.frozen?_setCell _ _ _ _)
/-- A variable that is written whole. -/
theorem CBox.puts {b : Nat} {cs : List Value} {w : World} (h : CBox b cs w) (ds : List Value) (hl : ds.length = cs.length) : CBox b ds (w.setCells b 0 ds) := by
  refine ⟨fun i u hu => ?_, fun i => (frozen_setCells ds 0 w _).trans (h.2 i)⟩
  have := World.rangeAt_setCells_same w b 0 ds (h.there 0 ds.length (by omega)) i u hu
  rwa [Nat.zero_add] at this
/-- A part of it. -/
theorem CBox.putAt {b o : Nat} {cs : List Value} {w : World} (h : CBox b cs w) (ds : List Value) (hl : o + ds.length ≤ cs.length) : CBox b (cs.take o ++ ds ++ cs.drop (o + ds.length)) (w.setCells b o ds) := by
  refine ⟨fun i u hu => ?_, fun i => (frozen_setCells ds o w _).trans (h.2 i)⟩
  by_cases h1 : i < o
  · rw [World.cell?_setCells_out b ds o w ⟨b, i, none⟩ (fun _ _ => .inl h1)]
    refine h.1 i u ?_
    rw [List.append_assoc, List.getElem?_append_left (by simp; omega), List.getElem?_take, if_pos h1] at hu
    exact hu
  · by_cases h2 : i < o + ds.length
    · have := World.rangeAt_setCells_same w b o ds (h.there o ds.length hl) (i - o) u (by
        rw [List.append_assoc, List.getElem?_append_right (by simp; omega), List.getElem?_append_left (by simp; omega)] at hu
        rw [List.length_take, Nat.min_eq_left (by omega)] at hu
        exact hu)
      rwa [show o + (i - o) = i by omega] at this
    · rw [World.cell?_setCells_out b ds o w ⟨b, i, none⟩ (fun _ _ => .inr (by simp; omega))]
      refine h.1 i u ?_
      rw [List.getElem?_append_right (by simp; omega), List.getElem?_drop] at hu
      rw [← hu]
      congr 1
      simp
      omega

/-- A parameter laid in memory: what its variable holds, and no more, is handed on. -/
theorem wpList_box_new {P : Program} {ops : Array Oper} {rest : List Oper} {op : Oper} {a : Act} {w : World} {Q : Exit → Act → World → Prop} (hgd : op.guard = none) (ty : TypeId) (x : Operand) (ho : op.op = .box ty x) (cs : List Value) (hx : a.eval x = .agg cs.toArray)
    (h : ∀ (w' : World) (b : Nat), CBox b cs w' → Keeps w w' → b < w'.heap.size → w.heap.size ≤ b → wpList P ops Q rest (a.put op.dst (.pointer (some ⟨b, 0, none⟩))) w') : wpList P ops Q (op :: rest) a w := by
  refine wpList_plain hgd fun K hK => ?_
  have hn := h (w.alloc (.cells cs.toArray ty)) w.heap.size (CBox.new w cs ty) ((Keeps.refl _).alloc _) (by simp) (Nat.le_refl _)
  have e1 : (execOp a.eval op).run P w = .ok (.value (.pointer (some ⟨w.heap.size, 0, none⟩))) (w.alloc (.cells cs.toArray ty)) := by
    generalize a.eval = f at hx
    simp [execOp, ho, hx, go_sem]
  unfold Oper.wp
  rw [e1]
  exact hK _ _ hn

/-- A variable that is made: the same. -/
theorem wpList_alloc_new {P : Program} {ops : Array Oper} {rest : List Oper} {op : Oper} {a : Act} {w : World} {Q : Exit → Act → World → Prop} (hgd : op.guard = none) (ty : TypeId) (ho : op.op = .alloc ty) (z : Value) (cs : List Value) (hz : (P.info? ty).map (·.zero) = some (some z)) (hc : z.cells = cs.toArray)
    (h : ∀ (w' : World) (b : Nat), CBox b cs w' → Keeps w w' → b < w'.heap.size → w.heap.size ≤ b → wpList P ops Q rest (a.put op.dst (.pointer (some ⟨b, 0, none⟩))) w') : wpList P ops Q (op :: rest) a w := by
  refine wpList_plain hgd fun K hK => ?_
  have hn := h (w.alloc (.cells cs.toArray ty)) w.heap.size (CBox.new w cs ty) ((Keeps.refl _).alloc _) (by simp) (Nat.le_refl _)
  obtain ⟨i, hi, hzi⟩ : ∃ i, P.info? ty = some i ∧ i.zero = some z := by
    cases q : P.info? ty with
    | none => rw [q] at hz; cases hz
    | some i => rw [q] at hz; exact ⟨i, rfl, by simpa using hz⟩
  have e1 : (execOp a.eval op).run P w = .ok (.value (.pointer (some ⟨w.heap.size, 0, none⟩))) (w.alloc (.cells cs.toArray ty)) := by
    generalize a.eval = f
    rw [← hc]
    simp [execOp, ho, hi, hzi, go_sem, typeInfo, zeroValue]
  unfold Oper.wp
  rw [e1]
  exact hK _ _ hn

/-- A part of a variable is read. -/
theorem wpList_load_box {P : Program} {ops : Array Oper} {rest : List Oper} {op : Oper} {a : Act} {w : World} {Q : Exit → Act → World → Prop} (hgd : op.guard = none) (ty : TypeId) (x : Operand) (ho : op.op = .load ty x) (b o : Nat) (hx : a.eval x = .pointer (some ⟨b, o, none⟩)) {cs : List Value} (hB : CBox b cs w) (n : Nat) (ds : List Value) (hds : (cs.drop o).take n = ds) (d : TypeDesc)
    (hu : P.underlying ty = some d) (hd : d.isRow = true) (hi : (P.info? ty).map (·.size) = some ds.length) (h : wpList P ops Q rest (a.put op.dst (.agg ds.toArray)) w) : wpList P ops Q (op :: rest) a w :=
  wpList_load_mid hgd ty x ho b o hx ds d (range_of hB o n hds) hu hd hi h
/-- A part of a variable is written. -/
theorem wpList_store_box {P : Program} {ops : Array Oper} {rest : List Oper} {op : Oper} {a : Act} {w : World} {Q : Exit → Act → World → Prop} (hgd : op.guard = none) (ty : TypeId) (x y : Operand) (ho : op.op = .store ty x y) (b o : Nat) (ds : List Value) (hx : a.eval x = .pointer (some ⟨b, o, none⟩)) (hy : a.eval y = .agg ds.toArray) {cs : List Value} (hB : CBox b cs w) (es : List Value) (hes : cs.take o ++ ds ++ cs.drop (o + ds.length) = es)
    (hl : o + ds.length ≤ cs.length) (hi : (P.info? ty).map (·.size) = some ds.length) (h1 : ds.toArray.all (·.oneCell') = true) (h : ∀ w', CBox b es w' → But b w w' → wpList P ops Q rest (a.put op.dst undef) w') : wpList P ops Q (op :: rest) a w := by
  subst hes
  refine wpList_store_mid hgd ty x y ho b o ds.toArray hx hy (by simpa using hB.there o ds.length hl) (by simpa using hi) h1 ?_
  exact h _ (hB.putAt ds hl) (But.setCells _ _ (But.refl _ _))
/-- A result that lies in memory. -/
theorem read_box {P : Program} {w : World} {b : Nat} {cs : List Value} (hB : CBox b cs w) (ty : TypeId) (d : TypeDesc) (hu : P.underlying ty = some d) (hd : d.isRow = true) (hi : (P.info? ty).map (·.size) = some cs.length) : (loadVar ty ⟨b, 0, none⟩).run P w = .ok (.agg cs.toArray) w :=
  run_loadVar_mid w b 0 ty cs d (range_of hB 0 cs.length (by simp)) hu hd hi

theorem info_size {P : Program} {t : TypeId} {n : Nat} (h : (P.info? t).map (·.size) = some n) {l : List Value} (hl : l.length = n) : (P.info? t).map (·.size) = some l.length := by rw [hl]; exact h
/-- Results of which the first lies in memory. -/
theorem results1 {P : Program} {fn : Func} {tmps : Array Value} {w : World} {i : Nat} {t : TypeId} (hf : fn.results = #[.cell i t]) {p : Addr} (h0 : tmps.getD i undef = .pointer (some p)) {v : Value} (hl : (loadVar t p).run P w = .ok v w) : (results fn tmps).run P w = .ok v w := by
  simp only [results, hf]
  simp [asAddr, ← Array.getD_eq_getD_getElem?, h0, hl]
theorem results2 {P : Program} {fn : Func} {tmps : Array Value} {w : World} {i j : Nat} {t : TypeId} (hf : fn.results = #[.cell i t, .tmp j]) {p : Addr} (h0 : tmps.getD i undef = .pointer (some p)) {u : Value} (h1 : tmps.getD j undef = u) {v : Value} (hl : (loadVar t p).run P w = .ok v w) : (results fn tmps).run P w = .ok (.tuple #[v, u]) w := by
  simp only [results, hf]
  simp [asAddr, ← Array.getD_eq_getD_getElem?, h0, h1, hl]
/-- A goal that is not looked into. -/
structure Wrp (p : Prop) : Prop where
  out : p
/-- An operation that is wanted comes up next. -/
theorem AllReadyH.wrp {P : Program} {ops : Array Oper} {Q : Exit → Act → World → Prop} {md : Region.Mode} {S : World → Prop} {fuel : Nat} {listed : Array Bool} {a : Act} {w : World} {i : Nat} {o : Oper} {rs : List Nat} (ho : ops[i]? = some o) (hw : Region.wanted o (yielded ops a.tmps) = true)
    (h : ∀ K' : Act → World → Prop, Shut (∀ a w, S w → (S w → wpAnyH P md ops Q S fuel (listed.setIfInBounds i true) a w) → K' a w) → Wrp (Oper.wp P o a w K' Q)) (hs : AllReadyH P md ops Q S fuel listed a w rs) : AllReadyH P md ops Q S fuel listed a w (i :: rs) :=
  AllReadyH.cons ho (fun K' hK => by rw [if_pos hw]; exact (h K' hK).out) hs
/-- A call. -/
theorem h_call {P : Program} {o : Oper} {a : Act} {w : World} {K : Act → World → Prop} {Q : Exit → Act → World → Prop} (h : o.wp P a w K Q) : Wrp (Oper.wp P o a w K Q) := ⟨h⟩
theorem wp_alloc_new {P : Program} {op : Oper} {a : Act} {w : World} {K : Act → World → Prop} {Q : Exit → Act → World → Prop} (ty : TypeId) (ho : op.op = .alloc ty) (z : Value) (cs : List Value) (hz : (P.info? ty).map (·.zero) = some (some z)) (hc : z.cells = cs.toArray)
    (h : ∀ (w' : World) (b : Nat), CBox b cs w' → Keeps w w' → b < w'.heap.size → w.heap.size ≤ b → K (a.put op.dst (.pointer (some ⟨b, 0, none⟩))) w') : op.wp P a w K Q := by
  have hn := h (w.alloc (.cells cs.toArray ty)) w.heap.size (CBox.new w cs ty) ((Keeps.refl _).alloc _) (by simp) (Nat.le_refl _)
  obtain ⟨i, hi, hzi⟩ : ∃ i, P.info? ty = some i ∧ i.zero = some z := by
    cases q : P.info? ty with
    | none => rw [q] at hz; cases hz
    | some i => rw [q] at hz; exact ⟨i, rfl, by simpa using hz⟩
  have e1 : (execOp a.eval op).run P w = .ok (.value (.pointer (some ⟨w.heap.size, 0, none⟩))) (w.alloc (.cells cs.toArray ty)) := by
    generalize a.eval = f
    rw [← hc]
    simp [execOp, ho, hi, hzi, go_sem, typeInfo, zeroValue]
  unfold Oper.wp
  rw [e1]
  exact hn
theorem wp_store_box {P : Program} {op : Oper} {a : Act} {w : World} {K : Act → World → Prop} {Q : Exit → Act → World → Prop} (ty : TypeId) (x y : Operand) (ho : op.op = .store ty x y) (b o : Nat) (ds : List Value) (hx : a.eval x = .pointer (some ⟨b, o, none⟩)) (hy : a.eval y = .agg ds.toArray) {cs : List Value} (hB : CBox b cs w) (es : List Value) (hes : cs.take o ++ ds ++ cs.drop (o + ds.length) = es)
    (hl : o + ds.length ≤ cs.length) (hi : (P.info? ty).map (·.size) = some ds.length) (h1 : ds.toArray.all (·.oneCell') = true) (h : ∀ w', CBox b es w' → But b w w' → K (a.put op.dst undef) w') : op.wp P a w K Q := by
  subst hes
  refine wp_store_mid ty x y ho b o ds.toArray hx hy (by simpa using hB.there o ds.length hl) (by simpa using hi) h1 ?_
  exact h _ (hB.putAt ds hl) (But.setCells _ _ (But.refl _ _))
theorem GrowStepI.wrp {P : Program} {l : List Oper} {Q : Exit → Act → World → Prop} {a0 : Act} {I : World → Prop} {J : Pr} {ds : List (Option Tmp)} {R : List Pr} {xs : List Wr} {i : Nat} {o : Oper} (ho : l[i]? = some o) (hg : o.guard = none)
    (h : ∀ (vs : Nat → Value) (W : World), I W → ((xs.all fun x => x.num == i || reachB l.toArray l.toArray.size x.num i) = true → J.p undef W) → (∀ j, mayB l.toArray xs i j = true → (prAt R j).p (vs j) W) → ∀ K : Act → World → Prop, Shut (∀ a' v W', a' = (fillL ds vs 0 a0).put (ds.getD i none) v → FrI xs I i W W' → (prAt R i).p v W' → K a' W') → Wrp (o.wp P (fillL ds vs 0 a0) W K Q)) : GrowStepI P l Q a0 I J ds R xs i := ⟨by
  intro vs W hI hJ hR K hK
  rw [ho]
  have hw : Region.wanted o (yielded l.toArray (fillL ds vs 0 a0).tmps) = true := by simp [Region.wanted, hg]
  simp only [hw, if_true]
  exact (h vs W hI hJ hR K hK).out⟩
theorem h_run {P : Program} {o : Oper} {a : Act} {w w' : World} {K : Act → World → Prop} {Q : Exit → Act → World → Prop} {v : Value} (hr : (execOp a.eval o).run P w = .ok (.value v) w') (hK : K (a.put o.dst v) w') : Wrp (o.wp P a w K Q) := ⟨by
  unfold Oper.wp
  rw [hr]
  exact hK⟩
theorem h_field {P : Program} {o : Oper} {a : Act} {w : World} {K : Act → World → Prop} {Q : Exit → Act → World → Prop} {t : TypeId} {x : Operand} {f : Nat} (ho : o.op = .fieldAddr t x f) {p q : Value} (hx : a.eval x = p) (hr : (Instr.fieldAt t p f).run P w = .ok q w) (hK : K (a.put o.dst q) w) : Wrp (o.wp P a w K Q) :=
  h_run (by simp only [execOp, ho, hx, Sem.run_bind, hr, Result.andThen_ok, Sem.run_pure]) hK
theorem h_load {P : Program} {o : Oper} {a : Act} {w : World} {K : Act → World → Prop} {Q : Exit → Act → World → Prop} {t : TypeId} {x : Operand} (ho : o.op = .load t x) {p q : Value} (hx : a.eval x = p) (hr : (Instr.loadAt t p).run P w = .ok q w) (hK : K (a.put o.dst q) w) : Wrp (o.wp P a w K Q) :=
  h_run (by simp only [execOp, ho, hx, Sem.run_bind, hr, Result.andThen_ok, Sem.run_pure]) hK
theorem h_move {P : Program} {o : Oper} {a : Act} {w : World} {K : Act → World → Prop} {Q : Exit → Act → World → Prop} {x : Operand} (ho : o.op = .move x) {v : Value} (hx : a.eval x = v) (hK : K (a.put o.dst v) w) : Wrp (o.wp P a w K Q) := h_run (by simp [execOp, ho, hx]) hK
theorem h_assign {P : Program} {o : Oper} {a : Act} {w : World} {K : Act → World → Prop} {Q : Exit → Act → World → Prop} {x : Operand} (ho : o.op = .assign x) {v : Value} (hx : a.eval x = v) (hK : K (a.put o.dst v) w) : Wrp (o.wp P a w K Q) := h_run (by simp [execOp, ho, hx]) hK
theorem But.far {b c : Nat} {x y z : World} (h : But b x y) (hc : x.heap.size ≤ c) (k : But c y z) : But b x z :=
  ⟨k.os.trans h.os, k.tape.trans h.tape, k.output.trans h.output, Nat.le_trans h.size k.size, fun i hi hb => (k.block i (Nat.lt_of_lt_of_le hi h.size) (by omega)).trans (h.block i hi hb)⟩
theorem CBox.one {b : Nat} {cs : List Value} {w : World} (h : CBox b cs w) (i : Nat) (v : Value) : CBox b (cs.set i v) (w.setCell ⟨b, i, none⟩ v) := by
  refine ⟨fun j u hu => ?_, fun j => (World.frozen?_setCell _ _ _ _).trans (h.2 j)⟩
  by_cases hij : i = j
  · subst hij
    rw [List.getElem?_set] at hu
    simp only [if_true] at hu
    split at hu
    · rename_i hl
      have hc := h.1 i _ (List.getElem?_eq_getElem hl)
      rw [World.cell?_setCell_same _ _ _ hc]
      exact hu
    · cases hu
  · rw [List.getElem?_set_ne hij] at hu
    rw [World.cell?_setCell_other _ _ _ _ (by intro e; injection e with _ e _; exact hij e)]
    exact h.1 j u hu
section
variable {ops : Array Oper} {rest : List Oper} {op : Oper} {a : Act} {w : World} {Q : Exit → Act → World → Prop}
theorem store_one (hgd : op.guard = none) {x y : Operand} (ho : op.op = .store 3 x y) (b i : Nat) (hx : a.eval x = .pointer (some ⟨b, i, none⟩)) {n : Int} (hy : a.eval y = .int .i64 n) {cs : List Value} (es : List Value) (hB : CBox b cs w) (hi : i < cs.length) (hes : cs.set i (.int .i64 n) = es)
    (h : ∀ w', CBox b es w' → But b w w' → wpList Try.prog ops Q rest (a.put op.dst undef) w') : wpList Try.prog ops Q (op :: rest) a w := by
  subst hes
  refine wpList_plain hgd fun K hK => ?_
  have hc := hB.1 i _ (List.getElem?_eq_getElem hi)
  have hz := hB.2 i
  have hn := h _ (hB.one i (.int .i64 n)) ((But.refl _ _).set i _)
  have e0 : (Instr.storeAt 3 (.pointer (some ⟨b, i, none⟩)) (.int .i64 n)).run Try.prog w = .ok () (w.setCell ⟨b, i, none⟩ (.int .i64 n)) := by simp [go_sem, hc, hz]
  have e1 : (execOp a.eval op).run Try.prog w = .ok .skip (w.setCell ⟨b, i, none⟩ (.int .i64 n)) := by
    simp only [execOp, ho, hx, hy, Sem.run_bind, e0, Result.andThen_ok, Sem.run_pure]
  unfold Oper.wp
  rw [e1]
  exact hK _ _ hn
end
theorem grow_keep {w1 w2 w3 : World} {o : Obj} {v v' : Value} {B : List UInt8} (hk : Keeps w1 w2) (hv : BOwn w1.heap.size w2 v B) (hg : GrowsTo (w2.alloc o) w3 v v') : Keeps w1 w3 := by
  have h1 : Keeps w1 (w2.alloc o) := hk.alloc o
  have h2 : Below w1.heap.size (w2.alloc o) w3 := hg.below (hv.keep ((Keeps.refl _).alloc _)) h1.size
  exact Below.trans h1 h2
theorem BOwn.cells {base : Nat} {w : World} {v : Value} {B : List UInt8} (h : BOwn base w v B) (h0 : 0 < B.length) : ∃ g c, v = .slice (some ⟨g, 0, none⟩) B.length c ∧ ∀ j (hj : j < B.length), w.cell? ((⟨g, 0, none⟩ : Addr).add j) = some (.int .u8 (B[j].toNat : Int)) := by
  rcases h.2 with ⟨_, h1⟩ | ⟨g, cap, cur, rfl, hb, hg, hn, hc, hs, ht⟩
  · omega
  · refine ⟨g, cap, rfl, fun j hj => ?_⟩
    refine World.news_of_block hg j _ ?_
    have h2 : (cur.toList.take (B.length * 1))[j]? = some (.int .u8 (i8 B[j])) := by rw [ht]; exact byCells_at hj
    rw [List.getElem?_take_of_lt (by omega)] at h2
    exact h2
theorem BOwn.conv {base : Nat} {w : World} {v : Value} {B : List UInt8} (h : BOwn base w v B) (h0 : 0 < B.length) : ∃ g c, v = .slice (some ⟨g, 0, none⟩) B.length c ∧ (convert 55 9 (.slice (some ⟨g, 0, none⟩) B.length c)).run Try.prog w = .ok (.string (bt B)) w := by
  obtain ⟨g, c, h1, h2⟩ := h.cells h0
  exact ⟨g, c, h1, run_convert_bytes_back w 55 9 5 ⟨g, 0, none⟩ c B Try.underlying55 Try.underlying5 Try.underlying9 h2⟩
def RBox (b : Nat) (l : List UInt8) (w : World) : Prop := w.cell? ⟨b, 0, none⟩ = some (.string (bt l)) ∧ w.frozen? ⟨b, 0, none⟩ = false
theorem RBox.lt {b : Nat} {l : List UInt8} {w : World} (h : RBox b l w) : b < w.heap.size := World.block_lt_of_cell? _ _ h.1
theorem RBox.same {b : Nat} {l : List UInt8} {w w' : World} (h : RBox b l w) (he : w'.heap[b]? = w.heap[b]?) : RBox b l w' := ⟨(World.cell?_of_block he).trans h.1, (World.frozen?_of_block he).trans h.2⟩
theorem RBox.keep {b : Nat} {l : List UInt8} {w w' : World} (h : RBox b l w) (hk : Keeps w w') : RBox b l w' := h.same (hk.block b h.lt)
theorem RBox.other {b c : Nat} {l : List UInt8} {w w' : World} (h : RBox b l w) (hk : But c w w') (hb : b ≠ c) : RBox b l w' := h.same (hk.block b h.lt hb)
theorem RBox.set {b : Nat} {l r : List UInt8} {w : World} (h : RBox b l w) : RBox b r (w.setCell ⟨b, 0, none⟩ (.string (bt r))) := ⟨World.cell?_setCell_same _ _ _ h.1, (World.frozen?_setCell _ _ _ _).trans h.2⟩
theorem bt_size (l : List UInt8) : (bt l).size = l.length := by simp [bt, ByteArray.size]
theorem bt_list (l : List UInt8) : (bt l).toList = l := by rw [ByteArray.toList_eq]; simp [bt]
theorem bt_drop (l : List UInt8) (n : Nat) : (bt l).extract n l.length = bt (l.drop n) := by
  unfold bt
  rw [ByteArray.extract_mk]
  congr 1
  apply Array.ext'
  simp
  rw [List.take_of_length_le (by simp)]
theorem bt_head (x : UInt8) (r : List UInt8) (h : 0 < (bt (x :: r)).size) : (bt (x :: r))[0].toNat = x.toNat := rfl

set_option maxHeartbeats 1000000 in
theorem reader_some (b : Nat) (x : UInt8) (r : List UInt8) (w : World) (hB : RBox b (x :: r) w) : Calls Try.prog 79 #[.pointer (some ⟨b, 0, none⟩)] w fun y w' => y = .returned (.int .i64 (i8 x)) ∧ RBox b r w' ∧ But b w w' := by
  have HB : Hid (RBox b (x :: r) w) := hB
  obtain ⟨hc, hf⟩ := hB
  have hs := bt_size (x :: r)
  have hie : (bt (x :: r)).toList.isEmpty = false := by rw [bt_list]; rfl
  have HX : Hid ((bt (x :: r)).extract 1 (r.length + 1) = bt r) := bt_drop (x :: r) 1
  have h0 := i8_lo x
  have h1 := i8_hi x
  go_enter Try.func79, Try.ntmps79
  go_wp2_with fail
  go_ret
  rw [HX.out]
  refine ⟨?_, HB.out.set, (But.refl _ _).set _ _⟩
  rw [bt_head]
  have : wrap64 (x.toNat : Int) = i8 x := by unfold i8 at *; unfold wrap64; omega
  rw [this]
  rfl
set_option maxHeartbeats 1000000 in
theorem reader_none (b : Nat) (w : World) (hB : RBox b [] w) : Calls Try.prog 79 #[.pointer (some ⟨b, 0, none⟩)] w fun y w' => (∃ u pv, y = .panicked [{ v := .iface u pv, recovered := false }]) ∧ RBox b [] w' ∧ But b w w' := by
  have HB : Hid (RBox b [] w) := hB
  obtain ⟨hc, hf⟩ := hB
  have hie : (bt []).toList.isEmpty = true := by rw [bt_list]; rfl
  go_enter Try.func79, Try.ntmps79
  go_wp2_with fail
  exact ⟨rfl, ⟨_, _, rfl⟩, HB.out, But.refl _ _⟩
set_option maxHeartbeats 1000000 in
theorem readerW_some (b : Nat) (x z : UInt8) (r : List UInt8) (w : World) (hB : RBox b (x :: z :: r) w) : Calls Try.prog 80 #[.pointer (some ⟨b, 0, none⟩)] w fun y w' => y = .returned (.int .i64 (i8 x * 256 + i8 z)) ∧ RBox b r w' ∧ But b w w' := by
  have HB : Hid (RBox b (x :: z :: r) w) := hB
  clear hB
  have h0 := i8_lo x
  have h1 := i8_hi x
  have h2 := i8_lo z
  have h3 := i8_hi z
  go_enter Try.func80, Try.ntmps80
  go_wp2_with fail
  refine (reader_some b x (z :: r) w HB.out).mono ?_
  rintro y w1 ⟨rfl, hB1, hb1⟩
  have HB1 : Hid (RBox b (z :: r) w1) := hB1
  have HK1 : Hid (But b w w1) := hb1
  clear hB1 hb1 HB
  go_wp2_with fail
  refine (reader_some b z r w1 HB1.out).mono ?_
  rintro y w2 ⟨rfl, hB2, hb2⟩
  have HB2 : Hid (RBox b r w2) := hB2
  have HK2 : Hid (But b w w2) := HK1.out.trans hb2
  clear hB2 hb2 HB1
  go_wp2_with fail
  go_ret
  first
    | exact ⟨rfl, HB2.out, HK2.out⟩
    | exact ⟨by simp, HB2.out, HK2.out⟩
set_option maxHeartbeats 1000000 in
theorem readerW_none (b : Nat) (w : World) : ∀ (l : List UInt8), l.length < 2 → RBox b l w → Calls Try.prog 80 #[.pointer (some ⟨b, 0, none⟩)] w fun y w' => (∃ u pv, y = .panicked [{ v := .iface u pv, recovered := false }]) ∧ But b w w'
  | [], _, hB => by
    have HB : Hid (RBox b [] w) := hB
    clear hB
    go_enter Try.func80, Try.ntmps80
    go_wp2_with fail
    refine (reader_none b w HB.out).mono ?_
    rintro y w1 ⟨⟨u, pv, rfl⟩, hB1, hb1⟩
    exact ⟨rfl, ⟨_, _, rfl⟩, hb1⟩
  | [x], _, hB => by
    have HB : Hid (RBox b [x] w) := hB
    clear hB
    have h0 := i8_lo x
    have h1 := i8_hi x
    go_enter Try.func80, Try.ntmps80
    go_wp2_with fail
    refine (reader_some b x [] w HB.out).mono ?_
    rintro y w1 ⟨rfl, hB1, hb1⟩
    have HB1 : Hid (RBox b [] w1) := hB1
    have HK1 : Hid (But b w w1) := hb1
    clear hB1 hb1 HB
    go_wp2_with fail
    refine (reader_none b w1 HB1.out).mono ?_
    rintro y w2 ⟨⟨u, pv, rfl⟩, hB2, hb2⟩
    exact ⟨rfl, ⟨_, _, rfl⟩, HK1.out.trans hb2⟩
  | _ :: _ :: _, h, _ => absurd h (by simp)
theorem resultsC {P : Program} {fn : Func} {tmps : Array Value} {w : World} {i j k : Nat} {t t' : TypeId} (hf : fn.results = #[.cell i t, .tmp j, .cell k t']) {p q : Addr} (h0 : tmps.getD i undef = .pointer (some p)) {u : Value} (h1 : tmps.getD j undef = u) (h2 : tmps.getD k undef = .pointer (some q)) {v v' : Value} (hl : (loadVar t p).run P w = .ok v w) (hl' : (loadVar t' q).run P w = .ok v' w) : (results fn tmps).run P w = .ok (.tuple #[v, u, v']) w := by
  simp only [results, hf]
  simp [asAddr, ← Array.getD_eq_getD_getElem?, h0, h1, h2, hl, hl']
theorem read4 {w : World} {b : Nat} {v : Value} (hB : CBox b [v] w) : (loadVar 4 ⟨b, 0, none⟩).run Try.prog w = .ok v w := by
  have ha : (isAgg 4).run Try.prog w = .ok false w := by kernel_rfl
  have hc := hB.1 0 v rfl
  simp [loadVar, ha, go_sem, hc]

theorem load_cell {P : Program} {w : World} {b i : Nat} {t : TypeId} {v : Value} (hc : w.cell? ⟨b, i, none⟩ = some v) (ha : (isAgg t).run P w = .ok false w) : (Instr.loadAt t (.pointer (some ⟨b, i, none⟩))).run P w = .ok v w := by
  simp [Instr.loadAt, Instr.sureAddr, loadVar, ha, go_sem, hc]
theorem h_store4 {o : Oper} {a : Act} {w : World} {K : Act → World → Prop} {Q : Exit → Act → World → Prop} {x y : Operand} (ho : o.op = .store 4 x y) (b : Nat) (hx : a.eval x = .pointer (some ⟨b, 0, none⟩)) {v : Value} (u : Bool) (hy : a.eval y = .bool u) (hB : CBox b [v] w)
    (h : ∀ w', CBox b [.bool u] w' → But b w w' → K (a.put o.dst undef) w') : Wrp (Oper.wp Try.prog o a w K Q) := ⟨by
  have hc := hB.1 0 v rfl
  have hz := hB.2 0
  have e0 : (Instr.storeAt 4 (.pointer (some ⟨b, 0, none⟩)) (.bool u)).run Try.prog w = .ok () (w.setCell ⟨b, 0, none⟩ (.bool u)) := by simp [go_sem, hc, hz]
  have e1 : (execOp a.eval o).run Try.prog w = .ok .skip (w.setCell ⟨b, 0, none⟩ (.bool u)) := by
    simp only [execOp, ho, hx, hy, Sem.run_bind, e0, Result.andThen_ok, Sem.run_pure]
  unfold Oper.wp
  rw [e1]
  exact h _ (hB.one 0 (.bool u)) ((But.refl _ _).set 0 _)⟩

theorem h_lenS {o : Oper} {a : Act} {w : World} {K : Act → World → Prop} {Q : Exit → Act → World → Prop} {x : Operand} (ho : o.op = .call { callee := .builtin .len, args := #[x], argTypes := #[9] }) {s : ByteArray} (hx : a.eval x = .string s) (hK : K (a.put o.dst (.int .i64 (s.size : Int))) w) : Wrp (o.wp Try.prog a w K Q) :=
  h_run (w' := w) (v := .int .i64 (s.size : Int)) (by generalize a.eval = f at hx; simp [execOp, ho, hx, go_sem, resolve, invoke, builtin]) hK
theorem h_sub {o : Oper} {a : Act} {w : World} {K : Act → World → Prop} {Q : Exit → Act → World → Prop} {x y : Operand} (ho : o.op = .binOp .sub 3 x y 3) {p q n : Int} (hx : a.eval x = .int .i64 p) (hy : a.eval y = .int .i64 q) (hn : IntKind.i64.wrap (p - q) = n) (hK : K (a.put o.dst (.int .i64 n)) w) : Wrp (o.wp Try.prog a w K Q) :=
  h_run (w' := w) (v := .int .i64 n) (by generalize a.eval = f at hx hy; subst hn; simp [execOp, ho, hx, hy, go_sem]) hK

theorem BOwn.far {base : Nat} {w w' : World} {g n c : Nat} {N : List UInt8} (h : BOwn base w (.slice (some ⟨g, 0, none⟩) n c) N) (he : w'.heap[g]? = w.heap[g]?) : BOwn base w' (.slice (some ⟨g, 0, none⟩) n c) N := by
  rcases h.2 with ⟨h0, _⟩ | ⟨g', cap, cur, hv, hb, hg, h1⟩
  · cases h0
  · cases hv
    exact ⟨h.1, .inr ⟨g, _, cur, rfl, hb, by rw [he]; exact hg, h1⟩⟩
theorem bt_append (a b : List UInt8) : bt a ++ bt b = bt (a ++ b) := by
  unfold bt
  rw [ByteArray.mk_append_mk]
end Go.Proofs.Yteabfjpajgakiad

/- States as bytes (plain). -/
set_option linter.unusedSimpArgs false
set_option linter.unusedVariables false
set_option maxRecDepth 10000
namespace Go.Proofs.Yteabfjpajgakiad
open Go.RowKit

def repBs : List (Int × Int) → List UInt8
  | [] => []
  | (q, v) :: r => [b8 q] ++ wide (v + 1) ++ repBs r
def sesBs (s : Ses) : List UInt8 := [b8 s.client, b8 s.acked] ++ wide s.seen ++ [b8 (s.kept.length : Int)] ++ repBs s.kept
def tabBs : List Ses → List UInt8
  | [] => []
  | s :: r => sesBs s ++ tabBs r
def headBs (s : St) : List UInt8 := [b8 s.at_] ++ wide s.clock ++ wide s.v0 ++ wide s.v1 ++ wide s.v2 ++ wide s.v3 ++ [b8 (s.tab.length : Int)]
def stBs (s : St) : List UInt8 := headBs s ++ tabBs s.tab
def rdReps : Nat → List UInt8 → Option (List (Int × Int) × List UInt8)
  | 0, l => some ([], l)
  | n + 1, q :: h :: o :: r => (rdReps n r).map fun p => ((i8 q, i8 h * 256 + i8 o - 1) :: p.1, p.2)
  | _ + 1, _ => none
def rdSes : List UInt8 → Option (Ses × List UInt8)
  | c :: a :: h :: o :: n :: r => (rdReps n.toNat r).map fun p => (⟨i8 c, i8 a, i8 h * 256 + i8 o, p.1⟩, p.2)
  | _ => none
def rdTab : Nat → List UInt8 → Option (List Ses × List UInt8)
  | 0, l => some ([], l)
  | n + 1, l => match rdSes l with
    | some (s, r) => (rdTab n r).map fun p => (s :: p.1, p.2)
    | none => none
def rdSt : List UInt8 → Option (St × List UInt8)
  | a :: c1 :: c0 :: p1 :: p0 :: q1 :: q0 :: r1 :: r0 :: s1 :: s0 :: n :: r => (rdTab n.toNat r).map fun p => (⟨i8 a, i8 c1 * 256 + i8 c0, i8 p1 * 256 + i8 p0, i8 q1 * 256 + i8 q0, i8 r1 * 256 + i8 r0, i8 s1 * 256 + i8 s0, p.1⟩, p.2)
  | _ => none
theorem b8_nat (n : UInt8) : b8 (n.toNat : Int) = n := b8_i8 n
theorem rdReps_bytes : ∀ (n : Nat) (l : List UInt8) (x : List (Int × Int)) (r : List UInt8), rdReps n l = some (x, r) → x.length = n ∧ l = repBs x ++ r
  | 0, l, x, r, h => by
    simp only [rdReps, Option.some.injEq, Prod.mk.injEq] at h
    obtain ⟨rfl, rfl⟩ := h
    exact ⟨rfl, rfl⟩
  | n + 1, q :: h' :: o :: t, x, r, h => by
    simp only [rdReps, Option.map_eq_some_iff] at h
    obtain ⟨⟨x', r'⟩, h1, h2⟩ := h
    simp only [Prod.mk.injEq] at h2
    obtain ⟨rfl, rfl⟩ := h2
    obtain ⟨h3, h4⟩ := rdReps_bytes n t x' r' h1
    refine ⟨by rw [List.length_cons, h3], ?_⟩
    show q :: h' :: o :: t = ([b8 (i8 q)] ++ wide (i8 h' * 256 + i8 o - 1 + 1) ++ repBs x') ++ r'
    have e : i8 h' * 256 + i8 o - 1 + 1 = i8 h' * 256 + i8 o := by omega
    rw [e, wide_two, b8_i8, h4]
    rfl
  | n + 1, [], _, _, h => by cases h
  | n + 1, [_], _, _, h => by cases h
  | n + 1, [_, _], _, _, h => by cases h
theorem rdSes_bytes {l : List UInt8} {s : Ses} {r : List UInt8} (h : rdSes l = some (s, r)) : l = sesBs s ++ r := by
  match l, h with
  | c :: a :: h' :: o :: n :: t, h =>
    simp only [rdSes, Option.map_eq_some_iff] at h
    obtain ⟨⟨x', r'⟩, h1, h2⟩ := h
    simp only [Prod.mk.injEq] at h2
    obtain ⟨rfl, rfl⟩ := h2
    obtain ⟨h3, h4⟩ := rdReps_bytes _ _ _ _ h1
    show c :: a :: h' :: o :: n :: t = ([b8 (i8 c), b8 (i8 a)] ++ wide (i8 h' * 256 + i8 o) ++ [b8 (x'.length : Int)] ++ repBs x') ++ r'
    rw [wide_two, b8_i8, b8_i8, h3, b8_nat, h4]
    rfl
theorem rdTab_bytes : ∀ (n : Nat) (l : List UInt8) (x : List Ses) (r : List UInt8), rdTab n l = some (x, r) → x.length = n ∧ l = tabBs x ++ r
  | 0, l, x, r, h => by
    simp only [rdTab, Option.some.injEq, Prod.mk.injEq] at h
    obtain ⟨rfl, rfl⟩ := h
    exact ⟨rfl, rfl⟩
  | n + 1, l, x, r, h => by
    simp only [rdTab] at h
    split at h
    · rename_i s t hs
      simp only [Option.map_eq_some_iff] at h
      obtain ⟨⟨x', r'⟩, h1, h2⟩ := h
      simp only [Prod.mk.injEq] at h2
      obtain ⟨rfl, rfl⟩ := h2
      obtain ⟨h3, h4⟩ := rdTab_bytes n _ _ _ h1
      refine ⟨by rw [List.length_cons, h3], ?_⟩
      rw [rdSes_bytes hs, h4]
      show sesBs s ++ (tabBs x' ++ r') = (sesBs s ++ tabBs x') ++ r'
      rw [List.append_assoc]
    · cases h
theorem rdSt_bytes {l : List UInt8} {s : St} {r : List UInt8} (h : rdSt l = some (s, r)) : l = stBs s ++ r := by
  match l, h with
  | a :: c1 :: c0 :: p1 :: p0 :: q1 :: q0 :: r1 :: r0 :: s1 :: s0 :: n :: t, h =>
    simp only [rdSt, Option.map_eq_some_iff] at h
    obtain ⟨⟨x', r'⟩, h1, h2⟩ := h
    simp only [Prod.mk.injEq] at h2
    obtain ⟨rfl, rfl⟩ := h2
    obtain ⟨h3, h4⟩ := rdTab_bytes _ _ _ _ h1
    show _ = (([b8 (i8 a)] ++ wide (i8 c1 * 256 + i8 c0) ++ wide (i8 p1 * 256 + i8 p0) ++ wide (i8 q1 * 256 + i8 q0) ++ wide (i8 r1 * 256 + i8 r0) ++ wide (i8 s1 * 256 + i8 s0) ++ [b8 (x'.length : Int)]) ++ tabBs x') ++ r'
    simp only [wide_two, b8_i8, h3, b8_nat]
    rw [List.append_assoc, ← h4]
    rfl
/-- What there is to be read of it. -/
def repFit (k : List (Int × Int)) : Prop := ∀ p ∈ k, (0 ≤ p.1 ∧ p.1 < 256) ∧ 0 ≤ p.2 + 1 ∧ p.2 + 1 < 65536
def sesFit (s : Ses) : Prop := (0 ≤ s.client ∧ s.client < 256) ∧ (0 ≤ s.acked ∧ s.acked < 256) ∧ (0 ≤ s.seen ∧ s.seen < 65536) ∧ s.kept.length < 256 ∧ repFit s.kept
def stFit (s : St) : Prop := (0 ≤ s.at_ ∧ s.at_ < 256) ∧ (0 ≤ s.clock ∧ s.clock < 65536) ∧ (0 ≤ s.v0 ∧ s.v0 < 65536) ∧ (0 ≤ s.v1 ∧ s.v1 < 65536) ∧ (0 ≤ s.v2 ∧ s.v2 < 65536) ∧ (0 ≤ s.v3 ∧ s.v3 < 65536) ∧ s.tab.length < 256 ∧ ∀ o ∈ s.tab, sesFit o
theorem nat_b8 {n : Nat} (h : n < 256) : (b8 (n : Int)).toNat = n := by
  have := i8_b8 (n := (n : Int)) (by omega) (by omega)
  unfold i8 at this
  omega
theorem rdReps_of : ∀ (k : List (Int × Int)) (r : List UInt8), repFit k → rdReps k.length (repBs k ++ r) = some (k, r)
  | [], r, _ => rfl
  | (q, v) :: k, r, h => by
    obtain ⟨h1, h2, h3⟩ := h (q, v) (by simp)
    have ih := rdReps_of k r (fun p hp => h p (by simp [hp]))
    show (rdReps k.length (repBs k ++ r)).map (fun p => ((i8 (b8 q), i8 (b8 ((v + 1) / 256)) * 256 + i8 (b8 (v + 1)) - 1) :: p.1, p.2)) = _
    rw [ih, i8_b8 h1.1 h1.2, two_wide h2 h3]
    have e : v + 1 - 1 = v := by omega
    show some ((q, v + 1 - 1) :: k, r) = _
    rw [e]
theorem rdSes_of (s : Ses) (r : List UInt8) (h : sesFit s) : rdSes (sesBs s ++ r) = some (s, r) := by
  obtain ⟨h1, h2, h3, h4, h5⟩ := h
  show (rdReps (b8 (s.kept.length : Int)).toNat (repBs s.kept ++ r)).map (fun p => ((⟨i8 (b8 s.client), i8 (b8 s.acked), i8 (b8 (s.seen / 256)) * 256 + i8 (b8 s.seen), p.1⟩ : Ses), p.2)) = _
  rw [nat_b8 h4, rdReps_of _ _ h5, i8_b8 h1.1 h1.2, i8_b8 h2.1 h2.2, two_wide h3.1 h3.2]
  rfl
theorem rdTab_of : ∀ (L : List Ses) (r : List UInt8), (∀ o ∈ L, sesFit o) → rdTab L.length (tabBs L ++ r) = some (L, r)
  | [], r, _ => rfl
  | s :: L, r, h => by
    have ih := rdTab_of L r (fun o ho => h o (by simp [ho]))
    have e : tabBs (s :: L) ++ r = sesBs s ++ (tabBs L ++ r) := by show (sesBs s ++ tabBs L) ++ r = _; rw [List.append_assoc]
    rw [e]
    simp only [List.length_cons, rdTab, rdSes_of s _ (h s (by simp)), ih]
    rfl
theorem rdSt_of (s : St) (r : List UInt8) (h : stFit s) : rdSt (stBs s ++ r) = some (s, r) := by
  obtain ⟨h1, h2, h3, h4, h5, h6, h7, h8⟩ := h
  have e : stBs s ++ r = headBs s ++ (tabBs s.tab ++ r) := by unfold stBs; rw [List.append_assoc]
  rw [e]
  show (rdTab (b8 (s.tab.length : Int)).toNat (tabBs s.tab ++ r)).map (fun p => ((⟨i8 (b8 s.at_), i8 (b8 (s.clock / 256)) * 256 + i8 (b8 s.clock), i8 (b8 (s.v0 / 256)) * 256 + i8 (b8 s.v0), i8 (b8 (s.v1 / 256)) * 256 + i8 (b8 s.v1), i8 (b8 (s.v2 / 256)) * 256 + i8 (b8 s.v2), i8 (b8 (s.v3 / 256)) * 256 + i8 (b8 s.v3), p.1⟩ : St), p.2)) = _
  rw [nat_b8 h7, rdTab_of _ _ h8, i8_b8 h1.1 h1.2, two_wide h2.1 h2.2, two_wide h3.1 h3.2, two_wide h4.1 h4.2, two_wide h5.1 h5.2, two_wide h6.1 h6.2]
  rfl
theorem kept_fit : ∀ (k : List (Int × Int)) (hi lo : Int), 0 ≤ lo → hi ≤ 60 → keptOk hi lo k = true → repFit k ∧ (k.length : Int) ≤ hi - lo + 1 ∨ k = []
  | [], _, _, _, _, _ => .inr rfl
  | (q, v) :: r, hi, lo, h0, h1, h => by
    left
    simp only [keptOk, Bool.and_eq_true] at h
    obtain ⟨⟨a, b⟩, c⟩ := h
    have a := inB_iff.1 a
    have b := inB_iff.1 b
    have ih := kept_fit r hi (q + 1) (by omega) h1 c
    have hr : repFit r := by
      rcases ih with ih | ih
      · exact ih.1
      · rw [ih]; intro p hp; cases hp
    have hl : (r.length : Int) ≤ hi - q := by
      rcases ih with ih | ih
      · have := ih.2; omega
      · rw [ih]; simp; omega
    refine ⟨fun p hp => ?_, by rw [List.length_cons]; push_cast; omega⟩
    rcases List.mem_cons.1 hp with rfl | hp
    · exact ⟨⟨by omega, by omega⟩, by omega, by omega⟩
    · exact hr p hp
theorem ses_fit {s : Ses} (h : sesErr s = 0) : sesFit s ∧ s.kept.length ≤ 3 := by
  unfold sesErr at h
  split at h
  · cases h
  · rename_i h1
    split at h
    · cases h
    · rename_i h2
      simp only [Bool.not_eq_true', Bool.not_eq_false', Bool.not_eq_true, Bool.not_eq_false, Bool.and_eq_true] at h1 h2
      obtain ⟨⟨a, b⟩, c⟩ := h1
      have a := inB_iff.1 a
      have b := inB_iff.1 b
      have c := inB_iff.1 c
      rcases kept_fit s.kept _ _ (by omega) (by omega) h2 with ⟨k1, k2⟩ | k
      · have : s.kept.length ≤ 3 := by omega
        exact ⟨⟨⟨by omega, by omega⟩, ⟨by omega, by omega⟩, ⟨by omega, by omega⟩, by omega, k1⟩, this⟩
      · rw [k]
        exact ⟨⟨⟨by omega, by omega⟩, ⟨by omega, by omega⟩, ⟨by omega, by omega⟩, by rw [k]; decide, by rw [k]; intro p hp; cases hp⟩, by decide⟩
theorem first_fit : ∀ (L : List Ses), firstErr L = 0 → ∀ o ∈ L, sesFit o ∧ o.kept.length ≤ 3
  | [], _, _, ho => by cases ho
  | s :: r, h, o, ho => by
    simp only [firstErr] at h
    split at h
    · rename_i h1
      rcases List.mem_cons.1 ho with rfl | ho
      · exact ses_fit (by simpa using h1)
      · exact first_fit r h o ho
    · rename_i h1
      simp [h] at h1
theorem st_fit {s : St} (h : stErr s = 0) : stFit s ∧ s.tab.length ≤ 3 ∧ ∀ o ∈ s.tab, o.kept.length ≤ 3 := by
  unfold stErr at h
  split at h
  · rename_i hi
    split at h
    · rename_i ht
      have ht : tabErr s.tab = 0 := by simpa using ht
      unfold tabErr at ht
      split at ht
      · cases ht
      · rename_i h3
        have hf : firstErr s.tab = 0 := by
          split at ht
          · rename_i hq; simpa using hq
          · exact ht
        have hfit := first_fit s.tab hf
        simp only [stIn, valsIn, Bool.and_eq_true] at hi
        obtain ⟨⟨a, b, c, d⟩, e, f⟩ := hi
        have a := inB_iff.1 a
        have b := inB_iff.1 b
        have c := inB_iff.1 c
        have d := inB_iff.1 d
        have e := inB_iff.1 e
        have f := inB_iff.1 f
        refine ⟨⟨⟨by omega, by omega⟩, ⟨by omega, by omega⟩, ⟨by omega, by omega⟩, ⟨by omega, by omega⟩, ⟨by omega, by omega⟩, ⟨by omega, by omega⟩, by omega, fun o ho => (hfit o ho).1⟩, by omega, fun o ho => (hfit o ho).2⟩
    · rename_i ht
      rw [h] at ht
      simp at ht
  · cases h
theorem repBs_len : ∀ (k : List (Int × Int)), (repBs k).length = 3 * k.length
  | [] => rfl
  | (q, v) :: r => by
    show ([b8 q] ++ wide (v + 1) ++ repBs r).length = 3 * (r.length + 1)
    rw [List.length_append, repBs_len r]
    simp [wide]
    omega
theorem sesBs_len (s : Ses) : (sesBs s).length = 5 + 3 * s.kept.length := by
  unfold sesBs
  rw [List.length_append, repBs_len]
  simp [wide]
theorem tabBs_len : ∀ (L : List Ses), (∀ o ∈ L, o.kept.length ≤ 3) → (tabBs L).length ≤ 14 * L.length
  | [], _ => Nat.le_refl _
  | s :: r, h => by
    show (sesBs s ++ tabBs r).length ≤ 14 * (r.length + 1)
    rw [List.length_append, sesBs_len]
    have := h s (by simp)
    have := tabBs_len r (fun o ho => h o (by simp [ho]))
    omega
theorem stBs_len {s : St} (h : stErr s = 0) : (stBs s).length ≤ 54 := by
  obtain ⟨_, h1, h2⟩ := st_fit h
  have := tabBs_len s.tab h2
  unfold stBs
  rw [List.length_append]
  have : (headBs s).length = 12 := by simp [headBs, wide]
  omega
/-- The right state of which these are the bytes. -/
def snOf (l : List UInt8) : Option St :=
  match rdSt l with
  | some (s, []) => if stErr s == 0 then some s else none
  | _ => none
theorem snOf_of {s : St} (h : stErr s = 0) : snOf (stBs s) = some s := by
  unfold snOf
  have := rdSt_of s [] (st_fit h).1
  rw [List.append_nil] at this
  rw [this]
  simp [h]
end Go.Proofs.Yteabfjpajgakiad

/- snap.readReply, list of replies. -/
set_option linter.unusedSimpArgs false
set_option linter.unusedVariables false
set_option maxRecDepth 10000
namespace Go.Proofs.Yteabfjpajgakiad
open Go.RowKit

def PanE (y : Ending) : Prop := ∃ u pv, y = .panicked [{ v := .iface u pv, recovered := false }]
theorem zero61 : (Try.prog.info? 66).map (·.zero) = some (some (.agg [Value.int .i64 0, .int .i64 0].toArray)) := by kernel_rfl
theorem size61 : (Try.prog.info? 66).map (·.size) = some 2 := by kernel_rfl
theorem row61 : ∃ d, Try.prog.underlying 66 = some d ∧ d.isRow = true := ⟨_, Try.underlying66, rfl⟩
theorem infoRp : (Try.prog.info? 66).map (fun i => (i.zero, i.size, i.bytes)) = some (some (.agg #[.int .i64 0, .int .i64 0]), 2, 16) := by kernel_rfl
section
variable {ops : Array Oper} {rest : List Oper} {op : Oper} {a : Act} {w : World} {Q : Exit → Act → World → Prop}
theorem alloc61 (hgd : op.guard = none) (ho : op.op = .alloc 66)
    (h : ∀ (w' : World) (b : Nat), CBox b [.int .i64 0, .int .i64 0] w' → Keeps w w' → b < w'.heap.size → w.heap.size ≤ b → wpList Try.prog ops Q rest (a.put op.dst (.pointer (some ⟨b, 0, none⟩))) w') : wpList Try.prog ops Q (op :: rest) a w := wpList_alloc_new hgd _ ho _ _ zero61 rfl h
theorem store61 (hgd : op.guard = none) {x y : Operand} (ho : op.op = .store 66 x y) (b : Nat) (hx : a.eval x = .pointer (some ⟨b, 0, none⟩)) {u v : Value} (p q : Int) (hy : a.eval y = .agg #[.int .i64 p, .int .i64 q]) (hB : CBox b [u, v] w)
    (h : ∀ w', CBox b [.int .i64 p, .int .i64 q] w' → But b w w' → wpList Try.prog ops Q rest (a.put op.dst undef) w') : wpList Try.prog ops Q (op :: rest) a w :=
  wpList_store_box hgd _ x y ho b 0 [.int .i64 p, .int .i64 q] hx hy hB _ rfl (Nat.le_of_ble_eq_true rfl) (info_size size61 rfl) (by kernel_rfl) h
end
theorem read61 {w : World} {b : Nat} {p q : Int} (hB : CBox b [.int .i64 p, .int .i64 q] w) : (loadVar 66 ⟨b, 0, none⟩).run Try.prog w = .ok (.agg #[.int .i64 p, .int .i64 q]) w := by
  obtain ⟨d, h1, h2⟩ := row61
  exact read_box hB _ d h1 h2 (info_size size61 rfl)

set_option maxHeartbeats 2000000 in
theorem rep_some (b : Nat) (q h o : UInt8) (r : List UInt8) (w : World) (hB : RBox b (q :: h :: o :: r) w) : Calls Try.prog 95 #[.pointer (some ⟨b, 0, none⟩)] w fun y w' => y = .returned (.agg #[.int .i64 (i8 q), .int .i64 (i8 h * 256 + i8 o - 1)]) ∧ RBox b r w' ∧ But b w w' := by
  have HB : Hid (RBox b (q :: h :: o :: r) w) := hB
  clear hB
  have h0 := i8_lo h
  have h1 := i8_hi h
  have o0 := i8_lo o
  have o1 := i8_hi o
  go_enter Try.func95, Try.ntmps95
  go_wp2_with (first | (refine alloc61 rfl rfl ?_; intro w0 ob hBo hko hlo hgo))
  have HR0 : Hid (RBox b (q :: h :: o :: r) w0) := HB.out.keep hko
  have HO0 : Hid (CBox ob [.int .i64 0, .int .i64 0] w0) := hBo
  have HT0 : Hid (But b w w0) := But.of hko
  have HOG : Hid (w.heap.size ≤ ob) := hgo
  have HOB : Hid (ob ≠ b) := fun e => by have := HB.out.lt; omega
  clear hBo hko hlo hgo HB
  refine (reader_some b q (h :: o :: r) w0 HR0.out).mono ?_
  rintro y w1 ⟨rfl, hR, hb⟩
  have HR1 : Hid (RBox b (h :: o :: r) w1) := hR
  have HO1 : Hid (CBox ob [.int .i64 0, .int .i64 0] w1) := HO0.out.other hb HOB.out
  have HT1 : Hid (But b w w1) := HT0.out.trans hb
  clear hR hb HR0 HO0 HT0
  go_wp2_with fail
  refine (readerW_some b h o r w1 HR1.out).mono ?_
  rintro y w2 ⟨rfl, hR, hb⟩
  have HR2 : Hid (RBox b r w2) := hR
  have HO2 : Hid (CBox ob [.int .i64 0, .int .i64 0] w2) := HO1.out.other hb HOB.out
  have HT2 : Hid (But b w w2) := HT1.out.trans hb
  clear hR hb HR1 HO1 HT1
  go_wp2_with (first | (refine store61 rfl rfl ob rfl (i8 q) (i8 h * 256 + i8 o - 1) rfl HO2.out ?_; intro w3 hS hT))
  refine bodyPost_ret (results1 Try.results95 rfl (read61 hS)) rfl ?_
  exact ⟨rfl, HR2.out.other hT (fun e => HOB.out e.symm), But.far HT2.out HOG.out hT⟩
set_option maxHeartbeats 2000000 in
theorem rep_none (b : Nat) (w : World) : ∀ (l : List UInt8), l.length < 3 → RBox b l w → Calls Try.prog 95 #[.pointer (some ⟨b, 0, none⟩)] w fun y w' => PanE y ∧ But b w w'
  | [], _, hB => by
    have HB : Hid (RBox b [] w) := hB
    clear hB
    go_enter Try.func95, Try.ntmps95
    go_wp2_with (first | (refine alloc61 rfl rfl ?_; intro w0 ob hBo hko hlo hgo))
    refine (reader_none b w0 (HB.out.keep hko)).mono ?_
    rintro y w1 ⟨⟨u, pv, rfl⟩, _, hb⟩
    exact ⟨rfl, ⟨_, _, rfl⟩, (But.of hko).trans hb⟩
  | q :: t, hl, hB => by
    have HB : Hid (RBox b (q :: t) w) := hB
    have hl2 : t.length < 2 := by rw [List.length_cons] at hl; omega
    clear hB hl
    go_enter Try.func95, Try.ntmps95
    go_wp2_with (first | (refine alloc61 rfl rfl ?_; intro w0 ob hBo hko hlo hgo))
    have HT0 : Hid (But b w w0) := But.of hko
    refine (reader_some b q t w0 (HB.out.keep hko)).mono ?_
    rintro y w1 ⟨rfl, hR, hb⟩
    have HR1 : Hid (RBox b t w1) := hR
    have HT1 : Hid (But b w w1) := HT0.out.trans hb
    clear hR hb HT0 hBo hko hlo hgo HB
    go_wp2_with fail
    refine (readerW_none b w1 t hl2 HR1.out).mono ?_
    rintro y w2 ⟨⟨u, pv, rfl⟩, hb⟩
    exact ⟨rfl, ⟨_, _, rfl⟩, HT1.out.trans hb⟩
def ROwn (base : Nat) (w : World) (v : Value) (x : List (Int × Int)) : Prop := w.ownsRow base 66 2 v x.length (repCells x)
theorem ROwn.nil {base : Nat} {w : World} : ROwn base w (.slice none 0 0) [] := ⟨rfl, .inl ⟨rfl, rfl⟩⟩
theorem ROwn.own {base : Nat} {w : World} {v : Value} {x : List (Int × Int)} (h : ROwn base w v x) {k : Nat} (hk : v.ownBlock = some k) : base ≤ k := by
  rcases h.2 with ⟨rfl, _⟩ | ⟨g, cap, cur, rfl, hb, hg, _⟩
  · cases hk
  · have e : g = k := by simpa [Value.ownBlock] using hk
    subst e
    exact hb
theorem repCells_app : ∀ (a b : List (Int × Int)), repCells (a ++ b) = repCells a ++ repCells b
  | [], _ => rfl
  | (q, v) :: r, b => by
    show _ :: _ :: repCells (r ++ b) = _ :: _ :: (repCells r ++ repCells b)
    rw [repCells_app r b]
theorem app_rep {ops : Array Oper} {rest : List Oper} {o : Oper} {a : Act} {Q : Exit → Act → World → Prop} {base : Nat} {w : World} (hk : base ≤ w.heap.size) (hg : o.guard = none) (s x : Operand) (hop : o.op = .call { callee := .builtin .append, args := #[s, x], argTypes := #[57, 57] })
    (v : Value) (N : List (Int × Int)) (hs : a.eval s = v) (hown : ROwn base w v N) (p q : Int) (b : Nat) (hx : a.eval x = .slice (some ⟨b, 0, none⟩) 1 1) (h0 : w.cell? ⟨b, 0, none⟩ = some (.int .i64 p)) (h1 : w.cell? ⟨b, 1, none⟩ = some (.int .i64 q)) (hlen : N.length ≤ 1000)
    (h : ∀ v' w', ROwn base w' v' (N ++ [(p, q)]) → w.grownBy w' v.ownBlock → wpList Try.prog ops Q rest (a.put o.dst v') w') : wpList Try.prog ops Q (o :: rest) a w := by
  have hX : RowAt w 2 (.slice (some ⟨b, 0, none⟩) 1 1) 1 (repCells [(p, q)]) := by
    refine ⟨rfl, by unfold maxLen; simp, .inr ⟨_, _, rfl, fun j u hu => ?_⟩⟩
    match j, hu with
    | 0, hu => cases hu; exact h0
    | 1, hu => cases hu; exact h1
  obtain ⟨v', w', hr, h2, h3⟩ := run_append_read w base 57 o.type 66 2 16 _ infoRp Try.underlying57 rfl (by decide) v N.length (repCells N) hown _ 1 (repCells [(p, q)]) hX (by simp [repCells, Value.oneCell']) (by unfold maxLen; omega) (by omega) hk
  refine wpList_append_run hg s x 57 hop hs hx hr (h v' w' ?_ h3)
  unfold ROwn
  rw [List.length_append, repCells_app]
  exact h2
end Go.Proofs.Yteabfjpajgakiad

/- snap's list of replies, readSession. -/
set_option linter.unusedSimpArgs false
set_option linter.unusedVariables false
set_option maxRecDepth 10000
namespace Go.Proofs.Yteabfjpajgakiad
open Go.RowKit

def rdList (l : List UInt8) : Option (List (Int × Int) × List UInt8) :=
  match l with
  | [] => none
  | n :: t => rdReps n.toNat t
def RepsOut (base b : Nat) (R : Option (List (Int × Int) × List UInt8)) (y : Ending) (w' : World) : Prop :=
  match R with
  | some (x, r) => ∃ a c, ROwn base w' (.slice a x.length c) x ∧ y = .returned (.slice a x.length c) ∧ RBox b r w'
  | none => PanE y
theorem rdReps_zero (l : List UInt8) : rdReps 0 l = some ([], l) := by cases l <;> rfl
theorem rdReps_short {n : Nat} : ∀ {l : List UInt8}, l.length < 3 → rdReps (n + 1) l = none
  | [], _ => rfl
  | [_], _ => rfl
  | [_, _], _ => rfl
  | _ :: _ :: _ :: _, h => absurd h (by simp)
/-- A block and what is new. -/
structure Writes (b base : Nat) (w w' : World) : Prop where
  os : w'.os = w.os
  tape : w'.tape = w.tape
  output : w'.output = w.output
  size : w.heap.size ≤ w'.heap.size
  block : ∀ k, k < base → k ≠ b → w'.heap[k]? = w.heap[k]?
theorem Writes.refl (b base : Nat) (w : World) : Writes b base w w := ⟨rfl, rfl, rfl, Nat.le_refl _, fun _ _ _ => rfl⟩
theorem Writes.trans {b base : Nat} {x y z : World} (h : Writes b base x y) (k : Writes b base y z) : Writes b base x z :=
  ⟨k.os.trans h.os, k.tape.trans h.tape, k.output.trans h.output, Nat.le_trans h.size k.size, fun i hi hb => (k.block i hi hb).trans (h.block i hi hb)⟩
theorem Writes.of {b base : Nat} {x y : World} (h : But b x y) (hb : base ≤ x.heap.size) : Writes b base x y := ⟨h.os, h.tape, h.output, h.size, fun k hk hne => h.block k (Nat.lt_of_lt_of_le hk hb) hne⟩
theorem Writes.grown {b base : Nat} {x y : World} {v : Value} (h : x.grownBy y v.ownBlock) (hb : base ≤ x.heap.size) (hv : ∀ k, v.ownBlock = some k → base ≤ k) : Writes b base x y :=
  ⟨h.os, h.tape, h.output, h.size, fun k hk _ => h.block k (Nat.lt_of_lt_of_le hk hb) (fun e => by have := hv k e.symm; omega)⟩
theorem Writes.but {b : Nat} {x y : World} (h : Writes b x.heap.size x y) : But b x y := ⟨h.os, h.tape, h.output, h.size, h.block⟩
theorem RBox.grown {b base : Nat} {l : List UInt8} {w w' : World} {v : Value} (h : RBox b l w) (hg : w.grownBy w' v.ownBlock) (hb : b < base) (hv : ∀ k, v.ownBlock = some k → base ≤ k) : RBox b l w' := h.same (hg.block b h.lt (fun e => by have := hv b e.symm; omega))
theorem ROwn.but {b base : Nat} {w w' : World} {v : Value} {x : List (Int × Int)} (h : ROwn base w v x) (hb : b < base) (hk : But b w w') : ROwn base w' v x := owns_far h hb hk

set_option maxHeartbeats 4000000 in
theorem list_reps (b : Nat) (l : List UInt8) (w : World) (hB : RBox b l w) : Calls Try.prog 94 #[.pointer (some ⟨b, 0, none⟩), .func (.func 95) #[] #[]] w fun y w' => RepsOut w.heap.size b (rdList l) y w' ∧ But b w w' := by
  have HB : Hid (RBox b l w) := hB
  have hbl := hB.lt
  clear hB
  match l, HB with
  | [], HB =>
    go_enter Try.func94, Try.ntmps94
    go_wp2_with fail
    refine (reader_none b w HB.out).mono ?_
    rintro y w1 ⟨⟨u, pv, rfl⟩, _, hb⟩
    exact ⟨rfl, ⟨_, _, rfl⟩, hb⟩
  | c :: t, HB =>
    have HR : Hid (rdList (c :: t) = rdReps c.toNat t) := rfl
    have c0 := i8_lo c
    have c1 := i8_hi c
    have HC : Hid (i8 c = (c.toNat : Int)) := rfl
    generalize rdList (c :: t) = R at *
    go_enter Try.func94, Try.ntmps94
    go_wp2_with fail
    refine (reader_some b c t w HB.out).mono ?_
    rintro y w1 ⟨rfl, hR1, hb⟩
    rw [HC.out]
    have hn256 : c.toNat < 256 := UInt8.toNat_lt c
    clear c0 c1 HC
    generalize c.toNat = n at *
    have HR1 : Hid (RBox b t w1) := hR1
    have HT1 : Hid (Writes b w.heap.size w w1) := Writes.of hb (Nat.le_refl _)
    clear hR1 hb HB
    go_wp2_with fail
    go_loopw [5, 8] (fun o i wr => ∃ (k : Nat) (xs : List (Int × Int)) (t' : List UInt8) (oa : Option Addr) (oc : Nat), k ≤ n ∧ o = .slice oa xs.length oc ∧ Hid (xs.length = k) ∧ i = .int .i64 k ∧ Hid (ROwn w.heap.size wr o xs) ∧ Hid (RBox b t' wr) ∧ Hid (R = (rdReps (n - k) t').map fun p => (xs ++ p.1, p.2)) ∧ Hid (Writes b w.heap.size w wr)) (fun _ i _ => n - (intOf i).toNat)
    case atStart => exact ⟨0, [], t, none, 0, Nat.zero_le _, rfl, rfl, rfl, ROwn.nil, HR1, by show _ = _; rw [HR.out]; simp, HT1⟩
    case round =>
      obtain ⟨k, xs, t', oa, oc, hk, rfl, HXL, rfl, HO, HRB, HEQ, HT⟩ := hrel
      by_cases hlt : k < n
      · have HN : Hid (n - k = (n - (k + 1)) + 1) := by show _ = _; omega
        by_cases h3 : t'.length < 3
        · have hnone : R = none := by rw [HEQ.out, HN.out, rdReps_short h3]; rfl
          go_wp2_with fail
          refine (rep_none b wr t' h3 HRB.out).mono ?_
          rintro y w2 ⟨⟨u, pv, rfl⟩, hb⟩
          subst hnone
          exact ⟨rfl, ⟨_, _, rfl⟩, (HT.out.trans (Writes.of hb HT.out.size)).but⟩
        · match t', h3, HRB, HEQ with
          | [], h3, _, _ => exact absurd (by simp) h3
          | [_], h3, _, _ => exact absurd (by simp) h3
          | [_, _], h3, _, _ => exact absurd (by simp) h3
          | q :: h :: o :: r, _, HRB, HEQ =>
            have HEQ2 : Hid (R = (rdReps (n - (k + 1)) r).map fun p => ((xs ++ [(i8 q, i8 h * 256 + i8 o - 1)]) ++ p.1, p.2)) := by
              show _ = _
              rw [HEQ.out, HN.out]
              simp only [rdReps, Option.map_map]
              congr 1
              funext p
              simp
            go_wp2_with fail
            refine (rep_some b q h o r wr HRB.out).mono ?_
            rintro y w2 ⟨rfl, hR2, hb⟩
            have HR2 : Hid (RBox b r w2) := hR2
            have HT2 : Hid (Writes b w.heap.size w w2) := HT.out.trans (Writes.of hb HT.out.size)
            have HO2 : Hid (ROwn w.heap.size w2 (.slice oa xs.length oc) xs) := HO.out.but hbl hb
            clear hR2 hb HT HO HRB HEQ
            generalize i8 q = q' at *
            generalize i8 h * 256 + i8 o - 1 = z' at *
            go_wp2_with (first | (refine app_rep (base := w.heap.size) (Nat.le_trans HT2.out.size (by simp)) rfl _ _ rfl (.slice oa xs.length oc) xs rfl (owns_keep HO2.out ((Keeps.refl _).alloc _)) q' z' w2.heap.size rfl (by simp) (by simp) (by have := HXL.out; omega) ?_; intro v3 w3 hO3 hg3))
            obtain ⟨oa3, oc3, hv3, _⟩ := RowAt.len (RowAt.of_owns hO3)
            have HR3 : Hid (RBox b r w3) := (HR2.out.keep ((Keeps.refl _).alloc _)).grown hg3 hbl (fun k e => HO2.out.own e)
            have HT3 : Hid (Writes b w.heap.size w w3) := (HT2.out.trans (Writes.of (But.of ((Keeps.refl _).alloc _)) HT2.out.size)).trans (Writes.grown hg3 (Nat.le_trans HT2.out.size (by simp)) (fun k e => HO2.out.own e))
            go_roundw
            case rel => exact ⟨k + 1, xs ++ [(q', z')], r, oa3, oc3, by omega, hv3, by show _ = _; rw [List.length_append, HXL.out]; rfl, by go_num, hO3, HR3, HEQ2, HT3⟩
            case measure => simp [intOf]; omega
      · have hsome : R = some (xs, t') := by
          have : n - k = 0 := by omega
          rw [HEQ.out, this, rdReps_zero]
          simp
        subst hsome
        go_wp2_with fail
        go_ret
        exact ⟨⟨oa, oc, HO.out, rfl, HRB.out⟩, HT.out.but⟩
end Go.Proofs.Yteabfjpajgakiad
