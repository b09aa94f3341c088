/- PaH, OpenSz, PkB, Grow, PkA. -/
import Derived.SizedLaws
import Derived.ArgAppend
import Derived.Deep.RegionHeld3
import Derived.Deep.DeepCutAuto
import Derived.Test.YteabfjpajgakiaeJ00
import Derived.Test.YteabfjpajgakiaeJ02
import Derived.Test.YteabfjpajgakiaeJ11
import Derived.Test.YteabfjpajgakiaeJ12
import Derived.Test.YteabfjpajgakiaeJ13
import Derived.Test.YteabfjpajgakiaeJ14
import Derived.Test.YteabfjpajgakiaeJ15
import Derived.Test.YteabfjpajgakiaeJ18
/- PackPuts, PackTrue: the walks. -/
set_option linter.unusedSimpArgs false
set_option linter.unusedVariables false
set_option maxRecDepth 10000
namespace Go.Proofs.Yteabfjpajgakiae
open Go.RowKit

set_option maxHeartbeats 4000000 in
theorem pack_puts (l : Lg) (e : Ent) (x : Value) (ta : Option Addr) (tc : Nat) (w : World) (hT : TabAt w x l.base.tab) (hL : EntsAt w (.slice ta l.tail.length tc) l.tail) (hcap : l.tail.length ≤ tc) :
    Calls Try.prog 3 #[lgV l x (.slice ta l.tail.length tc), entV e] w fun y w' => y = .returned (.bool true) ∧ Keeps w w' := by
  obtain ⟨xa, xc, rfl, _⟩ := hT.len
  have HT : Hid (TabAt w (.slice xa l.base.tab.length xc) l.base.tab) := hT
  have HL : Hid (EntsAt w (.slice ta l.tail.length tc) l.tail) := hL
  clear hT hL
  go_enter Try.func3, Try.ntmps3
  go_wp2_with fail
  obtain ⟨W1, hW1⟩ : ∃ W1, W1 = (w.alloc (.cells #[.int .i64 l.base.at_, .int .i64 l.base.clock, .int .i64 l.base.v0, .int .i64 l.base.v1, .int .i64 l.base.v2, .int .i64 l.base.v3, .slice xa l.base.tab.length xc, .slice ta l.tail.length tc] 28)).alloc (.cells #[.int .i64 e.kind, .int .i64 e.time, .int .i64 e.client, .int .i64 e.seq, .int .i64 e.ack, .int .i64 e.ok, .int .i64 e.okey, .int .i64 e.oto, .int .i64 e.on] 32) := ⟨_, rfl⟩
  have k1 : Keeps w W1 := by rw [hW1]; exact ((Keeps.refl _).alloc _).alloc _
  have B1 : LgBox w.heap.size l (.slice xa l.base.tab.length xc) (.slice ta l.tail.length tc) W1 := by rw [hW1]; exact (LgBox.new w l _ _ rfl rfl 28).keep ((Keeps.refl _).alloc _)
  have E1 : EntBox (w.heap.size + 1) e W1 := by
    rw [hW1]
    have := EntBox.new (w.alloc (.cells #[.int .i64 l.base.at_, .int .i64 l.base.clock, .int .i64 l.base.v0, .int .i64 l.base.v1, .int .i64 l.base.v2, .int .i64 l.base.v3, .slice xa l.base.tab.length xc, .slice ta l.tail.length tc] 28)) e 32
    simp only [World.size_alloc] at this
    exact this
  rw [← hW1]
  clear hW1
  refine (pack_put l e _ ta tc W1 (HT.out.keep k1) (HL.out.keep k1) hcap).mono ?_
  rintro y w1 ⟨ma, mc, na, nc, hO, hE, _, rfl, hb⟩
  have HK1 : Hid (Keeps w w1) := k1.trans hb
  have HB1 := (show Hid _ from B1.keep hb)
  have HE1 := (show Hid _ from E1.keep hb)
  have HO1 : Hid (TabAt w1 (.slice ma (putLg l e).base.tab.length mc) (putLg l e).base.tab) := hO.tab
  have HT1 : Hid (EntsAt w1 (.slice na (putLg l e).tail.length nc) (putLg l e).tail) := RowAt.of_owns hE
  have HC2 : Hid (∀ W, Keeps w1 W → Calls Try.prog 7 #[lgV l (.slice xa l.base.tab.length xc) (.slice ta l.tail.length tc), entV e] W fun y w' => ∃ qa qc ea ec, TabAt w' (.slice qa (putLg l e).base.tab.length qc) (putLg l e).base.tab ∧ EntsAt w' (.slice ea (putLg l e).tail.length ec) (putLg l e).tail ∧ y = .returned (.tuple #[lgV (putLg l e) (.slice qa (putLg l e).base.tab.length qc) (.slice ea (putLg l e).tail.length ec), .int .i64 (putAns l e), .int .i64 (putLgErr l e)]) ∧ Keeps W w') := by
    intro W hk
    refine (pack_put_of l e _ ta tc W (HT.out.keep (HK1.out.trans hk)) (HL.out.keep (HK1.out.trans hk))).mono ?_
    rintro y w' ⟨qa, qc, ea, ec, h1, h2, rfl, hb⟩
    exact ⟨qa, qc, ea, ec, h1.tab, h2, rfl, hb⟩
  clear k1 B1 E1 hO hE hb
  clear W1
  generalize putLgErr l e = er at *
  generalize putAns l e = an at *
  generalize putLg l e = M at *
  have b0 := HB1.out.c0
  have b1 := HB1.out.c1
  have b2 := HB1.out.c2
  have b3 := HB1.out.c3
  have b4 := HB1.out.c4
  have b5 := HB1.out.c5
  have b6 := HB1.out.c6
  have b7 := HB1.out.c7
  have bl := HB1.out.lt
  have e0 := HE1.out.c0
  have e1 := HE1.out.c1
  have e2 := HE1.out.c2
  have e3 := HE1.out.c3
  have e4 := HE1.out.c4
  have e5 := HE1.out.c5
  have e6 := HE1.out.c6
  have e7 := HE1.out.c7
  have e8 := HE1.out.c8
  have el := HE1.out.lt
  go_wp2_with fail
  have B2 : LgBox w1.heap.size M (.slice ma M.base.tab.length mc) (.slice na M.tail.length nc) (w1.alloc (.cells #[.int .i64 M.base.at_, .int .i64 M.base.clock, .int .i64 M.base.v0, .int .i64 M.base.v1, .int .i64 M.base.v2, .int .i64 M.base.v3, .slice ma M.base.tab.length mc, .slice na M.tail.length nc] 28)) := LgBox.new w1 M _ _ rfl rfl 28
  have k12 : Keeps w1 (w1.alloc (.cells #[.int .i64 M.base.at_, .int .i64 M.base.clock, .int .i64 M.base.v0, .int .i64 M.base.v1, .int .i64 M.base.v2, .int .i64 M.base.v3, .slice ma M.base.tab.length mc, .slice na M.tail.length nc] 28)) := (Keeps.refl _).alloc _
  generalize (w1.alloc (.cells #[.int .i64 M.base.at_, .int .i64 M.base.clock, .int .i64 M.base.v0, .int .i64 M.base.v1, .int .i64 M.base.v2, .int .i64 M.base.v3, .slice ma M.base.tab.length mc, .slice na M.tail.length nc] 28)) = w2 at *
  generalize w1.heap.size = mb at *
  refine (HC2.out w2 k12).mono ?_
  rintro y w3 ⟨qa, qc, ea, ec, hQ, hR, rfl, hb⟩
  have k13 := k12.trans hb
  have B3 := B2.keep hb
  clear B2 hb k12 b0 b1 b2 b3 b4 b5 b6 b7 bl e0 e1 e2 e3 e4 e5 e6 e7 e8 el
  go_wp2_with fail
  have B4 : LgBox w3.heap.size M (.slice qa M.base.tab.length qc) (.slice ea M.tail.length ec) (w3.alloc (.cells #[.int .i64 M.base.at_, .int .i64 M.base.clock, .int .i64 M.base.v0, .int .i64 M.base.v1, .int .i64 M.base.v2, .int .i64 M.base.v3, .slice qa M.base.tab.length qc, .slice ea M.tail.length ec] 28)) := LgBox.new w3 M _ _ rfl rfl 28
  have k34 : Keeps w3 (w3.alloc (.cells #[.int .i64 M.base.at_, .int .i64 M.base.clock, .int .i64 M.base.v0, .int .i64 M.base.v1, .int .i64 M.base.v2, .int .i64 M.base.v3, .slice qa M.base.tab.length qc, .slice ea M.tail.length ec] 28)) := (Keeps.refl _).alloc _
  generalize (w3.alloc (.cells #[.int .i64 M.base.at_, .int .i64 M.base.clock, .int .i64 M.base.v0, .int .i64 M.base.v1, .int .i64 M.base.v2, .int .i64 M.base.v3, .slice qa M.base.tab.length qc, .slice ea M.tail.length ec] 28)) = w4 at *
  generalize w3.heap.size = qb at *
  refine (pack_begun w4).mono ?_
  rintro y w5 ⟨rfl, hb⟩
  have k35 := k34.trans hb
  have k15 := k13.trans k35
  have M5 := B3.keep k35
  have Q5 := B4.keep hb
  have m0 := M5.c0
  have m1 := M5.c1
  have m2 := M5.c2
  have m3 := M5.c3
  have m4 := M5.c4
  have m5 := M5.c5
  have m6 := M5.c6
  have m7 := M5.c7
  have ml := M5.lt
  have q0 := Q5.c0
  have q1 := Q5.c1
  have q2 := Q5.c2
  have q3 := Q5.c3
  have q4 := Q5.c4
  have q5 := Q5.c5
  have q6 := Q5.c6
  have q7 := Q5.c7
  have ql := Q5.lt
  have HK5 : Hid (Keeps w w5) := HK1.out.trans k15
  have HS : Hid (Calls Try.prog 9 #[lgV M (.slice ma M.base.tab.length mc) (.slice na M.tail.length nc), lgV M (.slice qa M.base.tab.length qc) (.slice ea M.tail.length ec)] w5 fun e w' => e = .returned (.bool true) ∧ Keeps w5 w') := by
    have := same_logs M M (.slice ma M.base.tab.length mc) (.slice na M.tail.length nc) (.slice qa M.base.tab.length qc) (.slice ea M.tail.length ec) w5 (HO1.out.keep k15) (HT1.out.keep k15) (hQ.keep k35) (hR.keep k35)
    rw [sameLg_self] at this
    exact this
  clear hb k35 k15 k34 k13 B3 B4 M5 Q5 hQ hR HC2
  go_wp2_with fail
  refine HS.out.mono ?_
  rintro y w6 ⟨rfl, hb⟩
  have HK6 : Hid (Keeps w w6) := HK5.out.trans hb
  clear hb m0 m1 m2 m3 m4 m5 m6 m7 ml q0 q1 q2 q3 q4 q5 q6 q7 ql
  go_wp2_with fail
  go_ret
  exact ⟨by simp, HK6.out⟩

/-- What is cut, plain. -/
theorem cut_right {l : Lg} (h : lgErr l = 0) {n : Nat} (hn : n ≤ l.tail.length) : cutErr l n = 0 ∧ cutLg l n = ⟨runSt l.base (l.tail.take n), l.tail.drop n⟩ ∧ lgErr (cutLg l n) = 0 ∧ allSt (cutLg l n).base (cutLg l n).tail = allSt l.base l.tail := by
  have e1 : cutErr l n = 0 := by
    unfold cutErr
    rw [h]
    simp only [beq_self_eq_true, if_true]
    rw [if_pos (inB_iff.2 ⟨by omega, by omega⟩)]
  have e2 : cutLg l n = ⟨runSt l.base (l.tail.take n), l.tail.drop n⟩ := by
    unfold cutLg
    rw [e1]
    simp
  have h2 := (split_right h n).2.1
  refine ⟨e1, e2, by rw [e2]; exact h2, ?_⟩
  rw [e2]
  unfold allSt
  have h' : foldErr l.base l.tail = 0 := h
  simp only [h2, h', beq_self_eq_true, if_true]
  rw [← runSt_append, List.take_append_drop]
theorem cut_twice {l : Lg} (h : lgErr l = 0) {n m : Nat} (hn : n ≤ l.tail.length) (hm : m ≤ l.tail.length - n) : cutErr (cutLg l n) m = 0 ∧ cutErr l ((n : Int) + m) = 0 ∧ cutLg (cutLg l n) m = cutLg l ((n : Int) + m) := by
  obtain ⟨a1, a2, a3, _⟩ := cut_right h hn
  have hl : (cutLg l n).tail.length = l.tail.length - n := by rw [a2]; simp
  obtain ⟨b1, b2, _, _⟩ := cut_right a3 (n := m) (by rw [hl]; exact hm)
  have hs : ((n : Int) + m) = ((n + m : Nat) : Int) := by simp
  obtain ⟨c1, c2, _, _⟩ := cut_right h (n := n + m) (by omega)
  rw [hs]
  refine ⟨b1, c1, ?_⟩
  rw [b2, c2, a2]
  simp only [Lg.mk.injEq]
  refine ⟨?_, by rw [List.drop_drop]⟩
  rw [← runSt_append]
  congr 1
  rw [List.take_add]
theorem cut_put {l : Lg} (h : lgErr l = 0) {n : Nat} (hn : n ≤ l.tail.length) (e : Ent) : putLgErr (cutLg l n) e = putLgErr l e ∧ putAns (cutLg l n) e = putAns l e := by
  obtain ⟨a1, a2, a3, _⟩ := cut_right h hn
  have hr := run_right (L := l.tail.take n) (fold_right h).1 (fun x hx => (fold_right h).2.1 x (List.mem_of_mem_take hx)) (by have := (fold_right h).2.2; simp; omega)
  have hat : (cutLg l n).base.at_ + (cutLg l n).tail.length = l.base.at_ + l.tail.length := by
    rw [a2]
    show (runSt l.base (l.tail.take n)).at_ + ((l.tail.drop n).length : Int) = _
    rw [hr.2]
    simp
    omega
  have e1 : putLgErr (cutLg l n) e = putLgErr l e := by
    unfold putLgErr
    rw [a3, h, hat]
  refine ⟨e1, ?_⟩
  unfold putAns
  rw [e1, a2]
  simp only []
  rw [← runSt_append, List.take_append_drop]

set_option maxHeartbeats 8000000 in
theorem pack_true (l : Lg) (a b : Int) (e : Ent) (x : Value) (ta : Option Addr) (tc : Nat) (w : World) (hT : TabAt w x l.base.tab) (hL : EntsAt w (.slice ta l.tail.length tc) l.tail) (hcap : l.tail.length ≤ tc)
    (a0 : -9223372036854775808 ≤ a) (a1 : a ≤ 9223372036854775807) (hb0 : -9223372036854775808 ≤ b) (hb1 : b ≤ 9223372036854775807) :
    Calls Try.prog 4 #[lgV l x (.slice ta l.tail.length tc), .int .i64 a, .int .i64 b, entV e] w fun y w' => y = .returned (.bool true) ∧ Keeps w w' := by
  obtain ⟨xa, xc, rfl, _⟩ := hT.len
  have HT : Hid (TabAt w (.slice xa l.base.tab.length xc) l.base.tab) := hT
  have HL : Hid (EntsAt w (.slice ta l.tail.length tc) l.tail) := hL
  clear hT hL
  go_enter Try.func4, Try.ntmps4
  go_wp2_with fail
  obtain ⟨W1, hW1⟩ : ∃ W1, W1 = (w.alloc (.cells #[.int .i64 l.base.at_, .int .i64 l.base.clock, .int .i64 l.base.v0, .int .i64 l.base.v1, .int .i64 l.base.v2, .int .i64 l.base.v3, .slice xa l.base.tab.length xc, .slice ta l.tail.length tc] 28)).alloc (.cells #[.int .i64 e.kind, .int .i64 e.time, .int .i64 e.client, .int .i64 e.seq, .int .i64 e.ack, .int .i64 e.ok, .int .i64 e.okey, .int .i64 e.oto, .int .i64 e.on] 32) := ⟨_, rfl⟩
  have k1 : Keeps w W1 := by rw [hW1]; exact ((Keeps.refl _).alloc _).alloc _
  have B1 : LgBox w.heap.size l (.slice xa l.base.tab.length xc) (.slice ta l.tail.length tc) W1 := by rw [hW1]; exact (LgBox.new w l _ _ rfl rfl 28).keep ((Keeps.refl _).alloc _)
  have E1 : EntBox (w.heap.size + 1) e W1 := by
    rw [hW1]
    have := EntBox.new (w.alloc (.cells #[.int .i64 l.base.at_, .int .i64 l.base.clock, .int .i64 l.base.v0, .int .i64 l.base.v1, .int .i64 l.base.v2, .int .i64 l.base.v3, .slice xa l.base.tab.length xc, .slice ta l.tail.length tc] 28)) e 32
    simp only [World.size_alloc] at this
    exact this
  rw [← hW1]
  clear hW1
  refine (pack_end l _ ta tc W1 (HT.out.keep k1) (HL.out.keep k1) hcap).mono ?_
  rintro y w1 ⟨sa, sc, hO, rfl, hb⟩
  have HK1 : Hid (Keeps w w1) := k1.trans hb
  have HB1 : Hid (LgBox w.heap.size l (.slice xa l.base.tab.length xc) (.slice ta l.tail.length tc) w1) := B1.keep hb
  have HE1 : Hid (EntBox (w.heap.size + 1) e w1) := E1.keep hb
  have HO1 : Hid (TabAt w1 (.slice sa (allSt l.base l.tail).tab.length sc) (allSt l.base l.tail).tab) := hO.tab
  clear k1 B1 E1 hO hb
  clear W1
  cases q : (lgErr l == 0) with
  | false =>
    have q' : (lgErr l != 0) = true := by simp [bne, q]
    generalize lgErr l = er at *
    generalize allSt l.base l.tail = s at *
    go_wp2_with fail
    refine (pack_begun _).mono ?_
    rintro y w2 ⟨rfl, hb⟩
    have HK2 : Hid (Keeps w w2) := (HK1.out.alloc _).trans hb
    clear hb
    go_wp2_with fail
    go_ret
    exact ⟨rfl, HK2.out⟩
  | true =>
    have q' : (lgErr l != 0) = false := by simp [bne, q]
    have q0 : lgErr l = 0 := by simpa using q
    have h50 : l.tail.length ≤ 50 := by have := fold_right q0; have := (stErr_bounds this.1).1; omega
    have HQ0 : Hid (lgErr l = 0) := q0
    clear q0
    obtain ⟨s, hs⟩ : ∃ s, s = allSt l.base l.tail := ⟨_, rfl⟩
    rw [← hs] at HO1 ⊢
    have HS : Hid (s = allSt l.base l.tail) := hs
    clear hs
    obtain ⟨er, her⟩ : ∃ er, er = lgErr l := ⟨_, rfl⟩
    rw [← her] at q' ⊢
    clear her q
    have b0 := HB1.out.c0
    have b1 := HB1.out.c1
    have b2 := HB1.out.c2
    have b3 := HB1.out.c3
    have b4 := HB1.out.c4
    have b5 := HB1.out.c5
    have b6 := HB1.out.c6
    have b7 := HB1.out.c7
    have bl := HB1.out.lt
    go_wp2_with fail
    have B2 : StBox w1.heap.size s (.slice sa s.tab.length sc) (w1.alloc (.cells #[.int .i64 s.at_, .int .i64 s.clock, .int .i64 s.v0, .int .i64 s.v1, .int .i64 s.v2, .int .i64 s.v3, .slice sa s.tab.length sc] 25)) := StBox.new w1 s _ 25
    have k12 : Keeps w1 (w1.alloc (.cells #[.int .i64 s.at_, .int .i64 s.clock, .int .i64 s.v0, .int .i64 s.v1, .int .i64 s.v2, .int .i64 s.v3, .slice sa s.tab.length sc] 25)) := (Keeps.refl _).alloc _
    generalize (w1.alloc (.cells #[.int .i64 s.at_, .int .i64 s.clock, .int .i64 s.v0, .int .i64 s.v1, .int .i64 s.v2, .int .i64 s.v3, .slice sa s.tab.length sc] 25)) = w2 at *
    generalize w1.heap.size = sb at *
    have HK2 : Hid (Keeps w w2) := HK1.out.trans k12
    have HS2 : Hid (StBox sb s (.slice sa s.tab.length sc) w2) := B2
    have HB2 : Hid (LgBox w.heap.size l (.slice xa l.base.tab.length xc) (.slice ta l.tail.length tc) w2) := HB1.out.keep k12
    have HE2 : Hid (EntBox (w.heap.size + 1) e w2) := HE1.out.keep k12
    have HO2 : Hid (TabAt w2 (.slice sa s.tab.length sc) s.tab) := HO1.out.keep k12
    clear B2 k12 HK1 HB1 HE1 HO1 b0 b1 b2 b3 b4 b5 b6 b7 bl
    refine (choose_n a (l.tail.length + 1) w2 a0 a1 (by omega) (by omega)).mono ?_
    rintro y w2' ⟨rn, hr0, hr1, rfl, hw⟩
    subst hw
    obtain ⟨n, rfl⟩ : ∃ n : Nat, rn = n := ⟨rn.toNat, by omega⟩
    have hn : n ≤ l.tail.length := by omega
    clear hr0 hr1 a0 a1
    have b0 := HB2.out.c0
    have b1 := HB2.out.c1
    have b2 := HB2.out.c2
    have b3 := HB2.out.c3
    have b4 := HB2.out.c4
    have b5 := HB2.out.c5
    have b6 := HB2.out.c6
    have b7 := HB2.out.c7
    have bl := HB2.out.lt
    go_wp2_with fail
    refine (choose_n b ((l.tail.length : Int) - n + 1) w2 hb0 hb1 (by omega) (by omega)).mono ?_
    rintro y w2' ⟨rm, hr0, hr1, rfl, hw⟩
    subst hw
    obtain ⟨m, rfl⟩ : ∃ m : Nat, rm = m := ⟨rm.toNat, by omega⟩
    have hm : m ≤ l.tail.length - n := by omega
    clear hr0 hr1 hb0 hb1
    have HCR := (show Hid _ from cut_right HQ0.out hn)
    have HCT := (show Hid _ from cut_twice HQ0.out hn hm)
    have HCP := (show Hid _ from cut_put HQ0.out hn e)
    have hnb : (n : Int) ≤ 50 := by omega
    have hmb : (m : Int) ≤ 50 := by omega
    go_wp2_with fail
    refine (pack_cut l n _ ta tc w2 (HT.out.keep HK2.out) (HL.out.keep HK2.out) hcap).mono ?_
    rintro y w3 ⟨ma, mc, na, nc, hO, hE, hnc, rfl, hb⟩
    rw [HCR.out.1]
    obtain ⟨M, hM⟩ : ∃ M, M = cutLg l n := ⟨_, rfl⟩
    rw [← hM] at hO hE hnc HCR HCT HCP ⊢
    have HM : Hid (M = cutLg l n) := hM
    have HK23 : Hid (Keeps w2 w3) := hb
    have HO3 : Hid (TabAt w3 (.slice ma M.base.tab.length mc) M.base.tab) := hO.tab
    have HT3 : Hid (EntsAt w3 (.slice na M.tail.length nc) M.tail) := RowAt.of_owns hE
    clear hO hE hb hM b0 b1 b2 b3 b4 b5 b6 b7 bl
    go_wp2_with fail
    have B4 : LgBox w3.heap.size M (.slice ma M.base.tab.length mc) (.slice na M.tail.length nc) (w3.alloc (.cells #[.int .i64 M.base.at_, .int .i64 M.base.clock, .int .i64 M.base.v0, .int .i64 M.base.v1, .int .i64 M.base.v2, .int .i64 M.base.v3, .slice ma M.base.tab.length mc, .slice na M.tail.length nc] 28)) := LgBox.new w3 M _ _ rfl rfl 28
    have k34 : Keeps w3 (w3.alloc (.cells #[.int .i64 M.base.at_, .int .i64 M.base.clock, .int .i64 M.base.v0, .int .i64 M.base.v1, .int .i64 M.base.v2, .int .i64 M.base.v3, .slice ma M.base.tab.length mc, .slice na M.tail.length nc] 28)) := (Keeps.refl _).alloc _
    generalize (w3.alloc (.cells #[.int .i64 M.base.at_, .int .i64 M.base.clock, .int .i64 M.base.v0, .int .i64 M.base.v1, .int .i64 M.base.v2, .int .i64 M.base.v3, .slice ma M.base.tab.length mc, .slice na M.tail.length nc] 28)) = w4 at *
    generalize w3.heap.size = mb at *
    have HM4 : Hid (LgBox mb M (.slice ma M.base.tab.length mc) (.slice na M.tail.length nc) w4) := B4
    have HK24 : Hid (Keeps w2 w4) := HK23.out.trans k34
    have HO4 : Hid (TabAt w4 (.slice ma M.base.tab.length mc) M.base.tab) := HO3.out.keep k34
    have HT4 : Hid (EntsAt w4 (.slice na M.tail.length nc) M.tail) := HT3.out.keep k34
    clear B4 k34 HK23 HO3 HT3
    refine (pack_cut M m _ na nc w4 HO4.out HT4.out hnc).mono ?_
    rintro y w5 ⟨ya, yc, za, zc, hO, hE, _, rfl, hb⟩
    rw [HCT.out.1]
    obtain ⟨Y, hY⟩ : ∃ Y, Y = cutLg M m := ⟨_, rfl⟩
    rw [← hY] at hO hE HCT ⊢
    have HK45 : Hid (Keeps w4 w5) := hb
    have HOY : Hid (TabAt w5 (.slice ya Y.base.tab.length yc) Y.base.tab) := hO.tab
    have HTY : Hid (EntsAt w5 (.slice za Y.tail.length zc) Y.tail) := RowAt.of_owns hE
    clear hO hE hb hY
    have hB := HB2.out.keep (HK24.out.trans HK45.out)
    have b0 := hB.c0
    have b1 := hB.c1
    have b2 := hB.c2
    have b3 := hB.c3
    have b4 := hB.c4
    have b5 := hB.c5
    have b6 := hB.c6
    have b7 := hB.c7
    have bl := hB.lt
    clear hB
    go_wp2_with fail
    have B6 : LgBox w5.heap.size Y (.slice ya Y.base.tab.length yc) (.slice za Y.tail.length zc) (w5.alloc (.cells #[.int .i64 Y.base.at_, .int .i64 Y.base.clock, .int .i64 Y.base.v0, .int .i64 Y.base.v1, .int .i64 Y.base.v2, .int .i64 Y.base.v3, .slice ya Y.base.tab.length yc, .slice za Y.tail.length zc] 28)) := LgBox.new w5 Y _ _ rfl rfl 28
    have k56 : Keeps w5 (w5.alloc (.cells #[.int .i64 Y.base.at_, .int .i64 Y.base.clock, .int .i64 Y.base.v0, .int .i64 Y.base.v1, .int .i64 Y.base.v2, .int .i64 Y.base.v3, .slice ya Y.base.tab.length yc, .slice za Y.tail.length zc] 28)) := (Keeps.refl _).alloc _
    generalize (w5.alloc (.cells #[.int .i64 Y.base.at_, .int .i64 Y.base.clock, .int .i64 Y.base.v0, .int .i64 Y.base.v1, .int .i64 Y.base.v2, .int .i64 Y.base.v3, .slice ya Y.base.tab.length yc, .slice za Y.tail.length zc] 28)) = w6 at *
    generalize w5.heap.size = yb at *
    have HY6 : Hid (LgBox yb Y (.slice ya Y.base.tab.length yc) (.slice za Y.tail.length zc) w6) := B6
    have HK46 : Hid (Keeps w4 w6) := HK45.out.trans k56
    have HOY6 : Hid (TabAt w6 (.slice ya Y.base.tab.length yc) Y.base.tab) := HOY.out.keep k56
    have HTY6 : Hid (EntsAt w6 (.slice za Y.tail.length zc) Y.tail) := HTY.out.keep k56
    clear B6 k56 HK45 HOY HTY b0 b1 b2 b3 b4 b5 b6 b7 bl
    refine (pack_cut l ((n : Int) + m) _ ta tc w6 (HT.out.keep (HK2.out.trans (HK24.out.trans HK46.out))) (HL.out.keep (HK2.out.trans (HK24.out.trans HK46.out))) hcap).mono ?_
    rintro y w7 ⟨ua, uc, va, vc, hO, hE, _, rfl, hb⟩
    rw [HCT.out.2.1]
    rw [← HCT.out.2.2] at hO hE ⊢
    have HK67 : Hid (Keeps w6 w7) := hb
    have HOZ : Hid (TabAt w7 (.slice ua Y.base.tab.length uc) Y.base.tab) := hO.tab
    have HTZ : Hid (EntsAt w7 (.slice va Y.tail.length vc) Y.tail) := RowAt.of_owns hE
    clear hO hE hb
    have hM7 := HM4.out.keep (HK46.out.trans HK67.out)
    have m0 := hM7.c0
    have m1 := hM7.c1
    have m2 := hM7.c2
    have m3 := hM7.c3
    have m4 := hM7.c4
    have m5 := hM7.c5
    have m6 := hM7.c6
    have m7 := hM7.c7
    have ml := hM7.lt
    clear hM7
    go_wp2_with fail
    have B8 : LgBox w7.heap.size Y (.slice ua Y.base.tab.length uc) (.slice va Y.tail.length vc) (w7.alloc (.cells #[.int .i64 Y.base.at_, .int .i64 Y.base.clock, .int .i64 Y.base.v0, .int .i64 Y.base.v1, .int .i64 Y.base.v2, .int .i64 Y.base.v3, .slice ua Y.base.tab.length uc, .slice va Y.tail.length vc] 28)) := LgBox.new w7 Y _ _ rfl rfl 28
    have k78 : Keeps w7 (w7.alloc (.cells #[.int .i64 Y.base.at_, .int .i64 Y.base.clock, .int .i64 Y.base.v0, .int .i64 Y.base.v1, .int .i64 Y.base.v2, .int .i64 Y.base.v3, .slice ua Y.base.tab.length uc, .slice va Y.tail.length vc] 28)) := (Keeps.refl _).alloc _
    generalize (w7.alloc (.cells #[.int .i64 Y.base.at_, .int .i64 Y.base.clock, .int .i64 Y.base.v0, .int .i64 Y.base.v1, .int .i64 Y.base.v2, .int .i64 Y.base.v3, .slice ua Y.base.tab.length uc, .slice va Y.tail.length vc] 28)) = w8 at *
    generalize w7.heap.size = zb at *
    have HZ8 : Hid (LgBox zb Y (.slice ua Y.base.tab.length uc) (.slice va Y.tail.length vc) w8) := B8
    have HK48 : Hid (Keeps w4 w8) := (HK46.out.trans HK67.out).trans k78
    have HK68 : Hid (Keeps w6 w8) := HK67.out.trans k78
    have HOZ8 : Hid (TabAt w8 (.slice ua Y.base.tab.length uc) Y.base.tab) := HOZ.out.keep k78
    have HTZ8 : Hid (EntsAt w8 (.slice va Y.tail.length vc) Y.tail) := HTZ.out.keep k78
    clear B8 k78 HK67 HOZ HTZ m0 m1 m2 m3 m4 m5 m6 m7 ml
    refine (pack_end M _ na nc w8 (HO4.out.keep HK48.out) (HT4.out.keep HK48.out) hnc).mono ?_
    rintro y w9 ⟨da, dc, hO, rfl, hb⟩
    rw [HCR.out.2.2.1]
    rw [HCR.out.2.2.2, ← HS.out] at hO ⊢
    have HK89 : Hid (Keeps w8 w9) := hb
    have HO9 : Hid (TabAt w9 (.slice da s.tab.length dc) s.tab) := hO.tab
    clear hO hb
    have BA : StBox w9.heap.size s (.slice da s.tab.length dc) (w9.alloc (.cells #[.int .i64 s.at_, .int .i64 s.clock, .int .i64 s.v0, .int .i64 s.v1, .int .i64 s.v2, .int .i64 s.v3, .slice da s.tab.length dc] 25)) := StBox.new w9 s _ 25
    have k9A : Keeps w9 (w9.alloc (.cells #[.int .i64 s.at_, .int .i64 s.clock, .int .i64 s.v0, .int .i64 s.v1, .int .i64 s.v2, .int .i64 s.v3, .slice da s.tab.length dc] 25)) := (Keeps.refl _).alloc _
    have HK8A : Hid (Keeps w8 (w9.alloc (.cells #[.int .i64 s.at_, .int .i64 s.clock, .int .i64 s.v0, .int .i64 s.v1, .int .i64 s.v2, .int .i64 s.v3, .slice da s.tab.length dc] 25))) := HK89.out.trans k9A
    have hsA := HS2.out.keep (HK24.out.trans (HK48.out.trans HK8A.out))
    have s0 := hsA.c0
    have s1 := hsA.c1
    have s2 := hsA.c2
    have s3 := hsA.c3
    have s4 := hsA.c4
    have s5 := hsA.c5
    have s6 := hsA.c6
    have sl := hsA.lt
    have HOA : Hid (TabAt (w9.alloc (.cells #[.int .i64 s.at_, .int .i64 s.clock, .int .i64 s.v0, .int .i64 s.v1, .int .i64 s.v2, .int .i64 s.v3, .slice da s.tab.length dc] 25)) (.slice da s.tab.length dc) s.tab) := HO9.out.keep k9A
    clear hsA BA k9A
    go_wp2_with fail
    generalize (w9.alloc (.cells #[.int .i64 s.at_, .int .i64 s.clock, .int .i64 s.v0, .int .i64 s.v1, .int .i64 s.v2, .int .i64 s.v3, .slice da s.tab.length dc] 25)) = wA at *
    have HSC : Hid (Calls Try.prog 13 #[stV s (.slice sa s.tab.length sc), stV s (.slice da s.tab.length dc)] wA fun e w' => e = .returned (.bool true) ∧ Keeps wA w') := by
      have := same_of s s (.slice sa s.tab.length sc) (.slice da s.tab.length dc) wA (HO2.out.keep (HK24.out.trans (HK48.out.trans HK8A.out))) HOA.out
      rw [same_self] at this
      exact this
    refine HSC.out.mono ?_
    rintro y wB ⟨rfl, hb⟩
    have HK8B : Hid (Keeps w8 wB) := HK8A.out.trans hb
    have hyB := HY6.out.keep (HK68.out.trans HK8B.out)
    have hzB := HZ8.out.keep HK8B.out
    have HSL : Hid (Calls Try.prog 9 #[lgV Y (.slice ya Y.base.tab.length yc) (.slice za Y.tail.length zc), lgV Y (.slice ua Y.base.tab.length uc) (.slice va Y.tail.length vc)] wB fun e w' => e = .returned (.bool true) ∧ Keeps wB w') := by
      have := same_logs Y Y (.slice ya Y.base.tab.length yc) (.slice za Y.tail.length zc) (.slice ua Y.base.tab.length uc) (.slice va Y.tail.length vc) wB (HOY6.out.keep (HK68.out.trans HK8B.out)) (HTY6.out.keep (HK68.out.trans HK8B.out)) (HOZ8.out.keep HK8B.out) (HTZ8.out.keep HK8B.out)
      rw [sameLg_self] at this
      exact this
    have y0 := hyB.c0
    have y1 := hyB.c1
    have y2 := hyB.c2
    have y3 := hyB.c3
    have y4 := hyB.c4
    have y5 := hyB.c5
    have y6 := hyB.c6
    have y7 := hyB.c7
    have yl := hyB.lt
    have z0 := hzB.c0
    have z1 := hzB.c1
    have z2 := hzB.c2
    have z3 := hzB.c3
    have z4 := hzB.c4
    have z5 := hzB.c5
    have z6 := hzB.c6
    have z7 := hzB.c7
    have zl := hzB.lt
    clear hb hyB hzB HSC s0 s1 s2 s3 s4 s5 s6 sl
    go_wp2_with fail
    refine HSL.out.mono ?_
    rintro y wC ⟨rfl, hb⟩
    have HK8C : Hid (Keeps w8 wC) := HK8B.out.trans hb
    have hmC := HM4.out.keep (HK48.out.trans HK8C.out)
    have m0 := hmC.c0
    have m1 := hmC.c1
    have m2 := hmC.c2
    have m3 := hmC.c3
    have m4 := hmC.c4
    have m5 := hmC.c5
    have m6 := hmC.c6
    have m7 := hmC.c7
    have ml := hmC.lt
    clear hb hmC HSL y0 y1 y2 y3 y4 y5 y6 y7 yl z0 z1 z2 z3 z4 z5 z6 z7 zl
    go_wp2_with fail
    refine (pack_check M _ _ wC (HO4.out.keep (HK48.out.trans HK8C.out)) (HT4.out.keep (HK48.out.trans HK8C.out))).mono ?_
    rintro y wD ⟨rfl, hb⟩
    rw [HCR.out.2.2.1]
    have HK4D : Hid (Keeps w4 wD) := (HK48.out.trans HK8C.out).trans hb
    have HK2D : Hid (Keeps w2 wD) := HK24.out.trans HK4D.out
    have hbD := HB2.out.keep HK2D.out
    have heD := HE2.out.keep HK2D.out
    have b0 := hbD.c0
    have b1 := hbD.c1
    have b2 := hbD.c2
    have b3 := hbD.c3
    have b4 := hbD.c4
    have b5 := hbD.c5
    have b6 := hbD.c6
    have b7 := hbD.c7
    have bl := hbD.lt
    have e0 := heD.c0
    have e1 := heD.c1
    have e2 := heD.c2
    have e3 := heD.c3
    have e4 := heD.c4
    have e5 := heD.c5
    have e6 := heD.c6
    have e7 := heD.c7
    have e8 := heD.c8
    have el := heD.lt
    clear hb hbD heD m0 m1 m2 m3 m4 m5 m6 m7 ml
    go_wp2_with fail
    refine (pack_put l e _ ta tc wD (HT.out.keep (HK2.out.trans HK2D.out)) (HL.out.keep (HK2.out.trans HK2D.out)) hcap).mono ?_
    rintro y wE ⟨pa, pc, oa, oc, _, _, _, rfl, hb⟩
    have HK4E : Hid (Keeps w4 wE) := HK4D.out.trans hb
    clear hb b0 b1 b2 b3 b4 b5 b6 b7 bl e0 e1 e2 e3 e4 e5 e6 e7 e8 el
    obtain ⟨P1, hP1⟩ : ∃ P, P = putLg l e := ⟨_, rfl⟩
    obtain ⟨an, han⟩ : ∃ P, P = putAns l e := ⟨_, rfl⟩
    obtain ⟨pe, hpe⟩ : ∃ P, P = putLgErr l e := ⟨_, rfl⟩
    rw [← hP1, ← han, ← hpe]
    rw [← han, ← hpe] at HCP
    clear hP1 han hpe
    have hmE := HM4.out.keep (HK4E.out.alloc (.cells #[.int .i64 P1.base.at_, .int .i64 P1.base.clock, .int .i64 P1.base.v0, .int .i64 P1.base.v1, .int .i64 P1.base.v2, .int .i64 P1.base.v3, .slice pa P1.base.tab.length pc, .slice oa P1.tail.length oc] 28))
    have heE := HE2.out.keep (HK24.out.trans (HK4E.out.alloc (.cells #[.int .i64 P1.base.at_, .int .i64 P1.base.clock, .int .i64 P1.base.v0, .int .i64 P1.base.v1, .int .i64 P1.base.v2, .int .i64 P1.base.v3, .slice pa P1.base.tab.length pc, .slice oa P1.tail.length oc] 28)))
    have m0 := hmE.c0
    have m1 := hmE.c1
    have m2 := hmE.c2
    have m3 := hmE.c3
    have m4 := hmE.c4
    have m5 := hmE.c5
    have m6 := hmE.c6
    have m7 := hmE.c7
    have ml := hmE.lt
    have e0 := heE.c0
    have e1 := heE.c1
    have e2 := heE.c2
    have e3 := heE.c3
    have e4 := heE.c4
    have e5 := heE.c5
    have e6 := heE.c6
    have e7 := heE.c7
    have e8 := heE.c8
    have el := heE.lt
    clear hmE heE
    go_wp2_with fail
    have HK4F : Hid (Keeps w4 (wE.alloc (.cells #[.int .i64 P1.base.at_, .int .i64 P1.base.clock, .int .i64 P1.base.v0, .int .i64 P1.base.v1, .int .i64 P1.base.v2, .int .i64 P1.base.v3, .slice pa P1.base.tab.length pc, .slice oa P1.tail.length oc] 28))) := HK4E.out.alloc _
    generalize (wE.alloc (.cells #[.int .i64 P1.base.at_, .int .i64 P1.base.clock, .int .i64 P1.base.v0, .int .i64 P1.base.v1, .int .i64 P1.base.v2, .int .i64 P1.base.v3, .slice pa P1.base.tab.length pc, .slice oa P1.tail.length oc] 28)) = wF at *
    refine (pack_put M e _ na nc wF (HO4.out.keep HK4F.out) (HT4.out.keep HK4F.out) hnc).mono ?_
    rintro y wG ⟨ra, rc, ia, ic, _, _, _, rfl, hb⟩
    rw [HCP.out.1, HCP.out.2]
    have HKG : Hid (Keeps w wG) := HK2.out.trans (HK24.out.trans (HK4F.out.trans hb))
    clear hb m0 m1 m2 m3 m4 m5 m6 m7 ml e0 e1 e2 e3 e4 e5 e6 e7 e8 el
    generalize putLg M e = P2 at *
    go_wp2_with fail
    refine (pack_begun _).mono ?_
    rintro y wH ⟨rfl, hb⟩
    have HKH : Hid (Keeps w wH) := (HKG.out.alloc _).trans hb
    clear hb
    go_wp2_with fail
    go_ret
    exact ⟨by simp, HKH.out⟩
end Go.Proofs.Yteabfjpajgakiae

/- The arguments of a law: a list of entries, with what the machine's room says of its length. -/
set_option linter.unusedSimpArgs false
set_option linter.unusedVariables false
set_option maxRecDepth 100000
namespace Go.Proofs.Yteabfjpajgakiae
open Go.ChangeShapes Go.WideShapes Go.ChangeAt Go.RowKit Go.Joins Go.Deep

section
variable {H : Type} {enc : TypeId × Value → H} {w : World} {base : Nat} {spare : Nat → Bool} {held : Bool}

theorem bytesEnt : Try.prog.bytesOf 32 = 72 := by kernel_rfl

/-- A list of entries: one more has room. -/
theorem open_ents_sized {r : Reach} {b0 : Nat} {v : Value} {d : DataW H} {p : List MemPlace} (hv : Value.okWide Try.prog w r b0 26 v) (h : DataW.Trod enc Try.prog w base spare held 26 v d p)
    (hs : ∀ els sp, d = .slice els sp → (els.length + sp.length) * Try.prog.bytesOf 32 ≤ reachBytes) :
    ∃ L a c, v = .slice a L.length c ∧ EntsAt w v L ∧ L.length ≤ c ∧ (L.length + 1) * 72 ≤ 140737488355328 := by
  obtain ⟨L, a, c, hva, hE, hc⟩ := open_ents hv h
  refine ⟨L, a, c, hva, hE, hc, ?_⟩
  subst hva
  obtain ⟨n, hn⟩ := field_of_Trod h (by simp [Value.cells])
  rcases open_slice Try.underlying26 hn with ⟨h0, _⟩ | ⟨a', len, cap, m, k, D, Pl, hv', hcp, hl, hm, hmm, hx, _⟩
  · obtain ⟨rfl, h1, rfl⟩ : a = none ∧ L.length = 0 ∧ c = 0 := by simpa using h0
    omega
  · obtain ⟨rfl, h1, rfl⟩ : a = some a' ∧ L.length = len ∧ c = cap := by simpa using hv'
    have hd : d = .slice ((List.range len).map D) ((List.range (m - len)).map fun j => D (len + j)) := congrArg Prod.fst hx
    have := hs _ _ hd
    rw [bytesEnt] at this
    simp only [List.length_map, List.length_range] at this
    have hr : reachBytes = 140737488351232 := rfl
    rw [hr] at this
    have : len * 72 ≤ 140737488351232 := Nat.le_trans (Nat.mul_le_mul_right _ (Nat.le_add_right _ _)) this
    omega
end
end Go.Proofs.Yteabfjpajgakiae

/- Behind an empty slice that was built: an append only adds memory. -/
set_option linter.unusedSimpArgs false
set_option linter.unusedVariables false
namespace Go.Proofs.Yteabfjpajgakiae
open Go.RowKit

theorem run_append_bare (w : World) (base b : Nat) (hown : w.ownsRow base 32 9 (.slice (some ⟨b, 0, none⟩) 0 0) 0 []) (x : Value) (n : Nat) (xs : List Value) (hx : RowAt w 9 x n xs) (h1 : ∀ u ∈ xs, u.oneCell' = true) (h63 : n ≤ maxLen) (hbytes : n * 72 ≤ 140737488355328) (hbase : base ≤ w.heap.size) (ty : TypeId) :
    ∃ v' w', (Builtin.append_ #[26, 26] ty #[.slice (some ⟨b, 0, none⟩) 0 0, x]).run Try.prog w = .ok v' w' ∧ w'.ownsRow base 32 9 v' n xs ∧ Keeps w w' := by
  obtain ⟨i, hi, hz, hs, hb⟩ := info_parts infoEnt
  rcases hx.2.2 with ⟨rfl, rfl⟩ | ⟨a, cap, rfl, hc⟩
  · have hx0 : xs = [] := List.eq_nil_of_length_eq_zero (by simpa using hx.1)
    subst hx0
    exact ⟨_, w, run_append_owned_none (P := Try.prog) w base 26 ty 32 i 9 Try.underlying26 hi _ 0 [] hown, hown, Keeps.refl _⟩
  · by_cases hn : n = 0
    · subst hn
      have hx0 : xs = [] := List.eq_nil_of_length_eq_zero (by simpa using hx.1)
      subst hx0
      have hr := run_append_room_cells (P := Try.prog) w 26 ty 32 i Try.underlying26 hi b 0 0 0 a 0 cap [] (by simp) (by simp) (by simp) (by simp) (by simp) (by simp)
      refine ⟨_, _, hr, ?_, ?_⟩
      · simpa [World.setCells] using hown
      · simpa [World.setCells] using Keeps.refl w
    · obtain ⟨v', w', hr, ho, hg⟩ := run_append_arg_grows (P := Try.prog) w 26 ty 32 i _ 9 72 Try.underlying26 hi hz hs hb rfl (by decide) ⟨b, 0, none⟩ 0 0 [] (by simp) (by simp) a n cap xs hx.1 hc (by omega) (by omega) (by omega)
      rw [Nat.zero_add, List.nil_append] at ho
      exact ⟨v', w', hr, owns_base ho hbase, keeps_grown (v := .slice none 0 0) (Keeps.refl _) hg (fun k h => by cases h)⟩
end Go.Proofs.Yteabfjpajgakiae

/- A region that draws its order: whatever the order, each operation's value meets a condition of its own; the conditions stand when memory is added, and, where an operation writes (a store, an append in its place: 'special'), as far as that operation's own frame keeps them. -/
set_option linter.unusedSimpArgs false
set_option linter.unusedVariables false
namespace Go.Proofs.Yteabfjpajgakiae
open Go.RowKit

/-- A condition on a value that stands when memory is added. -/
structure Pr where
  p : Value → World → Prop
  keep : ∀ v W W', p v W → Keeps W W' → p v W'
def Pr.any : Pr := ⟨fun _ _ => True, fun _ _ _ _ _ => trivial⟩
def Pr.is (x : Value) : Pr := ⟨fun v _ => v = x, fun _ _ _ h _ => h⟩

def prAt : List Pr → Nat → Pr
  | [], _ => Pr.any
  | r :: _, 0 => r
  | _ :: rs, i + 1 => prAt rs i

def fillL : List (Option Tmp) → (Nat → Value) → Nat → Act → Act
  | [], _, _, a => a
  | d :: ds, vs, k, a => fillL ds vs (k + 1) (a.put d (vs k))

theorem put_none (a : Act) (x : Value) : a.put none x = a := rfl
theorem put_twice (a : Act) (d : Option Tmp) (x y : Value) : (a.put d x).put d y = a.put d y := by
  cases d <;> simp [Act.put]
theorem put_comm' (a : Act) {d e : Option Tmp} (x y : Value) (h : ∀ t, d = some t → e ≠ some t) : (a.put d x).put e y = (a.put e y).put d x := by
  cases d with
  | none => rfl
  | some d =>
    cases e with
    | none => rfl
    | some e =>
      simp only [Act.put]
      rw [Array.setIfInBounds_comm _ _ (fun q => h d rfl (by rw [q]))]
/-- No slot is written twice. -/
def apartB : List (Option Tmp) → Bool
  | [] => true
  | none :: ds => apartB ds
  | some d :: ds => !ds.contains (some d) && apartB ds
theorem fillL_comm {d : Option Tmp} : ∀ (ds : List (Option Tmp)) (vs : Nat → Value) (k : Nat) (a : Act) (v : Value), (∀ t, d = some t → some t ∉ ds) → (fillL ds vs k a).put d v = fillL ds vs k (a.put d v)
  | [], _, _, _, _, _ => rfl
  | e :: ds, vs, k, a, v, h => by
    simp only [fillL]
    rw [fillL_comm ds vs (k + 1) _ v (fun t ht hm => h t ht (List.mem_cons_of_mem _ hm)), put_comm' a (vs k) v (fun t ht hd => h t hd (by rw [ht]; exact List.mem_cons_self ..))]
theorem fillL_congr : ∀ (ds : List (Option Tmp)) (vs vs' : Nat → Value) (k : Nat) (a : Act), (∀ j, k ≤ j → vs j = vs' j) → fillL ds vs k a = fillL ds vs' k a
  | [], _, _, _, _, _ => rfl
  | d :: ds, vs, vs', k, a, h => by
    simp only [fillL]
    rw [h k (Nat.le_refl _)]
    exact fillL_congr ds vs vs' (k + 1) _ (fun j hj => h j (by omega))
theorem fillL_put {d : Option Tmp} : ∀ (ds : List (Option Tmp)) (vs : Nat → Value) (k i : Nat) (a : Act) (v : Value), apartB ds = true → ds[i]? = some d → (fillL ds vs k a).put d v = fillL ds (fun j => if j = k + i then v else vs j) k a
  | [], _, _, i, _, _, _, h => by simp at h
  | e :: ds, vs, k, 0, a, v, hn, h => by
    obtain rfl : e = d := by simpa using h
    simp only [fillL]
    rw [fillL_comm ds vs (k + 1) _ v (fun t ht hm => by subst ht; simp [apartB] at hn; exact hn.1 hm), put_twice]
    simp only [Nat.add_zero, if_true]
    exact fillL_congr ds _ _ (k + 1) _ (fun j hj => by simp [show j ≠ k by omega])
  | e :: ds, vs, k, i + 1, a, v, hn, h => by
    have hn' : apartB ds = true := by
      cases e with
      | none => exact hn
      | some e => simp [apartB] at hn; exact hn.2
    simp only [fillL]
    rw [fillL_put ds vs (k + 1) i _ v hn' (by simpa using h)]
    simp only [show k ≠ k + (i + 1) by omega, if_false]
    exact fillL_congr ds _ _ (k + 1) _ (fun j hj => by simp [show k + 1 + i = k + (i + 1) by omega])

def cntU (listed : Array Bool) : Nat → Nat
  | 0 => 0
  | n + 1 => cntU listed n + (if listed.getD n false = true then 0 else 1)
theorem getD_set {listed : Array Bool} {i : Nat} (hi : i < listed.size) (j : Nat) : (listed.setIfInBounds i true).getD j false = if j = i then true else listed.getD j false := by
  simp only [Array.getD_eq_getD_getElem?, Array.getElem?_setIfInBounds]
  by_cases h : i = j
  · subst h; simp [hi]
  · rw [if_neg h, if_neg (fun e => h e.symm)]
theorem cnt_ge {listed : Array Bool} {i : Nat} (hi : i < listed.size) : ∀ n, n ≤ i → cntU (listed.setIfInBounds i true) n = cntU listed n
  | 0, _ => rfl
  | n + 1, h => by
    simp only [cntU]
    rw [cnt_ge hi n (by omega), getD_set hi, if_neg (by omega : ¬ n = i)]
theorem cnt_lt {listed : Array Bool} {i : Nat} (hi : i < listed.size) (hu : listed.getD i false = false) : ∀ n, i < n → cntU listed n = cntU (listed.setIfInBounds i true) n + 1
  | 0, h => by omega
  | n + 1, h => by
    simp only [cntU]
    by_cases hn : i = n
    · subst hn
      rw [cnt_ge hi i (Nat.le_refl _), getD_set hi, hu]
      simp
    · rw [cnt_lt hi hu n (by omega), getD_set hi, if_neg (by omega : ¬ n = i)]
      omega
theorem cnt_zero {listed : Array Bool} : ∀ n, cntU listed n = 0 → ∀ i, i < n → listed.getD i false = true
  | 0, _, i, h => by omega
  | n + 1, h, i, hi => by
    simp only [cntU] at h
    by_cases hn : i = n
    · subst hn
      cases q : listed.getD i false with
      | true => rfl
      | false => rw [q] at h; simp at h
    · exact cnt_zero n (by omega) i (by omega)
theorem cnt_pos {listed : Array Bool} : ∀ n, cntU listed n ≠ 0 → ∃ i, i < n ∧ listed.getD i false = false
  | 0, h => absurd rfl h
  | n + 1, h => by
    simp only [cntU] at h
    cases q : listed.getD n false with
    | false => exact ⟨n, by omega, q⟩
    | true =>
      rw [q] at h
      obtain ⟨i, hi, hu⟩ := cnt_pos n (by simpa using h)
      exact ⟨i, by omega, hu⟩

/-- j waits for i. -/
def waitB (ops : Array Oper) (j i : Nat) : Bool := ((ops[j]?).map fun o => o.after.any fun e => Region.binds .any e && e.on == i).getD false
/-- None waits for one behind it. -/
def growB (ops : Array Oper) : Bool := (List.range ops.size).all fun i => ((ops[i]?).map fun o => o.after.all fun e => !Region.binds .any e || decide (e.on < i)).getD false
theorem grow_back {ops : Array Oper} (h : growB ops = true) : ∀ i, i < ops.size → ∃ o, ops[i]? = some o ∧ ∀ e ∈ o.after, Region.binds .any e = true → e.on < i := by
  simp only [growB, List.all_eq_true, List.mem_range] at h
  intro i hi
  have := h i hi
  cases ho : ops[i]? with
  | none => rw [ho] at this; cases this
  | some o =>
    rw [ho] at this
    simp only [Option.map_some, Option.getD_some, Array.all_eq_true', Bool.or_eq_true, Bool.not_eq_true', decide_eq_true_eq] at this
    refine ⟨o, rfl, fun e he hb => ?_⟩
    rcases this e he with h' | h'
    · rw [hb] at h'; cases h'
    · exact h'

structure Listed (ops : Array Oper) (listed : Array Bool) : Prop where
  size : listed.size = ops.size
  down : ∀ j, listed.getD j false = true → ∀ o, ops[j]? = some o → ∀ e ∈ o.after, Region.binds .any e = true → listed.getD e.on false = true

theorem waitB_iff {ops : Array Oper} {j i : Nat} (h : waitB ops j i = true) : ∃ o, ops[j]? = some o ∧ ∃ e ∈ o.after, Region.binds .any e = true ∧ e.on = i := by
  unfold waitB at h
  cases ho : ops[j]? with
  | none => rw [ho] at h; cases h
  | some o =>
    rw [ho] at h
    simp only [Option.map_some, Option.getD_some, Array.any_eq_true', Bool.and_eq_true, beq_iff_eq] at h
    obtain ⟨e, he, hb, hk⟩ := h
    exact ⟨o, rfl, e, he, hb, hk⟩
theorem getD_both {listed : Array Bool} {i : Nat} (hi : i < listed.size) : listed.getD i true = listed.getD i false := by
  simp [Array.getD, hi]
theorem grow_some {ops : Array Oper} (G : ∀ i, i < ops.size → ∃ o, ops[i]? = some o ∧ ∀ e ∈ o.after, Region.binds .any e = true → e.on < i) {listed : Array Bool} (L : Listed ops listed) : ∀ k u, u ≤ k → u < ops.size → listed.getD u false = false → ∃ i, i ∈ Region.ready .any ops listed := by
  intro k
  induction k with
  | zero =>
    intro u hk hu hul
    obtain ⟨o, ho, hb⟩ := G u hu
    exact ⟨u, mem_ready.2 ⟨by rw [getD_both (by rw [L.size]; omega)]; exact hul, o, ho, fun e he hbd => by have := hb e he hbd; omega⟩⟩
  | succ k ih =>
    intro u hk hu hul
    obtain ⟨o, ho, hb⟩ := G u hu
    by_cases hall : ∀ e ∈ o.after, Region.binds .any e = true → listed.getD e.on false = true
    · exact ⟨u, mem_ready.2 ⟨by rw [getD_both (by rw [L.size]; omega)]; exact hul, o, ho, hall⟩⟩
    · have : ∃ e, e ∈ o.after ∧ Region.binds .any e = true ∧ listed.getD e.on false = false := by
        apply Classical.byContradiction
        intro hc
        refine hall (fun e he hbd => ?_)
        cases q : listed.getD e.on false with
        | true => rfl
        | false => exact absurd ⟨e, he, hbd, q⟩ hc
      obtain ⟨e, he, hbd, q⟩ := this
      have := hb e he hbd
      exact ih e.on (by omega) (by omega) q

/-- It comes behind k. -/
def reachB (ops : Array Oper) : Nat → Nat → Nat → Bool
  | 0, _, _ => false
  | f + 1, i, k => waitB ops i k || (List.range i).any fun j => waitB ops i j && reachB ops f j k
theorem reach_listed {ops : Array Oper} {listed : Array Bool} (L : Listed ops listed) : ∀ f i k, reachB ops f i k = true → listed.getD i false = true → listed.getD k false = true
  | 0, _, _, h, _ => by cases h
  | f + 1, i, k, h, hl => by
    have one : ∀ j, waitB ops i j = true → listed.getD j false = true := fun j hw => by
      obtain ⟨o, ho, e, he, hb, rfl⟩ := waitB_iff hw
      exact L.down i hl o ho e he hb
    simp only [reachB, Bool.or_eq_true, List.any_eq_true, Bool.and_eq_true] at h
    rcases h with h | ⟨j, _, h1, h2⟩
    · exact one k h
    · exact reach_listed L f j k h2 (one j h1)

/-- An operation that writes: its number, the numbers whose conditions it ends, its frame. -/
structure Wr where
  num : Nat
  dead : List Nat
  frame : World → World → Prop
def Fr (xs : List Wr) (w0 : World) (i : Nat) (W W' : World) : Prop := ((∀ x ∈ xs, x.num ≠ i) → Keeps W W') ∧ Keeps w0 W' ∧ ∀ x ∈ xs, x.num = i → x.frame W W'
theorem Fr.of {xs : List Wr} {w0 : World} {i : Nat} {W W' : World} (h : ∀ x ∈ xs, x.num ≠ i) (h0 : Keeps w0 W) (hk : Keeps W W') : Fr xs w0 i W W' := ⟨fun _ => hk, h0.trans hk, fun x hx e => absurd e (h x hx)⟩

/-- What i may use of j. -/
def mayB (ops : Array Oper) (xs : List Wr) (i j : Nat) : Bool := waitB ops i j && xs.all fun x => !x.dead.contains j || (x.num == i || reachB ops ops.size x.num i)

/-- What one operation is to do. -/
def GrowStep (P : Program) (l : List Oper) (Q : Exit → Act → World → Prop) (a0 : Act) (w0 : World) (ds : List (Option Tmp)) (R : List Pr) (xs : List Wr) (i : Nat) : Prop :=
  ∀ (vs : Nat → Value) (W : World), Keeps w0 W → (∀ j, mayB l.toArray xs i j = true → (prAt R j).p (vs j) W) →
    ∀ K : Act → World → Prop, Shut (∀ a' v W', a' = (fillL ds vs 0 a0).put (ds.getD i none) v → Fr xs w0 i W W' → (prAt R i).p v W' → K a' W') →
      match l[i]? with
      | none => False
      | some o => if Region.wanted o (yielded l.toArray (fillL ds vs 0 a0).tmps) = true then o.wp P (fillL ds vs 0 a0) W K Q else K ((fillL ds vs 0 a0).put o.dst undef) W

theorem grow_all {P : Program} {l : List Oper} {Q : Exit → Act → World → Prop} {a0 : Act} {w0 : World} {ds : List (Option Tmp)} {R : List Pr} {xs : List Wr} (hds : l.map (·.dst) = ds) (hnd : apartB ds = true) (hG : growB l.toArray = true)
    (hstep : ∀ i, i < l.length → GrowStep P l Q a0 w0 ds R xs i)
    (hF : ∀ x ∈ xs, ∀ j, j < l.length → j ∉ x.dead → j ≠ x.num → reachB l.toArray l.toArray.size j x.num = false → ∀ v W W', (prAt R j).p v W → x.frame W W' → (prAt R j).p v W')
    (hend : ∀ vs W, Keeps w0 W → (∀ i, i < l.length → (∀ x ∈ xs, i ∉ x.dead) → (prAt R i).p (vs i) W) → Q .normal (fillL ds vs 0 a0) W) :
    ∀ c (listed : Array Bool) (vs : Nat → Value) (W : World), cntU listed l.length = c → Listed l.toArray listed → Keeps w0 W → (∀ i, i < l.length → listed.getD i false = true → (∀ x ∈ xs, listed.getD x.num false = true → i ∉ x.dead) → (prAt R i).p (vs i) W) →
      wpAny P .any l.toArray Q c listed (fillL ds vs 0 a0) W := by
  have G := grow_back hG
  have hN : l.toArray.size = l.length := by simp
  intro c
  induction c with
  | zero =>
    intro listed vs W hc L hk hR
    have hall := cnt_zero l.length hc
    refine ⟨?_, hend vs W hk (fun i hi hd => hR i hi (hall i hi) (fun x hx _ => hd x hx))⟩
    apply List.eq_nil_iff_forall_not_mem.2
    intro i hi
    obtain ⟨h1, o, ho, _⟩ := mem_ready.1 hi
    have hil : i < l.length := by have := size_of ho; omega
    rw [getD_both (by rw [L.size]; omega), hall i hil] at h1
    cases h1
  | succ c ih =>
    intro listed vs W hc L hk hR
    obtain ⟨u, hu, hul⟩ := cnt_pos l.length (by omega : cntU listed l.length ≠ 0)
    refine ⟨fun h0 => ?_, fun i hi => ?_⟩
    · obtain ⟨i, hi⟩ := grow_some G L u u (Nat.le_refl _) (by omega) hul
      rw [h0] at hi
      cases hi
    · obtain ⟨h1, o, ho, ha⟩ := mem_ready.1 hi
      have hin : i < l.length := by have := size_of ho; omega
      have his : i < listed.size := by rw [L.size]; omega
      have hiu : listed.getD i false = false := by rw [← getD_both his]; exact h1
      have hlo : l[i]? = some o := by simpa using ho
      have hdst : o.dst = ds.getD i none ∧ ds[i]? = some (ds.getD i none) := by
        have e1 : (l.map (·.dst))[i]? = some o.dst := by simp [hlo]
        rw [hds] at e1
        have e2 : ds.getD i none = o.dst := by simp [List.getD, e1]
        exact ⟨e2.symm, by rw [e2]; exact e1⟩
      have hs := hstep i hin vs W hk (fun j hw => by
        simp only [mayB, Bool.and_eq_true, List.all_eq_true, Bool.or_eq_true, Bool.not_eq_true', beq_iff_eq] at hw
        obtain ⟨o', ho', e, he, hb, rfl⟩ := waitB_iff hw.1
        rw [ho] at ho'
        cases ho'
        obtain ⟨o2, ho2, hb2⟩ := G i (by omega)
        rw [ho] at ho2
        cases ho2
        refine hR e.on (by have := hb2 e he hb; omega) (ha e he hb) (fun x hx hxl => ?_)
        rcases hw.2 x hx with h' | h' | h'
        · intro hm
          rw [List.contains_iff_mem.2 hm] at h'
          cases h'
        · rw [h', hiu] at hxl; cases hxl
        · have := reach_listed L _ x.num i h' hxl
          rw [hiu] at this
          cases this)
      refine wpOp_step ho (fun K hK => ?_)
      have hs' := hs K (fun a' v W' ha' hfr hv => by
        subst ha'
        refine hK _ _ ?_
        rw [fillL_put ds vs 0 i a0 v hnd hdst.2, Nat.zero_add]
        refine ih (listed.setIfInBounds i true) _ W' (by have := cnt_lt his hiu l.length hin; omega) ⟨by rw [Array.size_setIfInBounds]; exact L.size, ?_⟩ hfr.2.1 ?_
        · intro j hj o' ho' e he hb
          rw [getD_set his] at hj ⊢
          by_cases hje : j = i
          · subst hje
            rw [ho] at ho'
            cases ho'
            rw [ha e he hb]
            simp
          · rw [if_neg hje] at hj
            rw [L.down j hj o' ho' e he hb]
            simp
        · intro j hj hjl hjd
          rw [getD_set his] at hjl
          by_cases hje : j = i
          · subst hje
            simp only [if_true]
            exact hv
          · rw [if_neg hje] at hjl
            simp only [if_neg hje]
            have hold : (prAt R j).p (vs j) W := hR j hj hjl (fun x hx hxl => hjd x hx (by rw [getD_set his, hxl, ite_self]))
            by_cases hix : ∃ x, x ∈ xs ∧ x.num = i
            · obtain ⟨x, hx, rfl⟩ := hix
              refine hF x hx j hj (hjd x hx (by rw [getD_set his, if_pos rfl])) hje ?_ _ W W' hold (hfr.2.2 x hx rfl)
              cases q : reachB l.toArray l.toArray.size j x.num with
              | false => rfl
              | true =>
                have := reach_listed L _ j x.num q hjl
                rw [hiu] at this
                cases this
            · exact (prAt R j).keep _ _ _ hold (hfr.1 (fun x hx e => hix ⟨x, hx, e⟩)))
      rw [hlo] at hs'
      simp only at hs'
      exact hs'

theorem rep_false (N k : Nat) : (Array.replicate N false).getD k false = false := by
  by_cases h : k < N <;> simp [Array.getD, h]

/-- THE RULE. -/
theorem wp_region_grow {P : Program} {id : Nat} {Q : Exit → Act → World → Prop} {a0 : Act} {w : World} {l : List Oper} (ds : List (Option Tmp)) (R : List Pr) (xs : List Wr) (hm : P.follows .mixedOrders = true) (hds : l.map (·.dst) = ds) (hnd : apartB ds = true) (hG : growB l.toArray = true)
    (hstep : ∀ i, i < l.length → GrowStep P l Q a0 w.drew ds R xs i)
    (hF : ∀ x ∈ xs, ∀ j, j < l.length → j ∉ x.dead → j ≠ x.num → reachB l.toArray l.toArray.size j x.num = false → ∀ v W W', (prAt R j).p v W → x.frame W W' → (prAt R j).p v W')
    (hend : ∀ vs W, Keeps w.drew W → (∀ i, i < l.length → (∀ x ∈ xs, i ∉ x.dead) → (prAt R i).p (vs i) W) → Q .normal (fillL ds vs 0 a0) W) : (Code.region id l.toArray true).wp P Q a0 w := by
  refine wp_region_any hm ?_
  obtain ⟨vs, hvs⟩ : ∃ vs : Nat → Value, vs = fun i => match ds.getD i none with | some d => a0.tmps.getD d undef | none => undef := ⟨_, rfl⟩
  have key := grow_all hds hnd hG hstep hF hend l.length (Array.replicate l.toArray.size false) vs w.drew
  have hcnt : ∀ k, k ≤ l.toArray.size → cntU (Array.replicate l.toArray.size false) k = k := by
    intro k
    induction k with
    | zero => intro _; rfl
    | succ k ih =>
      intro hk
      simp only [cntU]
      rw [ih (by omega), rep_false]
      simp
  have hfill : ∀ (ds' : List (Option Tmp)) (k : Nat) (vs : Nat → Value), (∀ i d, ds'[i]? = some (some d) → vs (k + i) = a0.tmps.getD d undef) → fillL ds' vs k a0 = a0 := by
    intro ds'
    induction ds' with
    | nil => intro _ _ _; rfl
    | cons d ds' ih =>
      intro k vs h
      simp only [fillL]
      have : a0.put d (vs k) = a0 := by
        cases d with
        | none => rfl
        | some d =>
          have h0 := h 0 d rfl
          rw [Nat.add_zero] at h0
          rw [h0]
          simp only [Act.put]
          congr 1
          apply Array.ext
          · simp
          · intro i h1 h2
            rw [Array.getElem_setIfInBounds]
            split
            · rename_i hdi
              subst hdi
              simp [Array.getD, h2]
            · rfl
      rw [this]
      exact ih (k + 1) vs (fun i d' hd => by rw [← h (i + 1) d' (by simpa using hd)]; congr 1; omega)
  have hf := hfill ds 0 vs (fun i d hd => by rw [hvs]; simp [List.getD, hd])
  rw [hf] at key
  have hsz : l.length = l.toArray.size := by simp
  rw [hsz] at key
  exact key (hcnt _ (Nat.le_refl _)) ⟨by simp, fun j hj => (by rw [rep_false] at hj; cases hj)⟩ (Keeps.refl _) (fun i hi hj _ => (by rw [rep_false] at hj; cases hj))
end Go.Proofs.Yteabfjpajgakiae

/- PackAnswer: the walk. -/
set_option linter.unusedSimpArgs false
set_option linter.unusedVariables false
set_option maxRecDepth 10000
namespace Go.Proofs.Yteabfjpajgakiae
open Go.RowKit

/-- A goal that is not looked into. -/
structure Bx (p : Prop) : Prop where
  out : p
theorem owns_typed {m n size b : Nat} {e e' : TypeId} {w w' : World} {v : Value} {xs : List Value} {c : Array Value} {f : Nat × Nat} (h : w.ownsRow m e size v n xs) (hb : w.heap[b]? = some (.cells c e' f)) (hne : e ≠ e') (hk : But b w w') : w'.ownsRow m e size v n xs := by
  refine h.kept (row := some b) ⟨hk.os, hk.tape, hk.output, hk.size, fun k hk' hn => hk.block k hk' (fun e => hn (by rw [e]))⟩ ?_
  exact .inr (owns_not h hb hne)
theorem answer_plain {l : List Ent} {e : Ent} (h : foldErr zeroSt (l ++ [e]) = 0) : lgErr ⟨zeroSt, l⟩ = 0 ∧ l.length ≤ 49 ∧ allAns zeroSt (l ++ [e]) = runAns zeroSt l ++ [oneAns (runSt zeroSt l) e] ∧ putLgErr ⟨zeroSt, l⟩ e = 0 ∧ putAns ⟨zeroSt, l⟩ e = oneAns (runSt zeroSt l) e := by
  obtain ⟨h1, h2, h3⟩ := fold_right h
  have h0 : lgErr ⟨zeroSt, l⟩ = 0 := by
    have := (split_right h l.length).1
    rw [List.take_left] at this
    exact this
  have h4 : l.length ≤ 49 := by simp [zeroSt] at h3; omega
  have he : entErr e = 0 := h2 e (by simp)
  have hp : putLgErr ⟨zeroSt, l⟩ e = 0 := by
    unfold putLgErr
    rw [h0, he]
    simp only [zeroSt]
    have : ((0 : Int) + (l.length : Int) == 50) = false := by simp; omega
    simp [this]
    omega
  refine ⟨h0, h4, ?_, hp, ?_⟩
  · unfold allAns
    rw [h, runAns_append]
    rfl
  · unfold putAns
    rw [hp]
    rfl
theorem stbox_of {b : Nat} {W : World} (h : W.heap[b]? = some (.cells #[.int .i64 0, .int .i64 0, .int .i64 0, .int .i64 0, .int .i64 0, .int .i64 0, .slice none 0 0] 25 (0, 0))) : StBox b zeroSt (.slice none 0 0) W := by
  refine ⟨?_, ?_, ?_, ?_, ?_, ?_, ?_, fun i => ?_⟩ <;> simp [World.cell?, World.frozen?, h, zeroSt]

set_option maxHeartbeats 40000000 in
theorem pack_answer (l : List Ent) (n : Int) (e : Ent) (la : Option Addr) (lc : Nat) (w : World) (hL : EntsAt w (.slice la l.length lc) l) (hlc : l.length ≤ lc) (h72 : (l.length + 1) * 72 ≤ 140737488355328) (n0 : -9223372036854775808 ≤ n) (n1 : n ≤ 9223372036854775807) :
    Calls Try.prog 5 #[.slice la l.length lc, .int .i64 n, entV e] w fun y w' => y = .returned (.bool true) ∧ Keeps w w' := by
  have HL : Hid (EntsAt w (.slice la l.length lc) l) := hL
  have hlm := hL.2.1
  unfold maxLen at hlm
  clear hL
  go_enter Try.func5, Try.ntmps5
  go_wp2_with fail
  obtain ⟨W1, hW1⟩ : ∃ W1, W1 = w.alloc (.cells #[.int .i64 e.kind, .int .i64 e.time, .int .i64 e.client, .int .i64 e.seq, .int .i64 e.ack, .int .i64 e.ok, .int .i64 e.okey, .int .i64 e.oto, .int .i64 e.on] 32) := ⟨_, rfl⟩
  have k1 : Keeps w W1 := by rw [hW1]; exact (Keeps.refl _).alloc _
  have HE1 : Hid (EntBox w.heap.size e W1) := by rw [hW1]; exact EntBox.new w e 32
  rw [← hW1]
  clear hW1
  have HK1 : Hid (Keeps w W1) := k1
  clear k1
  obtain ⟨A, hA⟩ : ∃ A, A = allAns zeroSt (l ++ [e]) := ⟨_, rfl⟩
  obtain ⟨S, hS⟩ : ∃ S, S = allSt zeroSt (l ++ [e]) := ⟨_, rfl⟩
  obtain ⟨er, her⟩ : ∃ er, er = foldErr zeroSt (l ++ [e]) := ⟨_, rfl⟩
  have HAll : Hid (∀ W v, EntsAt W v (l ++ [e]) → Calls Try.prog 15 #[stV zeroSt (.slice none 0 0), v] W fun y w' => ∃ qa qn qc ra rc, w'.ownsRow 0 3 1 (.slice ra A.length rc) A.length (intCells A) ∧ y = .returned (.tuple #[stV S (.slice qa qn qc), .slice ra A.length rc, .int .i64 er]) ∧ Keeps W w') := by
    intro W v hv
    refine (fold_all zeroSt (l ++ [e]) (.slice none 0 0) v W (OwnTab.nil 0 _).tab hv).mono ?_
    rintro y w' ⟨x', av, hT, hr, rfl, hb⟩
    rw [← hA, ← hS, ← her] at *
    obtain ⟨qa, qc, rfl, _⟩ := hT.tab.len
    obtain ⟨ra, rc, rfl, _⟩ := (RowAt.of_owns hr).len
    exact ⟨qa, _, qc, ra, rc, owns_base hr (Nat.zero_le _), rfl, hb⟩
  have HPL := (show Hid _ from And.intro hA (And.intro hS her))
  clear hA hS her
  go_cut [8, 9] (fun p q wc => ∃ ra rc, p = .slice ra A.length rc ∧ q = .int .i64 er ∧ IntsAt wc (.slice ra A.length rc) A ∧ Keeps W1 wc)
  case first =>
    obtain ⟨base, hbase⟩ : ∃ z, z = W1.heap.size := ⟨_, rfl⟩
    have HBS : Hid (base = W1.heap.size) := hbase
    clear hbase
    refine wp_region_grow [some 16, some 17, some 18, some 19, some 20, some 21, some 22, some 23, some 15, some 24, some 25, some 26, some 7, none, some 8, some 9] [
      Pr.is (stV zeroSt (.slice none 0 0)),
      ⟨fun v W => ∃ b, v = .slice (some ⟨b, 0, none⟩) 0 0 ∧ W.ownsRow base 32 9 (.slice (some ⟨b, 0, none⟩) 0 0) 0 [], fun v W W' ⟨b, h1, h2⟩ hk => ⟨b, h1, owns_keep h2 hk⟩⟩,
      Pr.is (.slice la l.length lc),
      ⟨fun v W => W.ownsRow base 32 9 v l.length (entCells l), fun v W W' h hk => owns_keep h hk⟩,
      Pr.is (entV e),
      ⟨fun v W => EntsAt W v [e], fun v W W' h hk => h.keep hk⟩,
      ⟨fun v W => EntsAt W v (l ++ [e]), fun v W W' h hk => h.keep hk⟩,
      ⟨fun v W => ∃ qa qn qc ra rc, W.ownsRow 0 3 1 (.slice ra A.length rc) A.length (intCells A) ∧ v = .tuple #[stV S (.slice qa qn qc), .slice ra A.length rc, .int .i64 er], fun v W W' ⟨qa, qn, qc, ra, rc, h1, h2⟩ hk => ⟨qa, qn, qc, ra, rc, owns_keep h1 hk, h2⟩⟩,
      ⟨fun v W => ∃ qa qn qc ra rc, W.ownsRow 0 3 1 (.slice ra A.length rc) A.length (intCells A) ∧ v = .tuple #[stV S (.slice qa qn qc), .slice ra A.length rc, .int .i64 er], fun v W W' ⟨qa, qn, qc, ra, rc, h1, h2⟩ hk => ⟨qa, qn, qc, ra, rc, owns_keep h1 hk, h2⟩⟩,
      ⟨fun v W => ∃ qa qn qc, v = stV S (.slice qa qn qc), fun v W W' h hk => h⟩,
      ⟨fun v W => ∃ ra rc, W.ownsRow 0 3 1 (.slice ra A.length rc) A.length (intCells A) ∧ v = .slice ra A.length rc, fun v W W' ⟨ra, rc, h1, h2⟩ hk => ⟨ra, rc, owns_keep h1 hk, h2⟩⟩,
      Pr.is (.int .i64 er),
      ⟨fun v W => ∃ b, v = .pointer (some ⟨b, 0, none⟩) ∧ base ≤ b ∧ W.heap[b]? = some (.cells #[.int .i64 0, .int .i64 0, .int .i64 0, .int .i64 0, .int .i64 0, .int .i64 0, .slice none 0 0] 25 (0, 0)), fun v W W' ⟨b, h1, h2, h3⟩ hk => ⟨b, h1, h2, (hk.block b (Array.getElem?_eq_some_iff.1 h3).1).trans h3⟩⟩,
      Pr.any,
      ⟨fun v W => ∃ ra rc, W.ownsRow 0 3 1 (.slice ra A.length rc) A.length (intCells A) ∧ v = .slice ra A.length rc, fun v W W' ⟨ra, rc, h1, h2⟩ hk => ⟨ra, rc, owns_keep h1 hk, h2⟩⟩,
      Pr.is (.int .i64 er)] [⟨6, [1, 3, 5], (fun (W W' : World) => ∀ (b : Nat) (c : Array Value) (f : Nat × Nat), W.heap[b]? = some (Obj.cells c 25 f) → W'.heap[b]? = some (Obj.cells c 25 f))⟩, ⟨13, [1, 3, 5, 6, 12], (fun (W W' : World) => ∃ (b : Nat) (c : Array Value) (f : Nat × Nat), W.heap[b]? = some (Obj.cells c 25 f) ∧ But b W W')⟩] (by kernel_rfl) (by kernel_rfl) (by kernel_rfl) (by kernel_rfl) ?_ ?_ ?_
    · intro i hi
      match i, hi with
      | 0, _ =>
        intro vs W hk hR K hK
        have hbW : base ≤ W.heap.size := by have h1 : W1.heap.size ≤ W.heap.size := hk.size; have h2 := HBS.out; omega
        go_simp
        refine (begin_c W).mono ?_
        rintro y W' ⟨rfl, hb⟩
        go_simp
        refine hK.out _ (stV zeroSt (.slice none 0 0)) _ (by kernel_rfl) ?_ ?_
        · exact Fr.of (by simp) hk (hb)
        · exact rfl
      | 1, _ =>
        intro vs W hk hR K hK
        have hbW : base ≤ W.heap.size := by have h1 : W1.heap.size ≤ W.heap.size := hk.size; have h2 := HBS.out; omega
        go_simp
        refine hK.out _ (.slice (some ⟨W.heap.size, 0, none⟩) 0 0) _ (by kernel_rfl) ?_ ?_
        · exact Fr.of (by simp) hk (((Keeps.refl _).alloc _))
        · exact ⟨W.heap.size, rfl, World.ownsRow_made (base := base) (e := 32) (size := 9) W #[] 0 hbW (by unfold maxLen; omega) rfl⟩
      | 2, _ =>
        intro vs W hk hR K hK
        have hbW : base ≤ W.heap.size := by have h1 : W1.heap.size ≤ W.heap.size := hk.size; have h2 := HBS.out; omega
        go_simp
        refine hK.out _ (.slice la l.length lc) _ (by kernel_rfl) ?_ ?_
        · exact Fr.of (by simp) hk ((Keeps.refl _))
        · exact rfl
      | 3, _ =>
        intro vs W hk hR K hK
        have hbW : base ≤ W.heap.size := by have h1 : W1.heap.size ≤ W.heap.size := hk.size; have h2 := HBS.out; omega
        have HX : ∃ b, vs 1 = .slice (some ⟨b, 0, none⟩) 0 0 ∧ W.ownsRow base 32 9 (.slice (some ⟨b, 0, none⟩) 0 0) 0 [] := hR 1 (by kernel_rfl)
        refine Bx.out ?_
        refine Exists.elim HX (fun b1 HX => ?_)
        have h1 := HX.1
        have ho1 := HX.2
        refine ⟨?_⟩
        have h2 : vs 2 = .slice la l.length lc := hR 2 (by kernel_rfl)
        simp only [fillL, Nat.zero_add, Nat.reduceAdd, h1, h2] at hK ⊢
        obtain ⟨v', V2, hr, ho, hkk⟩ := run_append_bare W base b1 ho1 (.slice la l.length lc) l.length (entCells l) (HL.out.keep (HK1.out.trans ((Keeps.refl _).drew.trans hk))) (entCells_one _) (by unfold maxLen; omega) (by omega) hbW 26
        simp only [List.getElem?_cons_succ, List.getElem?_cons_zero]
        refine step_append_run rfl _ _ 26 rfl (by simp [Act.eval, Act.put]) (by simp [Act.eval, Act.put]) hr ?_
        refine hK.out _ (v') _ (by kernel_rfl) ?_ ?_
        · exact Fr.of (by simp) hk (hkk)
        · exact ho
      | 4, _ =>
        intro vs W hk hR K hK
        have hbW : base ≤ W.heap.size := by have h1 : W1.heap.size ≤ W.heap.size := hk.size; have h2 := HBS.out; omega
        have EB := HE1.out.keep ((Keeps.refl _).drew.trans hk)
        have e0 := EB.c0
        have e1 := EB.c1
        have e2 := EB.c2
        have e3 := EB.c3
        have e4 := EB.c4
        have e5 := EB.c5
        have e6 := EB.c6
        have e7 := EB.c7
        have e8 := EB.c8
        have el := EB.lt
        clear EB
        simp only [fillL, Nat.zero_add, Nat.reduceAdd] at hK ⊢
        go_simp
        refine hK.out _ (entV e) _ (by kernel_rfl) ?_ ?_
        · exact Fr.of (by simp) hk ((Keeps.refl _))
        · exact rfl
      | 5, _ =>
        intro vs W hk hR K hK
        have hbW : base ≤ W.heap.size := by have h1 : W1.heap.size ≤ W.heap.size := hk.size; have h2 := HBS.out; omega
        have h4 : vs 4 = entV e := hR 4 (by kernel_rfl)
        simp only [fillL, Nat.zero_add, Nat.reduceAdd, h4] at hK ⊢
        go_simp
        refine hK.out _ (.slice (some ⟨W.heap.size, 0, none⟩) 1 1) _ (by kernel_rfl) ?_ ?_
        · exact Fr.of (by simp) hk (((Keeps.refl _).alloc _))
        · exact EntsAt.new W [e] (by simp) 1
      | 6, _ =>
        intro vs W hk hR K hK
        have hbW : base ≤ W.heap.size := by have h1 : W1.heap.size ≤ W.heap.size := hk.size; have h2 := HBS.out; omega
        have h3 : W.ownsRow base 32 9 (vs 3) l.length (entCells l) := hR 3 (by kernel_rfl)
        have h5 : EntsAt W (vs 5) [e] := hR 5 (by kernel_rfl)
        simp only [fillL, Nat.zero_add, Nat.reduceAdd] at hK ⊢
        obtain ⟨v', V2, hr, ho, hg⟩ := run_append_read W base 26 26 32 9 72 _ infoEnt Try.underlying26 rfl (by decide) (vs 3) l.length (entCells l) h3 (vs 5) 1 (entCells [e]) (h5) (entCells_one _) (by unfold maxLen; omega) (by omega) hbW
        simp only [List.getElem?_cons_succ, List.getElem?_cons_zero]
        refine step_append_run rfl _ _ 26 rfl (by simp [Act.eval, Act.put]) (by simp [Act.eval, Act.put]) hr ?_
        have hke : Keeps W1.drew V2 := keeps_grown hk hg (fun g h => by have h1 := (h3.lt g h).1; have h2 := HBS.out; show W1.heap.size ≤ g; omega)
        have hF : ∀ (b : Nat) (c : Array Value) (f : Nat × Nat), W.heap[b]? = some (Obj.cells c 25 f) → V2.heap[b]? = some (Obj.cells c 25 f) := fun b c f hb => (hg.block b (Array.getElem?_eq_some_iff.1 hb).1 (fun e' => owns_not h3 hb (by decide) e'.symm)).trans hb
        have hx : EntsAt V2 v' (l ++ [e]) := by
          have := RowAt.of_owns ho
          rw [← entCells_append] at this
          simpa [EntsAt] using this
        refine hK.out _ (v') _ (by kernel_rfl) ?_ ?_
        · refine ⟨fun h => absurd rfl (h _ (List.mem_cons_self ..)), hke, fun x hx e => ?_⟩
          rcases List.mem_cons.1 hx with rfl | hx
          · exact hF
          · rcases List.mem_cons.1 hx with rfl | hx
            · exact absurd e (by decide)
            · cases hx
        · exact hx
      | 7, _ =>
        intro vs W hk hR K hK
        have hbW : base ≤ W.heap.size := by have h1 : W1.heap.size ≤ W.heap.size := hk.size; have h2 := HBS.out; omega
        have h0 : vs 0 = stV zeroSt (.slice none 0 0) := hR 0 (by kernel_rfl)
        have h6 : EntsAt W (vs 6) (l ++ [e]) := hR 6 (by kernel_rfl)
        simp only [fillL, Nat.zero_add, Nat.reduceAdd, h0] at hK ⊢
        go_simp
        refine (HAll.out W (vs 6) h6).mono ?_
        rintro y W' ⟨qa, qn, qc, ra, rc, hI, rfl, hb⟩
        go_simp
        refine hK.out _ (.tuple #[stV S (.slice qa qn qc), .slice ra A.length rc, .int .i64 er]) _ (by kernel_rfl) ?_ ?_
        · exact Fr.of (by simp) hk (hb)
        · exact ⟨qa, qn, qc, ra, rc, hI, rfl⟩
      | 8, _ =>
        intro vs W hk hR K hK
        have hbW : base ≤ W.heap.size := by have h1 : W1.heap.size ≤ W.heap.size := hk.size; have h2 := HBS.out; omega
        have h7 := hR 7 (by kernel_rfl)
        simp only [fillL, Nat.zero_add, Nat.reduceAdd] at hK ⊢
        go_simp
        refine hK.out _ (vs 7) _ (by kernel_rfl) ?_ ?_
        · exact Fr.of (by simp) hk ((Keeps.refl _))
        · exact h7
      | 9, _ =>
        intro vs W hk hR K hK
        have hbW : base ≤ W.heap.size := by have h1 : W1.heap.size ≤ W.heap.size := hk.size; have h2 := HBS.out; omega
        have HX : ∃ qa qn qc ra rc, W.ownsRow 0 3 1 (.slice ra A.length rc) A.length (intCells A) ∧ vs 8 = .tuple #[stV S (.slice qa qn qc), .slice ra A.length rc, .int .i64 er] := hR 8 (by kernel_rfl)
        refine Bx.out ?_
        refine Exists.elim HX (fun qa HX => ?_)
        refine Exists.elim HX (fun qn HX => ?_)
        refine Exists.elim HX (fun qc HX => ?_)
        refine Exists.elim HX (fun ra HX => ?_)
        refine Exists.elim HX (fun rc HX => ?_)
        have hI := HX.1
        have h8 := HX.2
        refine ⟨?_⟩
        simp only [fillL, Nat.zero_add, Nat.reduceAdd, h8] at hK ⊢
        go_simp
        refine hK.out _ (stV S (.slice qa qn qc)) _ (by kernel_rfl) ?_ ?_
        · exact Fr.of (by simp) hk ((Keeps.refl _))
        · exact ⟨qa, qn, qc, rfl⟩
      | 10, _ =>
        intro vs W hk hR K hK
        have hbW : base ≤ W.heap.size := by have h1 : W1.heap.size ≤ W.heap.size := hk.size; have h2 := HBS.out; omega
        have HX : ∃ qa qn qc ra rc, W.ownsRow 0 3 1 (.slice ra A.length rc) A.length (intCells A) ∧ vs 8 = .tuple #[stV S (.slice qa qn qc), .slice ra A.length rc, .int .i64 er] := hR 8 (by kernel_rfl)
        refine Bx.out ?_
        refine Exists.elim HX (fun qa HX => ?_)
        refine Exists.elim HX (fun qn HX => ?_)
        refine Exists.elim HX (fun qc HX => ?_)
        refine Exists.elim HX (fun ra HX => ?_)
        refine Exists.elim HX (fun rc HX => ?_)
        have hI := HX.1
        have h8 := HX.2
        refine ⟨?_⟩
        simp only [fillL, Nat.zero_add, Nat.reduceAdd, h8] at hK ⊢
        go_simp
        refine hK.out _ (.slice ra A.length rc) _ (by kernel_rfl) ?_ ?_
        · exact Fr.of (by simp) hk ((Keeps.refl _))
        · exact ⟨ra, rc, hI, rfl⟩
      | 11, _ =>
        intro vs W hk hR K hK
        have hbW : base ≤ W.heap.size := by have h1 : W1.heap.size ≤ W.heap.size := hk.size; have h2 := HBS.out; omega
        have HX : ∃ qa qn qc ra rc, W.ownsRow 0 3 1 (.slice ra A.length rc) A.length (intCells A) ∧ vs 8 = .tuple #[stV S (.slice qa qn qc), .slice ra A.length rc, .int .i64 er] := hR 8 (by kernel_rfl)
        refine Bx.out ?_
        refine Exists.elim HX (fun qa HX => ?_)
        refine Exists.elim HX (fun qn HX => ?_)
        refine Exists.elim HX (fun qc HX => ?_)
        refine Exists.elim HX (fun ra HX => ?_)
        refine Exists.elim HX (fun rc HX => ?_)
        have hI := HX.1
        have h8 := HX.2
        refine ⟨?_⟩
        simp only [fillL, Nat.zero_add, Nat.reduceAdd, h8] at hK ⊢
        go_simp
        refine hK.out _ (.int .i64 er) _ (by kernel_rfl) ?_ ?_
        · exact Fr.of (by simp) hk ((Keeps.refl _))
        · exact rfl
      | 12, _ =>
        intro vs W hk hR K hK
        have hbW : base ≤ W.heap.size := by have h1 : W1.heap.size ≤ W.heap.size := hk.size; have h2 := HBS.out; omega
        go_simp
        refine hK.out _ (.pointer (some ⟨W.heap.size, 0, none⟩)) _ (by kernel_rfl) ?_ ?_
        · exact Fr.of (by simp) hk (((Keeps.refl _).alloc _))
        · exact ⟨W.heap.size, rfl, hbW, heap_alloc_new W _⟩
      | 13, _ =>
        intro vs W hk hR K hK
        have hbW : base ≤ W.heap.size := by have h1 : W1.heap.size ≤ W.heap.size := hk.size; have h2 := HBS.out; omega
        have HX : ∃ qa qn qc, vs 9 = stV S (.slice qa qn qc) := hR 9 (by kernel_rfl)
        refine Bx.out ?_
        refine Exists.elim HX (fun qa HX => ?_)
        refine Exists.elim HX (fun qn HX => ?_)
        refine Exists.elim HX (fun qc HX => ?_)
        have h9 := HX
        refine ⟨?_⟩
        have HY : ∃ b, vs 12 = .pointer (some ⟨b, 0, none⟩) ∧ base ≤ b ∧ W.heap[b]? = some (.cells #[.int .i64 0, .int .i64 0, .int .i64 0, .int .i64 0, .int .i64 0, .int .i64 0, .slice none 0 0] 25 (0, 0)) := hR 12 (by kernel_rfl)
        refine Bx.out ?_
        refine Exists.elim HY (fun b HY => ?_)
        have h12 := HY.1
        have hb1 := HY.2.1
        have hb2 := HY.2.2
        refine ⟨?_⟩
        simp only [fillL, Nat.zero_add, Nat.reduceAdd, h9, h12] at hK ⊢
        have ZB := stbox_of hb2
        have z0 := ZB.c0
        have z1 := ZB.c1
        have z2 := ZB.c2
        have z3 := ZB.c3
        have z4 := ZB.c4
        have z5 := ZB.c5
        have z6 := ZB.c6
        have zf := ZB.fz
        have zl := ZB.lt
        go_simp
        have BT := But.puts (b := b) W S (.slice qa qn qc)
        refine hK.out _ undef _ (by kernel_rfl) ?_ trivial
        refine ⟨fun h => absurd rfl (h _ (List.mem_cons_of_mem _ (List.mem_cons_self ..))), But.to hk (by show W1.heap.size ≤ b; have h2 := HBS.out; omega) BT, fun x hx e => ?_⟩
        rcases List.mem_cons.1 hx with rfl | hx
        · exact absurd e (by decide)
        · rcases List.mem_cons.1 hx with rfl | hx
          · exact ⟨b, _, _, hb2, BT⟩
          · cases hx
      | 14, _ =>
        intro vs W hk hR K hK
        have hbW : base ≤ W.heap.size := by have h1 : W1.heap.size ≤ W.heap.size := hk.size; have h2 := HBS.out; omega
        have HX : ∃ ra rc, W.ownsRow 0 3 1 (.slice ra A.length rc) A.length (intCells A) ∧ vs 10 = .slice ra A.length rc := hR 10 (by kernel_rfl)
        refine Bx.out ?_
        refine Exists.elim HX (fun ra HX => ?_)
        refine Exists.elim HX (fun rc HX => ?_)
        have hI := HX.1
        have h10 := HX.2
        refine ⟨?_⟩
        simp only [fillL, Nat.zero_add, Nat.reduceAdd, h10] at hK ⊢
        go_simp
        refine hK.out _ (.slice ra A.length rc) _ (by kernel_rfl) ?_ ?_
        · exact Fr.of (by simp) hk ((Keeps.refl _))
        · exact ⟨ra, rc, hI, rfl⟩
      | 15, _ =>
        intro vs W hk hR K hK
        have hbW : base ≤ W.heap.size := by have h1 : W1.heap.size ≤ W.heap.size := hk.size; have h2 := HBS.out; omega
        have h11 : vs 11 = .int .i64 er := hR 11 (by kernel_rfl)
        simp only [fillL, Nat.zero_add, Nat.reduceAdd, h11] at hK ⊢
        go_simp
        refine hK.out _ (.int .i64 er) _ (by kernel_rfl) ?_ ?_
        · exact Fr.of (by simp) hk ((Keeps.refl _))
        · exact rfl
      | k + 16, h => exact absurd h (by simp)
    · intro x hx j hj hd hn hr v W W' hp hf
      rcases List.mem_cons.1 hx with rfl | hx
      · match j, hj with
        | 0, _ => exact hp
        | 1, _ => exact absurd (by decide) hd
        | 2, _ => exact hp
        | 3, _ => exact absurd (by decide) hd
        | 4, _ => exact hp
        | 5, _ => exact absurd (by decide) hd
        | 6, _ => exact absurd rfl hn
        | 7, _ => exact absurd hr (by rw [show reachB _ _ 7 6 = true from by kernel_rfl]; decide)
        | 8, _ => exact absurd hr (by rw [show reachB _ _ 8 6 = true from by kernel_rfl]; decide)
        | 9, _ => exact absurd hr (by rw [show reachB _ _ 9 6 = true from by kernel_rfl]; decide)
        | 10, _ => exact absurd hr (by rw [show reachB _ _ 10 6 = true from by kernel_rfl]; decide)
        | 11, _ => exact absurd hr (by rw [show reachB _ _ 11 6 = true from by kernel_rfl]; decide)
        | 14, _ => exact absurd hr (by rw [show reachB _ _ 14 6 = true from by kernel_rfl]; decide)
        | 15, _ => exact absurd hr (by rw [show reachB _ _ 15 6 = true from by kernel_rfl]; decide)
        | 12, _ =>
          obtain ⟨b, h1, h2, h3⟩ := hp
          exact ⟨b, h1, h2, hf b _ _ h3⟩
        | 13, _ => trivial
        | k + 16, h => exact absurd h (by simp)
      · rcases List.mem_cons.1 hx with rfl | hx
        · obtain ⟨b, c, f, hb, hbt⟩ := hf
          match j, hj with
          | 0, _ => exact hp
          | 1, _ => exact absurd (by decide) hd
          | 2, _ => exact hp
          | 3, _ => exact absurd (by decide) hd
          | 4, _ => exact hp
          | 5, _ => exact absurd (by decide) hd
          | 6, _ => exact absurd (by decide) hd
          | 7, _ =>
            obtain ⟨qa, qn, qc, ra, rc, h1, h2⟩ := hp
            exact ⟨qa, qn, qc, ra, rc, owns_typed h1 hb (by decide) hbt, h2⟩
          | 8, _ =>
            obtain ⟨qa, qn, qc, ra, rc, h1, h2⟩ := hp
            exact ⟨qa, qn, qc, ra, rc, owns_typed h1 hb (by decide) hbt, h2⟩
          | 9, _ => exact hp
          | 10, _ =>
            obtain ⟨ra, rc, h1, h2⟩ := hp
            exact ⟨ra, rc, owns_typed h1 hb (by decide) hbt, h2⟩
          | 11, _ => exact hp
          | 12, _ => exact absurd (by decide) hd
          | 13, _ => exact absurd rfl hn
          | 14, _ =>
            obtain ⟨ra, rc, h1, h2⟩ := hp
            exact ⟨ra, rc, owns_typed h1 hb (by decide) hbt, h2⟩
          | 15, _ => exact hp
          | k + 16, h => exact absurd h (by simp)
        · cases hx
    · intro vs W hk hR
      have H14 : ∃ ra rc, W.ownsRow 0 3 1 (.slice ra A.length rc) A.length (intCells A) ∧ vs 14 = .slice ra A.length rc := hR 14 (by decide) (by simp)
      have h15 : vs 15 = .int .i64 er := hR 15 (by decide) (by simp)
      refine Exists.elim H14 (fun ra H14 => ?_)
      refine Exists.elim H14 (fun rc H14 => ?_)
      have hI := H14.1
      have h14 := H14.2
      clear H14
      simp only [fillL, Nat.zero_add, Nat.reduceAdd, h14, h15]
      go_simp
      go_wp2_with fail
      go_meet
      exact ⟨ra, rc, rfl, rfl, RowAt.of_owns hI, (Keeps.refl _).drew.trans hk⟩
  case rest =>
    obtain ⟨ra, rc, rfl, rfl, hI, hk⟩ := hcut
    obtain ⟨w2, hw2⟩ : ∃ z, z = wc := ⟨_, rfl⟩
    rw [← hw2] at hI hk ⊢
    clear hw2
    have HK12 : Hid (Keeps W1 w2) := hk
    have HK2 : Hid (Keeps w w2) := HK1.out.trans hk
    clear hk
    cases q : (er == 0) with
    | false =>
      have q' : (er != 0) = true := by simp [bne, q]
      clear HPL HAll
      go_wp2_with fail
      refine (pack_begun _).mono ?_
      rintro y w3 ⟨rfl, hb⟩
      have HK3 : Hid (Keeps w w3) := HK2.out.trans hb
      clear hb
      go_wp2_with fail
      go_ret
      exact ⟨rfl, HK3.out⟩
    | true =>
      have q' : (er != 0) = false := by simp [bne, q]
      have q0 : er = 0 := by simpa using q
      obtain ⟨p1, p2, p3, p4, p5⟩ := answer_plain (l := l) (e := e) (by rw [← HPL.out.2.2]; exact q0)
      rw [← HPL.out.1] at p3
      obtain ⟨an, han⟩ : ∃ an, an = oneAns (runSt zeroSt l) e := ⟨_, rfl⟩
      rw [← han] at p3 p5
      have hAl : A.length = l.length + 1 := by rw [p3]; simp [runAns_len]
      obtain ⟨b, off, cap, hv, hc⟩ := hI.at (k := l.length) (by omega)
      have hAn : A[l.length]'(by omega) = an := by
        subst p3
        simp [List.getElem_append_right, runAns_len]
      rw [hAn] at hc
      injection hv with hv1 hv2 hv3
      subst hv1
      clear hv2 hv3
      have HC2 : Hid (w2.cell? ⟨b, off + l.length, none⟩ = some (.int .i64 an)) := hc
      rw [hAl]
      clear hI hc hAn hAl HAll HPL p3 han
      obtain ⟨L0, hL0⟩ : ∃ L0 : Lg, L0 = ⟨zeroSt, l⟩ := ⟨_, rfl⟩
      have HP1 : Hid (lgErr L0 = 0) := by rw [hL0]; exact p1
      have HP4 : Hid (putLgErr L0 e = 0) := by rw [hL0]; exact p4
      have HP5 : Hid (putAns L0 e = an) := by rw [hL0]; exact p5
      have HCut : Hid (∀ (m : Nat), m ≤ l.length → Calls Try.prog 12 #[.agg #[.int .i64 0, .int .i64 0, .int .i64 0, .int .i64 0, .int .i64 0, .int .i64 0, .slice none 0 0, .slice la l.length lc], .int .i64 m] w2 fun y w' => ∃ C qa qc ea ec, TabAt w' (.slice qa C.base.tab.length qc) C.base.tab ∧ EntsAt w' (.slice ea C.tail.length ec) C.tail ∧ C.tail.length ≤ ec ∧ (putLgErr C e = 0 ∧ putAns C e = an) ∧
          y = .returned (.tuple #[lgV C (.slice qa C.base.tab.length qc) (.slice ea C.tail.length ec), .int .i64 0]) ∧ Keeps w2 w') := by
        intro m hm
        subst hL0
        have hmt : m ≤ (⟨zeroSt, l⟩ : Lg).tail.length := hm
        have hcr := cut_right HP1.out hmt
        have hcp := cut_put HP1.out hmt e
        have := pack_cut ⟨zeroSt, l⟩ m (.slice none 0 0) la lc w2 (OwnTab.nil 0 _).tab (HL.out.keep HK2.out) hlc
        rw [hcr.1] at this
        refine this.mono ?_
        rintro y w' ⟨qa, qc, ea, ec, h1, h2, h3, rfl, hb⟩
        exact ⟨cutLg ⟨zeroSt, l⟩ m, qa, qc, ea, ec, h1.tab, RowAt.of_owns h2, h3, ⟨by rw [hcp.1]; exact HP4.out, by rw [hcp.2]; exact HP5.out⟩, rfl, hb⟩
      clear hL0 p1 p4 p5 HP1 HP4 HP5
      clear L0
      go_wp2_with fail
      refine (choose_n n (l.length + 1) w2 n0 n1 (by omega) (by omega)).mono ?_
      rintro y w2' ⟨rn, hr0, hr1, rfl, hw⟩
      subst hw
      obtain ⟨m, rfl⟩ : ∃ m : Nat, rn = m := ⟨rn.toNat, by omega⟩
      have hm : m ≤ l.length := by omega
      clear hr0 hr1 n0 n1
      go_wp2_with fail
      refine (HCut.out m hm).mono ?_
      rintro y w3 ⟨C, qa, qc, ea, ec, hT, hE, hec, hpp, rfl, hb⟩
      have HT3 : Hid (TabAt (w3.alloc (.cells #[.int .i64 C.base.at_, .int .i64 C.base.clock, .int .i64 C.base.v0, .int .i64 C.base.v1, .int .i64 C.base.v2, .int .i64 C.base.v3, .slice qa C.base.tab.length qc, .slice ea C.tail.length ec] 28)) (.slice qa C.base.tab.length qc) C.base.tab) := hT.keep ((Keeps.refl _).alloc _)
      have HE3 : Hid (EntsAt (w3.alloc (.cells #[.int .i64 C.base.at_, .int .i64 C.base.clock, .int .i64 C.base.v0, .int .i64 C.base.v1, .int .i64 C.base.v2, .int .i64 C.base.v3, .slice qa C.base.tab.length qc, .slice ea C.tail.length ec] 28)) (.slice ea C.tail.length ec) C.tail) := hE.keep ((Keeps.refl _).alloc _)
      have HK3 : Hid (Keeps w2 (w3.alloc (.cells #[.int .i64 C.base.at_, .int .i64 C.base.clock, .int .i64 C.base.v0, .int .i64 C.base.v1, .int .i64 C.base.v2, .int .i64 C.base.v3, .slice qa C.base.tab.length qc, .slice ea C.tail.length ec] 28))) := hb.alloc _
      have HB3 : Hid (LgBox w3.heap.size C (.slice qa C.base.tab.length qc) (.slice ea C.tail.length ec) (w3.alloc (.cells #[.int .i64 C.base.at_, .int .i64 C.base.clock, .int .i64 C.base.v0, .int .i64 C.base.v1, .int .i64 C.base.v2, .int .i64 C.base.v3, .slice qa C.base.tab.length qc, .slice ea C.tail.length ec] 28))) := LgBox.new w3 C _ _ rfl rfl 28
      have HPP : Hid (putLgErr C e = 0 ∧ putAns C e = an) := hpp
      have EB := HE1.out.keep (HK12.out.trans HK3.out)
      have e0 := EB.c0
      have e1 := EB.c1
      have e2 := EB.c2
      have e3 := EB.c3
      have e4 := EB.c4
      have e5 := EB.c5
      have e6 := EB.c6
      have e7 := EB.c7
      have e8 := EB.c8
      have el := EB.lt
      clear EB hT hE hb hpp HCut
      go_wp2_with fail
      generalize (w3.alloc (.cells #[.int .i64 C.base.at_, .int .i64 C.base.clock, .int .i64 C.base.v0, .int .i64 C.base.v1, .int .i64 C.base.v2, .int .i64 C.base.v3, .slice qa C.base.tab.length qc, .slice ea C.tail.length ec] 28)) = w4 at *
      generalize w3.heap.size = cb at *
      have := pack_put C e (.slice qa C.base.tab.length qc) ea ec w4 HT3.out HE3.out hec
      rw [HPP.out.1, HPP.out.2] at this
      refine this.mono ?_
      clear this
      rintro y w5 ⟨ua, uc, va, vc, _, _, _, rfl, hb⟩
      generalize putLg C e = P at *
      have HK5 : Hid (Keeps w2 (w5.alloc (.cells #[.int .i64 P.base.at_, .int .i64 P.base.clock, .int .i64 P.base.v0, .int .i64 P.base.v1, .int .i64 P.base.v2, .int .i64 P.base.v3, .slice ua P.base.tab.length uc, .slice va P.tail.length vc] 28))) := (HK3.out.trans hb).alloc _
      clear hb e0 e1 e2 e3 e4 e5 e6 e7 e8 el
      go_wp2_with fail
      generalize (w5.alloc (.cells #[.int .i64 P.base.at_, .int .i64 P.base.clock, .int .i64 P.base.v0, .int .i64 P.base.v1, .int .i64 P.base.v2, .int .i64 P.base.v3, .slice ua P.base.tab.length uc, .slice va P.tail.length vc] 28)) = w6 at *
      refine (pack_begun w6).mono ?_
      rintro y w7 ⟨rfl, hb⟩
      have c7 : w7.cell? ⟨b, off + l.length, none⟩ = some (.int .i64 an) := cell_kept HC2.out (HK5.out.trans hb)
      have cl := World.block_lt_of_cell? _ _ c7
      simp only [] at cl
      have HK7 : Hid (Keeps w w7) := HK2.out.trans (HK5.out.trans hb)
      clear hb
      go_wp2_with fail
      go_ret
      exact ⟨by simp, HK7.out⟩
end Go.Proofs.Yteabfjpajgakiae
