/- PaH. -/
import Derived.Test.YteabfjpajgakiaeJ15
import Derived.Test.YteabfjpajgakiaeJ18
/- PackPuts, PackTrue: the walks. -/
set_option linter.unusedSimpArgs false
set_option linter.unusedVariables false
set_option maxRecDepth 10000
namespace Go.Proofs.Yteabfjpajgakiae
open Go.RowKit

set_option maxHeartbeats 4000000 in
theorem pack_puts (l : Lg) (e : Ent) (x : Value) (ta : Option Addr) (tc : Nat) (w : World) (hT : TabAt w x l.base.tab) (hL : EntsAt w (.slice ta l.tail.length tc) l.tail) (hcap : l.tail.length ≤ tc) :
    Calls Try.prog 3 #[lgV l x (.slice ta l.tail.length tc), entV e] w fun y w' => y = .returned (.bool true) ∧ Keeps w w' := by
  obtain ⟨xa, xc, rfl, _⟩ := hT.len
  have HT : Hid (TabAt w (.slice xa l.base.tab.length xc) l.base.tab) := hT
  have HL : Hid (EntsAt w (.slice ta l.tail.length tc) l.tail) := hL
  clear hT hL
  go_enter Try.func3, Try.ntmps3
  go_wp2_with fail
  obtain ⟨W1, hW1⟩ : ∃ W1, W1 = (w.alloc (.cells #[.int .i64 l.base.at_, .int .i64 l.base.clock, .int .i64 l.base.v0, .int .i64 l.base.v1, .int .i64 l.base.v2, .int .i64 l.base.v3, .slice xa l.base.tab.length xc, .slice ta l.tail.length tc] 28)).alloc (.cells #[.int .i64 e.kind, .int .i64 e.time, .int .i64 e.client, .int .i64 e.seq, .int .i64 e.ack, .int .i64 e.ok, .int .i64 e.okey, .int .i64 e.oto, .int .i64 e.on] 32) := ⟨_, rfl⟩
  have k1 : Keeps w W1 := by rw [hW1]; exact ((Keeps.refl _).alloc _).alloc _
  have B1 : LgBox w.heap.size l (.slice xa l.base.tab.length xc) (.slice ta l.tail.length tc) W1 := by rw [hW1]; exact (LgBox.new w l _ _ rfl rfl 28).keep ((Keeps.refl _).alloc _)
  have E1 : EntBox (w.heap.size + 1) e W1 := by
    rw [hW1]
    have := EntBox.new (w.alloc (.cells #[.int .i64 l.base.at_, .int .i64 l.base.clock, .int .i64 l.base.v0, .int .i64 l.base.v1, .int .i64 l.base.v2, .int .i64 l.base.v3, .slice xa l.base.tab.length xc, .slice ta l.tail.length tc] 28)) e 32
    simp only [World.size_alloc] at this
    exact this
  rw [← hW1]
  clear hW1
  refine (pack_put l e _ ta tc W1 (HT.out.keep k1) (HL.out.keep k1) hcap).mono ?_
  rintro y w1 ⟨ma, mc, na, nc, hO, hE, _, rfl, hb⟩
  have HK1 : Hid (Keeps w w1) := k1.trans hb
  have HB1 := (show Hid _ from B1.keep hb)
  have HE1 := (show Hid _ from E1.keep hb)
  have HO1 : Hid (TabAt w1 (.slice ma (putLg l e).base.tab.length mc) (putLg l e).base.tab) := hO.tab
  have HT1 : Hid (EntsAt w1 (.slice na (putLg l e).tail.length nc) (putLg l e).tail) := RowAt.of_owns hE
  have HC2 : Hid (∀ W, Keeps w1 W → Calls Try.prog 7 #[lgV l (.slice xa l.base.tab.length xc) (.slice ta l.tail.length tc), entV e] W fun y w' => ∃ qa qc ea ec, TabAt w' (.slice qa (putLg l e).base.tab.length qc) (putLg l e).base.tab ∧ EntsAt w' (.slice ea (putLg l e).tail.length ec) (putLg l e).tail ∧ y = .returned (.tuple #[lgV (putLg l e) (.slice qa (putLg l e).base.tab.length qc) (.slice ea (putLg l e).tail.length ec), .int .i64 (putAns l e), .int .i64 (putLgErr l e)]) ∧ Keeps W w') := by
    intro W hk
    refine (pack_put_of l e _ ta tc W (HT.out.keep (HK1.out.trans hk)) (HL.out.keep (HK1.out.trans hk))).mono ?_
    rintro y w' ⟨qa, qc, ea, ec, h1, h2, rfl, hb⟩
    exact ⟨qa, qc, ea, ec, h1.tab, h2, rfl, hb⟩
  clear k1 B1 E1 hO hE hb
  clear W1
  generalize putLgErr l e = er at *
  generalize putAns l e = an at *
  generalize putLg l e = M at *
  have b0 := HB1.out.c0
  have b1 := HB1.out.c1
  have b2 := HB1.out.c2
  have b3 := HB1.out.c3
  have b4 := HB1.out.c4
  have b5 := HB1.out.c5
  have b6 := HB1.out.c6
  have b7 := HB1.out.c7
  have bl := HB1.out.lt
  have e0 := HE1.out.c0
  have e1 := HE1.out.c1
  have e2 := HE1.out.c2
  have e3 := HE1.out.c3
  have e4 := HE1.out.c4
  have e5 := HE1.out.c5
  have e6 := HE1.out.c6
  have e7 := HE1.out.c7
  have e8 := HE1.out.c8
  have el := HE1.out.lt
  go_wp2_with fail
  have B2 : LgBox w1.heap.size M (.slice ma M.base.tab.length mc) (.slice na M.tail.length nc) (w1.alloc (.cells #[.int .i64 M.base.at_, .int .i64 M.base.clock, .int .i64 M.base.v0, .int .i64 M.base.v1, .int .i64 M.base.v2, .int .i64 M.base.v3, .slice ma M.base.tab.length mc, .slice na M.tail.length nc] 28)) := LgBox.new w1 M _ _ rfl rfl 28
  have k12 : Keeps w1 (w1.alloc (.cells #[.int .i64 M.base.at_, .int .i64 M.base.clock, .int .i64 M.base.v0, .int .i64 M.base.v1, .int .i64 M.base.v2, .int .i64 M.base.v3, .slice ma M.base.tab.length mc, .slice na M.tail.length nc] 28)) := (Keeps.refl _).alloc _
  generalize (w1.alloc (.cells #[.int .i64 M.base.at_, .int .i64 M.base.clock, .int .i64 M.base.v0, .int .i64 M.base.v1, .int .i64 M.base.v2, .int .i64 M.base.v3, .slice ma M.base.tab.length mc, .slice na M.tail.length nc] 28)) = w2 at *
  generalize w1.heap.size = mb at *
  refine (HC2.out w2 k12).mono ?_
  rintro y w3 ⟨qa, qc, ea, ec, hQ, hR, rfl, hb⟩
  have k13 := k12.trans hb
  have B3 := B2.keep hb
  clear B2 hb k12 b0 b1 b2 b3 b4 b5 b6 b7 bl e0 e1 e2 e3 e4 e5 e6 e7 e8 el
  go_wp2_with fail
  have B4 : LgBox w3.heap.size M (.slice qa M.base.tab.length qc) (.slice ea M.tail.length ec) (w3.alloc (.cells #[.int .i64 M.base.at_, .int .i64 M.base.clock, .int .i64 M.base.v0, .int .i64 M.base.v1, .int .i64 M.base.v2, .int .i64 M.base.v3, .slice qa M.base.tab.length qc, .slice ea M.tail.length ec] 28)) := LgBox.new w3 M _ _ rfl rfl 28
  have k34 : Keeps w3 (w3.alloc (.cells #[.int .i64 M.base.at_, .int .i64 M.base.clock, .int .i64 M.base.v0, .int .i64 M.base.v1, .int .i64 M.base.v2, .int .i64 M.base.v3, .slice qa M.base.tab.length qc, .slice ea M.tail.length ec] 28)) := (Keeps.refl _).alloc _
  generalize (w3.alloc (.cells #[.int .i64 M.base.at_, .int .i64 M.base.clock, .int .i64 M.base.v0, .int .i64 M.base.v1, .int .i64 M.base.v2, .int .i64 M.base.v3, .slice qa M.base.tab.length qc, .slice ea M.tail.length ec] 28)) = w4 at *
  generalize w3.heap.size = qb at *
  refine (pack_begun w4).mono ?_
  rintro y w5 ⟨rfl, hb⟩
  have k35 := k34.trans hb
  have k15 := k13.trans k35
  have M5 := B3.keep k35
  have Q5 := B4.keep hb
  have m0 := M5.c0
  have m1 := M5.c1
  have m2 := M5.c2
  have m3 := M5.c3
  have m4 := M5.c4
  have m5 := M5.c5
  have m6 := M5.c6
  have m7 := M5.c7
  have ml := M5.lt
  have q0 := Q5.c0
  have q1 := Q5.c1
  have q2 := Q5.c2
  have q3 := Q5.c3
  have q4 := Q5.c4
  have q5 := Q5.c5
  have q6 := Q5.c6
  have q7 := Q5.c7
  have ql := Q5.lt
  have HK5 : Hid (Keeps w w5) := HK1.out.trans k15
  have HS : Hid (Calls Try.prog 9 #[lgV M (.slice ma M.base.tab.length mc) (.slice na M.tail.length nc), lgV M (.slice qa M.base.tab.length qc) (.slice ea M.tail.length ec)] w5 fun e w' => e = .returned (.bool true) ∧ Keeps w5 w') := by
    have := same_logs M M (.slice ma M.base.tab.length mc) (.slice na M.tail.length nc) (.slice qa M.base.tab.length qc) (.slice ea M.tail.length ec) w5 (HO1.out.keep k15) (HT1.out.keep k15) (hQ.keep k35) (hR.keep k35)
    rw [sameLg_self] at this
    exact this
  clear hb k35 k15 k34 k13 B3 B4 M5 Q5 hQ hR HC2
  go_wp2_with fail
  refine HS.out.mono ?_
  rintro y w6 ⟨rfl, hb⟩
  have HK6 : Hid (Keeps w w6) := HK5.out.trans hb
  clear hb m0 m1 m2 m3 m4 m5 m6 m7 ml q0 q1 q2 q3 q4 q5 q6 q7 ql
  go_wp2_with fail
  go_ret
  exact ⟨by simp, HK6.out⟩

/-- What is cut, plain. -/
theorem cut_right {l : Lg} (h : lgErr l = 0) {n : Nat} (hn : n ≤ l.tail.length) : cutErr l n = 0 ∧ cutLg l n = ⟨runSt l.base (l.tail.take n), l.tail.drop n⟩ ∧ lgErr (cutLg l n) = 0 ∧ allSt (cutLg l n).base (cutLg l n).tail = allSt l.base l.tail := by
  have e1 : cutErr l n = 0 := by
    unfold cutErr
    rw [h]
    simp only [beq_self_eq_true, if_true]
    rw [if_pos (inB_iff.2 ⟨by omega, by omega⟩)]
  have e2 : cutLg l n = ⟨runSt l.base (l.tail.take n), l.tail.drop n⟩ := by
    unfold cutLg
    rw [e1]
    simp
  have h2 := (split_right h n).2.1
  refine ⟨e1, e2, by rw [e2]; exact h2, ?_⟩
  rw [e2]
  unfold allSt
  have h' : foldErr l.base l.tail = 0 := h
  simp only [h2, h', beq_self_eq_true, if_true]
  rw [← runSt_append, List.take_append_drop]
theorem cut_twice {l : Lg} (h : lgErr l = 0) {n m : Nat} (hn : n ≤ l.tail.length) (hm : m ≤ l.tail.length - n) : cutErr (cutLg l n) m = 0 ∧ cutErr l ((n : Int) + m) = 0 ∧ cutLg (cutLg l n) m = cutLg l ((n : Int) + m) := by
  obtain ⟨a1, a2, a3, _⟩ := cut_right h hn
  have hl : (cutLg l n).tail.length = l.tail.length - n := by rw [a2]; simp
  obtain ⟨b1, b2, _, _⟩ := cut_right a3 (n := m) (by rw [hl]; exact hm)
  have hs : ((n : Int) + m) = ((n + m : Nat) : Int) := by simp
  obtain ⟨c1, c2, _, _⟩ := cut_right h (n := n + m) (by omega)
  rw [hs]
  refine ⟨b1, c1, ?_⟩
  rw [b2, c2, a2]
  simp only [Lg.mk.injEq]
  refine ⟨?_, by rw [List.drop_drop]⟩
  rw [← runSt_append]
  congr 1
  rw [List.take_add]
theorem cut_put {l : Lg} (h : lgErr l = 0) {n : Nat} (hn : n ≤ l.tail.length) (e : Ent) : putLgErr (cutLg l n) e = putLgErr l e ∧ putAns (cutLg l n) e = putAns l e := by
  obtain ⟨a1, a2, a3, _⟩ := cut_right h hn
  have hr := run_right (L := l.tail.take n) (fold_right h).1 (fun x hx => (fold_right h).2.1 x (List.mem_of_mem_take hx)) (by have := (fold_right h).2.2; simp; omega)
  have hat : (cutLg l n).base.at_ + (cutLg l n).tail.length = l.base.at_ + l.tail.length := by
    rw [a2]
    show (runSt l.base (l.tail.take n)).at_ + ((l.tail.drop n).length : Int) = _
    rw [hr.2]
    simp
    omega
  have e1 : putLgErr (cutLg l n) e = putLgErr l e := by
    unfold putLgErr
    rw [a3, h, hat]
  refine ⟨e1, ?_⟩
  unfold putAns
  rw [e1, a2]
  simp only []
  rw [← runSt_append, List.take_append_drop]

set_option maxHeartbeats 8000000 in
theorem pack_true (l : Lg) (a b : Int) (e : Ent) (x : Value) (ta : Option Addr) (tc : Nat) (w : World) (hT : TabAt w x l.base.tab) (hL : EntsAt w (.slice ta l.tail.length tc) l.tail) (hcap : l.tail.length ≤ tc)
    (a0 : -9223372036854775808 ≤ a) (a1 : a ≤ 9223372036854775807) (hb0 : -9223372036854775808 ≤ b) (hb1 : b ≤ 9223372036854775807) :
    Calls Try.prog 4 #[lgV l x (.slice ta l.tail.length tc), .int .i64 a, .int .i64 b, entV e] w fun y w' => y = .returned (.bool true) ∧ Keeps w w' := by
  obtain ⟨xa, xc, rfl, _⟩ := hT.len
  have HT : Hid (TabAt w (.slice xa l.base.tab.length xc) l.base.tab) := hT
  have HL : Hid (EntsAt w (.slice ta l.tail.length tc) l.tail) := hL
  clear hT hL
  go_enter Try.func4, Try.ntmps4
  go_wp2_with fail
  obtain ⟨W1, hW1⟩ : ∃ W1, W1 = (w.alloc (.cells #[.int .i64 l.base.at_, .int .i64 l.base.clock, .int .i64 l.base.v0, .int .i64 l.base.v1, .int .i64 l.base.v2, .int .i64 l.base.v3, .slice xa l.base.tab.length xc, .slice ta l.tail.length tc] 28)).alloc (.cells #[.int .i64 e.kind, .int .i64 e.time, .int .i64 e.client, .int .i64 e.seq, .int .i64 e.ack, .int .i64 e.ok, .int .i64 e.okey, .int .i64 e.oto, .int .i64 e.on] 32) := ⟨_, rfl⟩
  have k1 : Keeps w W1 := by rw [hW1]; exact ((Keeps.refl _).alloc _).alloc _
  have B1 : LgBox w.heap.size l (.slice xa l.base.tab.length xc) (.slice ta l.tail.length tc) W1 := by rw [hW1]; exact (LgBox.new w l _ _ rfl rfl 28).keep ((Keeps.refl _).alloc _)
  have E1 : EntBox (w.heap.size + 1) e W1 := by
    rw [hW1]
    have := EntBox.new (w.alloc (.cells #[.int .i64 l.base.at_, .int .i64 l.base.clock, .int .i64 l.base.v0, .int .i64 l.base.v1, .int .i64 l.base.v2, .int .i64 l.base.v3, .slice xa l.base.tab.length xc, .slice ta l.tail.length tc] 28)) e 32
    simp only [World.size_alloc] at this
    exact this
  rw [← hW1]
  clear hW1
  refine (pack_end l _ ta tc W1 (HT.out.keep k1) (HL.out.keep k1) hcap).mono ?_
  rintro y w1 ⟨sa, sc, hO, rfl, hb⟩
  have HK1 : Hid (Keeps w w1) := k1.trans hb
  have HB1 : Hid (LgBox w.heap.size l (.slice xa l.base.tab.length xc) (.slice ta l.tail.length tc) w1) := B1.keep hb
  have HE1 : Hid (EntBox (w.heap.size + 1) e w1) := E1.keep hb
  have HO1 : Hid (TabAt w1 (.slice sa (allSt l.base l.tail).tab.length sc) (allSt l.base l.tail).tab) := hO.tab
  clear k1 B1 E1 hO hb
  clear W1
  cases q : (lgErr l == 0) with
  | false =>
    have q' : (lgErr l != 0) = true := by simp [bne, q]
    generalize lgErr l = er at *
    generalize allSt l.base l.tail = s at *
    go_wp2_with fail
    refine (pack_begun _).mono ?_
    rintro y w2 ⟨rfl, hb⟩
    have HK2 : Hid (Keeps w w2) := (HK1.out.alloc _).trans hb
    clear hb
    go_wp2_with fail
    go_ret
    exact ⟨rfl, HK2.out⟩
  | true =>
    have q' : (lgErr l != 0) = false := by simp [bne, q]
    have q0 : lgErr l = 0 := by simpa using q
    have h50 : l.tail.length ≤ 50 := by have := fold_right q0; have := (stErr_bounds this.1).1; omega
    have HQ0 : Hid (lgErr l = 0) := q0
    clear q0
    obtain ⟨s, hs⟩ : ∃ s, s = allSt l.base l.tail := ⟨_, rfl⟩
    rw [← hs] at HO1 ⊢
    have HS : Hid (s = allSt l.base l.tail) := hs
    clear hs
    obtain ⟨er, her⟩ : ∃ er, er = lgErr l := ⟨_, rfl⟩
    rw [← her] at q' ⊢
    clear her q
    have b0 := HB1.out.c0
    have b1 := HB1.out.c1
    have b2 := HB1.out.c2
    have b3 := HB1.out.c3
    have b4 := HB1.out.c4
    have b5 := HB1.out.c5
    have b6 := HB1.out.c6
    have b7 := HB1.out.c7
    have bl := HB1.out.lt
    go_wp2_with fail
    have B2 : StBox w1.heap.size s (.slice sa s.tab.length sc) (w1.alloc (.cells #[.int .i64 s.at_, .int .i64 s.clock, .int .i64 s.v0, .int .i64 s.v1, .int .i64 s.v2, .int .i64 s.v3, .slice sa s.tab.length sc] 25)) := StBox.new w1 s _ 25
    have k12 : Keeps w1 (w1.alloc (.cells #[.int .i64 s.at_, .int .i64 s.clock, .int .i64 s.v0, .int .i64 s.v1, .int .i64 s.v2, .int .i64 s.v3, .slice sa s.tab.length sc] 25)) := (Keeps.refl _).alloc _
    generalize (w1.alloc (.cells #[.int .i64 s.at_, .int .i64 s.clock, .int .i64 s.v0, .int .i64 s.v1, .int .i64 s.v2, .int .i64 s.v3, .slice sa s.tab.length sc] 25)) = w2 at *
    generalize w1.heap.size = sb at *
    have HK2 : Hid (Keeps w w2) := HK1.out.trans k12
    have HS2 : Hid (StBox sb s (.slice sa s.tab.length sc) w2) := B2
    have HB2 : Hid (LgBox w.heap.size l (.slice xa l.base.tab.length xc) (.slice ta l.tail.length tc) w2) := HB1.out.keep k12
    have HE2 : Hid (EntBox (w.heap.size + 1) e w2) := HE1.out.keep k12
    have HO2 : Hid (TabAt w2 (.slice sa s.tab.length sc) s.tab) := HO1.out.keep k12
    clear B2 k12 HK1 HB1 HE1 HO1 b0 b1 b2 b3 b4 b5 b6 b7 bl
    refine (choose_n a (l.tail.length + 1) w2 a0 a1 (by omega) (by omega)).mono ?_
    rintro y w2' ⟨rn, hr0, hr1, rfl, hw⟩
    subst hw
    obtain ⟨n, rfl⟩ : ∃ n : Nat, rn = n := ⟨rn.toNat, by omega⟩
    have hn : n ≤ l.tail.length := by omega
    clear hr0 hr1 a0 a1
    have b0 := HB2.out.c0
    have b1 := HB2.out.c1
    have b2 := HB2.out.c2
    have b3 := HB2.out.c3
    have b4 := HB2.out.c4
    have b5 := HB2.out.c5
    have b6 := HB2.out.c6
    have b7 := HB2.out.c7
    have bl := HB2.out.lt
    go_wp2_with fail
    refine (choose_n b ((l.tail.length : Int) - n + 1) w2 hb0 hb1 (by omega) (by omega)).mono ?_
    rintro y w2' ⟨rm, hr0, hr1, rfl, hw⟩
    subst hw
    obtain ⟨m, rfl⟩ : ∃ m : Nat, rm = m := ⟨rm.toNat, by omega⟩
    have hm : m ≤ l.tail.length - n := by omega
    clear hr0 hr1 hb0 hb1
    have HCR := (show Hid _ from cut_right HQ0.out hn)
    have HCT := (show Hid _ from cut_twice HQ0.out hn hm)
    have HCP := (show Hid _ from cut_put HQ0.out hn e)
    have hnb : (n : Int) ≤ 50 := by omega
    have hmb : (m : Int) ≤ 50 := by omega
    go_wp2_with fail
    refine (pack_cut l n _ ta tc w2 (HT.out.keep HK2.out) (HL.out.keep HK2.out) hcap).mono ?_
    rintro y w3 ⟨ma, mc, na, nc, hO, hE, hnc, rfl, hb⟩
    rw [HCR.out.1]
    obtain ⟨M, hM⟩ : ∃ M, M = cutLg l n := ⟨_, rfl⟩
    rw [← hM] at hO hE hnc HCR HCT HCP ⊢
    have HM : Hid (M = cutLg l n) := hM
    have HK23 : Hid (Keeps w2 w3) := hb
    have HO3 : Hid (TabAt w3 (.slice ma M.base.tab.length mc) M.base.tab) := hO.tab
    have HT3 : Hid (EntsAt w3 (.slice na M.tail.length nc) M.tail) := RowAt.of_owns hE
    clear hO hE hb hM b0 b1 b2 b3 b4 b5 b6 b7 bl
    go_wp2_with fail
    have B4 : LgBox w3.heap.size M (.slice ma M.base.tab.length mc) (.slice na M.tail.length nc) (w3.alloc (.cells #[.int .i64 M.base.at_, .int .i64 M.base.clock, .int .i64 M.base.v0, .int .i64 M.base.v1, .int .i64 M.base.v2, .int .i64 M.base.v3, .slice ma M.base.tab.length mc, .slice na M.tail.length nc] 28)) := LgBox.new w3 M _ _ rfl rfl 28
    have k34 : Keeps w3 (w3.alloc (.cells #[.int .i64 M.base.at_, .int .i64 M.base.clock, .int .i64 M.base.v0, .int .i64 M.base.v1, .int .i64 M.base.v2, .int .i64 M.base.v3, .slice ma M.base.tab.length mc, .slice na M.tail.length nc] 28)) := (Keeps.refl _).alloc _
    generalize (w3.alloc (.cells #[.int .i64 M.base.at_, .int .i64 M.base.clock, .int .i64 M.base.v0, .int .i64 M.base.v1, .int .i64 M.base.v2, .int .i64 M.base.v3, .slice ma M.base.tab.length mc, .slice na M.tail.length nc] 28)) = w4 at *
    generalize w3.heap.size = mb at *
    have HM4 : Hid (LgBox mb M (.slice ma M.base.tab.length mc) (.slice na M.tail.length nc) w4) := B4
    have HK24 : Hid (Keeps w2 w4) := HK23.out.trans k34
    have HO4 : Hid (TabAt w4 (.slice ma M.base.tab.length mc) M.base.tab) := HO3.out.keep k34
    have HT4 : Hid (EntsAt w4 (.slice na M.tail.length nc) M.tail) := HT3.out.keep k34
    clear B4 k34 HK23 HO3 HT3
    refine (pack_cut M m _ na nc w4 HO4.out HT4.out hnc).mono ?_
    rintro y w5 ⟨ya, yc, za, zc, hO, hE, _, rfl, hb⟩
    rw [HCT.out.1]
    obtain ⟨Y, hY⟩ : ∃ Y, Y = cutLg M m := ⟨_, rfl⟩
    rw [← hY] at hO hE HCT ⊢
    have HK45 : Hid (Keeps w4 w5) := hb
    have HOY : Hid (TabAt w5 (.slice ya Y.base.tab.length yc) Y.base.tab) := hO.tab
    have HTY : Hid (EntsAt w5 (.slice za Y.tail.length zc) Y.tail) := RowAt.of_owns hE
    clear hO hE hb hY
    have hB := HB2.out.keep (HK24.out.trans HK45.out)
    have b0 := hB.c0
    have b1 := hB.c1
    have b2 := hB.c2
    have b3 := hB.c3
    have b4 := hB.c4
    have b5 := hB.c5
    have b6 := hB.c6
    have b7 := hB.c7
    have bl := hB.lt
    clear hB
    go_wp2_with fail
    have B6 : LgBox w5.heap.size Y (.slice ya Y.base.tab.length yc) (.slice za Y.tail.length zc) (w5.alloc (.cells #[.int .i64 Y.base.at_, .int .i64 Y.base.clock, .int .i64 Y.base.v0, .int .i64 Y.base.v1, .int .i64 Y.base.v2, .int .i64 Y.base.v3, .slice ya Y.base.tab.length yc, .slice za Y.tail.length zc] 28)) := LgBox.new w5 Y _ _ rfl rfl 28
    have k56 : Keeps w5 (w5.alloc (.cells #[.int .i64 Y.base.at_, .int .i64 Y.base.clock, .int .i64 Y.base.v0, .int .i64 Y.base.v1, .int .i64 Y.base.v2, .int .i64 Y.base.v3, .slice ya Y.base.tab.length yc, .slice za Y.tail.length zc] 28)) := (Keeps.refl _).alloc _
    generalize (w5.alloc (.cells #[.int .i64 Y.base.at_, .int .i64 Y.base.clock, .int .i64 Y.base.v0, .int .i64 Y.base.v1, .int .i64 Y.base.v2, .int .i64 Y.base.v3, .slice ya Y.base.tab.length yc, .slice za Y.tail.length zc] 28)) = w6 at *
    generalize w5.heap.size = yb at *
    have HY6 : Hid (LgBox yb Y (.slice ya Y.base.tab.length yc) (.slice za Y.tail.length zc) w6) := B6
    have HK46 : Hid (Keeps w4 w6) := HK45.out.trans k56
    have HOY6 : Hid (TabAt w6 (.slice ya Y.base.tab.length yc) Y.base.tab) := HOY.out.keep k56
    have HTY6 : Hid (EntsAt w6 (.slice za Y.tail.length zc) Y.tail) := HTY.out.keep k56
    clear B6 k56 HK45 HOY HTY b0 b1 b2 b3 b4 b5 b6 b7 bl
    refine (pack_cut l ((n : Int) + m) _ ta tc w6 (HT.out.keep (HK2.out.trans (HK24.out.trans HK46.out))) (HL.out.keep (HK2.out.trans (HK24.out.trans HK46.out))) hcap).mono ?_
    rintro y w7 ⟨ua, uc, va, vc, hO, hE, _, rfl, hb⟩
    rw [HCT.out.2.1]
    rw [← HCT.out.2.2] at hO hE ⊢
    have HK67 : Hid (Keeps w6 w7) := hb
    have HOZ : Hid (TabAt w7 (.slice ua Y.base.tab.length uc) Y.base.tab) := hO.tab
    have HTZ : Hid (EntsAt w7 (.slice va Y.tail.length vc) Y.tail) := RowAt.of_owns hE
    clear hO hE hb
    have hM7 := HM4.out.keep (HK46.out.trans HK67.out)
    have m0 := hM7.c0
    have m1 := hM7.c1
    have m2 := hM7.c2
    have m3 := hM7.c3
    have m4 := hM7.c4
    have m5 := hM7.c5
    have m6 := hM7.c6
    have m7 := hM7.c7
    have ml := hM7.lt
    clear hM7
    go_wp2_with fail
    have B8 : LgBox w7.heap.size Y (.slice ua Y.base.tab.length uc) (.slice va Y.tail.length vc) (w7.alloc (.cells #[.int .i64 Y.base.at_, .int .i64 Y.base.clock, .int .i64 Y.base.v0, .int .i64 Y.base.v1, .int .i64 Y.base.v2, .int .i64 Y.base.v3, .slice ua Y.base.tab.length uc, .slice va Y.tail.length vc] 28)) := LgBox.new w7 Y _ _ rfl rfl 28
    have k78 : Keeps w7 (w7.alloc (.cells #[.int .i64 Y.base.at_, .int .i64 Y.base.clock, .int .i64 Y.base.v0, .int .i64 Y.base.v1, .int .i64 Y.base.v2, .int .i64 Y.base.v3, .slice ua Y.base.tab.length uc, .slice va Y.tail.length vc] 28)) := (Keeps.refl _).alloc _
    generalize (w7.alloc (.cells #[.int .i64 Y.base.at_, .int .i64 Y.base.clock, .int .i64 Y.base.v0, .int .i64 Y.base.v1, .int .i64 Y.base.v2, .int .i64 Y.base.v3, .slice ua Y.base.tab.length uc, .slice va Y.tail.length vc] 28)) = w8 at *
    generalize w7.heap.size = zb at *
    have HZ8 : Hid (LgBox zb Y (.slice ua Y.base.tab.length uc) (.slice va Y.tail.length vc) w8) := B8
    have HK48 : Hid (Keeps w4 w8) := (HK46.out.trans HK67.out).trans k78
    have HK68 : Hid (Keeps w6 w8) := HK67.out.trans k78
    have HOZ8 : Hid (TabAt w8 (.slice ua Y.base.tab.length uc) Y.base.tab) := HOZ.out.keep k78
    have HTZ8 : Hid (EntsAt w8 (.slice va Y.tail.length vc) Y.tail) := HTZ.out.keep k78
    clear B8 k78 HK67 HOZ HTZ m0 m1 m2 m3 m4 m5 m6 m7 ml
    refine (pack_end M _ na nc w8 (HO4.out.keep HK48.out) (HT4.out.keep HK48.out) hnc).mono ?_
    rintro y w9 ⟨da, dc, hO, rfl, hb⟩
    rw [HCR.out.2.2.1]
    rw [HCR.out.2.2.2, ← HS.out] at hO ⊢
    have HK89 : Hid (Keeps w8 w9) := hb
    have HO9 : Hid (TabAt w9 (.slice da s.tab.length dc) s.tab) := hO.tab
    clear hO hb
    have BA : StBox w9.heap.size s (.slice da s.tab.length dc) (w9.alloc (.cells #[.int .i64 s.at_, .int .i64 s.clock, .int .i64 s.v0, .int .i64 s.v1, .int .i64 s.v2, .int .i64 s.v3, .slice da s.tab.length dc] 25)) := StBox.new w9 s _ 25
    have k9A : Keeps w9 (w9.alloc (.cells #[.int .i64 s.at_, .int .i64 s.clock, .int .i64 s.v0, .int .i64 s.v1, .int .i64 s.v2, .int .i64 s.v3, .slice da s.tab.length dc] 25)) := (Keeps.refl _).alloc _
    have HK8A : Hid (Keeps w8 (w9.alloc (.cells #[.int .i64 s.at_, .int .i64 s.clock, .int .i64 s.v0, .int .i64 s.v1, .int .i64 s.v2, .int .i64 s.v3, .slice da s.tab.length dc] 25))) := HK89.out.trans k9A
    have hsA := HS2.out.keep (HK24.out.trans (HK48.out.trans HK8A.out))
    have s0 := hsA.c0
    have s1 := hsA.c1
    have s2 := hsA.c2
    have s3 := hsA.c3
    have s4 := hsA.c4
    have s5 := hsA.c5
    have s6 := hsA.c6
    have sl := hsA.lt
    have HOA : Hid (TabAt (w9.alloc (.cells #[.int .i64 s.at_, .int .i64 s.clock, .int .i64 s.v0, .int .i64 s.v1, .int .i64 s.v2, .int .i64 s.v3, .slice da s.tab.length dc] 25)) (.slice da s.tab.length dc) s.tab) := HO9.out.keep k9A
    clear hsA BA k9A
    go_wp2_with fail
    generalize (w9.alloc (.cells #[.int .i64 s.at_, .int .i64 s.clock, .int .i64 s.v0, .int .i64 s.v1, .int .i64 s.v2, .int .i64 s.v3, .slice da s.tab.length dc] 25)) = wA at *
    have HSC : Hid (Calls Try.prog 13 #[stV s (.slice sa s.tab.length sc), stV s (.slice da s.tab.length dc)] wA fun e w' => e = .returned (.bool true) ∧ Keeps wA w') := by
      have := same_of s s (.slice sa s.tab.length sc) (.slice da s.tab.length dc) wA (HO2.out.keep (HK24.out.trans (HK48.out.trans HK8A.out))) HOA.out
      rw [same_self] at this
      exact this
    refine HSC.out.mono ?_
    rintro y wB ⟨rfl, hb⟩
    have HK8B : Hid (Keeps w8 wB) := HK8A.out.trans hb
    have hyB := HY6.out.keep (HK68.out.trans HK8B.out)
    have hzB := HZ8.out.keep HK8B.out
    have HSL : Hid (Calls Try.prog 9 #[lgV Y (.slice ya Y.base.tab.length yc) (.slice za Y.tail.length zc), lgV Y (.slice ua Y.base.tab.length uc) (.slice va Y.tail.length vc)] wB fun e w' => e = .returned (.bool true) ∧ Keeps wB w') := by
      have := same_logs Y Y (.slice ya Y.base.tab.length yc) (.slice za Y.tail.length zc) (.slice ua Y.base.tab.length uc) (.slice va Y.tail.length vc) wB (HOY6.out.keep (HK68.out.trans HK8B.out)) (HTY6.out.keep (HK68.out.trans HK8B.out)) (HOZ8.out.keep HK8B.out) (HTZ8.out.keep HK8B.out)
      rw [sameLg_self] at this
      exact this
    have y0 := hyB.c0
    have y1 := hyB.c1
    have y2 := hyB.c2
    have y3 := hyB.c3
    have y4 := hyB.c4
    have y5 := hyB.c5
    have y6 := hyB.c6
    have y7 := hyB.c7
    have yl := hyB.lt
    have z0 := hzB.c0
    have z1 := hzB.c1
    have z2 := hzB.c2
    have z3 := hzB.c3
    have z4 := hzB.c4
    have z5 := hzB.c5
    have z6 := hzB.c6
    have z7 := hzB.c7
    have zl := hzB.lt
    clear hb hyB hzB HSC s0 s1 s2 s3 s4 s5 s6 sl
    go_wp2_with fail
    refine HSL.out.mono ?_
    rintro y wC ⟨rfl, hb⟩
    have HK8C : Hid (Keeps w8 wC) := HK8B.out.trans hb
    have hmC := HM4.out.keep (HK48.out.trans HK8C.out)
    have m0 := hmC.c0
    have m1 := hmC.c1
    have m2 := hmC.c2
    have m3 := hmC.c3
    have m4 := hmC.c4
    have m5 := hmC.c5
    have m6 := hmC.c6
    have m7 := hmC.c7
    have ml := hmC.lt
    clear hb hmC HSL y0 y1 y2 y3 y4 y5 y6 y7 yl z0 z1 z2 z3 z4 z5 z6 z7 zl
    go_wp2_with fail
    refine (pack_check M _ _ wC (HO4.out.keep (HK48.out.trans HK8C.out)) (HT4.out.keep (HK48.out.trans HK8C.out))).mono ?_
    rintro y wD ⟨rfl, hb⟩
    rw [HCR.out.2.2.1]
    have HK4D : Hid (Keeps w4 wD) := (HK48.out.trans HK8C.out).trans hb
    have HK2D : Hid (Keeps w2 wD) := HK24.out.trans HK4D.out
    have hbD := HB2.out.keep HK2D.out
    have heD := HE2.out.keep HK2D.out
    have b0 := hbD.c0
    have b1 := hbD.c1
    have b2 := hbD.c2
    have b3 := hbD.c3
    have b4 := hbD.c4
    have b5 := hbD.c5
    have b6 := hbD.c6
    have b7 := hbD.c7
    have bl := hbD.lt
    have e0 := heD.c0
    have e1 := heD.c1
    have e2 := heD.c2
    have e3 := heD.c3
    have e4 := heD.c4
    have e5 := heD.c5
    have e6 := heD.c6
    have e7 := heD.c7
    have e8 := heD.c8
    have el := heD.lt
    clear hb hbD heD m0 m1 m2 m3 m4 m5 m6 m7 ml
    go_wp2_with fail
    refine (pack_put l e _ ta tc wD (HT.out.keep (HK2.out.trans HK2D.out)) (HL.out.keep (HK2.out.trans HK2D.out)) hcap).mono ?_
    rintro y wE ⟨pa, pc, oa, oc, _, _, _, rfl, hb⟩
    have HK4E : Hid (Keeps w4 wE) := HK4D.out.trans hb
    clear hb b0 b1 b2 b3 b4 b5 b6 b7 bl e0 e1 e2 e3 e4 e5 e6 e7 e8 el
    obtain ⟨P1, hP1⟩ : ∃ P, P = putLg l e := ⟨_, rfl⟩
    obtain ⟨an, han⟩ : ∃ P, P = putAns l e := ⟨_, rfl⟩
    obtain ⟨pe, hpe⟩ : ∃ P, P = putLgErr l e := ⟨_, rfl⟩
    rw [← hP1, ← han, ← hpe]
    rw [← han, ← hpe] at HCP
    clear hP1 han hpe
    have hmE := HM4.out.keep (HK4E.out.alloc (.cells #[.int .i64 P1.base.at_, .int .i64 P1.base.clock, .int .i64 P1.base.v0, .int .i64 P1.base.v1, .int .i64 P1.base.v2, .int .i64 P1.base.v3, .slice pa P1.base.tab.length pc, .slice oa P1.tail.length oc] 28))
    have heE := HE2.out.keep (HK24.out.trans (HK4E.out.alloc (.cells #[.int .i64 P1.base.at_, .int .i64 P1.base.clock, .int .i64 P1.base.v0, .int .i64 P1.base.v1, .int .i64 P1.base.v2, .int .i64 P1.base.v3, .slice pa P1.base.tab.length pc, .slice oa P1.tail.length oc] 28)))
    have m0 := hmE.c0
    have m1 := hmE.c1
    have m2 := hmE.c2
    have m3 := hmE.c3
    have m4 := hmE.c4
    have m5 := hmE.c5
    have m6 := hmE.c6
    have m7 := hmE.c7
    have ml := hmE.lt
    have e0 := heE.c0
    have e1 := heE.c1
    have e2 := heE.c2
    have e3 := heE.c3
    have e4 := heE.c4
    have e5 := heE.c5
    have e6 := heE.c6
    have e7 := heE.c7
    have e8 := heE.c8
    have el := heE.lt
    clear hmE heE
    go_wp2_with fail
    have HK4F : Hid (Keeps w4 (wE.alloc (.cells #[.int .i64 P1.base.at_, .int .i64 P1.base.clock, .int .i64 P1.base.v0, .int .i64 P1.base.v1, .int .i64 P1.base.v2, .int .i64 P1.base.v3, .slice pa P1.base.tab.length pc, .slice oa P1.tail.length oc] 28))) := HK4E.out.alloc _
    generalize (wE.alloc (.cells #[.int .i64 P1.base.at_, .int .i64 P1.base.clock, .int .i64 P1.base.v0, .int .i64 P1.base.v1, .int .i64 P1.base.v2, .int .i64 P1.base.v3, .slice pa P1.base.tab.length pc, .slice oa P1.tail.length oc] 28)) = wF at *
    refine (pack_put M e _ na nc wF (HO4.out.keep HK4F.out) (HT4.out.keep HK4F.out) hnc).mono ?_
    rintro y wG ⟨ra, rc, ia, ic, _, _, _, rfl, hb⟩
    rw [HCP.out.1, HCP.out.2]
    have HKG : Hid (Keeps w wG) := HK2.out.trans (HK24.out.trans (HK4F.out.trans hb))
    clear hb m0 m1 m2 m3 m4 m5 m6 m7 ml e0 e1 e2 e3 e4 e5 e6 e7 e8 el
    generalize putLg M e = P2 at *
    go_wp2_with fail
    refine (pack_begun _).mono ?_
    rintro y wH ⟨rfl, hb⟩
    have HKH : Hid (Keeps w wH) := (HKG.out.alloc _).trans hb
    clear hb
    go_wp2_with fail
    go_ret
    exact ⟨by simp, HKH.out⟩
end Go.Proofs.Yteabfjpajgakiae
