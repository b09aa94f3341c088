/- PaF. -/
import Derived.Test.YteabfjpajgakiadJ17
import Derived.Test.YteabfjpajgakiadJ18
/- PackTells, PackCuts: the walks. -/
set_option linter.unusedSimpArgs false
set_option linter.unusedVariables false
set_option maxRecDepth 10000
namespace Go.Proofs.Yteabfjpajgakiad
open Go.RowKit

set_option maxHeartbeats 4000000 in
theorem pack_tells (l : Lg) (x : Value) (ta : Option Addr) (tc : Nat) (w : World) (hT : TabAt w x l.base.tab) (hL : EntsAt w (.slice ta l.tail.length tc) l.tail) (hcap : l.tail.length ≤ tc) :
    Calls Try.prog 7 #[lgV l x (.slice ta l.tail.length tc)] w fun y w' => y = .returned (.bool true) ∧ Keeps w w' := by
  obtain ⟨xa, xc, rfl, _⟩ := hT.len
  have HT : Hid (TabAt w (.slice xa l.base.tab.length xc) l.base.tab) := hT
  have HL : Hid (EntsAt w (.slice ta l.tail.length tc) l.tail) := hL
  clear hT hL
  go_enter Try.func7, Try.ntmps7
  go_wp2_with fail
  obtain ⟨W1, hW1⟩ : ∃ W1, W1 = w.alloc (.cells #[.int .i64 l.base.at_, .int .i64 l.base.clock, .int .i64 l.base.v0, .int .i64 l.base.v1, .int .i64 l.base.v2, .int .i64 l.base.v3, .slice xa l.base.tab.length xc, .slice ta l.tail.length tc] 47) := ⟨_, rfl⟩
  have k1 : Keeps w W1 := by rw [hW1]; exact (Keeps.refl _).alloc _
  have B1 : LgBox w.heap.size l (.slice xa l.base.tab.length xc) (.slice ta l.tail.length tc) W1 := by rw [hW1]; exact LgBox.new w l _ _ rfl rfl 47
  rw [← hW1]
  clear hW1
  refine (pack_end l _ ta tc W1 (HT.out.keep k1) (HL.out.keep k1) hcap).mono ?_
  rintro y w1 ⟨ea, ec, hO, rfl, hb⟩
  have HK1 : Hid (Keeps w w1) := k1.trans hb
  have HB1 : Hid (LgBox w.heap.size l (.slice xa l.base.tab.length xc) (.slice ta l.tail.length tc) w1) := B1.keep hb
  have HO1 : Hid (TabAt w1 (.slice ea (allSt l.base l.tail).tab.length ec) (allSt l.base l.tail).tab) := hO.tab
  have HC2 : Hid (∀ W, Keeps w1 W → Calls Try.prog 22 #[lgV l (.slice xa l.base.tab.length xc) (.slice ta l.tail.length tc)] W fun y w' => ∃ qa qc, TabAt w' (.slice qa (allSt l.base l.tail).tab.length qc) (allSt l.base l.tail).tab ∧ y = .returned (.tuple #[stV (allSt l.base l.tail) (.slice qa (allSt l.base l.tail).tab.length qc), .int .i64 (lgErr l)]) ∧ Keeps W w') := by
    intro W hk
    refine (end_of l _ ta tc W (HT.out.keep (HK1.out.trans hk)) (HL.out.keep (HK1.out.trans hk))).mono ?_
    rintro y w' ⟨qa, qc, h1, rfl, hb⟩
    exact ⟨qa, qc, h1.tab, rfl, hb⟩
  have HC3 : Hid (∀ W, Keeps w1 W → Calls Try.prog 24 #[lgV l (.slice xa l.base.tab.length xc) (.slice ta l.tail.length tc)] W fun y w' => y = .returned (.int .i64 (lgErr l)) ∧ Keeps W w') := fun W hk => pack_check l _ _ W (HT.out.keep (HK1.out.trans hk)) (HL.out.keep (HK1.out.trans hk))
  have HC4 : Hid (∀ W, Keeps w1 W → Calls Try.prog 25 #[lgV l (.slice xa l.base.tab.length xc) (.slice ta l.tail.length tc)] W fun y w' => y = .returned (.int .i64 (lgErr l)) ∧ Keeps W w') := fun W hk => log_error l _ _ W (HT.out.keep (HK1.out.trans hk)) (HL.out.keep (HK1.out.trans hk))
  clear k1 B1 hO hb
  clear W1
  generalize lgErr l = er at *
  generalize allSt l.base l.tail = s at *
  have b0 := HB1.out.c0
  have b1 := HB1.out.c1
  have b2 := HB1.out.c2
  have b3 := HB1.out.c3
  have b4 := HB1.out.c4
  have b5 := HB1.out.c5
  have b6 := HB1.out.c6
  have b7 := HB1.out.c7
  have bl := HB1.out.lt
  go_wp2_with fail
  have B2 : StBox w1.heap.size s (.slice ea s.tab.length ec) (w1.alloc (.cells #[.int .i64 s.at_, .int .i64 s.clock, .int .i64 s.v0, .int .i64 s.v1, .int .i64 s.v2, .int .i64 s.v3, .slice ea s.tab.length ec] 25)) := StBox.new w1 s _ 25
  have k12 : Keeps w1 (w1.alloc (.cells #[.int .i64 s.at_, .int .i64 s.clock, .int .i64 s.v0, .int .i64 s.v1, .int .i64 s.v2, .int .i64 s.v3, .slice ea s.tab.length ec] 25)) := (Keeps.refl _).alloc _
  generalize (w1.alloc (.cells #[.int .i64 s.at_, .int .i64 s.clock, .int .i64 s.v0, .int .i64 s.v1, .int .i64 s.v2, .int .i64 s.v3, .slice ea s.tab.length ec] 25)) = w2 at *
  generalize w1.heap.size = sb at *
  refine (HC2.out w2 k12).mono ?_
  rintro y w3 ⟨qa, qc, hQ, rfl, hb⟩
  have k13 := k12.trans hb
  have HS3 : Hid (StBox sb s (.slice ea s.tab.length ec) w3) := B2.keep hb
  clear B2 hb k12 b0 b1 b2 b3 b4 b5 b6 b7 bl
  go_wp2_with fail
  have B4 : StBox w3.heap.size s (.slice qa s.tab.length qc) (w3.alloc (.cells #[.int .i64 s.at_, .int .i64 s.clock, .int .i64 s.v0, .int .i64 s.v1, .int .i64 s.v2, .int .i64 s.v3, .slice qa s.tab.length qc] 25)) := StBox.new w3 s _ 25
  have k34 : Keeps w3 (w3.alloc (.cells #[.int .i64 s.at_, .int .i64 s.clock, .int .i64 s.v0, .int .i64 s.v1, .int .i64 s.v2, .int .i64 s.v3, .slice qa s.tab.length qc] 25)) := (Keeps.refl _).alloc _
  generalize (w3.alloc (.cells #[.int .i64 s.at_, .int .i64 s.clock, .int .i64 s.v0, .int .i64 s.v1, .int .i64 s.v2, .int .i64 s.v3, .slice qa s.tab.length qc] 25)) = w6 at *
  generalize w3.heap.size = qb at *
  have k16 := k13.trans k34
  have HB6 : Hid (LgBox w.heap.size l (.slice xa l.base.tab.length xc) (.slice ta l.tail.length tc) w6) := HB1.out.keep k16
  have HS6 : Hid (StBox sb s (.slice ea s.tab.length ec) w6) := HS3.out.keep k34
  have HQ6 : Hid (StBox qb s (.slice qa s.tab.length qc) w6) := B4
  have HCS : Hid (∀ t : After w6, Calls Try.prog 14 #[stV s (.slice ea s.tab.length ec), stV s (.slice qa s.tab.length qc)] t.w fun e w' => e = .returned (.bool true) ∧ Keeps t.w w') := by
    intro t
    have := same_of s s (.slice ea s.tab.length ec) (.slice qa s.tab.length qc) t.w (HO1.out.keep (k16.trans t.h)) (hQ.keep (k34.trans t.h))
    rw [same_self] at this
    exact this
  have HCC : Hid (∀ t : After w6, Calls Try.prog 24 #[lgV l (.slice xa l.base.tab.length xc) (.slice ta l.tail.length tc)] t.w fun y w' => y = .returned (.int .i64 er) ∧ Keeps t.w w') := fun t => HC3.out t.w (k16.trans t.h)
  have HCE : Hid (∀ t : After w6, Calls Try.prog 25 #[lgV l (.slice xa l.base.tab.length xc) (.slice ta l.tail.length tc)] t.w fun y w' => y = .returned (.int .i64 er) ∧ Keeps t.w w') := fun t => HC4.out t.w (k16.trans t.h)
  have HK6 : Hid (Keeps w w6) := HK1.out.trans k16
  clear HC2 HC3 HC4 k13 k34 k16 B4 hQ HO1 HB1 HS3 HK1
  have hne := After.some w6
  have x0 := fun t : After w6 => (HB6.out.keep t.h).c0
  have x1 := fun t : After w6 => (HB6.out.keep t.h).c1
  have x2 := fun t : After w6 => (HB6.out.keep t.h).c2
  have x3 := fun t : After w6 => (HB6.out.keep t.h).c3
  have x4 := fun t : After w6 => (HB6.out.keep t.h).c4
  have x5 := fun t : After w6 => (HB6.out.keep t.h).c5
  have x6 := fun t : After w6 => (HB6.out.keep t.h).c6
  have x7 := fun t : After w6 => (HB6.out.keep t.h).c7
  have xl := fun t : After w6 => (HB6.out.keep t.h).lt
  have s0 := fun t : After w6 => (HS6.out.keep t.h).c0
  have s1 := fun t : After w6 => (HS6.out.keep t.h).c1
  have s2 := fun t : After w6 => (HS6.out.keep t.h).c2
  have s3 := fun t : After w6 => (HS6.out.keep t.h).c3
  have s4 := fun t : After w6 => (HS6.out.keep t.h).c4
  have s5 := fun t : After w6 => (HS6.out.keep t.h).c5
  have s6 := fun t : After w6 => (HS6.out.keep t.h).c6
  have sl := fun t : After w6 => (HS6.out.keep t.h).lt
  have q0 := fun t : After w6 => (HQ6.out.keep t.h).c0
  have q1 := fun t : After w6 => (HQ6.out.keep t.h).c1
  have q2 := fun t : After w6 => (HQ6.out.keep t.h).c2
  have q3 := fun t : After w6 => (HQ6.out.keep t.h).c3
  have q4 := fun t : After w6 => (HQ6.out.keep t.h).c4
  have q5 := fun t : After w6 => (HQ6.out.keep t.h).c5
  have q6 := fun t : After w6 => (HQ6.out.keep t.h).c6
  have ql := fun t : After w6 => (HQ6.out.keep t.h).lt
  refine wp_region_after (by kernel_rfl) (by kernel_rfl) ?_
  repeat (first | go_big_quiet_skip | (go_big_quiet_want; go_big_quiet_op; first | go_big_quiet_on | (apply Exists.intro; refine ⟨fun _ => ?_, ?_⟩; (first | (go_at_call 23; exact calls_after (pack_begun _)) | (go_at_call 24; exact calls_after (HCC.out _)) | (go_at_call 25; exact calls_after (HCE.out _)) | (go_at_call 14; exact calls_after (HCS.out _))); go_big_quiet_on)))
  refine wpQuiet_nil ?_
  rintro _ ⟨r, rfl⟩
  go_wp2_with fail
  go_ret
  exact ⟨by simp, HK6.out.trans r.h⟩

set_option maxHeartbeats 4000000 in
theorem pack_cuts (l : Lg) (n : Int) (x : Value) (ta : Option Addr) (tc : Nat) (w : World) (hT : TabAt w x l.base.tab) (hL : EntsAt w (.slice ta l.tail.length tc) l.tail) (hcap : l.tail.length ≤ tc) :
    Calls Try.prog 8 #[lgV l x (.slice ta l.tail.length tc), .int .i64 n] w fun y w' => y = .returned (.bool true) ∧ Keeps w w' := by
  obtain ⟨xa, xc, rfl, _⟩ := hT.len
  have HT : Hid (TabAt w (.slice xa l.base.tab.length xc) l.base.tab) := hT
  have HL : Hid (EntsAt w (.slice ta l.tail.length tc) l.tail) := hL
  clear hT hL
  go_enter Try.func8, Try.ntmps8
  go_wp2_with fail
  obtain ⟨W1, hW1⟩ : ∃ W1, W1 = w.alloc (.cells #[.int .i64 l.base.at_, .int .i64 l.base.clock, .int .i64 l.base.v0, .int .i64 l.base.v1, .int .i64 l.base.v2, .int .i64 l.base.v3, .slice xa l.base.tab.length xc, .slice ta l.tail.length tc] 47) := ⟨_, rfl⟩
  have k1 : Keeps w W1 := by rw [hW1]; exact (Keeps.refl _).alloc _
  have B1 : LgBox w.heap.size l (.slice xa l.base.tab.length xc) (.slice ta l.tail.length tc) W1 := by rw [hW1]; exact LgBox.new w l _ _ rfl rfl 47
  rw [← hW1]
  clear hW1
  refine (pack_cut l n _ ta tc W1 (HT.out.keep k1) (HL.out.keep k1) hcap).mono ?_
  rintro y w1 ⟨ma, mc, na, nc, hO, hE, _, rfl, hb⟩
  have HK1 : Hid (Keeps w w1) := k1.trans hb
  have HB1 : Hid (LgBox w.heap.size l (.slice xa l.base.tab.length xc) (.slice ta l.tail.length tc) w1) := B1.keep hb
  have HO1 : Hid (TabAt w1 (.slice ma (cutLg l n).base.tab.length mc) (cutLg l n).base.tab) := hO.tab
  have HE1 : Hid (EntsAt w1 (.slice na (cutLg l n).tail.length nc) (cutLg l n).tail) := RowAt.of_owns hE
  have HC2 : Hid (∀ W, Keeps w1 W → Calls Try.prog 27 #[lgV l (.slice xa l.base.tab.length xc) (.slice ta l.tail.length tc), .int .i64 n] W fun y w' => ∃ qa qc ea ec, TabAt w' (.slice qa (cutLg l n).base.tab.length qc) (cutLg l n).base.tab ∧ EntsAt w' (.slice ea (cutLg l n).tail.length ec) (cutLg l n).tail ∧ y = .returned (.tuple #[lgV (cutLg l n) (.slice qa (cutLg l n).base.tab.length qc) (.slice ea (cutLg l n).tail.length ec), .int .i64 (cutErr l n)]) ∧ Keeps W w') := by
    intro W hk
    refine (cut_of l n _ ta tc W (HT.out.keep (HK1.out.trans hk)) (HL.out.keep (HK1.out.trans hk)) hcap).mono ?_
    rintro y w' ⟨qa, qc, ea, ec, h1, h2, rfl, hb⟩
    exact ⟨qa, qc, ea, ec, h1.tab, h2, rfl, hb⟩
  clear k1 B1 hO hE hb
  clear W1
  generalize cutErr l n = er at *
  generalize cutLg l n = M at *
  have b0 := HB1.out.c0
  have b1 := HB1.out.c1
  have b2 := HB1.out.c2
  have b3 := HB1.out.c3
  have b4 := HB1.out.c4
  have b5 := HB1.out.c5
  have b6 := HB1.out.c6
  have b7 := HB1.out.c7
  have bl := HB1.out.lt
  go_wp2_with fail
  have B2 : LgBox w1.heap.size M (.slice ma M.base.tab.length mc) (.slice na M.tail.length nc) (w1.alloc (.cells #[.int .i64 M.base.at_, .int .i64 M.base.clock, .int .i64 M.base.v0, .int .i64 M.base.v1, .int .i64 M.base.v2, .int .i64 M.base.v3, .slice ma M.base.tab.length mc, .slice na M.tail.length nc] 47)) := LgBox.new w1 M _ _ rfl rfl 47
  have k12 : Keeps w1 (w1.alloc (.cells #[.int .i64 M.base.at_, .int .i64 M.base.clock, .int .i64 M.base.v0, .int .i64 M.base.v1, .int .i64 M.base.v2, .int .i64 M.base.v3, .slice ma M.base.tab.length mc, .slice na M.tail.length nc] 47)) := (Keeps.refl _).alloc _
  generalize (w1.alloc (.cells #[.int .i64 M.base.at_, .int .i64 M.base.clock, .int .i64 M.base.v0, .int .i64 M.base.v1, .int .i64 M.base.v2, .int .i64 M.base.v3, .slice ma M.base.tab.length mc, .slice na M.tail.length nc] 47)) = w2 at *
  generalize w1.heap.size = mb at *
  refine (HC2.out w2 k12).mono ?_
  rintro y w3 ⟨qa, qc, ea, ec, hQ, hR, rfl, hb⟩
  have k13 := k12.trans hb
  have B3 := B2.keep hb
  clear B2 hb k12 b0 b1 b2 b3 b4 b5 b6 b7 bl
  go_wp2_with fail
  have B4 : LgBox w3.heap.size M (.slice qa M.base.tab.length qc) (.slice ea M.tail.length ec) (w3.alloc (.cells #[.int .i64 M.base.at_, .int .i64 M.base.clock, .int .i64 M.base.v0, .int .i64 M.base.v1, .int .i64 M.base.v2, .int .i64 M.base.v3, .slice qa M.base.tab.length qc, .slice ea M.tail.length ec] 47)) := LgBox.new w3 M _ _ rfl rfl 47
  have k34 : Keeps w3 (w3.alloc (.cells #[.int .i64 M.base.at_, .int .i64 M.base.clock, .int .i64 M.base.v0, .int .i64 M.base.v1, .int .i64 M.base.v2, .int .i64 M.base.v3, .slice qa M.base.tab.length qc, .slice ea M.tail.length ec] 47)) := (Keeps.refl _).alloc _
  generalize (w3.alloc (.cells #[.int .i64 M.base.at_, .int .i64 M.base.clock, .int .i64 M.base.v0, .int .i64 M.base.v1, .int .i64 M.base.v2, .int .i64 M.base.v3, .slice qa M.base.tab.length qc, .slice ea M.tail.length ec] 47)) = w4 at *
  generalize w3.heap.size = qb at *
  refine (pack_begun w4).mono ?_
  rintro y w5 ⟨rfl, hb⟩
  have k35 := k34.trans hb
  have k15 := k13.trans k35
  have M5 := B3.keep k35
  have Q5 := B4.keep hb
  have m0 := M5.c0
  have m1 := M5.c1
  have m2 := M5.c2
  have m3 := M5.c3
  have m4 := M5.c4
  have m5 := M5.c5
  have m6 := M5.c6
  have m7 := M5.c7
  have ml := M5.lt
  have q0 := Q5.c0
  have q1 := Q5.c1
  have q2 := Q5.c2
  have q3 := Q5.c3
  have q4 := Q5.c4
  have q5 := Q5.c5
  have q6 := Q5.c6
  have q7 := Q5.c7
  have ql := Q5.lt
  have HK5 : Hid (Keeps w w5) := HK1.out.trans k15
  have HS : Hid (Calls Try.prog 28 #[lgV M (.slice ma M.base.tab.length mc) (.slice na M.tail.length nc), lgV M (.slice qa M.base.tab.length qc) (.slice ea M.tail.length ec)] w5 fun e w' => e = .returned (.bool true) ∧ Keeps w5 w') := by
    have := same_logs M M (.slice ma M.base.tab.length mc) (.slice na M.tail.length nc) (.slice qa M.base.tab.length qc) (.slice ea M.tail.length ec) w5 (HO1.out.keep k15) (HE1.out.keep k15) (hQ.keep k35) (hR.keep k35)
    rw [sameLg_self] at this
    exact this
  clear hb k35 k15 k34 k13 B3 B4 M5 Q5 hQ hR HC2
  go_wp2_with fail
  refine HS.out.mono ?_
  rintro y w6 ⟨rfl, hb⟩
  have HK6 : Hid (Keeps w w6) := HK5.out.trans hb
  clear hb m0 m1 m2 m3 m4 m5 m6 m7 ml q0 q1 q2 q3 q4 q5 q6 q7 ql
  go_wp2_with fail
  go_ret
  exact ⟨by simp, HK6.out⟩
end Go.Proofs.Yteabfjpajgakiad
