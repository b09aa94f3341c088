/- SuN. -/
import Derived.Test.YteabfjpajgakiagJ16
import Derived.Test.YteabfjpajgakiagJ17
/- StubAgain: the walk. -/
set_option linter.unusedSimpArgs false
set_option linter.unusedVariables false
set_option maxRecDepth 10000
namespace Go.Proofs.Yteabfjpajgakiag
open Go.RowKit

set_option maxHeartbeats 4000000 in
theorem stub_again_law (s : Stu) (time seq o0 o1 o2 o3 : Int) (t : Value) (w : World) (h : IntsAt w t s.came) : Calls Try.prog 4 #[stuV s t, .int .i64 time, .int .i64 seq, opV o0 o1 o2 o3] w fun e w' => e = .returned (.bool true) ∧ Keeps w w' := by
  obtain ⟨ta, tc, rfl, hlen⟩ := RowAt.len h
  unfold maxLen at hlen
  have HI : Hid (IntsAt w (.slice ta s.came.length tc) s.came) := h
  have HA1 : Hid (∀ W, Keeps w W → Calls Try.prog 12 #[stuV s (.slice ta s.came.length tc), .int .i64 time, .int .i64 seq, opV o0 o1 o2 o3] W fun e w' => e = .returned (.tuple #[entV (againE s time seq (o0, o1, o2, o3)), .int .i64 (againErr s time seq (o0, o1, o2, o3))]) ∧ Keeps W w') := fun W hk => stub_again s time seq o0 o1 o2 o3 _ W (HI.out.keep hk)
  have HA2 : Hid (∀ W, Keeps w W → Calls Try.prog 14 #[stuV s (.slice ta s.came.length tc), .int .i64 time, .int .i64 seq, opV o0 o1 o2 o3] W fun e w' => e = .returned (.tuple #[entV (againE s time seq (o0, o1, o2, o3)), .int .i64 (againErr s time seq (o0, o1, o2, o3))]) ∧ Keeps W w') := fun W hk => again_of s time seq o0 o1 o2 o3 _ W (HI.out.keep hk)
  have HC1 : Hid (∀ W, Keeps w W → Calls Try.prog 13 #[stuV s (.slice ta s.came.length tc), .int .i64 seq] W fun e w' => ∃ ra rc, IntsAt w' (.slice ra (cameS s seq).came.length rc) (cameS s seq).came ∧ e = .returned (.tuple #[stuV (cameS s seq) (.slice ra (cameS s seq).came.length rc), .int .i64 (cameErr s seq)]) ∧ Keeps W w') := fun W hk => stub_came s seq _ W (HI.out.keep hk)
  have HC2 : Hid (∀ W, Keeps w W → Calls Try.prog 15 #[stuV s (.slice ta s.came.length tc), .int .i64 seq] W fun e w' => ∃ ra rc, IntsAt w' (.slice ra (cameS s seq).came.length rc) (cameS s seq).came ∧ e = .returned (.tuple #[stuV (cameS s seq) (.slice ra (cameS s seq).came.length rc), .int .i64 (cameErr s seq)]) ∧ Keeps W w') := fun W hk => came_of s seq _ W (HI.out.keep hk)
  generalize againErr s time seq (o0, o1, o2, o3) = er at *
  generalize againE s time seq (o0, o1, o2, o3) = E at *
  generalize cameErr s seq = ce at *
  generalize cameS s seq = N at *
  clear h
  go_enter Try.func4, Try.ntmps4
  go_wp2_with fail
  obtain ⟨W1, hW1⟩ : ∃ W1, W1 = (w.alloc (.cells #[.int .i64 s.client, .int .i64 s.next, .slice ta s.came.length tc] 24)).alloc (.cells #[.int .i64 o0, .int .i64 o1, .int .i64 o2, .int .i64 o3] 26) := ⟨_, rfl⟩
  have k1 : Keeps w W1 := by rw [hW1]; exact ((Keeps.refl _).alloc _).alloc _
  have B1 : StuBox w.heap.size s (.slice ta s.came.length tc) W1 := by rw [hW1]; exact (StuBox.new w s _ rfl 24).keep ((Keeps.refl _).alloc _)
  have O1 : W1.cell? ⟨w.heap.size + 1, 0, none⟩ = some (.int .i64 o0) ∧ W1.cell? ⟨w.heap.size + 1, 1, none⟩ = some (.int .i64 o1) ∧ W1.cell? ⟨w.heap.size + 1, 2, none⟩ = some (.int .i64 o2) ∧ W1.cell? ⟨w.heap.size + 1, 3, none⟩ = some (.int .i64 o3) := by rw [hW1]; refine ⟨?_, ?_, ?_, ?_⟩ <;> simp [go_sem]
  rw [← hW1]
  clear hW1
  have HO1 : Hid (∀ W, Keeps W1 W → W.cell? ⟨w.heap.size + 1, 0, none⟩ = some (.int .i64 o0) ∧ W.cell? ⟨w.heap.size + 1, 1, none⟩ = some (.int .i64 o1) ∧ W.cell? ⟨w.heap.size + 1, 2, none⟩ = some (.int .i64 o2) ∧ W.cell? ⟨w.heap.size + 1, 3, none⟩ = some (.int .i64 o3)) := fun W hk => ⟨cell_stays O1.1 hk, cell_stays O1.2.1 hk, cell_stays O1.2.2.1 hk, cell_stays O1.2.2.2 hk⟩
  have HB1 : Hid (∀ W, Keeps W1 W → StuBox w.heap.size s (.slice ta s.came.length tc) W) := fun W hk => B1.keep hk
  have HK1 : Hid (Keeps w W1) := k1
  clear O1 B1 k1
  refine (HA1.out W1 HK1.out).mono ?_
  rintro e v1 ⟨rfl, hb⟩
  have k2 : Keeps W1 (v1.alloc (.cells #[.int .i64 E.kind, .int .i64 E.time, .int .i64 E.client, .int .i64 E.seq, .int .i64 E.ack, .int .i64 E.ok, .int .i64 E.okey, .int .i64 E.oto, .int .i64 E.on] 28)) := hb.alloc _
  have E2 : EBox v1.heap.size E (v1.alloc (.cells #[.int .i64 E.kind, .int .i64 E.time, .int .i64 E.client, .int .i64 E.seq, .int .i64 E.ack, .int .i64 E.ok, .int .i64 E.okey, .int .i64 E.oto, .int .i64 E.on] 28)) := EBox.new v1 E 28
  clear hb
  have SB := HB1.out (v1.alloc (.cells #[.int .i64 E.kind, .int .i64 E.time, .int .i64 E.client, .int .i64 E.seq, .int .i64 E.ack, .int .i64 E.ok, .int .i64 E.okey, .int .i64 E.oto, .int .i64 E.on] 28)) k2
  have b0 := SB.c0
  have b1 := SB.c1
  have b2 := SB.c2
  have bl := SB.lt
  clear SB
  go_wp2_with fail
  generalize (v1.alloc (.cells #[.int .i64 E.kind, .int .i64 E.time, .int .i64 E.client, .int .i64 E.seq, .int .i64 E.ack, .int .i64 E.ok, .int .i64 E.okey, .int .i64 E.oto, .int .i64 E.on] 28)) = w2 at *
  generalize v1.heap.size = eb1 at *
  refine (HC1.out w2 (HK1.out.trans k2)).mono ?_
  rintro e v3 ⟨ra, rc, hR, rfl, hb⟩
  have k23 : Keeps w2 (v3.alloc (.cells #[.int .i64 N.client, .int .i64 N.next, .slice ra N.came.length rc] 24)) := hb.alloc _
  have N3 : StuBox v3.heap.size N (.slice ra N.came.length rc) (v3.alloc (.cells #[.int .i64 N.client, .int .i64 N.next, .slice ra N.came.length rc] 24)) := StuBox.new v3 N _ rfl 24
  have hR3 := hR.keep ((Keeps.refl _).alloc (.cells #[.int .i64 N.client, .int .i64 N.next, .slice ra N.came.length rc] 24))
  clear hb b0 b1 b2 bl hR
  have SB := HB1.out _ (k2.trans k23)
  have b0 := SB.c0
  have b1 := SB.c1
  have b2 := SB.c2
  have bl := SB.lt
  obtain ⟨p0, p1, p2, p3⟩ := (HO1.out _ (k2.trans k23))
  have pl := World.block_lt_of_cell? _ _ p0
  simp only [] at pl
  clear SB
  go_wp2_with fail
  generalize (v3.alloc (.cells #[.int .i64 N.client, .int .i64 N.next, .slice ra N.came.length rc] 24)) = w3 at *
  generalize v3.heap.size = nb1 at *
  refine (HA2.out w3 (HK1.out.trans (k2.trans k23))).mono ?_
  rintro e v4 ⟨rfl, hb⟩
  have k34 : Keeps w3 (v4.alloc (.cells #[.int .i64 E.kind, .int .i64 E.time, .int .i64 E.client, .int .i64 E.seq, .int .i64 E.ack, .int .i64 E.ok, .int .i64 E.okey, .int .i64 E.oto, .int .i64 E.on] 28)) := hb.alloc _
  have E4 : EBox v4.heap.size E (v4.alloc (.cells #[.int .i64 E.kind, .int .i64 E.time, .int .i64 E.client, .int .i64 E.seq, .int .i64 E.ack, .int .i64 E.ok, .int .i64 E.okey, .int .i64 E.oto, .int .i64 E.on] 28)) := EBox.new v4 E 28
  clear hb b0 b1 b2 bl p0 p1 p2 p3 pl
  have SB := HB1.out _ (k2.trans (k23.trans k34))
  have b0 := SB.c0
  have b1 := SB.c1
  have b2 := SB.c2
  have bl := SB.lt
  clear SB
  go_wp2_with fail
  generalize (v4.alloc (.cells #[.int .i64 E.kind, .int .i64 E.time, .int .i64 E.client, .int .i64 E.seq, .int .i64 E.ack, .int .i64 E.ok, .int .i64 E.okey, .int .i64 E.oto, .int .i64 E.on] 28)) = w4 at *
  generalize v4.heap.size = eb2 at *
  refine (HC2.out w4 (HK1.out.trans (k2.trans (k23.trans k34)))).mono ?_
  rintro e v5 ⟨qa, qc, hQ, rfl, hb⟩
  have k45 : Keeps w4 (v5.alloc (.cells #[.int .i64 N.client, .int .i64 N.next, .slice qa N.came.length qc] 24)) := hb.alloc _
  have N5 : StuBox v5.heap.size N (.slice qa N.came.length qc) (v5.alloc (.cells #[.int .i64 N.client, .int .i64 N.next, .slice qa N.came.length qc] 24)) := StuBox.new v5 N _ rfl 24
  have hQ5 := hQ.keep ((Keeps.refl _).alloc (.cells #[.int .i64 N.client, .int .i64 N.next, .slice qa N.came.length qc] 24))
  clear hb b0 b1 b2 bl hQ
  go_wp2_with fail
  generalize (v5.alloc (.cells #[.int .i64 N.client, .int .i64 N.next, .slice qa N.came.length qc] 24)) = w5 at *
  generalize v5.heap.size = nb2 at *
  refine (stub_begun w5).mono ?_
  rintro e w6 ⟨rfl, hb⟩
  have k56 := hb
  have k46 := k45.trans hb
  have k36 := k34.trans k46
  have k26 := k23.trans k36
  have HK6 : Hid (Keeps w w6) := HK1.out.trans (k2.trans k26)
  have F2 := E2.keep k26
  have F4 := E4.keep k46
  have M3 := N3.keep k36
  have M5 := N5.keep k56
  have HS : Hid (Calls Try.prog 11 #[stuV N (.slice ra N.came.length rc), stuV N (.slice qa N.came.length qc)] w6 fun e w' => e = .returned (.bool true) ∧ Keeps w6 w') := same_stubs N _ _ w6 (hR3.keep k36) (hQ5.keep k56)
  have e0 := F2.c0
  have e1 := F2.c1
  have e2 := F2.c2
  have e3 := F2.c3
  have e4 := F2.c4
  have e5 := F2.c5
  have e6 := F2.c6
  have e7 := F2.c7
  have e8 := F2.c8
  have el := F2.lt
  have f0 := F4.c0
  have f1 := F4.c1
  have f2 := F4.c2
  have f3 := F4.c3
  have f4 := F4.c4
  have f5 := F4.c5
  have f6 := F4.c6
  have f7 := F4.c7
  have f8 := F4.c8
  have fl := F4.lt
  have m0 := M3.c0
  have m1 := M3.c1
  have m2 := M3.c2
  have ml := M3.lt
  have n0 := M5.c0
  have n1 := M5.c1
  have n2 := M5.c2
  have nl := M5.lt
  clear HA1 HA2 HC1 HC2 HO1 HB1 k2 k23 k34 k45 k56 k46 k36 k26 E2 E4 N3 N5 hR3 hQ5 F2 F4 M3 M5 hb
  go_wp2_with fail
  refine HS.out.mono ?_
  rintro e w7 ⟨rfl, hb⟩
  have HK7 : Hid (Keeps w w7) := HK6.out.trans hb
  clear hb
  go_wp2_with fail
  go_ret
  exact ⟨by simp, HK7.out⟩
end Go.Proofs.Yteabfjpajgakiag
