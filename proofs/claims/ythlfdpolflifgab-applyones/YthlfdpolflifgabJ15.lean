/- ApK, ApL. -/
import Derived.Test.YthlfdpolflifgabJ06
import Derived.Test.YthlfdpolflifgabJ13
import Derived.Test.YthlfdpolflifgabJ14
/- What the laws make entries of; applyBegun. Written by tools/genApK.py. -/
set_option linter.unusedSimpArgs false
set_option linter.unusedVariables false
set_option maxRecDepth 10000
namespace Go.Proofs.Ythlfdpolflifgab
open Go.RowKit

theorem add_c (n : Int) (w : World) : Calls Try.prog 33 #[.int .i64 n] w fun y w' => y = .returned (.agg #[.int .i64 2, .int .i64 0, .int .i64 0, .int .i64 n]) ∧ Keeps w w' := by
  go_enter Try.func33, Try.ntmps33
  go_wp2_with fail
  refine bodyPost_ret (v := .agg #[.int .i64 2, .int .i64 0, .int .i64 0, .int .i64 n]) ?_ rfl ?_
  · simp [results, Try.results33, go_sem]
  · exact ⟨rfl, (Keeps.refl _).alloc _⟩

theorem mkcall_c (t c q a k key tk n : Int) (w : World) : Calls Try.prog 32 #[.int .i64 t, .int .i64 c, .int .i64 q, .int .i64 a, .agg #[.int .i64 k, .int .i64 key, .int .i64 tk, .int .i64 n]] w fun y w' => y = .returned (entV ⟨2, t, c, q, a, k, key, tk, n⟩) ∧ Keeps w w' := by
  go_enter Try.func32, Try.ntmps32
  go_wp2_with fail
  refine bodyPost_ret (v := entV ⟨2, t, c, q, a, k, key, tk, n⟩) ?_ rfl ?_
  · simp [results, Try.results32, go_sem]
  · exact ⟨rfl, ((Keeps.refl _).alloc _).alloc _⟩

theorem mkopen_c (t c : Int) (w : World) : Calls Try.prog 34 #[.int .i64 t, .int .i64 c] w fun y w' => y = .returned (entV ⟨1, t, c, 0, 0, 0, 0, 0, 0⟩) ∧ Keeps w w' := by
  go_enter Try.func34, Try.ntmps34
  go_wp2_with fail
  refine bodyPost_ret (v := entV ⟨1, t, c, 0, 0, 0, 0, 0, 0⟩) ?_ rfl ?_
  · simp [results, Try.results34, go_sem]
  · exact ⟨rfl, (Keeps.refl _).alloc _⟩

/-- One, of a state and an entry that are known. -/
theorem one_at (s t : St) (e : Ent) (n : Int) (d : Bool) (er : Int) (h : oneSt s e = t ∧ oneAns s e = n ∧ oneDone s e = d ∧ bothErr s e = er) (x : Value) (w : World) (hT : TabAt w x s.tab) :
    Calls Try.prog 17 #[stV s x, entV e] w fun y w' => ∃ xa xc, y = .returned (.tuple #[stV t (.slice xa t.tab.length xc), .int .i64 n, .bool d, .int .i64 er]) ∧ OwnTab w.heap.size w' (.slice xa t.tab.length xc) t.tab ∧ Keeps w w' := by
  obtain ⟨rfl, rfl, rfl, rfl⟩ := h
  refine (one_c s e x w hT).mono ?_
  rintro y w' ⟨x', ho, rfl, hb⟩
  obtain ⟨xa, xc, rfl, _⟩ := ho.tab.len
  exact ⟨xa, xc, rfl, ho, hb⟩
/-- .. where the state then is not looked at. -/
theorem one_to (s : St) (e : Ent) (n : Int) (d : Bool) (er : Int) (h : oneAns s e = n ∧ oneDone s e = d ∧ bothErr s e = er) (x : Value) (w : World) (hT : TabAt w x s.tab) :
    Calls Try.prog 17 #[stV s x, entV e] w fun y w' => ∃ (t : St) (xa : Option Addr) (xn xc : Nat), y = .returned (.tuple #[.agg #[.int .i64 t.at_, .int .i64 t.clock, .int .i64 t.v0, .int .i64 t.v1, .int .i64 t.v2, .int .i64 t.v3, .slice xa xn xc], .int .i64 n, .bool d, .int .i64 er]) ∧ Keeps w w' := by
  refine (one_at s _ e n d er ⟨rfl, h⟩ x w hT).mono ?_
  rintro y w' ⟨xa, xc, rfl, _, hb⟩
  exact ⟨_, xa, _, xc, rfl, hb⟩

abbrev begA : St := ⟨7, 11, 10, 0, 0, 1, [⟨2, 2, 11, [(3, 7), (4, 10), (5, -1)]⟩, rowS 4]⟩
abbrev begB : St := ⟨7, 11, 10, 0, 0, 1, [⟨2, 4, 11, [(5, -1), (6, 10)]⟩, rowS 4]⟩
abbrev begC : St := ⟨7, 30, 7, 0, 0, 1, [⟨1, 0, 30, []⟩]⟩

set_option maxHeartbeats 8000000 in
theorem apply_begun (w : World) : Calls Try.prog 14 #[] w fun e w' => e = .returned (.bool true) ∧ Keeps w w' := by
  go_enter Try.func14, Try.ntmps14
  go_wp2_with fail
  refine (shop_c _).mono ?_
  rintro e w1 ⟨b0, _, _, _, _, _, hs, -, rfl, hb⟩
  have T : Hid (TabAt w1 (.slice (some ⟨b0, 0, none⟩) 2 2) shopS.tab) := hs.tab
  have HK : Hid (Keeps w w1) := hb
  clear hs hb
  go_wp2_with fail
  refine (add_c _ _).mono ?_
  rintro e w2 ⟨rfl, hb⟩
  replace HK : Hid (Keeps w w2) := HK.out.trans hb
  replace T : Hid (TabAt w2 (.slice (some ⟨b0, 0, none⟩) 2 2) shopS.tab) := T.out.keep hb
  clear hb
  go_wp2_with fail
  refine (mkcall_c _ _ _ _ _ _ _ _ _).mono ?_
  rintro e w3 ⟨rfl, hb⟩
  replace HK : Hid (Keeps w w3) := HK.out.trans hb
  replace T : Hid (TabAt w3 (.slice (some ⟨b0, 0, none⟩) 2 2) shopS.tab) := T.out.keep hb
  clear hb
  go_wp2_with fail
  refine (one_at shopS begA ⟨2, 11, 2, 4, 2, 2, 0, 0, 3⟩ (10) true 0 ⟨by kernel_rfl, by decide +kernel⟩ _ _ T.out).mono ?_
  rintro e w4 ⟨xabegA, xcbegA, rfl, ho, hb⟩
  have ObegA : Hid (TabAt w4 (.slice xabegA begA.tab.length xcbegA) begA.tab) := ho.tab
  clear ho
  replace HK : Hid (Keeps w w4) := HK.out.trans hb
  clear hb T
  go_wp2_with fail
  refine (shop_c _).mono ?_
  rintro e w5 ⟨b1, _, _, _, _, _, hs, -, rfl, hb⟩
  have T : Hid (TabAt w5 (.slice (some ⟨b1, 0, none⟩) 2 2) shopS.tab) := hs.tab
  replace HK : Hid (Keeps w w5) := (HK.out.alloc _).trans hb
  have HbegA : Hid (StBox w4.heap.size begA (.slice xabegA begA.tab.length xcbegA) w5 ∧ TabAt w5 (.slice xabegA begA.tab.length xcbegA) begA.tab) := ⟨(StBox.new w4 begA _ 25).keep hb, ObegA.out.keep (((Keeps.refl _).alloc _).trans hb)⟩
  clear ObegA
  generalize w4.heap.size = pbegA at *
  clear hs hb
  go_wp2_with fail
  refine (add_c _ _).mono ?_
  rintro e w6 ⟨rfl, hb⟩
  replace HbegA : Hid (StBox pbegA begA (.slice xabegA begA.tab.length xcbegA) w6 ∧ TabAt w6 (.slice xabegA begA.tab.length xcbegA) begA.tab) := ⟨HbegA.out.1.keep hb, HbegA.out.2.keep hb⟩
  replace HK : Hid (Keeps w w6) := HK.out.trans hb
  replace T : Hid (TabAt w6 (.slice (some ⟨b1, 0, none⟩) 2 2) shopS.tab) := T.out.keep hb
  clear hb
  go_wp2_with fail
  refine (mkcall_c _ _ _ _ _ _ _ _ _).mono ?_
  rintro e w7 ⟨rfl, hb⟩
  replace HbegA : Hid (StBox pbegA begA (.slice xabegA begA.tab.length xcbegA) w7 ∧ TabAt w7 (.slice xabegA begA.tab.length xcbegA) begA.tab) := ⟨HbegA.out.1.keep hb, HbegA.out.2.keep hb⟩
  replace HK : Hid (Keeps w w7) := HK.out.trans hb
  replace T : Hid (TabAt w7 (.slice (some ⟨b1, 0, none⟩) 2 2) shopS.tab) := T.out.keep hb
  clear hb
  go_wp2_with fail
  refine (one_to shopS ⟨2, 11, 2, 3, 2, 2, 0, 0, 3⟩ (7) false 0 (by decide +kernel) _ _ T.out).mono ?_
  rintro e w8 ⟨t1, xa1, xn1, xc1, rfl, hb⟩
  replace HbegA : Hid (StBox pbegA begA (.slice xabegA begA.tab.length xcbegA) w8 ∧ TabAt w8 (.slice xabegA begA.tab.length xcbegA) begA.tab) := ⟨HbegA.out.1.keep hb, HbegA.out.2.keep hb⟩
  replace HK : Hid (Keeps w w8) := HK.out.trans hb
  clear hb T
  go_wp2_with fail
  refine (shop_c _).mono ?_
  rintro e w9 ⟨b2, _, _, _, _, _, hs, -, rfl, hb⟩
  have T : Hid (TabAt w9 (.slice (some ⟨b2, 0, none⟩) 2 2) shopS.tab) := hs.tab
  replace HbegA : Hid (StBox pbegA begA (.slice xabegA begA.tab.length xcbegA) w9 ∧ TabAt w9 (.slice xabegA begA.tab.length xcbegA) begA.tab) := ⟨HbegA.out.1.keep (((Keeps.refl _).alloc _).trans hb), HbegA.out.2.keep (((Keeps.refl _).alloc _).trans hb)⟩
  replace HK : Hid (Keeps w w9) := (HK.out.alloc _).trans hb
  clear hs hb
  go_wp2_with fail
  refine (add_c _ _).mono ?_
  rintro e w10 ⟨rfl, hb⟩
  replace HbegA : Hid (StBox pbegA begA (.slice xabegA begA.tab.length xcbegA) w10 ∧ TabAt w10 (.slice xabegA begA.tab.length xcbegA) begA.tab) := ⟨HbegA.out.1.keep hb, HbegA.out.2.keep hb⟩
  replace HK : Hid (Keeps w w10) := HK.out.trans hb
  replace T : Hid (TabAt w10 (.slice (some ⟨b2, 0, none⟩) 2 2) shopS.tab) := T.out.keep hb
  clear hb
  go_wp2_with fail
  refine (mkcall_c _ _ _ _ _ _ _ _ _).mono ?_
  rintro e w11 ⟨rfl, hb⟩
  replace HbegA : Hid (StBox pbegA begA (.slice xabegA begA.tab.length xcbegA) w11 ∧ TabAt w11 (.slice xabegA begA.tab.length xcbegA) begA.tab) := ⟨HbegA.out.1.keep hb, HbegA.out.2.keep hb⟩
  replace HK : Hid (Keeps w w11) := HK.out.trans hb
  replace T : Hid (TabAt w11 (.slice (some ⟨b2, 0, none⟩) 2 2) shopS.tab) := T.out.keep hb
  clear hb
  go_wp2_with fail
  refine (one_at shopS begB ⟨2, 11, 2, 6, 4, 2, 0, 0, 3⟩ (10) true 0 ⟨by kernel_rfl, by decide +kernel⟩ _ _ T.out).mono ?_
  rintro e w12 ⟨xabegB, xcbegB, rfl, ho, hb⟩
  have ObegB : Hid (TabAt w12 (.slice xabegB begB.tab.length xcbegB) begB.tab) := ho.tab
  clear ho
  replace HbegA : Hid (StBox pbegA begA (.slice xabegA begA.tab.length xcbegA) w12 ∧ TabAt w12 (.slice xabegA begA.tab.length xcbegA) begA.tab) := ⟨HbegA.out.1.keep hb, HbegA.out.2.keep hb⟩
  replace HK : Hid (Keeps w w12) := HK.out.trans hb
  clear hb T
  go_wp2_with fail
  refine (shop_c _).mono ?_
  rintro e w13 ⟨b3, _, _, _, _, _, hs, -, rfl, hb⟩
  have T : Hid (TabAt w13 (.slice (some ⟨b3, 0, none⟩) 2 2) shopS.tab) := hs.tab
  replace HbegA : Hid (StBox pbegA begA (.slice xabegA begA.tab.length xcbegA) w13 ∧ TabAt w13 (.slice xabegA begA.tab.length xcbegA) begA.tab) := ⟨HbegA.out.1.keep (((Keeps.refl _).alloc _).trans hb), HbegA.out.2.keep (((Keeps.refl _).alloc _).trans hb)⟩
  replace HK : Hid (Keeps w w13) := (HK.out.alloc _).trans hb
  have HbegB : Hid (StBox w12.heap.size begB (.slice xabegB begB.tab.length xcbegB) w13 ∧ TabAt w13 (.slice xabegB begB.tab.length xcbegB) begB.tab) := ⟨(StBox.new w12 begB _ 25).keep hb, ObegB.out.keep (((Keeps.refl _).alloc _).trans hb)⟩
  clear ObegB
  generalize w12.heap.size = pbegB at *
  clear hs hb
  go_wp2_with fail
  refine (add_c _ _).mono ?_
  rintro e w14 ⟨rfl, hb⟩
  replace HbegA : Hid (StBox pbegA begA (.slice xabegA begA.tab.length xcbegA) w14 ∧ TabAt w14 (.slice xabegA begA.tab.length xcbegA) begA.tab) := ⟨HbegA.out.1.keep hb, HbegA.out.2.keep hb⟩
  replace HbegB : Hid (StBox pbegB begB (.slice xabegB begB.tab.length xcbegB) w14 ∧ TabAt w14 (.slice xabegB begB.tab.length xcbegB) begB.tab) := ⟨HbegB.out.1.keep hb, HbegB.out.2.keep hb⟩
  replace HK : Hid (Keeps w w14) := HK.out.trans hb
  replace T : Hid (TabAt w14 (.slice (some ⟨b3, 0, none⟩) 2 2) shopS.tab) := T.out.keep hb
  clear hb
  go_wp2_with fail
  refine (mkcall_c _ _ _ _ _ _ _ _ _).mono ?_
  rintro e w15 ⟨rfl, hb⟩
  replace HbegA : Hid (StBox pbegA begA (.slice xabegA begA.tab.length xcbegA) w15 ∧ TabAt w15 (.slice xabegA begA.tab.length xcbegA) begA.tab) := ⟨HbegA.out.1.keep hb, HbegA.out.2.keep hb⟩
  replace HbegB : Hid (StBox pbegB begB (.slice xabegB begB.tab.length xcbegB) w15 ∧ TabAt w15 (.slice xabegB begB.tab.length xcbegB) begB.tab) := ⟨HbegB.out.1.keep hb, HbegB.out.2.keep hb⟩
  replace HK : Hid (Keeps w w15) := HK.out.trans hb
  replace T : Hid (TabAt w15 (.slice (some ⟨b3, 0, none⟩) 2 2) shopS.tab) := T.out.keep hb
  clear hb
  go_wp2_with fail
  refine (one_to shopS ⟨2, 11, 2, 2, 0, 2, 0, 0, 3⟩ (-4) false 0 (by decide +kernel) _ _ T.out).mono ?_
  rintro e w16 ⟨t3, xa3, xn3, xc3, rfl, hb⟩
  replace HbegA : Hid (StBox pbegA begA (.slice xabegA begA.tab.length xcbegA) w16 ∧ TabAt w16 (.slice xabegA begA.tab.length xcbegA) begA.tab) := ⟨HbegA.out.1.keep hb, HbegA.out.2.keep hb⟩
  replace HbegB : Hid (StBox pbegB begB (.slice xabegB begB.tab.length xcbegB) w16 ∧ TabAt w16 (.slice xabegB begB.tab.length xcbegB) begB.tab) := ⟨HbegB.out.1.keep hb, HbegB.out.2.keep hb⟩
  replace HK : Hid (Keeps w w16) := HK.out.trans hb
  clear hb T
  go_wp2_with fail
  refine (shop_c _).mono ?_
  rintro e w17 ⟨b4, _, _, _, _, _, hs, -, rfl, hb⟩
  have T : Hid (TabAt w17 (.slice (some ⟨b4, 0, none⟩) 2 2) shopS.tab) := hs.tab
  replace HbegA : Hid (StBox pbegA begA (.slice xabegA begA.tab.length xcbegA) w17 ∧ TabAt w17 (.slice xabegA begA.tab.length xcbegA) begA.tab) := ⟨HbegA.out.1.keep (((Keeps.refl _).alloc _).trans hb), HbegA.out.2.keep (((Keeps.refl _).alloc _).trans hb)⟩
  replace HbegB : Hid (StBox pbegB begB (.slice xabegB begB.tab.length xcbegB) w17 ∧ TabAt w17 (.slice xabegB begB.tab.length xcbegB) begB.tab) := ⟨HbegB.out.1.keep (((Keeps.refl _).alloc _).trans hb), HbegB.out.2.keep (((Keeps.refl _).alloc _).trans hb)⟩
  replace HK : Hid (Keeps w w17) := (HK.out.alloc _).trans hb
  clear hs hb
  go_wp2_with fail
  refine (add_c _ _).mono ?_
  rintro e w18 ⟨rfl, hb⟩
  replace HbegA : Hid (StBox pbegA begA (.slice xabegA begA.tab.length xcbegA) w18 ∧ TabAt w18 (.slice xabegA begA.tab.length xcbegA) begA.tab) := ⟨HbegA.out.1.keep hb, HbegA.out.2.keep hb⟩
  replace HbegB : Hid (StBox pbegB begB (.slice xabegB begB.tab.length xcbegB) w18 ∧ TabAt w18 (.slice xabegB begB.tab.length xcbegB) begB.tab) := ⟨HbegB.out.1.keep hb, HbegB.out.2.keep hb⟩
  replace HK : Hid (Keeps w w18) := HK.out.trans hb
  replace T : Hid (TabAt w18 (.slice (some ⟨b4, 0, none⟩) 2 2) shopS.tab) := T.out.keep hb
  clear hb
  go_wp2_with fail
  refine (mkcall_c _ _ _ _ _ _ _ _ _).mono ?_
  rintro e w19 ⟨rfl, hb⟩
  replace HbegA : Hid (StBox pbegA begA (.slice xabegA begA.tab.length xcbegA) w19 ∧ TabAt w19 (.slice xabegA begA.tab.length xcbegA) begA.tab) := ⟨HbegA.out.1.keep hb, HbegA.out.2.keep hb⟩
  replace HbegB : Hid (StBox pbegB begB (.slice xabegB begB.tab.length xcbegB) w19 ∧ TabAt w19 (.slice xabegB begB.tab.length xcbegB) begB.tab) := ⟨HbegB.out.1.keep hb, HbegB.out.2.keep hb⟩
  replace HK : Hid (Keeps w w19) := HK.out.trans hb
  replace T : Hid (TabAt w19 (.slice (some ⟨b4, 0, none⟩) 2 2) shopS.tab) := T.out.keep hb
  clear hb
  go_wp2_with fail
  refine (one_to shopS ⟨2, 11, 2, 6, 2, 2, 0, 0, 3⟩ (-5) false 0 (by decide +kernel) _ _ T.out).mono ?_
  rintro e w20 ⟨t4, xa4, xn4, xc4, rfl, hb⟩
  replace HbegA : Hid (StBox pbegA begA (.slice xabegA begA.tab.length xcbegA) w20 ∧ TabAt w20 (.slice xabegA begA.tab.length xcbegA) begA.tab) := ⟨HbegA.out.1.keep hb, HbegA.out.2.keep hb⟩
  replace HbegB : Hid (StBox pbegB begB (.slice xabegB begB.tab.length xcbegB) w20 ∧ TabAt w20 (.slice xabegB begB.tab.length xcbegB) begB.tab) := ⟨HbegB.out.1.keep hb, HbegB.out.2.keep hb⟩
  replace HK : Hid (Keeps w w20) := HK.out.trans hb
  clear hb T
  go_wp2_with fail
  refine (shop_c _).mono ?_
  rintro e w21 ⟨b5, _, _, _, _, _, hs, -, rfl, hb⟩
  have T : Hid (TabAt w21 (.slice (some ⟨b5, 0, none⟩) 2 2) shopS.tab) := hs.tab
  replace HbegA : Hid (StBox pbegA begA (.slice xabegA begA.tab.length xcbegA) w21 ∧ TabAt w21 (.slice xabegA begA.tab.length xcbegA) begA.tab) := ⟨HbegA.out.1.keep (((Keeps.refl _).alloc _).trans hb), HbegA.out.2.keep (((Keeps.refl _).alloc _).trans hb)⟩
  replace HbegB : Hid (StBox pbegB begB (.slice xabegB begB.tab.length xcbegB) w21 ∧ TabAt w21 (.slice xabegB begB.tab.length xcbegB) begB.tab) := ⟨HbegB.out.1.keep (((Keeps.refl _).alloc _).trans hb), HbegB.out.2.keep (((Keeps.refl _).alloc _).trans hb)⟩
  replace HK : Hid (Keeps w w21) := (HK.out.alloc _).trans hb
  clear hs hb
  go_wp2_with fail
  refine (add_c _ _).mono ?_
  rintro e w22 ⟨rfl, hb⟩
  replace HbegA : Hid (StBox pbegA begA (.slice xabegA begA.tab.length xcbegA) w22 ∧ TabAt w22 (.slice xabegA begA.tab.length xcbegA) begA.tab) := ⟨HbegA.out.1.keep hb, HbegA.out.2.keep hb⟩
  replace HbegB : Hid (StBox pbegB begB (.slice xabegB begB.tab.length xcbegB) w22 ∧ TabAt w22 (.slice xabegB begB.tab.length xcbegB) begB.tab) := ⟨HbegB.out.1.keep hb, HbegB.out.2.keep hb⟩
  replace HK : Hid (Keeps w w22) := HK.out.trans hb
  replace T : Hid (TabAt w22 (.slice (some ⟨b5, 0, none⟩) 2 2) shopS.tab) := T.out.keep hb
  clear hb
  go_wp2_with fail
  refine (mkcall_c _ _ _ _ _ _ _ _ _).mono ?_
  rintro e w23 ⟨rfl, hb⟩
  replace HbegA : Hid (StBox pbegA begA (.slice xabegA begA.tab.length xcbegA) w23 ∧ TabAt w23 (.slice xabegA begA.tab.length xcbegA) begA.tab) := ⟨HbegA.out.1.keep hb, HbegA.out.2.keep hb⟩
  replace HbegB : Hid (StBox pbegB begB (.slice xabegB begB.tab.length xcbegB) w23 ∧ TabAt w23 (.slice xabegB begB.tab.length xcbegB) begB.tab) := ⟨HbegB.out.1.keep hb, HbegB.out.2.keep hb⟩
  replace HK : Hid (Keeps w w23) := HK.out.trans hb
  replace T : Hid (TabAt w23 (.slice (some ⟨b5, 0, none⟩) 2 2) shopS.tab) := T.out.keep hb
  clear hb
  go_wp2_with fail
  refine (one_to shopS ⟨2, 30, 2, 4, 2, 2, 0, 0, 3⟩ (-3) false 0 (by decide +kernel) _ _ T.out).mono ?_
  rintro e w24 ⟨t5, xa5, xn5, xc5, rfl, hb⟩
  replace HbegA : Hid (StBox pbegA begA (.slice xabegA begA.tab.length xcbegA) w24 ∧ TabAt w24 (.slice xabegA begA.tab.length xcbegA) begA.tab) := ⟨HbegA.out.1.keep hb, HbegA.out.2.keep hb⟩
  replace HbegB : Hid (StBox pbegB begB (.slice xabegB begB.tab.length xcbegB) w24 ∧ TabAt w24 (.slice xabegB begB.tab.length xcbegB) begB.tab) := ⟨HbegB.out.1.keep hb, HbegB.out.2.keep hb⟩
  replace HK : Hid (Keeps w w24) := HK.out.trans hb
  clear hb T
  go_wp2_with fail
  refine (shop_c _).mono ?_
  rintro e w25 ⟨b6, _, _, _, _, _, hs, -, rfl, hb⟩
  have T : Hid (TabAt w25 (.slice (some ⟨b6, 0, none⟩) 2 2) shopS.tab) := hs.tab
  replace HbegA : Hid (StBox pbegA begA (.slice xabegA begA.tab.length xcbegA) w25 ∧ TabAt w25 (.slice xabegA begA.tab.length xcbegA) begA.tab) := ⟨HbegA.out.1.keep (((Keeps.refl _).alloc _).trans hb), HbegA.out.2.keep (((Keeps.refl _).alloc _).trans hb)⟩
  replace HbegB : Hid (StBox pbegB begB (.slice xabegB begB.tab.length xcbegB) w25 ∧ TabAt w25 (.slice xabegB begB.tab.length xcbegB) begB.tab) := ⟨HbegB.out.1.keep (((Keeps.refl _).alloc _).trans hb), HbegB.out.2.keep (((Keeps.refl _).alloc _).trans hb)⟩
  replace HK : Hid (Keeps w w25) := (HK.out.alloc _).trans hb
  clear hs hb
  go_wp2_with fail
  refine (mkopen_c _ _ _).mono ?_
  rintro e w26 ⟨rfl, hb⟩
  replace HbegA : Hid (StBox pbegA begA (.slice xabegA begA.tab.length xcbegA) w26 ∧ TabAt w26 (.slice xabegA begA.tab.length xcbegA) begA.tab) := ⟨HbegA.out.1.keep hb, HbegA.out.2.keep hb⟩
  replace HbegB : Hid (StBox pbegB begB (.slice xabegB begB.tab.length xcbegB) w26 ∧ TabAt w26 (.slice xabegB begB.tab.length xcbegB) begB.tab) := ⟨HbegB.out.1.keep hb, HbegB.out.2.keep hb⟩
  replace HK : Hid (Keeps w w26) := HK.out.trans hb
  replace T : Hid (TabAt w26 (.slice (some ⟨b6, 0, none⟩) 2 2) shopS.tab) := T.out.keep hb
  clear hb
  go_wp2_with fail
  refine (one_at shopS begC ⟨1, 30, 1, 0, 0, 0, 0, 0, 0⟩ (0) false 0 ⟨by kernel_rfl, by decide +kernel⟩ _ _ T.out).mono ?_
  rintro e w27 ⟨xabegC, xcbegC, rfl, ho, hb⟩
  have ObegC : Hid (TabAt w27 (.slice xabegC begC.tab.length xcbegC) begC.tab) := ho.tab
  clear ho
  replace HbegA : Hid (StBox pbegA begA (.slice xabegA begA.tab.length xcbegA) w27 ∧ TabAt w27 (.slice xabegA begA.tab.length xcbegA) begA.tab) := ⟨HbegA.out.1.keep hb, HbegA.out.2.keep hb⟩
  replace HbegB : Hid (StBox pbegB begB (.slice xabegB begB.tab.length xcbegB) w27 ∧ TabAt w27 (.slice xabegB begB.tab.length xcbegB) begB.tab) := ⟨HbegB.out.1.keep hb, HbegB.out.2.keep hb⟩
  replace HK : Hid (Keeps w w27) := HK.out.trans hb
  clear hb T
  go_wp2_with fail
  refine (shop_c _).mono ?_
  rintro e w28 ⟨b7, _, _, _, _, _, hs, -, rfl, hb⟩
  have T : Hid (TabAt w28 (.slice (some ⟨b7, 0, none⟩) 2 2) shopS.tab) := hs.tab
  replace HbegA : Hid (StBox pbegA begA (.slice xabegA begA.tab.length xcbegA) w28 ∧ TabAt w28 (.slice xabegA begA.tab.length xcbegA) begA.tab) := ⟨HbegA.out.1.keep (((Keeps.refl _).alloc _).trans hb), HbegA.out.2.keep (((Keeps.refl _).alloc _).trans hb)⟩
  replace HbegB : Hid (StBox pbegB begB (.slice xabegB begB.tab.length xcbegB) w28 ∧ TabAt w28 (.slice xabegB begB.tab.length xcbegB) begB.tab) := ⟨HbegB.out.1.keep (((Keeps.refl _).alloc _).trans hb), HbegB.out.2.keep (((Keeps.refl _).alloc _).trans hb)⟩
  replace HK : Hid (Keeps w w28) := (HK.out.alloc _).trans hb
  have HbegC : Hid (StBox w27.heap.size begC (.slice xabegC begC.tab.length xcbegC) w28 ∧ TabAt w28 (.slice xabegC begC.tab.length xcbegC) begC.tab) := ⟨(StBox.new w27 begC _ 25).keep hb, ObegC.out.keep (((Keeps.refl _).alloc _).trans hb)⟩
  clear ObegC
  generalize w27.heap.size = pbegC at *
  clear hs hb
  go_wp2_with fail
  refine (add_c _ _).mono ?_
  rintro e w29 ⟨rfl, hb⟩
  replace HbegA : Hid (StBox pbegA begA (.slice xabegA begA.tab.length xcbegA) w29 ∧ TabAt w29 (.slice xabegA begA.tab.length xcbegA) begA.tab) := ⟨HbegA.out.1.keep hb, HbegA.out.2.keep hb⟩
  replace HbegB : Hid (StBox pbegB begB (.slice xabegB begB.tab.length xcbegB) w29 ∧ TabAt w29 (.slice xabegB begB.tab.length xcbegB) begB.tab) := ⟨HbegB.out.1.keep hb, HbegB.out.2.keep hb⟩
  replace HbegC : Hid (StBox pbegC begC (.slice xabegC begC.tab.length xcbegC) w29 ∧ TabAt w29 (.slice xabegC begC.tab.length xcbegC) begC.tab) := ⟨HbegC.out.1.keep hb, HbegC.out.2.keep hb⟩
  replace HK : Hid (Keeps w w29) := HK.out.trans hb
  replace T : Hid (TabAt w29 (.slice (some ⟨b7, 0, none⟩) 2 2) shopS.tab) := T.out.keep hb
  clear hb
  go_wp2_with fail
  refine (mkcall_c _ _ _ _ _ _ _ _ _).mono ?_
  rintro e w30 ⟨rfl, hb⟩
  replace HbegA : Hid (StBox pbegA begA (.slice xabegA begA.tab.length xcbegA) w30 ∧ TabAt w30 (.slice xabegA begA.tab.length xcbegA) begA.tab) := ⟨HbegA.out.1.keep hb, HbegA.out.2.keep hb⟩
  replace HbegB : Hid (StBox pbegB begB (.slice xabegB begB.tab.length xcbegB) w30 ∧ TabAt w30 (.slice xabegB begB.tab.length xcbegB) begB.tab) := ⟨HbegB.out.1.keep hb, HbegB.out.2.keep hb⟩
  replace HbegC : Hid (StBox pbegC begC (.slice xabegC begC.tab.length xcbegC) w30 ∧ TabAt w30 (.slice xabegC begC.tab.length xcbegC) begC.tab) := ⟨HbegC.out.1.keep hb, HbegC.out.2.keep hb⟩
  replace HK : Hid (Keeps w w30) := HK.out.trans hb
  replace T : Hid (TabAt w30 (.slice (some ⟨b7, 0, none⟩) 2 2) shopS.tab) := T.out.keep hb
  clear hb
  go_wp2_with fail
  refine (one_to shopS ⟨2, 11, 2, 4, 4, 2, 0, 0, 3⟩ (0) false 3 (by decide +kernel) _ _ T.out).mono ?_
  rintro e w31 ⟨t7, xa7, xn7, xc7, rfl, hb⟩
  replace HbegA : Hid (StBox pbegA begA (.slice xabegA begA.tab.length xcbegA) w31 ∧ TabAt w31 (.slice xabegA begA.tab.length xcbegA) begA.tab) := ⟨HbegA.out.1.keep hb, HbegA.out.2.keep hb⟩
  replace HbegB : Hid (StBox pbegB begB (.slice xabegB begB.tab.length xcbegB) w31 ∧ TabAt w31 (.slice xabegB begB.tab.length xcbegB) begB.tab) := ⟨HbegB.out.1.keep hb, HbegB.out.2.keep hb⟩
  replace HbegC : Hid (StBox pbegC begC (.slice xabegC begC.tab.length xcbegC) w31 ∧ TabAt w31 (.slice xabegC begC.tab.length xcbegC) begC.tab) := ⟨HbegC.out.1.keep hb, HbegC.out.2.keep hb⟩
  replace HK : Hid (Keeps w w31) := HK.out.trans hb
  clear hb T
  obtain ⟨gbegA, obegA, cbegA, hv, hcell⟩ := HbegA.out.2.at (k := 0) (by decide)
  injection hv with hv1 hv2 hv3
  subst hv1
  obtain ⟨_, _, s2begA, kabegA, kcbegA, s3begA, _⟩ := hcell 0 (by decide)
  simp only [List.getElem_cons_zero, List.length_cons, List.length_nil, Nat.zero_mul, Nat.add_zero, Nat.reduceAdd] at s2begA s3begA
  have a0begA := HbegA.out.1.c0
  have a2begA := HbegA.out.1.c2
  have a6begA := HbegA.out.1.c6
  have albegA := HbegA.out.1.lt
  have glbegA := World.block_lt_of_cell? _ _ s3begA
  simp only [] at glbegA
  clear hv2 hv3 hcell HbegA
  obtain ⟨gbegB, obegB, cbegB, hv, hcell⟩ := HbegB.out.2.at (k := 0) (by decide)
  injection hv with hv1 hv2 hv3
  subst hv1
  obtain ⟨_, _, s2begB, kabegB, kcbegB, s3begB, _⟩ := hcell 0 (by decide)
  simp only [List.getElem_cons_zero, List.length_cons, List.length_nil, Nat.zero_mul, Nat.add_zero, Nat.reduceAdd] at s2begB s3begB
  have a0begB := HbegB.out.1.c0
  have a2begB := HbegB.out.1.c2
  have a6begB := HbegB.out.1.c6
  have albegB := HbegB.out.1.lt
  have glbegB := World.block_lt_of_cell? _ _ s3begB
  simp only [] at glbegB
  clear hv2 hv3 hcell HbegB
  obtain ⟨gbegC, obegC, cbegC, hv, hcell⟩ := HbegC.out.2.at (k := 0) (by decide)
  injection hv with hv1 hv2 hv3
  subst hv1
  obtain ⟨_, _, s2begC, kabegC, kcbegC, s3begC, _⟩ := hcell 0 (by decide)
  simp only [List.getElem_cons_zero, List.length_cons, List.length_nil, Nat.zero_mul, Nat.add_zero, Nat.reduceAdd] at s2begC s3begC
  have a0begC := HbegC.out.1.c0
  have a2begC := HbegC.out.1.c2
  have a6begC := HbegC.out.1.c6
  have albegC := HbegC.out.1.lt
  have glbegC := World.block_lt_of_cell? _ _ s3begC
  simp only [] at glbegC
  clear hv2 hv3 hcell HbegC
  simp only [List.length_cons, List.length_nil, Nat.reduceAdd] at *
  go_wp2_with fail
  go_ret
  exact ⟨rfl, HK.out.alloc _⟩
end Go.Proofs.Ythlfdpolflifgab

/- The reference's EntryError; the walk of ApplyChecks. -/
set_option linter.unusedSimpArgs false
set_option linter.unusedVariables false
set_option maxRecDepth 10000
namespace Go.Proofs.Ythlfdpolflifgab
open Go.RowKit

set_option maxHeartbeats 4000000 in
theorem entry_error (e : Ent) (w : World) : Calls Try.prog 16 #[entV e] w fun x w' => x = .returned (.int .i64 (entErr e)) ∧ Keeps w w' := by
  have HE : Hid (entErr e = if inB e.kind 1 3 then (if entIn e then (if e.kind == 2 then opErr e.ok e.okey e.oto e.on else if e.seq == 0 && (e.ack == 0 && opNone e) then 0 else 1) else 3) else 4) := rfl
  have HI : Hid (entIn e = (inB e.time 0 999 && (inB e.client 1 5 && (e.kind != 2 || (inB e.seq 1 60 && inB e.ack 0 (e.seq - 1)))))) := rfl
  have HN : Hid (opNone e = (e.ok == 0 && (e.okey == 0 && (e.oto == 0 && e.on == 0)))) := rfl
  have hn := neqop
  cases q1 : inB e.kind 1 3 with
  | false =>
    have HE : Hid (entErr e = 4) := by show _ = _; rw [HE.out, q1]; rfl
    go_enter Try.func16, Try.ntmps16
    go_wp2_with (first | (go_at_call 27; refine (within_c _ _ _ _).mono ?_; rintro x w' ⟨rfl, rfl⟩))
    go_ret
    exact ⟨ret_int HE.out.symm, (Keeps.refl _).alloc _⟩
  | true =>
    rw [q1] at HE
    cases qt : inB e.time 0 999 with
    | false =>
      have HF : Hid (entErr e = 3) := by show _ = _; rw [HE.out, HI.out, qt]; rfl
      go_enter Try.func16, Try.ntmps16
      go_wp2_with (first | (go_at_call 27; refine (within_c _ _ _ _).mono ?_; rintro x w' ⟨rfl, rfl⟩))
      go_ret
      exact ⟨ret_int HF.out.symm, (Keeps.refl _).alloc _⟩
    | true =>
      cases qc : inB e.client 1 5 with
      | false =>
        have HF : Hid (entErr e = 3) := by show _ = _; rw [HE.out, HI.out, qt, qc]; rfl
        go_enter Try.func16, Try.ntmps16
        go_wp2_with (first | (go_at_call 27; refine (within_c _ _ _ _).mono ?_; rintro x w' ⟨rfl, rfl⟩))
        go_ret
        exact ⟨ret_int HF.out.symm, (Keeps.refl _).alloc _⟩
      | true =>
        cases q3 : (e.kind == 2) with
        | false =>
          have q3' : (e.kind != 2) = true := by simp [bne, q3]
          have HEE : Hid (entErr e = if e.seq == 0 && (e.ack == 0 && opNone e) then 0 else 1) := by show _ = _; rw [HE.out, HI.out, qt, qc, q3', q3]; rfl
          cases q4 : (e.seq == 0) with
          | false =>
            have q4' : (e.seq != 0) = true := by simp [bne, q4]
            have HF : Hid (entErr e = 1) := by show _ = _; rw [HEE.out, q4]; rfl
            go_enter Try.func16, Try.ntmps16
            go_wp2_with (first | (go_at_call 27; refine (within_c _ _ _ _).mono ?_; rintro x w' ⟨rfl, rfl⟩))
            go_ret
            exact ⟨ret_int HF.out.symm, (Keeps.refl _).alloc _⟩
          | true =>
            have q4' : (e.seq != 0) = false := by simp [bne, q4]
            cases q5 : (e.ack == 0) with
            | false =>
              have q5' : (e.ack != 0) = true := by simp [bne, q5]
              have HF : Hid (entErr e = 1) := by show _ = _; rw [HEE.out, q4, q5]; rfl
              go_enter Try.func16, Try.ntmps16
              go_wp2_with (first | (go_at_call 27; refine (within_c _ _ _ _).mono ?_; rintro x w' ⟨rfl, rfl⟩))
              go_ret
              exact ⟨ret_int HF.out.symm, (Keeps.refl _).alloc _⟩
            | true =>
              have q5' : (e.ack != 0) = false := by simp [bne, q5]
              cases q6 : (e.ok == 0 && (e.okey == 0 && (e.oto == 0 && e.on == 0))) with
              | false =>
                have q6' : (!(e.ok == 0 && (e.okey == 0 && (e.oto == 0 && e.on == 0)))) = true := by rw [q6]; rfl
                have HF : Hid (entErr e = 1) := by show _ = _; rw [HEE.out, q4, q5, HN.out, q6]; rfl
                go_enter Try.func16, Try.ntmps16
                go_wp2_with (first | (go_at_call 27; refine (within_c _ _ _ _).mono ?_; rintro x w' ⟨rfl, rfl⟩))
                go_ret
                exact ⟨ret_int HF.out.symm, (Keeps.refl _).alloc _⟩
              | true =>
                have q6' : (!(e.ok == 0 && (e.okey == 0 && (e.oto == 0 && e.on == 0)))) = false := by rw [q6]; rfl
                have HF : Hid (entErr e = 0) := by show _ = _; rw [HEE.out, q4, q5, HN.out, q6]; rfl
                go_enter Try.func16, Try.ntmps16
                go_wp2_with (first | (go_at_call 27; refine (within_c _ _ _ _).mono ?_; rintro x w' ⟨rfl, rfl⟩))
                go_ret
                exact ⟨ret_int HF.out.symm, (Keeps.refl _).alloc _⟩
        | true =>
          have q3' : (e.kind != 2) = false := by simp [bne, q3]
          cases qs : inB e.seq 1 60 with
          | false =>
            have HF : Hid (entErr e = 3) := by show _ = _; rw [HE.out, HI.out, qt, qc, q3', qs]; rfl
            go_enter Try.func16, Try.ntmps16
            go_wp2_with (first | (go_at_call 27; refine (within_c _ _ _ _).mono ?_; rintro x w' ⟨rfl, rfl⟩))
            go_ret
            exact ⟨ret_int HF.out.symm, (Keeps.refl _).alloc _⟩
          | true =>
            have qs' := inB_iff.1 qs
            obtain ⟨qs1, qs2⟩ := qs'
            cases qa : inB e.ack 0 (e.seq - 1) with
            | false =>
              have HF : Hid (entErr e = 3) := by show _ = _; rw [HE.out, HI.out, qt, qc, q3', qs, qa]; rfl
              go_enter Try.func16, Try.ntmps16
              go_wp2_with (first | (go_at_call 27; refine (within_c _ _ _ _).mono ?_; rintro x w' ⟨rfl, rfl⟩))
              go_ret
              exact ⟨ret_int HF.out.symm, (Keeps.refl _).alloc _⟩
            | true =>
              have HF : Hid (entErr e = opErr e.ok e.okey e.oto e.on) := by show _ = _; rw [HE.out, HI.out, qt, qc, q3', qs, qa, q3]; rfl
              go_enter Try.func16, Try.ntmps16
              go_wp2_with (first | (go_at_call 27; refine (within_c _ _ _ _).mono ?_; rintro x w' ⟨rfl, rfl⟩) | (go_at_call 37; refine (op_error e.ok e.okey e.oto e.on _).mono ?_; rintro x w2 ⟨rfl, hb⟩))
              go_ret
              exact ⟨ret_int HF.out.symm, ((Keeps.refl _).alloc _).trans hb⟩

set_option maxHeartbeats 2000000 in
theorem checks_law (e : Ent) (w : World) : Calls Try.prog 4 #[entV e] w fun x w' => x = .returned (.bool true) ∧ Keeps w w' := by
  go_enter Try.func4, Try.ntmps4
  go_wp2_with fail
  obtain ⟨W1, hW1⟩ : ∃ W1, W1 = w.alloc (.cells #[.int .i64 e.kind, .int .i64 e.time, .int .i64 e.client, .int .i64 e.seq, .int .i64 e.ack, .int .i64 e.ok, .int .i64 e.okey, .int .i64 e.oto, .int .i64 e.on] 33) := ⟨_, rfl⟩
  have k1 : Keeps w W1 := by rw [hW1]; exact (Keeps.refl _).alloc _
  have E1 : EntBox w.heap.size e W1 := by rw [hW1]; exact EntBox.new w e 33
  rw [← hW1]
  clear hW1
  have hne := After.some W1
  have x0 := fun t : After W1 => (E1.keep t.h).c0
  have x1 := fun t : After W1 => (E1.keep t.h).c1
  have x2 := fun t : After W1 => (E1.keep t.h).c2
  have x3 := fun t : After W1 => (E1.keep t.h).c3
  have x4 := fun t : After W1 => (E1.keep t.h).c4
  have x5 := fun t : After W1 => (E1.keep t.h).c5
  have x6 := fun t : After W1 => (E1.keep t.h).c6
  have x7 := fun t : After W1 => (E1.keep t.h).c7
  have x8 := fun t : After W1 => (E1.keep t.h).c8
  have C1 : Hid (∀ W, Calls Try.prog 15 #[entV e] W fun x w' => x = .returned (.int .i64 (entErr e)) ∧ Keeps W w') := fun W => ent_check e W
  have C2 : Hid (∀ W, Calls Try.prog 16 #[entV e] W fun x w' => x = .returned (.int .i64 (entErr e)) ∧ Keeps W w') := fun W => entry_error e W
  generalize entErr e = er at *
  refine wp_region_after (by kernel_rfl) (by kernel_rfl) ?_
  repeat (first | go_big_quiet_skip | (go_big_quiet_want; go_big_quiet_op; first | go_big_quiet_on | (apply Exists.intro; refine ⟨fun _ => ?_, ?_⟩; (first | (go_at_call 14; exact calls_after (apply_begun _)) | (go_at_call 15; exact calls_after (C1.out _)) | (go_at_call 16; exact calls_after (C2.out _))); go_big_quiet_on)))
  refine wpQuiet_nil ?_
  rintro _ ⟨r, rfl⟩
  go_wp2_with fail
  go_ret
  exact ⟨rfl, k1.trans r.h⟩
end Go.Proofs.Ythlfdpolflifgab
