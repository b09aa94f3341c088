/- sessBegun. -/
import Derived.Test.YteabfjpajgakiaaSesL
import Derived.Test.YteabfjpajgakiaaSesK2
import Derived.Test.YteabfjpajgakiaaSesG2
import Derived.Test.YteabfjpajgakiaaSesR
import Derived.Test.YteabfjpajgakiaaSwap
set_option linter.unusedSimpArgs false
set_option linter.unusedVariables false
namespace Go.Proofs.Yteabfjpajgakiaa
open Go.RowKit

set_option maxRecDepth 8000 in
set_option maxHeartbeats 16000000 in
theorem sess_begun (w : World) : Calls Try.prog 16 #[] w fun e w' => e = .returned (.bool true) ∧ Keeps w w' := by
  go_enter Try.func16, Try.ntmps16
  go_wp2_with fail
  refine (row_c 2 _).mono ?_
  rintro e w1 ⟨a2, c2, k2, rfl, hb1⟩
  have K2 : Hid (KeptAt w1 (.slice a2 2 c2) [(3, 7), (5, -1)]) := k2
  clear k2
  go_wp2_with fail
  refine (row_c 4 _).mono ?_
  rintro e w2 ⟨a4, c4, k4, rfl, hb2⟩
  have T0 : Hid (TabAt (w2.alloc (.cells #[.int .i64 2, .int .i64 2, .int .i64 9, .slice a2 2 c2, .int .i64 4, .int .i64 2, .int .i64 9, .slice a4 2 c4] 34)) (.slice (some ⟨w2.heap.size, 0, none⟩) 2 2) [rowS 2, rowS 4]) :=
    tab_new w2 [rowS 2, rowS 4] [.slice a2 2 c2, .slice a4 2 c4] ⟨K2.out.keep hb2, k4, trivial⟩ (by decide) _ rfl rfl
  have hk2 : Keeps w w2 := hb1.trans hb2
  clear K2 k4 hb1 hb2
  go_wp2_with fail
  refine (row_c 3 _).mono ?_
  rintro e w3 ⟨a3, c3, k3, rfl, hb3⟩
  have T1 : Hid (TabAt w3 (.slice (some ⟨w2.heap.size, 0, none⟩) 2 2) [rowS 2, rowS 4]) := T0.out.keep hb3
  have hk3 : Keeps w w3 := (hk2.alloc _).trans hb3
  have K3 : Hid (KeptAt w3 (.slice a3 2 c3) [(3, 7), (5, -1)]) := k3
  clear T0 hk2 hb3 k3
  go_wp2_with fail
  have P := sess_put [rowS 2, rowS 4] _ (rowS 3) _ w3 T1.out K3.out
  rw [show putTab [rowS 2, rowS 4] (rowS 3) = [rowS 2, rowS 3, rowS 4] from by kernel_rfl, show putErr [rowS 2, rowS 4] (rowS 3) = 0 from by kernel_rfl] at P
  refine P.mono ?_
  clear P
  rintro e w4 ⟨l, ho, rfl, hb4⟩
  obtain ⟨la, lc, rfl, _⟩ := ho.tab.len
  simp only [List.length_cons, List.length_nil, Nat.zero_add, Nat.reduceAdd] at ho
  have LT : Hid (TabAt w4 (.slice la 3 lc) [rowS 2, rowS 3, rowS 4]) := ho.tab
  have hk4 : Keeps w w4 := hk3.trans hb4
  clear ho hb4 hk3 T1 K3
  go_wp2_with fail
  refine (row_c 5 _).mono ?_
  rintro e w5 ⟨a5, c5, k5, rfl, hb5⟩
  have hk5 : Keeps w w5 := hk4.trans hb5
  have L5 : Hid (TabAt w5 (.slice la 3 lc) [rowS 2, rowS 3, rowS 4]) := LT.out.keep hb5
  have K5 : Hid (KeptAt w5 (.slice a5 2 c5) [(3, 7), (5, -1)]) := k5
  clear hk4 hb5 LT k5
  go_wp2_with fail
  have P := sess_put [rowS 2, rowS 3, rowS 4] _ (rowS 5) _ w5 L5.out K5.out
  rw [show putTab [rowS 2, rowS 3, rowS 4] (rowS 5) = [] from by kernel_rfl, show putErr [rowS 2, rowS 3, rowS 4] (rowS 5) = 2 from by kernel_rfl] at P
  refine P.mono ?_
  clear P
  rintro e w6 ⟨v6, ho, rfl, hb6⟩
  obtain ⟨xa, xc, rfl, _⟩ := ho.tab.len
  simp only [List.length_nil] at ho
  have hk6 : Keeps w w6 := hk5.trans hb6
  have L6 : Hid (TabAt w6 (.slice la 3 lc) [rowS 2, rowS 3, rowS 4]) := L5.out.keep hb6
  clear ho hk5 hb6 L5 K5
  go_wp2_with fail
  have P := sess_put [rowS 2, rowS 3, rowS 4] _ (⟨3, 0, 0, []⟩ : Ses) _ w6 L6.out (kept_nil w6)
  rw [show putTab [rowS 2, rowS 3, rowS 4] ⟨3, 0, 0, []⟩ = [rowS 2, ⟨3, 0, 0, []⟩, rowS 4] from by kernel_rfl, show putErr [rowS 2, rowS 3, rowS 4] ⟨3, 0, 0, []⟩ = 0 from by kernel_rfl] at P
  refine P.mono ?_
  clear P
  rintro e w7 ⟨v7, ho, rfl, hb7⟩
  obtain ⟨mb, moff, mc, rfl, hmc⟩ := ho.tab.at (k := 1) (by decide)
  simp only [List.length_cons, List.length_nil, Nat.zero_add, Nat.reduceAdd] at ho
  have hm1 := (hmc 1 (by decide)).2.1
  simp only [List.getElem_cons_succ, List.getElem_cons_zero, Nat.one_mul] at hm1
  have HM : Hid (w7.cell? ⟨mb, moff + 4 + 1, none⟩ = some (.int .i64 0)) := hm1
  have hk7 : Keeps w w7 := hk6.trans hb7
  have L7 : Hid (TabAt w7 (.slice la 3 lc) [rowS 2, rowS 3, rowS 4]) := L6.out.keep hb7
  clear ho hk6 hb7 L6 hmc hm1
  go_wp2_with fail
  have P := find_ok [rowS 2, rowS 3, rowS 4] _ 3 w7 L7.out (by kernel_rfl)
  rw [show findSes [rowS 2, rowS 3, rowS 4] 3 = some (rowS 3) from by kernel_rfl] at P
  refine P.mono ?_
  clear P
  rintro e w8 ⟨kv8, hk, rfl, hb8⟩
  obtain ⟨fa, fc, rfl, _⟩ := hk.len
  simp only [Option.getD_some, List.length_cons, List.length_nil, Nat.zero_add, Nat.reduceAdd] at hk
  have hk8 : Keeps w w8 := hk7.trans hb8
  have L8 : Hid (TabAt w8 (.slice la 3 lc) [rowS 2, rowS 3, rowS 4]) := L7.out.keep hb8
  have HM8 : Hid (w8.cell? ⟨mb, moff + 4 + 1, none⟩ = some (.int .i64 0)) := cell_keep HM.out hb8
  have F8 : Hid (KeptAt w8 (.slice fa 2 fc) [(3, 7), (5, -1)]) := hk
  clear hk hk7 hb8 L7 HM
  go_wp2_with fail
  have P := find_ok [rowS 2, rowS 3, rowS 4] _ 1 (w8.alloc (.cells #[.int .i64 3, .int .i64 2, .int .i64 9, .slice fa 2 fc] 34)) (L8.out.keep ((Keeps.refl _).alloc _)) (by kernel_rfl)
  rw [show findSes [rowS 2, rowS 3, rowS 4] 1 = none from by kernel_rfl] at P
  refine P.mono ?_
  clear P
  rintro e w9 ⟨kv9, hk, rfl, hb⟩
  obtain ⟨ga, gc, rfl, _⟩ := hk.len
  simp only [Option.getD_none, zeroSes, List.length_nil] at hk
  have hb9 : Keeps w8 w9 := ((Keeps.refl _).alloc _).trans hb
  have FB9 : Hid (Keeps (w8.alloc (.cells #[.int .i64 3, .int .i64 2, .int .i64 9, .slice fa 2 fc] 34)) w9) := hb
  have hk9 : Keeps w w9 := hk8.trans hb9
  have L9 : Hid (TabAt w9 (.slice la 3 lc) [rowS 2, rowS 3, rowS 4]) := L8.out.keep hb9
  have HM9 : Hid (w9.cell? ⟨mb, moff + 4 + 1, none⟩ = some (.int .i64 0)) := cell_keep HM8.out hb9
  have F9 : Hid (KeptAt w9 (.slice fa 2 fc) [(3, 7), (5, -1)]) := F8.out.keep hb9
  clear hk hk8 hb9 hb L8 HM8 F8
  go_wp2_with fail
  have P := sess_drop [rowS 2, rowS 3, rowS 4] _ 2 (w9.alloc (.cells #[.int .i64 0, .int .i64 0, .int .i64 0, .slice ga 0 gc] 34)) (L9.out.keep ((Keeps.refl _).alloc _))
  rw [show dropTab [rowS 2, rowS 3, rowS 4] 2 = [rowS 3, rowS 4] from by kernel_rfl, show dropErr [rowS 2, rowS 3, rowS 4] 2 = 0 from by kernel_rfl] at P
  refine P.mono ?_
  clear P
  rintro e w10 ⟨d, ho, rfl, hb⟩
  obtain ⟨da, dc, rfl, _⟩ := ho.tab.len
  simp only [List.length_cons, List.length_nil, Nat.zero_add, Nat.reduceAdd] at ho
  have hb10 : Keeps w9 w10 := ((Keeps.refl _).alloc _).trans hb
  have FB10 : Hid (Keeps (w8.alloc (.cells #[.int .i64 3, .int .i64 2, .int .i64 9, .slice fa 2 fc] 34)) w10) := FB9.out.trans hb10
  have hk10 : Keeps w w10 := hk9.trans hb10
  have L10 : Hid (TabAt w10 (.slice la 3 lc) [rowS 2, rowS 3, rowS 4]) := L9.out.keep hb10
  have HM10 : Hid (w10.cell? ⟨mb, moff + 4 + 1, none⟩ = some (.int .i64 0)) := cell_keep HM9.out hb10
  have F10 : Hid (KeptAt w10 (.slice fa 2 fc) [(3, 7), (5, -1)]) := F9.out.keep hb10
  clear ho hk9 hb10 hb L9 HM9 F9 FB9
  go_wp2_with fail
  have P := sess_drop [rowS 2, rowS 3, rowS 4] _ 1 w10 L10.out
  rw [show dropTab [rowS 2, rowS 3, rowS 4] 1 = [] from by kernel_rfl, show dropErr [rowS 2, rowS 3, rowS 4] 1 = 5 from by kernel_rfl] at P
  refine P.mono ?_
  clear P
  rintro e w11 ⟨d2, ho, rfl, hb11⟩
  obtain ⟨da2, dc2, rfl, _⟩ := ho.tab.len
  simp only [List.length_nil] at ho
  have FB11 : Hid (Keeps (w8.alloc (.cells #[.int .i64 3, .int .i64 2, .int .i64 9, .slice fa 2 fc] 34)) w11) := FB10.out.trans hb11
  have hk11 : Keeps w w11 := hk10.trans hb11
  have L11 : Hid (TabAt w11 (.slice la 3 lc) [rowS 2, rowS 3, rowS 4]) := L10.out.keep hb11
  have HM11 : Hid (w11.cell? ⟨mb, moff + 4 + 1, none⟩ = some (.int .i64 0)) := cell_keep HM10.out hb11
  have F11 : Hid (KeptAt w11 (.slice fa 2 fc) [(3, 7), (5, -1)]) := F10.out.keep hb11
  clear ho hk10 hb11 L10 HM10 F10 FB10
  go_wp2_with fail
  have P := sess_fresh [rowS 2, rowS 3, rowS 4] _ 30 w11 L11.out
  rw [show frTab [rowS 2, rowS 3, rowS 4] 30 = [] from by kernel_rfl, show freshErr [rowS 2, rowS 3, rowS 4] 30 = 0 from by kernel_rfl] at P
  refine P.mono ?_
  clear P
  rintro e w12 ⟨x2, ho, rfl, hb12⟩
  obtain ⟨ya, yc, rfl, _⟩ := ho.tab.len
  simp only [List.length_nil] at ho
  have FB12 : Hid (Keeps (w8.alloc (.cells #[.int .i64 3, .int .i64 2, .int .i64 9, .slice fa 2 fc] 34)) w12) := FB11.out.trans hb12
  have hk12 : Keeps w w12 := hk11.trans hb12
  have L12 : Hid (TabAt w12 (.slice la 3 lc) [rowS 2, rowS 3, rowS 4]) := L11.out.keep hb12
  have HM12 : Hid (w12.cell? ⟨mb, moff + 4 + 1, none⟩ = some (.int .i64 0)) := cell_keep HM11.out hb12
  have F12 : Hid (KeptAt w12 (.slice fa 2 fc) [(3, 7), (5, -1)]) := F11.out.keep hb12
  clear ho hk11 hb12 L11 HM11 F11 FB11 L12
  have hm := HM12.out
  have e0 : w12.cell? ⟨w8.heap.size, 0, none⟩ = some (.int .i64 3) := cell_keep (by simp) FB12.out
  have e1 : w12.cell? ⟨w8.heap.size, 1, none⟩ = some (.int .i64 2) := cell_keep (by simp) FB12.out
  have e2 : w12.cell? ⟨w8.heap.size, 2, none⟩ = some (.int .i64 9) := cell_keep (by simp) FB12.out
  have e3 : w12.cell? ⟨w8.heap.size, 3, none⟩ = some (.slice fa 2 fc) := cell_keep (by simp) FB12.out
  go_wp2_with fail
  simp only [List.append_eq, List.cons_append, List.nil_append]
  refine wp_region_either 55 _ _ (by kernel_rfl) rfl rfl (by kernel_rfl) ?_
  simp only [List.take_succ_cons, List.take_zero, List.drop_succ_cons, List.drop_zero]
  go_wp2_with fail
  refine ⟨?_, ?_⟩
  · go_wp2_with fail
    refine (row_c 3 _).mono ?_
    rintro _ w13 ⟨a13, c13, k13, rfl, hb13⟩
    have hbx : Keeps w12 w13 := ((Keeps.refl _).drew).trans hb13
    have hk13 : Keeps w w13 := hk12.trans hbx
    have f0 := cell_keep e0 hbx
    have f1 := cell_keep e1 hbx
    have f2 := cell_keep e2 hbx
    have f3 := cell_keep e3 hbx
    have F13 : Hid (KeptAt w13 (.slice fa 2 fc) [(3, 7), (5, -1)]) := F12.out.keep hbx
    have K13 : Hid (KeptAt w13 (.slice a13 2 c13) [(3, 7), (5, -1)]) := k13
    clear k13 hb13 hbx
    go_wp2_with fail
    have P := same_session (rowS 3) (rowS 3) _ _ _ F13.out K13.out
    rw [show sameSes (rowS 3) (rowS 3) = true from by kernel_rfl] at P
    refine P.mono ?_
    clear P
    rintro _ w14 ⟨rfl, hb14⟩
    have hk14 : Keeps w w14 := hk13.trans hb14
    clear hb14 f0 f1 f2 f3 F13 K13 hk13
    go_wp2_with fail
    refine (row_c 4 _).mono ?_
    rintro _ w15 ⟨a15, c15, k15, rfl, hb15⟩
    have hk15 : Keeps w w15 := hk14.trans hb15
    have K15 : Hid (KeptAt w15 (.slice a15 2 c15) [(3, 7), (5, -1)]) := k15
    clear k15 hb15 hk14
    go_wp2_with fail
    refine (row_c 2 _).mono ?_
    rintro _ w16 ⟨a16, c16, k16, rfl, hb16⟩
    have hk16 : Keeps w w16 := hk15.trans hb16
    have T16 : Hid (TabAt (w16.alloc (.cells #[.int .i64 4, .int .i64 2, .int .i64 9, .slice a15 2 c15, .int .i64 2, .int .i64 2, .int .i64 9, .slice a16 2 c16] 34)) (.slice (some ⟨w16.heap.size, 0, none⟩) 2 2) [rowS 4, rowS 2]) := tab_new w16 [rowS 4, rowS 2] [.slice a15 2 c15, .slice a16 2 c16] ⟨K15.out.keep hb16, k16, trivial⟩ (by decide) _ rfl rfl
    clear k16 hb16 K15 hk15
    go_wp2_with fail
    have P := sess_check _ _ _ T16.out
    rw [show tabErr [rowS 4, rowS 2] = 1 from by kernel_rfl] at P
    refine P.mono ?_
    clear P
    rintro _ w17 ⟨rfl, hb17⟩
    have hk17 : Keeps w w17 := (hk16.alloc _).trans hb17
    clear hb17 T16 hk16
    go_wp2_with fail
    have T17 : TabAt ((w17.alloc (.cells #[.int .i64 4, .int .i64 0] 61)).alloc (.cells #[.int .i64 1, .int .i64 0, .int .i64 0, .slice (some ⟨w17.heap.size, 0, none⟩) 1 1] 34)) (.slice (some ⟨(w17.alloc (.cells #[.int .i64 4, .int .i64 0] 61)).heap.size, 0, none⟩) 1 1) [⟨1, 0, 0, [(4, 0)]⟩] := tab_new (w17.alloc (.cells #[.int .i64 4, .int .i64 0] 61)) [⟨1, 0, 0, [(4, 0)]⟩] [.slice (some ⟨w17.heap.size, 0, none⟩) 1 1] ⟨kept_one w17 4 0, trivial⟩ (by decide) _ rfl rfl
    rw [World.size_alloc] at T17
    have P := sess_check _ _ _ T17
    rw [show tabErr [(⟨1, 0, 0, [(4, 0)]⟩ : Ses)] = 1 from by kernel_rfl] at P
    refine P.mono ?_
    clear P T17
    rintro _ w18 ⟨rfl, hb18⟩
    have hk18 : Keeps w w18 := ((hk17.alloc _).alloc _).trans hb18
    clear hb18 hk17
    go_wp2_with fail
    have T18 := tab_new w18 [(⟨0, 0, 0, []⟩ : Ses)] [.slice none 0 0] ⟨kept_nil w18, trivial⟩ (by decide) #[.int .i64 0, .int .i64 0, .int .i64 0, .slice none 0 0] rfl rfl
    have P := sess_check _ _ _ T18
    rw [show tabErr [(⟨0, 0, 0, []⟩ : Ses)] = 3 from by kernel_rfl] at P
    refine P.mono ?_
    clear P T18
    rintro _ w19 ⟨rfl, hb19⟩
    have hk19 : Keeps w w19 := (hk18.alloc _).trans hb19
    clear hb19 hk18
    go_wp2_with fail
    refine bodyPost_ret (v := .bool true) ?_ rfl ?_
    · simp [results, Try.results16, go_sem]
    · exact ⟨rfl, hk19⟩
  · go_wp2_with fail
    refine (row_c 3 _).mono ?_
    rintro _ w13 ⟨a13, c13, k13, rfl, hb13⟩
    have hbx : Keeps w12 w13 := ((Keeps.refl _).drew).trans hb13
    have hk13 : Keeps w w13 := hk12.trans hbx
    have f0 := cell_keep e0 hbx
    have f1 := cell_keep e1 hbx
    have f2 := cell_keep e2 hbx
    have f3 := cell_keep e3 hbx
    have F13 : Hid (KeptAt w13 (.slice fa 2 fc) [(3, 7), (5, -1)]) := F12.out.keep hbx
    have K13 : Hid (KeptAt w13 (.slice a13 2 c13) [(3, 7), (5, -1)]) := k13
    clear k13 hb13 hbx
    go_wp2_with fail
    have P := same_session (rowS 3) (rowS 3) _ _ _ F13.out K13.out
    rw [show sameSes (rowS 3) (rowS 3) = true from by kernel_rfl] at P
    refine P.mono ?_
    clear P
    rintro _ w14 ⟨rfl, hb14⟩
    have hk14 : Keeps w w14 := hk13.trans hb14
    clear hb14 f0 f1 f2 f3 F13 K13 hk13
    go_wp2_with fail
    refine (row_c 4 _).mono ?_
    rintro _ w15 ⟨a15, c15, k15, rfl, hb15⟩
    have hk15 : Keeps w w15 := hk14.trans hb15
    have K15 : Hid (KeptAt w15 (.slice a15 2 c15) [(3, 7), (5, -1)]) := k15
    clear k15 hb15 hk14
    go_wp2_with fail
    refine (row_c 2 _).mono ?_
    rintro _ w16 ⟨a16, c16, k16, rfl, hb16⟩
    have hk16 : Keeps w w16 := hk15.trans hb16
    have T16 : Hid (TabAt (w16.alloc (.cells #[.int .i64 4, .int .i64 2, .int .i64 9, .slice a15 2 c15, .int .i64 2, .int .i64 2, .int .i64 9, .slice a16 2 c16] 34)) (.slice (some ⟨w16.heap.size, 0, none⟩) 2 2) [rowS 4, rowS 2]) := tab_new w16 [rowS 4, rowS 2] [.slice a15 2 c15, .slice a16 2 c16] ⟨K15.out.keep hb16, k16, trivial⟩ (by decide) _ rfl rfl
    clear k16 hb16 K15 hk15
    go_wp2_with fail
    have P := sess_check _ _ _ T16.out
    rw [show tabErr [rowS 4, rowS 2] = 1 from by kernel_rfl] at P
    refine P.mono ?_
    clear P
    rintro _ w17 ⟨rfl, hb17⟩
    have hk17 : Keeps w w17 := (hk16.alloc _).trans hb17
    clear hb17 T16 hk16
    go_wp2_with fail
    have T17 : TabAt ((w17.alloc (.cells #[.int .i64 4, .int .i64 0] 61)).alloc (.cells #[.int .i64 1, .int .i64 0, .int .i64 0, .slice (some ⟨w17.heap.size, 0, none⟩) 1 1] 34)) (.slice (some ⟨(w17.alloc (.cells #[.int .i64 4, .int .i64 0] 61)).heap.size, 0, none⟩) 1 1) [⟨1, 0, 0, [(4, 0)]⟩] := tab_new (w17.alloc (.cells #[.int .i64 4, .int .i64 0] 61)) [⟨1, 0, 0, [(4, 0)]⟩] [.slice (some ⟨w17.heap.size, 0, none⟩) 1 1] ⟨kept_one w17 4 0, trivial⟩ (by decide) _ rfl rfl
    rw [World.size_alloc] at T17
    have P := sess_check _ _ _ T17
    rw [show tabErr [(⟨1, 0, 0, [(4, 0)]⟩ : Ses)] = 1 from by kernel_rfl] at P
    refine P.mono ?_
    clear P T17
    rintro _ w18 ⟨rfl, hb18⟩
    have hk18 : Keeps w w18 := ((hk17.alloc _).alloc _).trans hb18
    clear hb18 hk17
    go_wp2_with fail
    have T18 := tab_new w18 [(⟨0, 0, 0, []⟩ : Ses)] [.slice none 0 0] ⟨kept_nil w18, trivial⟩ (by decide) #[.int .i64 0, .int .i64 0, .int .i64 0, .slice none 0 0] rfl rfl
    have P := sess_check _ _ _ T18
    rw [show tabErr [(⟨0, 0, 0, []⟩ : Ses)] = 3 from by kernel_rfl] at P
    refine P.mono ?_
    clear P T18
    rintro _ w19 ⟨rfl, hb19⟩
    have hk19 : Keeps w w19 := (hk18.alloc _).trans hb19
    clear hb19 hk18
    go_wp2_with fail
    refine bodyPost_ret (v := .bool true) ?_ rfl ?_
    · simp [results, Try.results16, go_sem]
    · exact ⟨rfl, hk19⟩
end Go.Proofs.Yteabfjpajgakiaa
