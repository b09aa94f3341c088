/- OpTrue: the walk. -/
import Derived.Test.YteabfjpajgakiaaOpI
import Derived.Test.YteabfjpajgakiaaOpH
set_option linter.unusedSimpArgs false
set_option linter.unusedVariables false
namespace Go.Proofs.Yteabfjpajgakiaa
open Go.RowKit

set_option maxHeartbeats 2000000 in
theorem op_true_err (g r : Nat → Int) (k key tk n m f : Int) (w : World) (hf : (f != 0) = true)
    (H1 : Hid (∀ (w : World), Calls Try.prog 9 #[arrV g, opV k key tk n] w fun e w' => e = .returned (.tuple #[arrV r, .int .i64 m, .int .i64 f]) ∧ Keeps w w')) :
    Calls Try.prog 4 #[arrV g, opV k key tk n] w fun e w' => e = .returned (.bool true) ∧ Keeps w w' := by
  go_enter Try.func4, Try.ntmps4
  go_wp2_with fail
  refine (H1.out _).mono ?_
  rintro e w1 ⟨rfl, hb⟩
  have hk1 : Keeps w w1 := (((Keeps.refl _).alloc _).alloc _).trans hb
  clear hb
  go_wp2_with fail
  refine (op_begun _).mono ?_
  rintro e w2 ⟨rfl, hb⟩
  have hk2 : Keeps w w2 := (hk1.alloc _).trans hb
  clear hb
  go_wp2_with fail
  go_ret
  exact ⟨rfl, hk2⟩

/-- One round's test: nothing is turned that may not be. -/
theorem round_no {g r : Nat → Int} {k key tk m : Int} (h : DoGood g r k key tk m) (i : Nat) (j : Int) (hi : i < 4) (hj : (i : Int) = j) :
    (r i != g i) = false ∨ (((r i != g i) = true) ∧ (j != key) = false) ∨ ((r i != g i) = true ∧ (j != key) = true ∧ (k != 3) = false ∧ (j != tk) = false) := by
  subst hj
  rcases h.diff i hi with h1 | h1 | ⟨h1, h2⟩
  · left; simp [h1]
  · cases hq : (r i != g i) with
    | false => left; rfl
    | true => right; left; exact ⟨rfl, by simp [h1]⟩
  · cases hq : (r i != g i) with
    | false => left; rfl
    | true =>
      right
      cases hp : ((i : Int) != key) with
      | false => left; exact ⟨rfl, rfl⟩
      | true => right; exact ⟨rfl, rfl, by simp [h1], by simp [h2]⟩

set_option maxHeartbeats 4000000 in
theorem op_true_good (g r : Nat → Int) (k key tk n m : Int) (w : World) (hd : DoGood g r k key tk m)
    (H1 : Hid (∀ (w : World), Calls Try.prog 9 #[arrV g, opV k key tk n] w fun e w' => e = .returned (.tuple #[arrV r, .int .i64 m, .int .i64 0]) ∧ Keeps w w')) :
    Calls Try.prog 4 #[arrV g, opV k key tk n] w fun e w' => e = .returned (.bool true) ∧ Keeps w w' := by
  have hk0 := hd.k0
  have hk3 := hd.k3
  have g0 := hd.vals 0 (by decide)
  have g1 := hd.vals 1 (by decide)
  have g2 := hd.vals 2 (by decide)
  have g3 := hd.vals 3 (by decide)
  have r0 := hd.outs 0 (by decide)
  have r1 := hd.outs 1 (by decide)
  have r2 := hd.outs 2 (by decide)
  have r3 := hd.outs 3 (by decide)
  obtain ⟨g00, g01⟩ := g0
  obtain ⟨g10, g11⟩ := g1
  obtain ⟨g20, g21⟩ := g2
  obtain ⟨g30, g31⟩ := g3
  obtain ⟨r00, r01⟩ := r0
  obtain ⟨r10, r11⟩ := r1
  obtain ⟨r20, r21⟩ := r2
  obtain ⟨r30, r31⟩ := r3
  have HD : Hid (DoGood g r k key tk m) := hd
  clear hd
  go_enter Try.func4, Try.ntmps4
  go_wp2_with fail
  refine (H1.out _).mono ?_
  rintro e w1 ⟨rfl, hb⟩
  have hk1 : Keeps w w1 := (((Keeps.refl _).alloc _).alloc _).trans hb
  have V1 := ((arr_new g w).below ((Keeps.refl _).alloc _)).below hb
  have X1 := (Blk.new k key tk n 24 (w.alloc (.cells #[.int .i64 (g 0), .int .i64 (g 1), .int .i64 (g 2), .int .i64 (g 3)] 22))).below hb
  rw [World.size_alloc] at X1
  clear hb
  have hv1 := V1.lt
  obtain ⟨v0, v1, v2, v3, vf⟩ := id V1
  obtain ⟨x0, x1, x2, x3, xb⟩ := id X1
  go_wp2_with fail
  refine wp_loop_rounds 5 ?_
  rw [rounds_succ]
  go_wp2_with fail
  go_cut [84] (fun s wc => s = .bool false ∧ ∃ nq, wc = (w1.alloc (.cells #[.int .i64 (r 0), .int .i64 (r 1), .int .i64 (r 2), .int .i64 (r 3)] 22)).drewN nq)
  case first =>
    have d0 : decide (r 0 < 0) = false := by simp; omega
    have d1 : decide (999 < r 0) = false := by simp; omega
    rcases round_no HD.out 0 0 (by decide) rfl with e1 | ⟨e1, e2⟩ | ⟨e1, e2, e3, e4⟩
    all_goals go_quiet (fail)
    all_goals go_wp2_with fail
    all_goals go_meet
    all_goals (first | exact ⟨rfl, _, rfl⟩ | exact ⟨rfl, _, World.drewN_drewN _ _ _⟩)
  case rest =>
  obtain ⟨rfl, nq, rfl⟩ := hcut
  go_wp2_with (rw [rounds_succ])
  go_cut [84] (fun s wc => s = .bool false ∧ ∃ nq, wc = (w1.alloc (.cells #[.int .i64 (r 0), .int .i64 (r 1), .int .i64 (r 2), .int .i64 (r 3)] 22)).drewN nq)
  case first =>
    have d0 : decide (r 1 < 0) = false := by simp; omega
    have d1 : decide (999 < r 1) = false := by simp; omega
    rcases round_no HD.out 1 1 (by decide) rfl with e1 | ⟨e1, e2⟩ | ⟨e1, e2, e3, e4⟩
    all_goals go_quiet (fail)
    all_goals go_wp2_with fail
    all_goals go_meet
    all_goals (first | exact ⟨rfl, _, rfl⟩ | exact ⟨rfl, _, World.drewN_drewN _ _ _⟩)
  case rest =>
  obtain ⟨rfl, nq, rfl⟩ := hcut
  go_wp2_with (rw [rounds_succ])
  go_cut [84] (fun s wc => s = .bool false ∧ ∃ nq, wc = (w1.alloc (.cells #[.int .i64 (r 0), .int .i64 (r 1), .int .i64 (r 2), .int .i64 (r 3)] 22)).drewN nq)
  case first =>
    have d0 : decide (r 2 < 0) = false := by simp; omega
    have d1 : decide (999 < r 2) = false := by simp; omega
    rcases round_no HD.out 2 2 (by decide) rfl with e1 | ⟨e1, e2⟩ | ⟨e1, e2, e3, e4⟩
    all_goals go_quiet (fail)
    all_goals go_wp2_with fail
    all_goals go_meet
    all_goals (first | exact ⟨rfl, _, rfl⟩ | exact ⟨rfl, _, World.drewN_drewN _ _ _⟩)
  case rest =>
  obtain ⟨rfl, nq, rfl⟩ := hcut
  go_wp2_with (rw [rounds_succ])
  go_cut [84] (fun s wc => s = .bool false ∧ ∃ nq, wc = (w1.alloc (.cells #[.int .i64 (r 0), .int .i64 (r 1), .int .i64 (r 2), .int .i64 (r 3)] 22)).drewN nq)
  case first =>
    have d0 : decide (r 3 < 0) = false := by simp; omega
    have d1 : decide (999 < r 3) = false := by simp; omega
    rcases round_no HD.out 3 3 (by decide) rfl with e1 | ⟨e1, e2⟩ | ⟨e1, e2, e3, e4⟩
    all_goals go_quiet (fail)
    all_goals go_wp2_with fail
    all_goals go_meet
    all_goals (first | exact ⟨rfl, _, rfl⟩ | exact ⟨rfl, _, World.drewN_drewN _ _ _⟩)
  case rest =>
  obtain ⟨rfl, nq, rfl⟩ := hcut
  go_wp2_with (rw [rounds_succ])
  · have hm : m = -1 := by have h : (m == -1) = true := by assumption
                           simpa using h
    have f0 := HD.out.fail hm 0 (by decide)
    have f1 := HD.out.fail hm 1 (by decide)
    have f2 := HD.out.fail hm 2 (by decide)
    have f3 := HD.out.fail hm 3 (by decide)
    clear hm
    refine (op_begun _).mono ?_
    rintro e w2 ⟨rfl, hb⟩
    have hkb : Keeps (w1.alloc (.cells #[.int .i64 (r 0), .int .i64 (r 1), .int .i64 (r 2), .int .i64 (r 3)] 22)) w2 := ((Keeps.refl _).drewN nq).trans hb
    have hk2 : Keeps w w2 := (hk1.alloc _).trans hkb
    have A2 := (arr_new r w1).below hkb
    have V2 := (V1.below ((Keeps.refl _).alloc _)).below hkb
    have X2 := (X1.below ((Keeps.refl _).alloc _)).below hkb
    clear hb hkb v0 v1 v2 v3 vf x0 x1 x2 x3 xb
    obtain ⟨v0, v1, v2, v3, vf⟩ := V2
    obtain ⟨a0, a1, a2, a3, af⟩ := A2
    obtain ⟨x0, x1, x2, x3, xb⟩ := X2
    have he := eql22
    have z0 : (r 0 == g 0) = true := by simp [f0]
    have z1 : (r 1 == g 1) = true := by simp [f1]
    have z2 : (r 2 == g 2) = true := by simp [f2]
    have z3 : (r 3 == g 3) = true := by simp [f3]
    clear f0 f1 f2 f3
    go_wp2_with fail
    go_ret
    exact ⟨rfl, hk2⟩
  · have hm : m ≠ -1 := by have h : (m == -1) = false := by assumption
                           simpa using h
    have ha := HD.out.ans hm
    have hsum := HD.out.sum
    have hget := HD.out.get
    have hkind := HD.out.kind
    have HA : Hid (m = r key.toNat) := ha
    have HS : Hid (k = 3 ∨ k = 4 → r 0 + r 1 + r 2 + r 3 = g 0 + g 1 + g 2 + g 3) := hsum
    have HG : Hid (k = 4 → ∀ i, i < 4 → r i = g i) := hget
    have HK : Hid ((k = 1 ∧ tk = 0) ∨ (k = 2 ∧ tk = 0) ∨ (k = 3 ∧ 0 ≤ tk ∧ tk ≤ 3) ∨ (k = 4 ∧ tk = 0)) := hkind
    clear hm ha hsum hget hkind
    refine (op_begun _).mono ?_
    rintro e w2 ⟨rfl, hb⟩
    have hkb : Keeps (w1.alloc (.cells #[.int .i64 (r 0), .int .i64 (r 1), .int .i64 (r 2), .int .i64 (r 3)] 22)) w2 := ((Keeps.refl _).drewN nq).trans hb
    have hk2 : Keeps w w2 := (hk1.alloc _).trans hkb
    have A2 := (arr_new r w1).below hkb
    have V2 := (V1.below ((Keeps.refl _).alloc _)).below hkb
    have X2 := (X1.below ((Keeps.refl _).alloc _)).below hkb
    clear hb hkb v0 v1 v2 v3 vf x0 x1 x2 x3 xb
    obtain ⟨v0, v1, v2, v3, vf⟩ := V2
    obtain ⟨a0, a1, a2, a3, af⟩ := A2
    obtain ⟨x0, x1, x2, x3, xb⟩ := X2
    have he := eql22
    clear HD H1
    rcases HK.out with ⟨rfl, _⟩ | ⟨rfl, _⟩ | ⟨rfl, _⟩ | ⟨rfl, _⟩
    · rcases four hk0 hk3 with rfl | rfl | rfl | rfl
      · have z : (m == r 0) = true := by rw [show m = r 0 from HA.out]; exact beq_self_eq_true _
        go_wp2_with fail
        go_ret
        exact ⟨rfl, hk2⟩
      · have z : (m == r 1) = true := by rw [show m = r 1 from HA.out]; exact beq_self_eq_true _
        go_wp2_with fail
        go_ret
        exact ⟨rfl, hk2⟩
      · have z : (m == r 2) = true := by rw [show m = r 2 from HA.out]; exact beq_self_eq_true _
        go_wp2_with fail
        go_ret
        exact ⟨rfl, hk2⟩
      · have z : (m == r 3) = true := by rw [show m = r 3 from HA.out]; exact beq_self_eq_true _
        go_wp2_with fail
        go_ret
        exact ⟨rfl, hk2⟩
    · rcases four hk0 hk3 with rfl | rfl | rfl | rfl
      · have z : (m == r 0) = true := by rw [show m = r 0 from HA.out]; exact beq_self_eq_true _
        go_wp2_with fail
        go_ret
        exact ⟨rfl, hk2⟩
      · have z : (m == r 1) = true := by rw [show m = r 1 from HA.out]; exact beq_self_eq_true _
        go_wp2_with fail
        go_ret
        exact ⟨rfl, hk2⟩
      · have z : (m == r 2) = true := by rw [show m = r 2 from HA.out]; exact beq_self_eq_true _
        go_wp2_with fail
        go_ret
        exact ⟨rfl, hk2⟩
      · have z : (m == r 3) = true := by rw [show m = r 3 from HA.out]; exact beq_self_eq_true _
        go_wp2_with fail
        go_ret
        exact ⟨rfl, hk2⟩
    · have zs : (g 0 + g 1 + g 2 + g 3 == r 0 + r 1 + r 2 + r 3) = true := by rw [HS.out (by decide)]; exact beq_self_eq_true _
      rcases four hk0 hk3 with rfl | rfl | rfl | rfl
      · have z : (m == r 0) = true := by rw [show m = r 0 from HA.out]; exact beq_self_eq_true _
        go_wp2_with fail
        go_ret
        exact ⟨rfl, hk2⟩
      · have z : (m == r 1) = true := by rw [show m = r 1 from HA.out]; exact beq_self_eq_true _
        go_wp2_with fail
        go_ret
        exact ⟨rfl, hk2⟩
      · have z : (m == r 2) = true := by rw [show m = r 2 from HA.out]; exact beq_self_eq_true _
        go_wp2_with fail
        go_ret
        exact ⟨rfl, hk2⟩
      · have z : (m == r 3) = true := by rw [show m = r 3 from HA.out]; exact beq_self_eq_true _
        go_wp2_with fail
        go_ret
        exact ⟨rfl, hk2⟩
    · have zs : (g 0 + g 1 + g 2 + g 3 == r 0 + r 1 + r 2 + r 3) = true := by rw [HS.out (by decide)]; exact beq_self_eq_true _
      have z0 : (r 0 == g 0) = true := by rw [HG.out rfl 0 (by decide)]; exact beq_self_eq_true _
      have z1 : (r 1 == g 1) = true := by rw [HG.out rfl 1 (by decide)]; exact beq_self_eq_true _
      have z2 : (r 2 == g 2) = true := by rw [HG.out rfl 2 (by decide)]; exact beq_self_eq_true _
      have z3 : (r 3 == g 3) = true := by rw [HG.out rfl 3 (by decide)]; exact beq_self_eq_true _
      rcases four hk0 hk3 with rfl | rfl | rfl | rfl
      · have z : (m == r 0) = true := by rw [show m = r 0 from HA.out]; exact beq_self_eq_true _
        go_wp2_with fail
        go_ret
        exact ⟨rfl, hk2⟩
      · have z : (m == r 1) = true := by rw [show m = r 1 from HA.out]; exact beq_self_eq_true _
        go_wp2_with fail
        go_ret
        exact ⟨rfl, hk2⟩
      · have z : (m == r 2) = true := by rw [show m = r 2 from HA.out]; exact beq_self_eq_true _
        go_wp2_with fail
        go_ret
        exact ⟨rfl, hk2⟩
      · have z : (m == r 3) = true := by rw [show m = r 3 from HA.out]; exact beq_self_eq_true _
        go_wp2_with fail
        go_ret
        exact ⟨rfl, hk2⟩

theorem op_true (g : Nat → Int) (k key tk n : Int) (w : World) :
    Calls Try.prog 4 #[arrV g, opV k key tk n] w fun e w' => e = .returned (.bool true) ∧ Keeps w w' := by
  cases hf : (doErr g k key tk n != 0) with
  | true => exact op_true_err g _ k key tk n _ _ w hf (op_do g k key tk n)
  | false =>
    have h0 : doErr g k key tk n = 0 := by simpa using hf
    refine op_true_good g (doVals g k key tk n) k key tk n (doAns g k key tk n) w (do_good g k key tk n h0) ?_
    have := op_do g k key tk n
    unfold DoSays at this
    rw [h0] at this
    exact this
end Go.Proofs.Yteabfjpajgakiaa
