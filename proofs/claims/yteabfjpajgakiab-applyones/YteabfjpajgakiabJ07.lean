/- OpD, RefA. -/
import Derived.Deep.DeepCutAuto
import Derived.Test.YteabfjpajgakiabJ00
import Derived.Test.YteabfjpajgakiabJ06
/- Contract of op.Do. -/
namespace Go.Proofs.Yteabfjpajgakiab
open Go.RowKit

abbrev arrV (g : Nat → Int) : Value := .agg #[.int .i64 (g 0), .int .i64 (g 1), .int .i64 (g 2), .int .i64 (g 3)]
def valsOk (g : Nat → Int) : Bool := inB (g 0) 0 999 && inB (g 1) 0 999 && inB (g 2) 0 999 && inB (g 3) 0 999

theorem do_err (g : Nat → Int) (k key tk n : Int) (w : World) (he : (opErr k key tk n == 0) = false) :
    Calls Try.prog 19 #[arrV g, opV k key tk n] w fun e w' => e = .returned (.tuple #[.agg #[.int .i64 0, .int .i64 0, .int .i64 0, .int .i64 0], .int .i64 0, .int .i64 (opErr k key tk n)]) ∧ Keeps w w' := by
  go_enter Try.func19, Try.ntmps19
  go_wp2_with fail
  refine (op_check k key tk n _).mono ?_
  rintro e w1 ⟨rfl, hb⟩
  have hk1 : Keeps w w1 := ((((Keeps.refl _).alloc _).alloc _).alloc _).trans hb
  obtain ⟨hc, hf⟩ := hb.cells
  have hz := hb.size
  simp only [World.size_alloc] at hc hf hz
  have hz1 : w.heap.size + 2 < w1.heap.size := by omega
  go_wp2_with fail
  exact bodyPost_ret (v := .tuple #[.agg #[.int .i64 0, .int .i64 0, .int .i64 0, .int .i64 0], .int .i64 0, .int .i64 (opErr k key tk n)]) (by simp [results, Try.results19, go_sem, hc]) rfl ⟨rfl, by repeat (first | exact hk1 | refine Keeps.set ?_ (by simp <;> omega) _)⟩

theorem idx (g : Nat → Int) (w : World) : (Instr.index 22 (arrV g) (.int .i64 0)).run Try.prog w = .ok (.int .i64 (g 0)) w ∧ (Instr.index 22 (arrV g) (.int .i64 1)).run Try.prog w = .ok (.int .i64 (g 1)) w ∧ (Instr.index 22 (arrV g) (.int .i64 2)).run Try.prog w = .ok (.int .i64 (g 2)) w ∧ (Instr.index 22 (arrV g) (.int .i64 3)).run Try.prog w = .ok (.int .i64 (g 3)) w :=
  ⟨by kernel_rfl, by kernel_rfl, by kernel_rfl, by kernel_rfl⟩

theorem do_range (g : Nat → Int) (k key tk n : Int) (w : World) (he : (opErr k key tk n == 0) = true) (hv : valsOk g = false) :
    Calls Try.prog 19 #[arrV g, opV k key tk n] w fun e w' => e = .returned (.tuple #[.agg #[.int .i64 0, .int .i64 0, .int .i64 0, .int .i64 0], .int .i64 0, .int .i64 3]) ∧ Keeps w w' := by
  have he' : opErr k key tk n = 0 := by simpa using he
  have i0 := fun w => (idx g w).1
  have i1 := fun w => (idx g w).2.1
  have i2 := fun w => (idx g w).2.2.1
  have i3 := fun w => (idx g w).2.2.2
  have Hv : Hid (valsOk g = false) := hv
  clear hv
  go_enter Try.func19, Try.ntmps19
  go_wp2_with fail
  refine (op_check k key tk n _).mono ?_
  rintro e w1 ⟨rfl, hb⟩
  have hk1 : Keeps w w1 := ((((Keeps.refl _).alloc _).alloc _).alloc _).trans hb
  obtain ⟨hc, hf⟩ := hb.cells
  have hz := hb.size
  simp only [World.size_alloc] at hc hf hz
  have hz1 : w.heap.size + 2 < w1.heap.size := by omega
  have hz2 : w.heap.size < w1.heap.size := by omega
  go_wp2_with fail
  refine wp_loop_rounds 5 ?_
  rw [rounds_succ]
  go_wp2_with (first | (go_at_call 43; refine (is_val _ _).mono ?_; rintro e w' ⟨rfl, rfl⟩) | rw [rounds_succ])
  all_goals try exact bodyPost_ret (v := .tuple #[.agg #[.int .i64 0, .int .i64 0, .int .i64 0, .int .i64 0], .int .i64 0, .int .i64 3]) (by simp [results, Try.results19, go_sem, hc]) rfl ⟨rfl, by repeat (first | exact hk1 | refine Keeps.set ?_ (by simp <;> omega) _)⟩
  exfalso
  go_tidy
  have := Hv.out
  simp_all [valsOk]

theorem arr_new (g : Nat → Int) (w : World) : Arr w.heap.size g (w.alloc (.cells #[.int .i64 (g 0), .int .i64 (g 1), .int .i64 (g 2), .int .i64 (g 3)] 22)) := by
  refine ⟨?_, ?_, ?_, ?_, ?_⟩ <;> simp

set_option maxHeartbeats 2000000 in
theorem do_main (f : Nat) (g g' : Nat → Int) (ok : Bool) (k key tk n : Int) (w : World) (he : opErr k key tk n = 0) (hv : valsOk g = true) (hs : stepOf k = .func (.func f) #[] #[]) (hcall : ∀ args W, (callFunc f args).run Try.prog W = .ok (.enter f args) W)
    (hstep : Hid (∀ (b : Nat) (W : World), Arr b g W → Calls Try.prog f #[.pointer (some ⟨b, 0, none⟩), opV k key tk n] W fun e w' => ∃ g'', Arr b g'' w' ∧ e = .returned (.bool ok) ∧ Below b W w' ∧ (ok = true → g'' = g'))) :
    Calls Try.prog 19 #[arrV g, opV k key tk n] w fun e w' => e = .returned (.tuple #[arrV (if ok then g' else g), .int .i64 (if ok then g' key.toNat else -1), .int .i64 0]) ∧ Keeps w w' := by
  have hin : 0 ≤ key ∧ key ≤ 3 := by
    revert he; simp only [opErr, opIn, inB]; simp; omega
  simp only [valsOk, Bool.and_eq_true] at hv
  obtain ⟨⟨⟨v0, v1⟩, v2⟩, v3⟩ := hv
  have i0 := fun w => (idx g w).1
  have i1 := fun w => (idx g w).2.1
  have i2 := fun w => (idx g w).2.2.1
  have i3 := fun w => (idx g w).2.2.2
  go_enter Try.func19, Try.ntmps19
  go_wp2_with fail
  refine (op_check k key tk n _).mono ?_
  rintro e w1 ⟨rfl, hb⟩
  have hk1 : Keeps w w1 := ((((Keeps.refl _).alloc _).alloc _).alloc _).trans hb
  obtain ⟨hc, hf⟩ := hb.cells
  have hz := hb.size
  simp only [World.size_alloc] at hc hf hz
  have hz1 : w.heap.size + 1 + 1 < w1.heap.size := by omega
  have hz2 : w.heap.size < w1.heap.size := by omega
  have hz3 : w.heap.size + 1 < w1.heap.size := by omega
  go_wp2_with fail
  refine wp_loop_rounds 5 ?_
  rw [rounds_succ]
  go_wp2_with (first | (go_at_call 43; refine (is_val _ _).mono ?_; rintro e w' ⟨rfl, rfl⟩) | rw [rounds_succ])
  clear i0 i1 i2 i3 v0 v1 v2 v3 he
  go_cut [33] (fun s wc => s = .bool (!ok) ∧ Below w1.heap.size w1 wc ∧ ∃ g'', Arr w1.heap.size g'' wc ∧ (ok = true → g'' = g'))
  case first =>
    have hl := fun o => look_two w1 o k
    have hA0 : Arr w1.heap.size g ((w1.alloc (.cells #[.int .i64 (g 0), .int .i64 (g 1), .int .i64 (g 2), .int .i64 (g 3)] 22)).alloc stepsMap).drew := (arr_new g w1).below ((Keeps.refl _).alloc _).drew
    go_region_with (first | (go_at_call 44; refine (steps_c _).mono ?_; rintro e w' ⟨rfl, rfl⟩) | (refine (hstep.out _ _ hA0).mono ?_; rintro e w2 ⟨g'', hA2, rfl, hB, hg''⟩))
    all_goals go_wp2_with fail
    all_goals go_meet
    all_goals exact ⟨rfl, ((((Below.refl _ _).alloc (Nat.le_refl _) _).alloc (by simp) _).drew).trans hB, g'', hA2, hg''⟩
  case rest =>
    obtain ⟨rfl, hB, g'', hA, hg⟩ := hcut
    obtain ⟨hcB, hfB⟩ := Keeps.cells (W := w1) hB
    have hzB := hB.size
    have hkB : Keeps w wc := hk1.trans hB
    have hzc : w.heap.size + 2 < wc.heap.size := by omega
    cases ok with
    | false =>
      go_wp2_with fail
      exact bodyPost_ret (v := .tuple #[arrV g, .int .i64 (-1), .int .i64 0]) (by simp [results, Try.results19, go_sem, hcB, hc, hz1]) rfl ⟨rfl, by repeat (first | exact hkB | refine Keeps.set ?_ (by simp <;> omega) _)⟩
    | true =>
      obtain rfl := hg rfl
      obtain ⟨a0, a1, a2, a3, af⟩ := hA
      rcases four hin.1 hin.2 with rfl | rfl | rfl | rfl
      all_goals
        go_wp2_with fail
        go_region
        all_goals go_wp2_with fail
        all_goals exact bodyPost_ret (v := .tuple #[arrV g'', .int .i64 (g'' _), .int .i64 0]) (by simp [results, Try.results19, go_sem, hcB, hc, hz1]) rfl ⟨rfl, by repeat (first | exact hkB | refine Keeps.set ?_ (by simp <;> omega) _ | refine Keeps.drew ?_)⟩
end Go.Proofs.Yteabfjpajgakiab

/- Contracts of the reference's functions on ops. -/
namespace Go.Proofs.Yteabfjpajgakiab
open Go.RowKit

theorem vals_fine (g : Nat → Int) (w : World) :
    Calls Try.prog 28 #[arrV g] w fun e w' => e = .returned (.bool (valsOk g)) ∧ Keeps w w' := by
  go_enter Try.func28, Try.ntmps28
  go_wp2_with fail
  refine wp_loop_rounds 5 ?_
  rw [rounds_succ]
  go_wp2_with (first | (go_at_call 27; refine (within_c _ _ _ _).mono ?_; rintro e w' ⟨rfl, rfl⟩) | rw [rounds_succ])
  all_goals go_ret
  all_goals refine ⟨?_, (Keeps.refl _).alloc _⟩
  all_goals (go_tidy; simp_all [valsOk])

theorem op_error_one (k key tk n : Int) (w : World) (hk : k = 1 ∨ k = 2 ∨ k = 3 ∨ k = 4) :
    Calls Try.prog 37 #[opV k key tk n] w fun e w' => e = .returned (.int .i64 (opErr k key tk n)) ∧ Keeps w w' := by
  rcases hk with rfl | rfl | rfl | rfl
  all_goals
    go_enter Try.func37, Try.ntmps37
    go_wp2_with (go_at_call 27; refine (within_c _ _ _ _).mono ?_; rintro e w' ⟨rfl, rfl⟩)
    all_goals go_ret
    all_goals refine ⟨?_, (Keeps.refl _).alloc _⟩
    all_goals (go_tidy; simp_all [opErr, opIn])

theorem op_error_bad (k key tk n : Int) (w : World) (h1 : (k == 1) = false) (h2 : (k == 2) = false) (h3 : (k == 3) = false) (h4 : (k == 4) = false) :
    Calls Try.prog 37 #[opV k key tk n] w fun e w' => e = .returned (.int .i64 (opErr k key tk n)) ∧ Keeps w w' := by
  have hi : inB k 1 4 = false := by
    simp only [beq_eq_false_iff_ne] at h1 h2 h3 h4
    simp only [inB, Bool.and_eq_false_iff, decide_eq_false_iff_not]; omega
  go_enter Try.func37, Try.ntmps37
  go_wp2_with (go_at_call 27; refine (within_c _ _ _ _).mono ?_; rintro e w' ⟨rfl, rfl⟩)
  go_ret
  refine ⟨?_, (Keeps.refl _).alloc _⟩
  go_tidy; simp_all [opErr]

theorem op_error (k key tk n : Int) (w : World) :
    Calls Try.prog 37 #[opV k key tk n] w fun e w' => e = .returned (.int .i64 (opErr k key tk n)) ∧ Keeps w w' := by
  by_cases h : k = 1 ∨ k = 2 ∨ k = 3 ∨ k = 4
  · exact op_error_one k key tk n w h
  · exact op_error_bad k key tk n w (by simp; omega) (by simp; omega) (by simp; omega) (by simp; omega)

abbrev ar4 (a b c d : Int) : Value := .agg #[.int .i64 a, .int .i64 b, .int .i64 c, .int .i64 d]
def g4 (a b c d : Int) : Nat → Int := fun i => if i = 0 then a else if i = 1 then b else if i = 2 then c else d
def ok4 (a b c d : Int) : Bool := inB a 0 999 && inB b 0 999 && inB c 0 999 && inB d 0 999
theorem fine4 (a b c d : Int) (w : World) : Calls Try.prog 28 #[ar4 a b c d] w fun e w' => e = .returned (.bool (ok4 a b c d)) ∧ Keeps w w' := vals_fine (g4 a b c d) w

def stepOk (k : Int) (g : Nat → Int) (key tk n : Int) : Bool :=
  if k == 2 then inB (g key.toNat + n) 0 999 else if k == 3 then inB (g key.toNat + -n) 0 999 && inB (upd g key.toNat (g key.toNat + -n) tk.toNat + n) 0 999 else true
def stepTo (k : Int) (g : Nat → Int) (key tk n : Int) : Nat → Int :=
  if k == 1 then upd g key.toNat n else if k == 2 then upd g key.toNat (g key.toNat + n) else if k == 3 then upd (upd g key.toNat (g key.toNat + -n)) tk.toNat (upd g key.toNat (g key.toNat + -n) tk.toNat + n) else g

end Go.Proofs.Yteabfjpajgakiab
