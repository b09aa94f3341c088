/- Contracts of package op: more, and the steps. -/
import Derived.Test.YteabfjpajgakiaaOpB
namespace Go.Proofs.Yteabfjpajgakiaa
open Go.RowKit

def upd (g : Nat → Int) (j : Nat) (x : Int) : Nat → Int := fun i => if i = j then x else g i
/-- Block b holds the four values g. -/
def Arr (b : Nat) (g : Nat → Int) (w : World) : Prop :=
  w.cell? ⟨b, 0, none⟩ = some (.int .i64 (g 0)) ∧ w.cell? ⟨b, 1, none⟩ = some (.int .i64 (g 1)) ∧ w.cell? ⟨b, 2, none⟩ = some (.int .i64 (g 2)) ∧ w.cell? ⟨b, 3, none⟩ = some (.int .i64 (g 3)) ∧ ∀ i, w.frozen? ⟨b, i, none⟩ = false

theorem four {key : Int} (h0 : 0 ≤ key) (h1 : key ≤ 3) : key = 0 ∨ key = 1 ∨ key = 2 ∨ key = 3 := by omega

theorem Arr.set {b : Nat} {g : Nat → Int} {w : World} (h : Arr b g w) (j : Nat) (x : Int) (hj : j < 4) : Arr b (upd g j x) (w.setCell ⟨b, j, none⟩ (.int .i64 x)) := by
  obtain ⟨h0, h1, h2, h3, hf⟩ := h
  have hj' : j = 0 ∨ j = 1 ∨ j = 2 ∨ j = 3 := by omega
  have o : ∀ i j : Nat, i ≠ j → (w.setCell ⟨b, j, none⟩ (.int .i64 x)).cell? ⟨b, i, none⟩ = w.cell? ⟨b, i, none⟩ := fun i j h => World.cell?_setCell_other _ _ _ _ (by intro e; injection e with _ e _; exact h e.symm)
  rcases hj' with rfl | rfl | rfl | rfl
  · exact ⟨World.cell?_setCell_same _ _ _ h0, (o _ _ (by decide)).trans h1, (o _ _ (by decide)).trans h2, (o _ _ (by decide)).trans h3, fun i => (World.frozen?_setCell _ _ _ _).trans (hf i)⟩
  · exact ⟨(o _ _ (by decide)).trans h0, World.cell?_setCell_same _ _ _ h1, (o _ _ (by decide)).trans h2, (o _ _ (by decide)).trans h3, fun i => (World.frozen?_setCell _ _ _ _).trans (hf i)⟩
  · exact ⟨(o _ _ (by decide)).trans h0, (o _ _ (by decide)).trans h1, World.cell?_setCell_same _ _ _ h2, (o _ _ (by decide)).trans h3, fun i => (World.frozen?_setCell _ _ _ _).trans (hf i)⟩
  · exact ⟨(o _ _ (by decide)).trans h0, (o _ _ (by decide)).trans h1, (o _ _ (by decide)).trans h2, World.cell?_setCell_same _ _ _ h3, fun i => (World.frozen?_setCell _ _ _ _).trans (hf i)⟩

theorem below_at (b j : Nat) (v : Value) (w : World) : Below b w (w.setCell ⟨b, j, none⟩ v) := (Below.refl _ _).setCell (p := ⟨b, j, none⟩) (Nat.le_refl _) v

theorem Arr.below {b : Nat} {g : Nat → Int} {w w' : World} (h : Arr b g w) (hk : Keeps w w') : Arr b g w' := by
  obtain ⟨h0, h1, h2, h3, hf⟩ := h
  have hb := World.block_lt_of_cell? _ _ h0
  have hc : ∀ i, w'.cell? ⟨b, i, none⟩ = w.cell? ⟨b, i, none⟩ := fun i => Below.cell hk (p := ⟨b, i, none⟩) hb
  exact ⟨(hc 0).trans h0, (hc 1).trans h1, (hc 2).trans h2, (hc 3).trans h3, fun i => (Below.frozen hk (p := ⟨b, i, none⟩) hb).trans (hf i)⟩

theorem more_c (b : Nat) (g : Nat → Int) (key n : Int) (w : World) (hk0 : 0 ≤ key) (hk3 : key ≤ 3) (hg0 : 0 ≤ g key.toNat) (hg1 : g key.toNat ≤ 999) (hn0 : -999 ≤ n) (hn1 : n ≤ 999) (h : Arr b g w) :
    Calls Try.prog 53 #[.pointer (some ⟨b, 0, none⟩), .int .i64 key, .int .i64 n] w fun e w' => e = .returned (.bool (inB (g key.toNat + n) 0 999)) ∧ w' = (w.setCell ⟨b, key.toNat, none⟩ (.int .i64 (g key.toNat + n))).drew := by
  obtain ⟨h0, h1, h2, h3, hf⟩ := h
  rcases four hk0 hk3 with rfl | rfl | rfl | rfl
  · simp only [show (0 : Int).toNat = 0 from rfl] at *
    have hs := World.cell?_setCell_same w ⟨b, 0, none⟩ (.int .i64 (g 0 + n)) h0
    go_enter Try.func53, Try.ntmps53
    go_wp2
    go_region
    all_goals go_wp2_with (go_at_call 28; refine (is_val _ _).mono ?_; rintro e w' ⟨rfl, rfl⟩)
    all_goals go_ret
    all_goals exact ⟨rfl, rfl⟩
  · simp only [show (1 : Int).toNat = 1 from rfl] at *
    have hs := World.cell?_setCell_same w ⟨b, 1, none⟩ (.int .i64 (g 1 + n)) h1
    go_enter Try.func53, Try.ntmps53
    go_wp2
    go_region
    all_goals go_wp2_with (go_at_call 28; refine (is_val _ _).mono ?_; rintro e w' ⟨rfl, rfl⟩)
    all_goals go_ret
    all_goals exact ⟨rfl, rfl⟩
  · simp only [show (2 : Int).toNat = 2 from rfl] at *
    have hs := World.cell?_setCell_same w ⟨b, 2, none⟩ (.int .i64 (g 2 + n)) h2
    go_enter Try.func53, Try.ntmps53
    go_wp2
    go_region
    all_goals go_wp2_with (go_at_call 28; refine (is_val _ _).mono ?_; rintro e w' ⟨rfl, rfl⟩)
    all_goals go_ret
    all_goals exact ⟨rfl, rfl⟩
  · simp only [show (3 : Int).toNat = 3 from rfl] at *
    have hs := World.cell?_setCell_same w ⟨b, 3, none⟩ (.int .i64 (g 3 + n)) h3
    go_enter Try.func53, Try.ntmps53
    go_wp2
    go_region
    all_goals go_wp2_with (go_at_call 28; refine (is_val _ _).mono ?_; rintro e w' ⟨rfl, rfl⟩)
    all_goals go_ret
    all_goals exact ⟨rfl, rfl⟩


theorem step_set (b : Nat) (g : Nat → Int) (k key tk n : Int) (w : World) (hk0 : 0 ≤ key) (hk3 : key ≤ 3) (h : Arr b g w) :
    Calls Try.prog 51 #[.pointer (some ⟨b, 0, none⟩), opV k key tk n] w fun e w' => e = .returned (.bool true) ∧ Below b w w' ∧ Arr b (upd g key.toNat n) w' := by
  have hb := World.block_lt_of_cell? _ _ h.1
  simp only [] at hb
  obtain ⟨h0, h1, h2, h3, hf⟩ := id h
  rcases four hk0 hk3 with rfl | rfl | rfl | rfl
  · go_enter Try.func51, Try.ntmps51
    go_wp2
    go_region
    all_goals go_wp2
    all_goals go_ret
    all_goals exact ⟨rfl, ((below_at b 0 _ w).alloc (by simp <;> omega) _).drew, (h.set 0 n (by decide)).below ((Keeps.refl _).alloc _).drew⟩
  · go_enter Try.func51, Try.ntmps51
    go_wp2
    go_region
    all_goals go_wp2
    all_goals go_ret
    all_goals exact ⟨rfl, ((below_at b 1 _ w).alloc (by simp <;> omega) _).drew, (h.set 1 n (by decide)).below ((Keeps.refl _).alloc _).drew⟩
  · go_enter Try.func51, Try.ntmps51
    go_wp2
    go_region
    all_goals go_wp2
    all_goals go_ret
    all_goals exact ⟨rfl, ((below_at b 2 _ w).alloc (by simp <;> omega) _).drew, (h.set 2 n (by decide)).below ((Keeps.refl _).alloc _).drew⟩
  · go_enter Try.func51, Try.ntmps51
    go_wp2
    go_region
    all_goals go_wp2
    all_goals go_ret
    all_goals exact ⟨rfl, ((below_at b 3 _ w).alloc (by simp <;> omega) _).drew, (h.set 3 n (by decide)).below ((Keeps.refl _).alloc _).drew⟩

theorem step_add (b : Nat) (g : Nat → Int) (k key tk n : Int) (w : World) (hk0 : 0 ≤ key) (hk3 : key ≤ 3) (hg0 : 0 ≤ g key.toNat) (hg1 : g key.toNat ≤ 999) (hn0 : -999 ≤ n) (hn1 : n ≤ 999) (h : Arr b g w) :
    Calls Try.prog 52 #[.pointer (some ⟨b, 0, none⟩), opV k key tk n] w fun e w' => e = .returned (.bool (inB (g key.toNat + n) 0 999)) ∧ Below b w w' ∧ Arr b (upd g key.toNat (g key.toNat + n)) w' := by
  have hb := World.block_lt_of_cell? _ _ h.1
  simp only [] at hb
  have hA := h.below ((Keeps.refl w).alloc (.cells #[.int .i64 k, .int .i64 key, .int .i64 tk, .int .i64 n] 24))
  go_enter Try.func52, Try.ntmps52
  go_wp2_with fail
  refine (more_c b g key n _ hk0 hk3 hg0 hg1 hn0 hn1 hA).mono ?_
  rintro e w2 ⟨rfl, hw⟩
  have hA3 : Arr b (upd g key.toNat (g key.toNat + n)) w2 := by
    subst hw; exact hA.set key.toNat _ (by omega)
  have hB : Below b w w2 := by
    subst hw; exact (((Below.refl _ _).alloc (Nat.le_of_lt hb) _).trans (below_at b _ _ _)).drew
  clear hw
  go_wp2_with fail
  go_ret
  exact ⟨rfl, hB, hA3⟩

theorem step_get (b : Nat) (g : Nat → Int) (k key tk n : Int) (w : World) (h : Arr b g w) :
    Calls Try.prog 55 #[.pointer (some ⟨b, 0, none⟩), opV k key tk n] w fun e w' => e = .returned (.bool true) ∧ Below b w w' ∧ Arr b g w' := by
  have hb := World.block_lt_of_cell? _ _ h.1
  simp only [] at hb
  go_enter Try.func55, Try.ntmps55
  go_wp2
  go_ret
  exact ⟨rfl, (Below.refl _ _).alloc (Nat.le_of_lt hb) _, h.below ((Keeps.refl w).alloc _)⟩

theorem step_move (b : Nat) (g : Nat → Int) (k key tk n : Int) (w : World) (hk0 : 0 ≤ key) (hk3 : key ≤ 3) (ht0 : 0 ≤ tk) (ht3 : tk ≤ 3) (hg : ∀ i, i < 4 → 0 ≤ g i ∧ g i ≤ 999) (hn0 : 0 ≤ n) (hn1 : n ≤ 999) (h : Arr b g w) :
    Calls Try.prog 54 #[.pointer (some ⟨b, 0, none⟩), opV k key tk n] w fun e w' => Below b w w' ∧ ∃ g', Arr b g' w' ∧
      e = .returned (.bool (inB (g key.toNat + -n) 0 999 && inB (upd g key.toNat (g key.toNat + -n) tk.toNat + n) 0 999)) ∧
      ((inB (g key.toNat + -n) 0 999 && inB (upd g key.toNat (g key.toNat + -n) tk.toNat + n) 0 999) = true → g' = upd (upd g key.toNat (g key.toNat + -n)) tk.toNat (upd g key.toNat (g key.toNat + -n) tk.toNat + n)) := by
  have hb := World.block_lt_of_cell? _ _ h.1
  simp only [] at hb
  have hkk := hg key.toNat (by omega)
  have htt := hg tk.toNat (by omega)
  have hA := h.below ((Keeps.refl w).alloc (.cells #[.int .i64 k, .int .i64 key, .int .i64 tk, .int .i64 n] 24))
  cases h1 : inB (g key.toNat + -n) 0 999 with
  | true =>
    have hu : 0 ≤ upd g key.toNat (g key.toNat + -n) tk.toNat ∧ upd g key.toNat (g key.toNat + -n) tk.toNat ≤ 999 := by
      simp only [inB, Bool.and_eq_true, decide_eq_true_eq] at h1
      unfold upd; split <;> omega
    have hA1 := hA.set key.toNat (g key.toNat + -n) (by omega)
    go_enter Try.func54, Try.ntmps54
    go_wp2_with fail
    refine (more_c b g key (-n) _ hk0 hk3 hkk.1 hkk.2 (by omega) (by omega) hA).mono ?_
    rintro e w' ⟨rfl, rfl⟩
    go_wp2_with fail
    have hA2 : Arr b (upd g key.toNat (g key.toNat + -n)) ((w.setCell ⟨b, key.toNat, none⟩ (.int .i64 (g key.toNat + -n))).alloc (.cells #[.int .i64 k, .int .i64 key, .int .i64 tk, .int .i64 n] 24)).drew :=
      (h.set key.toNat (g key.toNat + -n) (by omega)).below ((Keeps.refl _).alloc _).drew
    refine (more_c b _ tk n _ ht0 ht3 hu.1 hu.2 (by omega) hn1 hA2).mono ?_
    rintro e w2 ⟨rfl, hw⟩
    have hA3 : Arr b (upd (upd g key.toNat (g key.toNat + -n)) tk.toNat (upd g key.toNat (g key.toNat + -n) tk.toNat + n)) w2 := by
      subst hw; exact hA2.set tk.toNat _ (by omega)
    have hB : Below b w w2 := by
      subst hw; exact ((((below_at b _ _ _).alloc (by simp <;> omega) _).drew).trans (below_at b _ _ _)).drew
    clear hw
    go_wp2_with fail
    all_goals go_ret
    all_goals exact ⟨hB, _, hA3, by simp, fun _ => rfl⟩
  | false =>
    go_enter Try.func54, Try.ntmps54
    go_wp2_with fail
    refine (more_c b g key (-n) _ hk0 hk3 hkk.1 hkk.2 (by omega) (by omega) hA).mono ?_
    rintro e w2 ⟨rfl, hw⟩
    have hA3 : Arr b (upd g key.toNat (g key.toNat + -n)) w2 := by
      subst hw; exact hA.set key.toNat _ (by omega)
    have hB : Below b w w2 := by
      subst hw; exact (((Below.refl _ _).alloc (Nat.le_of_lt hb) _).trans (below_at b _ _ _)).drew
    clear hw
    go_wp2_with fail
    all_goals go_ret
    all_goals exact ⟨hB, _, hA3, by simp, fun h => by cases h⟩
end Go.Proofs.Yteabfjpajgakiaa
