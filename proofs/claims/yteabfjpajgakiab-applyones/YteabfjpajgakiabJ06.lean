/- ApE, OpC. -/
import Derived.Test.YteabfjpajgakiabJ01
import Derived.Test.YteabfjpajgakiabJ04
/- Applying: slices.BinarySearchFunc over the answers that are kept. -/
set_option linter.unusedSimpArgs false
set_option linter.unusedVariables false
set_option maxRecDepth 10000
namespace Go.Proofs.Yteabfjpajgakiab
open Go.RowKit

def cmpI (a b : Int) : Int := if a < b then -1 else if b < a then 1 else 0

theorem is_nan (a : Int) (w : World) : Calls Try.prog 86 #[.int .i64 a] w fun e w' => e = .returned (.bool false) ∧ w = w' := by
  go_enter Try.func86, Try.ntmps86
  go_wp2
  go_ret
  exact ⟨by simp, rfl⟩

set_option maxHeartbeats 1000000 in
theorem cmp_c (a b : Int) (w : World) : Calls Try.prog 84 #[.int .i64 a, .int .i64 b] w fun e w' => e = .returned (.int .i64 (cmpI a b)) ∧ w = w' := by
  have HC : Hid (cmpI a b = if a < b then -1 else if b < a then 1 else 0) := rfl
  by_cases h1 : a < b
  · have HE : Hid (cmpI a b = -1) := by show _ = _; rw [HC.out, if_pos h1]
    go_enter Try.func84, Try.ntmps84
    go_wp2_with (first | (go_at_call 86; refine (is_nan _ _).mono ?_; rintro e w' ⟨rfl, rfl⟩))
    go_ret
    exact ⟨ret_int HE.out.symm, rfl⟩
  · by_cases h2 : b < a
    · have HE : Hid (cmpI a b = 1) := by show _ = _; rw [HC.out, if_neg h1, if_pos h2]
      go_enter Try.func84, Try.ntmps84
      go_wp2_with (first | (go_at_call 86; refine (is_nan _ _).mono ?_; rintro e w' ⟨rfl, rfl⟩))
      go_ret
      exact ⟨ret_int HE.out.symm, rfl⟩
    · have HE : Hid (cmpI a b = 0) := by show _ = _; rw [HC.out, if_neg h1, if_neg h2]
      go_enter Try.func84, Try.ntmps84
      go_wp2_with (first | (go_at_call 86; refine (is_nan _ _).mono ?_; rintro e w' ⟨rfl, rfl⟩))
      go_ret
      exact ⟨ret_int HE.out.symm, rfl⟩

theorem by_seq (q v seq : Int) (w : World) : Calls Try.prog 83 #[.agg #[.int .i64 q, .int .i64 v], .int .i64 seq] w fun e w' => e = .returned (.int .i64 (cmpI q seq)) ∧ Keeps w w' := by
  go_enter Try.func83, Try.ntmps83
  go_wp2_with (first | (go_at_call 84; refine (cmp_c _ _ _).mono ?_; rintro e w' ⟨rfl, rfl⟩))
  go_ret
  exact ⟨rfl, (Keeps.refl _).alloc _⟩

theorem fnc83 (args : Array Value) (W : World) : (callFunc 83 args).run Try.prog W = .ok (.enter 83 args) W := by kernel_rfl

/-- Where a number is, or belongs, among answers that rise. -/
structure Place (l : List (Int × Int)) (seq : Int) (p : Nat) : Prop where
  le : p ≤ l.length
  low : ∀ k (h : k < l.length), k < p → (l[k]).1 < seq
  high : ∀ k (h : k < l.length), p ≤ k → seq ≤ (l[k]).1

def thereB (l : List (Int × Int)) (seq : Int) (p : Nat) : Bool := match l[p]? with | some r => r.1 == seq | none => false

def Rises (l : List (Int × Int)) : Prop := ∀ i j (hi : i < l.length) (hj : j < l.length), i < j → (l[i]).1 < (l[j]).1

theorem place_up {l : List (Int × Int)} {seq q v : Int} {h : Nat} (hri : Rises l) (hh : h < l.length) (hz : l[h] = (q, v)) (hq : q < seq) : ∀ k (hk : k < l.length), k < h + 1 → (l[k]).1 < seq := by
  intro k hk hkh
  by_cases e : k = h
  · subst e
    rw [hz]
    exact hq
  · have := hri k h hk hh (by omega)
    rw [hz] at this
    simp only [] at this
    omega
theorem place_down {l : List (Int × Int)} {seq q v : Int} {h : Nat} (hri : Rises l) (hh : h < l.length) (hz : l[h] = (q, v)) (hq : ¬ q < seq) : ∀ k (hk : k < l.length), h ≤ k → seq ≤ (l[k]).1 := by
  intro k hk hkh
  by_cases e : k = h
  · subst e
    rw [hz]
    simp only []
    omega
  · have := hri h k hh hk (by omega)
    rw [hz] at this
    simp only [] at this
    omega

set_option maxHeartbeats 4000000 in
theorem search_c (l : List (Int × Int)) (kv : Value) (seq : Int) (w : World) (hk : KeptAt w kv l) (h3 : l.length ≤ 3) (hri : Rises l) :
    Calls Try.prog 82 #[kv, .int .i64 seq, .func (.func 83) #[] #[]] w fun e w' => ∃ p : Nat, Place l seq p ∧ e = .returned (.tuple #[.int .i64 p, .bool (thereB l seq p)]) ∧ Keeps w w' := by
  obtain ⟨ka, kc, rfl, hlen⟩ := hk.len
  have HK : Hid (KeptAt w (.slice ka l.length kc) l) := hk
  have HRI : Hid (Rises l) := hri
  have hf := fnc83
  clear hk hlen hri
  go_enter Try.func82, Try.ntmps82
  go_wp2_with fail
  go_loopw [9, 10] (fun i j wr => ∃ (a b : Nat), i = .int .i64 a ∧ j = .int .i64 b ∧ a ≤ b ∧ b ≤ l.length ∧ Hid (∀ k (h : k < l.length), k < a → (l[k]).1 < seq) ∧ Hid (∀ k (h : k < l.length), b ≤ k → seq ≤ (l[k]).1) ∧ Keeps w wr) (fun i j _ => (intOf j).toNat - (intOf i).toNat)
  case atStart => exact ⟨0, l.length, rfl, rfl, Nat.zero_le _, Nat.le_refl _, fun k h h' => by omega, fun k h h' => by omega, Keeps.refl _⟩
  case round =>
    obtain ⟨a, b, rfl, rfl, hab, hbn, HL, HH, hkw⟩ := hrel
    by_cases hlt : a < b
    · have hh : (a + b) / 2 < l.length := by omega
      obtain ⟨g, off, cp, hv, _, hcell⟩ := (HK.out.keep hkw).at hh
      injection hv with hv1 hv2 hv3
      subst hv1
      clear hv2 hv3
      obtain ⟨c0, c1⟩ := hcell _ hh
      clear hcell
      have HE : Hid (∃ q v, l[(a + b) / 2] = (q, v)) := ⟨_, _, rfl⟩
      generalize hz : l[(a + b) / 2] = z at *
      have HZ : Hid (∀ h, l[(a + b) / 2]'h = z) := fun _ => hz
      clear hz HE
      obtain ⟨q, v⟩ := z
      simp only [] at c0 c1
      have hcase : (a = 0 ∧ b = 1) ∨ (a = 0 ∧ b = 2) ∨ (a = 0 ∧ b = 3) ∨ (a = 1 ∧ b = 2) ∨ (a = 1 ∧ b = 3) ∨ (a = 2 ∧ b = 3) := by omega
      rcases hcase with ⟨rfl, rfl⟩ | ⟨rfl, rfl⟩ | ⟨rfl, rfl⟩ | ⟨rfl, rfl⟩ | ⟨rfl, rfl⟩ | ⟨rfl, rfl⟩
      all_goals
        simp only [Nat.reduceAdd, Nat.reduceDiv, Nat.zero_mul, Nat.one_mul, Nat.reduceMul, Nat.add_zero] at c0 c1
        by_cases hq : q < seq
        · have hcm : cmpI q seq < 0 := by unfold cmpI; rw [if_pos hq]; decide
          have HU : Hid _ := place_up HRI.out hh (HZ.out hh) hq
          go_wp2_with (first | (go_at_call 83; refine (by_seq q v seq _).mono ?_; rintro e w2 ⟨rfl, hb⟩))
          go_roundw
          case rel => refine ⟨_, _, by go_num, rfl, ?_, hbn, HU, HH, hkw.trans hb⟩; first | decide | omega
          case measure => simp [intOf]
        · have hcm : ¬ cmpI q seq < 0 := by unfold cmpI; rw [if_neg hq]; split <;> decide
          have HU : Hid _ := place_down HRI.out hh (HZ.out hh) hq
          go_wp2_with (first | (go_at_call 83; refine (by_seq q v seq _).mono ?_; rintro e w2 ⟨rfl, hb⟩))
          go_roundw
          case rel => refine ⟨_, _, rfl, by go_num, ?_, ?_, HL, HU, hkw.trans hb⟩ <;> first | decide | exact Nat.le_trans (by decide) hbn
          case measure => simp [intOf]
    · have hab' : a = b := by omega
      subst hab'
      have hP : Hid (Place l seq a) := ⟨hbn, HL.out, HH.out⟩
      by_cases han : a < l.length
      · obtain ⟨g, off, cp, hv, _, hcell⟩ := (HK.out.keep hkw).at han
        injection hv with hv1 hv2 hv3
        subst hv1
        clear hv2 hv3
        obtain ⟨c0, c1⟩ := hcell _ han
        clear hcell
        have HT : Hid (thereB l seq a = ((l[a]).1 == seq)) := by show _ = _; simp [thereB, han]
        generalize l[a] = z at *
        obtain ⟨q, v⟩ := z
        simp only [] at c0 c1
        have HC : Hid ((cmpI q seq == 0) = (q == seq)) := by
          show _ = _
          unfold cmpI
          by_cases h1 : q < seq
          · rw [if_pos h1, show (q == seq) = false from by simp; omega]
            rfl
          · rw [if_neg h1]
            by_cases h2 : seq < q
            · rw [if_pos h2, show (q == seq) = false from by simp; omega]
              rfl
            · rw [if_neg h2, show (q == seq) = true from by simp; omega]
              rfl
        go_wp2_with (first | (go_at_call 83; refine (by_seq q v seq _).mono ?_; rintro e w2 ⟨rfl, hb⟩))
        go_ret2
        exact ⟨a, hP.out, by rw [HT.out, HC.out]; rfl, hkw.trans hb⟩
      · have HT : Hid (thereB l seq a = false) := by show _ = _; simp [thereB, han]
        go_wp2_with fail
        go_ret2
        exact ⟨a, hP.out, by rw [HT.out]; rfl, hkw⟩
end Go.Proofs.Yteabfjpajgakiab

/- Contracts of package op: more, and the steps. -/
namespace Go.Proofs.Yteabfjpajgakiab
open Go.RowKit

def upd (g : Nat → Int) (j : Nat) (x : Int) : Nat → Int := fun i => if i = j then x else g i
/-- Block b holds the four values g. -/
def Arr (b : Nat) (g : Nat → Int) (w : World) : Prop :=
  w.cell? ⟨b, 0, none⟩ = some (.int .i64 (g 0)) ∧ w.cell? ⟨b, 1, none⟩ = some (.int .i64 (g 1)) ∧ w.cell? ⟨b, 2, none⟩ = some (.int .i64 (g 2)) ∧ w.cell? ⟨b, 3, none⟩ = some (.int .i64 (g 3)) ∧ ∀ i, w.frozen? ⟨b, i, none⟩ = false

theorem four {key : Int} (h0 : 0 ≤ key) (h1 : key ≤ 3) : key = 0 ∨ key = 1 ∨ key = 2 ∨ key = 3 := by omega

theorem Arr.set {b : Nat} {g : Nat → Int} {w : World} (h : Arr b g w) (j : Nat) (x : Int) (hj : j < 4) : Arr b (upd g j x) (w.setCell ⟨b, j, none⟩ (.int .i64 x)) := by
  obtain ⟨h0, h1, h2, h3, hf⟩ := h
  have hj' : j = 0 ∨ j = 1 ∨ j = 2 ∨ j = 3 := by omega
  have o : ∀ i j : Nat, i ≠ j → (w.setCell ⟨b, j, none⟩ (.int .i64 x)).cell? ⟨b, i, none⟩ = w.cell? ⟨b, i, none⟩ := fun i j h => World.cell?_setCell_other _ _ _ _ (by intro e; injection e with _ e _; exact h e.symm)
  rcases hj' with rfl | rfl | rfl | rfl
  · exact ⟨World.cell?_setCell_same _ _ _ h0, (o _ _ (by decide)).trans h1, (o _ _ (by decide)).trans h2, (o _ _ (by decide)).trans h3, fun i => (World.frozen?_setCell _ _ _ _).trans (hf i)⟩
  · exact ⟨(o _ _ (by decide)).trans h0, World.cell?_setCell_same _ _ _ h1, (o _ _ (by decide)).trans h2, (o _ _ (by decide)).trans h3, fun i => (World.frozen?_setCell _ _ _ _).trans (hf i)⟩
  · exact ⟨(o _ _ (by decide)).trans h0, (o _ _ (by decide)).trans h1, World.cell?_setCell_same _ _ _ h2, (o _ _ (by decide)).trans h3, fun i => (World.frozen?_setCell _ _ _ _).trans (hf i)⟩
  · exact ⟨(o _ _ (by decide)).trans h0, (o _ _ (by decide)).trans h1, (o _ _ (by decide)).trans h2, World.cell?_setCell_same _ _ _ h3, fun i => (World.frozen?_setCell _ _ _ _).trans (hf i)⟩

theorem below_at (b j : Nat) (v : Value) (w : World) : Below b w (w.setCell ⟨b, j, none⟩ v) := (Below.refl _ _).setCell (p := ⟨b, j, none⟩) (Nat.le_refl _) v

theorem Arr.below {b : Nat} {g : Nat → Int} {w w' : World} (h : Arr b g w) (hk : Keeps w w') : Arr b g w' := by
  obtain ⟨h0, h1, h2, h3, hf⟩ := h
  have hb := World.block_lt_of_cell? _ _ h0
  have hc : ∀ i, w'.cell? ⟨b, i, none⟩ = w.cell? ⟨b, i, none⟩ := fun i => Below.cell hk (p := ⟨b, i, none⟩) hb
  exact ⟨(hc 0).trans h0, (hc 1).trans h1, (hc 2).trans h2, (hc 3).trans h3, fun i => (Below.frozen hk (p := ⟨b, i, none⟩) hb).trans (hf i)⟩

theorem more_c (b : Nat) (g : Nat → Int) (key n : Int) (w : World) (hk0 : 0 ≤ key) (hk3 : key ≤ 3) (hg0 : 0 ≤ g key.toNat) (hg1 : g key.toNat ≤ 999) (hn0 : -999 ≤ n) (hn1 : n ≤ 999) (h : Arr b g w) :
    Calls Try.prog 64 #[.pointer (some ⟨b, 0, none⟩), .int .i64 key, .int .i64 n] w fun e w' => e = .returned (.bool (inB (g key.toNat + n) 0 999)) ∧ w' = (w.setCell ⟨b, key.toNat, none⟩ (.int .i64 (g key.toNat + n))).drew := by
  obtain ⟨h0, h1, h2, h3, hf⟩ := h
  rcases four hk0 hk3 with rfl | rfl | rfl | rfl
  · simp only [show (0 : Int).toNat = 0 from rfl] at *
    have hs := World.cell?_setCell_same w ⟨b, 0, none⟩ (.int .i64 (g 0 + n)) h0
    go_enter Try.func64, Try.ntmps64
    go_wp2
    go_region
    all_goals go_wp2_with (go_at_call 43; refine (is_val _ _).mono ?_; rintro e w' ⟨rfl, rfl⟩)
    all_goals go_ret
    all_goals exact ⟨rfl, rfl⟩
  · simp only [show (1 : Int).toNat = 1 from rfl] at *
    have hs := World.cell?_setCell_same w ⟨b, 1, none⟩ (.int .i64 (g 1 + n)) h1
    go_enter Try.func64, Try.ntmps64
    go_wp2
    go_region
    all_goals go_wp2_with (go_at_call 43; refine (is_val _ _).mono ?_; rintro e w' ⟨rfl, rfl⟩)
    all_goals go_ret
    all_goals exact ⟨rfl, rfl⟩
  · simp only [show (2 : Int).toNat = 2 from rfl] at *
    have hs := World.cell?_setCell_same w ⟨b, 2, none⟩ (.int .i64 (g 2 + n)) h2
    go_enter Try.func64, Try.ntmps64
    go_wp2
    go_region
    all_goals go_wp2_with (go_at_call 43; refine (is_val _ _).mono ?_; rintro e w' ⟨rfl, rfl⟩)
    all_goals go_ret
    all_goals exact ⟨rfl, rfl⟩
  · simp only [show (3 : Int).toNat = 3 from rfl] at *
    have hs := World.cell?_setCell_same w ⟨b, 3, none⟩ (.int .i64 (g 3 + n)) h3
    go_enter Try.func64, Try.ntmps64
    go_wp2
    go_region
    all_goals go_wp2_with (go_at_call 43; refine (is_val _ _).mono ?_; rintro e w' ⟨rfl, rfl⟩)
    all_goals go_ret
    all_goals exact ⟨rfl, rfl⟩


theorem step_set (b : Nat) (g : Nat → Int) (k key tk n : Int) (w : World) (hk0 : 0 ≤ key) (hk3 : key ≤ 3) (h : Arr b g w) :
    Calls Try.prog 62 #[.pointer (some ⟨b, 0, none⟩), opV k key tk n] w fun e w' => e = .returned (.bool true) ∧ Below b w w' ∧ Arr b (upd g key.toNat n) w' := by
  have hb := World.block_lt_of_cell? _ _ h.1
  simp only [] at hb
  obtain ⟨h0, h1, h2, h3, hf⟩ := id h
  rcases four hk0 hk3 with rfl | rfl | rfl | rfl
  · go_enter Try.func62, Try.ntmps62
    go_wp2
    go_region
    all_goals go_wp2
    all_goals go_ret
    all_goals exact ⟨rfl, ((below_at b 0 _ w).alloc (by simp <;> omega) _).drew, (h.set 0 n (by decide)).below ((Keeps.refl _).alloc _).drew⟩
  · go_enter Try.func62, Try.ntmps62
    go_wp2
    go_region
    all_goals go_wp2
    all_goals go_ret
    all_goals exact ⟨rfl, ((below_at b 1 _ w).alloc (by simp <;> omega) _).drew, (h.set 1 n (by decide)).below ((Keeps.refl _).alloc _).drew⟩
  · go_enter Try.func62, Try.ntmps62
    go_wp2
    go_region
    all_goals go_wp2
    all_goals go_ret
    all_goals exact ⟨rfl, ((below_at b 2 _ w).alloc (by simp <;> omega) _).drew, (h.set 2 n (by decide)).below ((Keeps.refl _).alloc _).drew⟩
  · go_enter Try.func62, Try.ntmps62
    go_wp2
    go_region
    all_goals go_wp2
    all_goals go_ret
    all_goals exact ⟨rfl, ((below_at b 3 _ w).alloc (by simp <;> omega) _).drew, (h.set 3 n (by decide)).below ((Keeps.refl _).alloc _).drew⟩

theorem step_add (b : Nat) (g : Nat → Int) (k key tk n : Int) (w : World) (hk0 : 0 ≤ key) (hk3 : key ≤ 3) (hg0 : 0 ≤ g key.toNat) (hg1 : g key.toNat ≤ 999) (hn0 : -999 ≤ n) (hn1 : n ≤ 999) (h : Arr b g w) :
    Calls Try.prog 63 #[.pointer (some ⟨b, 0, none⟩), opV k key tk n] w fun e w' => e = .returned (.bool (inB (g key.toNat + n) 0 999)) ∧ Below b w w' ∧ Arr b (upd g key.toNat (g key.toNat + n)) w' := by
  have hb := World.block_lt_of_cell? _ _ h.1
  simp only [] at hb
  have hA := h.below ((Keeps.refl w).alloc (.cells #[.int .i64 k, .int .i64 key, .int .i64 tk, .int .i64 n] 31))
  go_enter Try.func63, Try.ntmps63
  go_wp2_with fail
  refine (more_c b g key n _ hk0 hk3 hg0 hg1 hn0 hn1 hA).mono ?_
  rintro e w2 ⟨rfl, hw⟩
  have hA3 : Arr b (upd g key.toNat (g key.toNat + n)) w2 := by
    subst hw; exact hA.set key.toNat _ (by omega)
  have hB : Below b w w2 := by
    subst hw; exact (((Below.refl _ _).alloc (Nat.le_of_lt hb) _).trans (below_at b _ _ _)).drew
  clear hw
  go_wp2_with fail
  go_ret
  exact ⟨rfl, hB, hA3⟩

theorem step_get (b : Nat) (g : Nat → Int) (k key tk n : Int) (w : World) (h : Arr b g w) :
    Calls Try.prog 66 #[.pointer (some ⟨b, 0, none⟩), opV k key tk n] w fun e w' => e = .returned (.bool true) ∧ Below b w w' ∧ Arr b g w' := by
  have hb := World.block_lt_of_cell? _ _ h.1
  simp only [] at hb
  go_enter Try.func66, Try.ntmps66
  go_wp2
  go_ret
  exact ⟨rfl, (Below.refl _ _).alloc (Nat.le_of_lt hb) _, h.below ((Keeps.refl w).alloc _)⟩

theorem step_move (b : Nat) (g : Nat → Int) (k key tk n : Int) (w : World) (hk0 : 0 ≤ key) (hk3 : key ≤ 3) (ht0 : 0 ≤ tk) (ht3 : tk ≤ 3) (hg : ∀ i, i < 4 → 0 ≤ g i ∧ g i ≤ 999) (hn0 : 0 ≤ n) (hn1 : n ≤ 999) (h : Arr b g w) :
    Calls Try.prog 65 #[.pointer (some ⟨b, 0, none⟩), opV k key tk n] w fun e w' => Below b w w' ∧ ∃ g', Arr b g' w' ∧
      e = .returned (.bool (inB (g key.toNat + -n) 0 999 && inB (upd g key.toNat (g key.toNat + -n) tk.toNat + n) 0 999)) ∧
      ((inB (g key.toNat + -n) 0 999 && inB (upd g key.toNat (g key.toNat + -n) tk.toNat + n) 0 999) = true → g' = upd (upd g key.toNat (g key.toNat + -n)) tk.toNat (upd g key.toNat (g key.toNat + -n) tk.toNat + n)) := by
  have hb := World.block_lt_of_cell? _ _ h.1
  simp only [] at hb
  have hkk := hg key.toNat (by omega)
  have htt := hg tk.toNat (by omega)
  have hA := h.below ((Keeps.refl w).alloc (.cells #[.int .i64 k, .int .i64 key, .int .i64 tk, .int .i64 n] 31))
  cases h1 : inB (g key.toNat + -n) 0 999 with
  | true =>
    have hu : 0 ≤ upd g key.toNat (g key.toNat + -n) tk.toNat ∧ upd g key.toNat (g key.toNat + -n) tk.toNat ≤ 999 := by
      simp only [inB, Bool.and_eq_true, decide_eq_true_eq] at h1
      unfold upd; split <;> omega
    have hA1 := hA.set key.toNat (g key.toNat + -n) (by omega)
    go_enter Try.func65, Try.ntmps65
    go_wp2_with fail
    refine (more_c b g key (-n) _ hk0 hk3 hkk.1 hkk.2 (by omega) (by omega) hA).mono ?_
    rintro e w' ⟨rfl, rfl⟩
    go_wp2_with fail
    have hA2 : Arr b (upd g key.toNat (g key.toNat + -n)) ((w.setCell ⟨b, key.toNat, none⟩ (.int .i64 (g key.toNat + -n))).alloc (.cells #[.int .i64 k, .int .i64 key, .int .i64 tk, .int .i64 n] 31)).drew :=
      (h.set key.toNat (g key.toNat + -n) (by omega)).below ((Keeps.refl _).alloc _).drew
    refine (more_c b _ tk n _ ht0 ht3 hu.1 hu.2 (by omega) hn1 hA2).mono ?_
    rintro e w2 ⟨rfl, hw⟩
    have hA3 : Arr b (upd (upd g key.toNat (g key.toNat + -n)) tk.toNat (upd g key.toNat (g key.toNat + -n) tk.toNat + n)) w2 := by
      subst hw; exact hA2.set tk.toNat _ (by omega)
    have hB : Below b w w2 := by
      subst hw; exact ((((below_at b _ _ _).alloc (by simp <;> omega) _).drew).trans (below_at b _ _ _)).drew
    clear hw
    go_wp2_with fail
    all_goals go_ret
    all_goals exact ⟨hB, _, hA3, by simp, fun _ => rfl⟩
  | false =>
    go_enter Try.func65, Try.ntmps65
    go_wp2_with fail
    refine (more_c b g key (-n) _ hk0 hk3 hkk.1 hkk.2 (by omega) (by omega) hA).mono ?_
    rintro e w2 ⟨rfl, hw⟩
    have hA3 : Arr b (upd g key.toNat (g key.toNat + -n)) w2 := by
      subst hw; exact hA.set key.toNat _ (by omega)
    have hB : Below b w w2 := by
      subst hw; exact (((Below.refl _ _).alloc (Nat.le_of_lt hb) _).trans (below_at b _ _ _)).drew
    clear hw
    go_wp2_with fail
    all_goals go_ret
    all_goals exact ⟨hB, _, hA3, by simp, fun h => by cases h⟩
end Go.Proofs.Yteabfjpajgakiab
