/- Applying: slices.BinarySearchFunc over the answers that are kept. -/
import Derived.Test.YthjcnbimapgdnabSesC
set_option linter.unusedSimpArgs false
set_option linter.unusedVariables false
set_option maxRecDepth 10000
namespace Go.Proofs.Ythjcnbimapgdnab
open Go.RowKit

def cmpI (a b : Int) : Int := if a < b then -1 else if b < a then 1 else 0

theorem is_nan (a : Int) (w : World) : Calls Try.prog 86 #[.int .i64 a] w fun e w' => e = .returned (.bool false) ∧ w = w' := by
  go_enter Try.func86, Try.ntmps86
  go_wp2
  go_ret
  exact ⟨by simp, rfl⟩

set_option maxHeartbeats 1000000 in
theorem cmp_c (a b : Int) (w : World) : Calls Try.prog 84 #[.int .i64 a, .int .i64 b] w fun e w' => e = .returned (.int .i64 (cmpI a b)) ∧ w = w' := by
  have HC : Hid (cmpI a b = if a < b then -1 else if b < a then 1 else 0) := rfl
  by_cases h1 : a < b
  · have HE : Hid (cmpI a b = -1) := by show _ = _; rw [HC.out, if_pos h1]
    go_enter Try.func84, Try.ntmps84
    go_wp2_with (first | (go_at_call 86; refine (is_nan _ _).mono ?_; rintro e w' ⟨rfl, rfl⟩))
    go_ret
    exact ⟨ret_int HE.out.symm, rfl⟩
  · by_cases h2 : b < a
    · have HE : Hid (cmpI a b = 1) := by show _ = _; rw [HC.out, if_neg h1, if_pos h2]
      go_enter Try.func84, Try.ntmps84
      go_wp2_with (first | (go_at_call 86; refine (is_nan _ _).mono ?_; rintro e w' ⟨rfl, rfl⟩))
      go_ret
      exact ⟨ret_int HE.out.symm, rfl⟩
    · have HE : Hid (cmpI a b = 0) := by show _ = _; rw [HC.out, if_neg h1, if_neg h2]
      go_enter Try.func84, Try.ntmps84
      go_wp2_with (first | (go_at_call 86; refine (is_nan _ _).mono ?_; rintro e w' ⟨rfl, rfl⟩))
      go_ret
      exact ⟨ret_int HE.out.symm, rfl⟩

theorem by_seq (q v seq : Int) (w : World) : Calls Try.prog 83 #[.agg #[.int .i64 q, .int .i64 v], .int .i64 seq] w fun e w' => e = .returned (.int .i64 (cmpI q seq)) ∧ Keeps w w' := by
  go_enter Try.func83, Try.ntmps83
  go_wp2_with (first | (go_at_call 84; refine (cmp_c _ _ _).mono ?_; rintro e w' ⟨rfl, rfl⟩))
  go_ret
  exact ⟨rfl, (Keeps.refl _).alloc _⟩

theorem fnc83 (args : Array Value) (W : World) : (callFunc 83 args).run Try.prog W = .ok (.enter 83 args) W := by kernel_rfl

/-- Where a number is, or belongs, among answers that rise. -/
structure Place (l : List (Int × Int)) (seq : Int) (p : Nat) : Prop where
  le : p ≤ l.length
  low : ∀ k (h : k < l.length), k < p → (l[k]).1 < seq
  high : ∀ k (h : k < l.length), p ≤ k → seq ≤ (l[k]).1

def thereB (l : List (Int × Int)) (seq : Int) (p : Nat) : Bool := match l[p]? with | some r => r.1 == seq | none => false

def Rises (l : List (Int × Int)) : Prop := ∀ i j (hi : i < l.length) (hj : j < l.length), i < j → (l[i]).1 < (l[j]).1

theorem place_up {l : List (Int × Int)} {seq q v : Int} {h : Nat} (hri : Rises l) (hh : h < l.length) (hz : l[h] = (q, v)) (hq : q < seq) : ∀ k (hk : k < l.length), k < h + 1 → (l[k]).1 < seq := by
  intro k hk hkh
  by_cases e : k = h
  · subst e
    rw [hz]
    exact hq
  · have := hri k h hk hh (by omega)
    rw [hz] at this
    simp only [] at this
    omega
theorem place_down {l : List (Int × Int)} {seq q v : Int} {h : Nat} (hri : Rises l) (hh : h < l.length) (hz : l[h] = (q, v)) (hq : ¬ q < seq) : ∀ k (hk : k < l.length), h ≤ k → seq ≤ (l[k]).1 := by
  intro k hk hkh
  by_cases e : k = h
  · subst e
    rw [hz]
    simp only []
    omega
  · have := hri h k hh hk (by omega)
    rw [hz] at this
    simp only [] at this
    omega

set_option maxHeartbeats 4000000 in
theorem search_c (l : List (Int × Int)) (kv : Value) (seq : Int) (w : World) (hk : KeptAt w kv l) (h3 : l.length ≤ 3) (hri : Rises l) :
    Calls Try.prog 82 #[kv, .int .i64 seq, .func (.func 83) #[] #[]] w fun e w' => ∃ p : Nat, Place l seq p ∧ e = .returned (.tuple #[.int .i64 p, .bool (thereB l seq p)]) ∧ Keeps w w' := by
  obtain ⟨ka, kc, rfl, hlen⟩ := hk.len
  have HK : Hid (KeptAt w (.slice ka l.length kc) l) := hk
  have HRI : Hid (Rises l) := hri
  have hf := fnc83
  clear hk hlen hri
  go_enter Try.func82, Try.ntmps82
  go_wp2_with fail
  go_loopw [9, 10] (fun i j wr => ∃ (a b : Nat), i = .int .i64 a ∧ j = .int .i64 b ∧ a ≤ b ∧ b ≤ l.length ∧ Hid (∀ k (h : k < l.length), k < a → (l[k]).1 < seq) ∧ Hid (∀ k (h : k < l.length), b ≤ k → seq ≤ (l[k]).1) ∧ Keeps w wr) (fun i j _ => (intOf j).toNat - (intOf i).toNat)
  case atStart => exact ⟨0, l.length, rfl, rfl, Nat.zero_le _, Nat.le_refl _, fun k h h' => by omega, fun k h h' => by omega, Keeps.refl _⟩
  case round =>
    obtain ⟨a, b, rfl, rfl, hab, hbn, HL, HH, hkw⟩ := hrel
    by_cases hlt : a < b
    · have hh : (a + b) / 2 < l.length := by omega
      obtain ⟨g, off, cp, hv, _, hcell⟩ := (HK.out.keep hkw).at hh
      injection hv with hv1 hv2 hv3
      subst hv1
      clear hv2 hv3
      obtain ⟨c0, c1⟩ := hcell _ hh
      clear hcell
      have HE : Hid (∃ q v, l[(a + b) / 2] = (q, v)) := ⟨_, _, rfl⟩
      generalize hz : l[(a + b) / 2] = z at *
      have HZ : Hid (∀ h, l[(a + b) / 2]'h = z) := fun _ => hz
      clear hz HE
      obtain ⟨q, v⟩ := z
      simp only [] at c0 c1
      have hcase : (a = 0 ∧ b = 1) ∨ (a = 0 ∧ b = 2) ∨ (a = 0 ∧ b = 3) ∨ (a = 1 ∧ b = 2) ∨ (a = 1 ∧ b = 3) ∨ (a = 2 ∧ b = 3) := by omega
      rcases hcase with ⟨rfl, rfl⟩ | ⟨rfl, rfl⟩ | ⟨rfl, rfl⟩ | ⟨rfl, rfl⟩ | ⟨rfl, rfl⟩ | ⟨rfl, rfl⟩
      all_goals
        simp only [Nat.reduceAdd, Nat.reduceDiv, Nat.zero_mul, Nat.one_mul, Nat.reduceMul, Nat.add_zero] at c0 c1
        by_cases hq : q < seq
        · have hcm : cmpI q seq < 0 := by unfold cmpI; rw [if_pos hq]; decide
          have HU : Hid _ := place_up HRI.out hh (HZ.out hh) hq
          go_wp2_with (first | (go_at_call 83; refine (by_seq q v seq _).mono ?_; rintro e w2 ⟨rfl, hb⟩))
          go_roundw
          case rel => refine ⟨_, _, by go_num, rfl, ?_, hbn, HU, HH, hkw.trans hb⟩; first | decide | omega
          case measure => simp [intOf]
        · have hcm : ¬ cmpI q seq < 0 := by unfold cmpI; rw [if_neg hq]; split <;> decide
          have HU : Hid _ := place_down HRI.out hh (HZ.out hh) hq
          go_wp2_with (first | (go_at_call 83; refine (by_seq q v seq _).mono ?_; rintro e w2 ⟨rfl, hb⟩))
          go_roundw
          case rel => refine ⟨_, _, rfl, by go_num, ?_, ?_, HL, HU, hkw.trans hb⟩ <;> first | decide | exact Nat.le_trans (by decide) hbn
          case measure => simp [intOf]
    · have hab' : a = b := by omega
      subst hab'
      have hP : Hid (Place l seq a) := ⟨hbn, HL.out, HH.out⟩
      by_cases han : a < l.length
      · obtain ⟨g, off, cp, hv, _, hcell⟩ := (HK.out.keep hkw).at han
        injection hv with hv1 hv2 hv3
        subst hv1
        clear hv2 hv3
        obtain ⟨c0, c1⟩ := hcell _ han
        clear hcell
        have HT : Hid (thereB l seq a = ((l[a]).1 == seq)) := by show _ = _; simp [thereB, han]
        generalize l[a] = z at *
        obtain ⟨q, v⟩ := z
        simp only [] at c0 c1
        have HC : Hid ((cmpI q seq == 0) = (q == seq)) := by
          show _ = _
          unfold cmpI
          by_cases h1 : q < seq
          · rw [if_pos h1, show (q == seq) = false from by simp; omega]
            rfl
          · rw [if_neg h1]
            by_cases h2 : seq < q
            · rw [if_pos h2, show (q == seq) = false from by simp; omega]
              rfl
            · rw [if_neg h2, show (q == seq) = true from by simp; omega]
              rfl
        go_wp2_with (first | (go_at_call 83; refine (by_seq q v seq _).mono ?_; rintro e w2 ⟨rfl, hb⟩))
        go_ret2
        exact ⟨a, hP.out, by rw [HT.out, HC.out]; rfl, hkw.trans hb⟩
      · have HT : Hid (thereB l seq a = false) := by show _ = _; simp [thereB, han]
        go_wp2_with fail
        go_ret2
        exact ⟨a, hP.out, by rw [HT.out]; rfl, hkw⟩
end Go.Proofs.Ythjcnbimapgdnab
