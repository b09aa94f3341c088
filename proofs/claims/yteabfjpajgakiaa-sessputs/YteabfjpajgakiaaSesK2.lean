/- The reference's DropOf, FreshOf. -/
import Derived.Test.YteabfjpajgakiaaSesK
set_option linter.unusedSimpArgs false
set_option linter.unusedVariables false
namespace Go.Proofs.Yteabfjpajgakiaa
open Go.RowKit

set_option maxHeartbeats 1000000 in
theorem drop_of (L : List Ses) (v : Value) (c : Int) (w : World) (hT : TabAt w v L) :
    Calls Try.prog 23 #[v, .int .i64 c] w fun e w' => ∃ v', OwnTab w.heap.size w' v' (dropTab L c) ∧ e = .returned (.tuple #[v', .int .i64 (dropErr L c)]) ∧ Keeps w w' := by
  have HT : Hid (TabAt w v L) := hT
  clear hT
  go_enter Try.func23, Try.ntmps23
  go_wp2_with fail
  refine (table_error L _ _ HT.out).mono ?_
  rintro e w1 ⟨rfl, hk1⟩
  cases he : (tabErr L == 0) with
  | false =>
    have he' : (tabErr L != 0) = true := by simp [bne, he]
    have HE : Hid (dropErr L c = tabErr L ∧ dropTab L c = []) := by
      have h1 : dropErr L c = tabErr L := by simp [dropErr, he]
      exact ⟨h1, by simp [dropTab, h1, he]⟩
    go_wp2_with fail
    go_ret2
    exact ⟨.slice none 0 0, by rw [HE.out.2]; exact OwnTab.nil _ _, by rw [HE.out.1]; rfl, hk1⟩
  | true =>
    have he' : (tabErr L != 0) = false := by simp [bne, he]
    have he0 : tabErr L = 0 := by simpa using he
    have HR : Hid (L.length ≤ 3 ∧ (∀ s ∈ L, sesErr s = 0) ∧ rising L = true) := tab_right he0
    go_wp2_with fail
    refine (find_ix L _ c _ (HT.out.keep hk1)).mono ?_
    rintro e w' ⟨r, rfl, rfl, hr⟩
    rcases hr with ⟨rfl, hnone⟩ | ⟨k, hlt, rfl, hsome⟩
    · have HE : Hid (dropErr L c = 5 ∧ dropTab L c = []) := by
        have h1 : dropErr L c = 5 := by simp [dropErr, he, drop_none.1 hnone]
        exact ⟨h1, by simp [dropTab, h1]⟩
      clear hnone
      go_wp2_with fail
      go_ret2
      exact ⟨.slice none 0 0, by rw [HE.out.2]; exact OwnTab.nil _ _, by rw [HE.out.1]; rfl, hk1⟩
    · have HE : Hid (dropErr L c = 0 ∧ dropTab L c = L.filter (fun s => s.client != c)) := by
        have hq : ((L.filter (fun s => s.client != c)).length == L.length) = false := by
          simp only [beq_eq_false_iff_ne]
          intro h
          rw [drop_none.2 h] at hsome
          cases hsome
        have h1 : dropErr L c = 0 := by simp [dropErr, he, hq]
        exact ⟨h1, by simp [dropTab, h1]⟩
      clear hsome
      go_wp2_with fail
      refine (without_c L _ c _ (HT.out.keep hk1) HR.out.1 (fun s hs => kept_le (HR.out.2.1 s hs))).mono ?_
      rintro e w2 ⟨v', ho, rfl, hb2⟩
      have HO : Hid (OwnTab w1.heap.size w2 v' (L.filter (fun s => s.client != c))) := ho
      have hk2 : Keeps w w2 := hk1.trans hb2
      have hbs : w.heap.size ≤ w1.heap.size := hk1.size
      clear ho hb2
      go_wp2_with fail
      go_ret2
      exact ⟨_, by rw [HE.out.2]; exact HO.out.base hbs, by rw [HE.out.1]; rfl, hk2⟩

set_option maxHeartbeats 1000000 in
theorem fresh_of (L : List Ses) (v : Value) (c : Int) (w : World) (hT : TabAt w v L) :
    Calls Try.prog 26 #[v, .int .i64 c] w fun e w' => ∃ v', OwnTab w.heap.size w' v' (frTab L c) ∧ e = .returned (.tuple #[v', .int .i64 (freshErr L c)]) ∧ Keeps w w' := by
  have HT : Hid (TabAt w v L) := hT
  clear hT
  go_enter Try.func26, Try.ntmps26
  go_wp2_with fail
  refine (table_error L _ _ HT.out).mono ?_
  rintro e w1 ⟨rfl, hk1⟩
  cases he : (tabErr L == 0) with
  | false =>
    have he' : (tabErr L != 0) = true := by simp [bne, he]
    have HE : Hid (freshErr L c = tabErr L ∧ frTab L c = []) := by
      have h1 : freshErr L c = tabErr L := by simp [freshErr, he]
      exact ⟨h1, by simp [frTab, h1, he]⟩
    go_wp2_with fail
    go_ret2
    exact ⟨.slice none 0 0, by rw [HE.out.2]; exact OwnTab.nil _ _, by rw [HE.out.1]; rfl, hk1⟩
  | true =>
    have he' : (tabErr L != 0) = false := by simp [bne, he]
    have he0 : tabErr L = 0 := by simpa using he
    have HR : Hid (L.length ≤ 3 ∧ (∀ s ∈ L, sesErr s = 0) ∧ rising L = true) := tab_right he0
    cases hi : inB c 0 999 with
    | false =>
      have HE : Hid (freshErr L c = 3 ∧ frTab L c = []) := by
        have h1 : freshErr L c = 3 := by simp [freshErr, he, hi]
        exact ⟨h1, by simp [frTab, h1]⟩
      go_wp2_with (first | (go_at_call 35; refine (within_c _ _ _ _).mono ?_; rintro e w' ⟨rfl, rfl⟩))
      go_ret2
      exact ⟨.slice none 0 0, by rw [HE.out.2]; exact OwnTab.nil _ _, by rw [HE.out.1]; rfl, hk1⟩
    | true =>
      have HE : Hid (freshErr L c = 0 ∧ frTab L c = freshTab L c) := by
        have h1 : freshErr L c = 0 := by simp [freshErr, he, hi]
        exact ⟨h1, by simp [frTab, h1]⟩
      have hcb := inB_iff.1 hi
      go_wp2_with (first | (go_at_call 35; refine (within_c _ _ _ _).mono ?_; rintro e w' ⟨rfl, rfl⟩))
      refine (fresh_c L _ c _ (HT.out.keep hk1) HR.out.1 (fun s hs => kept_le (HR.out.2.1 s hs)) hcb.1 hcb.2).mono ?_
      rintro e w2 ⟨v', ho, rfl, hb2⟩
      have HO : Hid (OwnTab w1.heap.size w2 v' (freshTab L c)) := ho
      have hk2 : Keeps w w2 := hk1.trans hb2
      have hbs : w.heap.size ≤ w1.heap.size := hk1.size
      clear ho hb2
      go_wp2_with fail
      go_ret2
      exact ⟨_, by rw [HE.out.2]; exact HO.out.base hbs, by rw [HE.out.1]; rfl, hk2⟩
end Go.Proofs.Yteabfjpajgakiaa
