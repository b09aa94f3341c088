/- sess.Drop, sess.Fresh, sess.Put. -/
import Derived.Test.YteabfjpajgakiaaSesH
set_option linter.unusedSimpArgs false
set_option linter.unusedVariables false
namespace Go.Proofs.Yteabfjpajgakiaa
open Go.RowKit

theorem fn44 (args : Array Value) (W : World) : (callFunc 44 args).run Try.prog W = .ok (.enter 44 args) W := by kernel_rfl
theorem fn45 (args : Array Value) (W : World) : (callFunc 45 args).run Try.prog W = .ok (.enter 45 args) W := by kernel_rfl
theorem fn46 (args : Array Value) (W : World) : (callFunc 46 args).run Try.prog W = .ok (.enter 46 args) W := by kernel_rfl
theorem fn49 (args : Array Value) (W : World) : (callFunc 49 args).run Try.prog W = .ok (.enter 49 args) W := by kernel_rfl

theorem less_c (b : Nat) (c : Int) (s : Ses) (kv : Value) (W : World) (hb : W.cell? ⟨b, 0, none⟩ = some (.int .i64 c)) (hk : KeptAt W kv s.kept) :
    Calls Try.prog 44 #[sesV s kv, .pointer (some ⟨b, 0, none⟩)] W fun e w' => e = .returned (.bool (decide (s.client < c))) ∧ Keeps W w' := by
  obtain ⟨ka, kc, rfl, _⟩ := hk.len
  clear hk
  have hlt := World.block_lt_of_cell? _ _ hb
  simp only [] at hlt
  go_enter Try.func44, Try.ntmps44
  go_wp2_with fail
  go_ret
  exact ⟨rfl, (Keeps.refl _).alloc _⟩
theorem more_than_c (b : Nat) (c : Int) (s : Ses) (kv : Value) (W : World) (hb : W.cell? ⟨b, 0, none⟩ = some (.int .i64 c)) (hk : KeptAt W kv s.kept) :
    Calls Try.prog 45 #[sesV s kv, .pointer (some ⟨b, 0, none⟩)] W fun e w' => e = .returned (.bool (decide (c < s.client))) ∧ Keeps W w' := by
  obtain ⟨ka, kc, rfl, _⟩ := hk.len
  clear hk
  have hlt := World.block_lt_of_cell? _ _ hb
  simp only [] at hlt
  go_enter Try.func45, Try.ntmps45
  go_wp2_with fail
  go_ret
  exact ⟨rfl, (Keeps.refl _).alloc _⟩
theorem other_c (b : Nat) (c : Int) (s : Ses) (kv : Value) (W : World) (hb : W.cell? ⟨b, 0, none⟩ = some (.int .i64 c)) (hk : KeptAt W kv s.kept) :
    Calls Try.prog 46 #[sesV s kv, .pointer (some ⟨b, 0, none⟩)] W fun e w' => e = .returned (.bool (s.client != c)) ∧ Keeps W w' := by
  obtain ⟨ka, kc, rfl, _⟩ := hk.len
  clear hk
  have hlt := World.block_lt_of_cell? _ _ hb
  simp only [] at hlt
  go_enter Try.func46, Try.ntmps46
  go_wp2_with fail
  go_ret
  exact ⟨rfl, (Keeps.refl _).alloc _⟩
theorem young_c (b : Nat) (c : Int) (s : Ses) (kv : Value) (W : World) (hb : W.cell? ⟨b, 0, none⟩ = some (.int .i64 c)) (h0 : 0 ≤ c) (h1 : c ≤ 999) (hk : KeptAt W kv s.kept) :
    Calls Try.prog 49 #[sesV s kv, .pointer (some ⟨b, 0, none⟩)] W fun e w' => e = .returned (.bool (decide (c - 20 ≤ s.seen))) ∧ Keeps W w' := by
  obtain ⟨ka, kc, rfl, _⟩ := hk.len
  clear hk
  have hlt := World.block_lt_of_cell? _ _ hb
  simp only [] at hlt
  go_enter Try.func49, Try.ntmps49
  go_wp2_with fail
  go_ret
  exact ⟨rfl, (Keeps.refl _).alloc _⟩

/-- Drop's answer. -/
def dropErr (L : List Ses) (c : Int) : Int := if tabErr L == 0 then (if (L.filter (fun s => s.client != c)).length == L.length then 5 else 0) else tabErr L
def dropTab (L : List Ses) (c : Int) : List Ses := if dropErr L c == 0 then L.filter (fun s => s.client != c) else []
/-- Fresh's answer. -/
def freshTab (L : List Ses) (c : Int) : List Ses := L.filter (fun s => decide (c - 20 ≤ s.seen))
def freshErr (L : List Ses) (c : Int) : Int := if tabErr L == 0 then (if inB c 0 999 then 0 else 3) else tabErr L
def frTab (L : List Ses) (c : Int) : List Ses := if freshErr L c == 0 then freshTab L c else []

theorem box_int (w : World) (c : Int) : (w.alloc (.cells #[.int .i64 c] 3)).cell? ⟨w.heap.size, 0, none⟩ = some (.int .i64 c) := by simp
theorem cell_keep {W W' : World} {a : Addr} {u : Value} (h : W.cell? a = some u) (hk : Keeps W W') : W'.cell? a = some u := (Below.cell hk (World.block_lt_of_cell? _ _ h)).trans h

set_option maxHeartbeats 1000000 in
theorem sess_drop (L : List Ses) (v : Value) (c : Int) (w : World) (hT : TabAt w v L) :
    Calls Try.prog 21 #[v, .int .i64 c] w fun e w' => ∃ v', OwnTab w.heap.size w' v' (dropTab L c) ∧ e = .returned (.tuple #[v', .int .i64 (dropErr L c)]) ∧ Keeps w w' := by
  obtain ⟨a, cap, rfl, hlen⟩ := hT.len
  unfold maxLen at hlen
  have hT0 := hT.keep ((Keeps.refl w).alloc (.cells #[.int .i64 c] 3))
  have HT : Hid (TabAt (w.alloc (.cells #[.int .i64 c] 3)) (.slice a L.length cap) L) := hT0
  clear hT hT0
  go_enter Try.func21, Try.ntmps21
  go_wp2_with fail
  refine (sess_check L _ _ HT.out).mono ?_
  rintro e w1 ⟨rfl, hb⟩
  have HB : Hid (Keeps (w.alloc (.cells #[.int .i64 c] 3)) w1) := hb
  have hk1 : Keeps w w1 := ((Keeps.refl _).alloc _).trans hb
  clear hb
  cases he : (tabErr L == 0) with
  | false =>
    have he' : (tabErr L != 0) = true := by simp [bne, he]
    have HE : Hid (dropErr L c = tabErr L ∧ dropTab L c = []) := by
      have h1 : dropErr L c = tabErr L := by simp [dropErr, he]
      exact ⟨h1, by simp [dropTab, h1, he]⟩
    go_wp2_with fail
    go_ret2
    exact ⟨.slice none 0 0, by rw [HE.out.2]; exact OwnTab.nil _ _, by rw [HE.out.1]; rfl, hk1⟩
  | true =>
    have he' : (tabErr L != 0) = false := by simp [bne, he]
    have he0 : tabErr L = 0 := by simpa using he
    have hR := tab_right he0
    go_wp2_with fail
    refine (those_c 46 (.pointer (some ⟨w.heap.size, 0, none⟩)) (fun s => s.client != c) L _ _ (HT.out.keep HB.out) hR.1 (fun s hs => kept_le (hR.2.1 s hs)) fn46 ?_).mono ?_
    · exact fun W s kv hW hk => other_c _ c s kv W (cell_keep (cell_keep (box_int w c) HB.out) hW) hk
    rintro e w2 ⟨v', ho, rfl, hb2⟩
    obtain ⟨va, vc, rfl, _⟩ := ho.tab.len
    have HO : Hid (OwnTab w1.heap.size w2 (.slice va (L.filter (fun s => s.client != c)).length vc) (L.filter (fun s => s.client != c))) := ho
    have hk2 : Keeps w w2 := hk1.trans hb2
    have hbs : w.heap.size ≤ w1.heap.size := hk1.size
    have hfl : (L.filter (fun s => s.client != c)).length ≤ L.length := List.length_filter_le _ _
    clear ho hb2 hR
    generalize hn : (L.filter (fun s => s.client != c)).length = n at *
    cases hq : (n == L.length) with
    | true =>
      have hq' : ((n : Int) == (L.length : Int)) = true := by simp at hq ⊢; omega
      have HE : Hid (dropErr L c = 5 ∧ dropTab L c = []) := by
        have h1 : dropErr L c = 5 := by simp [dropErr, he, hn, hq]
        exact ⟨h1, by simp [dropTab, h1]⟩
      clear hq hn
      go_wp2_with fail
      go_ret2
      exact ⟨.slice none 0 0, by rw [HE.out.2]; exact OwnTab.nil _ _, by rw [HE.out.1]; rfl, hk2⟩
    | false =>
      have hq' : ((n : Int) == (L.length : Int)) = false := by simp at hq ⊢; omega
      have HE : Hid (dropErr L c = 0 ∧ dropTab L c = L.filter (fun s => s.client != c)) := by
        have h1 : dropErr L c = 0 := by simp [dropErr, he, hn, hq]
        exact ⟨h1, by simp [dropTab, h1]⟩
      clear hq hn
      go_wp2_with fail
      go_ret2
      exact ⟨_, by rw [HE.out.2]; exact HO.out.base hbs, by rw [HE.out.1]; rfl, hk2⟩

set_option maxHeartbeats 1000000 in
theorem sess_fresh (L : List Ses) (v : Value) (c : Int) (w : World) (hT : TabAt w v L) :
    Calls Try.prog 25 #[v, .int .i64 c] w fun e w' => ∃ v', OwnTab w.heap.size w' v' (frTab L c) ∧ e = .returned (.tuple #[v', .int .i64 (freshErr L c)]) ∧ Keeps w w' := by
  obtain ⟨a, cap, rfl, hlen⟩ := hT.len
  unfold maxLen at hlen
  have hT0 := hT.keep ((Keeps.refl w).alloc (.cells #[.int .i64 c] 3))
  have HT : Hid (TabAt (w.alloc (.cells #[.int .i64 c] 3)) (.slice a L.length cap) L) := hT0
  clear hT hT0
  go_enter Try.func25, Try.ntmps25
  go_wp2_with fail
  refine (sess_check L _ _ HT.out).mono ?_
  rintro e w1 ⟨rfl, hb⟩
  have HB : Hid (Keeps (w.alloc (.cells #[.int .i64 c] 3)) w1) := hb
  have hk1 : Keeps w w1 := ((Keeps.refl _).alloc _).trans hb
  have hcc := cell_keep (box_int w c) hb
  clear hb
  cases he : (tabErr L == 0) with
  | false =>
    have he' : (tabErr L != 0) = true := by simp [bne, he]
    have HE : Hid (freshErr L c = tabErr L ∧ frTab L c = []) := by
      have h1 : freshErr L c = tabErr L := by simp [freshErr, he]
      exact ⟨h1, by simp [frTab, h1, he]⟩
    go_wp2_with fail
    go_ret2
    exact ⟨.slice none 0 0, by rw [HE.out.2]; exact OwnTab.nil _ _, by rw [HE.out.1]; rfl, hk1⟩
  | true =>
    have he' : (tabErr L != 0) = false := by simp [bne, he]
    have he0 : tabErr L = 0 := by simpa using he
    have hR := tab_right he0
    cases hi : inB c 0 999 with
    | false =>
      have HE : Hid (freshErr L c = 3 ∧ frTab L c = []) := by
        have h1 : freshErr L c = 3 := by simp [freshErr, he, hi]
        exact ⟨h1, by simp [frTab, h1]⟩
      clear hR
      go_wp2_with (first | (go_at_call 48; refine (bound_in _ _ _ _).mono ?_; rintro e w' ⟨rfl, rfl⟩))
      go_ret2
      exact ⟨.slice none 0 0, by rw [HE.out.2]; exact OwnTab.nil _ _, by rw [HE.out.1]; rfl, hk1⟩
    | true =>
      have HE : Hid (freshErr L c = 0 ∧ frTab L c = freshTab L c) := by
        have h1 : freshErr L c = 0 := by simp [freshErr, he, hi]
        exact ⟨h1, by simp [frTab, h1]⟩
      have hcb := inB_iff.1 hi
      go_wp2_with (first | (go_at_call 48; refine (bound_in _ _ _ _).mono ?_; rintro e w' ⟨rfl, rfl⟩))
      refine (those_c 49 (.pointer (some ⟨w.heap.size, 0, none⟩)) (fun s => decide (c - 20 ≤ s.seen)) L _ _ (HT.out.keep HB.out) hR.1 (fun s hs => kept_le (hR.2.1 s hs)) fn49 ?_).mono ?_
      · exact fun W s kv hW hk => young_c _ c s kv W (cell_keep (cell_keep (box_int w c) HB.out) hW) hcb.1 hcb.2 hk
      rintro e w2 ⟨v', ho, rfl, hb2⟩
      have HO : Hid (OwnTab w1.heap.size w2 v' (freshTab L c)) := ho
      have hk2 : Keeps w w2 := hk1.trans hb2
      have hbs : w.heap.size ≤ w1.heap.size := hk1.size
      clear ho hb2 hR
      go_wp2_with fail
      go_ret2
      exact ⟨_, by rw [HE.out.2]; exact HO.out.base hbs, by rw [HE.out.1]; rfl, hk2⟩
end Go.Proofs.Yteabfjpajgakiaa
