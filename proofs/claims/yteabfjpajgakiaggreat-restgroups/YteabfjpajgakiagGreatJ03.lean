/- SesI, SesJ, SesK, SesL, ApB, ApC, ApD, ApD2. -/
import Derived.Deep.RegionHeld3
import Derived.Deep.DeepCutAuto
import Derived.Laws.IdiomCopy
import Derived.Test.YteabfjpajgakiagGreatJ02
/- sess.Drop, sess.Fresh, sess.Put. -/
set_option linter.unusedSimpArgs false
set_option linter.unusedVariables false
namespace Go.Proofs.YteabfjpajgakiagGreat
open Go.RowKit

theorem fn44 (args : Array Value) (W : World) : (callFunc 115 args).run Tryz.prog W = .ok (.enter 115 args) W := by kernel_rfl
theorem fn45 (args : Array Value) (W : World) : (callFunc 116 args).run Tryz.prog W = .ok (.enter 116 args) W := by kernel_rfl
theorem fn46 (args : Array Value) (W : World) : (callFunc 117 args).run Tryz.prog W = .ok (.enter 117 args) W := by kernel_rfl
theorem fn49 (args : Array Value) (W : World) : (callFunc 100 args).run Tryz.prog W = .ok (.enter 100 args) W := by kernel_rfl

theorem less_c (b : Nat) (c : Int) (s : Ses) (kv : Value) (W : World) (hb : W.cell? ⟨b, 0, none⟩ = some (.int .i64 c)) (hk : KeptAt W kv s.kept) :
    Calls Tryz.prog 115 #[sesV s kv, .pointer (some ⟨b, 0, none⟩)] W fun e w' => e = .returned (.bool (decide (s.client < c))) ∧ Keeps W w' := by
  obtain ⟨ka, kc, rfl, _⟩ := hk.len
  clear hk
  have hlt := World.block_lt_of_cell? _ _ hb
  simp only [] at hlt
  go_enter Tryz.func115, Tryz.ntmps115
  go_wp2_with fail
  go_ret
  exact ⟨rfl, (Keeps.refl _).alloc _⟩
theorem more_than_c (b : Nat) (c : Int) (s : Ses) (kv : Value) (W : World) (hb : W.cell? ⟨b, 0, none⟩ = some (.int .i64 c)) (hk : KeptAt W kv s.kept) :
    Calls Tryz.prog 116 #[sesV s kv, .pointer (some ⟨b, 0, none⟩)] W fun e w' => e = .returned (.bool (decide (c < s.client))) ∧ Keeps W w' := by
  obtain ⟨ka, kc, rfl, _⟩ := hk.len
  clear hk
  have hlt := World.block_lt_of_cell? _ _ hb
  simp only [] at hlt
  go_enter Tryz.func116, Tryz.ntmps116
  go_wp2_with fail
  go_ret
  exact ⟨rfl, (Keeps.refl _).alloc _⟩
theorem other_c (b : Nat) (c : Int) (s : Ses) (kv : Value) (W : World) (hb : W.cell? ⟨b, 0, none⟩ = some (.int .i64 c)) (hk : KeptAt W kv s.kept) :
    Calls Tryz.prog 117 #[sesV s kv, .pointer (some ⟨b, 0, none⟩)] W fun e w' => e = .returned (.bool (s.client != c)) ∧ Keeps W w' := by
  obtain ⟨ka, kc, rfl, _⟩ := hk.len
  clear hk
  have hlt := World.block_lt_of_cell? _ _ hb
  simp only [] at hlt
  go_enter Tryz.func117, Tryz.ntmps117
  go_wp2_with fail
  go_ret
  exact ⟨rfl, (Keeps.refl _).alloc _⟩
theorem young_c (b : Nat) (c : Int) (s : Ses) (kv : Value) (W : World) (hb : W.cell? ⟨b, 0, none⟩ = some (.int .i64 c)) (h0 : 0 ≤ c) (h1 : c ≤ 999) (hk : KeptAt W kv s.kept) :
    Calls Tryz.prog 100 #[sesV s kv, .pointer (some ⟨b, 0, none⟩)] W fun e w' => e = .returned (.bool (decide (c - 20 ≤ s.seen))) ∧ Keeps W w' := by
  obtain ⟨ka, kc, rfl, _⟩ := hk.len
  clear hk
  have hlt := World.block_lt_of_cell? _ _ hb
  simp only [] at hlt
  go_enter Tryz.func100, Tryz.ntmps100
  go_wp2_with fail
  go_ret
  exact ⟨rfl, (Keeps.refl _).alloc _⟩

/-- Drop's answer. -/
def dropErr (L : List Ses) (c : Int) : Int := if tabErr L == 0 then (if (L.filter (fun s => s.client != c)).length == L.length then 5 else 0) else tabErr L
def dropTab (L : List Ses) (c : Int) : List Ses := if dropErr L c == 0 then L.filter (fun s => s.client != c) else []
/-- Fresh's answer. -/
def freshTab (L : List Ses) (c : Int) : List Ses := L.filter (fun s => decide (c - 20 ≤ s.seen))
def freshErr (L : List Ses) (c : Int) : Int := if tabErr L == 0 then (if inB c 0 999 then 0 else 3) else tabErr L
def frTab (L : List Ses) (c : Int) : List Ses := if freshErr L c == 0 then freshTab L c else []

theorem box_int (w : World) (c : Int) : (w.alloc (.cells #[.int .i64 c] 3)).cell? ⟨w.heap.size, 0, none⟩ = some (.int .i64 c) := by simp
theorem cell_keep {W W' : World} {a : Addr} {u : Value} (h : W.cell? a = some u) (hk : Keeps W W') : W'.cell? a = some u := (Below.cell hk (World.block_lt_of_cell? _ _ h)).trans h

set_option maxHeartbeats 1000000 in
theorem sess_drop (L : List Ses) (v : Value) (c : Int) (w : World) (hT : TabAt w v L) :
    Calls Tryz.prog 103 #[v, .int .i64 c] w fun e w' => ∃ v', OwnTab w.heap.size w' v' (dropTab L c) ∧ e = .returned (.tuple #[v', .int .i64 (dropErr L c)]) ∧ Keeps w w' := by
  obtain ⟨a, cap, rfl, hlen⟩ := hT.len
  unfold maxLen at hlen
  have hT0 := hT.keep ((Keeps.refl w).alloc (.cells #[.int .i64 c] 3))
  have HT : Hid (TabAt (w.alloc (.cells #[.int .i64 c] 3)) (.slice a L.length cap) L) := hT0
  clear hT hT0
  go_enter Tryz.func103, Tryz.ntmps103
  go_wp2_with fail
  refine (sess_check L _ _ HT.out).mono ?_
  rintro e w1 ⟨rfl, hb⟩
  have HB : Hid (Keeps (w.alloc (.cells #[.int .i64 c] 3)) w1) := hb
  have hk1 : Keeps w w1 := ((Keeps.refl _).alloc _).trans hb
  clear hb
  cases he : (tabErr L == 0) with
  | false =>
    have he' : (tabErr L != 0) = true := by simp [bne, he]
    have HE : Hid (dropErr L c = tabErr L ∧ dropTab L c = []) := by
      have h1 : dropErr L c = tabErr L := by simp [dropErr, he]
      exact ⟨h1, by simp [dropTab, h1, he]⟩
    go_wp2_with fail
    go_ret2
    exact ⟨.slice none 0 0, by rw [HE.out.2]; exact OwnTab.nil _ _, by rw [HE.out.1]; rfl, hk1⟩
  | true =>
    have he' : (tabErr L != 0) = false := by simp [bne, he]
    have he0 : tabErr L = 0 := by simpa using he
    have hR := tab_right he0
    go_wp2_with fail
    refine (those_c 117 (.pointer (some ⟨w.heap.size, 0, none⟩)) (fun s => s.client != c) L _ _ (HT.out.keep HB.out) hR.1 (fun s hs => kept_le (hR.2.1 s hs)) fn46 ?_).mono ?_
    · exact fun W s kv hW hk => other_c _ c s kv W (cell_keep (cell_keep (box_int w c) HB.out) hW) hk
    rintro e w2 ⟨v', ho, rfl, hb2⟩
    obtain ⟨va, vc, rfl, _⟩ := ho.tab.len
    have HO : Hid (OwnTab w1.heap.size w2 (.slice va (L.filter (fun s => s.client != c)).length vc) (L.filter (fun s => s.client != c))) := ho
    have hk2 : Keeps w w2 := hk1.trans hb2
    have hbs : w.heap.size ≤ w1.heap.size := hk1.size
    have hfl : (L.filter (fun s => s.client != c)).length ≤ L.length := List.length_filter_le _ _
    clear ho hb2 hR
    generalize hn : (L.filter (fun s => s.client != c)).length = n at *
    cases hq : (n == L.length) with
    | true =>
      have hq' : ((n : Int) == (L.length : Int)) = true := by simp at hq ⊢; omega
      have HE : Hid (dropErr L c = 5 ∧ dropTab L c = []) := by
        have h1 : dropErr L c = 5 := by simp [dropErr, he, hn, hq]
        exact ⟨h1, by simp [dropTab, h1]⟩
      clear hq hn
      go_wp2_with fail
      go_ret2
      exact ⟨.slice none 0 0, by rw [HE.out.2]; exact OwnTab.nil _ _, by rw [HE.out.1]; rfl, hk2⟩
    | false =>
      have hq' : ((n : Int) == (L.length : Int)) = false := by simp at hq ⊢; omega
      have HE : Hid (dropErr L c = 0 ∧ dropTab L c = L.filter (fun s => s.client != c)) := by
        have h1 : dropErr L c = 0 := by simp [dropErr, he, hn, hq]
        exact ⟨h1, by simp [dropTab, h1]⟩
      clear hq hn
      go_wp2_with fail
      go_ret2
      exact ⟨_, by rw [HE.out.2]; exact HO.out.base hbs, by rw [HE.out.1]; rfl, hk2⟩

set_option maxHeartbeats 1000000 in
theorem sess_fresh (L : List Ses) (v : Value) (c : Int) (w : World) (hT : TabAt w v L) :
    Calls Tryz.prog 89 #[v, .int .i64 c] w fun e w' => ∃ v', OwnTab w.heap.size w' v' (frTab L c) ∧ e = .returned (.tuple #[v', .int .i64 (freshErr L c)]) ∧ Keeps w w' := by
  obtain ⟨a, cap, rfl, hlen⟩ := hT.len
  unfold maxLen at hlen
  have hT0 := hT.keep ((Keeps.refl w).alloc (.cells #[.int .i64 c] 3))
  have HT : Hid (TabAt (w.alloc (.cells #[.int .i64 c] 3)) (.slice a L.length cap) L) := hT0
  clear hT hT0
  go_enter Tryz.func89, Tryz.ntmps89
  go_wp2_with fail
  refine (sess_check L _ _ HT.out).mono ?_
  rintro e w1 ⟨rfl, hb⟩
  have HB : Hid (Keeps (w.alloc (.cells #[.int .i64 c] 3)) w1) := hb
  have hk1 : Keeps w w1 := ((Keeps.refl _).alloc _).trans hb
  have hcc := cell_keep (box_int w c) hb
  clear hb
  cases he : (tabErr L == 0) with
  | false =>
    have he' : (tabErr L != 0) = true := by simp [bne, he]
    have HE : Hid (freshErr L c = tabErr L ∧ frTab L c = []) := by
      have h1 : freshErr L c = tabErr L := by simp [freshErr, he]
      exact ⟨h1, by simp [frTab, h1, he]⟩
    go_wp2_with fail
    go_ret2
    exact ⟨.slice none 0 0, by rw [HE.out.2]; exact OwnTab.nil _ _, by rw [HE.out.1]; rfl, hk1⟩
  | true =>
    have he' : (tabErr L != 0) = false := by simp [bne, he]
    have he0 : tabErr L = 0 := by simpa using he
    have hR := tab_right he0
    cases hi : inB c 0 999 with
    | false =>
      have HE : Hid (freshErr L c = 3 ∧ frTab L c = []) := by
        have h1 : freshErr L c = 3 := by simp [freshErr, he, hi]
        exact ⟨h1, by simp [frTab, h1]⟩
      clear hR
      go_wp2_with (first | (go_at_call 45; refine (bound_in _ _ _ _).mono ?_; rintro e w' ⟨rfl, rfl⟩))
      go_ret2
      exact ⟨.slice none 0 0, by rw [HE.out.2]; exact OwnTab.nil _ _, by rw [HE.out.1]; rfl, hk1⟩
    | true =>
      have HE : Hid (freshErr L c = 0 ∧ frTab L c = freshTab L c) := by
        have h1 : freshErr L c = 0 := by simp [freshErr, he, hi]
        exact ⟨h1, by simp [frTab, h1]⟩
      have hcb := inB_iff.1 hi
      go_wp2_with (first | (go_at_call 45; refine (bound_in _ _ _ _).mono ?_; rintro e w' ⟨rfl, rfl⟩))
      refine (those_c 100 (.pointer (some ⟨w.heap.size, 0, none⟩)) (fun s => decide (c - 20 ≤ s.seen)) L _ _ (HT.out.keep HB.out) hR.1 (fun s hs => kept_le (hR.2.1 s hs)) fn49 ?_).mono ?_
      · exact fun W s kv hW hk => young_c _ c s kv W (cell_keep (cell_keep (box_int w c) HB.out) hW) hcb.1 hcb.2 hk
      rintro e w2 ⟨v', ho, rfl, hb2⟩
      have HO : Hid (OwnTab w1.heap.size w2 v' (freshTab L c)) := ho
      have hk2 : Keeps w w2 := hk1.trans hb2
      have hbs : w.heap.size ≤ w1.heap.size := hk1.size
      clear ho hb2 hR
      go_wp2_with fail
      go_ret2
      exact ⟨_, by rw [HE.out.2]; exact HO.out.base hbs, by rw [HE.out.1]; rfl, hk2⟩
end Go.Proofs.YteabfjpajgakiagGreat

/- sess.Put. -/
set_option linter.unusedSimpArgs false
set_option linter.unusedVariables false
set_option maxRecDepth 10000
namespace Go.Proofs.YteabfjpajgakiagGreat
open Go.RowKit

def putList (L : List Ses) (s : Ses) : List Ses := L.filter (fun o => decide (o.client < s.client)) ++ [s] ++ L.filter (fun o => decide (s.client < o.client))
/-- Put's answer. -/
def putErr (L : List Ses) (s : Ses) : Int :=
  if tabErr L == 0 then (if sesErr s == 0 then (if 3 < (putList L s).length then 2 else 0) else sesErr s) else tabErr L
def putTab (L : List Ses) (s : Ses) : List Ses := if putErr L s == 0 then putList L s else []

theorem box_ses (w : World) (s : Ses) (k : Value) : (w.alloc (.cells #[.int .i64 s.client, .int .i64 s.acked, .int .i64 s.seen, k] 71)).cell? ⟨w.heap.size, 0, none⟩ = some (.int .i64 s.client) := by simp

set_option maxHeartbeats 1000000 in
theorem sess_put_err (L : List Ses) (v : Value) (s : Ses) (kv : Value) (w : World) (hT : TabAt w v L) (hK : KeptAt w kv s.kept) (hne : ((tabErr L == 0) && (sesErr s == 0)) = false) :
    Calls Tryz.prog 102 #[v, sesV s kv] w fun e w' => ∃ v', OwnTab w.heap.size w' v' (putTab L s) ∧ e = .returned (.tuple #[v', .int .i64 (putErr L s)]) ∧ Keeps w w' := by
  obtain ⟨a, cap, rfl, hlen⟩ := hT.len
  obtain ⟨ka, kc, rfl, _⟩ := hK.len
  unfold maxLen at hlen
  have HT : Hid (TabAt (w.alloc (.cells #[.int .i64 s.client, .int .i64 s.acked, .int .i64 s.seen, .slice ka s.kept.length kc] 71)) (.slice a L.length cap) L) := hT.keep ((Keeps.refl w).alloc _)
  have HK : Hid (KeptAt (w.alloc (.cells #[.int .i64 s.client, .int .i64 s.acked, .int .i64 s.seen, .slice ka s.kept.length kc] 71)) (.slice ka s.kept.length kc) s.kept) := hK.keep ((Keeps.refl w).alloc _)
  clear hT hK
  go_enter Tryz.func102, Tryz.ntmps102
  go_wp2_with fail
  refine (sess_check L _ _ HT.out).mono ?_
  rintro e w1 ⟨rfl, hb⟩
  have HB : Hid (Keeps (w.alloc (.cells #[.int .i64 s.client, .int .i64 s.acked, .int .i64 s.seen, .slice ka s.kept.length kc] 71)) w1) := hb
  have hk1 : Keeps w w1 := ((Keeps.refl _).alloc _).trans hb
  obtain ⟨hc, hf⟩ := hb.cells
  have hz := hb.size
  simp only [World.size_alloc] at hc hf hz
  have hz1 : w.heap.size < w1.heap.size := by omega
  clear hb
  cases he : (tabErr L == 0) with
  | false =>
    have he' : (tabErr L != 0) = true := by simp [bne, he]
    have HE : Hid (putErr L s = tabErr L ∧ putTab L s = []) := by
      have h1 : putErr L s = tabErr L := by simp [putErr, he]
      exact ⟨h1, by simp [putTab, h1, he]⟩
    go_wp2_with fail
    go_ret2
    exact ⟨.slice none 0 0, by rw [HE.out.2]; exact OwnTab.nil _ _, by rw [HE.out.1]; rfl, hk1⟩
  | true =>
    have he' : (tabErr L != 0) = false := by simp [bne, he]
    have hs : (sesErr s == 0) = false := by simpa [he] using hne
    have hs' : (sesErr s != 0) = true := by simp [bne, hs]
    have HE : Hid (putErr L s = sesErr s ∧ putTab L s = []) := by
      have h1 : putErr L s = sesErr s := by simp [putErr, he, hs]
      exact ⟨h1, by simp [putTab, h1, hs]⟩
    go_wp2_with fail
    refine (check_one s _ _ (HK.out.keep HB.out)).mono ?_
    rintro e w2 ⟨rfl, hb2⟩
    have hk2 : Keeps w w2 := hk1.trans hb2
    clear hb2
    go_wp2_with fail
    go_ret2
    exact ⟨.slice none 0 0, by rw [HE.out.2]; exact OwnTab.nil _ _, by rw [HE.out.1]; rfl, hk2⟩

set_option maxHeartbeats 2000000 in
theorem sess_put_ok (L : List Ses) (v : Value) (s : Ses) (kv : Value) (w : World) (hT : TabAt w v L) (hK : KeptAt w kv s.kept) (he : (tabErr L == 0) = true) (hs : (sesErr s == 0) = true) :
    Calls Tryz.prog 102 #[v, sesV s kv] w fun e w' => ∃ v', OwnTab w.heap.size w' v' (putTab L s) ∧ e = .returned (.tuple #[v', .int .i64 (putErr L s)]) ∧ Keeps w w' := by
  obtain ⟨a, cap, rfl, hlen⟩ := hT.len
  obtain ⟨ka, kc, rfl, _⟩ := hK.len
  unfold maxLen at hlen
  have HT : Hid (TabAt (w.alloc (.cells #[.int .i64 s.client, .int .i64 s.acked, .int .i64 s.seen, .slice ka s.kept.length kc] 71)) (.slice a L.length cap) L) := hT.keep ((Keeps.refl w).alloc _)
  have HK : Hid (KeptAt (w.alloc (.cells #[.int .i64 s.client, .int .i64 s.acked, .int .i64 s.seen, .slice ka s.kept.length kc] 71)) (.slice ka s.kept.length kc) s.kept) := hK.keep ((Keeps.refl w).alloc _)
  clear hT hK
  have he' : (tabErr L != 0) = false := by simp [bne, he]
  have hs' : (sesErr s != 0) = false := by simp [bne, hs]
  have HR : Hid (L.length ≤ 3 ∧ (∀ s ∈ L, sesErr s = 0) ∧ rising L = true) := tab_right (by simpa using he)
  have hn3 : s.kept.length ≤ 3 := kept_le (by simpa using hs)
  have HL : Hid (L.length ≤ 3) := HR.out.1
  go_enter Tryz.func102, Tryz.ntmps102
  go_wp2_with fail
  refine (sess_check L _ _ HT.out).mono ?_
  rintro e w1 ⟨rfl, hb⟩
  have HB : Hid (Keeps (w.alloc (.cells #[.int .i64 s.client, .int .i64 s.acked, .int .i64 s.seen, .slice ka s.kept.length kc] 71)) w1) := hb
  obtain ⟨hc, hf⟩ := hb.cells
  have hz := hb.size
  simp only [World.size_alloc] at hc hf hz
  clear hb hf
  go_wp2_with fail
  refine (check_one s _ _ (HK.out.keep HB.out)).mono ?_
  rintro e w2 ⟨rfl, hb2⟩
  have HB2 : Hid (Keeps (w.alloc (.cells #[.int .i64 s.client, .int .i64 s.acked, .int .i64 s.seen, .slice ka s.kept.length kc] 71)) w2) := HB.out.trans hb2
  clear hb2 hc hz HB
  go_wp2_with fail
  refine (those_c 115 (.pointer (some ⟨w.heap.size, 0, none⟩)) (fun o => decide (o.client < s.client)) L _ _ (HT.out.keep HB2.out) HR.out.1 (fun s hs => kept_le (HR.out.2.1 s hs)) fn44 ?_).mono ?_
  · exact fun W o kv hW hk => less_c _ _ o kv W (cell_keep (cell_keep (box_ses w s _) HB2.out) hW) hk
  rintro e w3 ⟨v3, ho3, rfl, hb3⟩
  have HB3 : Hid (Keeps (w.alloc (.cells #[.int .i64 s.client, .int .i64 s.acked, .int .i64 s.seen, .slice ka s.kept.length kc] 71)) w3) := HB2.out.trans hb3
  have HO3 : Hid (OwnTab (w.heap.size + 1) w3 v3 (L.filter (fun o => decide (o.client < s.client)))) := ho3.base (by have := HB2.out.size; simpa using this)
  clear ho3 hb3 HB2
  obtain ⟨hc, hf⟩ := HB3.out.cells
  simp only [World.size_alloc] at hc hf
  clear hf
  go_wp2_with fail
  refine (twin_c s _ _ (HK.out.keep HB3.out) hn3).mono ?_
  rintro e w4 ⟨kv', ho, rfl, hb4⟩
  obtain ⟨va, vc, rfl⟩ : ∃ va vc, kv' = .slice va s.kept.length vc := by obtain ⟨x, y, h, _⟩ := (RowAt.of_owns ho).len; exact ⟨x, y, h⟩
  have HB4 : Hid (Keeps (w.alloc (.cells #[.int .i64 s.client, .int .i64 s.acked, .int .i64 s.seen, .slice ka s.kept.length kc] 71)) w4) := HB3.out.trans hb4
  have hw3 : w.heap.size + 1 ≤ w3.heap.size := by have := HB3.out.size; simpa using this
  have hw4 : w.heap.size + 1 ≤ w4.heap.size := by have := HB4.out.size; simpa using this
  have hM : KeptsOwn (w.heap.size + 1) (w4.alloc (.cells #[.int .i64 s.client, .int .i64 s.acked, .int .i64 s.seen, .slice va s.kept.length vc] 71)) [s] [.slice va s.kept.length vc] := ⟨owns_keep (owns_base ho hw3) ((Keeps.refl _).alloc _), trivial⟩
  have hl1 : (L.filter (fun o => decide (o.client < s.client))).length ≤ 3 := Nat.le_trans (List.length_filter_le _ _) HL.out
  have hl2 : (L.filter (fun o => decide (s.client < o.client))).length ≤ 3 := Nat.le_trans (List.length_filter_le _ _) HL.out
  obtain ⟨v5, w5, hr, hO5, hg, hbk⟩ := run_append_tab (w4.alloc (.cells #[.int .i64 s.client, .int .i64 s.acked, .int .i64 s.seen, .slice va s.kept.length vc] 71)) (w.heap.size + 1) v3 _ ((HO3.out.keep hb4).keep ((Keeps.refl _).alloc _)) _ [s] _ hM (row_one w4 s _) (by simp; omega) (by simp; omega)
  have hkb : Keeps (w.alloc (.cells #[.int .i64 s.client, .int .i64 s.acked, .int .i64 s.seen, .slice ka s.kept.length kc] 71)) w4 := HB4.out
  have HB5 : Hid (Keeps (w.alloc (.cells #[.int .i64 s.client, .int .i64 s.acked, .int .i64 s.seen, .slice ka s.kept.length kc] 71)) w5) := keeps_grown (HB4.out.alloc _) hg (by simpa using hbk)
  have Hr := (show Hid (_ = _) from hr)
  have HO5 : Hid (OwnTab (w.heap.size + 1) w5 v5 (L.filter (fun o => decide (o.client < s.client)) ++ [s])) := hO5
  clear hr hM hO5 hg hbk ho hb4 hkb hc HB4 HO3 HB3
  go_wp2_with (at_builtin; refine wpList_append_run rfl _ _ _ rfl rfl rfl Hr.out ?_)
  refine (those_c 116 (.pointer (some ⟨w.heap.size, 0, none⟩)) (fun o => decide (s.client < o.client)) L _ _ (HT.out.keep HB5.out) HR.out.1 (fun s hs => kept_le (HR.out.2.1 s hs)) fn45 ?_).mono ?_
  · exact fun W o kv hW hk => more_than_c _ _ o kv W (cell_keep (cell_keep (box_ses w s _) HB5.out) hW) hk
  rintro e w6 ⟨v6, ho6, rfl, hb6⟩
  have hw5 : w.heap.size + 1 ≤ w5.heap.size := by have := HB5.out.size; simpa using this
  have HB6 : Hid (Keeps (w.alloc (.cells #[.int .i64 s.client, .int .i64 s.acked, .int .i64 s.seen, .slice ka s.kept.length kc] 71)) w6) := HB5.out.trans hb6
  have hw6 : w.heap.size + 1 ≤ w6.heap.size := by have := HB6.out.size; simpa using this
  obtain ⟨ms, hm1, hm2⟩ := ho6.base hw5
  obtain ⟨v7, w7, hr, hO7, hg, hbk⟩ := run_append_tab w6 (w.heap.size + 1) v5 _ (HO5.out.keep hb6) v6 _ ms hm1 (RowAt.of_owns hm2) (by simp; omega) hw6
  have hk7 : Keeps w w7 := ((Keeps.refl w).alloc _).trans (keeps_grown HB6.out hg (by simpa using hbk))
  have hO7' : OwnTab w.heap.size w7 v7 (putList L s) := hO7.base (by omega)
  obtain ⟨va7, vc7, hv7, _⟩ := hO7'.tab.len
  subst hv7
  have Hr2 := (show Hid (_ = _) from hr)
  have HO7 : Hid (OwnTab w.heap.size w7 (.slice va7 (putList L s).length vc7) (putList L s)) := hO7'
  have hpl : (putList L s).length ≤ 7 := by simp only [putList, List.length_append, List.length_cons, List.length_nil]; omega
  clear hr hm1 hm2 hg hbk ho6 hb6 hO7 hO7' HO5 HB5 HB6
  cases hq : decide (3 < (putList L s).length) with
  | true =>
    have hq1 : 3 < (putList L s).length := by simpa using hq
    have HE : Hid (putErr L s = 2 ∧ putTab L s = []) := by
      have h1 : putErr L s = 2 := by simp [putErr, he, hs, hq1]
      exact ⟨h1, by simp [putTab, h1]⟩
    generalize (putList L s).length = n at *
    go_wp2_with (at_builtin; refine wpList_append_run rfl _ _ _ rfl rfl rfl Hr2.out ?_)
    go_ret2
    exact ⟨.slice none 0 0, by rw [HE.out.2]; exact OwnTab.nil _ _, by rw [HE.out.1]; rfl, hk7⟩
  | false =>
    have hq1 : ¬ 3 < (putList L s).length := by simpa using hq
    have HE : Hid (putErr L s = 0 ∧ putTab L s = putList L s) := by
      have h1 : putErr L s = 0 := by simp [putErr, he, hs, hq1]
      exact ⟨h1, by simp [putTab, h1]⟩
    go_wp2_with (at_builtin; refine wpList_append_run rfl _ _ _ rfl rfl rfl Hr2.out ?_)
    go_ret2
    exact ⟨_, by rw [HE.out.2]; exact HO7.out, by rw [HE.out.1]; rfl, hk7⟩

/-- sess.Put. -/
theorem sess_put (L : List Ses) (v : Value) (s : Ses) (kv : Value) (w : World) (hT : TabAt w v L) (hK : KeptAt w kv s.kept) :
    Calls Tryz.prog 102 #[v, sesV s kv] w fun e w' => ∃ v', OwnTab w.heap.size w' v' (putTab L s) ∧ e = .returned (.tuple #[v', .int .i64 (putErr L s)]) ∧ Keeps w w' := by
  cases h : ((tabErr L == 0) && (sesErr s == 0)) with
  | false => exact sess_put_err L v s kv w hT hK h
  | true =>
    simp only [Bool.and_eq_true] at h
    exact sess_put_ok L v s kv w hT hK h.1 h.2
end Go.Proofs.YteabfjpajgakiagGreat

/- The reference's without, fresh, DropOf, FreshOf. -/
set_option linter.unusedSimpArgs false
set_option linter.unusedVariables false
set_option maxRecDepth 10000
namespace Go.Proofs.YteabfjpajgakiagGreat
open Go.RowKit

set_option maxHeartbeats 2000000 in
theorem without_c (L : List Ses) (v : Value) (c : Int) (w : World) (hT : TabAt w v L) (h3 : L.length ≤ 3) (hk3 : ∀ s ∈ L, s.kept.length ≤ 3) :
    Calls Tryz.prog 42 #[v, .int .i64 c] w fun e w' => ∃ v', OwnTab w.heap.size w' v' (L.filter (fun s : Ses => s.client != c)) ∧ e = .returned v' ∧ Keeps w w' := by
  obtain ⟨a, cap, rfl, hlen⟩ := hT.len
  unfold maxLen at hlen
  have HT : Hid (TabAt w (.slice a L.length cap) L) := hT
  have HK3 : Hid (∀ s ∈ L, s.kept.length ≤ 3) := hk3
  clear hT hk3
  generalize hpd : (((fun s : Ses => s.client != c)) : Ses → Bool) = p
  have HPD : Hid (∀ s : Ses, p s = (s.client != c)) := by subst hpd; exact fun s => rfl
  clear hpd
  go_enter Tryz.func42, Tryz.ntmps42
  go_wp2_with fail
  go_loopw [5, 6] (fun o i wr => ∃ (k : Nat), k ≤ L.length ∧ i = .int .i64 k ∧ Keeps w wr ∧ Hid (OwnTab w.heap.size wr o ((L.take k).filter p))) (fun _ i _ => L.length - (intOf i).toNat)
  case atStart => exact ⟨0, Nat.zero_le _, rfl, Keeps.refl _, OwnTab.nil _ _⟩
  case round =>
    obtain ⟨k, hk, rfl, hkw, HO⟩ := hrel
    by_cases hlt : k < L.length
    · obtain ⟨b, off, cap', hv, hcell⟩ := (HT.out.keep hkw).at hlt
      injection hv with hv1 hv2 hv3
      subst hv1
      clear hv2 hv3
      obtain ⟨c0, c1, c2, ka, kc, c3, hkv⟩ := hcell k hlt
      clear hcell
      have HKV : Hid (KeptAt wr (.slice ka (L[k]).kept.length kc) (L[k]).kept) := hkv
      clear hkv
      have HF : Hid ((L.take (k + 1)).filter p = (L.take k).filter p ++ (if p (L[k]) then [L[k]] else [])) := filter_take hlt
      have hn3 : (L[k]).kept.length ≤ 3 := HK3.out _ (List.getElem_mem hlt)
      have hfl : ((L.take k).filter p).length ≤ 3 := Nat.le_trans (List.length_filter_le _ _) (by simp; omega)
      generalize L[k] = s at *
      generalize hO : (L.take k).filter p = O at *
      have hps := HPD.out s
      cases hp : p s with
      | false =>
        rw [hp] at hps
        have hps' := hps.symm
        clear hps
        have HO1 : Hid (OwnTab w.heap.size wr u5 ((L.take (k + 1)).filter p)) := by show OwnTab _ _ _ _; rw [HF.out, hp]; simpa using HO.out
        go_wp2_with fail
        go_roundw
        case rel => exact ⟨k + 1, by omega, by go_num, hkw, HO1⟩
        case measure => simp [intOf]; omega
      | true =>
        rw [hp] at hps
        have hps' := hps.symm
        clear hps
        go_wp2_with fail
        refine (own_c s _ _ HKV.out hn3).mono ?_
        rintro e w2 ⟨kv', ho, rfl, hb2⟩
        obtain ⟨va, vc, rfl⟩ : ∃ va vc, kv' = .slice va s.kept.length vc := by obtain ⟨x, y, h, _⟩ := (RowAt.of_owns ho).len; exact ⟨x, y, h⟩
        have hM : KeptsOwn w.heap.size (w2.alloc (.cells #[.int .i64 s.client, .int .i64 s.acked, .int .i64 s.seen, .slice va s.kept.length vc] 71)) [s] [.slice va s.kept.length vc] := ⟨owns_keep (owns_base ho hkw.size) ((Keeps.refl _).alloc _), trivial⟩
        obtain ⟨v', w', hr, hO', hg, hbk⟩ := run_append_tab (w2.alloc (.cells #[.int .i64 s.client, .int .i64 s.acked, .int .i64 s.seen, .slice va s.kept.length vc] 71)) w.heap.size u5 O ((HO.out.keep hb2).keep ((Keeps.refl _).alloc _)) _ [s] _ hM (row_one w2 s _) (by simp; omega) (by simp; have := hkw.size; have := hb2.size; omega)
        have hk' : Keeps w w' := keeps_grown ((hkw.trans hb2).alloc _) hg hbk
        have Hr := (show Hid (_ = _) from hr)
        have HO1 : Hid (OwnTab w.heap.size w' v' ((L.take (k + 1)).filter p)) := by show OwnTab _ _ _ _; rw [HF.out, hp]; exact hO'
        clear hr hM hO' hg hbk ho hb2 HO HF HKV
        go_wp2_with (at_builtin; refine wpList_append_run rfl _ _ _ rfl rfl rfl Hr.out ?_)
        go_roundw
        case rel => exact ⟨k + 1, by omega, by go_num, hk', HO1⟩
        case measure => simp [intOf]; omega
    · have HO1 : Hid (OwnTab w.heap.size wr u5 (L.filter p)) := by
        have := HO.out
        rw [List.take_of_length_le (by omega)] at this
        exact this
      go_wp2_with fail
      go_ret
      exact ⟨u5, HO1.out, rfl, hkw⟩

set_option maxHeartbeats 2000000 in
theorem fresh_c (L : List Ses) (v : Value) (c : Int) (w : World) (hT : TabAt w v L) (h3 : L.length ≤ 3) (hk3 : ∀ s ∈ L, s.kept.length ≤ 3) (hc0 : 0 ≤ c) (hc1 : c ≤ 999) :
    Calls Tryz.prog 74 #[v, .int .i64 c] w fun e w' => ∃ v', OwnTab w.heap.size w' v' (L.filter (fun s : Ses => decide (c - 20 ≤ s.seen))) ∧ e = .returned v' ∧ Keeps w w' := by
  obtain ⟨a, cap, rfl, hlen⟩ := hT.len
  unfold maxLen at hlen
  have HT : Hid (TabAt w (.slice a L.length cap) L) := hT
  have HK3 : Hid (∀ s ∈ L, s.kept.length ≤ 3) := hk3
  clear hT hk3
  generalize hpd : (((fun s : Ses => decide (c - 20 ≤ s.seen))) : Ses → Bool) = p
  have HPD : Hid (∀ s : Ses, p s = decide (c - 20 ≤ s.seen)) := by subst hpd; exact fun s => rfl
  clear hpd
  go_enter Tryz.func74, Tryz.ntmps74
  go_wp2_with fail
  go_loopw [5, 6] (fun o i wr => ∃ (k : Nat), k ≤ L.length ∧ i = .int .i64 k ∧ Keeps w wr ∧ Hid (OwnTab w.heap.size wr o ((L.take k).filter p))) (fun _ i _ => L.length - (intOf i).toNat)
  case atStart => exact ⟨0, Nat.zero_le _, rfl, Keeps.refl _, OwnTab.nil _ _⟩
  case round =>
    obtain ⟨k, hk, rfl, hkw, HO⟩ := hrel
    by_cases hlt : k < L.length
    · obtain ⟨b, off, cap', hv, hcell⟩ := (HT.out.keep hkw).at hlt
      injection hv with hv1 hv2 hv3
      subst hv1
      clear hv2 hv3
      obtain ⟨c0, c1, c2, ka, kc, c3, hkv⟩ := hcell k hlt
      clear hcell
      have HKV : Hid (KeptAt wr (.slice ka (L[k]).kept.length kc) (L[k]).kept) := hkv
      clear hkv
      have HF : Hid ((L.take (k + 1)).filter p = (L.take k).filter p ++ (if p (L[k]) then [L[k]] else [])) := filter_take hlt
      have hn3 : (L[k]).kept.length ≤ 3 := HK3.out _ (List.getElem_mem hlt)
      have hfl : ((L.take k).filter p).length ≤ 3 := Nat.le_trans (List.length_filter_le _ _) (by simp; omega)
      generalize L[k] = s at *
      generalize hO : (L.take k).filter p = O at *
      have hps := HPD.out s
      cases hp : p s with
      | false =>
        rw [hp] at hps
        have hps' := hps.symm
        clear hps
        have HO1 : Hid (OwnTab w.heap.size wr u5 ((L.take (k + 1)).filter p)) := by show OwnTab _ _ _ _; rw [HF.out, hp]; simpa using HO.out
        go_wp2_with fail
        go_roundw
        case rel => exact ⟨k + 1, by omega, by go_num, hkw, HO1⟩
        case measure => simp [intOf]; omega
      | true =>
        rw [hp] at hps
        have hps' := hps.symm
        clear hps
        go_wp2_with fail
        refine (own_c s _ _ HKV.out hn3).mono ?_
        rintro e w2 ⟨kv', ho, rfl, hb2⟩
        obtain ⟨va, vc, rfl⟩ : ∃ va vc, kv' = .slice va s.kept.length vc := by obtain ⟨x, y, h, _⟩ := (RowAt.of_owns ho).len; exact ⟨x, y, h⟩
        have hM : KeptsOwn w.heap.size (w2.alloc (.cells #[.int .i64 s.client, .int .i64 s.acked, .int .i64 s.seen, .slice va s.kept.length vc] 71)) [s] [.slice va s.kept.length vc] := ⟨owns_keep (owns_base ho hkw.size) ((Keeps.refl _).alloc _), trivial⟩
        obtain ⟨v', w', hr, hO', hg, hbk⟩ := run_append_tab (w2.alloc (.cells #[.int .i64 s.client, .int .i64 s.acked, .int .i64 s.seen, .slice va s.kept.length vc] 71)) w.heap.size u5 O ((HO.out.keep hb2).keep ((Keeps.refl _).alloc _)) _ [s] _ hM (row_one w2 s _) (by simp; omega) (by simp; have := hkw.size; have := hb2.size; omega)
        have hk' : Keeps w w' := keeps_grown ((hkw.trans hb2).alloc _) hg hbk
        have Hr := (show Hid (_ = _) from hr)
        have HO1 : Hid (OwnTab w.heap.size w' v' ((L.take (k + 1)).filter p)) := by show OwnTab _ _ _ _; rw [HF.out, hp]; exact hO'
        clear hr hM hO' hg hbk ho hb2 HO HF HKV
        go_wp2_with (at_builtin; refine wpList_append_run rfl _ _ _ rfl rfl rfl Hr.out ?_)
        go_roundw
        case rel => exact ⟨k + 1, by omega, by go_num, hk', HO1⟩
        case measure => simp [intOf]; omega
    · have HO1 : Hid (OwnTab w.heap.size wr u5 (L.filter p)) := by
        have := HO.out
        rw [List.take_of_length_le (by omega)] at this
        exact this
      go_wp2_with fail
      go_ret
      exact ⟨u5, HO1.out, rfl, hkw⟩

theorem drop_none {L : List Ses} {c : Int} : findSes L c = none ↔ (L.filter (fun s => s.client != c)).length = L.length := by
  rw [List.length_filter_eq_length_iff]
  simp [findSes]
end Go.Proofs.YteabfjpajgakiagGreat

/- The reference's PutOf. -/
set_option linter.unusedSimpArgs false
set_option linter.unusedVariables false
set_option maxRecDepth 10000
namespace Go.Proofs.YteabfjpajgakiagGreat
open Go.RowKit

/-- As the reference puts. -/
def insAux (s : Ses) : Bool → List Ses → List Ses
  | d, [] => if d then [] else [s]
  | d, o :: r => (if !d && decide (s.client ≤ o.client) then [s] else []) ++ ((if o.client != s.client then [o] else []) ++ insAux s (d || decide (s.client ≤ o.client)) r)

/-- The cells of a table at a known address. -/
theorem TabAt.cells {w : World} {b off cap : Nat} {L : List Ses} (h : TabAt w (.slice (some ⟨b, off, none⟩) L.length cap) L) (i : Nat) (hi : i < L.length) (o : Ses) (ho : L[i] = o) :
    w.cell? ⟨b, off + i * 4, none⟩ = some (.int .i64 o.client) ∧ w.cell? ⟨b, off + i * 4 + 1, none⟩ = some (.int .i64 o.acked) ∧
        w.cell? ⟨b, off + i * 4 + 2, none⟩ = some (.int .i64 o.seen) ∧ ∃ ka kc, w.cell? ⟨b, off + i * 4 + 3, none⟩ = some (.slice ka o.kept.length kc) ∧ KeptAt w (.slice ka o.kept.length kc) o.kept := by
  obtain ⟨b', off', cap', hv, hcell⟩ := h.at hi
  injection hv with h1 _ _
  injection h1 with h1
  injection h1 with h1 h2 _
  subst h1 h2 ho
  exact hcell i hi

theorem insAux_at (s : Ses) (d : Bool) {L : List Ses} {k : Nat} (h : k < L.length) :
    insAux s d (L.drop k) = (if !d && decide (s.client ≤ (L[k]).client) then [s] else []) ++ ((if (L[k]).client != s.client then [L[k]] else []) ++ insAux s (d || decide (s.client ≤ (L[k]).client)) (L.drop (k + 1))) := by
  rw [List.drop_eq_getElem_cons h]; rfl

theorem rising_lt : ∀ {r : List Ses} {o : Ses}, rising (o :: r) = true → ∀ x ∈ r, o.client < x.client
  | [], _, _, x, hx => by cases hx
  | a :: r, o, h, x, hx => by
    simp only [rising, Bool.and_eq_true, decide_eq_true_eq] at h
    rcases List.mem_cons.1 hx with rfl | hx
    · exact h.1
    · exact Int.lt_trans h.1 (rising_lt h.2 x hx)
theorem rising_tail {r : List Ses} {o : Ses} (h : rising (o :: r) = true) : rising r = true := by
  cases r with
  | nil => rfl
  | cons a r => simp only [rising, Bool.and_eq_true] at h; exact h.2

theorem insAux_true (s : Ses) : ∀ (L : List Ses), insAux s true L = L.filter (fun o => o.client != s.client)
  | [] => rfl
  | o :: r => by
    simp only [insAux, Bool.not_true, Bool.false_and, Bool.true_or, insAux_true s r, List.filter_cons]
    cases (o.client != s.client) <;> simp

theorem insAux_put (s : Ses) : ∀ (L : List Ses), rising L = true → insAux s false L = putList L s
  | [], _ => rfl
  | o :: r, h => by
    have ih := insAux_put s r (rising_tail h)
    have hlt := rising_lt h
    by_cases hle : s.client ≤ o.client
    · have e1 : (o :: r).filter (fun x => decide (x.client < s.client)) = [] := by
        rw [List.filter_eq_nil_iff]
        intro x hx
        rcases List.mem_cons.1 hx with rfl | hx
        · simp; omega
        · have := hlt x hx; simp; omega
      have e2 : r.filter (fun x => x.client != s.client) = r.filter (fun x => decide (s.client < x.client)) := by
        apply List.filter_congr
        intro x hx
        have := hlt x hx
        rw [Bool.eq_iff_iff]; simp; omega
      have e3 : (o.client != s.client) = decide (s.client < o.client) := by rw [Bool.eq_iff_iff]; simp; omega
      unfold putList
      rw [e1]
      simp only [insAux, hle, decide_true, Bool.not_false, Bool.and_self, if_true, Bool.or_true, insAux_true, e2, e3, List.filter_cons]
      cases decide (s.client < o.client) <;> simp
    · have h1 : decide (s.client ≤ o.client) = false := by simp; omega
      have h2 : (o.client != s.client) = true := by simp; omega
      have h3 : decide (o.client < s.client) = true := by simp; omega
      have h4 : decide (s.client < o.client) = false := by simp; omega
      simp only [insAux, h1, h2, Bool.not_false, Bool.and_false, Bool.or_self, if_true, Bool.false_eq_true, if_false, List.nil_append, ih]
      simp [putList, List.filter_cons, h3, h4]

set_option maxHeartbeats 1000000 in
theorem put_of_err (L : List Ses) (v : Value) (s : Ses) (kv : Value) (w : World) (hT : TabAt w v L) (hK : KeptAt w kv s.kept) (hne : ((tabErr L == 0) && (sesErr s == 0)) = false) :
    Calls Tryz.prog 76 #[v, sesV s kv] w fun e w' => ∃ v', OwnTab w.heap.size w' v' (putTab L s) ∧ e = .returned (.tuple #[v', .int .i64 (putErr L s)]) ∧ Keeps w w' := by
  obtain ⟨a, cap, rfl, hlen⟩ := hT.len
  obtain ⟨ka, kc, rfl, _⟩ := hK.len
  unfold maxLen at hlen
  have HT : Hid (TabAt (w.alloc (.cells #[.int .i64 s.client, .int .i64 s.acked, .int .i64 s.seen, .slice ka s.kept.length kc] 71)) (.slice a L.length cap) L) := hT.keep ((Keeps.refl w).alloc _)
  have HK : Hid (KeptAt (w.alloc (.cells #[.int .i64 s.client, .int .i64 s.acked, .int .i64 s.seen, .slice ka s.kept.length kc] 71)) (.slice ka s.kept.length kc) s.kept) := hK.keep ((Keeps.refl w).alloc _)
  clear hT hK
  go_enter Tryz.func76, Tryz.ntmps76
  go_wp2_with fail
  refine (table_error L _ _ HT.out).mono ?_
  rintro e w1 ⟨rfl, hb⟩
  have HB : Hid (Keeps (w.alloc (.cells #[.int .i64 s.client, .int .i64 s.acked, .int .i64 s.seen, .slice ka s.kept.length kc] 71)) w1) := hb
  have hk1 : Keeps w w1 := ((Keeps.refl _).alloc _).trans hb
  obtain ⟨hc, hf⟩ := hb.cells
  have hz := hb.size
  simp only [World.size_alloc] at hc hf hz
  have hz1 : w.heap.size < w1.heap.size := by omega
  clear hb
  cases he : (tabErr L == 0) with
  | false =>
    have he' : (tabErr L != 0) = true := by simp [bne, he]
    have HE : Hid (putErr L s = tabErr L ∧ putTab L s = []) := by
      have h1 : putErr L s = tabErr L := by simp [putErr, he]
      exact ⟨h1, by simp [putTab, h1, he]⟩
    go_wp2_with fail
    go_ret2
    exact ⟨.slice none 0 0, by rw [HE.out.2]; exact OwnTab.nil _ _, by rw [HE.out.1]; rfl, hk1⟩
  | true =>
    have he' : (tabErr L != 0) = false := by simp [bne, he]
    have hs : (sesErr s == 0) = false := by simpa [he] using hne
    have hs' : (sesErr s != 0) = true := by simp [bne, hs]
    have HE : Hid (putErr L s = sesErr s ∧ putTab L s = []) := by
      have h1 : putErr L s = sesErr s := by simp [putErr, he, hs]
      exact ⟨h1, by simp [putTab, h1, hs]⟩
    go_wp2_with fail
    refine (one_error s _ _ (HK.out.keep HB.out)).mono ?_
    rintro e w2 ⟨rfl, hb2⟩
    have hk2 : Keeps w w2 := hk1.trans hb2
    clear hb2
    go_wp2_with fail
    go_ret2
    exact ⟨.slice none 0 0, by rw [HE.out.2]; exact OwnTab.nil _ _, by rw [HE.out.1]; rfl, hk2⟩


set_option maxHeartbeats 4000000 in
theorem put_of_ok (L : List Ses) (v : Value) (s : Ses) (kv : Value) (w : World) (hT : TabAt w v L) (hK : KeptAt w kv s.kept) (he : (tabErr L == 0) = true) (hs : (sesErr s == 0) = true) :
    Calls Tryz.prog 76 #[v, sesV s kv] w fun e w' => ∃ v', OwnTab w.heap.size w' v' (putTab L s) ∧ e = .returned (.tuple #[v', .int .i64 (putErr L s)]) ∧ Keeps w w' := by
  obtain ⟨a, cap, rfl, hlen⟩ := hT.len
  obtain ⟨ka, kc, rfl, _⟩ := hK.len
  unfold maxLen at hlen
  have HT : Hid (TabAt (w.alloc (.cells #[.int .i64 s.client, .int .i64 s.acked, .int .i64 s.seen, .slice ka s.kept.length kc] 71)) (.slice a L.length cap) L) := hT.keep ((Keeps.refl w).alloc _)
  have HK : Hid (KeptAt (w.alloc (.cells #[.int .i64 s.client, .int .i64 s.acked, .int .i64 s.seen, .slice ka s.kept.length kc] 71)) (.slice ka s.kept.length kc) s.kept) := hK.keep ((Keeps.refl w).alloc _)
  clear hT hK
  have he' : (tabErr L != 0) = false := by simp [bne, he]
  have hs' : (sesErr s != 0) = false := by simp [bne, hs]
  have HR : Hid (L.length ≤ 3 ∧ (∀ s ∈ L, sesErr s = 0) ∧ rising L = true) := tab_right (by simpa using he)
  have HP : Hid (insAux s false L = putList L s) := insAux_put s L HR.out.2.2
  have hn3 : s.kept.length ≤ 3 := kept_le (by simpa using hs)
  have hL3 : L.length ≤ 3 := HR.out.1
  go_enter Tryz.func76, Tryz.ntmps76
  go_wp2_with fail
  refine (table_error L _ _ HT.out).mono ?_
  rintro e w1 ⟨rfl, hb⟩
  have HB : Hid (Keeps (w.alloc (.cells #[.int .i64 s.client, .int .i64 s.acked, .int .i64 s.seen, .slice ka s.kept.length kc] 71)) w1) := hb
  have g0 : (w1).cell? ⟨w.heap.size, 0, none⟩ = some (.int .i64 s.client) := cell_keep (box_ses w s _) hb
  have g1 : (w1).cell? ⟨w.heap.size, 1, none⟩ = some (.int .i64 s.acked) := cell_keep (by simp) hb
  have g2 : (w1).cell? ⟨w.heap.size, 2, none⟩ = some (.int .i64 s.seen) := cell_keep (by simp) hb
  have g3 : (w1).cell? ⟨w.heap.size, 3, none⟩ = some (.slice ka s.kept.length kc) := cell_keep (by simp) hb
  clear hb
  go_wp2_with fail
  clear g0 g1 g2 g3
  refine (one_error s _ _ (HK.out.keep HB.out)).mono ?_
  rintro e w2 ⟨rfl, hb2⟩
  have HB2 : Hid (Keeps (w.alloc (.cells #[.int .i64 s.client, .int .i64 s.acked, .int .i64 s.seen, .slice ka s.kept.length kc] 71)) w2) := HB.out.trans hb2
  clear hb2 HB
  go_wp2_with fail
  go_loopw [8, 9, 10] (fun o dn i wr => ∃ (k : Nat) (d : Bool) (O : List Ses), k ≤ L.length ∧ i = .int .i64 k ∧ dn = .bool d ∧ O.length ≤ 2 * k ∧ Hid (Keeps (w.alloc (.cells #[.int .i64 s.client, .int .i64 s.acked, .int .i64 s.seen, .slice ka s.kept.length kc] 71)) wr) ∧ Hid (OwnTab (w.heap.size + 1) wr o O) ∧ Hid (insAux s false L = O ++ insAux s d (L.drop k))) (fun _ _ i _ => L.length - (intOf i).toNat)
  case atStart => exact ⟨0, false, [], Nat.zero_le _, rfl, rfl, Nat.zero_le _, HB2, OwnTab.nil _ _, rfl⟩
  case round =>
    obtain ⟨k, d, O, hk, rfl, rfl, hOl, HBr, HO, HQ⟩ := hrel
    clear HB2
    have g0 : (wr).cell? ⟨w.heap.size, 0, none⟩ = some (.int .i64 s.client) := cell_keep (box_ses w s _) HBr.out
    have g1 : (wr).cell? ⟨w.heap.size, 1, none⟩ = some (.int .i64 s.acked) := cell_keep (by simp) HBr.out
    have g2 : (wr).cell? ⟨w.heap.size, 2, none⟩ = some (.int .i64 s.seen) := cell_keep (by simp) HBr.out
    have g3 : (wr).cell? ⟨w.heap.size, 3, none⟩ = some (.slice ka s.kept.length kc) := cell_keep (by simp) HBr.out
    by_cases hlt : k < L.length
    · obtain ⟨b, off, cap', hv, hcell⟩ := (HT.out.keep HBr.out).at hlt
      injection hv with hv1 hv2 hv3
      subst hv1
      clear hv2 hv3 hcell
      have ho3 : (L[k]).kept.length ≤ 3 := kept_le (HR.out.2.1 _ (List.getElem_mem hlt))
      have HS : Hid (insAux s false L = O ++ ((if !d && decide (s.client ≤ (L[k]).client) then [s] else []) ++ ((if (L[k]).client != s.client then [L[k]] else []) ++ insAux s (d || decide (s.client ≤ (L[k]).client)) (L.drop (k + 1))))) := by show _ = _; rw [HQ.out, insAux_at s d hlt]
      generalize hoe : L[k] = o at *
      have HOE : Hid (L[k] = o) := hoe
      clear hoe HQ
      obtain ⟨c0, c1, c2, oa, oc, c3, hkv⟩ := TabAt.cells (HT.out.keep HBr.out) k hlt o HOE.out
      have HKV : Hid (KeptAt wr (.slice oa o.kept.length oc) o.kept) := hkv
      clear hkv
      have hxb : w.heap.size < wr.heap.size := World.block_lt_of_cell? _ _ g0
      have hcb : b < wr.heap.size := World.block_lt_of_cell? _ _ c0
      cases hd : d with
      | true =>
        subst hd
        cases hn : (o.client != s.client) with
        | true =>
          have HN : Hid (insAux s false L = (O ++ [o]) ++ insAux s true (L.drop (k + 1))) := by show _ = _; rw [HS.out, hn]; simp
          clear HS
          go_wp2_with fail
          go_quiet (fail)
          go_wp2_with fail
          go_quiet (fail)
          go_wp2_with fail
          refine (own_c o _ _ (HKV.out.keep ((Keeps.refl _).drewN _)) ho3).mono ?_
          rintro e y3 ⟨kv3, ho, rfl, hb⟩
          obtain ⟨va3, vc3, rfl⟩ : ∃ va vc, kv3 = .slice va o.kept.length vc := by obtain ⟨x, y, h, _⟩ := (RowAt.of_owns ho).len; exact ⟨x, y, h⟩
          have HY3 : Hid (Keeps (w.alloc (.cells #[.int .i64 s.client, .int .i64 s.acked, .int .i64 s.seen, .slice ka s.kept.length kc] 71)) y3) := (HBr.out.drewN _).trans hb
          have hm2 : w.heap.size + 1 ≤ y3.heap.size := by have := HY3.out.size; simpa using this
          have ho' := owns_base (base' := w.heap.size + 1) ho (by have := HBr.out.size; simp at this ⊢; omega)
          have hM : KeptsOwn (w.heap.size + 1) (y3.alloc (.cells #[.int .i64 o.client, .int .i64 o.acked, .int .i64 o.seen, .slice va3 o.kept.length vc3] 71)) [o] [.slice va3 o.kept.length vc3] := ⟨owns_keep ho' ((Keeps.refl _).alloc _), trivial⟩
          obtain ⟨v3, w3, hr, hO', hg, hbk⟩ := run_append_tab (y3.alloc (.cells #[.int .i64 o.client, .int .i64 o.acked, .int .i64 o.seen, .slice va3 o.kept.length vc3] 71)) (w.heap.size + 1) _ (O) (((HO.out.keep ((Keeps.refl _).drewN _)).keep hb).keep ((Keeps.refl _).alloc _)) _ [o] _ hM (row_one y3 o _) (by simp; omega) (by simp; omega)
          obtain ⟨xa3, n3, xc3, hxv, hxn⟩ : ∃ xa n xc, v3 = .slice xa n xc ∧ n = (O ++ [o]).length := by obtain ⟨p, q, h, _⟩ := hO'.tab.len; exact ⟨p, _, q, h, rfl⟩
          subst hxv
          have HX3 : Hid (n3 = (O ++ [o]).length) := hxn
          have hx3 : n3 ≤ 9 := by rw [hxn]; simp; omega
          clear hxn
          have HB3 : Hid (Keeps (w.alloc (.cells #[.int .i64 s.client, .int .i64 s.acked, .int .i64 s.seen, .slice ka s.kept.length kc] 71)) w3) := keeps_grown (HY3.out.alloc _) hg (by simpa using hbk)
          have Hr3 := (show Hid (_ = _) from hr)
          have HO3 : Hid (OwnTab (w.heap.size + 1) w3 _ (O ++ [o])) := hO'
          clear hr hM hO' hg hbk ho ho' hb hm2 HY3
          go_wp2_with (at_builtin; refine wpList_append_run rfl _ _ _ rfl rfl rfl Hr3.out ?_)
          go_roundw
          case rel => exact ⟨k + 1, true, O ++ [o], by omega, by go_num, rfl, by first | omega | (simp; omega), HB3, HO3, HN⟩
          case measure => simp [intOf]; omega
        | false =>
          have HN : Hid (insAux s false L = O ++ insAux s true (L.drop (k + 1))) := by show _ = _; rw [HS.out, hn]; simp
          clear HS
          go_wp2_with fail
          go_quiet (fail)
          go_wp2_with fail
          go_quiet (fail)
          go_wp2_with fail
          go_roundw
          case rel => exact ⟨k + 1, true, O, by omega, by go_num, rfl, by first | omega | (simp; omega), HBr.out.drewN _, HO.out.keep ((Keeps.refl _).drewN _), HN⟩
          case measure => simp [intOf]; omega
      | false =>
        subst hd
        cases hle : decide (s.client ≤ o.client) with
        | false =>
          have hn : (o.client != s.client) = true := by simp at hle ⊢; omega
          have HN : Hid (insAux s false L = (O ++ [o]) ++ insAux s false (L.drop (k + 1))) := by show _ = _; rw [HS.out, hn, hle]; simp
          clear HS
          go_wp2_with fail
          go_quiet (fail)
          go_wp2_with fail
          go_quiet (fail)
          go_wp2_with fail
          refine (own_c o _ _ (HKV.out.keep ((Keeps.refl _).drewN _)) ho3).mono ?_
          rintro e y3 ⟨kv3, ho, rfl, hb⟩
          obtain ⟨va3, vc3, rfl⟩ : ∃ va vc, kv3 = .slice va o.kept.length vc := by obtain ⟨x, y, h, _⟩ := (RowAt.of_owns ho).len; exact ⟨x, y, h⟩
          have HY3 : Hid (Keeps (w.alloc (.cells #[.int .i64 s.client, .int .i64 s.acked, .int .i64 s.seen, .slice ka s.kept.length kc] 71)) y3) := (HBr.out.drewN _).trans hb
          have hm2 : w.heap.size + 1 ≤ y3.heap.size := by have := HY3.out.size; simpa using this
          have ho' := owns_base (base' := w.heap.size + 1) ho (by have := HBr.out.size; simp at this ⊢; omega)
          have hM : KeptsOwn (w.heap.size + 1) (y3.alloc (.cells #[.int .i64 o.client, .int .i64 o.acked, .int .i64 o.seen, .slice va3 o.kept.length vc3] 71)) [o] [.slice va3 o.kept.length vc3] := ⟨owns_keep ho' ((Keeps.refl _).alloc _), trivial⟩
          obtain ⟨v3, w3, hr, hO', hg, hbk⟩ := run_append_tab (y3.alloc (.cells #[.int .i64 o.client, .int .i64 o.acked, .int .i64 o.seen, .slice va3 o.kept.length vc3] 71)) (w.heap.size + 1) _ (O) (((HO.out.keep ((Keeps.refl _).drewN _)).keep hb).keep ((Keeps.refl _).alloc _)) _ [o] _ hM (row_one y3 o _) (by simp; omega) (by simp; omega)
          obtain ⟨xa3, n3, xc3, hxv, hxn⟩ : ∃ xa n xc, v3 = .slice xa n xc ∧ n = (O ++ [o]).length := by obtain ⟨p, q, h, _⟩ := hO'.tab.len; exact ⟨p, _, q, h, rfl⟩
          subst hxv
          have HX3 : Hid (n3 = (O ++ [o]).length) := hxn
          have hx3 : n3 ≤ 9 := by rw [hxn]; simp; omega
          clear hxn
          have HB3 : Hid (Keeps (w.alloc (.cells #[.int .i64 s.client, .int .i64 s.acked, .int .i64 s.seen, .slice ka s.kept.length kc] 71)) w3) := keeps_grown (HY3.out.alloc _) hg (by simpa using hbk)
          have Hr3 := (show Hid (_ = _) from hr)
          have HO3 : Hid (OwnTab (w.heap.size + 1) w3 _ (O ++ [o])) := hO'
          clear hr hM hO' hg hbk ho ho' hb hm2 HY3
          go_wp2_with (at_builtin; refine wpList_append_run rfl _ _ _ rfl rfl rfl Hr3.out ?_)
          go_roundw
          case rel => exact ⟨k + 1, false, O ++ [o], by omega, by go_num, rfl, by first | omega | (simp; omega), HB3, HO3, HN⟩
          case measure => simp [intOf]; omega
        | true =>
          go_wp2_with fail
          go_quiet (fail)
          go_wp2_with fail
          refine (own_c s _ _ ((HK.out.keep HBr.out).keep ((Keeps.refl _).drewN _)) hn3).mono ?_
          rintro e y3 ⟨kv3, ho, rfl, hb⟩
          obtain ⟨va3, vc3, rfl⟩ : ∃ va vc, kv3 = .slice va s.kept.length vc := by obtain ⟨x, y, h, _⟩ := (RowAt.of_owns ho).len; exact ⟨x, y, h⟩
          have HY3 : Hid (Keeps (w.alloc (.cells #[.int .i64 s.client, .int .i64 s.acked, .int .i64 s.seen, .slice ka s.kept.length kc] 71)) y3) := (HBr.out.drewN _).trans hb
          have hm2 : w.heap.size + 1 ≤ y3.heap.size := by have := HY3.out.size; simpa using this
          have ho' := owns_base (base' := w.heap.size + 1) ho (by have := HBr.out.size; simp at this ⊢; omega)
          have hM : KeptsOwn (w.heap.size + 1) (y3.alloc (.cells #[.int .i64 s.client, .int .i64 s.acked, .int .i64 s.seen, .slice va3 s.kept.length vc3] 71)) [s] [.slice va3 s.kept.length vc3] := ⟨owns_keep ho' ((Keeps.refl _).alloc _), trivial⟩
          obtain ⟨v3, w3, hr, hO', hg, hbk⟩ := run_append_tab (y3.alloc (.cells #[.int .i64 s.client, .int .i64 s.acked, .int .i64 s.seen, .slice va3 s.kept.length vc3] 71)) (w.heap.size + 1) _ (O) (((HO.out.keep ((Keeps.refl _).drewN _)).keep hb).keep ((Keeps.refl _).alloc _)) _ [s] _ hM (row_one y3 s _) (by simp; omega) (by simp; omega)
          obtain ⟨xa3, n3, xc3, hxv, hxn⟩ : ∃ xa n xc, v3 = .slice xa n xc ∧ n = (O ++ [s]).length := by obtain ⟨p, q, h, _⟩ := hO'.tab.len; exact ⟨p, _, q, h, rfl⟩
          subst hxv
          have HX3 : Hid (n3 = (O ++ [s]).length) := hxn
          have hx3 : n3 ≤ 9 := by rw [hxn]; simp; omega
          clear hxn
          have HB3 : Hid (Keeps (w.alloc (.cells #[.int .i64 s.client, .int .i64 s.acked, .int .i64 s.seen, .slice ka s.kept.length kc] 71)) w3) := keeps_grown (HY3.out.alloc _) hg (by simpa using hbk)
          have Hr3 := (show Hid (_ = _) from hr)
          have HO3 : Hid (OwnTab (w.heap.size + 1) w3 _ (O ++ [s])) := hO'
          clear hr hM hO' hg hbk ho ho' hb hm2 HY3
          go_wp2_with (at_builtin; refine wpList_append_run rfl _ _ _ rfl rfl rfl Hr3.out ?_)
          clear g0 g1 g2 g3 c0 c1 c2 c3 HKV hxb hcb oa oc
          have g0 : (w3).cell? ⟨w.heap.size, 0, none⟩ = some (.int .i64 s.client) := cell_keep (box_ses w s _) HB3.out
          have g1 : (w3).cell? ⟨w.heap.size, 1, none⟩ = some (.int .i64 s.acked) := cell_keep (by simp) HB3.out
          have g2 : (w3).cell? ⟨w.heap.size, 2, none⟩ = some (.int .i64 s.seen) := cell_keep (by simp) HB3.out
          have g3 : (w3).cell? ⟨w.heap.size, 3, none⟩ = some (.slice ka s.kept.length kc) := cell_keep (by simp) HB3.out
          obtain ⟨c0, c1, c2, oa, oc, c3, hkv⟩ := TabAt.cells (HT.out.keep HB3.out) k hlt o HOE.out
          have HKV : Hid (KeptAt w3 (.slice oa o.kept.length oc) o.kept) := hkv
          clear hkv
          have hxb : w.heap.size < w3.heap.size := World.block_lt_of_cell? _ _ g0
          have hcb : b < w3.heap.size := World.block_lt_of_cell? _ _ c0
          cases hn : (o.client != s.client) with
          | true =>
            have HN : Hid (insAux s false L = (O ++ [s] ++ [o]) ++ insAux s true (L.drop (k + 1))) := by show _ = _; rw [HS.out, hn, hle]; simp
            clear HS
            go_quiet (fail)
            go_wp2_with fail
            refine (own_c o _ _ (HKV.out.keep ((Keeps.refl _).drewN _)) ho3).mono ?_
            rintro e y4 ⟨kv4, ho, rfl, hb⟩
            obtain ⟨va4, vc4, rfl⟩ : ∃ va vc, kv4 = .slice va o.kept.length vc := by obtain ⟨x, y, h, _⟩ := (RowAt.of_owns ho).len; exact ⟨x, y, h⟩
            have HY4 : Hid (Keeps (w.alloc (.cells #[.int .i64 s.client, .int .i64 s.acked, .int .i64 s.seen, .slice ka s.kept.length kc] 71)) y4) := (HB3.out.drewN _).trans hb
            have hm2 : w.heap.size + 1 ≤ y4.heap.size := by have := HY4.out.size; simpa using this
            have ho' := owns_base (base' := w.heap.size + 1) ho (by have := HB3.out.size; simp at this ⊢; omega)
            have hM : KeptsOwn (w.heap.size + 1) (y4.alloc (.cells #[.int .i64 o.client, .int .i64 o.acked, .int .i64 o.seen, .slice va4 o.kept.length vc4] 71)) [o] [.slice va4 o.kept.length vc4] := ⟨owns_keep ho' ((Keeps.refl _).alloc _), trivial⟩
            obtain ⟨v4, w4, hr, hO', hg, hbk⟩ := run_append_tab (y4.alloc (.cells #[.int .i64 o.client, .int .i64 o.acked, .int .i64 o.seen, .slice va4 o.kept.length vc4] 71)) (w.heap.size + 1) _ (O ++ [s]) (((HO3.out.keep ((Keeps.refl _).drewN _)).keep hb).keep ((Keeps.refl _).alloc _)) _ [o] _ hM (row_one y4 o _) (by simp; omega) (by simp; omega)
            obtain ⟨xa4, n4, xc4, hxv, hxn⟩ : ∃ xa n xc, v4 = .slice xa n xc ∧ n = (O ++ [s] ++ [o]).length := by obtain ⟨p, q, h, _⟩ := hO'.tab.len; exact ⟨p, _, q, h, rfl⟩
            subst hxv
            have HX4 : Hid (n4 = (O ++ [s] ++ [o]).length) := hxn
            have hx4 : n4 ≤ 9 := by rw [hxn]; simp; omega
            clear hxn
            have HB4 : Hid (Keeps (w.alloc (.cells #[.int .i64 s.client, .int .i64 s.acked, .int .i64 s.seen, .slice ka s.kept.length kc] 71)) w4) := keeps_grown (HY4.out.alloc _) hg (by simpa using hbk)
            have Hr4 := (show Hid (_ = _) from hr)
            have HO4 : Hid (OwnTab (w.heap.size + 1) w4 _ (O ++ [s] ++ [o])) := hO'
            clear hr hM hO' hg hbk ho ho' hb hm2 HY4
            go_wp2_with (at_builtin; refine wpList_append_run rfl _ _ _ rfl rfl rfl Hr4.out ?_)
            go_roundw
            case rel => exact ⟨k + 1, true, O ++ [s] ++ [o], by omega, by go_num, rfl, by first | omega | (simp; omega), HB4, HO4, HN⟩
            case measure => simp [intOf]; omega
          | false =>
            have HN : Hid (insAux s false L = (O ++ [s]) ++ insAux s true (L.drop (k + 1))) := by show _ = _; rw [HS.out, hn, hle]; simp
            clear HS
            go_quiet (fail)
            go_wp2_with fail
            go_roundw
            case rel => exact ⟨k + 1, true, O ++ [s], by omega, by go_num, rfl, by first | omega | (simp; omega), HB3.out.drewN _, HO3.out.keep ((Keeps.refl _).drewN _), HN⟩
            case measure => simp [intOf]; omega
    · cases hd : d with
      | true =>
        subst hd
        have HFIN : Hid (insAux s false L = O) := by show _ = _; rw [HQ.out, List.drop_of_length_le (by omega)]; simp [insAux]
        clear HQ
        obtain ⟨fa, nF, fc, hfv, hfn⟩ : ∃ fa n fc, u8 = .slice fa n fc ∧ n = (O).length := by obtain ⟨p, q, h, _⟩ := HO.out.tab.len; exact ⟨p, _, q, h, rfl⟩
        subst hfv
        have HNF : Hid (nF = (O).length) := hfn
        have hfl : nF ≤ 9 := by omega
        clear hfn
        have HOF : Hid (OwnTab w.heap.size _ _ (O)) := HO.out.base (by omega)
        have hkF := ((Keeps.refl w).alloc _).trans HBr.out
        have HPL : Hid (putList L s = O) := HP.out.symm.trans HFIN.out
        cases hq : decide (3 < nF) with
        | true =>
          have hq1 : 3 < nF := by simpa using hq
          have HE : Hid (putErr L s = 2 ∧ putTab L s = []) := by
            have h1 : putErr L s = 2 := by
              have h2 : 3 < (putList L s).length := by rw [HPL.out, ← HNF.out]; exact hq1
              simp only [putErr, he, hs, if_true, h2]
            exact ⟨h1, by simp [putTab, h1]⟩
          go_wp2_with fail
          go_ret2
          exact ⟨.slice none 0 0, by rw [HE.out.2]; exact OwnTab.nil _ _, by rw [HE.out.1]; rfl, hkF⟩
        | false =>
          have hq1 : ¬ 3 < nF := by simpa using hq
          have HE : Hid (putErr L s = 0 ∧ putTab L s = O) := by
            have h1 : putErr L s = 0 := by
              have h2 : ¬ 3 < (putList L s).length := by rw [HPL.out, ← HNF.out]; exact hq1
              simp only [putErr, he, hs, if_true, h2, if_false]
            exact ⟨h1, by simp [putTab, h1, HPL.out]⟩
          go_wp2_with fail
          go_ret2
          exact ⟨_, by rw [HE.out.2]; exact HOF.out, by rw [HE.out.1]; rfl, hkF⟩
      | false =>
        subst hd
        have HFIN : Hid (insAux s false L = O ++ [s]) := by show _ = _; rw [HQ.out, List.drop_of_length_le (by omega)]; rfl
        clear HQ
        go_wp2_with fail
        refine (own_c s _ _ (HK.out.keep HBr.out) hn3).mono ?_
        rintro e y3 ⟨kv3, ho, rfl, hb⟩
        obtain ⟨va3, vc3, rfl⟩ : ∃ va vc, kv3 = .slice va s.kept.length vc := by obtain ⟨x, y, h, _⟩ := (RowAt.of_owns ho).len; exact ⟨x, y, h⟩
        have HY3 : Hid (Keeps (w.alloc (.cells #[.int .i64 s.client, .int .i64 s.acked, .int .i64 s.seen, .slice ka s.kept.length kc] 71)) y3) := (HBr.out).trans hb
        have hm2 : w.heap.size + 1 ≤ y3.heap.size := by have := HY3.out.size; simpa using this
        have ho' := owns_base (base' := w.heap.size + 1) ho (by have := HBr.out.size; simp at this ⊢; omega)
        have hM : KeptsOwn (w.heap.size + 1) (y3.alloc (.cells #[.int .i64 s.client, .int .i64 s.acked, .int .i64 s.seen, .slice va3 s.kept.length vc3] 71)) [s] [.slice va3 s.kept.length vc3] := ⟨owns_keep ho' ((Keeps.refl _).alloc _), trivial⟩
        obtain ⟨v3, w3, hr, hO', hg, hbk⟩ := run_append_tab (y3.alloc (.cells #[.int .i64 s.client, .int .i64 s.acked, .int .i64 s.seen, .slice va3 s.kept.length vc3] 71)) (w.heap.size + 1) _ (O) (((HO.out).keep hb).keep ((Keeps.refl _).alloc _)) _ [s] _ hM (row_one y3 s _) (by simp; omega) (by simp; omega)
        obtain ⟨xa3, n3, xc3, hxv, hxn⟩ : ∃ xa n xc, v3 = .slice xa n xc ∧ n = (O ++ [s]).length := by obtain ⟨p, q, h, _⟩ := hO'.tab.len; exact ⟨p, _, q, h, rfl⟩
        subst hxv
        have HX3 : Hid (n3 = (O ++ [s]).length) := hxn
        have hx3 : n3 ≤ 9 := by rw [hxn]; simp; omega
        clear hxn
        have HB3 : Hid (Keeps (w.alloc (.cells #[.int .i64 s.client, .int .i64 s.acked, .int .i64 s.seen, .slice ka s.kept.length kc] 71)) w3) := keeps_grown (HY3.out.alloc _) hg (by simpa using hbk)
        have Hr3 := (show Hid (_ = _) from hr)
        have HO3 : Hid (OwnTab (w.heap.size + 1) w3 _ (O ++ [s])) := hO'
        clear hr hM hO' hg hbk ho ho' hb hm2 HY3
        have HNF := HX3
        have HOF : Hid (OwnTab w.heap.size _ _ (O ++ [s])) := HO3.out.base (by omega)
        have hkF := ((Keeps.refl w).alloc _).trans HB3.out
        have HPL : Hid (putList L s = O ++ [s]) := HP.out.symm.trans HFIN.out
        cases hq : decide (3 < n3) with
        | true =>
          have hq1 : 3 < n3 := by simpa using hq
          have HE : Hid (putErr L s = 2 ∧ putTab L s = []) := by
            have h1 : putErr L s = 2 := by
              have h2 : 3 < (putList L s).length := by rw [HPL.out, ← HNF.out]; exact hq1
              simp only [putErr, he, hs, if_true, h2]
            exact ⟨h1, by simp [putTab, h1]⟩
          go_wp2_with (at_builtin; refine wpList_append_run rfl _ _ _ rfl rfl rfl Hr3.out ?_)
          go_ret2
          exact ⟨.slice none 0 0, by rw [HE.out.2]; exact OwnTab.nil _ _, by rw [HE.out.1]; rfl, hkF⟩
        | false =>
          have hq1 : ¬ 3 < n3 := by simpa using hq
          have HE : Hid (putErr L s = 0 ∧ putTab L s = O ++ [s]) := by
            have h1 : putErr L s = 0 := by
              have h2 : ¬ 3 < (putList L s).length := by rw [HPL.out, ← HNF.out]; exact hq1
              simp only [putErr, he, hs, if_true, h2, if_false]
            exact ⟨h1, by simp [putTab, h1, HPL.out]⟩
          go_wp2_with (at_builtin; refine wpList_append_run rfl _ _ _ rfl rfl rfl Hr3.out ?_)
          go_ret2
          exact ⟨_, by rw [HE.out.2]; exact HOF.out, by rw [HE.out.1]; rfl, hkF⟩

/-- The reference's PutOf. -/
theorem put_of (L : List Ses) (v : Value) (s : Ses) (kv : Value) (w : World) (hT : TabAt w v L) (hK : KeptAt w kv s.kept) :
    Calls Tryz.prog 76 #[v, sesV s kv] w fun e w' => ∃ v', OwnTab w.heap.size w' v' (putTab L s) ∧ e = .returned (.tuple #[v', .int .i64 (putErr L s)]) ∧ Keeps w w' := by
  cases h : ((tabErr L == 0) && (sesErr s == 0)) with
  | false => exact put_of_err L v s kv w hT hK h
  | true =>
    simp only [Bool.and_eq_true] at h
    exact put_of_ok L v s kv w hT hK h.1 h.2
end Go.Proofs.YteabfjpajgakiagGreat

/- Applying: checkBoth, the machine's tick. -/
set_option linter.unusedSimpArgs false
set_option linter.unusedVariables false
set_option maxRecDepth 10000
namespace Go.Proofs.YteabfjpajgakiagGreat
open Go.RowKit

def bothErr (s : St) (e : Ent) : Int := if stErr s == 0 then (if entErr e == 0 then (if s.at_ == 50 then 2 else 0) else entErr e) else stErr s

set_option maxHeartbeats 1000000 in
theorem check_both (s : St) (e : Ent) (x : Value) (w : World) (hT : TabAt w x s.tab) : Calls Tryz.prog 81 #[stV s x, entV e] w fun y w' => y = .returned (.int .i64 (bothErr s e)) ∧ Keeps w w' := by
  obtain ⟨a, c, rfl, _⟩ := hT.len
  have C1 : Hid (∀ W, Keeps w W → Calls Tryz.prog 48 #[stV s (.slice a s.tab.length c)] W fun e w' => e = .returned (.int .i64 (stErr s)) ∧ Keeps W w') := fun W hk => state_check s _ W (hT.keep hk)
  clear hT
  have HE : Hid (bothErr s e = if stErr s == 0 then (if entErr e == 0 then (if s.at_ == 50 then 2 else 0) else entErr e) else stErr s) := rfl
  generalize stErr s = se at *
  generalize s.tab.length = n at *
  go_enter Tryz.func81, Tryz.ntmps81
  go_wp2_with fail
  refine (C1.out _ (((Keeps.refl _).alloc _).alloc _)).mono ?_
  rintro y w1 ⟨rfl, hb⟩
  clear C1
  have hk1 : Keeps w w1 := (((Keeps.refl _).alloc _).alloc _).trans hb
  cases q1 : (se == 0) with
  | false =>
    have q1' : (se != 0) = true := by simp [bne, q1]
    have HE : Hid (bothErr s e = se) := by show _ = _; rw [HE.out, q1]; rfl
    clear hb
    go_wp2_with fail
    go_ret
    exact ⟨ret_int HE.out.symm, hk1⟩
  | true =>
    have q1' : (se != 0) = false := by simp [bne, q1]
    have z0 : w1.cell? ⟨w.heap.size, 0, none⟩ = some (.int .i64 s.at_) := cell_kept (by simp [go_sem]) hb
    have x0 : w1.cell? ⟨w.heap.size + 1, 0, none⟩ = some (.int .i64 e.kind) := cell_kept (by simp [go_sem]) hb
    have x1 : w1.cell? ⟨w.heap.size + 1, 1, none⟩ = some (.int .i64 e.time) := cell_kept (by simp [go_sem]) hb
    have x2 : w1.cell? ⟨w.heap.size + 1, 2, none⟩ = some (.int .i64 e.client) := cell_kept (by simp [go_sem]) hb
    have x3 : w1.cell? ⟨w.heap.size + 1, 3, none⟩ = some (.int .i64 e.seq) := cell_kept (by simp [go_sem]) hb
    have x4 : w1.cell? ⟨w.heap.size + 1, 4, none⟩ = some (.int .i64 e.ack) := cell_kept (by simp [go_sem]) hb
    have x5 : w1.cell? ⟨w.heap.size + 1, 5, none⟩ = some (.int .i64 e.ok) := cell_kept (by simp [go_sem]) hb
    have x6 : w1.cell? ⟨w.heap.size + 1, 6, none⟩ = some (.int .i64 e.okey) := cell_kept (by simp [go_sem]) hb
    have x7 : w1.cell? ⟨w.heap.size + 1, 7, none⟩ = some (.int .i64 e.oto) := cell_kept (by simp [go_sem]) hb
    have x8 : w1.cell? ⟨w.heap.size + 1, 8, none⟩ = some (.int .i64 e.on) := cell_kept (by simp [go_sem]) hb
    have hlt := World.block_lt_of_cell? _ _ x8
    simp only [] at hlt
    clear hb
    go_wp2_with fail
    refine (ent_check e _).mono ?_
    rintro y w2 ⟨rfl, hb⟩
    have hk2 : Keeps w w2 := hk1.trans hb
    have z0 := cell_kept z0 hb
    have hlt := Nat.lt_of_lt_of_le hlt hb.size
    clear hb x0 x1 x2 x3 x4 x5 x6 x7 x8
    cases q2 : (entErr e == 0) with
    | false =>
      have q2' : (entErr e != 0) = true := by simp [bne, q2]
      have HE : Hid (bothErr s e = entErr e) := by show _ = _; rw [HE.out, q1, q2]; rfl
      go_wp2_with fail
      go_ret
      exact ⟨ret_int HE.out.symm, hk2⟩
    | true =>
      have q2' : (entErr e != 0) = false := by simp [bne, q2]
      cases q3 : (s.at_ == 50) with
      | false =>
        have HE : Hid (bothErr s e = 0) := by show _ = _; rw [HE.out, q1, q2, q3]; rfl
        go_wp2_with fail
        go_ret
        exact ⟨ret_int HE.out.symm, hk2⟩
      | true =>
        have HE : Hid (bothErr s e = 2) := by show _ = _; rw [HE.out, q1, q2, q3]; rfl
        go_wp2_with fail
        go_ret
        exact ⟨ret_int HE.out.symm, hk2⟩

/-- The state that the machine has, in its box. -/
structure StBox (b : Nat) (s : St) (t : Value) (w : World) : Prop where
  c0 : w.cell? ⟨b, 0, none⟩ = some (.int .i64 s.at_)
  c1 : w.cell? ⟨b, 1, none⟩ = some (.int .i64 s.clock)
  c2 : w.cell? ⟨b, 2, none⟩ = some (.int .i64 s.v0)
  c3 : w.cell? ⟨b, 3, none⟩ = some (.int .i64 s.v1)
  c4 : w.cell? ⟨b, 4, none⟩ = some (.int .i64 s.v2)
  c5 : w.cell? ⟨b, 5, none⟩ = some (.int .i64 s.v3)
  c6 : w.cell? ⟨b, 6, none⟩ = some t
  fz : ∀ i, w.frozen? ⟨b, i, none⟩ = false

theorem StBox.lt {b : Nat} {s : St} {t : Value} {w : World} (h : StBox b s t w) : b < w.heap.size := World.block_lt_of_cell? _ _ h.c0
theorem StBox.keep {b : Nat} {s : St} {t : Value} {w w' : World} (h : StBox b s t w) (hk : Keeps w w') : StBox b s t w' :=
  ⟨cell_kept h.c0 hk, cell_kept h.c1 hk, cell_kept h.c2 hk, cell_kept h.c3 hk, cell_kept h.c4 hk, cell_kept h.c5 hk, cell_kept h.c6 hk, fun i => (Below.frozen hk (p := ⟨b, i, none⟩) h.lt).trans (h.fz i)⟩
theorem StBox.other {b b' : Nat} {s : St} {t : Value} {w w' : World} (h : StBox b s t w) (hk : But b' w w') (hb : b ≠ b') : StBox b s t w' :=
  ⟨hk.at h.c0 hb, hk.at h.c1 hb, hk.at h.c2 hb, hk.at h.c3 hb, hk.at h.c4 hb, hk.at h.c5 hb, hk.at h.c6 hb, fun i => (hk.frozen (p := ⟨b, i, none⟩) h.lt hb).trans (h.fz i)⟩
theorem StBox.set {b : Nat} {s s' : St} {t t' : Value} {w : World} (h : StBox b s t w) (i : Nat) (u : Value)
    (h0 : .int .i64 s'.at_ = if i = 0 then u else .int .i64 s.at_) (h1 : .int .i64 s'.clock = if i = 1 then u else .int .i64 s.clock) (h2 : .int .i64 s'.v0 = if i = 2 then u else .int .i64 s.v0) (h3 : .int .i64 s'.v1 = if i = 3 then u else .int .i64 s.v1)
    (h4 : .int .i64 s'.v2 = if i = 4 then u else .int .i64 s.v2) (h5 : .int .i64 s'.v3 = if i = 5 then u else .int .i64 s.v3) (h6 : t' = if i = 6 then u else t) : StBox b s' t' (w.setCell ⟨b, i, none⟩ u) := by
  have go : ∀ j x y, w.cell? ⟨b, j, none⟩ = some x → y = (if i = j then u else x) → (w.setCell ⟨b, i, none⟩ u).cell? ⟨b, j, none⟩ = some y := fun j x y hx hy => by
    by_cases hij : i = j
    · subst hij
      rw [if_pos rfl] at hy
      subst hy
      exact World.cell?_setCell_same _ _ _ hx
    · rw [if_neg hij] at hy
      subst hy
      rw [World.cell?_setCell_other _ _ _ _ (by intro e; injection e with _ e _; exact hij e)]
      exact hx
  exact ⟨go _ _ _ h.c0 h0, go _ _ _ h.c1 h1, go _ _ _ h.c2 h2, go _ _ _ h.c3 h3, go _ _ _ h.c4 h4, go _ _ _ h.c5 h5, go _ _ _ h.c6 h6, fun j => (World.frozen?_setCell _ _ _ _).trans (h.fz j)⟩

theorem StBox.set_at {b : Nat} {s : St} {t : Value} {w : World} (h : StBox b s t w) (n : Int) : StBox b { s with at_ := n } t (w.setCell ⟨b, 0, none⟩ (.int .i64 n)) := h.set (s' := { s with at_ := n }) (t' := t) 0 _ rfl rfl rfl rfl rfl rfl rfl
theorem StBox.set_clock {b : Nat} {s : St} {t : Value} {w : World} (h : StBox b s t w) (n : Int) : StBox b { s with clock := n } t (w.setCell ⟨b, 1, none⟩ (.int .i64 n)) := h.set (s' := { s with clock := n }) (t' := t) 1 _ rfl rfl rfl rfl rfl rfl rfl
theorem StBox.set_tab {b : Nat} {s : St} {t : Value} {w : World} (h : StBox b s t w) (L : List Ses) (u : Value) : StBox b { s with tab := L } u (w.setCell ⟨b, 6, none⟩ u) := h.set (s' := { s with tab := L }) (t' := u) 6 _ rfl rfl rfl rfl rfl rfl rfl

theorem StBox.clock_drew {b : Nat} {s : St} {t : Value} {w : World} (h : StBox b s t w) (n m : Int) (e : n = m) : StBox b { s with clock := m } t (w.setCell ⟨b, 1, none⟩ (.int .i64 n)).drew := by
  subst e
  exact (h.set_clock n).keep (Keeps.refl _).drew

abbrev macV (b : Nat) : Value := .agg #[.pointer (some ⟨b, 0, none⟩)]

def ticked (s : St) (time : Int) : St := ⟨s.at_ + 1, max s.clock time, s.v0, s.v1, s.v2, s.v3, freshTab s.tab (max s.clock time)⟩

theorem stErr_in {s : St} (h : stErr s = 0) : stIn s = true ∧ tabErr s.tab = 0 ∧ seenAll s.clock s.tab = true := by
  unfold stErr at h
  split at h
  · rename_i h1
    split at h
    · rename_i h2
      split at h
      · rename_i h3
        exact ⟨h1, by simpa using h2, h3⟩
      · cases h
    · rename_i h2
      simp [h] at h2
  · cases h

theorem stErr_bounds {s : St} (h : stErr s = 0) : (0 ≤ s.at_ ∧ s.at_ ≤ 50) ∧ (0 ≤ s.clock ∧ s.clock ≤ 999) := by
  have h1 := (stErr_in h).1
  simp only [stIn, Bool.and_eq_true] at h1
  exact ⟨inB_iff.1 h1.2.1, inB_iff.1 h1.2.2⟩

set_option maxHeartbeats 4000000 in
theorem tick_c (s : St) (b : Nat) (x : Value) (time : Int) (w : World) (hB : StBox b s x w) (hT : TabFar b w x s.tab) (hs : stErr s = 0) (ht0 : 0 ≤ time) (ht1 : time ≤ 999) :
    Calls Tryz.prog 82 #[macV b, .int .i64 time] w fun y w' => y = .returned (.tuple #[]) ∧ ∃ x', StBox b (ticked s time) x' w' ∧ OwnTab w.heap.size w' x' (ticked s time).tab ∧ But b w w' := by
  have hbl := hB.lt
  obtain ⟨⟨ha0, ha1⟩, hc0, hc1⟩ := stErr_bounds hs
  obtain ⟨xa, xc, rfl, _⟩ := hT.tab.len
  go_enter Tryz.func82, Tryz.ntmps82
  have c0 := hB.c0
  have hfz := hB.fz
  go_wp2_with fail
  have B1 : StBox b ⟨s.at_ + 1, s.clock, s.v0, s.v1, s.v2, s.v3, s.tab⟩ (.slice xa s.tab.length xc) ((w.setCell ⟨b, 0, none⟩ (.int .i64 (s.at_ + 1))).alloc (.cells #[.pointer (some ⟨b, 0, none⟩)] 128)) := (hB.set_at _).keep ((Keeps.refl _).alloc _)
  have m1 : ((w.setCell ⟨b, 0, none⟩ (.int .i64 (s.at_ + 1))).alloc (.cells #[.pointer (some ⟨b, 0, none⟩)] 128)).cell? ⟨w.heap.size, 0, none⟩ = some (.pointer (some ⟨b, 0, none⟩)) := by simp [go_sem]
  have k1 : But b w ((w.setCell ⟨b, 0, none⟩ (.int .i64 (s.at_ + 1))).alloc (.cells #[.pointer (some ⟨b, 0, none⟩)] 128)) := ((But.refl _ _).set 0 _).keeps ((Keeps.refl _).alloc _)
  generalize ((w.setCell ⟨b, 0, none⟩ (.int .i64 (s.at_ + 1))).alloc (.cells #[.pointer (some ⟨b, 0, none⟩)] 128)) = w1 at *
  have HB1 : Hid (StBox b ⟨s.at_ + 1, s.clock, s.v0, s.v1, s.v2, s.v3, s.tab⟩ (.slice xa s.tab.length xc) w1) := B1
  have HK1 : Hid (But b w w1) := k1
  have HT : Hid (TabFar b w (.slice xa s.tab.length xc) s.tab) := hT
  clear hB hT c0 hfz B1 k1
  go_cut [20] (fun sl wc => StBox b ⟨s.at_ + 1, max s.clock time, s.v0, s.v1, s.v2, s.v3, s.tab⟩ (.slice xa s.tab.length xc) wc ∧ But b w wc ∧ wc.cell? ⟨w.heap.size, 0, none⟩ = some (.pointer (some ⟨b, 0, none⟩)))
  case first =>
    have c1 := HB1.out.c1
    have hfz := HB1.out.fz
    have hl1 := HB1.out.lt
    have hlm := World.block_lt_of_cell? _ _ m1
    simp only [] at hlm
    go_region
    all_goals go_wp2_with fail
    all_goals go_meet
    all_goals exact ⟨HB1.out.clock_drew _ _ (by omega), (HK1.out.set 1 _).keeps (Keeps.refl _).drew, by simp [go_sem, m1]⟩
  case rest =>
    obtain ⟨hB2, hK2, m2⟩ := hcut
    have hin : inB (max s.clock time) 0 999 = true := inB_iff.2 (by omega)
    have hte := (stErr_in hs).2.1
    have F : Hid (∀ W, TabAt W (.slice xa s.tab.length xc) s.tab → Calls Tryz.prog 89 #[.slice xa s.tab.length xc, .int .i64 (max s.clock time)] W fun e w' => ∃ va n vc, OwnTab W.heap.size w' (.slice va n vc) (freshTab s.tab (max s.clock time)) ∧ e = .returned (.tuple #[.slice va n vc, .int .i64 0]) ∧ Keeps W w') := fun W hW => by
      have := sess_fresh s.tab _ (max s.clock time) W hW
      have e1 : freshErr s.tab (max s.clock time) = 0 := by simp [freshErr, hte, hin]
      have e2 : frTab s.tab (max s.clock time) = freshTab s.tab (max s.clock time) := by simp [frTab, e1]
      rw [e1, e2] at this
      refine this.mono ?_
      rintro e w' ⟨v', ho, rfl, hk⟩
      obtain ⟨va, vc, rfl, _⟩ := ho.tab.len
      exact ⟨va, _, vc, ho, rfl, hk⟩
    have HT2 : Hid (TabAt wc (.slice xa s.tab.length xc) s.tab) := HT.out wc hK2
    have HB2 : Hid (StBox b ⟨s.at_ + 1, max s.clock time, s.v0, s.v1, s.v2, s.v3, s.tab⟩ (.slice xa s.tab.length xc) wc) := hB2
    have HK2 : Hid (But b w wc) := hK2
    have c1 := hB2.c1
    have c6 := hB2.c6
    have hfz := hB2.fz
    have hl2 := hB2.lt
    have hlm := World.block_lt_of_cell? _ _ m2
    simp only [] at hlm
    have HM2 : Hid (wc.drew.cell? ⟨w.heap.size, 0, none⟩ = some (.pointer (some ⟨b, 0, none⟩))) := m2
    have HKS : Hid (∀ n, (ticked s time) = { (⟨s.at_ + 1, max s.clock time, s.v0, s.v1, s.v2, s.v3, n⟩ : St) with tab := freshTab s.tab (max s.clock time) }) := fun _ => rfl
    clear hB2 hK2 HB1 HK1 m1 hin hte
    generalize max s.clock time = mx at *
    go_wp2_with fail
    refine wp_region_held_drew (S := fun w' => w'.cell? ⟨w.heap.size, 0, none⟩ = some (.pointer (some ⟨b, 0, none⟩)) ∧ w'.cell? ⟨b, 1, none⟩ = some (.int .i64 mx)) (by kernel_rfl) ⟨HM2.out, c1⟩ (fun hS => ?_)
    refine wpAnyH_take (i := 0) (v := .pointer (some ⟨w.heap.size, 0, none⟩)) rfl (by kernel_rfl) (by kernel_rfl) (by kernel_rfl) (fun _ _ _ h => h) (Or.inl ⟨by rfl, ?_⟩) hS ?_
    · intro w hS; go_simp
    refine wpAnyH_take (i := 1) (v := .pointer (some ⟨b, 0, none⟩)) rfl (by kernel_rfl) (by kernel_rfl) (by kernel_rfl) (fun _ _ _ h => h) (Or.inl ⟨by rfl, ?_⟩) hS ?_
    · intro w hS; go_simp
    refine wpAnyH_take (i := 2) (v := .pointer (some ⟨w.heap.size, 0, none⟩)) rfl (by kernel_rfl) (by kernel_rfl) (by kernel_rfl) (fun _ _ _ h => h) (Or.inl ⟨by rfl, ?_⟩) hS ?_
    · intro w hS; go_simp
    refine wpAnyH_take (i := 3) (v := .pointer (some ⟨b, 0, none⟩)) rfl (by kernel_rfl) (by kernel_rfl) (by kernel_rfl) (fun _ _ _ h => h) (Or.inl ⟨by rfl, ?_⟩) hS ?_
    · intro w hS; go_simp
    refine wpAnyH_take (i := 4) (v := .pointer (some ⟨b, 0, none⟩)) rfl (by kernel_rfl) (by kernel_rfl) (by kernel_rfl) (fun _ _ _ h => h) (Or.inl ⟨by rfl, ?_⟩) hS ?_
    · intro w hS; go_simp
    refine wpAnyH_take (i := 5) (v := .pointer (some ⟨b, 6, none⟩)) rfl (by kernel_rfl) (by kernel_rfl) (by kernel_rfl) (fun _ _ _ h => h) (Or.inl ⟨by rfl, ?_⟩) hS ?_
    · intro w hS; go_simp
    refine wpAnyH_take (i := 7) (v := .pointer (some ⟨w.heap.size, 0, none⟩)) rfl (by kernel_rfl) (by kernel_rfl) (by kernel_rfl) (fun _ _ _ h => h) (Or.inl ⟨by rfl, ?_⟩) hS ?_
    · intro w hS; go_simp
    refine wpAnyH_take (i := 8) (v := .pointer (some ⟨b, 0, none⟩)) rfl (by kernel_rfl) (by kernel_rfl) (by kernel_rfl) (fun _ _ _ h => h) (Or.inl ⟨by rfl, ?_⟩) hS ?_
    · intro w hS; go_simp
    refine wpAnyH_take (i := 9) (v := .pointer (some ⟨b, 0, none⟩)) rfl (by kernel_rfl) (by kernel_rfl) (by kernel_rfl) (fun _ _ _ h => h) (Or.inl ⟨by rfl, ?_⟩) hS ?_
    · intro w hS; go_simp
    refine wpAnyH_take (i := 10) (v := .pointer (some ⟨b, 1, none⟩)) rfl (by kernel_rfl) (by kernel_rfl) (by kernel_rfl) (fun _ _ _ h => h) (Or.inl ⟨by rfl, ?_⟩) hS ?_
    · intro w hS; go_simp
    refine wpAnyH_take (i := 11) (v := .int .i64 mx) rfl (by kernel_rfl) (by kernel_rfl) (by kernel_rfl) (fun _ _ _ h => h) (Or.inl ⟨by rfl, ?_⟩) hS ?_
    · intro w hS; go_simp
    refine wpAnyH_ready (rs := [6]) (by kernel_rfl) (by simp) ?_
    refine AllReadyH.cons rfl (fun K hK => ?_) AllReadyH.nil
    go_simp
    refine hK.out _ _ (hS) (fun hS => ?_)
    clear hK K
    refine wpAnyH_ready (rs := [12]) (by kernel_rfl) (by simp) ?_
    refine AllReadyH.cons rfl (fun K hK => ?_) AllReadyH.nil
    go_simp
    refine (F.out _ (HT2.out.keep (Keeps.refl _).drew)).mono ?_
    rintro e w2 ⟨va, n2, vc, ho, rfl, hb⟩
    have d1 := HB2.out.keep ((Keeps.refl _).drew.trans hb)
    have d6 := d1.c6
    have dz := d1.fz
    have dl := d1.lt
    have hm2 := cell_kept HM2.out hb
    go_simp
    refine hK.out _ _ (⟨hm2, d1.c1⟩) (fun hS => ?_)
    clear hK K
    refine wpAnyH_take (i := 13) (v := .tuple #[.slice va n2 vc, .int .i64 0]) rfl (by kernel_rfl) (by kernel_rfl) (by kernel_rfl) (fun _ _ _ h => h) (Or.inl ⟨by rfl, ?_⟩) hS ?_
    · intro w hS; go_simp
    refine wpAnyH_take (i := 14) (v := .slice va n2 vc) rfl (by kernel_rfl) (by kernel_rfl) (by kernel_rfl) (fun _ _ _ h => h) (Or.inl ⟨by rfl, ?_⟩) hS ?_
    · intro w hS; go_simp
    refine wpAnyH_take (i := 15) (v := .int .i64 0) rfl (by kernel_rfl) (by kernel_rfl) (by kernel_rfl) (fun _ _ _ h => h) (Or.inl ⟨by rfl, ?_⟩) hS ?_
    · intro w hS; go_simp
    refine wpAnyH_take (i := 16) (v := .pointer (some ⟨b, 0, none⟩)) rfl (by kernel_rfl) (by kernel_rfl) (by kernel_rfl) (fun _ _ _ h => h) (Or.inl ⟨by rfl, ?_⟩) hS ?_
    · intro w hS; go_simp
    refine wpAnyH_take (i := 17) (v := .pointer (some ⟨b, 6, none⟩)) rfl (by kernel_rfl) (by kernel_rfl) (by kernel_rfl) (fun _ _ _ h => h) (Or.inl ⟨by rfl, ?_⟩) hS ?_
    · intro w hS; go_simp
    refine wpAnyH_ready (rs := [18]) (by kernel_rfl) (by simp) ?_
    refine AllReadyH.cons rfl (fun K hK => ?_) AllReadyH.nil
    go_simp
    refine hK.out _ _ (by refine ⟨(World.cell?_setCell_other _ _ _ _ (by intro e; injection e with e _ _; omega)).trans hm2, (World.cell?_setCell_other _ _ _ _ (by intro e; injection e with _ e _; omega)).trans d1.c1⟩) (fun hS => ?_)
    clear hK K
    refine wpAnyH_done (by kernel_rfl) ?_ _
    refine ⟨rfl, .tuple #[], by simp [results, Tryz.results82], rfl, .slice va n2 vc, ?_, ?_, ?_⟩
    · rw [HKS.out []]
      exact d1.set_tab _ _
    · rw [HKS.out []]
      exact (ho.but (b := b) (by exact hl2) ((But.refl _ _).set 6 _)).base HK2.out.size
    · exact ((HK2.out.keeps (Keeps.refl _).drew).keeps hb).set 6 _
end Go.Proofs.YteabfjpajgakiagGreat

/- Applying: the machine's close and open. -/
set_option linter.unusedSimpArgs false
set_option linter.unusedVariables false
set_option maxRecDepth 10000
namespace Go.Proofs.YteabfjpajgakiagGreat
open Go.RowKit

set_option maxHeartbeats 2000000 in
theorem find_own (L : List Ses) (v : Value) (c : Int) (w : World) (hT : TabAt w v L) (he : (tabErr L == 0) = true) :
    Calls Tryz.prog 101 #[v, .int .i64 c] w fun e w' => ∃ kv, w'.ownsRow w.heap.size 73 2 kv ((findSes L c).getD zeroSes).kept.length (repCells ((findSes L c).getD zeroSes).kept) ∧ e = .returned (.tuple #[sesV ((findSes L c).getD zeroSes) kv, .bool (findSes L c).isSome, .int .i64 0]) ∧ Keeps w w' := by
  have he' : (tabErr L != 0) = false := by simp [bne, he]
  have he0 : tabErr L = 0 := by simpa using he
  have hR := tab_right he0
  obtain ⟨h3, hall, _⟩ := hR
  have HALL : Hid (∀ s ∈ L, sesErr s = 0) := hall
  clear hall
  obtain ⟨a, cap, rfl, hlen⟩ := hT.len
  unfold maxLen at hlen
  have hT0 := hT.keep ((Keeps.refl w).alloc (.cells #[.int .i64 0, .int .i64 0, .int .i64 0, .slice none 0 0] 71))
  have HT : Hid (TabAt (w.alloc (.cells #[.int .i64 0, .int .i64 0, .int .i64 0, .slice none 0 0] 71)) (.slice a L.length cap) L) := hT0
  clear hT hT0
  go_enter Tryz.func101, Tryz.ntmps101
  go_wp2_with fail
  refine (sess_check L _ _ HT.out).mono ?_
  rintro e w1 ⟨rfl, hb1⟩
  have HB1 : Hid (Keeps (w.alloc (.cells #[.int .i64 0, .int .i64 0, .int .i64 0, .slice none 0 0] 71)) w1) := hb1
  clear hb1
  go_wp2_with fail
  go_loopw [18] (fun i wr => ∃ (k : Nat), k ≤ L.length ∧ i = .int .i64 k ∧ Hid (Keeps (w.alloc (.cells #[.int .i64 0, .int .i64 0, .int .i64 0, .slice none 0 0] 71)) wr) ∧ Hid (findSes L c = findSes (L.drop k) c)) (fun i _ => L.length - (intOf i).toNat)
  case atStart => exact ⟨0, Nat.zero_le _, rfl, HB1, rfl⟩
  case round =>
    obtain ⟨k, hk, rfl, HKW, HQ⟩ := hrel
    have hz : w.heap.size < wr.heap.size := by have := HKW.out.size; simp at this; omega
    by_cases hlt : k < L.length
    · obtain ⟨b, off, cap', hv, hcell⟩ := (HT.out.keep HKW.out).at hlt
      injection hv with hv1 hv2 hv3
      subst hv1
      clear hv2 hv3
      obtain ⟨c0, c1, c2, ka, kc, c3, hkv⟩ := hcell k hlt
      clear hcell
      have HKV : Hid (KeptAt wr (.slice ka (L[k]).kept.length kc) (L[k]).kept) := hkv
      clear hkv
      have HR : Hid (findSes L c = if (L[k]).client == c then some (L[k]) else findSes (L.drop (k + 1)) c) := HQ.out.trans (findSes_at hlt)
      have hn3 : (L[k]).kept.length ≤ 3 := kept_le (HALL.out _ (List.getElem_mem hlt))
      clear HQ
      generalize L[k] = s at *
      cases hq : (s.client == c) with
      | true =>
        have HN : Hid (findSes L c = some s) := by show _ = _; rw [HR.out, hq]; rfl
        go_wp2_with fail
        refine (twin_c s _ _ (HKV.out.keep ((Keeps.refl _).alloc _)) hn3).mono ?_
        rintro e w2 ⟨kv', ho, rfl, hb2⟩
        obtain ⟨va, vc, rfl⟩ : ∃ va vc, kv' = .slice va s.kept.length vc := by obtain ⟨x, y, h, _⟩ := (RowAt.of_owns ho).len; exact ⟨x, y, h⟩
        have hkZ : Keeps (w.alloc (.cells #[.int .i64 0, .int .i64 0, .int .i64 0, .slice none 0 0] 71)) w2 := (HKW.out.alloc _).trans hb2
        have hk2 : Keeps w w2 := ((Keeps.refl _).alloc _).trans hkZ
        obtain ⟨hc, hf⟩ := hkZ.cells
        simp only [World.size_alloc] at hc hf ho
        have hz2 : w.heap.size < w2.heap.size := by have := hkZ.size; simp at this; omega
        clear hb2 hkZ
        go_wp2_with fail
        refine bodyPost_ret (v := .tuple #[sesV s (.slice va s.kept.length vc), .bool true, .int .i64 0]) ?_ rfl ?_
        · simp [results, Tryz.results101, go_sem, hc]
        · rw [HN.out]
          refine ⟨.slice va s.kept.length vc, ?_, rfl, ?_⟩
          · refine owns_base (base := wr.heap.size + 1) ?_ (by omega)
            repeat refine ownsRow_setCell_below ?_ (by simp <;> omega) _
            exact ho
          · repeat refine Keeps.set ?_ (by simp <;> omega) _
            exact hk2
      | false =>
        have HN : Hid (findSes L c = findSes (L.drop (k + 1)) c) := by show _ = _; rw [HR.out, hq]; rfl
        go_wp2_with fail
        go_roundw
        case rel => exact ⟨k + 1, by omega, by go_num, HKW.out.alloc _, HN⟩
        case measure => simp [intOf]; omega
    · have HN : Hid (findSes L c = none) := HQ.out.trans (by rw [List.drop_of_length_le (by omega)]; rfl)
      have hk2 : Keeps w wr := ((Keeps.refl _).alloc _).trans HKW.out
      obtain ⟨hc, hf⟩ := HKW.out.cells
      simp only [World.size_alloc] at hc hf
      go_wp2_with fail
      refine bodyPost_ret (v := .tuple #[sesV zeroSes (.slice none 0 0), .bool false, .int .i64 0]) ?_ rfl ?_
      · simp [results, Tryz.results101, go_sem, hc, zeroSes]
      · rw [HN.out]
        refine ⟨.slice none 0 0, World.ownsRow_nil _ _ _ _, rfl, ?_⟩
        repeat refine Keeps.set ?_ (by simp <;> omega) _
        exact hk2

def closedSt (s : St) (c : Int) : St := if dropErr s.tab c == 0 then { s with tab := dropTab s.tab c } else s
def closedAns (s : St) (c : Int) : Int := if dropErr s.tab c == 0 then 0 else -3

set_option maxHeartbeats 2000000 in
theorem close_c (s : St) (b base : Nat) (x : Value) (c : Int) (w : World) (hB : StBox b s x w) (hO : OwnTab base w x s.tab) (hbb : b < base) (hbw : base ≤ w.heap.size) :
    Calls Tryz.prog 91 #[macV b, .int .i64 c] w fun y w' => y = .returned (.int .i64 (closedAns s c)) ∧ ∃ x', StBox b (closedSt s c) x' w' ∧ OwnTab base w' x' (closedSt s c).tab ∧ But b w w' := by
  have hT : TabFar b w x s.tab := hO.far hbb
  have HOT : Hid (OwnTab base w x s.tab) := hO
  clear hO
  have hbl := hB.lt
  obtain ⟨xa, xc, rfl, _⟩ := hT.tab.len
  have HT : Hid (TabFar b w (.slice xa s.tab.length xc) s.tab) := hT
  have HB : Hid (StBox b s (.slice xa s.tab.length xc) w) := hB
  have c6 := hB.c6
  clear hB hT
  go_enter Tryz.func91, Tryz.ntmps91
  go_wp2_with fail
  refine (sess_drop s.tab _ c _ (HT.out.tab.keep ((Keeps.refl _).alloc _))).mono ?_
  rintro e w1 ⟨v', ho, rfl, hb⟩
  obtain ⟨va, vc, rfl, _⟩ := ho.tab.len
  have hk1 : Keeps w w1 := ((Keeps.refl _).alloc _).trans hb
  have m1 : w1.cell? ⟨w.heap.size, 0, none⟩ = some (.pointer (some ⟨b, 0, none⟩)) := cell_kept (by simp [go_sem]) hb
  have hlm := World.block_lt_of_cell? _ _ m1
  simp only [] at hlm
  clear hb c6
  have HO : Hid (OwnTab (w.alloc (.cells #[.pointer (some ⟨b, 0, none⟩)] 128)).heap.size w1 (.slice va (dropTab s.tab c).length vc) (dropTab s.tab c)) := ho
  clear ho
  generalize (dropTab s.tab c).length = n1 at *
  have HB1 := HB.out.keep hk1
  have d6 := HB1.c6
  have dz := HB1.fz
  have dl := HB1.lt
  have HB1 : Hid (StBox b s (.slice xa s.tab.length xc) w1) := HB1
  cases q : (dropErr s.tab c == 0) with
  | false =>
    have q' : (dropErr s.tab c != 0) = true := by simp [bne, q]
    have HE : Hid (closedAns s c = -3 ∧ closedSt s c = s) := by simp [Hid, closedAns, closedSt, q]
    go_wp2_with fail
    go_ret
    refine ⟨ret_int HE.out.1.symm, ?_⟩
    rw [HE.out.2]
    exact ⟨_, HB1.out, HOT.out.keep hk1, But.of hk1⟩
  | true =>
    have q' : (dropErr s.tab c != 0) = false := by simp [bne, q]
    have HE : Hid (closedAns s c = 0 ∧ closedSt s c = { s with tab := dropTab s.tab c }) := by simp [Hid, closedAns, closedSt, q]
    go_wp2_with fail
    go_ret
    refine ⟨ret_int HE.out.1.symm, ?_⟩
    rw [HE.out.2]
    exact ⟨_, HB1.out.set_tab _ _, ((HO.out.base (by simp; omega)).but hbb ((But.refl _ _).set 6 _)), (But.of hk1).set 6 _⟩

/-- The session that an Open asks for. -/
def openSes (s : St) (c : Int) : Ses := ⟨c, ((findSes s.tab c).getD zeroSes).acked, s.clock, ((findSes s.tab c).getD zeroSes).kept⟩
def openedSt (s : St) (c : Int) : St := if putErr s.tab (openSes s c) == 0 then { s with tab := putTab s.tab (openSes s c) } else s
def openedAns (s : St) (c : Int) : Int := if putErr s.tab (openSes s c) == 0 then 0 else -2

/-- A session in its box. -/
structure SesBox (b : Nat) (s : Ses) (k : Value) (w : World) : Prop where
  c0 : w.cell? ⟨b, 0, none⟩ = some (.int .i64 s.client)
  c1 : w.cell? ⟨b, 1, none⟩ = some (.int .i64 s.acked)
  c2 : w.cell? ⟨b, 2, none⟩ = some (.int .i64 s.seen)
  c3 : w.cell? ⟨b, 3, none⟩ = some k
  fz : ∀ i, w.frozen? ⟨b, i, none⟩ = false

theorem SesBox.lt {b : Nat} {s : Ses} {k : Value} {w : World} (h : SesBox b s k w) : b < w.heap.size := World.block_lt_of_cell? _ _ h.c0
theorem SesBox.keep {b : Nat} {s : Ses} {k : Value} {w w' : World} (h : SesBox b s k w) (hk : Keeps w w') : SesBox b s k w' :=
  ⟨cell_kept h.c0 hk, cell_kept h.c1 hk, cell_kept h.c2 hk, cell_kept h.c3 hk, fun i => (Below.frozen hk (p := ⟨b, i, none⟩) h.lt).trans (h.fz i)⟩
theorem SesBox.other {b b' : Nat} {s : Ses} {k : Value} {w w' : World} (h : SesBox b s k w) (hk : But b' w w') (hb : b ≠ b') : SesBox b s k w' :=
  ⟨hk.at h.c0 hb, hk.at h.c1 hb, hk.at h.c2 hb, hk.at h.c3 hb, fun i => (hk.frozen (p := ⟨b, i, none⟩) h.lt hb).trans (h.fz i)⟩
theorem SesBox.new (w : World) (s : Ses) (k : Value) (t : TypeId) : SesBox w.heap.size s k (w.alloc (.cells #[.int .i64 s.client, .int .i64 s.acked, .int .i64 s.seen, k] t)) :=
  ⟨by simp [go_sem], by simp [go_sem], by simp [go_sem], by simp [go_sem], fun i => by simp [go_sem]⟩
theorem SesBox.set {b : Nat} {s s' : Ses} {t t' : Value} {w : World} (h : SesBox b s t w) (i : Nat) (u : Value)
    (h0 : .int .i64 s'.client = if i = 0 then u else .int .i64 s.client) (h1 : .int .i64 s'.acked = if i = 1 then u else .int .i64 s.acked) (h2 : .int .i64 s'.seen = if i = 2 then u else .int .i64 s.seen) (h3 : t' = if i = 3 then u else t) : SesBox b s' t' (w.setCell ⟨b, i, none⟩ u) := by
  have go : ∀ j x y, w.cell? ⟨b, j, none⟩ = some x → y = (if i = j then u else x) → (w.setCell ⟨b, i, none⟩ u).cell? ⟨b, j, none⟩ = some y := fun j x y hx hy => by
    by_cases hij : i = j
    · subst hij
      rw [if_pos rfl] at hy
      subst hy
      exact World.cell?_setCell_same _ _ _ hx
    · rw [if_neg hij] at hy
      subst hy
      rw [World.cell?_setCell_other _ _ _ _ (by intro e; injection e with _ e _; exact hij e)]
      exact hx
  exact ⟨go _ _ _ h.c0 h0, go _ _ _ h.c1 h1, go _ _ _ h.c2 h2, go _ _ _ h.c3 h3, fun j => (World.frozen?_setCell _ _ _ _).trans (h.fz j)⟩
theorem SesBox.set_client {b : Nat} {s : Ses} {t : Value} {w : World} (h : SesBox b s t w) (n : Int) : SesBox b { s with client := n } t (w.setCell ⟨b, 0, none⟩ (.int .i64 n)) := h.set (s' := { s with client := n }) (t' := t) 0 _ rfl rfl rfl rfl
theorem SesBox.set_acked {b : Nat} {s : Ses} {t : Value} {w : World} (h : SesBox b s t w) (n : Int) : SesBox b { s with acked := n } t (w.setCell ⟨b, 1, none⟩ (.int .i64 n)) := h.set (s' := { s with acked := n }) (t' := t) 1 _ rfl rfl rfl rfl
theorem SesBox.set_seen {b : Nat} {s : Ses} {t : Value} {w : World} (h : SesBox b s t w) (n : Int) : SesBox b { s with seen := n } t (w.setCell ⟨b, 2, none⟩ (.int .i64 n)) := h.set (s' := { s with seen := n }) (t' := t) 2 _ rfl rfl rfl rfl
theorem SesBox.set_kept {b : Nat} {s : Ses} {t : Value} {w : World} (h : SesBox b s t w) (l : List (Int × Int)) (u : Value) : SesBox b { s with kept := l } u (w.setCell ⟨b, 3, none⟩ u) := h.set (s' := { s with kept := l }) (t' := u) 3 _ rfl rfl rfl rfl

set_option maxHeartbeats 4000000 in
theorem open_c (s : St) (b base : Nat) (x : Value) (c : Int) (w : World) (hB : StBox b s x w) (hO : OwnTab base w x s.tab) (hbb : b < base) (hbw : base ≤ w.heap.size) (he : tabErr s.tab = 0) :
    Calls Tryz.prog 90 #[macV b, .int .i64 c] w fun y w' => y = .returned (.int .i64 (openedAns s c)) ∧ ∃ x', StBox b (openedSt s c) x' w' ∧ OwnTab base w' x' (openedSt s c).tab ∧ But b w w' := by
  have hT : TabFar b w x s.tab := hO.far hbb
  have HOT : Hid (OwnTab base w x s.tab) := hO
  clear hO
  have hbl := hB.lt
  obtain ⟨xa, xc, rfl, _⟩ := hT.tab.len
  have HT : Hid (TabFar b w (.slice xa s.tab.length xc) s.tab) := hT
  have HB : Hid (StBox b s (.slice xa s.tab.length xc) w) := hB
  have c6 := hB.c6
  clear hB hT
  have HO : Hid (openSes s c = { ((findSes s.tab c).getD zeroSes) with client := c, seen := s.clock }) := rfl
  go_enter Tryz.func90, Tryz.ntmps90
  go_wp2_with fail
  refine (find_own s.tab _ c _ (HT.out.tab.keep ((Keeps.refl _).alloc _)) (by rw [he]; rfl)).mono ?_
  rintro e w1 ⟨kv, hkv, rfl, hb⟩
  obtain ⟨ka, kc, rfl, _⟩ := (RowAt.of_owns hkv).len
  generalize (findSes s.tab c).getD zeroSes = f at *
  generalize (findSes s.tab c).isSome = fi at *
  have hk1 : Keeps w w1 := ((Keeps.refl _).alloc _).trans hb
  have m1 : w1.cell? ⟨w.heap.size, 0, none⟩ = some (.pointer (some ⟨b, 0, none⟩)) := cell_kept (by simp [go_sem]) hb
  have hlm := World.block_lt_of_cell? _ _ m1
  simp only [] at hlm
  have HK : Hid (KeptAt w1 (.slice ka f.kept.length kc) f.kept) := RowAt.of_owns hkv
  clear hb c6 hkv
  go_wp2_with fail
  have SB := SesBox.new w1 f (.slice ka f.kept.length kc) 71
  have B1 := HB.out.keep (hk1.alloc (.cells #[.int .i64 f.client, .int .i64 f.acked, .int .i64 f.seen, .slice ka f.kept.length kc] 71))
  have k2 := hk1.alloc (.cells #[.int .i64 f.client, .int .i64 f.acked, .int .i64 f.seen, .slice ka f.kept.length kc] 71)
  have m2 := cell_kept m1 ((Keeps.refl _).alloc (.cells #[.int .i64 f.client, .int .i64 f.acked, .int .i64 f.seen, .slice ka f.kept.length kc] 71))
  have kk := HK.out.keep ((Keeps.refl _).alloc (.cells #[.int .i64 f.client, .int .i64 f.acked, .int .i64 f.seen, .slice ka f.kept.length kc] 71))
  have hsb : b < w1.heap.size := Nat.lt_of_lt_of_le hbl hk1.size
  have KF : KeptFar w1.heap.size (w1.alloc (.cells #[.int .i64 f.client, .int .i64 f.acked, .int .i64 f.seen, .slice ka f.kept.length kc] 71)) (.slice ka f.kept.length kc) f.kept := HK.out.far ((Keeps.refl _).alloc _) (Nat.le_refl _)
  have hws : w.heap.size ≤ w1.heap.size := hk1.size
  generalize (w1.alloc (.cells #[.int .i64 f.client, .int .i64 f.acked, .int .i64 f.seen, .slice ka f.kept.length kc] 71)) = w2 at *
  generalize w1.heap.size = sb at *
  clear HK m1 hk1 w1
  have HB1 : Hid (StBox b s (.slice xa s.tab.length xc) w2) := B1
  have HSB : Hid (SesBox sb f (.slice ka f.kept.length kc) w2) := SB
  have HK2 : Hid (Keeps w w2) := k2
  have HKF : Hid (KeptFar sb w2 (.slice ka f.kept.length kc) f.kept) := KF
  have s0 := SB.c0
  have s2 := SB.c2
  have sf := SB.fz
  have sl := SB.lt
  have b1 := B1.c1
  clear SB B1 k2 KF kk
  go_cut [21] (fun _ wc => SesBox sb (openSes s c) (.slice ka f.kept.length kc) wc ∧ But sb w2 wc)
  case first =>
    have hne : sb ≠ b := by omega
    have hne2 : sb ≠ w.heap.size := by omega
    go_region_held3 (fun w' => w'.cell? ⟨w.heap.size, 0, none⟩ = some (.pointer (some ⟨b, 0, none⟩)) ∧ w'.cell? ⟨b, 1, none⟩ = some (.int .i64 s.clock)) (go_keep) (fail)
    all_goals go_wp2_with fail
    all_goals go_meet
    all_goals exact ⟨by rw [HO.out]; exact ((HSB.out.set_client c).set_seen s.clock).keep (Keeps.refl _).drew, (((But.refl _ _).set 0 _).set 2 _).keeps (Keeps.refl _).drew⟩
  case rest =>
    obtain ⟨hSB, hbt⟩ := hcut
    obtain ⟨w4, hw4⟩ : ∃ z : World, z = wc := ⟨_, rfl⟩
    subst hw4
    have hne : b ≠ sb := by omega
    have hkw : Keeps w w4 := But.to HK2.out hws hbt
    have B3 := HB1.out.other hbt hne
    have m3 : w4.cell? ⟨w.heap.size, 0, none⟩ = some (.pointer (some ⟨b, 0, none⟩)) := hbt.at m2 (by simp; omega)
    have KK : Hid (KeptAt w4 (.slice ka f.kept.length kc) (openSes s c).kept) := by rw [HO.out]; exact HKF.out w4 hbt
    have TT : Hid (TabAt w4 (.slice xa s.tab.length xc) s.tab) := HT.out w4 (But.of hkw)
    have HB3 : Hid (StBox b s (.slice xa s.tab.length xc) w4) := B3
    have HKW : Hid (Keeps w w4) := hkw
    have b6 := B3.c6
    have s0 := hSB.c0
    have s1 := hSB.c1
    have s2 := hSB.c2
    have s3 := hSB.c3
    have sl := hSB.lt
    have bl := B3.lt
    have hlm := World.block_lt_of_cell? _ _ m3
    simp only [] at hlm
    have HS : Hid (w4.drew.cell? ⟨w.heap.size, 0, none⟩ = some (.pointer (some ⟨b, 0, none⟩)) ∧ w4.drew.cell? ⟨b, 6, none⟩ = some (.slice xa s.tab.length xc) ∧ w4.drew.cell? ⟨sb, 0, none⟩ = some (.int .i64 (openSes s c).client) ∧ w4.drew.cell? ⟨sb, 1, none⟩ = some (.int .i64 (openSes s c).acked) ∧ w4.drew.cell? ⟨sb, 2, none⟩ = some (.int .i64 (openSes s c).seen) ∧ w4.drew.cell? ⟨sb, 3, none⟩ = some (.slice ka f.kept.length kc)) := ⟨m3, b6, s0, s1, s2, s3⟩
    clear B3 hSB hbt hkw HSB HB1 HK2 HKF m2
    have HA : Hid (openedAns s c = if putErr s.tab (openSes s c) == 0 then 0 else -2) := rfl
    have HS2 : Hid (openedSt s c = if putErr s.tab (openSes s c) == 0 then { s with tab := putTab s.tab (openSes s c) } else s) := rfl
    generalize openSes s c = os at *
    go_wp2_with fail
    go_cut [8, 9] (fun u v wd => v = .int .i64 (putErr s.tab os) ∧ OwnTab w4.heap.size wd u (putTab s.tab os) ∧ Keeps w4 wd)
    case first =>
      go_region_held3 (fun w' => w'.cell? ⟨w.heap.size, 0, none⟩ = some (.pointer (some ⟨b, 0, none⟩)) ∧ w'.cell? ⟨b, 6, none⟩ = some (.slice xa s.tab.length xc) ∧ w'.cell? ⟨sb, 0, none⟩ = some (.int .i64 os.client) ∧ w'.cell? ⟨sb, 1, none⟩ = some (.int .i64 os.acked) ∧ w'.cell? ⟨sb, 2, none⟩ = some (.int .i64 os.seen) ∧ w'.cell? ⟨sb, 3, none⟩ = some (.slice ka f.kept.length kc)) (first | exact ⟨cell_kept HS.out.1 (by assumption), cell_kept HS.out.2.1 (by assumption), cell_kept HS.out.2.2.1 (by assumption), cell_kept HS.out.2.2.2.1 (by assumption), cell_kept HS.out.2.2.2.2.1 (by assumption), cell_kept HS.out.2.2.2.2.2 (by assumption)⟩ | go_keep) (first | (go_at_call 102; refine (sess_put s.tab _ os _ _ (TT.out.keep (Keeps.refl _).drew) (KK.out.keep (Keeps.refl _).drew)).mono ?_; rintro e w3 ⟨v', ho, rfl, hb⟩))
      all_goals go_wp2_with fail
      all_goals go_meet
      all_goals exact ⟨rfl, ho, (Keeps.refl _).drew.trans hb⟩
    case rest =>
      obtain ⟨rfl, ho, hkd⟩ := hcut
      obtain ⟨va, vc, rfl, _⟩ := ho.tab.len
      have hkw := HKW.out.trans hkd
      have B4 := HB3.out.keep hkd
      have m4 := cell_kept m3 hkd
      have d6 := B4.c6
      have dz := B4.fz
      have dl := B4.lt
      have hlm := World.block_lt_of_cell? _ _ m4
      simp only [] at hlm
      have HB4 : Hid (StBox b s (.slice xa s.tab.length xc) wc) := B4
      have HO4 : Hid (OwnTab w4.heap.size wc (.slice va (putTab s.tab os).length vc) (putTab s.tab os)) := ho
      generalize (putTab s.tab os).length = n4 at *
      clear B4 ho
      cases q : (putErr s.tab os == 0) with
      | false =>
        have q' : (putErr s.tab os != 0) = true := by simp [bne, q]
        have HE : Hid (openedAns s c = -2 ∧ openedSt s c = s) := ⟨by rw [HA.out, q]; rfl, by rw [HS2.out, q]; rfl⟩
        go_wp2_with fail
        go_ret
        refine ⟨ret_int HE.out.1.symm, ?_⟩
        rw [HE.out.2]
        exact ⟨_, HB4.out, HOT.out.keep hkw, But.of hkw⟩
      | true =>
        have q' : (putErr s.tab os != 0) = false := by simp [bne, q]
        have HE : Hid (openedAns s c = 0 ∧ openedSt s c = { s with tab := putTab s.tab os }) := ⟨by rw [HA.out, q]; rfl, by rw [HS2.out, q]; rfl⟩
        go_wp2_with fail
        go_ret
        refine ⟨ret_int HE.out.1.symm, ?_⟩
        rw [HE.out.2]
        exact ⟨_, HB4.out.set_tab _ _, ((HO4.out.base (Nat.le_trans hbw HKW.out.size)).but hbb ((But.refl _ _).set 6 _)), (But.of hkw).set 6 _⟩
end Go.Proofs.YteabfjpajgakiagGreat

/- Applying: the answers that a session keeps, in a row of its own: slices.DeleteFunc. -/
set_option linter.unusedSimpArgs false
set_option linter.unusedVariables false
set_option maxRecDepth 10000
namespace Go.Proofs.YteabfjpajgakiagGreat
open Go.RowKit

/-- A row of answers in block g. -/
def RepRow (w : World) (g cap : Nat) (xs : List Value) : Prop := ∃ cur : Array Value, w.heap[g]? = some (.cells cur 73 (0, 0)) ∧ cur.size = cap * 2 ∧ cap ≤ maxLen ∧ xs.length ≤ cap * 2 ∧ cur.toList.take xs.length = xs

theorem RepRow.lt {w : World} {g cap : Nat} {xs : List Value} (h : RepRow w g cap xs) : g < w.heap.size := by
  obtain ⟨cur, h1, _⟩ := h
  exact (Array.getElem?_eq_some_iff.1 h1).1
theorem RepRow.cell {w : World} {g cap : Nat} {xs : List Value} (h : RepRow w g cap xs) (i : Nat) (u : Value) (hu : xs[i]? = some u) : w.cell? ⟨g, i, none⟩ = some u := by
  obtain ⟨cur, h1, h2, h3, h4, h5⟩ := h
  have hi := (List.getElem?_eq_some_iff.1 hu).1
  rw [← h5, List.getElem?_take, if_pos hi] at hu
  simp [World.cell?, h1]
  simpa using hu
theorem RepRow.some {w : World} {g cap : Nat} {xs : List Value} (h : RepRow w g cap xs) (i : Nat) (hi : i < cap * 2) : ∃ u, w.cell? ⟨g, i, none⟩ = some u := by
  obtain ⟨cur, h1, h2, _⟩ := h
  refine ⟨cur[i]'(by omega), ?_⟩
  simp [World.cell?, h1, h2, hi]
theorem RepRow.frozen {w : World} {g cap : Nat} {xs : List Value} (h : RepRow w g cap xs) (i : Nat) : w.frozen? ⟨g, i, none⟩ = false := by
  obtain ⟨cur, h1, _⟩ := h
  simp [World.frozen?, h1]
theorem RepRow.set {w : World} {g cap : Nat} {xs : List Value} (h : RepRow w g cap xs) (i : Nat) (u : Value) : RepRow (w.setCell ⟨g, i, none⟩ u) g cap (xs.set i u) := by
  obtain ⟨cur, h1, h2, h3, h4, h5⟩ := h
  refine ⟨cur.setIfInBounds i u, ?_, by simpa using h2, h3, by simpa using h4, ?_⟩
  · simp [World.setCell, Array.getElem?_modify, h1]
  · simp only [List.length_set, Array.toList_setIfInBounds]
    rw [List.take_set, h5]
theorem RepRow.but {w w' : World} {g b cap : Nat} {xs : List Value} (h : RepRow w g cap xs) (hk : But b w w') (hb : g ≠ b) : RepRow w' g cap xs := by
  have hl := h.lt
  obtain ⟨cur, h1, r⟩ := h
  exact ⟨cur, (hk.block g hl hb).trans h1, r⟩
theorem RepRow.keep {w w' : World} {g cap : Nat} {xs : List Value} (h : RepRow w g cap xs) (hk : Keeps w w') : RepRow w' g cap xs := by
  have hl := h.lt
  obtain ⟨cur, h1, r⟩ := h
  exact ⟨cur, (hk.block g hl).trans h1, r⟩
theorem RepRow.take {w : World} {g cap : Nat} {xs : List Value} (h : RepRow w g cap xs) (n : Nat) : RepRow w g cap (xs.take n) := by
  obtain ⟨cur, h1, h2, h3, h4, h5⟩ := h
  refine ⟨cur, h1, h2, h3, by simp; omega, ?_⟩
  have e : List.take n xs = List.take n (List.take xs.length cur.toList) := by rw [h5]
  rw [List.length_take, e, List.take_take]

/-- The answers lie in block g (or there are none, and no row). -/
def KeptOn (g : Nat) (w : World) (kv : Value) (l : List (Int × Int)) : Prop := (kv = .slice none 0 0 ∧ l = []) ∨ ∃ cap, kv = .slice (some ⟨g, 0, none⟩) l.length cap ∧ RepRow w g cap (repCells l)

theorem KeptOn.kept {g : Nat} {w : World} {kv : Value} {l : List (Int × Int)} (h : KeptOn g w kv l) : KeptAt w kv l := by
  rcases h with ⟨rfl, rfl⟩ | ⟨cap, rfl, hr⟩
  · exact kept_nil w
  · have hc := fun i u hu => hr.cell i u hu
    obtain ⟨cur, h1, h2, h3, h4, h5⟩ := hr
    rw [repCells_len] at h4
    exact ⟨repCells_len _, by omega, .inr ⟨_, cap, rfl, fun j u hu => by rw [Addr.add_lit, Nat.zero_add]; exact hc j u hu⟩⟩
theorem KeptOn.but {g b : Nat} {w w' : World} {kv : Value} {l : List (Int × Int)} (h : KeptOn g w kv l) (hk : But b w w') (hb : g ≠ b) : KeptOn g w' kv l :=
  h.imp id fun ⟨cap, e, hr⟩ => ⟨cap, e, hr.but hk hb⟩
theorem KeptOn.keep {g : Nat} {w w' : World} {kv : Value} {l : List (Int × Int)} (h : KeptOn g w kv l) (hk : Keeps w w') : KeptOn g w' kv l :=
  h.imp id fun ⟨cap, e, hr⟩ => ⟨cap, e, hr.keep hk⟩
theorem KeptOn.of_owns {base : Nat} {w : World} {kv : Value} {l : List (Int × Int)} (h : w.ownsRow base 73 2 kv l.length (repCells l)) : ∃ g, KeptOn g w kv l ∧ base ≤ g ∧ (g < w.heap.size ∨ g = base) := by
  obtain ⟨h1, h2⟩ := h
  rcases h2 with ⟨rfl, h0⟩ | ⟨g, cap, cur, rfl, hg, hh, hn, hm, hs, ht⟩
  · exact ⟨base, .inl ⟨rfl, List.length_eq_zero_iff.1 h0⟩, Nat.le_refl _, .inr rfl⟩
  · have hr : RepRow w g cap (repCells l) := ⟨cur, hh, hs, hm, by rw [h1]; omega, by rw [h1]; exact ht⟩
    exact ⟨g, .inr ⟨cap, rfl, hr⟩, hg, .inl hr.lt⟩
/-- .. and back. -/
theorem KeptOn.owns {g : Nat} {w : World} {kv : Value} {l : List (Int × Int)} (h : KeptOn g w kv l) : w.ownsRow g 73 2 kv l.length (repCells l) := by
  refine ⟨repCells_len _, ?_⟩
  rcases h with ⟨rfl, rfl⟩ | ⟨cap, rfl, cur, h1, h2, h3, h4, h5⟩
  · exact .inl ⟨rfl, rfl⟩
  · rw [repCells_len] at h4 h5
    exact .inr ⟨g, cap, cur, rfl, Nat.le_refl _, h1, by omega, h3, h2, h5⟩

theorem fnc74 (args : Array Value) (W : World) : (callFunc 105 args).run Tryz.prog W = .ok (.enter 105 args) W := by kernel_rfl

theorem gone_c (sb : Nat) (ack q v : Int) (w : World) (hs : w.cell? ⟨sb, 1, none⟩ = some (.int .i64 ack)) :
    Calls Tryz.prog 105 #[.agg #[.int .i64 q, .int .i64 v], .pointer (some ⟨sb, 0, none⟩)] w fun e w' => e = .returned (.bool (decide (q ≤ ack))) ∧ Keeps w w' := by
  have hl := World.block_lt_of_cell? _ _ hs
  simp only [] at hl
  go_enter Tryz.func105, Tryz.ntmps105
  go_wp2_with fail
  go_ret
  exact ⟨rfl, (Keeps.refl _).alloc _⟩

abbrev delF (sb : Nat) : Value := .func (.func 105) #[] #[.pointer (some ⟨sb, 0, none⟩)]

/-- slices.IndexFunc, where none is gone. -/
theorem index_none (sb : Nat) (ack : Int) (l : List (Int × Int)) (kv : Value) (w : World) (hk : KeptAt w kv l) (h3 : l.length ≤ 3) (hs : w.cell? ⟨sb, 1, none⟩ = some (.int .i64 ack)) (hall : ∀ r ∈ l, ack < r.1) :
    Calls Tryz.prog 118 #[kv, delF sb] w fun e w' => e = .returned (.int .i64 (-1)) ∧ Keeps w w' := by
  obtain ⟨a, cap, rfl, hlen⟩ := hk.len
  have HK : Hid (KeptAt w (.slice a l.length cap) l) := hk
  have HALL : Hid (∀ r ∈ l, ack < r.1) := hall
  have hf := fnc74
  clear hk hall hlen
  go_enter Tryz.func118, Tryz.ntmps118
  go_wp2_with fail
  go_loopw [8] (fun i wr => ∃ (k : Nat), k ≤ l.length ∧ i = .int .i64 k ∧ Keeps w wr) (fun i _ => l.length - (intOf i).toNat)
  case atStart => exact ⟨0, Nat.zero_le _, rfl, Keeps.refl _⟩
  case round =>
    obtain ⟨k, hk, rfl, hkw⟩ := hrel
    by_cases hlt : k < l.length
    · obtain ⟨b, off, cp, hv, _, hcell⟩ := (HK.out.keep hkw).at hlt
      injection hv with hv1 hv2 hv3
      subst hv1
      clear hv2 hv3
      obtain ⟨c0, c1⟩ := hcell k hlt
      clear hcell
      have hd : decide ((l[k]).1 ≤ ack) = false := by have := HALL.out _ (List.getElem_mem hlt); simp; omega
      generalize (l[k]).1 = q at *
      generalize (l[k]).2 = v at *
      go_wp2_with fail
      refine (gone_c sb ack q v _ (cell_kept hs hkw)).mono ?_
      rintro e w1 ⟨rfl, hb⟩
      have hk1 : Keeps w w1 := hkw.trans hb
      clear hb
      go_wp2_with fail
      go_roundw
      case rel => exact ⟨k + 1, by omega, by go_num, hk1⟩
      case measure => simp [intOf]; omega
    · go_wp2_with fail
      go_ret
      exact ⟨rfl, hkw⟩

/-- .. and where the first is. -/
theorem index_first (sb : Nat) (ack q v : Int) (l : List (Int × Int)) (kv : Value) (w : World) (hk : KeptAt w kv ((q, v) :: l)) (hs : w.cell? ⟨sb, 1, none⟩ = some (.int .i64 ack)) (hq : q ≤ ack) :
    Calls Tryz.prog 118 #[kv, delF sb] w fun e w' => e = .returned (.int .i64 0) ∧ Keeps w w' := by
  obtain ⟨b, off, cap, rfl, hlen, hcell⟩ := hk.at (k := 0) (by simp)
  obtain ⟨c0, c1⟩ := hcell 0 (by simp)
  simp only [Nat.zero_mul, Nat.add_zero, List.getElem_cons_zero] at c0 c1
  clear hcell hk
  have hf := fnc74
  have hd : decide (q ≤ ack) = true := by simpa using hq
  simp only [List.length_cons] at *
  generalize l.length = n at *
  unfold maxLen at hlen
  go_enter Tryz.func118, Tryz.ntmps118
  go_wp2_with fail
  refine wp_loop_rounds 2 ?_
  rw [rounds_succ]
  go_wp2_with (first | (go_at_call 105; refine (gone_c sb ack q v _ hs).mono ?_; rintro e w1 ⟨rfl, hb⟩))
  go_ret
  exact ⟨rfl, hb⟩

def keptAfter (ack : Int) (l : List (Int × Int)) : List (Int × Int) := l.filter fun r => decide (ack < r.1)
theorem keptAfter_all {ack : Int} {l : List (Int × Int)} (h : ∀ r ∈ l, ack < r.1) : keptAfter ack l = l := List.filter_eq_self.2 (by simpa using h)

/-- slices.DeleteFunc, where none is gone. -/
theorem delete_none (g sb : Nat) (ack : Int) (l : List (Int × Int)) (kv : Value) (w : World) (hk : KeptOn g w kv l) (h3 : l.length ≤ 3) (hs : w.cell? ⟨sb, 1, none⟩ = some (.int .i64 ack)) (hall : ∀ r ∈ l, ack < r.1) :
    Calls Tryz.prog 104 #[kv, delF sb] w fun e w' => ∃ kv', KeptOn g w' kv' (keptAfter ack l) ∧ e = .returned kv' ∧ But g w w' := by
  have HK : Hid (KeptOn g w kv l) := hk
  have HI : Hid (Calls Tryz.prog 118 #[kv, delF sb] w fun e w' => e = .returned (.int .i64 (-1)) ∧ Keeps w w') := index_none sb ack l kv w hk.kept h3 hs hall
  rw [keptAfter_all hall]
  obtain ⟨a, cap, rfl, hlen⟩ := hk.kept.len
  clear hk hall
  go_enter Tryz.func104, Tryz.ntmps104
  go_wp2_with fail
  refine HI.out.mono ?_
  rintro e w1 ⟨rfl, hb⟩
  go_wp2_with fail
  go_ret
  exact ⟨_, HK.out.keep hb, rfl, But.of hb⟩
end Go.Proofs.YteabfjpajgakiagGreat

/- Applying: slices.DeleteFunc, where some answers are gone. -/
set_option linter.unusedSimpArgs false
set_option linter.unusedVariables false
set_option maxRecDepth 10000
namespace Go.Proofs.YteabfjpajgakiagGreat
open Go.RowKit

theorem repCells_set : ∀ (A : List (Int × Int)) (i : Nat) (q v : Int), repCells (A.set i (q, v)) = ((repCells A).set (i * 2) (.int .i64 q)).set (i * 2 + 1) (.int .i64 v)
  | [], i, q, v => by simp [repCells]
  | (a, b) :: r, 0, q, v => by simp [repCells]
  | (a, b) :: r, i + 1, q, v => by
    rw [List.set_cons_succ, show (i + 1) * 2 = i * 2 + 1 + 1 from by omega, show i * 2 + 1 + 1 + 1 = (i * 2 + 1) + 1 + 1 from rfl]
    simp only [repCells, List.set_cons_succ, repCells_set r i q v]
theorem repCells_take : ∀ (A : List (Int × Int)) (i : Nat), (repCells A).take (i * 2) = repCells (A.take i)
  | [], i => by simp [repCells]
  | (a, b) :: r, 0 => by simp [repCells]
  | (a, b) :: r, i + 1 => by
    rw [show (i + 1) * 2 = i * 2 + 1 + 1 from by omega]
    simp only [repCells, List.take_succ_cons, repCells_take r i]
theorem repCells_drop : ∀ (A : List (Int × Int)) (i : Nat), (repCells A).drop (i * 2) = repCells (A.drop i)
  | [], i => by simp [repCells]
  | (a, b) :: r, 0 => by simp [repCells]
  | (a, b) :: r, i + 1 => by
    rw [show (i + 1) * 2 = i * 2 + 1 + 1 from by omega]
    simp only [repCells, List.drop_succ_cons, repCells_drop r i]
theorem repCells_append : ∀ (A B : List (Int × Int)), repCells (A ++ B) = repCells A ++ repCells B
  | [], B => rfl
  | (a, b) :: r, B => by simp [repCells, repCells_append r B]

/-- Values laid one behind the other. -/
def setL : List Value → Nat → List Value → List Value
  | xs, _, [] => xs
  | xs, o, v :: r => setL (xs.set o v) (o + 1) r
theorem setL_len : ∀ (cs xs : List Value) (o : Nat), (setL xs o cs).length = xs.length
  | [], xs, o => rfl
  | v :: r, xs, o => by simp [setL, setL_len r]
theorem setL_at : ∀ (cs xs : List Value) (o j : Nat), j < xs.length → (setL xs o cs)[j]? = if o ≤ j ∧ j < o + cs.length then cs[j - o]? else xs[j]?
  | [], xs, o, j, hj => by simp [setL]; intro _ _; omega
  | v :: r, xs, o, j, hj => by
    rw [setL, setL_at r (xs.set o v) (o + 1) j (by simpa using hj)]
    by_cases h1 : o + 1 ≤ j ∧ j < o + 1 + r.length
    · rw [if_pos h1, if_pos ⟨by omega, by simp; omega⟩, show j - o = (j - (o + 1)) + 1 from by omega]
      simp
    · rw [if_neg h1]
      by_cases h2 : o = j
      · subst h2
        rw [if_pos ⟨Nat.le_refl _, by simp⟩]
        simp [List.getElem?_set, hj]
      · rw [if_neg (by simp only [List.length_cons]; omega), List.getElem?_set_ne (by omega)]
theorem setL_eq (xs cs : List Value) (o : Nat) (h : o + cs.length ≤ xs.length) : setL xs o cs = xs.take o ++ cs ++ xs.drop (o + cs.length) := by
  apply List.ext_getElem?
  intro j
  by_cases hj : j < xs.length
  · rw [setL_at _ _ _ _ hj]
    by_cases h1 : j < o
    · rw [if_neg (by omega), List.append_assoc, List.getElem?_append_left (by simp; omega), List.getElem?_take, if_pos h1]
    · by_cases h2 : j < o + cs.length
      · rw [if_pos ⟨by omega, h2⟩, List.append_assoc, List.getElem?_append_right (by simp; omega), List.getElem?_append_left (by simp; omega)]
        simp [Nat.min_eq_left (show o ≤ xs.length from by omega)]
      · rw [if_neg (by omega), List.getElem?_append_right (by simp; omega), List.getElem?_drop]
        congr 1
        simp
        omega
  · rw [List.getElem?_eq_none (by rw [setL_len]; omega), List.getElem?_eq_none (by simp; omega)]

theorem RepRow.setCells {g cap : Nat} : ∀ (cs : List Value) (o : Nat) {w : World} {xs : List Value}, RepRow w g cap xs → RepRow (w.setCells g o cs) g cap (setL xs o cs)
  | [], _, _, _, h => h
  | v :: r, o, _, _, h => RepRow.setCells r (o + 1) (h.set o v)
theorem But.setCells {g : Nat} {x : World} : ∀ (cs : List Value) (o : Nat) {y : World}, But g x y → But g x (y.setCells g o cs)
  | [], _, _, h => h
  | v :: r, o, _, h => But.setCells r (o + 1) (h.set o v)

/-- 'clear(s)', s a slice of answers. -/
theorem run_clear_rep (w : World) (ty : TypeId) (b o n c : Nat) (hn : 0 < n) (hc : ∀ j, j < n * 2 → (w.cell? ⟨b, o + j, none⟩).isSome = true) (hf : ∀ j, j < n * 2 → w.frozen? ⟨b, o + j, none⟩ = false) :
    (Builtin.clear_ #[69] ty #[.slice (some ⟨b, o, none⟩) n c]).run Tryz.prog w = .ok (.tuple #[]) (w.setCells b o (List.replicate (n * 2) (.int .i64 0))) := by
  have hzc : (Builtin.zeroCells (Value.cells (.agg #[.int .i64 0, .int .i64 0])) n).toList = List.replicate (n * 2) (.int .i64 0) := by
    simp [Builtin.zeroCells, Value.cells]
    apply List.ext_getElem
    · simp
    · intro i h1 h2
      simp
      have : i % 2 = 0 ∨ i % 2 = 1 := by omega
      rcases this with h | h <;> simp [h]
  have hst := run_storeCells_cells (P := Tryz.prog) b o (List.replicate (n * 2) (.int .i64 0)) 0 w (by simpa using hc) (by simpa using hf) (by intro v hv'; rw [List.eq_of_mem_replicate hv']; rfl)
  simp only [Nat.add_zero] at hst
  have hv : (zeroValue 73).run Tryz.prog w = .ok (.agg #[.int .i64 0, .int .i64 0]) w := by kernel_rfl
  obtain ⟨m, rfl⟩ : ∃ m, n = m + 1 := ⟨n - 1, by omega⟩
  simp [Builtin.clear_, run_underlying Tryz.underlying69, hv, hzc, hst]

theorem keptAfter_take {ack : Int} {L : List (Int × Int)} {k : Nat} (h : k < L.length) : keptAfter ack (L.take (k + 1)) = keptAfter ack (L.take k) ++ (if ack < (L[k]).1 then [L[k]] else []) := by
  unfold keptAfter
  rw [List.take_succ_eq_append_getElem h, List.filter_append]
  by_cases hp : ack < (L[k]).1 <;> simp [hp]

theorem RepRow.at {w : World} {g cap : Nat} {A : List (Int × Int)} (h : RepRow w g cap (repCells A)) {k : Nat} (hk : k < A.length) :
    w.cell? ⟨g, k * 2, none⟩ = Option.some (.int .i64 (A[k]).1) ∧ w.cell? ⟨g, k * 2 + 1, none⟩ = Option.some (.int .i64 (A[k]).2) := by
  have e := repCells_at A k (A[k]).1 (A[k]).2 (by rw [List.getElem?_eq_getElem hk])
  rw [Nat.mul_comm k 2]
  exact ⟨h.cell _ _ e.1, h.cell _ _ e.2⟩
theorem RepRow.store {w : World} {g cap : Nat} {A : List (Int × Int)} (h : RepRow w g cap (repCells A)) (k : Nat) (q v : Int) :
    RepRow ((w.setCell ⟨g, k * 2, none⟩ (.int .i64 q)).setCell ⟨g, k * 2 + 1, none⟩ (.int .i64 v)) g cap (repCells (A.set k (q, v))) := by
  rw [repCells_set]
  exact (h.set _ _).set _ _

set_option maxHeartbeats 4000000 in
theorem delete_some (g sb cap : Nat) (ack q v : Int) (l L : List (Int × Int)) (hL : L = (q, v) :: l) (w : World) (hr : RepRow w g cap (repCells L)) (hne : sb ≠ g) (hs : w.cell? ⟨sb, 1, none⟩ = some (.int .i64 ack)) (hq : q ≤ ack) :
    Calls Tryz.prog 104 #[.slice (some ⟨g, 0, none⟩) L.length cap, delF sb] w fun e w' => ∃ kv', KeptOn g w' kv' (keptAfter ack L) ∧ e = .returned kv' ∧ But g w w' := by
  have hK : KeptOn g w (.slice (some ⟨g, 0, none⟩) L.length cap) L := .inr ⟨cap, rfl, hr⟩
  have HI : Hid (Calls Tryz.prog 118 #[.slice (some ⟨g, 0, none⟩) L.length cap, delF sb] w fun e w' => e = .returned (.int .i64 0) ∧ Keeps w w') := index_first sb ack q v l _ w (by rw [← hL]; exact hK.kept) hs hq
  have HR : Hid (RepRow w g cap (repCells L)) := hr
  have h0 : 0 < L.length := by rw [hL]; simp
  have hcp : L.length ≤ cap ∧ cap ≤ maxLen := by obtain ⟨cur, _, _, h3, h4, _⟩ := hr; rw [repCells_len] at h4; exact ⟨by omega, h3⟩
  obtain ⟨hcp1, hcp2⟩ := hcp
  unfold maxLen at hcp2
  have HT1 : Hid (L.take 0 = keptAfter ack (L.take 1)) := by
    show _ = _
    rw [hL]
    simp [keptAfter]
    omega
  have HS : Hid (∀ W, But g w W → W.cell? ⟨sb, 1, none⟩ = some (.int .i64 ack)) := fun W h => h.at hs hne
  have hf := fnc74
  clear hK hr hL hs
  generalize hn : L.length = n at *
  go_enter Tryz.func104, Tryz.ntmps104
  go_wp2_with fail
  refine HI.out.mono ?_
  rintro e w1 ⟨rfl, hb⟩
  have HK1 : Hid (But g w w1) := But.of hb
  have HR1 : Hid (RepRow w1 g cap (repCells L)) := HR.out.keep hb
  clear hb
  go_wp2_with fail
  go_loopw [5, 6] (fun i j wr => ∃ (a k : Nat) (A : List (Int × Int)), i = .int .i64 a ∧ j = .int .i64 k ∧ a < k ∧ k ≤ n ∧ A.length = n ∧ Hid (A.take a = keptAfter ack (L.take k)) ∧ Hid (A.drop k = L.drop k) ∧ Hid (RepRow wr g cap (repCells A)) ∧ Hid (But g w wr)) (fun _ j _ => n - (intOf j).toNat)
  case atStart => exact ⟨0, 1, L, rfl, rfl, by omega, by omega, hn, HT1, rfl, HR1, HK1⟩
  case round =>
    obtain ⟨a, k, A, rfl, rfl, hak, hkn, hAn, HT, HD, HR, HB⟩ := hrel
    by_cases hlt : k < n
    · have hkA : k < A.length := by omega
      have haA : a < A.length := by omega
      have hkL : k < L.length := by omega
      have hAk : A[k] = L[k] := by
        have h1 : (A.drop k)[0]? = (L.drop k)[0]? := by rw [HD.out]
        rw [List.getElem?_drop, List.getElem?_drop, Nat.add_zero, List.getElem?_eq_getElem hkA, List.getElem?_eq_getElem hkL] at h1
        exact Option.some.inj h1
      obtain ⟨c0, c1⟩ := HR.out.at hkA
      obtain ⟨d0, d1⟩ := HR.out.at haA
      have HKT : Hid (keptAfter ack (L.take (k + 1)) = keptAfter ack (L.take k) ++ (if ack < (L[k]).1 then [L[k]] else [])) := keptAfter_take hkL
      have HLk : Hid (A[k] = (A[k].1, A[k].2)) := rfl
      have HD' : Hid (A.drop (k + 1) = L.drop (k + 1)) := by
        show _ = _
        have := HD.out
        rw [List.drop_eq_getElem_cons hkA, List.drop_eq_getElem_cons hkL] at this
        exact (List.cons.inj this).2
      rw [← hAk] at HKT
      generalize hAkk : A[k] = z at *
      obtain ⟨zq, zv⟩ := z
      have hlb : g < wr.heap.size := HR.out.lt
      generalize A[a] = y at *
      have hbx : ∀ W, Keeps wr W → W.cell? ⟨sb, 1, none⟩ = some (.int .i64 ack) := fun W h => HS.out W (HB.out.keeps h)
      have HBX : Hid (∀ W, Keeps wr W → W.cell? ⟨sb, 1, none⟩ = some (.int .i64 ack)) := hbx
      clear hbx hAk
      by_cases hq2 : ack < zq
      · have hd : decide (zq ≤ ack) = false := by simp; omega
        go_wp2_with fail
        refine (gone_c sb ack zq zv _ (HBX.out _ ((Keeps.refl _).alloc _))).mono ?_
        rintro e w2 ⟨rfl, hb2⟩
        have b0 : w2.cell? ⟨wr.heap.size, 0, none⟩ = some (.int .i64 zq) := cell_kept (by simp [go_sem]) hb2
        have b1 : w2.cell? ⟨wr.heap.size, 1, none⟩ = some (.int .i64 zv) := cell_kept (by simp [go_sem]) hb2
        have hk2 : Keeps wr w2 := ((Keeps.refl _).alloc _).trans hb2
        have d0 := cell_kept d0 hk2
        have d1 := cell_kept d1 hk2
        have HR2 : Hid (RepRow w2 g cap (repCells A)) := HR.out.keep hk2
        have HB2 : Hid (But g w w2) := HB.out.keeps hk2
        have hfz := fun i => HR2.out.frozen i
        have hl2 := World.block_lt_of_cell? _ _ b0
        have hl3 := HR2.out.lt
        simp only [] at hl2
        have hne2 : ¬ (wr.heap.size = g) := by omega
        clear hb2 hk2
        go_wp2_with fail
        go_roundw
        case rel =>
          refine ⟨a + 1, k + 1, A.set a (zq, zv), by go_num, by go_num, by omega, by omega, by simpa using hAn, ?_, ?_, ?_, ?_⟩
          · show _ = _
            rw [HKT.out, if_pos hq2, ← HT.out, List.take_succ_eq_append_getElem (by simpa using haA), List.take_set_of_le (Nat.le_refl _)]
            simp
          · show _ = _
            rw [List.drop_set_of_lt (by omega), HD'.out]
          · exact HR2.out.store a zq zv
          · exact (HB2.out.set _ _).set _ _
        case measure => simp [intOf]; omega
      · have hd : decide (zq ≤ ack) = true := by simp; omega
        go_wp2_with fail
        refine (gone_c sb ack zq zv _ (HBX.out _ ((Keeps.refl _).alloc _))).mono ?_
        rintro e w2 ⟨rfl, hb2⟩
        have hk2 : Keeps wr w2 := ((Keeps.refl _).alloc _).trans hb2
        have HR2 : Hid (RepRow w2 g cap (repCells A)) := HR.out.keep hk2
        have HB2 : Hid (But g w w2) := HB.out.keeps hk2
        clear hb2 hk2
        go_wp2_with fail
        go_roundw
        case rel =>
          refine ⟨a, k + 1, A, rfl, by go_num, by omega, by omega, hAn, ?_, HD', HR2, HB2⟩
          show _ = _
          rw [HKT.out, if_neg (by omega), HT.out, List.append_nil]
        case measure => simp [intOf]; omega
    · have hkn' : k = n := by omega
      subst hkn'
      have hcl : ∀ ty, (Builtin.clear_ #[69] ty #[.slice (some ⟨g, a * 2, none⟩) (k - a) (cap - a)]).run Tryz.prog wr = .ok (.tuple #[]) (wr.setCells g (a * 2) (List.replicate ((k - a) * 2) (.int .i64 0))) :=
        fun ty => run_clear_rep wr ty g (a * 2) (k - a) (cap - a) (by omega) (fun j hj => by obtain ⟨u, hu⟩ := HR.out.some (a * 2 + j) (by omega); rw [hu]; rfl) (fun j _ => HR.out.frozen _)
      have HF : Hid (A.take a = keptAfter ack L) := by
        show _ = _
        rw [HT.out, List.take_of_length_le (by omega)]
      clear HT HD
      go_wp2_with fail
      go_ret
      refine ⟨_, ?_, rfl, HB.out.setCells _ _⟩
      rw [← HF.out]
      refine .inr ⟨cap, by simp [hAn]; omega, ?_⟩
      have h1 := (HR.out.setCells (List.replicate ((k - a) * 2) (.int .i64 0)) (a * 2)).take (a * 2)
      rw [setL_eq _ _ _ (by rw [repCells_len]; simp; omega), List.append_assoc, List.take_append_of_le_length (by rw [List.length_take, repCells_len]; omega), List.take_take, Nat.min_self, repCells_take] at h1
      exact h1

/-- slices.DeleteFunc, of answers that rise. -/
theorem delete_c (g sb : Nat) (ack : Int) (l : List (Int × Int)) (kv : Value) (w : World) (hk : KeptOn g w kv l) (h3 : l.length ≤ 3) (hne : sb ≠ g) (hs : w.cell? ⟨sb, 1, none⟩ = some (.int .i64 ack)) (hrise : ∀ r ∈ l, (l.headD r).1 ≤ r.1) :
    Calls Tryz.prog 104 #[kv, delF sb] w fun e w' => ∃ kv', KeptOn g w' kv' (keptAfter ack l) ∧ e = .returned kv' ∧ But g w w' := by
  cases hl : l with
  | nil =>
    subst hl
    exact delete_none g sb ack [] kv w hk h3 hs (by simp)
  | cons r t =>
    obtain ⟨q, v⟩ := r
    by_cases hq : q ≤ ack
    · rcases hk with ⟨_, h⟩ | ⟨cap, rfl, hr⟩
      · rw [h] at hl; cases hl
      · rw [← hl]
        exact delete_some g sb cap ack q v t l hl w hr hne hs hq
    · rw [← hl]
      refine delete_none g sb ack l kv w hk h3 hs (fun r hr => ?_)
      have := hrise r hr
      rw [hl] at this
      simp at this
      omega
end Go.Proofs.YteabfjpajgakiagGreat
