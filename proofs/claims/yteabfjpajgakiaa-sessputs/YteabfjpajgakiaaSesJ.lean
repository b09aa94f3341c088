/- sess.Put. -/
import Derived.Test.YteabfjpajgakiaaSesI
set_option linter.unusedSimpArgs false
set_option linter.unusedVariables false
set_option maxRecDepth 10000
namespace Go.Proofs.Yteabfjpajgakiaa
open Go.RowKit

def putList (L : List Ses) (s : Ses) : List Ses := L.filter (fun o => decide (o.client < s.client)) ++ [s] ++ L.filter (fun o => decide (s.client < o.client))
/-- Put's answer. -/
def putErr (L : List Ses) (s : Ses) : Int :=
  if tabErr L == 0 then (if sesErr s == 0 then (if 3 < (putList L s).length then 2 else 0) else sesErr s) else tabErr L
def putTab (L : List Ses) (s : Ses) : List Ses := if putErr L s == 0 then putList L s else []

theorem box_ses (w : World) (s : Ses) (k : Value) : (w.alloc (.cells #[.int .i64 s.client, .int .i64 s.acked, .int .i64 s.seen, k] 34)).cell? ⟨w.heap.size, 0, none⟩ = some (.int .i64 s.client) := by simp

set_option maxHeartbeats 1000000 in
theorem sess_put_err (L : List Ses) (v : Value) (s : Ses) (kv : Value) (w : World) (hT : TabAt w v L) (hK : KeptAt w kv s.kept) (hne : ((tabErr L == 0) && (sesErr s == 0)) = false) :
    Calls Try.prog 20 #[v, sesV s kv] w fun e w' => ∃ v', OwnTab w.heap.size w' v' (putTab L s) ∧ e = .returned (.tuple #[v', .int .i64 (putErr L s)]) ∧ Keeps w w' := by
  obtain ⟨a, cap, rfl, hlen⟩ := hT.len
  obtain ⟨ka, kc, rfl, _⟩ := hK.len
  unfold maxLen at hlen
  have HT : Hid (TabAt (w.alloc (.cells #[.int .i64 s.client, .int .i64 s.acked, .int .i64 s.seen, .slice ka s.kept.length kc] 34)) (.slice a L.length cap) L) := hT.keep ((Keeps.refl w).alloc _)
  have HK : Hid (KeptAt (w.alloc (.cells #[.int .i64 s.client, .int .i64 s.acked, .int .i64 s.seen, .slice ka s.kept.length kc] 34)) (.slice ka s.kept.length kc) s.kept) := hK.keep ((Keeps.refl w).alloc _)
  clear hT hK
  go_enter Try.func20, Try.ntmps20
  go_wp2_with fail
  refine (sess_check L _ _ HT.out).mono ?_
  rintro e w1 ⟨rfl, hb⟩
  have HB : Hid (Keeps (w.alloc (.cells #[.int .i64 s.client, .int .i64 s.acked, .int .i64 s.seen, .slice ka s.kept.length kc] 34)) w1) := hb
  have hk1 : Keeps w w1 := ((Keeps.refl _).alloc _).trans hb
  obtain ⟨hc, hf⟩ := hb.cells
  have hz := hb.size
  simp only [World.size_alloc] at hc hf hz
  have hz1 : w.heap.size < w1.heap.size := by omega
  clear hb
  cases he : (tabErr L == 0) with
  | false =>
    have he' : (tabErr L != 0) = true := by simp [bne, he]
    have HE : Hid (putErr L s = tabErr L ∧ putTab L s = []) := by
      have h1 : putErr L s = tabErr L := by simp [putErr, he]
      exact ⟨h1, by simp [putTab, h1, he]⟩
    go_wp2_with fail
    go_ret2
    exact ⟨.slice none 0 0, by rw [HE.out.2]; exact OwnTab.nil _ _, by rw [HE.out.1]; rfl, hk1⟩
  | true =>
    have he' : (tabErr L != 0) = false := by simp [bne, he]
    have hs : (sesErr s == 0) = false := by simpa [he] using hne
    have hs' : (sesErr s != 0) = true := by simp [bne, hs]
    have HE : Hid (putErr L s = sesErr s ∧ putTab L s = []) := by
      have h1 : putErr L s = sesErr s := by simp [putErr, he, hs]
      exact ⟨h1, by simp [putTab, h1, hs]⟩
    go_wp2_with fail
    refine (check_one s _ _ (HK.out.keep HB.out)).mono ?_
    rintro e w2 ⟨rfl, hb2⟩
    have hk2 : Keeps w w2 := hk1.trans hb2
    clear hb2
    go_wp2_with fail
    go_ret2
    exact ⟨.slice none 0 0, by rw [HE.out.2]; exact OwnTab.nil _ _, by rw [HE.out.1]; rfl, hk2⟩

set_option maxHeartbeats 2000000 in
theorem sess_put_ok (L : List Ses) (v : Value) (s : Ses) (kv : Value) (w : World) (hT : TabAt w v L) (hK : KeptAt w kv s.kept) (he : (tabErr L == 0) = true) (hs : (sesErr s == 0) = true) :
    Calls Try.prog 20 #[v, sesV s kv] w fun e w' => ∃ v', OwnTab w.heap.size w' v' (putTab L s) ∧ e = .returned (.tuple #[v', .int .i64 (putErr L s)]) ∧ Keeps w w' := by
  obtain ⟨a, cap, rfl, hlen⟩ := hT.len
  obtain ⟨ka, kc, rfl, _⟩ := hK.len
  unfold maxLen at hlen
  have HT : Hid (TabAt (w.alloc (.cells #[.int .i64 s.client, .int .i64 s.acked, .int .i64 s.seen, .slice ka s.kept.length kc] 34)) (.slice a L.length cap) L) := hT.keep ((Keeps.refl w).alloc _)
  have HK : Hid (KeptAt (w.alloc (.cells #[.int .i64 s.client, .int .i64 s.acked, .int .i64 s.seen, .slice ka s.kept.length kc] 34)) (.slice ka s.kept.length kc) s.kept) := hK.keep ((Keeps.refl w).alloc _)
  clear hT hK
  have he' : (tabErr L != 0) = false := by simp [bne, he]
  have hs' : (sesErr s != 0) = false := by simp [bne, hs]
  have HR : Hid (L.length ≤ 3 ∧ (∀ s ∈ L, sesErr s = 0) ∧ rising L = true) := tab_right (by simpa using he)
  have hn3 : s.kept.length ≤ 3 := kept_le (by simpa using hs)
  have HL : Hid (L.length ≤ 3) := HR.out.1
  go_enter Try.func20, Try.ntmps20
  go_wp2_with fail
  refine (sess_check L _ _ HT.out).mono ?_
  rintro e w1 ⟨rfl, hb⟩
  have HB : Hid (Keeps (w.alloc (.cells #[.int .i64 s.client, .int .i64 s.acked, .int .i64 s.seen, .slice ka s.kept.length kc] 34)) w1) := hb
  obtain ⟨hc, hf⟩ := hb.cells
  have hz := hb.size
  simp only [World.size_alloc] at hc hf hz
  clear hb hf
  go_wp2_with fail
  refine (check_one s _ _ (HK.out.keep HB.out)).mono ?_
  rintro e w2 ⟨rfl, hb2⟩
  have HB2 : Hid (Keeps (w.alloc (.cells #[.int .i64 s.client, .int .i64 s.acked, .int .i64 s.seen, .slice ka s.kept.length kc] 34)) w2) := HB.out.trans hb2
  clear hb2 hc hz HB
  go_wp2_with fail
  refine (those_c 44 (.pointer (some ⟨w.heap.size, 0, none⟩)) (fun o => decide (o.client < s.client)) L _ _ (HT.out.keep HB2.out) HR.out.1 (fun s hs => kept_le (HR.out.2.1 s hs)) fn44 ?_).mono ?_
  · exact fun W o kv hW hk => less_c _ _ o kv W (cell_keep (cell_keep (box_ses w s _) HB2.out) hW) hk
  rintro e w3 ⟨v3, ho3, rfl, hb3⟩
  have HB3 : Hid (Keeps (w.alloc (.cells #[.int .i64 s.client, .int .i64 s.acked, .int .i64 s.seen, .slice ka s.kept.length kc] 34)) w3) := HB2.out.trans hb3
  have HO3 : Hid (OwnTab (w.heap.size + 1) w3 v3 (L.filter (fun o => decide (o.client < s.client)))) := ho3.base (by have := HB2.out.size; simpa using this)
  clear ho3 hb3 HB2
  obtain ⟨hc, hf⟩ := HB3.out.cells
  simp only [World.size_alloc] at hc hf
  clear hf
  go_wp2_with fail
  refine (twin_c s _ _ (HK.out.keep HB3.out) hn3).mono ?_
  rintro e w4 ⟨kv', ho, rfl, hb4⟩
  obtain ⟨va, vc, rfl⟩ : ∃ va vc, kv' = .slice va s.kept.length vc := by obtain ⟨x, y, h, _⟩ := (RowAt.of_owns ho).len; exact ⟨x, y, h⟩
  have HB4 : Hid (Keeps (w.alloc (.cells #[.int .i64 s.client, .int .i64 s.acked, .int .i64 s.seen, .slice ka s.kept.length kc] 34)) w4) := HB3.out.trans hb4
  have hw3 : w.heap.size + 1 ≤ w3.heap.size := by have := HB3.out.size; simpa using this
  have hw4 : w.heap.size + 1 ≤ w4.heap.size := by have := HB4.out.size; simpa using this
  have hM : KeptsOwn (w.heap.size + 1) (w4.alloc (.cells #[.int .i64 s.client, .int .i64 s.acked, .int .i64 s.seen, .slice va s.kept.length vc] 34)) [s] [.slice va s.kept.length vc] := ⟨owns_keep (owns_base ho hw3) ((Keeps.refl _).alloc _), trivial⟩
  have hl1 : (L.filter (fun o => decide (o.client < s.client))).length ≤ 3 := Nat.le_trans (List.length_filter_le _ _) HL.out
  have hl2 : (L.filter (fun o => decide (s.client < o.client))).length ≤ 3 := Nat.le_trans (List.length_filter_le _ _) HL.out
  obtain ⟨v5, w5, hr, hO5, hg, hbk⟩ := run_append_tab (w4.alloc (.cells #[.int .i64 s.client, .int .i64 s.acked, .int .i64 s.seen, .slice va s.kept.length vc] 34)) (w.heap.size + 1) v3 _ ((HO3.out.keep hb4).keep ((Keeps.refl _).alloc _)) _ [s] _ hM (row_one w4 s _) (by simp; omega) (by simp; omega)
  have hkb : Keeps (w.alloc (.cells #[.int .i64 s.client, .int .i64 s.acked, .int .i64 s.seen, .slice ka s.kept.length kc] 34)) w4 := HB4.out
  have HB5 : Hid (Keeps (w.alloc (.cells #[.int .i64 s.client, .int .i64 s.acked, .int .i64 s.seen, .slice ka s.kept.length kc] 34)) w5) := keeps_grown (HB4.out.alloc _) hg (by simpa using hbk)
  have Hr := (show Hid (_ = _) from hr)
  have HO5 : Hid (OwnTab (w.heap.size + 1) w5 v5 (L.filter (fun o => decide (o.client < s.client)) ++ [s])) := hO5
  clear hr hM hO5 hg hbk ho hb4 hkb hc HB4 HO3 HB3
  go_wp2_with (at_builtin; refine wpList_append_run rfl _ _ _ rfl rfl rfl Hr.out ?_)
  refine (those_c 45 (.pointer (some ⟨w.heap.size, 0, none⟩)) (fun o => decide (s.client < o.client)) L _ _ (HT.out.keep HB5.out) HR.out.1 (fun s hs => kept_le (HR.out.2.1 s hs)) fn45 ?_).mono ?_
  · exact fun W o kv hW hk => more_than_c _ _ o kv W (cell_keep (cell_keep (box_ses w s _) HB5.out) hW) hk
  rintro e w6 ⟨v6, ho6, rfl, hb6⟩
  have hw5 : w.heap.size + 1 ≤ w5.heap.size := by have := HB5.out.size; simpa using this
  have HB6 : Hid (Keeps (w.alloc (.cells #[.int .i64 s.client, .int .i64 s.acked, .int .i64 s.seen, .slice ka s.kept.length kc] 34)) w6) := HB5.out.trans hb6
  have hw6 : w.heap.size + 1 ≤ w6.heap.size := by have := HB6.out.size; simpa using this
  obtain ⟨ms, hm1, hm2⟩ := ho6.base hw5
  obtain ⟨v7, w7, hr, hO7, hg, hbk⟩ := run_append_tab w6 (w.heap.size + 1) v5 _ (HO5.out.keep hb6) v6 _ ms hm1 (RowAt.of_owns hm2) (by simp; omega) hw6
  have hk7 : Keeps w w7 := ((Keeps.refl w).alloc _).trans (keeps_grown HB6.out hg (by simpa using hbk))
  have hO7' : OwnTab w.heap.size w7 v7 (putList L s) := hO7.base (by omega)
  obtain ⟨va7, vc7, hv7, _⟩ := hO7'.tab.len
  subst hv7
  have Hr2 := (show Hid (_ = _) from hr)
  have HO7 : Hid (OwnTab w.heap.size w7 (.slice va7 (putList L s).length vc7) (putList L s)) := hO7'
  have hpl : (putList L s).length ≤ 7 := by simp only [putList, List.length_append, List.length_cons, List.length_nil]; omega
  clear hr hm1 hm2 hg hbk ho6 hb6 hO7 hO7' HO5 HB5 HB6
  cases hq : decide (3 < (putList L s).length) with
  | true =>
    have hq1 : 3 < (putList L s).length := by simpa using hq
    have HE : Hid (putErr L s = 2 ∧ putTab L s = []) := by
      have h1 : putErr L s = 2 := by simp [putErr, he, hs, hq1]
      exact ⟨h1, by simp [putTab, h1]⟩
    generalize (putList L s).length = n at *
    go_wp2_with (at_builtin; refine wpList_append_run rfl _ _ _ rfl rfl rfl Hr2.out ?_)
    go_ret2
    exact ⟨.slice none 0 0, by rw [HE.out.2]; exact OwnTab.nil _ _, by rw [HE.out.1]; rfl, hk7⟩
  | false =>
    have hq1 : ¬ 3 < (putList L s).length := by simpa using hq
    have HE : Hid (putErr L s = 0 ∧ putTab L s = putList L s) := by
      have h1 : putErr L s = 0 := by simp [putErr, he, hs, hq1]
      exact ⟨h1, by simp [putTab, h1]⟩
    go_wp2_with (at_builtin; refine wpList_append_run rfl _ _ _ rfl rfl rfl Hr2.out ?_)
    go_ret2
    exact ⟨_, by rw [HE.out.2]; exact HO7.out, by rw [HE.out.1]; rfl, hk7⟩

/-- sess.Put. -/
theorem sess_put (L : List Ses) (v : Value) (s : Ses) (kv : Value) (w : World) (hT : TabAt w v L) (hK : KeptAt w kv s.kept) :
    Calls Try.prog 20 #[v, sesV s kv] w fun e w' => ∃ v', OwnTab w.heap.size w' v' (putTab L s) ∧ e = .returned (.tuple #[v', .int .i64 (putErr L s)]) ∧ Keeps w w' := by
  cases h : ((tabErr L == 0) && (sesErr s == 0)) with
  | false => exact sess_put_err L v s kv w hT hK h
  | true =>
    simp only [Bool.and_eq_true] at h
    exact sess_put_ok L v s kv w hT hK h.1 h.2
end Go.Proofs.Yteabfjpajgakiaa
