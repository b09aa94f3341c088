/- The reference's PutOf. -/
import Derived.Test.YteabfjpajgakiaaSesK
set_option linter.unusedSimpArgs false
set_option linter.unusedVariables false
set_option maxRecDepth 10000
namespace Go.Proofs.Yteabfjpajgakiaa
open Go.RowKit

/-- As the reference puts. -/
def insAux (s : Ses) : Bool → List Ses → List Ses
  | d, [] => if d then [] else [s]
  | d, o :: r => (if !d && decide (s.client ≤ o.client) then [s] else []) ++ ((if o.client != s.client then [o] else []) ++ insAux s (d || decide (s.client ≤ o.client)) r)

/-- The cells of a table at a known address. -/
theorem TabAt.cells {w : World} {b off cap : Nat} {L : List Ses} (h : TabAt w (.slice (some ⟨b, off, none⟩) L.length cap) L) (i : Nat) (hi : i < L.length) (o : Ses) (ho : L[i] = o) :
    w.cell? ⟨b, off + i * 4, none⟩ = some (.int .i64 o.client) ∧ w.cell? ⟨b, off + i * 4 + 1, none⟩ = some (.int .i64 o.acked) ∧
        w.cell? ⟨b, off + i * 4 + 2, none⟩ = some (.int .i64 o.seen) ∧ ∃ ka kc, w.cell? ⟨b, off + i * 4 + 3, none⟩ = some (.slice ka o.kept.length kc) ∧ KeptAt w (.slice ka o.kept.length kc) o.kept := by
  obtain ⟨b', off', cap', hv, hcell⟩ := h.at hi
  injection hv with h1 _ _
  injection h1 with h1
  injection h1 with h1 h2 _
  subst h1 h2 ho
  exact hcell i hi

theorem insAux_at (s : Ses) (d : Bool) {L : List Ses} {k : Nat} (h : k < L.length) :
    insAux s d (L.drop k) = (if !d && decide (s.client ≤ (L[k]).client) then [s] else []) ++ ((if (L[k]).client != s.client then [L[k]] else []) ++ insAux s (d || decide (s.client ≤ (L[k]).client)) (L.drop (k + 1))) := by
  rw [List.drop_eq_getElem_cons h]; rfl

theorem rising_lt : ∀ {r : List Ses} {o : Ses}, rising (o :: r) = true → ∀ x ∈ r, o.client < x.client
  | [], _, _, x, hx => by cases hx
  | a :: r, o, h, x, hx => by
    simp only [rising, Bool.and_eq_true, decide_eq_true_eq] at h
    rcases List.mem_cons.1 hx with rfl | hx
    · exact h.1
    · exact Int.lt_trans h.1 (rising_lt h.2 x hx)
theorem rising_tail {r : List Ses} {o : Ses} (h : rising (o :: r) = true) : rising r = true := by
  cases r with
  | nil => rfl
  | cons a r => simp only [rising, Bool.and_eq_true] at h; exact h.2

theorem insAux_true (s : Ses) : ∀ (L : List Ses), insAux s true L = L.filter (fun o => o.client != s.client)
  | [] => rfl
  | o :: r => by
    simp only [insAux, Bool.not_true, Bool.false_and, Bool.true_or, insAux_true s r, List.filter_cons]
    cases (o.client != s.client) <;> simp

theorem insAux_put (s : Ses) : ∀ (L : List Ses), rising L = true → insAux s false L = putList L s
  | [], _ => rfl
  | o :: r, h => by
    have ih := insAux_put s r (rising_tail h)
    have hlt := rising_lt h
    by_cases hle : s.client ≤ o.client
    · have e1 : (o :: r).filter (fun x => decide (x.client < s.client)) = [] := by
        rw [List.filter_eq_nil_iff]
        intro x hx
        rcases List.mem_cons.1 hx with rfl | hx
        · simp; omega
        · have := hlt x hx; simp; omega
      have e2 : r.filter (fun x => x.client != s.client) = r.filter (fun x => decide (s.client < x.client)) := by
        apply List.filter_congr
        intro x hx
        have := hlt x hx
        rw [Bool.eq_iff_iff]; simp; omega
      have e3 : (o.client != s.client) = decide (s.client < o.client) := by rw [Bool.eq_iff_iff]; simp; omega
      unfold putList
      rw [e1]
      simp only [insAux, hle, decide_true, Bool.not_false, Bool.and_self, if_true, Bool.or_true, insAux_true, e2, e3, List.filter_cons]
      cases decide (s.client < o.client) <;> simp
    · have h1 : decide (s.client ≤ o.client) = false := by simp; omega
      have h2 : (o.client != s.client) = true := by simp; omega
      have h3 : decide (o.client < s.client) = true := by simp; omega
      have h4 : decide (s.client < o.client) = false := by simp; omega
      simp only [insAux, h1, h2, Bool.not_false, Bool.and_false, Bool.or_self, if_true, Bool.false_eq_true, if_false, List.nil_append, ih]
      simp [putList, List.filter_cons, h3, h4]

set_option maxHeartbeats 1000000 in
theorem put_of_err (L : List Ses) (v : Value) (s : Ses) (kv : Value) (w : World) (hT : TabAt w v L) (hK : KeptAt w kv s.kept) (hne : ((tabErr L == 0) && (sesErr s == 0)) = false) :
    Calls Try.prog 22 #[v, sesV s kv] w fun e w' => ∃ v', OwnTab w.heap.size w' v' (putTab L s) ∧ e = .returned (.tuple #[v', .int .i64 (putErr L s)]) ∧ Keeps w w' := by
  obtain ⟨a, cap, rfl, hlen⟩ := hT.len
  obtain ⟨ka, kc, rfl, _⟩ := hK.len
  unfold maxLen at hlen
  have HT : Hid (TabAt (w.alloc (.cells #[.int .i64 s.client, .int .i64 s.acked, .int .i64 s.seen, .slice ka s.kept.length kc] 34)) (.slice a L.length cap) L) := hT.keep ((Keeps.refl w).alloc _)
  have HK : Hid (KeptAt (w.alloc (.cells #[.int .i64 s.client, .int .i64 s.acked, .int .i64 s.seen, .slice ka s.kept.length kc] 34)) (.slice ka s.kept.length kc) s.kept) := hK.keep ((Keeps.refl w).alloc _)
  clear hT hK
  go_enter Try.func22, Try.ntmps22
  go_wp2_with fail
  refine (table_error L _ _ HT.out).mono ?_
  rintro e w1 ⟨rfl, hb⟩
  have HB : Hid (Keeps (w.alloc (.cells #[.int .i64 s.client, .int .i64 s.acked, .int .i64 s.seen, .slice ka s.kept.length kc] 34)) w1) := hb
  have hk1 : Keeps w w1 := ((Keeps.refl _).alloc _).trans hb
  obtain ⟨hc, hf⟩ := hb.cells
  have hz := hb.size
  simp only [World.size_alloc] at hc hf hz
  have hz1 : w.heap.size < w1.heap.size := by omega
  clear hb
  cases he : (tabErr L == 0) with
  | false =>
    have he' : (tabErr L != 0) = true := by simp [bne, he]
    have HE : Hid (putErr L s = tabErr L ∧ putTab L s = []) := by
      have h1 : putErr L s = tabErr L := by simp [putErr, he]
      exact ⟨h1, by simp [putTab, h1, he]⟩
    go_wp2_with fail
    go_ret2
    exact ⟨.slice none 0 0, by rw [HE.out.2]; exact OwnTab.nil _ _, by rw [HE.out.1]; rfl, hk1⟩
  | true =>
    have he' : (tabErr L != 0) = false := by simp [bne, he]
    have hs : (sesErr s == 0) = false := by simpa [he] using hne
    have hs' : (sesErr s != 0) = true := by simp [bne, hs]
    have HE : Hid (putErr L s = sesErr s ∧ putTab L s = []) := by
      have h1 : putErr L s = sesErr s := by simp [putErr, he, hs]
      exact ⟨h1, by simp [putTab, h1, hs]⟩
    go_wp2_with fail
    refine (one_error s _ _ (HK.out.keep HB.out)).mono ?_
    rintro e w2 ⟨rfl, hb2⟩
    have hk2 : Keeps w w2 := hk1.trans hb2
    clear hb2
    go_wp2_with fail
    go_ret2
    exact ⟨.slice none 0 0, by rw [HE.out.2]; exact OwnTab.nil _ _, by rw [HE.out.1]; rfl, hk2⟩


set_option maxHeartbeats 4000000 in
theorem put_of_ok (L : List Ses) (v : Value) (s : Ses) (kv : Value) (w : World) (hT : TabAt w v L) (hK : KeptAt w kv s.kept) (he : (tabErr L == 0) = true) (hs : (sesErr s == 0) = true) :
    Calls Try.prog 22 #[v, sesV s kv] w fun e w' => ∃ v', OwnTab w.heap.size w' v' (putTab L s) ∧ e = .returned (.tuple #[v', .int .i64 (putErr L s)]) ∧ Keeps w w' := by
  obtain ⟨a, cap, rfl, hlen⟩ := hT.len
  obtain ⟨ka, kc, rfl, _⟩ := hK.len
  unfold maxLen at hlen
  have HT : Hid (TabAt (w.alloc (.cells #[.int .i64 s.client, .int .i64 s.acked, .int .i64 s.seen, .slice ka s.kept.length kc] 34)) (.slice a L.length cap) L) := hT.keep ((Keeps.refl w).alloc _)
  have HK : Hid (KeptAt (w.alloc (.cells #[.int .i64 s.client, .int .i64 s.acked, .int .i64 s.seen, .slice ka s.kept.length kc] 34)) (.slice ka s.kept.length kc) s.kept) := hK.keep ((Keeps.refl w).alloc _)
  clear hT hK
  have he' : (tabErr L != 0) = false := by simp [bne, he]
  have hs' : (sesErr s != 0) = false := by simp [bne, hs]
  have HR : Hid (L.length ≤ 3 ∧ (∀ s ∈ L, sesErr s = 0) ∧ rising L = true) := tab_right (by simpa using he)
  have HP : Hid (insAux s false L = putList L s) := insAux_put s L HR.out.2.2
  have hn3 : s.kept.length ≤ 3 := kept_le (by simpa using hs)
  have hL3 : L.length ≤ 3 := HR.out.1
  go_enter Try.func22, Try.ntmps22
  go_wp2_with fail
  refine (table_error L _ _ HT.out).mono ?_
  rintro e w1 ⟨rfl, hb⟩
  have HB : Hid (Keeps (w.alloc (.cells #[.int .i64 s.client, .int .i64 s.acked, .int .i64 s.seen, .slice ka s.kept.length kc] 34)) w1) := hb
  have g0 : (w1).cell? ⟨w.heap.size, 0, none⟩ = some (.int .i64 s.client) := cell_keep (box_ses w s _) hb
  have g1 : (w1).cell? ⟨w.heap.size, 1, none⟩ = some (.int .i64 s.acked) := cell_keep (by simp) hb
  have g2 : (w1).cell? ⟨w.heap.size, 2, none⟩ = some (.int .i64 s.seen) := cell_keep (by simp) hb
  have g3 : (w1).cell? ⟨w.heap.size, 3, none⟩ = some (.slice ka s.kept.length kc) := cell_keep (by simp) hb
  clear hb
  go_wp2_with fail
  clear g0 g1 g2 g3
  refine (one_error s _ _ (HK.out.keep HB.out)).mono ?_
  rintro e w2 ⟨rfl, hb2⟩
  have HB2 : Hid (Keeps (w.alloc (.cells #[.int .i64 s.client, .int .i64 s.acked, .int .i64 s.seen, .slice ka s.kept.length kc] 34)) w2) := HB.out.trans hb2
  clear hb2 HB
  go_wp2_with fail
  go_loopw [8, 9, 10] (fun o dn i wr => ∃ (k : Nat) (d : Bool) (O : List Ses), k ≤ L.length ∧ i = .int .i64 k ∧ dn = .bool d ∧ O.length ≤ 2 * k ∧ Hid (Keeps (w.alloc (.cells #[.int .i64 s.client, .int .i64 s.acked, .int .i64 s.seen, .slice ka s.kept.length kc] 34)) wr) ∧ Hid (OwnTab (w.heap.size + 1) wr o O) ∧ Hid (insAux s false L = O ++ insAux s d (L.drop k))) (fun _ _ i _ => L.length - (intOf i).toNat)
  case atStart => exact ⟨0, false, [], Nat.zero_le _, rfl, rfl, Nat.zero_le _, HB2, OwnTab.nil _ _, rfl⟩
  case round =>
    obtain ⟨k, d, O, hk, rfl, rfl, hOl, HBr, HO, HQ⟩ := hrel
    clear HB2
    have g0 : (wr).cell? ⟨w.heap.size, 0, none⟩ = some (.int .i64 s.client) := cell_keep (box_ses w s _) HBr.out
    have g1 : (wr).cell? ⟨w.heap.size, 1, none⟩ = some (.int .i64 s.acked) := cell_keep (by simp) HBr.out
    have g2 : (wr).cell? ⟨w.heap.size, 2, none⟩ = some (.int .i64 s.seen) := cell_keep (by simp) HBr.out
    have g3 : (wr).cell? ⟨w.heap.size, 3, none⟩ = some (.slice ka s.kept.length kc) := cell_keep (by simp) HBr.out
    by_cases hlt : k < L.length
    · obtain ⟨b, off, cap', hv, hcell⟩ := (HT.out.keep HBr.out).at hlt
      injection hv with hv1 hv2 hv3
      subst hv1
      clear hv2 hv3 hcell
      have ho3 : (L[k]).kept.length ≤ 3 := kept_le (HR.out.2.1 _ (List.getElem_mem hlt))
      have HS : Hid (insAux s false L = O ++ ((if !d && decide (s.client ≤ (L[k]).client) then [s] else []) ++ ((if (L[k]).client != s.client then [L[k]] else []) ++ insAux s (d || decide (s.client ≤ (L[k]).client)) (L.drop (k + 1))))) := by show _ = _; rw [HQ.out, insAux_at s d hlt]
      generalize hoe : L[k] = o at *
      have HOE : Hid (L[k] = o) := hoe
      clear hoe HQ
      obtain ⟨c0, c1, c2, oa, oc, c3, hkv⟩ := TabAt.cells (HT.out.keep HBr.out) k hlt o HOE.out
      have HKV : Hid (KeptAt wr (.slice oa o.kept.length oc) o.kept) := hkv
      clear hkv
      have hxb : w.heap.size < wr.heap.size := World.block_lt_of_cell? _ _ g0
      have hcb : b < wr.heap.size := World.block_lt_of_cell? _ _ c0
      cases hd : d with
      | true =>
        subst hd
        cases hn : (o.client != s.client) with
        | true =>
          have HN : Hid (insAux s false L = (O ++ [o]) ++ insAux s true (L.drop (k + 1))) := by show _ = _; rw [HS.out, hn]; simp
          clear HS
          go_wp2_with fail
          go_quiet (fail)
          go_wp2_with fail
          go_quiet (fail)
          go_wp2_with fail
          refine (own_c o _ _ (HKV.out.keep ((Keeps.refl _).drewN _)) ho3).mono ?_
          rintro e y3 ⟨kv3, ho, rfl, hb⟩
          obtain ⟨va3, vc3, rfl⟩ : ∃ va vc, kv3 = .slice va o.kept.length vc := by obtain ⟨x, y, h, _⟩ := (RowAt.of_owns ho).len; exact ⟨x, y, h⟩
          have HY3 : Hid (Keeps (w.alloc (.cells #[.int .i64 s.client, .int .i64 s.acked, .int .i64 s.seen, .slice ka s.kept.length kc] 34)) y3) := (HBr.out.drewN _).trans hb
          have hm2 : w.heap.size + 1 ≤ y3.heap.size := by have := HY3.out.size; simpa using this
          have ho' := owns_base (base' := w.heap.size + 1) ho (by have := HBr.out.size; simp at this ⊢; omega)
          have hM : KeptsOwn (w.heap.size + 1) (y3.alloc (.cells #[.int .i64 o.client, .int .i64 o.acked, .int .i64 o.seen, .slice va3 o.kept.length vc3] 34)) [o] [.slice va3 o.kept.length vc3] := ⟨owns_keep ho' ((Keeps.refl _).alloc _), trivial⟩
          obtain ⟨v3, w3, hr, hO', hg, hbk⟩ := run_append_tab (y3.alloc (.cells #[.int .i64 o.client, .int .i64 o.acked, .int .i64 o.seen, .slice va3 o.kept.length vc3] 34)) (w.heap.size + 1) _ (O) (((HO.out.keep ((Keeps.refl _).drewN _)).keep hb).keep ((Keeps.refl _).alloc _)) _ [o] _ hM (row_one y3 o _) (by simp; omega) (by simp; omega)
          obtain ⟨xa3, n3, xc3, hxv, hxn⟩ : ∃ xa n xc, v3 = .slice xa n xc ∧ n = (O ++ [o]).length := by obtain ⟨p, q, h, _⟩ := hO'.tab.len; exact ⟨p, _, q, h, rfl⟩
          subst hxv
          have HX3 : Hid (n3 = (O ++ [o]).length) := hxn
          have hx3 : n3 ≤ 9 := by rw [hxn]; simp; omega
          clear hxn
          have HB3 : Hid (Keeps (w.alloc (.cells #[.int .i64 s.client, .int .i64 s.acked, .int .i64 s.seen, .slice ka s.kept.length kc] 34)) w3) := keeps_grown (HY3.out.alloc _) hg (by simpa using hbk)
          have Hr3 := (show Hid (_ = _) from hr)
          have HO3 : Hid (OwnTab (w.heap.size + 1) w3 _ (O ++ [o])) := hO'
          clear hr hM hO' hg hbk ho ho' hb hm2 HY3
          go_wp2_with (at_builtin; refine wpList_append_run rfl _ _ _ rfl rfl rfl Hr3.out ?_)
          go_roundw
          case rel => exact ⟨k + 1, true, O ++ [o], by omega, by go_num, rfl, by first | omega | (simp; omega), HB3, HO3, HN⟩
          case measure => simp [intOf]; omega
        | false =>
          have HN : Hid (insAux s false L = O ++ insAux s true (L.drop (k + 1))) := by show _ = _; rw [HS.out, hn]; simp
          clear HS
          go_wp2_with fail
          go_quiet (fail)
          go_wp2_with fail
          go_quiet (fail)
          go_wp2_with fail
          go_roundw
          case rel => exact ⟨k + 1, true, O, by omega, by go_num, rfl, by first | omega | (simp; omega), HBr.out.drewN _, HO.out.keep ((Keeps.refl _).drewN _), HN⟩
          case measure => simp [intOf]; omega
      | false =>
        subst hd
        cases hle : decide (s.client ≤ o.client) with
        | false =>
          have hn : (o.client != s.client) = true := by simp at hle ⊢; omega
          have HN : Hid (insAux s false L = (O ++ [o]) ++ insAux s false (L.drop (k + 1))) := by show _ = _; rw [HS.out, hn, hle]; simp
          clear HS
          go_wp2_with fail
          go_quiet (fail)
          go_wp2_with fail
          go_quiet (fail)
          go_wp2_with fail
          refine (own_c o _ _ (HKV.out.keep ((Keeps.refl _).drewN _)) ho3).mono ?_
          rintro e y3 ⟨kv3, ho, rfl, hb⟩
          obtain ⟨va3, vc3, rfl⟩ : ∃ va vc, kv3 = .slice va o.kept.length vc := by obtain ⟨x, y, h, _⟩ := (RowAt.of_owns ho).len; exact ⟨x, y, h⟩
          have HY3 : Hid (Keeps (w.alloc (.cells #[.int .i64 s.client, .int .i64 s.acked, .int .i64 s.seen, .slice ka s.kept.length kc] 34)) y3) := (HBr.out.drewN _).trans hb
          have hm2 : w.heap.size + 1 ≤ y3.heap.size := by have := HY3.out.size; simpa using this
          have ho' := owns_base (base' := w.heap.size + 1) ho (by have := HBr.out.size; simp at this ⊢; omega)
          have hM : KeptsOwn (w.heap.size + 1) (y3.alloc (.cells #[.int .i64 o.client, .int .i64 o.acked, .int .i64 o.seen, .slice va3 o.kept.length vc3] 34)) [o] [.slice va3 o.kept.length vc3] := ⟨owns_keep ho' ((Keeps.refl _).alloc _), trivial⟩
          obtain ⟨v3, w3, hr, hO', hg, hbk⟩ := run_append_tab (y3.alloc (.cells #[.int .i64 o.client, .int .i64 o.acked, .int .i64 o.seen, .slice va3 o.kept.length vc3] 34)) (w.heap.size + 1) _ (O) (((HO.out.keep ((Keeps.refl _).drewN _)).keep hb).keep ((Keeps.refl _).alloc _)) _ [o] _ hM (row_one y3 o _) (by simp; omega) (by simp; omega)
          obtain ⟨xa3, n3, xc3, hxv, hxn⟩ : ∃ xa n xc, v3 = .slice xa n xc ∧ n = (O ++ [o]).length := by obtain ⟨p, q, h, _⟩ := hO'.tab.len; exact ⟨p, _, q, h, rfl⟩
          subst hxv
          have HX3 : Hid (n3 = (O ++ [o]).length) := hxn
          have hx3 : n3 ≤ 9 := by rw [hxn]; simp; omega
          clear hxn
          have HB3 : Hid (Keeps (w.alloc (.cells #[.int .i64 s.client, .int .i64 s.acked, .int .i64 s.seen, .slice ka s.kept.length kc] 34)) w3) := keeps_grown (HY3.out.alloc _) hg (by simpa using hbk)
          have Hr3 := (show Hid (_ = _) from hr)
          have HO3 : Hid (OwnTab (w.heap.size + 1) w3 _ (O ++ [o])) := hO'
          clear hr hM hO' hg hbk ho ho' hb hm2 HY3
          go_wp2_with (at_builtin; refine wpList_append_run rfl _ _ _ rfl rfl rfl Hr3.out ?_)
          go_roundw
          case rel => exact ⟨k + 1, false, O ++ [o], by omega, by go_num, rfl, by first | omega | (simp; omega), HB3, HO3, HN⟩
          case measure => simp [intOf]; omega
        | true =>
          go_wp2_with fail
          go_quiet (fail)
          go_wp2_with fail
          refine (own_c s _ _ ((HK.out.keep HBr.out).keep ((Keeps.refl _).drewN _)) hn3).mono ?_
          rintro e y3 ⟨kv3, ho, rfl, hb⟩
          obtain ⟨va3, vc3, rfl⟩ : ∃ va vc, kv3 = .slice va s.kept.length vc := by obtain ⟨x, y, h, _⟩ := (RowAt.of_owns ho).len; exact ⟨x, y, h⟩
          have HY3 : Hid (Keeps (w.alloc (.cells #[.int .i64 s.client, .int .i64 s.acked, .int .i64 s.seen, .slice ka s.kept.length kc] 34)) y3) := (HBr.out.drewN _).trans hb
          have hm2 : w.heap.size + 1 ≤ y3.heap.size := by have := HY3.out.size; simpa using this
          have ho' := owns_base (base' := w.heap.size + 1) ho (by have := HBr.out.size; simp at this ⊢; omega)
          have hM : KeptsOwn (w.heap.size + 1) (y3.alloc (.cells #[.int .i64 s.client, .int .i64 s.acked, .int .i64 s.seen, .slice va3 s.kept.length vc3] 34)) [s] [.slice va3 s.kept.length vc3] := ⟨owns_keep ho' ((Keeps.refl _).alloc _), trivial⟩
          obtain ⟨v3, w3, hr, hO', hg, hbk⟩ := run_append_tab (y3.alloc (.cells #[.int .i64 s.client, .int .i64 s.acked, .int .i64 s.seen, .slice va3 s.kept.length vc3] 34)) (w.heap.size + 1) _ (O) (((HO.out.keep ((Keeps.refl _).drewN _)).keep hb).keep ((Keeps.refl _).alloc _)) _ [s] _ hM (row_one y3 s _) (by simp; omega) (by simp; omega)
          obtain ⟨xa3, n3, xc3, hxv, hxn⟩ : ∃ xa n xc, v3 = .slice xa n xc ∧ n = (O ++ [s]).length := by obtain ⟨p, q, h, _⟩ := hO'.tab.len; exact ⟨p, _, q, h, rfl⟩
          subst hxv
          have HX3 : Hid (n3 = (O ++ [s]).length) := hxn
          have hx3 : n3 ≤ 9 := by rw [hxn]; simp; omega
          clear hxn
          have HB3 : Hid (Keeps (w.alloc (.cells #[.int .i64 s.client, .int .i64 s.acked, .int .i64 s.seen, .slice ka s.kept.length kc] 34)) w3) := keeps_grown (HY3.out.alloc _) hg (by simpa using hbk)
          have Hr3 := (show Hid (_ = _) from hr)
          have HO3 : Hid (OwnTab (w.heap.size + 1) w3 _ (O ++ [s])) := hO'
          clear hr hM hO' hg hbk ho ho' hb hm2 HY3
          go_wp2_with (at_builtin; refine wpList_append_run rfl _ _ _ rfl rfl rfl Hr3.out ?_)
          clear g0 g1 g2 g3 c0 c1 c2 c3 HKV hxb hcb oa oc
          have g0 : (w3).cell? ⟨w.heap.size, 0, none⟩ = some (.int .i64 s.client) := cell_keep (box_ses w s _) HB3.out
          have g1 : (w3).cell? ⟨w.heap.size, 1, none⟩ = some (.int .i64 s.acked) := cell_keep (by simp) HB3.out
          have g2 : (w3).cell? ⟨w.heap.size, 2, none⟩ = some (.int .i64 s.seen) := cell_keep (by simp) HB3.out
          have g3 : (w3).cell? ⟨w.heap.size, 3, none⟩ = some (.slice ka s.kept.length kc) := cell_keep (by simp) HB3.out
          obtain ⟨c0, c1, c2, oa, oc, c3, hkv⟩ := TabAt.cells (HT.out.keep HB3.out) k hlt o HOE.out
          have HKV : Hid (KeptAt w3 (.slice oa o.kept.length oc) o.kept) := hkv
          clear hkv
          have hxb : w.heap.size < w3.heap.size := World.block_lt_of_cell? _ _ g0
          have hcb : b < w3.heap.size := World.block_lt_of_cell? _ _ c0
          cases hn : (o.client != s.client) with
          | true =>
            have HN : Hid (insAux s false L = (O ++ [s] ++ [o]) ++ insAux s true (L.drop (k + 1))) := by show _ = _; rw [HS.out, hn, hle]; simp
            clear HS
            go_quiet (fail)
            go_wp2_with fail
            refine (own_c o _ _ (HKV.out.keep ((Keeps.refl _).drewN _)) ho3).mono ?_
            rintro e y4 ⟨kv4, ho, rfl, hb⟩
            obtain ⟨va4, vc4, rfl⟩ : ∃ va vc, kv4 = .slice va o.kept.length vc := by obtain ⟨x, y, h, _⟩ := (RowAt.of_owns ho).len; exact ⟨x, y, h⟩
            have HY4 : Hid (Keeps (w.alloc (.cells #[.int .i64 s.client, .int .i64 s.acked, .int .i64 s.seen, .slice ka s.kept.length kc] 34)) y4) := (HB3.out.drewN _).trans hb
            have hm2 : w.heap.size + 1 ≤ y4.heap.size := by have := HY4.out.size; simpa using this
            have ho' := owns_base (base' := w.heap.size + 1) ho (by have := HB3.out.size; simp at this ⊢; omega)
            have hM : KeptsOwn (w.heap.size + 1) (y4.alloc (.cells #[.int .i64 o.client, .int .i64 o.acked, .int .i64 o.seen, .slice va4 o.kept.length vc4] 34)) [o] [.slice va4 o.kept.length vc4] := ⟨owns_keep ho' ((Keeps.refl _).alloc _), trivial⟩
            obtain ⟨v4, w4, hr, hO', hg, hbk⟩ := run_append_tab (y4.alloc (.cells #[.int .i64 o.client, .int .i64 o.acked, .int .i64 o.seen, .slice va4 o.kept.length vc4] 34)) (w.heap.size + 1) _ (O ++ [s]) (((HO3.out.keep ((Keeps.refl _).drewN _)).keep hb).keep ((Keeps.refl _).alloc _)) _ [o] _ hM (row_one y4 o _) (by simp; omega) (by simp; omega)
            obtain ⟨xa4, n4, xc4, hxv, hxn⟩ : ∃ xa n xc, v4 = .slice xa n xc ∧ n = (O ++ [s] ++ [o]).length := by obtain ⟨p, q, h, _⟩ := hO'.tab.len; exact ⟨p, _, q, h, rfl⟩
            subst hxv
            have HX4 : Hid (n4 = (O ++ [s] ++ [o]).length) := hxn
            have hx4 : n4 ≤ 9 := by rw [hxn]; simp; omega
            clear hxn
            have HB4 : Hid (Keeps (w.alloc (.cells #[.int .i64 s.client, .int .i64 s.acked, .int .i64 s.seen, .slice ka s.kept.length kc] 34)) w4) := keeps_grown (HY4.out.alloc _) hg (by simpa using hbk)
            have Hr4 := (show Hid (_ = _) from hr)
            have HO4 : Hid (OwnTab (w.heap.size + 1) w4 _ (O ++ [s] ++ [o])) := hO'
            clear hr hM hO' hg hbk ho ho' hb hm2 HY4
            go_wp2_with (at_builtin; refine wpList_append_run rfl _ _ _ rfl rfl rfl Hr4.out ?_)
            go_roundw
            case rel => exact ⟨k + 1, true, O ++ [s] ++ [o], by omega, by go_num, rfl, by first | omega | (simp; omega), HB4, HO4, HN⟩
            case measure => simp [intOf]; omega
          | false =>
            have HN : Hid (insAux s false L = (O ++ [s]) ++ insAux s true (L.drop (k + 1))) := by show _ = _; rw [HS.out, hn, hle]; simp
            clear HS
            go_quiet (fail)
            go_wp2_with fail
            go_roundw
            case rel => exact ⟨k + 1, true, O ++ [s], by omega, by go_num, rfl, by first | omega | (simp; omega), HB3.out.drewN _, HO3.out.keep ((Keeps.refl _).drewN _), HN⟩
            case measure => simp [intOf]; omega
    · cases hd : d with
      | true =>
        subst hd
        have HFIN : Hid (insAux s false L = O) := by show _ = _; rw [HQ.out, List.drop_of_length_le (by omega)]; simp [insAux]
        clear HQ
        obtain ⟨fa, nF, fc, hfv, hfn⟩ : ∃ fa n fc, u8 = .slice fa n fc ∧ n = (O).length := by obtain ⟨p, q, h, _⟩ := HO.out.tab.len; exact ⟨p, _, q, h, rfl⟩
        subst hfv
        have HNF : Hid (nF = (O).length) := hfn
        have hfl : nF ≤ 9 := by omega
        clear hfn
        have HOF : Hid (OwnTab w.heap.size _ _ (O)) := HO.out.base (by omega)
        have hkF := ((Keeps.refl w).alloc _).trans HBr.out
        have HPL : Hid (putList L s = O) := HP.out.symm.trans HFIN.out
        cases hq : decide (3 < nF) with
        | true =>
          have hq1 : 3 < nF := by simpa using hq
          have HE : Hid (putErr L s = 2 ∧ putTab L s = []) := by
            have h1 : putErr L s = 2 := by
              have h2 : 3 < (putList L s).length := by rw [HPL.out, ← HNF.out]; exact hq1
              simp only [putErr, he, hs, if_true, h2]
            exact ⟨h1, by simp [putTab, h1]⟩
          go_wp2_with fail
          go_ret2
          exact ⟨.slice none 0 0, by rw [HE.out.2]; exact OwnTab.nil _ _, by rw [HE.out.1]; rfl, hkF⟩
        | false =>
          have hq1 : ¬ 3 < nF := by simpa using hq
          have HE : Hid (putErr L s = 0 ∧ putTab L s = O) := by
            have h1 : putErr L s = 0 := by
              have h2 : ¬ 3 < (putList L s).length := by rw [HPL.out, ← HNF.out]; exact hq1
              simp only [putErr, he, hs, if_true, h2, if_false]
            exact ⟨h1, by simp [putTab, h1, HPL.out]⟩
          go_wp2_with fail
          go_ret2
          exact ⟨_, by rw [HE.out.2]; exact HOF.out, by rw [HE.out.1]; rfl, hkF⟩
      | false =>
        subst hd
        have HFIN : Hid (insAux s false L = O ++ [s]) := by show _ = _; rw [HQ.out, List.drop_of_length_le (by omega)]; rfl
        clear HQ
        go_wp2_with fail
        refine (own_c s _ _ (HK.out.keep HBr.out) hn3).mono ?_
        rintro e y3 ⟨kv3, ho, rfl, hb⟩
        obtain ⟨va3, vc3, rfl⟩ : ∃ va vc, kv3 = .slice va s.kept.length vc := by obtain ⟨x, y, h, _⟩ := (RowAt.of_owns ho).len; exact ⟨x, y, h⟩
        have HY3 : Hid (Keeps (w.alloc (.cells #[.int .i64 s.client, .int .i64 s.acked, .int .i64 s.seen, .slice ka s.kept.length kc] 34)) y3) := (HBr.out).trans hb
        have hm2 : w.heap.size + 1 ≤ y3.heap.size := by have := HY3.out.size; simpa using this
        have ho' := owns_base (base' := w.heap.size + 1) ho (by have := HBr.out.size; simp at this ⊢; omega)
        have hM : KeptsOwn (w.heap.size + 1) (y3.alloc (.cells #[.int .i64 s.client, .int .i64 s.acked, .int .i64 s.seen, .slice va3 s.kept.length vc3] 34)) [s] [.slice va3 s.kept.length vc3] := ⟨owns_keep ho' ((Keeps.refl _).alloc _), trivial⟩
        obtain ⟨v3, w3, hr, hO', hg, hbk⟩ := run_append_tab (y3.alloc (.cells #[.int .i64 s.client, .int .i64 s.acked, .int .i64 s.seen, .slice va3 s.kept.length vc3] 34)) (w.heap.size + 1) _ (O) (((HO.out).keep hb).keep ((Keeps.refl _).alloc _)) _ [s] _ hM (row_one y3 s _) (by simp; omega) (by simp; omega)
        obtain ⟨xa3, n3, xc3, hxv, hxn⟩ : ∃ xa n xc, v3 = .slice xa n xc ∧ n = (O ++ [s]).length := by obtain ⟨p, q, h, _⟩ := hO'.tab.len; exact ⟨p, _, q, h, rfl⟩
        subst hxv
        have HX3 : Hid (n3 = (O ++ [s]).length) := hxn
        have hx3 : n3 ≤ 9 := by rw [hxn]; simp; omega
        clear hxn
        have HB3 : Hid (Keeps (w.alloc (.cells #[.int .i64 s.client, .int .i64 s.acked, .int .i64 s.seen, .slice ka s.kept.length kc] 34)) w3) := keeps_grown (HY3.out.alloc _) hg (by simpa using hbk)
        have Hr3 := (show Hid (_ = _) from hr)
        have HO3 : Hid (OwnTab (w.heap.size + 1) w3 _ (O ++ [s])) := hO'
        clear hr hM hO' hg hbk ho ho' hb hm2 HY3
        have HNF := HX3
        have HOF : Hid (OwnTab w.heap.size _ _ (O ++ [s])) := HO3.out.base (by omega)
        have hkF := ((Keeps.refl w).alloc _).trans HB3.out
        have HPL : Hid (putList L s = O ++ [s]) := HP.out.symm.trans HFIN.out
        cases hq : decide (3 < n3) with
        | true =>
          have hq1 : 3 < n3 := by simpa using hq
          have HE : Hid (putErr L s = 2 ∧ putTab L s = []) := by
            have h1 : putErr L s = 2 := by
              have h2 : 3 < (putList L s).length := by rw [HPL.out, ← HNF.out]; exact hq1
              simp only [putErr, he, hs, if_true, h2]
            exact ⟨h1, by simp [putTab, h1]⟩
          go_wp2_with (at_builtin; refine wpList_append_run rfl _ _ _ rfl rfl rfl Hr3.out ?_)
          go_ret2
          exact ⟨.slice none 0 0, by rw [HE.out.2]; exact OwnTab.nil _ _, by rw [HE.out.1]; rfl, hkF⟩
        | false =>
          have hq1 : ¬ 3 < n3 := by simpa using hq
          have HE : Hid (putErr L s = 0 ∧ putTab L s = O ++ [s]) := by
            have h1 : putErr L s = 0 := by
              have h2 : ¬ 3 < (putList L s).length := by rw [HPL.out, ← HNF.out]; exact hq1
              simp only [putErr, he, hs, if_true, h2, if_false]
            exact ⟨h1, by simp [putTab, h1, HPL.out]⟩
          go_wp2_with (at_builtin; refine wpList_append_run rfl _ _ _ rfl rfl rfl Hr3.out ?_)
          go_ret2
          exact ⟨_, by rw [HE.out.2]; exact HOF.out, by rw [HE.out.1]; rfl, hkF⟩

/-- The reference's PutOf. -/
theorem put_of (L : List Ses) (v : Value) (s : Ses) (kv : Value) (w : World) (hT : TabAt w v L) (hK : KeptAt w kv s.kept) :
    Calls Try.prog 22 #[v, sesV s kv] w fun e w' => ∃ v', OwnTab w.heap.size w' v' (putTab L s) ∧ e = .returned (.tuple #[v', .int .i64 (putErr L s)]) ∧ Keeps w w' := by
  cases h : ((tabErr L == 0) && (sesErr s == 0)) with
  | false => exact put_of_err L v s kv w hT hK h
  | true =>
    simp only [Bool.and_eq_true] at h
    exact put_of_ok L v s kv w hT hK h.1 h.2
end Go.Proofs.Yteabfjpajgakiaa
