/- The reference's without, fresh, DropOf, FreshOf. -/
import Derived.Test.YteabfjpajgakiaaSesJ
set_option linter.unusedSimpArgs false
set_option linter.unusedVariables false
set_option maxRecDepth 10000
namespace Go.Proofs.Yteabfjpajgakiaa
open Go.RowKit

set_option maxHeartbeats 2000000 in
theorem without_c (L : List Ses) (v : Value) (c : Int) (w : World) (hT : TabAt w v L) (h3 : L.length ≤ 3) (hk3 : ∀ s ∈ L, s.kept.length ≤ 3) :
    Calls Try.prog 47 #[v, .int .i64 c] w fun e w' => ∃ v', OwnTab w.heap.size w' v' (L.filter (fun s : Ses => s.client != c)) ∧ e = .returned v' ∧ Keeps w w' := by
  obtain ⟨a, cap, rfl, hlen⟩ := hT.len
  unfold maxLen at hlen
  have HT : Hid (TabAt w (.slice a L.length cap) L) := hT
  have HK3 : Hid (∀ s ∈ L, s.kept.length ≤ 3) := hk3
  clear hT hk3
  generalize hpd : (((fun s : Ses => s.client != c)) : Ses → Bool) = p
  have HPD : Hid (∀ s : Ses, p s = (s.client != c)) := by subst hpd; exact fun s => rfl
  clear hpd
  go_enter Try.func47, Try.ntmps47
  go_wp2_with fail
  go_loopw [5, 6] (fun o i wr => ∃ (k : Nat), k ≤ L.length ∧ i = .int .i64 k ∧ Keeps w wr ∧ Hid (OwnTab w.heap.size wr o ((L.take k).filter p))) (fun _ i _ => L.length - (intOf i).toNat)
  case atStart => exact ⟨0, Nat.zero_le _, rfl, Keeps.refl _, OwnTab.nil _ _⟩
  case round =>
    obtain ⟨k, hk, rfl, hkw, HO⟩ := hrel
    by_cases hlt : k < L.length
    · obtain ⟨b, off, cap', hv, hcell⟩ := (HT.out.keep hkw).at hlt
      injection hv with hv1 hv2 hv3
      subst hv1
      clear hv2 hv3
      obtain ⟨c0, c1, c2, ka, kc, c3, hkv⟩ := hcell k hlt
      clear hcell
      have HKV : Hid (KeptAt wr (.slice ka (L[k]).kept.length kc) (L[k]).kept) := hkv
      clear hkv
      have HF : Hid ((L.take (k + 1)).filter p = (L.take k).filter p ++ (if p (L[k]) then [L[k]] else [])) := filter_take hlt
      have hn3 : (L[k]).kept.length ≤ 3 := HK3.out _ (List.getElem_mem hlt)
      have hfl : ((L.take k).filter p).length ≤ 3 := Nat.le_trans (List.length_filter_le _ _) (by simp; omega)
      generalize L[k] = s at *
      generalize hO : (L.take k).filter p = O at *
      have hps := HPD.out s
      cases hp : p s with
      | false =>
        rw [hp] at hps
        have hps' := hps.symm
        clear hps
        have HO1 : Hid (OwnTab w.heap.size wr u5 ((L.take (k + 1)).filter p)) := by show OwnTab _ _ _ _; rw [HF.out, hp]; simpa using HO.out
        go_wp2_with fail
        go_roundw
        case rel => exact ⟨k + 1, by omega, by go_num, hkw, HO1⟩
        case measure => simp [intOf]; omega
      | true =>
        rw [hp] at hps
        have hps' := hps.symm
        clear hps
        go_wp2_with fail
        refine (own_c s _ _ HKV.out hn3).mono ?_
        rintro e w2 ⟨kv', ho, rfl, hb2⟩
        obtain ⟨va, vc, rfl⟩ : ∃ va vc, kv' = .slice va s.kept.length vc := by obtain ⟨x, y, h, _⟩ := (RowAt.of_owns ho).len; exact ⟨x, y, h⟩
        have hM : KeptsOwn w.heap.size (w2.alloc (.cells #[.int .i64 s.client, .int .i64 s.acked, .int .i64 s.seen, .slice va s.kept.length vc] 34)) [s] [.slice va s.kept.length vc] := ⟨owns_keep (owns_base ho hkw.size) ((Keeps.refl _).alloc _), trivial⟩
        obtain ⟨v', w', hr, hO', hg, hbk⟩ := run_append_tab (w2.alloc (.cells #[.int .i64 s.client, .int .i64 s.acked, .int .i64 s.seen, .slice va s.kept.length vc] 34)) w.heap.size u5 O ((HO.out.keep hb2).keep ((Keeps.refl _).alloc _)) _ [s] _ hM (row_one w2 s _) (by simp; omega) (by simp; have := hkw.size; have := hb2.size; omega)
        have hk' : Keeps w w' := keeps_grown ((hkw.trans hb2).alloc _) hg hbk
        have Hr := (show Hid (_ = _) from hr)
        have HO1 : Hid (OwnTab w.heap.size w' v' ((L.take (k + 1)).filter p)) := by show OwnTab _ _ _ _; rw [HF.out, hp]; exact hO'
        clear hr hM hO' hg hbk ho hb2 HO HF HKV
        go_wp2_with (at_builtin; refine wpList_append_run rfl _ _ _ rfl rfl rfl Hr.out ?_)
        go_roundw
        case rel => exact ⟨k + 1, by omega, by go_num, hk', HO1⟩
        case measure => simp [intOf]; omega
    · have HO1 : Hid (OwnTab w.heap.size wr u5 (L.filter p)) := by
        have := HO.out
        rw [List.take_of_length_le (by omega)] at this
        exact this
      go_wp2_with fail
      go_ret
      exact ⟨u5, HO1.out, rfl, hkw⟩

set_option maxHeartbeats 2000000 in
theorem fresh_c (L : List Ses) (v : Value) (c : Int) (w : World) (hT : TabAt w v L) (h3 : L.length ≤ 3) (hk3 : ∀ s ∈ L, s.kept.length ≤ 3) (hc0 : 0 ≤ c) (hc1 : c ≤ 999) :
    Calls Try.prog 50 #[v, .int .i64 c] w fun e w' => ∃ v', OwnTab w.heap.size w' v' (L.filter (fun s : Ses => decide (c - 20 ≤ s.seen))) ∧ e = .returned v' ∧ Keeps w w' := by
  obtain ⟨a, cap, rfl, hlen⟩ := hT.len
  unfold maxLen at hlen
  have HT : Hid (TabAt w (.slice a L.length cap) L) := hT
  have HK3 : Hid (∀ s ∈ L, s.kept.length ≤ 3) := hk3
  clear hT hk3
  generalize hpd : (((fun s : Ses => decide (c - 20 ≤ s.seen))) : Ses → Bool) = p
  have HPD : Hid (∀ s : Ses, p s = decide (c - 20 ≤ s.seen)) := by subst hpd; exact fun s => rfl
  clear hpd
  go_enter Try.func50, Try.ntmps50
  go_wp2_with fail
  go_loopw [5, 6] (fun o i wr => ∃ (k : Nat), k ≤ L.length ∧ i = .int .i64 k ∧ Keeps w wr ∧ Hid (OwnTab w.heap.size wr o ((L.take k).filter p))) (fun _ i _ => L.length - (intOf i).toNat)
  case atStart => exact ⟨0, Nat.zero_le _, rfl, Keeps.refl _, OwnTab.nil _ _⟩
  case round =>
    obtain ⟨k, hk, rfl, hkw, HO⟩ := hrel
    by_cases hlt : k < L.length
    · obtain ⟨b, off, cap', hv, hcell⟩ := (HT.out.keep hkw).at hlt
      injection hv with hv1 hv2 hv3
      subst hv1
      clear hv2 hv3
      obtain ⟨c0, c1, c2, ka, kc, c3, hkv⟩ := hcell k hlt
      clear hcell
      have HKV : Hid (KeptAt wr (.slice ka (L[k]).kept.length kc) (L[k]).kept) := hkv
      clear hkv
      have HF : Hid ((L.take (k + 1)).filter p = (L.take k).filter p ++ (if p (L[k]) then [L[k]] else [])) := filter_take hlt
      have hn3 : (L[k]).kept.length ≤ 3 := HK3.out _ (List.getElem_mem hlt)
      have hfl : ((L.take k).filter p).length ≤ 3 := Nat.le_trans (List.length_filter_le _ _) (by simp; omega)
      generalize L[k] = s at *
      generalize hO : (L.take k).filter p = O at *
      have hps := HPD.out s
      cases hp : p s with
      | false =>
        rw [hp] at hps
        have hps' := hps.symm
        clear hps
        have HO1 : Hid (OwnTab w.heap.size wr u5 ((L.take (k + 1)).filter p)) := by show OwnTab _ _ _ _; rw [HF.out, hp]; simpa using HO.out
        go_wp2_with fail
        go_roundw
        case rel => exact ⟨k + 1, by omega, by go_num, hkw, HO1⟩
        case measure => simp [intOf]; omega
      | true =>
        rw [hp] at hps
        have hps' := hps.symm
        clear hps
        go_wp2_with fail
        refine (own_c s _ _ HKV.out hn3).mono ?_
        rintro e w2 ⟨kv', ho, rfl, hb2⟩
        obtain ⟨va, vc, rfl⟩ : ∃ va vc, kv' = .slice va s.kept.length vc := by obtain ⟨x, y, h, _⟩ := (RowAt.of_owns ho).len; exact ⟨x, y, h⟩
        have hM : KeptsOwn w.heap.size (w2.alloc (.cells #[.int .i64 s.client, .int .i64 s.acked, .int .i64 s.seen, .slice va s.kept.length vc] 34)) [s] [.slice va s.kept.length vc] := ⟨owns_keep (owns_base ho hkw.size) ((Keeps.refl _).alloc _), trivial⟩
        obtain ⟨v', w', hr, hO', hg, hbk⟩ := run_append_tab (w2.alloc (.cells #[.int .i64 s.client, .int .i64 s.acked, .int .i64 s.seen, .slice va s.kept.length vc] 34)) w.heap.size u5 O ((HO.out.keep hb2).keep ((Keeps.refl _).alloc _)) _ [s] _ hM (row_one w2 s _) (by simp; omega) (by simp; have := hkw.size; have := hb2.size; omega)
        have hk' : Keeps w w' := keeps_grown ((hkw.trans hb2).alloc _) hg hbk
        have Hr := (show Hid (_ = _) from hr)
        have HO1 : Hid (OwnTab w.heap.size w' v' ((L.take (k + 1)).filter p)) := by show OwnTab _ _ _ _; rw [HF.out, hp]; exact hO'
        clear hr hM hO' hg hbk ho hb2 HO HF HKV
        go_wp2_with (at_builtin; refine wpList_append_run rfl _ _ _ rfl rfl rfl Hr.out ?_)
        go_roundw
        case rel => exact ⟨k + 1, by omega, by go_num, hk', HO1⟩
        case measure => simp [intOf]; omega
    · have HO1 : Hid (OwnTab w.heap.size wr u5 (L.filter p)) := by
        have := HO.out
        rw [List.take_of_length_le (by omega)] at this
        exact this
      go_wp2_with fail
      go_ret
      exact ⟨u5, HO1.out, rfl, hkw⟩

theorem drop_none {L : List Ses} {c : Int} : findSes L c = none ↔ (L.filter (fun s => s.client != c)).length = L.length := by
  rw [List.length_filter_eq_length_iff]
  simp [findSes]
end Go.Proofs.Yteabfjpajgakiaa
