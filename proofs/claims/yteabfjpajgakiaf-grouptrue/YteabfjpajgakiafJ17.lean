/- ApR, EnE, StE, FoK, EqE, PaD, StF. -/
import Derived.Test.YteabfjpajgakiafJ01
import Derived.Test.YteabfjpajgakiafJ02
import Derived.Test.YteabfjpajgakiafJ05
import Derived.Test.YteabfjpajgakiafJ13
import Derived.Test.YteabfjpajgakiafJ15
import Derived.Test.YteabfjpajgakiafJ16
/- The reference's OwnState, and applied. -/
set_option linter.unusedSimpArgs false
set_option linter.unusedVariables false
set_option maxRecDepth 10000
namespace Go.Proofs.Yteabfjpajgakiaf
open Go.RowKit

end Go.Proofs.Yteabfjpajgakiaf

/- The reference's EntryError. -/
set_option linter.unusedSimpArgs false
set_option linter.unusedVariables false
set_option maxRecDepth 10000
namespace Go.Proofs.Yteabfjpajgakiaf
open Go.RowKit

end Go.Proofs.Yteabfjpajgakiaf

/- States: the reference's StateError. -/
set_option linter.unusedSimpArgs false
set_option linter.unusedVariables false
set_option maxRecDepth 10000
namespace Go.Proofs.Yteabfjpajgakiaf
open Go.RowKit

end Go.Proofs.Yteabfjpajgakiaf

/- The reference's ListError, folded, FoldOf. -/
set_option linter.unusedSimpArgs false
set_option linter.unusedVariables false
set_option maxRecDepth 10000
namespace Go.Proofs.Yteabfjpajgakiaf
open Go.RowKit

end Go.Proofs.Yteabfjpajgakiaf

/- Entries, the same or not. -/
set_option linter.unusedSimpArgs false
set_option linter.unusedVariables false
set_option maxRecDepth 10000
namespace Go.Proofs.Yteabfjpajgakiaf
open Go.RowKit

end Go.Proofs.Yteabfjpajgakiaf

/- The reference's SameEntries, SameLogs, LogError, EndOf, CutOf. -/
set_option linter.unusedSimpArgs false
set_option linter.unusedVariables false
set_option maxRecDepth 10000
namespace Go.Proofs.Yteabfjpajgakiaf
open Go.RowKit

end Go.Proofs.Yteabfjpajgakiaf

/- States: Same, with slices.Equal and slices.EqualFunc. -/
set_option linter.unusedSimpArgs false
set_option linter.unusedVariables false
set_option maxRecDepth 10000
namespace Go.Proofs.Yteabfjpajgakiaf
open Go.RowKit

set_option maxHeartbeats 2000000 in
theorem eq_reps (l m : List (Int × Int)) (v v' : Value) (w : World) (h1 : KeptAt w v l) (h2 : KeptAt w v' m) :
    Calls Try.prog 98 #[v, v'] w fun e w' => e = .returned (.bool (sameKept l m)) ∧ Keeps w w' := by
  obtain ⟨a, cap, rfl, hlen⟩ := h1.len
  obtain ⟨a', cap', rfl, hlen'⟩ := h2.len
  unfold maxLen at hlen hlen'
  have H1 : Hid (KeptAt w (.slice a l.length cap) l) := h1
  have H2 : Hid (KeptAt w (.slice a' m.length cap') m) := h2
  clear h1 h2
  by_cases hl : l.length = m.length
  case neg =>
    have q : ((l.length : Int) != (m.length : Int)) = true := by simp; omega
    have HE : Hid (sameKept l m = false) := sameKept_len hl
    clear hl
    go_enter Try.func98, Try.ntmps98
    go_wp2_with fail
    go_ret
    exact ⟨by rw [HE.out]; rfl, Keeps.refl _⟩
  case pos =>
    have q : ((l.length : Int) != (m.length : Int)) = false := by simp [hl]
    have HL : Hid (l.length = m.length) := hl
    clear hl
    go_enter Try.func98, Try.ntmps98
    go_wp2_with fail
    go_loopw [13] (fun i wr => ∃ (k : Nat), k ≤ l.length ∧ i = .int .i64 k ∧ Keeps w wr ∧ Hid (sameKept l m = sameKept (l.drop k) (m.drop k))) (fun i _ => l.length - (intOf i).toNat)
    case atStart => exact ⟨0, Nat.zero_le _, rfl, Keeps.refl _, rfl⟩
    case round =>
      obtain ⟨k, hk, rfl, hkw, HQ⟩ := hrel
      by_cases hlt : k < l.length
      · have hlt' : k < m.length := by rw [← HL.out]; exact hlt
        obtain ⟨b, off, cp, hv, _, hcell⟩ := (H1.out.keep hkw).at hlt
        injection hv with hv1 hv2 hv3
        subst hv1
        clear hv2 hv3
        obtain ⟨b', off', cp', hv, _, hcell'⟩ := (H2.out.keep hkw).at hlt'
        injection hv with hv1 hv2 hv3
        subst hv1
        clear hv2 hv3
        obtain ⟨c0, c1⟩ := hcell k hlt
        obtain ⟨d0, d1⟩ := hcell' k hlt'
        clear hcell hcell'
        have HR : Hid (sameKept l m = (((l[k]).1 == (m[k]).1 && (l[k]).2 == (m[k]).2) && sameKept (l.drop (k + 1)) (m.drop (k + 1)))) := HQ.out.trans (sameKept_at hlt hlt')
        clear HQ
        generalize (l[k]).1 = q at *
        generalize (l[k]).2 = v at *
        generalize (m[k]).1 = q' at *
        generalize (m[k]).2 = v' at *
        have hn := neq61
        cases hb : (q == q' && v == v') with
        | false =>
          have HE : Hid (sameKept l m = false) := by show _ = _; rw [HR.out, hb]; rfl
          have hb' : (!(q == q' && v == v')) = true := by rw [hb]; rfl
          go_wp2_with fail
          go_quiet (fail)
          go_wp2_with fail
          all_goals go_ret
          all_goals exact ⟨by rw [HE.out]; rfl, hkw.drewN _⟩
        | true =>
          have HN : Hid (sameKept l m = sameKept (l.drop (k + 1)) (m.drop (k + 1))) := by show _ = _; rw [HR.out, hb]; rfl
          have hb' : (!(q == q' && v == v')) = false := by rw [hb]; rfl
          go_wp2_with fail
          go_quiet (fail)
          go_wp2_with fail
          go_roundw
          case rel => exact ⟨k + 1, by omega, by go_num, hkw.drewN _, HN⟩
          case measure => simp [intOf]; omega
      · have HE : Hid (sameKept l m = true) := HQ.out.trans (by rw [List.drop_of_length_le (by omega), List.drop_of_length_le (by rw [← HL.out]; omega)]; rfl)
        go_wp2_with fail
        go_ret
        exact ⟨by rw [HE.out]; rfl, hkw⟩

set_option maxHeartbeats 2000000 in
theorem st_same_session (s t : Ses) (kv kv' : Value) (w : World) (h1 : KeptAt w kv s.kept) (h2 : KeptAt w kv' t.kept) :
    Calls Try.prog 93 #[sesV s kv, sesV t kv'] w fun e w' => e = .returned (.bool (sameSes s t)) ∧ Keeps w w' := by
  obtain ⟨a, cap, rfl, hlen⟩ := h1.len
  obtain ⟨a', cap', rfl, hlen'⟩ := h2.len
  have HP : Hid (∀ W, Keeps w W → Calls Try.prog 98 #[.slice a s.kept.length cap, .slice a' t.kept.length cap'] W fun e w' => e = .returned (.bool (sameKept s.kept t.kept)) ∧ Keeps W w') := fun W hk => eq_reps _ _ _ _ W (h1.keep hk) (h2.keep hk)
  clear h1 h2 hlen hlen'
  have HS : Hid (sameSes s t = (s.client == t.client && (s.acked == t.acked && (s.seen == t.seen && sameKept s.kept t.kept)))) := rfl
  generalize sameSes s t = R at *
  generalize sameKept s.kept t.kept = r at *
  generalize s.kept.length = n1 at *
  generalize t.kept.length = n2 at *
  cases q1 : (s.client == t.client) with
  | false =>
    have HE : R = false := by rw [HS.out, q1]; rfl
    subst HE
    clear HS
    go_enter Try.func93, Try.ntmps93
    go_wp2_with fail
    go_ret
    exact ⟨rfl, ((Keeps.refl _).alloc _).alloc _⟩
  | true =>
    cases q2 : (s.acked == t.acked) with
    | false =>
      have HE : R = false := by rw [HS.out, q1, q2]; rfl
      subst HE
      clear HS
      go_enter Try.func93, Try.ntmps93
      go_wp2_with fail
      go_ret
      exact ⟨rfl, ((Keeps.refl _).alloc _).alloc _⟩
    | true =>
      cases q3 : (s.seen == t.seen) with
      | false =>
        have HE : R = false := by rw [HS.out, q1, q2, q3]; rfl
        subst HE
        clear HS
        go_enter Try.func93, Try.ntmps93
        go_wp2_with fail
        go_ret
        exact ⟨rfl, ((Keeps.refl _).alloc _).alloc _⟩
      | true =>
        have HE : R = r := by rw [HS.out, q1, q2, q3]; rfl
        subst HE
        clear HS
        go_enter Try.func93, Try.ntmps93
        go_wp2_with fail
        refine (HP.out _ (((Keeps.refl _).alloc _).alloc _)).mono ?_
        rintro e w1 ⟨rfl, hb⟩
        have hk1 : Keeps w w1 := (((Keeps.refl _).alloc _).alloc _).trans hb
        clear hb HP
        go_wp2_with fail
        go_ret
        exact ⟨rfl, hk1⟩

theorem fnc31 (args : Array Value) (W : World) : (callFunc 93 args).run Try.prog W = .ok (.enter 93 args) W := by kernel_rfl

set_option maxHeartbeats 2000000 in
theorem eq_func (L M : List Ses) (v v' : Value) (w : World) (h1 : TabAt w v L) (h2 : TabAt w v' M) :
    Calls Try.prog 92 #[v, v', .func (.func 93) #[] #[]] w fun e w' => e = .returned (.bool (sameTab L M)) ∧ Keeps w w' := by
  obtain ⟨a, cap, rfl, hlen⟩ := h1.len
  obtain ⟨a', cap', rfl, hlen'⟩ := h2.len
  unfold maxLen at hlen hlen'
  have H1 : Hid (TabAt w (.slice a L.length cap) L) := h1
  have H2 : Hid (TabAt w (.slice a' M.length cap') M) := h2
  clear h1 h2
  have hf := fnc31
  by_cases hl : L.length = M.length
  case neg =>
    have q : ((L.length : Int) != (M.length : Int)) = true := by simp; omega
    have HE : Hid (sameTab L M = false) := sameTab_len hl
    clear hl
    go_enter Try.func92, Try.ntmps92
    go_wp2_with fail
    go_ret
    exact ⟨by rw [HE.out]; rfl, Keeps.refl _⟩
  case pos =>
    have q : ((L.length : Int) != (M.length : Int)) = false := by simp [hl]
    have HL : Hid (L.length = M.length) := hl
    clear hl
    go_enter Try.func92, Try.ntmps92
    go_wp2_with fail
    go_loopw [17] (fun i wr => ∃ (k : Nat), k ≤ L.length ∧ i = .int .i64 k ∧ Keeps w wr ∧ Hid (sameTab L M = sameTab (L.drop k) (M.drop k))) (fun i _ => L.length - (intOf i).toNat)
    case atStart => exact ⟨0, Nat.zero_le _, rfl, Keeps.refl _, rfl⟩
    case round =>
      obtain ⟨k, hk, rfl, hkw, HQ⟩ := hrel
      by_cases hlt : k < L.length
      · have hlt' : k < M.length := by rw [← HL.out]; exact hlt
        obtain ⟨b, off, cp, hv, hcell⟩ := (H1.out.keep hkw).at hlt
        injection hv with hv1 hv2 hv3
        subst hv1
        clear hv2 hv3
        obtain ⟨b', off', cp', hv, hcell'⟩ := (H2.out.keep hkw).at hlt'
        injection hv with hv1 hv2 hv3
        subst hv1
        clear hv2 hv3
        obtain ⟨c0, c1, c2, ka, kc, c3, hkv⟩ := hcell k hlt
        obtain ⟨d0, d1, d2, ka', kc', d3, hkv'⟩ := hcell' k hlt'
        clear hcell hcell'
        have hB := World.block_lt_of_cell? _ _ c0
        have hB' := World.block_lt_of_cell? _ _ d0
        simp only [] at hB hB'
        have HK1 : Hid (KeptAt wr (.slice ka (L[k]).kept.length kc) (L[k]).kept) := hkv
        have HK2 : Hid (KeptAt wr (.slice ka' (M[k]).kept.length kc') (M[k]).kept) := hkv'
        clear hkv hkv'
        have HR : Hid (sameTab L M = (sameSes (L[k]) (M[k]) && sameTab (L.drop (k + 1)) (M.drop (k + 1)))) := HQ.out.trans (sameTab_at hlt hlt')
        clear HQ
        generalize L[k] = s at *
        generalize M[k] = t at *
        go_wp2_with fail
        refine (st_same_session s t _ _ _ (HK1.out.keep (((Keeps.refl _).alloc _).alloc _)) (HK2.out.keep (((Keeps.refl _).alloc _).alloc _))).mono ?_
        rintro e w1 ⟨rfl, hb0⟩
        have hk1 : Keeps w w1 := ((hkw.alloc _).alloc _).trans hb0
        clear hb0 HK1 HK2
        cases hb : sameSes s t with
        | false =>
          have HE : Hid (sameTab L M = false) := by show _ = _; rw [HR.out, hb]; rfl
          go_wp2_with fail
          go_ret
          exact ⟨by rw [HE.out]; rfl, hk1⟩
        | true =>
          have HN : Hid (sameTab L M = sameTab (L.drop (k + 1)) (M.drop (k + 1))) := by show _ = _; rw [HR.out, hb]; rfl
          go_wp2_with fail
          go_roundw
          case rel => exact ⟨k + 1, by omega, by go_num, hk1, HN⟩
          case measure => simp [intOf]; omega
      · have HE : Hid (sameTab L M = true) := HQ.out.trans (by rw [List.drop_of_length_le (by omega), List.drop_of_length_le (by rw [← HL.out]; omega)]; rfl)
        go_wp2_with fail
        go_ret
        exact ⟨by rw [HE.out]; rfl, hkw⟩

set_option maxHeartbeats 2000000 in
theorem state_same (s t : St) (x y : Value) (w : World) (h1 : TabAt w x s.tab) (h2 : TabAt w y t.tab) :
    Calls Try.prog 78 #[stV s x, stV t y] w fun e w' => e = .returned (.bool (sameSt s t)) ∧ Keeps w w' := by
  obtain ⟨a, c, rfl, _⟩ := h1.len
  obtain ⟨a', c', rfl, _⟩ := h2.len
  have HP : Hid (∀ W, Keeps w W → Calls Try.prog 92 #[.slice a s.tab.length c, .slice a' t.tab.length c', .func (.func 93) #[] #[]] W fun e w' => e = .returned (.bool (sameTab s.tab t.tab)) ∧ Keeps W w') := fun W hk => eq_func _ _ _ _ W (h1.keep hk) (h2.keep hk)
  clear h1 h2
  have HS : Hid (sameSt s t = (s.at_ == t.at_ && (s.clock == t.clock && ((s.v0 == t.v0 && (s.v1 == t.v1 && (s.v2 == t.v2 && s.v3 == t.v3))) && sameTab s.tab t.tab)))) := rfl
  generalize sameSt s t = R at *
  generalize sameTab s.tab t.tab = r at *
  generalize s.tab.length = n1 at *
  generalize t.tab.length = n2 at *
  have he := eql22
  cases q1 : (s.at_ == t.at_) with
  | false =>
    have HE : R = false := by rw [HS.out, q1]; rfl
    subst HE
    clear HS
    go_enter Try.func78, Try.ntmps78
    go_wp2_with fail
    go_ret
    exact ⟨rfl, ((Keeps.refl _).alloc _).alloc _⟩
  | true =>
    cases q2 : (s.clock == t.clock) with
    | false =>
      have HE : R = false := by rw [HS.out, q1, q2]; rfl
      subst HE
      clear HS
      go_enter Try.func78, Try.ntmps78
      go_wp2_with fail
      go_ret
      exact ⟨rfl, ((Keeps.refl _).alloc _).alloc _⟩
    | true =>
      cases q3 : (s.v0 == t.v0 && (s.v1 == t.v1 && (s.v2 == t.v2 && s.v3 == t.v3))) with
      | false =>
        have HE : R = false := by rw [HS.out, q1, q2, q3]; rfl
        subst HE
        clear HS
        go_enter Try.func78, Try.ntmps78
        go_wp2_with fail
        go_ret
        exact ⟨rfl, ((Keeps.refl _).alloc _).alloc _⟩
      | true =>
        have HE : R = r := by rw [HS.out, q1, q2, q3]; rfl
        subst HE
        clear HS
        go_enter Try.func78, Try.ntmps78
        go_wp2_with fail
        refine (HP.out _ (((Keeps.refl _).alloc _).alloc _)).mono ?_
        rintro e w1 ⟨rfl, hb⟩
        have hk1 : Keeps w w1 := (((Keeps.refl _).alloc _).alloc _).trans hb
        clear hb HP
        go_wp2_with fail
        go_ret
        exact ⟨rfl, hk1⟩
end Go.Proofs.Yteabfjpajgakiaf
