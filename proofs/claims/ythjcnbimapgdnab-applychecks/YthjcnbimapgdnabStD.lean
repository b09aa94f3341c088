/- States: Check and StateError. -/
import Derived.Test.YthjcnbimapgdnabStC
import Derived.Test.YthjcnbimapgdnabAft
set_option linter.unusedSimpArgs false
set_option linter.unusedVariables false
set_option maxRecDepth 10000
namespace Go.Proofs.Ythjcnbimapgdnab
open Go.RowKit

def seenAll (c : Int) : List Ses → Bool
  | [] => true
  | s :: r => inB s.seen (c - 20) c && seenAll c r
theorem seenAll_at {c : Int} {L : List Ses} {k : Nat} (h : k < L.length) : seenAll c (L.drop k) = (inB (L[k]).seen (c - 20) c && seenAll c (L.drop (k + 1))) := by
  rw [List.drop_eq_getElem_cons h]; rfl
def stErr (s : St) : Int := if stIn s then (if tabErr s.tab == 0 then (if seenAll s.clock s.tab then 0 else 1) else tabErr s.tab) else 3

theorem stIn_clock {s : St} (h : stIn s = true) : 0 ≤ s.clock ∧ s.clock ≤ 999 := by
  simp only [stIn, Bool.and_eq_true] at h
  exact inB_iff.1 h.2.2

/-- The box of a state. -/
abbrev stB (s : St) (t : Value) : Obj := .cells #[.int .i64 s.at_, .int .i64 s.clock, .int .i64 s.v0, .int .i64 s.v1, .int .i64 s.v2, .int .i64 s.v3, t] 25

set_option maxHeartbeats 2000000 in
theorem state_check (s : St) (x : Value) (w : World) (hT : TabAt w x s.tab) :
    Calls Try.prog 10 #[stV s x] w fun e w' => e = .returned (.int .i64 (stErr s)) ∧ Keeps w w' := by
  obtain ⟨a, c, rfl, hlen⟩ := hT.len
  unfold maxLen at hlen
  have HT : Hid (TabAt w (.slice a s.tab.length c) s.tab) := hT
  clear hT
  go_enter Try.func10, Try.ntmps10
  go_wp2_with fail
  refine (st_in_bounds s _ _ (HT.out.keep ((Keeps.refl _).alloc _))).mono ?_
  rintro e w1 ⟨rfl, hb⟩
  have hk1 : Keeps w w1 := ((Keeps.refl _).alloc _).trans hb
  cases hi : stIn s with
  | false =>
    have HE : Hid (stErr s = 3) := by simp [Hid, stErr, hi]
    go_wp2_with fail
    go_ret
    exact ⟨ret_int HE.out.symm, hk1⟩
  | true =>
    obtain ⟨hc0, hc1⟩ := stIn_clock hi
    have x1 : w1.cell? ⟨w.heap.size, 1, none⟩ = some (.int .i64 s.clock) := (Below.cell hb (p := ⟨w.heap.size, 1, none⟩) (by simp)).trans (by simp [go_sem])
    have x6 : w1.cell? ⟨w.heap.size, 6, none⟩ = some (.slice a s.tab.length c) := (Below.cell hb (p := ⟨w.heap.size, 6, none⟩) (by simp)).trans (by simp [go_sem])
    clear hb
    have hlt := World.block_lt_of_cell? _ _ x6
    simp only [] at hlt
    go_wp2_with fail
    refine (sess_check s.tab _ _ (HT.out.keep hk1)).mono ?_
    rintro e w2 ⟨rfl, hb⟩
    have hk2 : Keeps w w2 := hk1.trans hb
    have x1 := cell_kept x1 hb
    have x6 := cell_kept x6 hb
    have hlt := Nat.lt_of_lt_of_le hlt hb.size
    clear hb hk1
    cases he : (tabErr s.tab == 0) with
    | false =>
      have he' : (tabErr s.tab != 0) = true := by simp [bne, he]
      have HE : Hid (stErr s = tabErr s.tab) := by simp [Hid, stErr, hi, he]
      go_wp2_with fail
      go_ret
      exact ⟨ret_int HE.out.symm, hk2⟩
    | true =>
      have he' : (tabErr s.tab != 0) = false := by simp [bne, he]
      have HS : Hid (stErr s = if seenAll s.clock s.tab then 0 else 1) := by simp [Hid, stErr, hi, he]
      clear he hi
      go_wp2_with fail
      go_loopw [18] (fun i wr => ∃ (k : Nat), k ≤ s.tab.length ∧ i = .int .i64 k ∧ Keeps w2 wr ∧ Hid (seenAll s.clock s.tab = seenAll s.clock (s.tab.drop k))) (fun i _ => s.tab.length - (intOf i).toNat)
      case atStart => exact ⟨0, Nat.zero_le _, rfl, Keeps.refl _, rfl⟩
      case round =>
        obtain ⟨k, hk, rfl, hkw, HQ⟩ := hrel
        have x1 := cell_kept x1 hkw
        have hlt := Nat.lt_of_lt_of_le hlt hkw.size
        by_cases hlt2 : k < s.tab.length
        · obtain ⟨b, off, cap', hv, hcell⟩ := (HT.out.keep (hk2.trans hkw)).at hlt2
          injection hv with hv1 hv2 hv3
          subst hv1
          clear hv2 hv3
          obtain ⟨c0, c1, c2, ka, kc, c3, hkv⟩ := hcell k hlt2
          clear hcell hkv
          have HR : Hid (seenAll s.clock s.tab = (inB (s.tab[k]).seen (s.clock - 20) s.clock && seenAll s.clock (s.tab.drop (k + 1)))) := HQ.out.trans (seenAll_at hlt2)
          clear HQ
          generalize s.tab[k] = t at *
          cases hs : inB t.seen (s.clock - 20) s.clock with
          | false =>
            have HE : Hid (stErr s = 1) := by show _ = _; rw [HS.out, HR.out, hs]; rfl
            go_wp2_with (first | (go_at_call 26; refine (bound_in _ _ _ _).mono ?_; rintro e w' ⟨rfl, rfl⟩))
            go_ret
            exact ⟨ret_int HE.out.symm, (hk2.trans hkw).alloc _⟩
          | true =>
            have HN : Hid (seenAll s.clock s.tab = seenAll s.clock (s.tab.drop (k + 1))) := by show _ = _; rw [HR.out, hs]; rfl
            clear HR
            go_wp2_with (first | (go_at_call 26; refine (bound_in _ _ _ _).mono ?_; rintro e w' ⟨rfl, rfl⟩))
            go_roundw
            case rel => exact ⟨k + 1, by omega, by go_num, hkw.alloc _, HN⟩
            case measure => simp [intOf]; omega
        · have HE : Hid (stErr s = 0) := by show _ = _; rw [HS.out, HQ.out, List.drop_of_length_le (by omega)]; rfl
          go_wp2_with fail
          go_ret
          exact ⟨ret_int HE.out.symm, hk2.trans hkw⟩
end Go.Proofs.Ythjcnbimapgdnab
