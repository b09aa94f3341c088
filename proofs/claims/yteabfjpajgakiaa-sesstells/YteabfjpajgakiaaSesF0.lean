/- The reference's find and FindOf. -/
import Derived.Test.YteabfjpajgakiaaSesE
set_option linter.unusedSimpArgs false
set_option linter.unusedVariables false
namespace Go.Proofs.Yteabfjpajgakiaa
open Go.RowKit

set_option maxHeartbeats 1000000 in
theorem find_ix (L : List Ses) (v : Value) (c : Int) (w : World) (hT : TabAt w v L) :
    Calls Try.prog 37 #[v, .int .i64 c] w fun e w' => ∃ r : Int, e = .returned (.int .i64 r) ∧ w = w' ∧ ((r = -1 ∧ findSes L c = none) ∨ ∃ (k : Nat) (h : k < L.length), r = k ∧ findSes L c = some (L[k])) := by
  obtain ⟨a, cap, rfl, hlen⟩ := hT.len
  unfold maxLen at hlen
  have HT : Hid (TabAt w (.slice a L.length cap) L) := hT
  clear hT
  go_enter Try.func37, Try.ntmps37
  go_wp2_with fail
  go_loop [5] (fun i => ∃ (k : Nat), k ≤ L.length ∧ i = .int .i64 k ∧ Hid (findSes L c = findSes (L.drop k) c)) (fun i => L.length - (intOf i).toNat)
  case atStart => exact ⟨0, Nat.zero_le _, rfl, rfl⟩
  case round =>
    obtain ⟨k, hk, rfl, HQ⟩ := hrel
    by_cases hlt : k < L.length
    · obtain ⟨b, off, cap', hv, hcell⟩ := HT.out.at hlt
      injection hv with hv1 hv2 hv3
      subst hv1
      clear hv2 hv3
      obtain ⟨c0, _, _, _, _, _, _⟩ := hcell k hlt
      clear hcell
      have HR : Hid (findSes L c = if (L[k]).client == c then some (L[k]) else findSes (L.drop (k + 1)) c) := HQ.out.trans (findSes_at hlt)
      clear HQ
      cases hq : ((L[k]).client == c) with
      | true =>
        have HN : Hid (findSes L c = some (L[k])) := by show _ = _; rw [HR.out, hq]; rfl
        go_wp2_with fail
        go_ret
        first | exact ⟨k, rfl, rfl, .inr ⟨k, hlt, rfl, HN.out⟩⟩ | exact ⟨k, rfl, rfl, .inr ⟨k, rfl, hlt, HN.out⟩⟩
      | false =>
        have HN : Hid (findSes L c = findSes (L.drop (k + 1)) c) := by show _ = _; rw [HR.out, hq]; rfl
        go_wp2_with fail
        go_round
        case rel => exact ⟨k + 1, by omega, by go_num, HN⟩
        case measure => simp [intOf]; omega
    · have HN : Hid (findSes L c = none) := HQ.out.trans (by rw [List.drop_of_length_le (by omega)]; rfl)
      go_wp2_with fail
      go_ret
      exact ⟨-1, rfl, rfl, .inl ⟨rfl, HN.out⟩⟩
end Go.Proofs.Yteabfjpajgakiaa
