/- States: what is laid, SameOf. -/
import Derived.Test.YthjcnbimapgdnabSesR
import Derived.Test.YthjcnbimapgdnabSesG
set_option linter.unusedSimpArgs false
set_option linter.unusedVariables false
namespace Go.Proofs.Ythjcnbimapgdnab
open Go.RowKit

theorem cell_kept {W W' : World} {a : Addr} {u : Value} (h : W.cell? a = some u) (hk : Keeps W W') : W'.cell? a = some u := (Below.cell hk (World.block_lt_of_cell? _ _ h)).trans h

structure St where
  at_ : Int
  clock : Int
  v0 : Int
  v1 : Int
  v2 : Int
  v3 : Int
  tab : List Ses

abbrev stV (s : St) (t : Value) : Value := .agg #[.int .i64 s.at_, .int .i64 s.clock, .int .i64 s.v0, .int .i64 s.v1, .int .i64 s.v2, .int .i64 s.v3, t]

def sameVals (s t : St) : Bool := s.v0 == t.v0 && (s.v1 == t.v1 && (s.v2 == t.v2 && s.v3 == t.v3))
def sameSt (s t : St) : Bool := s.at_ == t.at_ && (s.clock == t.clock && (sameVals s t && sameTab s.tab t.tab))

set_option maxHeartbeats 2000000 in
theorem same_of_no (s t : St) (x y : Value) (w : World) (h1 : TabAt w x s.tab) (h2 : TabAt w y t.tab) (hne : (s.at_ == t.at_ && (s.clock == t.clock && sameVals s t)) = false) :
    Calls Try.prog 13 #[stV s x, stV t y] w fun e w' => e = .returned (.bool (sameSt s t)) ∧ Keeps w w' := by
  obtain ⟨a, c, rfl, _⟩ := h1.len
  obtain ⟨a', c', rfl, _⟩ := h2.len
  have HE : Hid (sameSt s t = false) := by
    show _ = _
    simp only [Bool.and_eq_false_iff] at hne
    unfold sameSt
    rcases hne with h | h | h
    · simp [h]
    · simp [h]
    · simp [h]
  clear h1 h2
  rw [HE.out]
  have he := eql22
  unfold sameVals at hne
  go_enter Try.func13, Try.ntmps13
  cases q1 : (s.at_ == t.at_) with
  | false =>
    go_wp2_with fail
    go_ret
    exact ⟨rfl, ((Keeps.refl _).alloc _).alloc _⟩
  | true =>
    cases q2 : (s.clock == t.clock) with
    | false =>
      go_wp2_with fail
      go_ret
      exact ⟨rfl, ((Keeps.refl _).alloc _).alloc _⟩
    | true =>
      simp only [q1, q2, Bool.true_and] at hne
      go_wp2_with fail
      go_ret
      exact ⟨rfl, ((Keeps.refl _).alloc _).alloc _⟩

set_option maxHeartbeats 2000000 in
theorem same_of_yes (s t : St) (x y : Value) (w : World) (h1 : TabAt w x s.tab) (h2 : TabAt w y t.tab) (hc1 : (s.at_ == t.at_) = true) (hc2 : (s.clock == t.clock) = true) (hc3 : sameVals s t = true) :
    Calls Try.prog 13 #[stV s x, stV t y] w fun e w' => e = .returned (.bool (sameSt s t)) ∧ Keeps w w' := by
  obtain ⟨a, c, rfl, _⟩ := h1.len
  obtain ⟨a', c', rfl, _⟩ := h2.len
  have HE : Hid (sameSt s t = sameTab s.tab t.tab) := by
    show _ = _
    unfold sameSt
    rw [hc1, hc2, hc3]
    rfl
  rw [HE.out]
  have P := same_tables s.tab t.tab _ _ _ (h1.keep (((Keeps.refl w).alloc (.cells #[.int .i64 s.at_, .int .i64 s.clock, .int .i64 s.v0, .int .i64 s.v1, .int .i64 s.v2, .int .i64 s.v3, .slice a s.tab.length c] 25)).alloc (.cells #[.int .i64 t.at_, .int .i64 t.clock, .int .i64 t.v0, .int .i64 t.v1, .int .i64 t.v2, .int .i64 t.v3, .slice a' t.tab.length c'] 25))) (h2.keep (((Keeps.refl w).alloc _).alloc _))
  have HP : Hid (Calls _ _ _ _ _) := P
  clear P h1 h2
  have he := eql22
  unfold sameVals at hc3
  generalize sameTab s.tab t.tab = r at HP HE
  go_enter Try.func13, Try.ntmps13
  go_wp2_with fail
  refine HP.out.mono ?_
  rintro e w1 ⟨rfl, hb⟩
  clear HP
  go_wp2_with fail
  go_ret
  exact ⟨rfl, (((Keeps.refl _).alloc _).alloc _).trans hb⟩

theorem same_of (s t : St) (x y : Value) (w : World) (h1 : TabAt w x s.tab) (h2 : TabAt w y t.tab) :
    Calls Try.prog 13 #[stV s x, stV t y] w fun e w' => e = .returned (.bool (sameSt s t)) ∧ Keeps w w' := by
  cases h : (s.at_ == t.at_ && (s.clock == t.clock && sameVals s t)) with
  | false => exact same_of_no s t x y w h1 h2 h
  | true =>
    simp only [Bool.and_eq_true] at h
    exact same_of_yes s t x y w h1 h2 h.1 h.2.1 h.2.2
end Go.Proofs.Ythjcnbimapgdnab
