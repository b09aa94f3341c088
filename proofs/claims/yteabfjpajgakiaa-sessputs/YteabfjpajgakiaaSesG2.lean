/- The reference's SameSession. -/
import Derived.Test.YteabfjpajgakiaaSesG
import Derived.Test.YteabfjpajgakiaaSesF
set_option linter.unusedSimpArgs false
set_option linter.unusedVariables false
namespace Go.Proofs.Yteabfjpajgakiaa
open Go.RowKit

theorem same_session (s t : Ses) (kv kv' : Value) (w : World) (h1 : KeptAt w kv s.kept) (h2 : KeptAt w kv' t.kept) :
    Calls Try.prog 19 #[sesV s kv, sesV t kv'] w fun e w' => e = .returned (.bool (sameSes s t)) ∧ Keeps w w' := by
  obtain ⟨a, cap, rfl, _⟩ := h1.len
  obtain ⟨a', cap', rfl, _⟩ := h2.len
  have H1 : Hid (KeptAt w (.slice a s.kept.length cap) s.kept) := h1
  have H2 : Hid (KeptAt w (.slice a' t.kept.length cap') t.kept) := h2
  clear h1 h2
  go_enter Try.func19, Try.ntmps19
  go_wp2_with fail
  refine (same_sessions s t _ _ _ (H1.out.keep (((Keeps.refl _).alloc _).alloc _)) (H2.out.keep (((Keeps.refl _).alloc _).alloc _))).mono ?_
  rintro e w1 ⟨rfl, hb⟩
  have hk1 : Keeps w w1 := (((Keeps.refl _).alloc _).alloc _).trans hb
  go_wp2_with fail
  go_ret
  exact ⟨rfl, hk1⟩

end Go.Proofs.Yteabfjpajgakiaa
