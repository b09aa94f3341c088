/- StateTells: the law's walk. -/
import Derived.Test.YthjcnbimapgdnabStH
set_option linter.unusedSimpArgs false
set_option linter.unusedVariables false
set_option maxRecDepth 10000
namespace Go.Proofs.Ythjcnbimapgdnab
open Go.RowKit

set_option maxHeartbeats 4000000 in
theorem state_tells (s t : St) (x y : Value) (w : World) (h1 : TabAt w x s.tab) (h2 : TabAt w y t.tab) :
    Calls Try.prog 3 #[stV s x, stV t y] w fun e w' => e = .returned (.bool true) ∧ Keeps w w' := by
  obtain ⟨a, c, rfl, _⟩ := h1.len
  obtain ⟨a', c', rfl, _⟩ := h2.len
  have hkk : Keeps w ((w.alloc (.cells #[.int .i64 s.at_, .int .i64 s.clock, .int .i64 s.v0, .int .i64 s.v1, .int .i64 s.v2, .int .i64 s.v3, .slice a s.tab.length c] 25)).alloc (.cells #[.int .i64 t.at_, .int .i64 t.clock, .int .i64 t.v0, .int .i64 t.v1, .int .i64 t.v2, .int .i64 t.v3, .slice a' t.tab.length c'] 25)) := ((Keeps.refl _).alloc _).alloc _
  have C1 : Hid (∀ W, Keeps w W → Calls Try.prog 10 #[stV s (.slice a s.tab.length c)] W fun e w' => e = .returned (.int .i64 (stErr s)) ∧ Keeps W w') := fun W hk => state_check s _ W (h1.keep hk)
  have C2 : Hid (∀ W, Keeps w W → Calls Try.prog 11 #[stV s (.slice a s.tab.length c)] W fun e w' => e = .returned (.int .i64 (stErr s)) ∧ Keeps W w') := fun W hk => state_error s _ W (h1.keep hk)
  have C3 : Hid (∀ W, Keeps w W → Calls Try.prog 12 #[stV s (.slice a s.tab.length c), stV t (.slice a' t.tab.length c')] W fun e w' => e = .returned (.bool (sameSt s t)) ∧ Keeps W w') := fun W hk => state_same s t _ _ W (h1.keep hk) (h2.keep hk)
  have C4 : Hid (∀ W, Keeps w W → Calls Try.prog 13 #[stV s (.slice a s.tab.length c), stV t (.slice a' t.tab.length c')] W fun e w' => e = .returned (.bool (sameSt s t)) ∧ Keeps W w') := fun W hk => same_of s t _ _ W (h1.keep hk) (h2.keep hk)
  clear h1 h2
  generalize stErr s = er at C1 C2
  generalize sameSt s t = sm at C3 C4
  generalize s.tab.length = n at *
  generalize t.tab.length = n' at *
  go_enter Try.func3, Try.ntmps3
  go_wp2_with fail
  have hne := After.some ((w.alloc (.cells #[.int .i64 s.at_, .int .i64 s.clock, .int .i64 s.v0, .int .i64 s.v1, .int .i64 s.v2, .int .i64 s.v3, .slice a n c] 25)).alloc (.cells #[.int .i64 t.at_, .int .i64 t.clock, .int .i64 t.v0, .int .i64 t.v1, .int .i64 t.v2, .int .i64 t.v3, .slice a' n' c'] 25))
  have KA : Hid (∀ r : After ((w.alloc (.cells #[.int .i64 s.at_, .int .i64 s.clock, .int .i64 s.v0, .int .i64 s.v1, .int .i64 s.v2, .int .i64 s.v3, .slice a n c] 25)).alloc (.cells #[.int .i64 t.at_, .int .i64 t.clock, .int .i64 t.v0, .int .i64 t.v1, .int .i64 t.v2, .int .i64 t.v3, .slice a' n' c'] 25)), Keeps w r.w) := fun r => hkk.trans r.h
  have XA : ∀ (i : Nat) (u : Value), #[.int .i64 s.at_, .int .i64 s.clock, .int .i64 s.v0, .int .i64 s.v1, .int .i64 s.v2, .int .i64 s.v3, Value.slice a n c][i]? = some u → ∀ r : After ((w.alloc (.cells #[.int .i64 s.at_, .int .i64 s.clock, .int .i64 s.v0, .int .i64 s.v1, .int .i64 s.v2, .int .i64 s.v3, .slice a n c] 25)).alloc (.cells #[.int .i64 t.at_, .int .i64 t.clock, .int .i64 t.v0, .int .i64 t.v1, .int .i64 t.v2, .int .i64 t.v3, .slice a' n' c'] 25)), r.w.cell? ⟨w.heap.size, i, none⟩ = some u := fun i u hu r =>
    cell_kept (cell_kept (W := w.alloc (.cells #[.int .i64 s.at_, .int .i64 s.clock, .int .i64 s.v0, .int .i64 s.v1, .int .i64 s.v2, .int .i64 s.v3, .slice a n c] 25)) (by rw [World.cell?_alloc_at _ _ _ _ rfl]; exact hu) ((Keeps.refl _).alloc _)) r.h
  have YA : ∀ (i : Nat) (u : Value), #[.int .i64 t.at_, .int .i64 t.clock, .int .i64 t.v0, .int .i64 t.v1, .int .i64 t.v2, .int .i64 t.v3, Value.slice a' n' c'][i]? = some u → ∀ r : After ((w.alloc (.cells #[.int .i64 s.at_, .int .i64 s.clock, .int .i64 s.v0, .int .i64 s.v1, .int .i64 s.v2, .int .i64 s.v3, .slice a n c] 25)).alloc (.cells #[.int .i64 t.at_, .int .i64 t.clock, .int .i64 t.v0, .int .i64 t.v1, .int .i64 t.v2, .int .i64 t.v3, .slice a' n' c'] 25)), r.w.cell? ⟨w.heap.size + 1, i, none⟩ = some u := fun i u hu r =>
    cell_kept (by rw [World.cell?_alloc_at _ _ _ _ (by simp)]; exact hu) r.h
  have x0 := XA 0 _ rfl
  have x1 := XA 1 _ rfl
  have x2 := XA 2 _ rfl
  have x3 := XA 3 _ rfl
  have x4 := XA 4 _ rfl
  have x5 := XA 5 _ rfl
  have x6 := XA 6 _ rfl
  have y0 := YA 0 _ rfl
  have y1 := YA 1 _ rfl
  have y2 := YA 2 _ rfl
  have y3 := YA 3 _ rfl
  have y4 := YA 4 _ rfl
  have y5 := YA 5 _ rfl
  have y6 := YA 6 _ rfl
  clear XA YA
  generalize ((w.alloc (.cells #[.int .i64 s.at_, .int .i64 s.clock, .int .i64 s.v0, .int .i64 s.v1, .int .i64 s.v2, .int .i64 s.v3, .slice a n c] 25)).alloc (.cells #[.int .i64 t.at_, .int .i64 t.clock, .int .i64 t.v0, .int .i64 t.v1, .int .i64 t.v2, .int .i64 t.v3, .slice a' n' c'] 25)) = W at *
  refine wp_region_after (by kernel_rfl) (by kernel_rfl) ?_
  repeat (first | go_big_quiet_skip | (go_big_quiet_want; go_big_quiet_op; first | go_big_quiet_on | (apply Exists.intro; refine ⟨fun _ => ?_, ?_⟩; (first | (go_at_call 9; exact calls_after (state_begun _)) | (go_at_call 10; exact calls_after (C1.out _ (KA.out _))) | (go_at_call 11; exact calls_after (C2.out _ (KA.out _))) | (go_at_call 12; exact calls_after (C3.out _ (KA.out _))) | (go_at_call 13; exact calls_after (C4.out _ (KA.out _)))); go_big_quiet_on)))
  refine wpQuiet_nil ?_
  rintro _ ⟨r, rfl⟩
  go_wp2_with fail
  go_ret
  exact ⟨rfl, KA.out r⟩
end Go.Proofs.Ythjcnbimapgdnab
