/- States: the reference's StateError. -/
import Derived.Test.YthjcnbimapgdnabStD
set_option linter.unusedSimpArgs false
set_option linter.unusedVariables false
set_option maxRecDepth 10000
namespace Go.Proofs.Ythjcnbimapgdnab
open Go.RowKit

theorem stIn_no {s : St} (h : inB s.at_ 0 50 = true) (h2 : inB s.clock 0 999 = true) (h3 : valsIn s.v0 s.v1 s.v2 s.v3 = true) : stIn s = true := by simp [stIn, h, h2, h3]

set_option maxHeartbeats 2000000 in
theorem state_error_range (s : St) (x : Value) (w : World) (hT : TabAt w x s.tab) (hi : stIn s = false) :
    Calls Try.prog 11 #[stV s x] w fun e w' => e = .returned (.int .i64 (stErr s)) ∧ Keeps w w' := by
  obtain ⟨a, c, rfl, hlen⟩ := hT.len
  unfold maxLen at hlen
  clear hT
  have HE : Hid (stErr s = 3) := by simp [Hid, stErr, hi]
  generalize s.tab.length = m at *
  cases q1 : inB s.at_ 0 50 with
  | false =>
    clear hi
    go_enter Try.func11, Try.ntmps11
    go_wp2_with (first | (go_at_call 27; refine (within_c _ _ _ _).mono ?_; rintro e w' ⟨rfl, rfl⟩))
    go_ret
    exact ⟨ret_int HE.out.symm, (Keeps.refl _).alloc _⟩
  | true =>
    cases q2 : inB s.clock 0 999 with
    | false =>
      clear hi
      go_enter Try.func11, Try.ntmps11
      go_wp2_with (first | (go_at_call 27; refine (within_c _ _ _ _).mono ?_; rintro e w' ⟨rfl, rfl⟩))
      go_ret
      exact ⟨ret_int HE.out.symm, (Keeps.refl _).alloc _⟩
    | true =>
      have q3 : valsIn s.v0 s.v1 s.v2 s.v3 = false := by simpa [stIn, q1, q2] using hi
      clear hi
      go_enter Try.func11, Try.ntmps11
      go_wp2_with (first | (go_at_call 27; refine (within_c _ _ _ _).mono ?_; rintro e w' ⟨rfl, rfl⟩))
      refine (st_vals_fine s.v0 s.v1 s.v2 s.v3 _).mono ?_
      rintro e w1 ⟨rfl, hb⟩
      have hk1 : Keeps w w1 := ((Keeps.refl _).alloc _).trans hb
      clear hb
      go_wp2_with fail
      go_ret
      exact ⟨ret_int HE.out.symm, hk1⟩

set_option maxHeartbeats 2000000 in
theorem state_error_in (s : St) (x : Value) (w : World) (hT : TabAt w x s.tab) (hi : stIn s = true) :
    Calls Try.prog 11 #[stV s x] w fun e w' => e = .returned (.int .i64 (stErr s)) ∧ Keeps w w' := by
  obtain ⟨a, c, rfl, hlen⟩ := hT.len
  unfold maxLen at hlen
  have HT : Hid (TabAt w (.slice a s.tab.length c) s.tab) := hT
  clear hT
  have hi' := hi
  simp only [stIn, Bool.and_eq_true] at hi'
  obtain ⟨q3, q1, q2⟩ := hi'
  obtain ⟨hc0, hc1⟩ := stIn_clock hi
  have HI : Hid (stIn s = true) := hi
  clear hi
  go_enter Try.func11, Try.ntmps11
  go_wp2_with (first | (go_at_call 27; refine (within_c _ _ _ _).mono ?_; rintro e w' ⟨rfl, rfl⟩))
  refine (st_vals_fine s.v0 s.v1 s.v2 s.v3 _).mono ?_
  rintro e w1 ⟨rfl, hb⟩
  have hk1 : Keeps w w1 := ((Keeps.refl _).alloc _).trans hb
  have x1 : w1.cell? ⟨w.heap.size, 1, none⟩ = some (.int .i64 s.clock) := (Below.cell hb (p := ⟨w.heap.size, 1, none⟩) (by simp)).trans (by simp [go_sem])
  have x6 : w1.cell? ⟨w.heap.size, 6, none⟩ = some (.slice a s.tab.length c) := (Below.cell hb (p := ⟨w.heap.size, 6, none⟩) (by simp)).trans (by simp [go_sem])
  clear hb
  have hlt := World.block_lt_of_cell? _ _ x6
  simp only [] at hlt
  go_wp2_with fail
  refine (table_error s.tab _ _ (HT.out.keep hk1)).mono ?_
  rintro e w2 ⟨rfl, hb⟩
  have hk2 : Keeps w w2 := hk1.trans hb
  have x1 := cell_kept x1 hb
  have x6 := cell_kept x6 hb
  have hlt := Nat.lt_of_lt_of_le hlt hb.size
  clear hb hk1
  cases he : (tabErr s.tab == 0) with
  | false =>
    have he' : (tabErr s.tab != 0) = true := by simp [bne, he]
    have HE : Hid (stErr s = tabErr s.tab) := by simp [Hid, stErr, HI.out, he]
    go_wp2_with fail
    go_ret
    exact ⟨ret_int HE.out.symm, hk2⟩
  | true =>
    have he' : (tabErr s.tab != 0) = false := by simp [bne, he]
    have HS : Hid (stErr s = if seenAll s.clock s.tab then 0 else 1) := by simp [Hid, stErr, HI.out, he]
    clear he HI
    go_wp2_with fail
    go_loopw [4] (fun i wr => ∃ (k : Nat), k ≤ s.tab.length ∧ i = .int .i64 k ∧ Keeps w2 wr ∧ Hid (seenAll s.clock s.tab = seenAll s.clock (s.tab.drop k))) (fun i _ => s.tab.length - (intOf i).toNat)
    case atStart => exact ⟨0, Nat.zero_le _, rfl, Keeps.refl _, rfl⟩
    case round =>
      obtain ⟨k, hk, rfl, hkw, HQ⟩ := hrel
      have x1 := cell_kept x1 hkw
      have x6 := cell_kept x6 hkw
      have hlt := Nat.lt_of_lt_of_le hlt hkw.size
      by_cases hlt2 : k < s.tab.length
      · obtain ⟨b, off, cap', hv, hcell⟩ := (HT.out.keep (hk2.trans hkw)).at hlt2
        injection hv with hv1 hv2 hv3
        subst hv1
        clear hv2 hv3
        have c2 := (hcell k hlt2).2.2.1
        clear hcell
        have HR : Hid (seenAll s.clock s.tab = (inB (s.tab[k]).seen (s.clock - 20) s.clock && seenAll s.clock (s.tab.drop (k + 1)))) := HQ.out.trans (seenAll_at hlt2)
        clear HQ
        generalize s.tab[k] = t at *
        have hne := After.some wr
        have y1 := fun t : After wr => (Below.cell t.h (p := ⟨w.heap.size, 1, none⟩) hlt).trans x1
        have y6 := fun t : After wr => (Below.cell t.h (p := ⟨w.heap.size, 6, none⟩) hlt).trans x6
        have z2 := fun t : After wr => (Below.cell t.h (p := ⟨b, off + k * 4 + 2, none⟩) (World.block_lt_of_cell? _ _ c2)).trans c2
        cases hs : inB t.seen (s.clock - 20) s.clock with
        | false =>
          have HE : Hid (stErr s = 1) := by show _ = _; rw [HS.out, HR.out, hs]; rfl
          go_wp2_with fail
          refine wp_region_after (by kernel_rfl) (by kernel_rfl) ?_
          repeat (first | go_big_quiet_skip | (go_big_quiet_want; go_big_quiet_op; first | go_big_quiet_on | (apply Exists.intro; refine ⟨fun _ => ?_, ?_⟩; (go_at_call 27; exact calls_after_eq (within_c _ _ _ _) (congrArg Value.bool hs)); go_big_quiet_on)))
          refine wpQuiet_nil ?_
          rintro _ ⟨t, rfl⟩
          go_wp2_with fail
          go_ret
          exact ⟨ret_int HE.out.symm, (hk2.trans hkw).trans t.h⟩
        | true =>
          have HN : Hid (seenAll s.clock s.tab = seenAll s.clock (s.tab.drop (k + 1))) := by show _ = _; rw [HR.out, hs]; rfl
          clear HR
          go_wp2_with fail
          refine wp_region_after (by kernel_rfl) (by kernel_rfl) ?_
          repeat (first | go_big_quiet_skip | (go_big_quiet_want; go_big_quiet_op; first | go_big_quiet_on | (apply Exists.intro; refine ⟨fun _ => ?_, ?_⟩; (go_at_call 27; exact calls_after_eq (within_c _ _ _ _) (congrArg Value.bool hs)); go_big_quiet_on)))
          refine wpQuiet_nil ?_
          rintro _ ⟨t, rfl⟩
          go_wp2_with fail
          go_roundw
          case rel => exact ⟨k + 1, by omega, by go_num, hkw.trans t.h, HN⟩
          case measure => simp [intOf]; omega
      · have HE : Hid (stErr s = 0) := by show _ = _; rw [HS.out, HQ.out, List.drop_of_length_le (by omega)]; rfl
        go_wp2_with fail
        go_ret
        exact ⟨ret_int HE.out.symm, hk2.trans hkw⟩

theorem state_error (s : St) (x : Value) (w : World) (hT : TabAt w x s.tab) :
    Calls Try.prog 11 #[stV s x] w fun e w' => e = .returned (.int .i64 (stErr s)) ∧ Keeps w w' := by
  cases h : stIn s with
  | false => exact state_error_range s x w hT h
  | true => exact state_error_in s x w hT h
end Go.Proofs.Ythjcnbimapgdnab
