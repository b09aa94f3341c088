/- SnN0, StE, SnH, SnN, SnJ, StG, StS, SnK, SnW. -/
import Derived.Defers
import Derived.Recover
import Derived.Laws.Pointers
import Derived.Laws.Concat
import Derived.Test.YteabfjpajgakiadJ01
import Derived.Test.YteabfjpajgakiadJ02
import Derived.Test.YteabfjpajgakiadJ03
import Derived.Test.YteabfjpajgakiadJ04
/- The reference's StateFrom (plain). -/
set_option linter.unusedSimpArgs false
set_option linter.unusedVariables false
set_option maxRecDepth 10000
namespace Go.Proofs.Yteabfjpajgakiad
open Go.RowKit

/-- What the reference hears: what is not there is 0. -/
def earReps : Nat → List UInt8 → List (Int × Int) × List UInt8
  | 0, l => ([], l)
  | n + 1, l => ((i8 (nth l 0), i8 (nth l 1) * 256 + i8 (nth l 2) - 1) :: (earReps n (l.drop 3)).1, (earReps n (l.drop 3)).2)
def earSes (l : List UInt8) : Ses × List UInt8 := (⟨i8 (nth l 0), i8 (nth l 1), i8 (nth l 2) * 256 + i8 (nth l 3), (earReps (nth l 4).toNat (l.drop 5)).1⟩, (earReps (nth l 4).toNat (l.drop 5)).2)
def earTab : Nat → List UInt8 → List Ses × List UInt8
  | 0, l => ([], l)
  | n + 1, l => ((earSes l).1 :: (earTab n (earSes l).2).1, (earTab n (earSes l).2).2)
def earSt (l : List UInt8) : St := ⟨i8 (nth l 0), i8 (nth l 1) * 256 + i8 (nth l 2), i8 (nth l 3) * 256 + i8 (nth l 4), i8 (nth l 5) * 256 + i8 (nth l 6), i8 (nth l 7) * 256 + i8 (nth l 8), i8 (nth l 9) * 256 + i8 (nth l 10), (earTab (nth l 11).toNat (l.drop 12)).1⟩
theorem earReps_of : ∀ (n : Nat) (l : List UInt8) (p : List (Int × Int) × List UInt8), rdReps n l = some p → earReps n l = p
  | 0, l, p, h => by
    simp only [rdReps, Option.some.injEq] at h
    exact h
  | n + 1, q :: h' :: o :: t, p, h => by
    simp only [rdReps, Option.map_eq_some_iff] at h
    obtain ⟨p', h1, rfl⟩ := h
    have ih := earReps_of n t p' h1
    show (_ :: (earReps n t).1, (earReps n t).2) = _
    rw [ih]
    rfl
  | n + 1, [], _, h => by cases h
  | n + 1, [_], _, h => by cases h
  | n + 1, [_, _], _, h => by cases h
theorem earSes_of {l : List UInt8} {p : Ses × List UInt8} (h : rdSes l = some p) : earSes l = p := by
  match l, h with
  | c :: a :: h' :: o :: n :: t, h =>
    simp only [rdSes, Option.map_eq_some_iff] at h
    obtain ⟨p', h1, rfl⟩ := h
    have ih := earReps_of _ _ _ h1
    show ((⟨i8 c, i8 a, i8 h' * 256 + i8 o, (earReps n.toNat t).1⟩ : Ses), (earReps n.toNat t).2) = _
    rw [ih]
theorem earTab_of : ∀ (n : Nat) (l : List UInt8) (p : List Ses × List UInt8), rdTab n l = some p → earTab n l = p
  | 0, l, p, h => by
    simp only [rdTab, Option.some.injEq] at h
    exact h
  | n + 1, l, p, h => by
    simp only [rdTab] at h
    split at h
    · rename_i s t hs
      simp only [Option.map_eq_some_iff] at h
      obtain ⟨p', h1, rfl⟩ := h
      have ih := earTab_of n t p' h1
      show ((earSes l).1 :: (earTab n (earSes l).2).1, (earTab n (earSes l).2).2) = _
      rw [earSes_of hs]
      show (s :: (earTab n t).1, (earTab n t).2) = _
      rw [ih]
    · cases h
theorem earSt_of {l : List UInt8} {s : St} {r : List UInt8} (h : rdSt l = some (s, r)) : earSt l = s := by
  match l, h with
  | a :: c1 :: c0 :: p1 :: p0 :: q1 :: q0 :: r1 :: r0 :: s1 :: s0 :: n :: t, h =>
    simp only [rdSt, Option.map_eq_some_iff] at h
    obtain ⟨p', h1, h2⟩ := h
    simp only [Prod.mk.injEq] at h2
    obtain ⟨rfl, rfl⟩ := h2
    have ih := earTab_of _ _ _ h1
    show (⟨i8 a, i8 c1 * 256 + i8 c0, i8 p1 * 256 + i8 p0, i8 q1 * 256 + i8 q0, i8 r1 * 256 + i8 r0, i8 s1 * 256 + i8 s0, (earTab n.toNat t).1⟩ : St) = _
    rw [ih]
/-- Both have the same state of these bytes, or none. -/
theorem from_ok (l : List UInt8) : snOf l = if stErr (earSt l) == 0 && (stBs (earSt l) == l) then some (earSt l) else none := by
  cases h : snOf l with
  | some s =>
    obtain ⟨h1, h2⟩ := snOf_some h
    have h3 : earSt l = s := by
      have := rdSt_of s [] (st_fit h1).1
      rw [List.append_nil, ← h2] at this
      exact earSt_of this
    rw [h3, h1, ← h2]
    simp
  | none =>
    cases q : (stErr (earSt l) == 0 && (stBs (earSt l) == l)) with
    | false => rfl
    | true =>
      exfalso
      simp only [Bool.and_eq_true, beq_iff_eq] at q
      have := snOf_of q.1
      rw [q.2, h] at this
      cases this
end Go.Proofs.Yteabfjpajgakiad

/- States: the reference's StateError. -/
set_option linter.unusedSimpArgs false
set_option linter.unusedVariables false
set_option maxRecDepth 10000
namespace Go.Proofs.Yteabfjpajgakiad
open Go.RowKit

set_option maxHeartbeats 2000000 in
theorem state_error_range (s : St) (x : Value) (w : World) (hT : TabAt w x s.tab) (hi : stIn s = false) :
    Calls Try.prog 10 #[stV s x] w fun e w' => e = .returned (.int .i64 (stErr s)) ∧ Keeps w w' := by
  obtain ⟨a, c, rfl, hlen⟩ := hT.len
  unfold maxLen at hlen
  clear hT
  have HE : Hid (stErr s = 3) := by simp [Hid, stErr, hi]
  generalize s.tab.length = m at *
  cases q1 : inB s.at_ 0 50 with
  | false =>
    clear hi
    go_enter Try.func10, Try.ntmps10
    go_wp2_with (first | (go_at_call 33; refine (within_c _ _ _ _).mono ?_; rintro e w' ⟨rfl, rfl⟩))
    go_ret
    exact ⟨ret_int HE.out.symm, (Keeps.refl _).alloc _⟩
  | true =>
    cases q2 : inB s.clock 0 999 with
    | false =>
      clear hi
      go_enter Try.func10, Try.ntmps10
      go_wp2_with (first | (go_at_call 33; refine (within_c _ _ _ _).mono ?_; rintro e w' ⟨rfl, rfl⟩))
      go_ret
      exact ⟨ret_int HE.out.symm, (Keeps.refl _).alloc _⟩
    | true =>
      have q3 : valsIn s.v0 s.v1 s.v2 s.v3 = false := by simpa [stIn, q1, q2] using hi
      clear hi
      go_enter Try.func10, Try.ntmps10
      go_wp2_with (first | (go_at_call 33; refine (within_c _ _ _ _).mono ?_; rintro e w' ⟨rfl, rfl⟩))
      refine (st_vals_fine s.v0 s.v1 s.v2 s.v3 _).mono ?_
      rintro e w1 ⟨rfl, hb⟩
      have hk1 : Keeps w w1 := ((Keeps.refl _).alloc _).trans hb
      clear hb
      go_wp2_with fail
      go_ret
      exact ⟨ret_int HE.out.symm, hk1⟩

set_option maxHeartbeats 2000000 in
theorem state_error_in (s : St) (x : Value) (w : World) (hT : TabAt w x s.tab) (hi : stIn s = true) :
    Calls Try.prog 10 #[stV s x] w fun e w' => e = .returned (.int .i64 (stErr s)) ∧ Keeps w w' := by
  obtain ⟨a, c, rfl, hlen⟩ := hT.len
  unfold maxLen at hlen
  have HT : Hid (TabAt w (.slice a s.tab.length c) s.tab) := hT
  clear hT
  have hi' := hi
  simp only [stIn, Bool.and_eq_true] at hi'
  obtain ⟨q3, q1, q2⟩ := hi'
  obtain ⟨hc0, hc1⟩ := stIn_clock hi
  have HI : Hid (stIn s = true) := hi
  clear hi
  go_enter Try.func10, Try.ntmps10
  go_wp2_with (first | (go_at_call 33; refine (within_c _ _ _ _).mono ?_; rintro e w' ⟨rfl, rfl⟩))
  refine (st_vals_fine s.v0 s.v1 s.v2 s.v3 _).mono ?_
  rintro e w1 ⟨rfl, hb⟩
  have hk1 : Keeps w w1 := ((Keeps.refl _).alloc _).trans hb
  have x1 : w1.cell? ⟨w.heap.size, 1, none⟩ = some (.int .i64 s.clock) := (Below.cell hb (p := ⟨w.heap.size, 1, none⟩) (by simp)).trans (by simp [go_sem])
  have x6 : w1.cell? ⟨w.heap.size, 6, none⟩ = some (.slice a s.tab.length c) := (Below.cell hb (p := ⟨w.heap.size, 6, none⟩) (by simp)).trans (by simp [go_sem])
  clear hb
  have hlt := World.block_lt_of_cell? _ _ x6
  simp only [] at hlt
  go_wp2_with fail
  refine (table_error s.tab _ _ (HT.out.keep hk1)).mono ?_
  rintro e w2 ⟨rfl, hb⟩
  have hk2 : Keeps w w2 := hk1.trans hb
  have x1 := cell_kept x1 hb
  have x6 := cell_kept x6 hb
  have hlt := Nat.lt_of_lt_of_le hlt hb.size
  clear hb hk1
  cases he : (tabErr s.tab == 0) with
  | false =>
    have he' : (tabErr s.tab != 0) = true := by simp [bne, he]
    have HE : Hid (stErr s = tabErr s.tab) := by simp [Hid, stErr, HI.out, he]
    go_wp2_with fail
    go_ret
    exact ⟨ret_int HE.out.symm, hk2⟩
  | true =>
    have he' : (tabErr s.tab != 0) = false := by simp [bne, he]
    have HS : Hid (stErr s = if seenAll s.clock s.tab then 0 else 1) := by simp [Hid, stErr, HI.out, he]
    clear he HI
    go_wp2_with fail
    go_loopw [4] (fun i wr => ∃ (k : Nat), k ≤ s.tab.length ∧ i = .int .i64 k ∧ Keeps w2 wr ∧ Hid (seenAll s.clock s.tab = seenAll s.clock (s.tab.drop k))) (fun i _ => s.tab.length - (intOf i).toNat)
    case atStart => exact ⟨0, Nat.zero_le _, rfl, Keeps.refl _, rfl⟩
    case round =>
      obtain ⟨k, hk, rfl, hkw, HQ⟩ := hrel
      have x1 := cell_kept x1 hkw
      have x6 := cell_kept x6 hkw
      have hlt := Nat.lt_of_lt_of_le hlt hkw.size
      by_cases hlt2 : k < s.tab.length
      · obtain ⟨b, off, cap', hv, hcell⟩ := (HT.out.keep (hk2.trans hkw)).at hlt2
        injection hv with hv1 hv2 hv3
        subst hv1
        clear hv2 hv3
        have c2 := (hcell k hlt2).2.2.1
        clear hcell
        have HR : Hid (seenAll s.clock s.tab = (inB (s.tab[k]).seen (s.clock - 20) s.clock && seenAll s.clock (s.tab.drop (k + 1)))) := HQ.out.trans (seenAll_at hlt2)
        clear HQ
        generalize s.tab[k] = t at *
        have hne := After.some wr
        have y1 := fun t : After wr => (Below.cell t.h (p := ⟨w.heap.size, 1, none⟩) hlt).trans x1
        have y6 := fun t : After wr => (Below.cell t.h (p := ⟨w.heap.size, 6, none⟩) hlt).trans x6
        have z2 := fun t : After wr => (Below.cell t.h (p := ⟨b, off + k * 4 + 2, none⟩) (World.block_lt_of_cell? _ _ c2)).trans c2
        cases hs : inB t.seen (s.clock - 20) s.clock with
        | false =>
          have HE : Hid (stErr s = 1) := by show _ = _; rw [HS.out, HR.out, hs]; rfl
          go_wp2_with fail
          refine wp_region_after (by kernel_rfl) (by kernel_rfl) ?_
          repeat (first | go_big_quiet_skip | (go_big_quiet_want; go_big_quiet_op; first | go_big_quiet_on | (apply Exists.intro; refine ⟨fun _ => ?_, ?_⟩; (go_at_call 33; exact calls_after_eq (within_c _ _ _ _) (congrArg Value.bool hs)); go_big_quiet_on)))
          refine wpQuiet_nil ?_
          rintro _ ⟨t, rfl⟩
          go_wp2_with fail
          go_ret
          exact ⟨ret_int HE.out.symm, (hk2.trans hkw).trans t.h⟩
        | true =>
          have HN : Hid (seenAll s.clock s.tab = seenAll s.clock (s.tab.drop (k + 1))) := by show _ = _; rw [HR.out, hs]; rfl
          clear HR
          go_wp2_with fail
          refine wp_region_after (by kernel_rfl) (by kernel_rfl) ?_
          repeat (first | go_big_quiet_skip | (go_big_quiet_want; go_big_quiet_op; first | go_big_quiet_on | (apply Exists.intro; refine ⟨fun _ => ?_, ?_⟩; (go_at_call 33; exact calls_after_eq (within_c _ _ _ _) (congrArg Value.bool hs)); go_big_quiet_on)))
          refine wpQuiet_nil ?_
          rintro _ ⟨t, rfl⟩
          go_wp2_with fail
          go_roundw
          case rel => exact ⟨k + 1, by omega, by go_num, hkw.trans t.h, HN⟩
          case measure => simp [intOf]; omega
      · have HE : Hid (stErr s = 0) := by show _ = _; rw [HS.out, HQ.out, List.drop_of_length_le (by omega)]; rfl
        go_wp2_with fail
        go_ret
        exact ⟨ret_int HE.out.symm, hk2.trans hkw⟩

theorem state_error (s : St) (x : Value) (w : World) (hT : TabAt w x s.tab) :
    Calls Try.prog 10 #[stV s x] w fun e w' => e = .returned (.int .i64 (stErr s)) ∧ Keeps w w' := by
  cases h : stIn s with
  | false => exact state_error_range s x w hT h
  | true => exact state_error_in s x w hT h
end Go.Proofs.Yteabfjpajgakiad

/- octet.Read, of a state. -/
set_option linter.unusedSimpArgs false
set_option linter.unusedVariables false
set_option maxRecDepth 10000
namespace Go.Proofs.Yteabfjpajgakiad
open Go.RowKit

/-- What Read defers, where the one that reads has panicked. -/
theorem catch_panicking (p : Addr) (v0 : Value) (u : TypeId) (pv : Value) (older : List PanicEntry) (w : World) (hc : w.cell? p = some v0) (hz : w.frozen? p = false) :
    CallsD Try.prog 78 #[.pointer (some p)] (.panicking ({ v := .iface u pv, recovered := false } :: older)) w fun e u' w' =>
      e = .returned (.tuple #[]) ∧ u' = .panicking ({ v := .iface u pv, recovered := true } :: older) ∧ w' = w.setCell p (.bool false) := by
  refine callsD_of_wpS Try.func78 rfl fun c₀ cs hu => ?_
  apply wpS_seq
  apply wpS_region
  simp [wpOpsS, go_sem, recoverD, hu, Try.ntmps78, Exit.thenS]
  refine wpS_cond (t := true) (by simp [Act.eval, Array.replicate]) ?_
  simp only [if_true]
  apply wpS_region
  simp [wpOpsS, go_sem, hc, hz, bodyPostS, results, Try.results78]

theorem catch_idle (p : Addr) (w : World) :
    CallsD Try.prog 78 #[.pointer (some p)] .returning w fun e u' w' => e = .returned (.tuple #[]) ∧ u' = .returning ∧ w' = w := by
  refine callsD_of_wpS Try.func78 rfl fun c₀ cs hu => ?_
  apply wpS_seq
  apply wpS_region
  simp [wpOpsS, go_sem, recoverD, hu, Try.ntmps78, Exit.thenS]
  refine wpS_cond (t := false) (by simp [Act.eval, Array.replicate]) ?_
  simp only [Bool.false_eq_true, if_false]
  refine wpS_of_wp (wp_skip ?_)
  cases c₀
  simp_all [bodyPostS, results, Try.results78]

theorem h_store25 {o : Oper} {a : Act} {w : World} {K : Act → World → Prop} {Q : Exit → Act → World → Prop} {x y : Operand} (ho : o.op = .store 25 x y) (b : Nat) (hx : a.eval x = .pointer (some ⟨b, 0, none⟩)) {d : St} {p : Value} (s : St) (ka : Option Addr) (kn kc : Nat) (hy : a.eval y = stV s (.slice ka kn kc)) (hB : CBox b (C7 d p) w)
    (h : ∀ w', CBox b (C7 s (.slice ka kn kc)) w' → But b w w' → K (a.put o.dst undef) w') : Wrp (Oper.wp Try.prog o a w K Q) := by
  exact ⟨wp_store_box _ x y ho b 0 (C7 s (.slice ka kn kc)) hx hy hB _ rfl (Nat.le_of_ble_eq_true rfl) (info_size size25 rfl) (by kernel_rfl) h⟩
theorem load25_run {w : World} {b : Nat} {s : St} {p : Value} (hB : CBox b (C7 s p) w) : (Instr.loadAt 25 (.pointer (some ⟨b, 0, none⟩))).run Try.prog w = .ok (stV s p) w := by
  obtain ⟨d, h1, h2⟩ := row25
  exact run_loadAt_mid w b 0 _ (C7 s p) d (range_of hB 0 7 rfl) h1 h2 (info_size size25 rfl)

set_option maxHeartbeats 4000000 in
theorem sread_no (l : List UInt8) (h : rdSt l = none) (w : World) : Calls Try.prog 62 #[.string (bt l), .func (.func 63) #[] #[]] w fun y w' => y = .returned (.tuple #[stV z7 (.slice none 0 0), .int .i64 0, .bool false]) ∧ Keeps w w' := by
  have HN : Hid (∀ b W, RBox b l W → Calls Try.prog 63 #[.pointer (some ⟨b, 0, none⟩)] W fun y w' => (∃ u pv, y = .panicked [{ v := .iface u pv, recovered := false }]) ∧ But b W w') := fun b W hB => by
    have := read_state b l W hB
    rw [h] at this
    exact this
  clear h
  have hmf : ∀ (fn : Fn) (first cap : Array Value) (w : World), (Instr.makeFunc fn first cap).run Try.prog w = .ok (.func fn first cap) w := fun _ _ _ _ => rfl
  go_enter_defers Try.func62, Try.ntmps62
  go_wp2_with (first | (refine alloc25 rfl rfl ?_; intro w0 ob hBo hko hlo hgo))
  obtain ⟨wb, hwb⟩ : ∃ z, z = w0.heap.size := ⟨_, rfl⟩
  obtain ⟨W3, hW3⟩ : ∃ z, z = (w0.alloc (Obj.cells #[Value.bool false] 4)).alloc (Obj.cells #[Value.string (bt l)] 114) := ⟨_, rfl⟩
  have k3 : Keeps w0 W3 := by rw [hW3]; exact ((Keeps.refl _).alloc _).alloc _
  have HR3 : Hid (RBox (wb + 1) l W3) := by
    have h := CBox.new (w0.alloc (Obj.cells #[Value.bool false] 4)) [Value.string (bt l)] 114
    rw [World.size_alloc, ← hwb] at h
    rw [hW3]
    exact ⟨h.1 0 _ rfl, h.2 0⟩
  have HB3 : Hid (CBox wb [.bool false] W3) := by
    rw [hW3, hwb]
    exact (CBox.new w0 [.bool false] 4).keep ((Keeps.refl _).alloc _)
  have HO3 : Hid (CBox ob (C7 z7 (.slice none 0 0)) W3) := hBo.keep k3 (Nat.le_of_ble_eq_true rfl)
  have HK3 : Hid (Keeps w W3) := hko.trans k3
  have HG : Hid (w.heap.size ≤ wb ∧ ob < wb) := ⟨by rw [hwb]; exact hko.size, by rw [hwb]; exact hlo⟩
  rw [← hW3, ← hwb]
  clear hW3 hwb k3 hBo hko hlo hgo
  refine (HN.out (wb + 1) W3 HR3.out).mono ?_
  rintro y w4 ⟨⟨u, pv, rfl⟩, hb⟩
  have HB4 := HB3.out.other hb (by omega)
  have HO4 := HO3.out.other hb (by have := HG.out; omega) (Nat.le_of_ble_eq_true rfl)
  have HK4 : Keeps w w4 := But.to HK3.out (by have := HG.out; omega) hb
  refine leaves_cons (f := 78) (args := #[.pointer (some ⟨wb, 0, none⟩)]) (by simp) (by simp [go_sem]) ?_
  refine (catch_panicking ⟨wb, 0, none⟩ (.bool false) u pv [] _ (HB4.1 0 _ rfl) (HB4.2 0)).mono ?_
  rintro e u' w5 ⟨rfl, rfl, hw5⟩
  have HB5 : CBox wb [.bool false] w5 := by rw [hw5]; exact HB4.one 0 (.bool false)
  have HT5 : But wb w4 w5 := by rw [hw5]; exact (But.refl _ _).set _ _
  have HO5 := HO4.other HT5 (by have := HG.out; omega) (Nat.le_of_ble_eq_true rfl)
  exact ⟨_, resultsC Try.results62 rfl rfl rfl (read25 HO5) (read4 HB5), rfl, But.to HK4 HG.out.1 HT5⟩
set_option maxHeartbeats 4000000 in
theorem sread_ok (l : List UInt8) (s : St) (r : List UInt8) (h : rdSt l = some (s, r)) (hl : l.length ≤ 100000) (w : World) : Calls Try.prog 62 #[.string (bt l), .func (.func 63) #[] #[]] w fun y w' => ∃ ka kc, OwnTab w.heap.size w' (.slice ka s.tab.length kc) s.tab ∧ y = .returned (.tuple #[stV s (.slice ka s.tab.length kc), .int .i64 ((l.length - r.length : Nat) : Int), .bool true]) ∧ Keeps w w' := by
  have HN : Hid (∀ b W, RBox b l W → Calls Try.prog 63 #[.pointer (some ⟨b, 0, none⟩)] W fun y w' => (∃ ka kc, OwnTab W.heap.size w' (.slice ka s.tab.length kc) s.tab ∧ y = .returned (stV s (.slice ka s.tab.length kc)) ∧ RBox b r w') ∧ But b W w') := fun b W hB => by
    have := read_state b l W hB
    rw [h] at this
    exact this
  have hn : r.length ≤ l.length := by
    have h5 := congrArg List.length (rdSt_bytes h)
    simp only [List.length_append] at h5
    omega
  have hs1 := bt_size l
  have hs2 := bt_size r
  clear h
  have hmf : ∀ (fn : Fn) (first cap : Array Value) (w : World), (Instr.makeFunc fn first cap).run Try.prog w = .ok (.func fn first cap) w := fun _ _ _ _ => rfl
  go_enter_defers Try.func62, Try.ntmps62
  go_wp2_with (first | (refine alloc25 rfl rfl ?_; intro w0 ob hBo hko hlo hgo))
  obtain ⟨wb, hwb⟩ : ∃ z, z = w0.heap.size := ⟨_, rfl⟩
  obtain ⟨W3, hW3⟩ : ∃ z, z = (w0.alloc (Obj.cells #[Value.bool false] 4)).alloc (Obj.cells #[Value.string (bt l)] 114) := ⟨_, rfl⟩
  have k3 : Keeps w0 W3 := by rw [hW3]; exact ((Keeps.refl _).alloc _).alloc _
  have HR3 : Hid (RBox (wb + 1) l W3) := by
    have h := CBox.new (w0.alloc (Obj.cells #[Value.bool false] 4)) [Value.string (bt l)] 114
    rw [World.size_alloc, ← hwb] at h
    rw [hW3]
    exact ⟨h.1 0 _ rfl, h.2 0⟩
  have HB3 : Hid (CBox wb [.bool false] W3) := by
    rw [hW3, hwb]
    exact (CBox.new w0 [.bool false] 4).keep ((Keeps.refl _).alloc _)
  have HO3 : Hid (CBox ob (C7 z7 (.slice none 0 0)) W3) := hBo.keep k3 (Nat.le_of_ble_eq_true rfl)
  have HK3 : Hid (Keeps w W3) := hko.trans k3
  have HG : Hid (w.heap.size ≤ wb ∧ ob < wb) := ⟨by rw [hwb]; exact hko.size, by rw [hwb]; exact hlo⟩
  have HOG : Hid (w.heap.size ≤ ob) := hgo
  rw [← hW3, ← hwb]
  clear hW3 hwb k3 hBo hko hlo hgo
  refine (HN.out (wb + 1) W3 HR3.out).mono ?_
  rintro y w4 ⟨⟨ka, kc, hK, rfl, hR⟩, hb⟩
  have HKT : Hid (OwnTab W3.heap.size w4 (.slice ka s.tab.length kc) s.tab) := hK
  have HZL : Hid (ob < W3.heap.size ∧ wb < W3.heap.size ∧ w.heap.size ≤ W3.heap.size) := ⟨HO3.out.lt (Nat.le_of_ble_eq_true rfl), HB3.out.lt (by simp), HK3.out.size⟩
  clear hK
  have HB4 : Hid (CBox wb [.bool false] w4) := HB3.out.other hb (by omega)
  have HO4 : Hid (CBox ob (C7 z7 (.slice none 0 0)) w4) := HO3.out.other hb (by have := HG.out; omega) (Nat.le_of_ble_eq_true rfl)
  have HK4 : Hid (Keeps w w4) := But.to HK3.out (by have := HG.out; omega) hb
  have HR4 : Hid (RBox (wb + 1) (r) w4) := hR
  clear hR hb HB3 HO3 HK3 HR3 HN
  go_wp2_with (first | (refine store25 rfl rfl ob rfl s ka s.tab.length kc rfl HO4.out ?_; intro w5 hS5 hT5))
  have HS0 : Hid ((fun W => CBox ob (C7 s (.slice ka s.tab.length kc)) W ∧ RBox (wb + 1) (r) W ∧ (∃ v, CBox wb [v] W) ∧ Keeps w W ∧ OwnTab W3.heap.size W (.slice ka s.tab.length kc) s.tab) w5.drew) := ⟨hS5.keep (Keeps.refl _).drew (Nat.le_of_ble_eq_true rfl), (HR4.out.other hT5 (by have := HG.out; omega)).keep (Keeps.refl _).drew, ⟨_, (HB4.out.other hT5 (by have := HG.out; omega)).keep (Keeps.refl _).drew⟩, (But.to HK4.out HOG.out hT5).drew, (HKT.out.but HZL.out.1 hT5).keep (Keeps.refl _).drew⟩
  have HW : Hid (IntKind.i64.wrap (((bt l).size : Int) - ((bt (r)).size : Int)) = ((l.length - r.length : Nat) : Int)) := by
    show _ = _
    rw [hs1, hs2]
    simp [IntKind.wrap, IntKind.bits, IntKind.signed]
    omega
  clear hS5 hT5 HR4 HB4 HK4 HO4 hs1 hs2
  refine wp_region_growI (fun W => CBox ob (C7 s (.slice ka s.tab.length kc)) W ∧ RBox (wb + 1) (r) W ∧ (∃ v, CBox wb [v] W) ∧ Keeps w W ∧ OwnTab W3.heap.size W (.slice ka s.tab.length kc) s.tab) HS0.out ⟨fun _ _ => True, fun _ _ _ _ _ => trivial⟩ trivial [some 13, some 14, some 15, some 16, some 17, some 18, some 19, none, some 5, none] [Pr.is (stV s (.slice ka s.tab.length kc)), Pr.is (.string (bt l)), Pr.is (.int .i64 ((bt l).size : Int)), Pr.is (.pointer (some ⟨wb + 1, 0, none⟩)), Pr.is (.string (bt (r))), Pr.is (.int .i64 ((bt (r)).size : Int)), Pr.is (.int .i64 ((l.length - r.length : Nat) : Int)), ⟨fun _ _ => True, fun _ _ _ _ _ => trivial⟩, Pr.is (.int .i64 ((l.length - r.length : Nat) : Int)), ⟨fun _ W => CBox wb [.bool true] W, fun _ W W' h hk => h.keep hk⟩] [⟨7, [], fun W W' => But ob W W'⟩, ⟨9, [], fun W W' => But wb W W'⟩] (by kernel_rfl) (by kernel_rfl) (by kernel_rfl) (by kernel_rfl) ?_ ?_ ?_
  · intro i hi
    match i, hi with
    | 0, _ =>
      refine GrowStepI.wrp rfl rfl ?_
      intro vs W hI hJ hR K hK
      refine h_load rfl (p := .pointer (some ⟨ob, 0, none⟩)) (by kernel_rfl) (load25_run hI.1) ?_
      refine hK.out _ (stV s (.slice ka s.tab.length kc)) _ (by kernel_rfl) (FrI.of (by simp) hI (Keeps.refl W)) ?_
      exact rfl
    | 1, _ =>
      refine GrowStepI.wrp rfl rfl ?_
      intro vs W hI hJ hR K hK
      refine h_move rfl (v := .string (bt l)) (by kernel_rfl) ?_
      refine hK.out _ (.string (bt l)) _ (by kernel_rfl) (FrI.of (by simp) hI (Keeps.refl W)) ?_
      exact rfl
    | 2, _ =>
      refine GrowStepI.wrp rfl rfl ?_
      intro vs W hI hJ hR K hK
      have h1 : vs 1 = .string (bt l) := hR 1 (by kernel_rfl)
      refine h_lenS rfl ((show _ = vs 1 from by kernel_rfl).trans h1) ?_
      refine hK.out _ (.int .i64 ((bt l).size : Int)) _ (by kernel_rfl) (FrI.of (by simp) hI (Keeps.refl W)) ?_
      exact rfl
    | 3, _ =>
      refine GrowStepI.wrp rfl rfl ?_
      intro vs W hI hJ hR K hK
      refine h_field rfl (p := .pointer (some ⟨wb + 1, 0, none⟩)) (q := .pointer (some ⟨wb + 1, 0, none⟩)) (by kernel_rfl) (by kernel_rfl) ?_
      refine hK.out _ (.pointer (some ⟨wb + 1, 0, none⟩)) _ (by kernel_rfl) (FrI.of (by simp) hI (Keeps.refl W)) ?_
      exact rfl
    | 4, _ =>
      refine GrowStepI.wrp rfl rfl ?_
      intro vs W hI hJ hR K hK
      have h3 : vs 3 = .pointer (some ⟨wb + 1, 0, none⟩) := hR 3 (by kernel_rfl)
      refine h_load rfl ((show _ = vs 3 from by kernel_rfl).trans h3) (load_cell hI.2.1.1 (by kernel_rfl)) ?_
      refine hK.out _ (.string (bt (r))) _ (by kernel_rfl) (FrI.of (by simp) hI (Keeps.refl W)) ?_
      exact rfl
    | 5, _ =>
      refine GrowStepI.wrp rfl rfl ?_
      intro vs W hI hJ hR K hK
      have h4 : vs 4 = .string (bt (r)) := hR 4 (by kernel_rfl)
      refine h_lenS rfl ((show _ = vs 4 from by kernel_rfl).trans h4) ?_
      refine hK.out _ (.int .i64 ((bt (r)).size : Int)) _ (by kernel_rfl) (FrI.of (by simp) hI (Keeps.refl W)) ?_
      exact rfl
    | 6, _ =>
      refine GrowStepI.wrp rfl rfl ?_
      intro vs W hI hJ hR K hK
      have h2 : vs 2 = .int .i64 ((bt l).size : Int) := hR 2 (by kernel_rfl)
      have h5 : vs 5 = .int .i64 ((bt (r)).size : Int) := hR 5 (by kernel_rfl)
      refine h_sub rfl ((show _ = vs 2 from by kernel_rfl).trans h2) ((show _ = vs 5 from by kernel_rfl).trans h5) HW.out ?_
      refine hK.out _ (.int .i64 ((l.length - r.length : Nat) : Int)) _ (by kernel_rfl) (FrI.of (by simp) hI (Keeps.refl W)) ?_
      exact rfl
    | 7, _ =>
      refine GrowStepI.wrp rfl rfl ?_
      intro vs W hI hJ hR K hK
      have h0 : vs 0 = stV s (.slice ka s.tab.length kc) := hR 0 (by kernel_rfl)
      refine h_store25 rfl ob (by kernel_rfl) s ka s.tab.length kc ((show _ = vs 0 from by kernel_rfl).trans h0) hI.1 ?_
      intro W' hS6 hT6
      refine hK.out _ undef _ (by kernel_rfl) ⟨fun h => absurd rfl (h _ (List.mem_cons_self ..)), ⟨hS6, hI.2.1.other hT6 (by have := HG.out; omega), hI.2.2.1.elim fun v h => ⟨v, h.other hT6 (by have := HG.out; omega)⟩, But.to hI.2.2.2.1 HOG.out hT6, hI.2.2.2.2.but HZL.out.1 hT6⟩, fun x hx e => ?_⟩ ?_
      · rcases List.mem_cons.1 hx with rfl | hx
        · exact hT6
        · rcases List.mem_cons.1 hx with rfl | hx
          · cases e
          · cases hx
      · exact trivial
    | 8, _ =>
      refine GrowStepI.wrp rfl rfl ?_
      intro vs W hI hJ hR K hK
      have h6 : vs 6 = .int .i64 ((l.length - r.length : Nat) : Int) := hR 6 (by kernel_rfl)
      refine h_assign rfl ((show _ = vs 6 from by kernel_rfl).trans h6) ?_
      refine hK.out _ (.int .i64 ((l.length - r.length : Nat) : Int)) _ (by kernel_rfl) (FrI.of (by simp) hI (Keeps.refl W)) ?_
      exact rfl
    | 9, _ =>
      refine GrowStepI.wrp rfl rfl ?_
      intro vs W hI hJ hR K hK
      refine hI.2.2.1.elim fun v hv => ?_
      refine h_store4 rfl wb (by kernel_rfl) true (by kernel_rfl) hv ?_
      intro W' hS7 hT7
      refine hK.out _ undef _ (by kernel_rfl) ⟨fun h => absurd rfl (h _ (List.mem_cons_of_mem _ (List.mem_cons_self ..))), ⟨hI.1.other hT7 (by have := HG.out; omega) (Nat.le_of_ble_eq_true rfl), hI.2.1.other hT7 (by omega), ⟨_, hS7⟩, But.to hI.2.2.2.1 HG.out.1 hT7, hI.2.2.2.2.but HZL.out.2.1 hT7⟩, fun x hx e => ?_⟩ ?_
      · rcases List.mem_cons.1 hx with rfl | hx
        · cases e
        · rcases List.mem_cons.1 hx with rfl | hx
          · exact hT7
          · cases hx
      · exact hS7
    | k + 10, h => exact absurd h (by simp)
  · intro x hx j hj hd hn hr v W W' hp hf
    rcases List.mem_cons.1 hx with rfl | hx
    · match j, hj with
      | 0, _ => exact hp
      | 1, _ => exact hp
      | 2, _ => exact hp
      | 3, _ => exact hp
      | 4, _ => exact hp
      | 5, _ => exact hp
      | 6, _ => exact hp
      | 7, _ => exact absurd rfl hn
      | 8, _ => exact hp
      | 9, _ => exact CBox.other hp hf (by have := HG.out; omega)
      | k + 10, h => exact absurd h (by simp)
    · rcases List.mem_cons.1 hx with rfl | hx
      · match j, hj with
        | 0, _ => exact hp
        | 1, _ => exact hp
        | 2, _ => exact hp
        | 3, _ => exact hp
        | 4, _ => exact hp
        | 5, _ => exact hp
        | 6, _ => exact hp
        | 7, _ => exact hp
        | 8, _ => exact hp
        | 9, _ => exact absurd rfl hn
        | k + 10, h => exact absurd h (by simp)
      · cases hx
  · intro vs W0 hI hR
    have h8 : vs 8 = .int .i64 ((l.length - r.length : Nat) : Int) := hR 8 (by decide) (by simp)
    have hb : CBox wb [.bool true] W0 := hR 9 (by decide) (by simp)
    simp only [fillL, Nat.zero_add, Nat.reduceAdd, h8]
    go_wp2_with fail
    refine leaves_cons (f := 78) (args := #[.pointer (some ⟨wb, 0, none⟩)]) (by simp) (by simp [go_sem]) ?_
    refine (catch_idle ⟨wb, 0, none⟩ _).mono ?_
    rintro y u' w9 ⟨rfl, rfl, rfl⟩
    exact ⟨_, resultsC Try.results62 rfl rfl rfl (read25 hI.1) (read4 hb), ⟨ka, kc, hI.2.2.2.2.base HZL.out.2.2, rfl, hI.2.2.2.1⟩⟩
end Go.Proofs.Yteabfjpajgakiad

/- The reference's StateFrom. -/
set_option linter.unusedSimpArgs false
set_option linter.unusedVariables false
set_option maxRecDepth 10000
namespace Go.Proofs.Yteabfjpajgakiad
open Go.RowKit

theorem ear_at (b : Nat) (d : List UInt8) (j : Nat) (w : World) (hB : RBox b (d.drop j) w) : Calls Try.prog 40 #[.pointer (some ⟨b, 0, none⟩)] w fun y w' => y = .returned (.int .i64 (i8 (nth d j))) ∧ RBox b (d.drop (j + 1)) w' ∧ But b w w' := by
  have := ear_byte b w (d.drop j) hB
  rw [nth_drop, List.drop_drop] at this
  exact this
theorem ear_two_at (b : Nat) (d : List UInt8) (j : Nat) (w : World) (hB : RBox b (d.drop j) w) : Calls Try.prog 41 #[.pointer (some ⟨b, 0, none⟩)] w fun y w' => y = .returned (.int .i64 (i8 (nth d j) * 256 + i8 (nth d (j + 1)))) ∧ RBox b (d.drop (j + 2)) w' ∧ But b w w' := by
  have := ear_two b (d.drop j) w hB
  rw [nth_drop, nth_drop, List.drop_drop] at this
  exact this
theorem But.grown {b : Nat} {x y z : World} {v : Value} (h : But b x y) (k : y.grownBy z v.ownBlock) (hv : ∀ i, v.ownBlock = some i → x.heap.size ≤ i) : But b x z :=
  ⟨k.os.trans h.os, k.tape.trans h.tape, k.output.trans h.output, Nat.le_trans h.size k.size, fun i hi hb => (k.block i (Nat.lt_of_lt_of_le hi h.size) (fun e => by have := hv i e.symm; omega)).trans (h.block i hi hb)⟩
theorem CBox.grown {b base : Nat} {cs : List Value} {w w' : World} {v : Value} (h : CBox b cs w) (hc : 0 < cs.length) (hg : w.grownBy w' v.ownBlock) (hb : b < base) (hv : ∀ k, v.ownBlock = some k → base ≤ k) : CBox b cs w' := h.same (hg.block b (h.lt hc) (fun e => by have := hv b e.symm; omega))
theorem owns_other {b base : Nat} {w w' : World} {e : TypeId} {size : Nat} {v : Value} {n : Nat} {xs : List Value} (h : w.ownsRow base e size v n xs) (hb : ∀ k, v.ownBlock = some k → k ≠ b) (hk : But b w w') : w'.ownsRow base e size v n xs := by
  refine h.kept (row := some b) ⟨hk.os, hk.tape, hk.output, hk.size, fun k hk' hne => hk.block k hk' (fun e => hne (by rw [e]))⟩ ?_
  rcases h.2 with ⟨rfl, _⟩ | ⟨g, cap, cur, rfl, hg, _⟩
  · exact .inl rfl
  · right
    have := hb g rfl
    simp only [Value.ownBlock, ne_eq, Option.some.injEq]
    omega
section
variable {ops : Array Oper} {rest : List Oper} {op : Oper} {a : Act} {w : World} {Q : Exit → Act → World → Prop}
theorem load61 (hgd : op.guard = none) {x : Operand} (ho : op.op = .load 66 x) (b : Nat) (hx : a.eval x = .pointer (some ⟨b, 0, none⟩)) {p q : Int} (hB : CBox b [.int .i64 p, .int .i64 q] w)
    (h : wpList Try.prog ops Q rest (a.put op.dst (.agg #[.int .i64 p, .int .i64 q])) w) : wpList Try.prog ops Q (op :: rest) a w := by
  obtain ⟨d, h1, h2⟩ := row61
  exact wpList_load_box hgd _ x ho b 0 hx hB 2 [.int .i64 p, .int .i64 q] rfl d h1 h2 (info_size size61 rfl) h
end

set_option maxHeartbeats 8000000 in
theorem state_from (l : List UInt8) (w : World) : Calls Try.prog 15 #[.string (bt l)] w fun y w' => ∃ a c, TabAt w' (.slice a ((snOf l).getD z7).tab.length c) ((snOf l).getD z7).tab ∧ y = .returned (.tuple #[stV ((snOf l).getD z7) (.slice a ((snOf l).getD z7).tab.length c), .bool (snOf l).isSome]) ∧ Keeps w w' := by
  obtain ⟨R, HR⟩ : ∃ R, Hid (R = snOf l) := ⟨_, rfl⟩
  rw [← HR.out]
  have HER : Hid (earSt l = ⟨i8 (nth l 0), i8 (nth l 1) * 256 + i8 (nth l 2), i8 (nth l 3) * 256 + i8 (nth l 4), i8 (nth l 5) * 256 + i8 (nth l 6), i8 (nth l 7) * 256 + i8 (nth l 8), i8 (nth l 9) * 256 + i8 (nth l 10), (earTab (nth l 11).toNat (l.drop 12)).1⟩) := rfl
  have x0 := i8_lo (nth l 0)
  have y0 := i8_hi (nth l 0)
  have x1 := i8_lo (nth l 1)
  have y1 := i8_hi (nth l 1)
  have x2 := i8_lo (nth l 2)
  have y2 := i8_hi (nth l 2)
  have x3 := i8_lo (nth l 3)
  have y3 := i8_hi (nth l 3)
  have x4 := i8_lo (nth l 4)
  have y4 := i8_hi (nth l 4)
  have x5 := i8_lo (nth l 5)
  have y5 := i8_hi (nth l 5)
  have x6 := i8_lo (nth l 6)
  have y6 := i8_hi (nth l 6)
  have x7 := i8_lo (nth l 7)
  have y7 := i8_hi (nth l 7)
  have x8 := i8_lo (nth l 8)
  have y8 := i8_hi (nth l 8)
  have x9 := i8_lo (nth l 9)
  have y9 := i8_hi (nth l 9)
  have x10 := i8_lo (nth l 10)
  have y10 := i8_hi (nth l 10)
  have x11 := i8_lo (nth l 11)
  have y11 := i8_hi (nth l 11)
  go_enter Try.func15, Try.ntmps15
  go_wp2_with (first | (refine alloc25 rfl rfl ?_; intro w0 ob hBo hko hlo hgo))
  obtain ⟨rb, hrb⟩ : ∃ z, z = w0.heap.size := ⟨_, rfl⟩
  obtain ⟨w1, hw1⟩ : ∃ z, z = w0.alloc (.cells #[.string (bt l)] 70) := ⟨_, rfl⟩
  have HR1 : Hid (RBox rb (l.drop 0) w1) := by
    have h := CBox.new w0 [Value.string (bt l)] 70
    rw [hrb, hw1]
    exact ⟨h.1 0 _ rfl, h.2 0⟩
  have k01 : Keeps w0 w1 := by rw [hw1]; exact (Keeps.refl _).alloc _
  have HO1 : Hid (CBox ob (C7 z7 (.slice none 0 0)) w1) := hBo.keep k01 (Nat.le_of_ble_eq_true rfl)
  have HK1 : Hid (Keeps w w1) := hko.trans k01
  have HG : Hid (w.heap.size ≤ ob ∧ ob < rb ∧ w.heap.size ≤ rb) := ⟨hgo, by rw [hrb]; exact hlo, by rw [hrb]; exact hko.size⟩
  rw [← hrb, ← hw1]
  clear hrb hw1 k01 hBo hko hlo hgo
  refine (ear_at rb l 0 w1 HR1.out).mono ?_
  rintro y w2 ⟨rfl, hR, hb⟩
  have HR2 : Hid (RBox rb (l.drop 1) w2) := hR
  have HO2 : Hid (CBox ob (C7 z7 (.slice none 0 0)) w2) := HO1.out.other hb (by have := HG.out; omega) (Nat.le_of_ble_eq_true rfl)
  have HK2 : Hid (Keeps w w2) := But.to HK1.out HG.out.2.2 hb
  clear hR hb HR1 HO1 HK1
  go_wp2_with (first | (refine alloc25 rfl rfl ?_; intro w3 sb hBs hks hls hgs) | (refine store25 rfl rfl sb rfl ⟨i8 (nth l 0), 0, 0, 0, 0, 0, []⟩ none 0 0 rfl hBs ?_; intro w4 hSs hTs))
  have k24 : Keeps w2 w4 := But.to hks hgs hTs
  have HR4 : Hid (RBox rb (l.drop 1) w4) := HR2.out.keep k24
  have HO4 : Hid (CBox ob (C7 z7 (.slice none 0 0)) w4) := HO2.out.keep k24 (Nat.le_of_ble_eq_true rfl)
  have HK4 : Hid (Keeps w w4) := HK2.out.trans k24
  have HS4 : Hid (CBox sb (C7 ⟨i8 (nth l 0), 0, 0, 0, 0, 0, []⟩ (.slice none 0 0)) w4) := hSs
  have HSG : Hid (rb < sb ∧ w.heap.size ≤ sb ∧ ob < sb) := ⟨Nat.lt_of_lt_of_le HR2.out.lt hgs, Nat.le_trans HK2.out.size hgs, by have := HG.out; have := HR2.out.lt; omega⟩
  clear k24 hBs hks hls hgs hSs hTs HR2 HO2 HK2
  refine (ear_two_at rb l 1 w4 HR4.out).mono ?_
  rintro y w5 ⟨rfl, hR, hb⟩
  have HR5 : Hid (RBox rb (l.drop 3) w5) := hR
  have HO5 : Hid (CBox ob (C7 z7 (.slice none 0 0)) w5) := HO4.out.other hb (by have := HG.out; omega) (Nat.le_of_ble_eq_true rfl)
  have HK5 : Hid (Keeps w w5) := But.to HK4.out HG.out.2.2 hb
  have HS5 : Hid (CBox sb (C7 ⟨i8 (nth l 0), 0, 0, 0, 0, 0, []⟩ (.slice none 0 0)) w5) := HS4.out.other hb (by have := HSG.out; omega) (Nat.le_of_ble_eq_true rfl)
  clear hR hb HR4 HO4 HK4 HS4
  go_wp2_with (first | (refine store_one rfl rfl sb 1 rfl rfl (C7 ⟨i8 (nth l 0), i8 (nth l 1) * 256 + i8 (nth l 2), 0, 0, 0, 0, []⟩ (.slice none 0 0)) HS5.out (Nat.le_of_ble_eq_true rfl) rfl ?_; intro w6 hSS hTT))
  have HR6 : Hid (RBox rb (l.drop 3) w6) := HR5.out.other hTT (by have := HSG.out; omega)
  have HO6 : Hid (CBox ob (C7 z7 (.slice none 0 0)) w6) := HO5.out.other hTT (by have := HSG.out; omega) (Nat.le_of_ble_eq_true rfl)
  have HK6 : Hid (Keeps w w6) := But.to HK5.out HSG.out.2.1 hTT
  have HS6 : Hid (CBox sb (C7 ⟨i8 (nth l 0), i8 (nth l 1) * 256 + i8 (nth l 2), 0, 0, 0, 0, []⟩ (.slice none 0 0)) w6) := hSS
  clear hSS hTT HR5 HO5 HK5 HS5
  go_loopw [6] (fun i wr => Hid (CBox ob (C7 z7 (.slice none 0 0)) wr ∧ Keeps w wr) ∧ ((i = .int .i64 0 ∧ Hid (RBox rb (l.drop 3) wr) ∧ Hid (CBox sb (C7 ⟨i8 (nth l 0), i8 (nth l 1) * 256 + i8 (nth l 2), 0, 0, 0, 0, []⟩ (.slice none 0 0)) wr)) ∨ (i = .int .i64 1 ∧ Hid (RBox rb (l.drop 5) wr) ∧ Hid (CBox sb (C7 ⟨i8 (nth l 0), i8 (nth l 1) * 256 + i8 (nth l 2), i8 (nth l 3) * 256 + i8 (nth l 4), 0, 0, 0, []⟩ (.slice none 0 0)) wr)) ∨ (i = .int .i64 2 ∧ Hid (RBox rb (l.drop 7) wr) ∧ Hid (CBox sb (C7 ⟨i8 (nth l 0), i8 (nth l 1) * 256 + i8 (nth l 2), i8 (nth l 3) * 256 + i8 (nth l 4), i8 (nth l 5) * 256 + i8 (nth l 6), 0, 0, []⟩ (.slice none 0 0)) wr)) ∨ (i = .int .i64 3 ∧ Hid (RBox rb (l.drop 9) wr) ∧ Hid (CBox sb (C7 ⟨i8 (nth l 0), i8 (nth l 1) * 256 + i8 (nth l 2), i8 (nth l 3) * 256 + i8 (nth l 4), i8 (nth l 5) * 256 + i8 (nth l 6), i8 (nth l 7) * 256 + i8 (nth l 8), 0, []⟩ (.slice none 0 0)) wr)) ∨ (i = .int .i64 4 ∧ Hid (RBox rb (l.drop 11) wr) ∧ Hid (CBox sb (C7 ⟨i8 (nth l 0), i8 (nth l 1) * 256 + i8 (nth l 2), i8 (nth l 3) * 256 + i8 (nth l 4), i8 (nth l 5) * 256 + i8 (nth l 6), i8 (nth l 7) * 256 + i8 (nth l 8), i8 (nth l 9) * 256 + i8 (nth l 10), []⟩ (.slice none 0 0)) wr)))) (fun i _ => 4 - (intOf i).toNat)
  case atStart => exact ⟨⟨HO6.out, HK6.out⟩, Or.inl ⟨rfl, HR6, HS6⟩⟩
  case round =>
    obtain ⟨HW, hrel⟩ := hrel
    rcases hrel with ⟨rfl, HRB, HS⟩ | ⟨rfl, HRB, HS⟩ | ⟨rfl, HRB, HS⟩ | ⟨rfl, HRB, HS⟩ | ⟨rfl, HRB, HS⟩
    · go_wp2_with fail
      refine (ear_two_at rb l 3 wr HRB.out).mono ?_
      rintro y v ⟨rfl, hR, hb⟩
      have HS4 : Hid (CBox sb (C7 ⟨i8 (nth l 0), i8 (nth l 1) * 256 + i8 (nth l 2), 0, 0, 0, 0, []⟩ (.slice none 0 0)) v) := HS.out.other hb (by have := HSG.out; omega) (Nat.le_of_ble_eq_true rfl)
      have HW4 : Hid (CBox ob (C7 z7 (.slice none 0 0)) v ∧ Keeps w v) := ⟨HW.out.1.other hb (by have := HG.out; omega) (Nat.le_of_ble_eq_true rfl), But.to HW.out.2 HG.out.2.2 hb⟩
      have HR4 : Hid (RBox rb (l.drop 5) v) := hR
      clear hR hb HRB HS HW
      go_wp2_with (first | (refine store_one rfl rfl sb 2 rfl rfl (C7 ⟨i8 (nth l 0), i8 (nth l 1) * 256 + i8 (nth l 2), i8 (nth l 3) * 256 + i8 (nth l 4), 0, 0, 0, []⟩ (.slice none 0 0)) HS4.out (Nat.le_of_ble_eq_true rfl) rfl ?_; intro v5 hS5 hT5))
      go_roundw
      case rel => exact ⟨⟨HW4.out.1.other hT5 (by have := HSG.out; omega) (Nat.le_of_ble_eq_true rfl), But.to HW4.out.2 HSG.out.2.1 hT5⟩, Or.inr (Or.inl ⟨by go_num, HR4.out.other hT5 (by have := HSG.out; omega), hS5⟩)⟩
      case measure => simp [intOf]
    · go_wp2_with fail
      refine (ear_two_at rb l 5 wr HRB.out).mono ?_
      rintro y v ⟨rfl, hR, hb⟩
      have HS4 : Hid (CBox sb (C7 ⟨i8 (nth l 0), i8 (nth l 1) * 256 + i8 (nth l 2), i8 (nth l 3) * 256 + i8 (nth l 4), 0, 0, 0, []⟩ (.slice none 0 0)) v) := HS.out.other hb (by have := HSG.out; omega) (Nat.le_of_ble_eq_true rfl)
      have HW4 : Hid (CBox ob (C7 z7 (.slice none 0 0)) v ∧ Keeps w v) := ⟨HW.out.1.other hb (by have := HG.out; omega) (Nat.le_of_ble_eq_true rfl), But.to HW.out.2 HG.out.2.2 hb⟩
      have HR4 : Hid (RBox rb (l.drop 7) v) := hR
      clear hR hb HRB HS HW
      go_wp2_with (first | (refine store_one rfl rfl sb 3 rfl rfl (C7 ⟨i8 (nth l 0), i8 (nth l 1) * 256 + i8 (nth l 2), i8 (nth l 3) * 256 + i8 (nth l 4), i8 (nth l 5) * 256 + i8 (nth l 6), 0, 0, []⟩ (.slice none 0 0)) HS4.out (Nat.le_of_ble_eq_true rfl) rfl ?_; intro v5 hS5 hT5))
      go_roundw
      case rel => exact ⟨⟨HW4.out.1.other hT5 (by have := HSG.out; omega) (Nat.le_of_ble_eq_true rfl), But.to HW4.out.2 HSG.out.2.1 hT5⟩, Or.inr (Or.inr (Or.inl ⟨by go_num, HR4.out.other hT5 (by have := HSG.out; omega), hS5⟩))⟩
      case measure => simp [intOf]
    · go_wp2_with fail
      refine (ear_two_at rb l 7 wr HRB.out).mono ?_
      rintro y v ⟨rfl, hR, hb⟩
      have HS4 : Hid (CBox sb (C7 ⟨i8 (nth l 0), i8 (nth l 1) * 256 + i8 (nth l 2), i8 (nth l 3) * 256 + i8 (nth l 4), i8 (nth l 5) * 256 + i8 (nth l 6), 0, 0, []⟩ (.slice none 0 0)) v) := HS.out.other hb (by have := HSG.out; omega) (Nat.le_of_ble_eq_true rfl)
      have HW4 : Hid (CBox ob (C7 z7 (.slice none 0 0)) v ∧ Keeps w v) := ⟨HW.out.1.other hb (by have := HG.out; omega) (Nat.le_of_ble_eq_true rfl), But.to HW.out.2 HG.out.2.2 hb⟩
      have HR4 : Hid (RBox rb (l.drop 9) v) := hR
      clear hR hb HRB HS HW
      go_wp2_with (first | (refine store_one rfl rfl sb 4 rfl rfl (C7 ⟨i8 (nth l 0), i8 (nth l 1) * 256 + i8 (nth l 2), i8 (nth l 3) * 256 + i8 (nth l 4), i8 (nth l 5) * 256 + i8 (nth l 6), i8 (nth l 7) * 256 + i8 (nth l 8), 0, []⟩ (.slice none 0 0)) HS4.out (Nat.le_of_ble_eq_true rfl) rfl ?_; intro v5 hS5 hT5))
      go_roundw
      case rel => exact ⟨⟨HW4.out.1.other hT5 (by have := HSG.out; omega) (Nat.le_of_ble_eq_true rfl), But.to HW4.out.2 HSG.out.2.1 hT5⟩, Or.inr (Or.inr (Or.inr (Or.inl ⟨by go_num, HR4.out.other hT5 (by have := HSG.out; omega), hS5⟩)))⟩
      case measure => simp [intOf]
    · go_wp2_with fail
      refine (ear_two_at rb l 9 wr HRB.out).mono ?_
      rintro y v ⟨rfl, hR, hb⟩
      have HS4 : Hid (CBox sb (C7 ⟨i8 (nth l 0), i8 (nth l 1) * 256 + i8 (nth l 2), i8 (nth l 3) * 256 + i8 (nth l 4), i8 (nth l 5) * 256 + i8 (nth l 6), i8 (nth l 7) * 256 + i8 (nth l 8), 0, []⟩ (.slice none 0 0)) v) := HS.out.other hb (by have := HSG.out; omega) (Nat.le_of_ble_eq_true rfl)
      have HW4 : Hid (CBox ob (C7 z7 (.slice none 0 0)) v ∧ Keeps w v) := ⟨HW.out.1.other hb (by have := HG.out; omega) (Nat.le_of_ble_eq_true rfl), But.to HW.out.2 HG.out.2.2 hb⟩
      have HR4 : Hid (RBox rb (l.drop 11) v) := hR
      clear hR hb HRB HS HW
      go_wp2_with (first | (refine store_one rfl rfl sb 5 rfl rfl (C7 ⟨i8 (nth l 0), i8 (nth l 1) * 256 + i8 (nth l 2), i8 (nth l 3) * 256 + i8 (nth l 4), i8 (nth l 5) * 256 + i8 (nth l 6), i8 (nth l 7) * 256 + i8 (nth l 8), i8 (nth l 9) * 256 + i8 (nth l 10), []⟩ (.slice none 0 0)) HS4.out (Nat.le_of_ble_eq_true rfl) rfl ?_; intro v5 hS5 hT5))
      go_roundw
      case rel => exact ⟨⟨HW4.out.1.other hT5 (by have := HSG.out; omega) (Nat.le_of_ble_eq_true rfl), But.to HW4.out.2 HSG.out.2.1 hT5⟩, Or.inr (Or.inr (Or.inr (Or.inr (⟨by go_num, HR4.out.other hT5 (by have := HSG.out; omega), hS5⟩))))⟩
      case measure => simp [intOf]
    · go_wp2_with fail
      refine (ear_at rb l 11 wr HRB.out).mono ?_
      rintro y wA ⟨rfl, hR, hb⟩
      have HRA : Hid (RBox rb (l.drop 12) wA) := hR
      have HOA : Hid (CBox ob (C7 z7 (.slice none 0 0)) wA) := HW.out.1.other hb (by have := HG.out; omega) (Nat.le_of_ble_eq_true rfl)
      have HSA : Hid (CBox sb (C7 ⟨i8 (nth l 0), i8 (nth l 1) * 256 + i8 (nth l 2), i8 (nth l 3) * 256 + i8 (nth l 4), i8 (nth l 5) * 256 + i8 (nth l 6), i8 (nth l 7) * 256 + i8 (nth l 8), i8 (nth l 9) * 256 + i8 (nth l 10), []⟩ (.slice none 0 0)) wA) := HS.out.other hb (by have := HSG.out; omega) (Nat.le_of_ble_eq_true rfl)
      have HKA : Hid (Keeps w wA) := But.to HW.out.2 HG.out.2.2 hb
      clear hR hb HRB HS HW
      have HNN : Hid (i8 (nth l 11) = ((nth l 11).toNat : Int)) := rfl
      have hn256 : (nth l 11).toNat < 256 := UInt8.toNat_lt _
      rw [HNN.out]
      clear HNN
      generalize (nth l 11).toNat = n at *
      generalize l.drop 12 = t0 at *
      obtain ⟨TOT, HTOT⟩ : ∃ T, Hid (T = (earTab n t0).1) := ⟨_, rfl⟩
      rw [← HTOT.out] at HER
      have HBL : Hid (ob < wA.heap.size ∧ rb < wA.heap.size ∧ sb < wA.heap.size) := ⟨HOA.out.lt (Nat.le_of_ble_eq_true rfl), HRA.out.lt, HSA.out.lt (Nat.le_of_ble_eq_true rfl)⟩
      clear x0 y0
      clear x1 y1
      clear x2 y2
      clear x3 y3
      clear x4 y4
      clear x5 y5
      clear x6 y6
      clear x7 y7
      clear x8 y8
      clear x9 y9
      clear x10 y10
      clear x11 y11
      obtain ⟨S0, hS0⟩ : ∃ z, z = (⟨i8 (nth l 0), i8 (nth l 1) * 256 + i8 (nth l 2), i8 (nth l 3) * 256 + i8 (nth l 4), i8 (nth l 5) * 256 + i8 (nth l 6), i8 (nth l 7) * 256 + i8 (nth l 8), i8 (nth l 9) * 256 + i8 (nth l 10), []⟩ : St) := ⟨_, rfl⟩
      rw [← hS0] at HSA
      have HS0 : Hid (S0 = ⟨i8 (nth l 0), i8 (nth l 1) * 256 + i8 (nth l 2), i8 (nth l 3) * 256 + i8 (nth l 4), i8 (nth l 5) * 256 + i8 (nth l 6), i8 (nth l 7) * 256 + i8 (nth l 8), i8 (nth l 9) * 256 + i8 (nth l 10), []⟩) := hS0
      clear hS0
      go_wp2_with fail
      go_loopw [7] (fun i wr => ∃ (m : Nat) (xs : List Ses) (t1 : List UInt8) (oa : Option Addr) (oc : Nat), i = .int .i64 m ∧ m ≤ 255 ∧ xs.length + m ≤ 255 ∧ Hid (OwnTab wA.heap.size wr (.slice oa xs.length oc) xs) ∧ Hid (RBox rb t1 wr) ∧ Hid (CBox sb (C7 S0 (.slice oa xs.length oc)) wr) ∧ Hid (CBox ob (C7 z7 (.slice none 0 0)) wr) ∧ Hid (TOT = xs ++ (earTab m t1).1) ∧ Hid (Keeps w wr) ∧ Hid (wA.heap.size ≤ wr.heap.size)) (fun i _ => (intOf i).toNat)
      case atStart => exact ⟨n, [], t0, none, 0, rfl, by omega, by simp; omega, OwnTab.nil _ _, HRA, HSA, HOA, HTOT, HKA, Nat.le_refl _⟩
      case round =>
        obtain ⟨m, xs, t1, oa, oc, rfl, hm, hxm, HOT, HRB, HSB, HOB, HTE, HKW, HZ⟩ := hrel
        generalize wr = wo at *
        by_cases h0 : 0 < m
        · obtain ⟨m2, rfl⟩ : ∃ m2, m = m2 + 1 := ⟨m - 1, by omega⟩
          have HTE2 : Hid (TOT = (xs ++ [(earSes t1).1]) ++ (earTab m2 (earSes t1).2).1) := by
            show _ = _
            rw [HTE.out, List.append_assoc]
            rfl
          have HSE : Hid (earSes t1 = (⟨i8 (nth t1 0), i8 (nth t1 1), i8 (nth t1 2) * 256 + i8 (nth t1 3), (earReps (nth t1 4).toNat (t1.drop 5)).1⟩, (earReps (nth t1 4).toNat (t1.drop 5)).2)) := rfl
          have HRB0 : Hid (RBox rb (t1.drop 0) wo) := HRB.out
          have HL : Hid (ob < wo.heap.size ∧ rb < wo.heap.size ∧ sb < wo.heap.size) := ⟨HOB.out.lt (Nat.le_of_ble_eq_true rfl), HRB.out.lt, HSB.out.lt (Nat.le_of_ble_eq_true rfl)⟩
          go_wp2_with fail
          refine (ear_at rb t1 0 wo HRB0.out).mono ?_
          rintro y v1 ⟨rfl, hR, hb⟩
          have HR1 : Hid (RBox rb (t1.drop 1) v1) := hR
          have FR1 : Hid (But rb wo v1) := hb
          clear hR hb HRB0 HRB
          go_wp2_with (first | (refine alloc59 rfl rfl ?_; intro v2 pb hBp hkp hlp hgp) | (refine store59 rfl rfl pb rfl ⟨i8 (nth t1 0), 0, 0, []⟩ none 0 0 rfl hBp ?_; intro v3 hSp hTp))
          have k13 : Keeps v1 v3 := But.to hkp hgp hTp
          have HR3 : Hid (RBox rb (t1.drop 1) v3) := HR1.out.keep k13
          have FR3 : Hid (But rb wo v3) := FR1.out.trans (But.of k13)
          have HP3 : Hid (CBox pb (S4 ⟨i8 (nth t1 0), 0, 0, []⟩ (.slice none 0 0)) v3) := hSp
          have HPG : Hid (wo.heap.size ≤ pb ∧ rb < pb ∧ pb ≠ rb) := ⟨Nat.le_trans FR1.out.size hgp, Nat.lt_of_lt_of_le HR1.out.lt hgp, by have := HR1.out.lt; omega⟩
          clear k13 hBp hkp hlp hgp hSp hTp HR1 FR1
          refine (ear_at rb t1 1 v3 HR3.out).mono ?_
          rintro y v4 ⟨rfl, hR, hb⟩
          have HR4 : Hid (RBox rb (t1.drop 2) v4) := hR
          have FR4 : Hid (But rb wo v4) := FR3.out.trans hb
          have HP4 : Hid (CBox pb (S4 ⟨i8 (nth t1 0), 0, 0, []⟩ (.slice none 0 0)) v4) := HP3.out.other hb HPG.out.2.2 (Nat.le_of_ble_eq_true rfl)
          clear hR hb HR3 FR3 HP3
          go_wp2_with (first | (refine store_one rfl rfl pb 1 rfl rfl (S4 ⟨i8 (nth t1 0), i8 (nth t1 1), 0, []⟩ (.slice none 0 0)) HP4.out (Nat.le_of_ble_eq_true rfl) rfl ?_; intro v5 hSS hTT))
          have HR5 : Hid (RBox rb (t1.drop 2) v5) := HR4.out.other hTT (by have := HPG.out; omega)
          have FR5 : Hid (But rb wo v5) := But.far FR4.out HPG.out.1 hTT
          have HP5 : Hid (CBox pb (S4 ⟨i8 (nth t1 0), i8 (nth t1 1), 0, []⟩ (.slice none 0 0)) v5) := hSS
          clear hSS hTT HR4 FR4 HP4
          refine (ear_two_at rb t1 2 v5 HR5.out).mono ?_
          rintro y v6 ⟨rfl, hR, hb⟩
          have HR6 : Hid (RBox rb (t1.drop 4) v6) := hR
          have FR6 : Hid (But rb wo v6) := FR5.out.trans hb
          have HP6 : Hid (CBox pb (S4 ⟨i8 (nth t1 0), i8 (nth t1 1), 0, []⟩ (.slice none 0 0)) v6) := HP5.out.other hb HPG.out.2.2 (Nat.le_of_ble_eq_true rfl)
          clear hR hb HR5 FR5 HP5
          go_wp2_with (first | (refine store_one rfl rfl pb 2 rfl rfl (S4 ⟨i8 (nth t1 0), i8 (nth t1 1), i8 (nth t1 2) * 256 + i8 (nth t1 3), []⟩ (.slice none 0 0)) HP6.out (Nat.le_of_ble_eq_true rfl) rfl ?_; intro v7 hSS hTT))
          have HR7 : Hid (RBox rb (t1.drop 4) v7) := HR6.out.other hTT (by have := HPG.out; omega)
          have FR7 : Hid (But rb wo v7) := But.far FR6.out HPG.out.1 hTT
          have HP7 : Hid (CBox pb (S4 ⟨i8 (nth t1 0), i8 (nth t1 1), i8 (nth t1 2) * 256 + i8 (nth t1 3), []⟩ (.slice none 0 0)) v7) := hSS
          clear hSS hTT HR6 FR6 HP6
          refine (ear_at rb t1 4 v7 HR7.out).mono ?_
          rintro y v8 ⟨rfl, hR, hb⟩
          have HR8 : Hid (RBox rb (t1.drop 5) v8) := hR
          have FR8 : Hid (But rb wo v8) := FR7.out.trans hb
          have HP8 : Hid (CBox pb (S4 ⟨i8 (nth t1 0), i8 (nth t1 1), i8 (nth t1 2) * 256 + i8 (nth t1 3), []⟩ (.slice none 0 0)) v8) := HP7.out.other hb HPG.out.2.2 (Nat.le_of_ble_eq_true rfl)
          clear hR hb HR7 FR7 HP7
          have HC4 : Hid (i8 (nth t1 4) = ((nth t1 4).toNat : Int)) := rfl
          have hc256 : (nth t1 4).toNat < 256 := UInt8.toNat_lt _
          rw [HC4.out]
          clear HC4
          obtain ⟨RP, HRP⟩ : ∃ z, Hid (z = earReps (nth t1 4).toNat (t1.drop 5)) := ⟨_, rfl⟩
          rw [← HRP.out] at HSE
          generalize (nth t1 4).toNat = c0 at *
          generalize t1.drop 5 = t5 at *
          obtain ⟨PS, hPS⟩ : ∃ z, z = (⟨i8 (nth t1 0), i8 (nth t1 1), i8 (nth t1 2) * 256 + i8 (nth t1 3), []⟩ : Ses) := ⟨_, rfl⟩
          rw [← hPS] at HP8
          have HPS : Hid (earSes t1 = (⟨PS.client, PS.acked, PS.seen, RP.1⟩, RP.2)) := by show _ = _; rw [hPS]; exact HSE.out
          clear hPS HSE
          go_wp2_with fail
          go_loopw [9] (fun i wr => ∃ (c : Nat) (ys : List (Int × Int)) (t2 : List UInt8) (ya : Option Addr) (yc : Nat), i = .int .i64 c ∧ c ≤ 255 ∧ ys.length + c ≤ 255 ∧ Hid (ROwn v8.heap.size wr (.slice ya ys.length yc) ys) ∧ Hid (RBox rb t2 wr) ∧ Hid (CBox pb (S4 PS (.slice ya ys.length yc)) wr) ∧ Hid (RP = (ys ++ (earReps c t2).1, (earReps c t2).2)) ∧ Hid (But rb wo wr) ∧ Hid (v8.heap.size ≤ wr.heap.size)) (fun i _ => (intOf i).toNat)
          case atStart => exact ⟨c0, [], t5, none, 0, rfl, by omega, by simp; omega, ROwn.nil, HR8, HP8, HRP, FR8, Nat.le_refl _⟩
          case round =>
            obtain ⟨c, ys, t2, ya, yc, rfl, hc, hyc, HYO, HRC, HPC, HRE, FRC, HZC⟩ := hrel
            by_cases hc0 : 0 < c
            · obtain ⟨c2, rfl⟩ : ∃ c2, c = c2 + 1 := ⟨c - 1, by omega⟩
              have HRE2 : Hid (RP = ((ys ++ [(i8 (nth t2 0), i8 (nth t2 1) * 256 + i8 (nth t2 2) - 1)]) ++ (earReps c2 (t2.drop 3)).1, (earReps c2 (t2.drop 3)).2)) := by
                show _ = _
                rw [HRE.out, List.append_assoc]
                rfl
              have z1 := i8_lo (nth t2 1)
              have z2 := i8_hi (nth t2 1)
              have z3 := i8_lo (nth t2 2)
              have z4 := i8_hi (nth t2 2)
              have HRC0 : Hid (RBox rb (t2.drop 0) wr) := HRC.out
              have HPL : Hid (pb < v8.heap.size ∧ rb < v8.heap.size) := ⟨HP8.out.lt (Nat.le_of_ble_eq_true rfl), HR8.out.lt⟩
              go_wp2_with fail
              refine (ear_at rb t2 0 wr HRC0.out).mono ?_
              rintro y u1 ⟨rfl, hR, hb⟩
              have HU1 : Hid (RBox rb (t2.drop 1) u1) := hR
              have FU1 : Hid (But rb wo u1) := FRC.out.trans hb
              have HW1 : Hid (CBox pb (S4 PS (.slice ya ys.length yc)) u1 ∧ ROwn v8.heap.size u1 (.slice ya ys.length yc) ys ∧ v8.heap.size ≤ u1.heap.size) := ⟨HPC.out.other hb HPG.out.2.2 (Nat.le_of_ble_eq_true rfl), HYO.out.but HPL.out.2 hb, Nat.le_trans HZC.out hb.size⟩
              clear hR hb HRC HRC0 HPC HYO FRC HZC HRE
              go_wp2_with (first | (refine alloc61 rfl rfl ?_; intro u2 qb hBq hkq hlq hgq) | (refine store61 rfl rfl qb rfl (i8 (nth t2 0)) 0 rfl hBq ?_; intro u3 hSq hTq))
              have k13 : Keeps u1 u3 := But.to hkq hgq hTq
              have HU3 : Hid (RBox rb (t2.drop 1) u3) := HU1.out.keep k13
              have FU3 : Hid (But rb wo u3) := FU1.out.trans (But.of k13)
              have HW3 : Hid (CBox pb (S4 PS (.slice ya ys.length yc)) u3 ∧ ROwn v8.heap.size u3 (.slice ya ys.length yc) ys ∧ v8.heap.size ≤ u3.heap.size) := ⟨HW1.out.1.keep k13 (Nat.le_of_ble_eq_true rfl), owns_keep HW1.out.2.1 k13, Nat.le_trans HW1.out.2.2 k13.size⟩
              have HQ3 : Hid (CBox qb [.int .i64 (i8 (nth t2 0)), .int .i64 0] u3) := hSq
              have HQG : Hid (u1.heap.size ≤ qb ∧ qb ≠ rb ∧ pb ≠ qb ∧ wo.heap.size ≤ qb) := ⟨hgq, by have := HU1.out.lt; omega, by have := HW1.out.1.lt (Nat.le_of_ble_eq_true rfl); omega, Nat.le_trans FU1.out.size hgq⟩
              have HYQ : Hid (∀ k, (Value.slice ya ys.length yc).ownBlock = some k → k ≠ qb) := fun k e => by have := (HW1.out.2.1.lt k e).2; omega
              clear k13 hBq hkq hlq hgq hSq hTq HU1 FU1 HW1
              refine (ear_two_at rb t2 1 u3 HU3.out).mono ?_
              rintro y u4 ⟨rfl, hR, hb⟩
              have HU4 : Hid (RBox rb (t2.drop 3) u4) := hR
              have FU4 : Hid (But rb wo u4) := FU3.out.trans hb
              have HW4 : Hid (CBox pb (S4 PS (.slice ya ys.length yc)) u4 ∧ ROwn v8.heap.size u4 (.slice ya ys.length yc) ys ∧ v8.heap.size ≤ u4.heap.size) := ⟨HW3.out.1.other hb HPG.out.2.2 (Nat.le_of_ble_eq_true rfl), HW3.out.2.1.but HPL.out.2 hb, Nat.le_trans HW3.out.2.2 hb.size⟩
              have HQ4 : Hid (CBox qb [.int .i64 (i8 (nth t2 0)), .int .i64 0] u4) := HQ3.out.other hb HQG.out.2.1
              clear hR hb HU3 FU3 HW3 HQ3
              go_wp2_with (first | (refine store_one rfl rfl qb 1 rfl rfl [.int .i64 (i8 (nth t2 0)), .int .i64 (i8 (nth t2 1) * 256 + i8 (nth t2 2) - 1)] HQ4.out (Nat.le_of_ble_eq_true rfl) rfl ?_; intro u5 hQ5 hT5; have hP5 := HW4.out.1.other hT5 HQG.out.2.2.1 (Nat.le_of_ble_eq_true rfl); have c3 : u5.cell? ⟨pb, 3, none⟩ = some (.slice ya ys.length yc) := hP5.1 3 _ rfl) | (refine load61 rfl rfl qb rfl hQ5 ?_) | (refine app_rep (base := v8.heap.size) (Nat.le_trans HW4.out.2.2 (Nat.le_trans hT5.size (by simp))) rfl _ _ rfl (.slice ya ys.length yc) ys rfl (owns_keep (owns_other HW4.out.2.1 HYQ.out hT5) ((Keeps.refl _).alloc _)) (i8 (nth t2 0)) (i8 (nth t2 1) * 256 + i8 (nth t2 2) - 1) u5.heap.size rfl (by simp) (by simp) (by omega) ?_; intro y6 u6 hO6 hg6; obtain ⟨xa, xc, hv6, _⟩ := RowAt.len (RowAt.of_owns hO6); have hP6 := (hP5.keep ((Keeps.refl _).alloc _) (Nat.le_of_ble_eq_true rfl)).grown (Nat.le_of_ble_eq_true rfl) hg6 HPL.out.1 (fun k e => HW4.out.2.1.own e); subst hv6; have f3 := hP6.2 3; have d3 : u6.cell? ⟨pb, 3, none⟩ = some (.slice ya ys.length yc) := hP6.1 3 _ rfl))
              have hle : (ys ++ [(i8 (nth t2 0), i8 (nth t2 1) * 256 + i8 (nth t2 2) - 1)]).length = ys.length + 1 := by simp
              obtain ⟨u7, hu7⟩ : ∃ z, z = u6.setCell ⟨pb, 3, none⟩ (.slice xa (ys.length + 1) xc) := ⟨_, rfl⟩
              rw [← hu7]
              have hT7 : But pb u6 u7 := by rw [hu7]; exact (But.refl _ _).set 3 _
              have HP7 : Hid (CBox pb (S4 PS (.slice xa (ys ++ [(i8 (nth t2 0), i8 (nth t2 1) * 256 + i8 (nth t2 2) - 1)]).length xc)) u7) := by
                show CBox _ _ _
                rw [hu7, hle]
                exact hP6.one 3 (.slice xa (ys.length + 1) xc)
              have hk5 : ∀ k, (Value.slice ya ys.length yc).ownBlock = some k → v8.heap.size ≤ k := fun k e => HW4.out.2.1.own e
              have HU7 : Hid (RBox rb (t2.drop 3) u7) := (((HU4.out.other hT5 (by have := HQG.out; omega)).keep ((Keeps.refl _).alloc _)).grown hg6 HPL.out.2 hk5).other hT7 (by have := HPG.out; omega)
              have FU7 : Hid (But rb wo u7) := But.far (But.grown ((But.far FU4.out HQG.out.2.2.2 hT5).trans (But.of ((Keeps.refl _).alloc _))) hg6 (fun k e => Nat.le_trans FR8.out.size (hk5 k e))) HPG.out.1 hT7
              have HZ7 : Hid (v8.heap.size ≤ u7.heap.size) := by
                have a1 := HW4.out.2.2
                have a2 := hT5.size
                have a3 := hg6.size
                have a4 := hT7.size
                simp at a3
                show _ ≤ _
                omega
              have HY7 : Hid (ROwn v8.heap.size u7 (.slice xa (ys ++ [(i8 (nth t2 0), i8 (nth t2 1) * 256 + i8 (nth t2 2) - 1)]).length xc) (ys ++ [(i8 (nth t2 0), i8 (nth t2 1) * 256 + i8 (nth t2 2) - 1)])) := hO6.but HPL.out.1 hT7
              clear hO6 hg6 hQ5 hT5 hP5 hP6 hT7 c3 hk5 f3 d3 hle hu7
              go_roundw
              case rel => exact ⟨c2, _, t2.drop 3, xa, xc, by go_num, by omega, by simp; omega, HY7, HU7, HP7, HRE2, FU7, HZ7⟩
              case measure => simp [intOf]
            · have hce : c = 0 := by omega
              subst hce
              have HT1 : Hid (TOT = (xs ++ [(⟨PS.client, PS.acked, PS.seen, ys⟩ : Ses)]) ++ (earTab m2 t2).1) := by
                show _ = _
                have e1 := HRE.out
                have e2 := HPS.out
                have e3 := HTE2.out
                rw [e2, e1] at e3
                rw [e3]
                simp [earReps]
              have HS1 : Hid (CBox sb (C7 S0 (.slice oa xs.length oc)) wr) := HSB.out.other FRC.out (by have := HSG.out; omega) (Nat.le_of_ble_eq_true rfl)
              have HO1 : Hid (CBox ob (C7 z7 (.slice none 0 0)) wr) := HOB.out.other FRC.out (by have := HG.out; omega) (Nat.le_of_ble_eq_true rfl)
              have HK1 : Hid (Keeps w wr) := But.to HKW.out HG.out.2.2 FRC.out
              have HT5 : Hid (OwnTab wA.heap.size wr (.slice oa xs.length oc) xs) := HOT.out.but HBL.out.2.1 FRC.out
              have HZ1 : Hid (wA.heap.size ≤ wr.heap.size) := Nat.le_trans HZ.out FRC.out.size
              have HY1 : Hid (ROwn wA.heap.size wr (.slice ya ys.length yc) ys) := HYO.out.base (Nat.le_trans HZ.out FR8.out.size)
              have c6 : wr.cell? ⟨sb, 6, none⟩ = some (.slice oa xs.length oc) := HS1.out.1 6 _ rfl
              clear HRE HYO FRC HZC HTE2 HTE HRP HR8 HP8 FR8
              go_wp2_with (first | (refine load59 rfl rfl pb rfl HPC.out ?_) | (refine app_ses (base := wA.heap.size) (Nat.le_trans HZ1.out (by simp)) rfl _ _ rfl (.slice oa xs.length oc) xs rfl (HT5.out.keep ((Keeps.refl _).alloc _)) (⟨PS.client, PS.acked, PS.seen, ys⟩ : Ses) (.slice ya ys.length yc) _ rfl (owns_keep HY1.out ((Keeps.refl _).alloc _)) (row_one wr (⟨PS.client, PS.acked, PS.seen, ys⟩ : Ses) (.slice ya ys.length yc)) (by omega) ?_; intro y6 u6 hO6 hg6; obtain ⟨xa, xc, hv6⟩ := hO6.len; have hP6 := (HS1.out.keep ((Keeps.refl _).alloc _) (Nat.le_of_ble_eq_true rfl)).grown (Nat.le_of_ble_eq_true rfl) hg6 HBL.out.2.2 (fun k e => HT5.out.own e); subst hv6; have f3 := hP6.2 6; have d3 : u6.cell? ⟨sb, 6, none⟩ = some (.slice oa xs.length oc) := hP6.1 6 _ rfl))
              have hle : (xs ++ [(⟨PS.client, PS.acked, PS.seen, ys⟩ : Ses)]).length = xs.length + 1 := by simp
              obtain ⟨u7, hu7⟩ : ∃ z, z = u6.setCell ⟨sb, 6, none⟩ (.slice xa (xs.length + 1) xc) := ⟨_, rfl⟩
              rw [← hu7]
              have hT7 : But sb u6 u7 := by rw [hu7]; exact (But.refl _ _).set 6 _
              have HP7 : Hid (CBox sb (C7 S0 (.slice xa (xs ++ [(⟨PS.client, PS.acked, PS.seen, ys⟩ : Ses)]).length xc)) u7) := by
                show CBox _ _ _
                rw [hu7, hle]
                exact hP6.one 6 (.slice xa (xs.length + 1) xc)
              have hk5 : ∀ k, (Value.slice oa xs.length oc).ownBlock = some k → wA.heap.size ≤ k := fun k e => HT5.out.own e
              have HU7 : Hid (RBox rb t2 u7) := ((HRC.out.keep ((Keeps.refl _).alloc _)).grown hg6 HBL.out.2.1 hk5).other hT7 (by have := HSG.out; omega)
              have HO7 : Hid (CBox ob (C7 z7 (.slice none 0 0)) u7) := ((HO1.out.keep ((Keeps.refl _).alloc _) (Nat.le_of_ble_eq_true rfl)).grown (Nat.le_of_ble_eq_true rfl) hg6 HBL.out.1 hk5).other hT7 (by have := HSG.out; omega) (Nat.le_of_ble_eq_true rfl)
              have HK7 : Hid (Keeps w u7) := But.to (keeps_grown (HK1.out.trans ((Keeps.refl _).alloc _)) hg6 (fun k e => Nat.le_trans HKA.out.size (hk5 k e))) HSG.out.2.1 hT7
              have HZ7 : Hid (wA.heap.size ≤ u7.heap.size) := by
                have a1 := HZ1.out
                have a3 := hg6.size
                have a4 := hT7.size
                simp at a3
                show _ ≤ _
                omega
              have HY7 : Hid (OwnTab wA.heap.size u7 (.slice xa (xs ++ [(⟨PS.client, PS.acked, PS.seen, ys⟩ : Ses)]).length xc) (xs ++ [(⟨PS.client, PS.acked, PS.seen, ys⟩ : Ses)])) := hO6.but HBL.out.2.2 hT7
              clear hO6 hg6 hP6 hT7 c6 hk5 f3 d3 hle hu7
              go_roundw
              case rel => exact ⟨m2, _, t2, xa, xc, by go_num, by omega, by simp; omega, HY7, HU7, HP7, HO7, HT1, HK7, HZ7⟩
              case measure => simp [intOf]
        · have hme : m = 0 := by omega
          subst hme
          have HE : Hid (earSt l = ⟨S0.at_, S0.clock, S0.v0, S0.v1, S0.v2, S0.v3, xs⟩) := by
            show _ = _
            rw [HER.out, HS0.out, HTE.out]
            simp [earTab]
          obtain ⟨s1, hs1⟩ : ∃ z, z = (⟨S0.at_, S0.clock, S0.v0, S0.v1, S0.v2, S0.v3, xs⟩ : St) := ⟨_, rfl⟩
          rw [← hs1] at HE
          have HSB1 : Hid (CBox sb (C7 s1 (.slice oa s1.tab.length oc)) wo) := by
            show CBox _ _ _
            rw [hs1]
            exact HSB.out
          have HOT1 : Hid (OwnTab wA.heap.size wo (.slice oa s1.tab.length oc) s1.tab) := by
            show OwnTab _ _ _ _
            rw [hs1]
            exact HOT.out
          have HF : Hid (R = if stErr s1 == 0 && (stBs s1 == l) then some s1 else none) := by
            show _ = _
            rw [HR.out, from_ok, HE.out]
          have HOL : Hid (ob < wA.heap.size) := HBL.out.1
          clear HE HSB HOT hs1 HER HS0 HTE HTOT HR HRB
          go_wp2_with (first | (refine load25 rfl rfl sb rfl HSB1.out ?_))
          refine (state_error s1 _ wo HOT1.out.tab).mono ?_
          rintro y u1 ⟨rfl, k1⟩
          by_cases he : stErr s1 = 0
          · have HEe : Hid (stErr s1 = 0) := he
            rw [he]
            clear he
            go_wp2_with (first | (refine load25w (by kernel_rfl) rfl sb rfl (HSB1.out.keep k1 (Nat.le_of_ble_eq_true rfl)) ?_))
            refine (state_bytes s1 _ u1 (HOT1.out.tab.keep k1) HEe.out).mono ?_
            rintro y u2 ⟨rfl, k2⟩
            have HKU : Hid (Keeps wo u2) := k1.trans k2
            clear k1 k2
            by_cases hb : stBs s1 = l
            · have hsome : R = some s1 := by rw [HF.out, HEe.out, hb]; simp
              rw [hb]
              clear HF HEe hb
              subst hsome
              go_wp2_with (first | (refine load25 rfl rfl sb rfl (HSB1.out.keep HKU.out (Nat.le_of_ble_eq_true rfl)) ?_) | (refine store25 rfl rfl ob rfl s1 oa s1.tab.length oc rfl (HOB.out.keep HKU.out (Nat.le_of_ble_eq_true rfl)) ?_; intro u9 hS9 hT9))
              refine bodyPost_ret (results2 Try.results15 rfl rfl (read25 hS9)) rfl ?_
              exact ⟨oa, oc, (HOT1.out.keep HKU.out).but HOL.out hT9 |>.tab, rfl, But.to (HKW.out.trans HKU.out) HG.out.1 hT9⟩
            · have hnone : R = none := by rw [HF.out, HEe.out]; simp [hb]
              clear HF HEe
              subst hnone
              have hb3 : ((bt (stBs s1)).toList == (bt l).toList) = false := by rw [bt_list, bt_list]; exact beq_eq_false_iff_ne.2 hb
              go_wp2_with (first | (refine store25 rfl rfl ob rfl z7 none 0 0 rfl (HOB.out.keep HKU.out (Nat.le_of_ble_eq_true rfl)) ?_; intro u9 hS9 hT9))
              refine bodyPost_ret (results2 Try.results15 rfl rfl (read25 hS9)) rfl ?_
              exact ⟨none, 0, (OwnTab.nil 0 _).tab, rfl, But.to (HKW.out.trans HKU.out) HG.out.1 hT9⟩
          · have hnone : R = none := by rw [HF.out]; simp [he]
            have HKU : Hid (Keeps wo u1) := k1
            clear HF k1
            subst hnone
            go_wp2_with (first | (refine store25 rfl rfl ob rfl z7 none 0 0 rfl (HOB.out.keep HKU.out (Nat.le_of_ble_eq_true rfl)) ?_; intro u9 hS9 hT9))
            refine bodyPost_ret (results2 Try.results15 rfl rfl (read25 hS9)) rfl ?_
            exact ⟨none, 0, (OwnTab.nil 0 _).tab, rfl, But.to (HKW.out.trans HKU.out) HG.out.1 hT9⟩
end Go.Proofs.Yteabfjpajgakiad

/- snap.parse, snap.Read. -/
set_option linter.unusedSimpArgs false
set_option linter.unusedVariables false
set_option maxRecDepth 10000
namespace Go.Proofs.Yteabfjpajgakiad
open Go.RowKit

def psS (l : List UInt8) : St := match rdSt l with
  | some (s, _) => s
  | none => z7
def psN (l : List UInt8) : Nat := match rdSt l with
  | some (_, r) => l.length - r.length
  | none => 0
def psW (l : List UInt8) : Bool := (rdSt l).isSome
def psOk (l : List UInt8) : Bool := psW l && ((psN l : Int) == (l.length : Int))
theorem sread (l : List UInt8) (hl : l.length ≤ 100000) (w : World) : Calls Try.prog 62 #[.string (bt l), .func (.func 63) #[] #[]] w fun y w' => ∃ a c, OwnTab w.heap.size w' (.slice a (psS l).tab.length c) (psS l).tab ∧ y = .returned (.tuple #[stV (psS l) (.slice a (psS l).tab.length c), .int .i64 (psN l : Int), .bool (psW l)]) ∧ Keeps w w' := by
  cases h : rdSt l with
  | none =>
    have e1 : psS l = z7 := by unfold psS; rw [h]
    have e2 : psN l = 0 := by unfold psN; rw [h]
    have e3 : psW l = false := by unfold psW; rw [h]; rfl
    rw [e1, e2, e3]
    refine (sread_no l h w).mono ?_
    rintro y w' ⟨rfl, hk⟩
    exact ⟨none, 0, OwnTab.nil _ _, rfl, hk⟩
  | some p =>
    obtain ⟨s, r⟩ := p
    have e1 : psS l = s := by unfold psS; rw [h]
    have e2 : psN l = l.length - r.length := by unfold psN; rw [h]
    have e3 : psW l = true := by unfold psW; rw [h]; rfl
    rw [e1, e2, e3]
    refine (sread_ok l s r h hl w).mono ?_
    rintro y w' ⟨a, c, h1, h2, h3⟩
    exact ⟨a, c, h1, h2, h3⟩

set_option maxHeartbeats 4000000 in
theorem snap_parse (l : List UInt8) (hl : l.length ≤ 100000) (w : World) : Calls Try.prog 37 #[.string (bt l)] w fun y w' => ∃ a c, OwnTab w.heap.size w' (.slice a (psS l).tab.length c) (psS l).tab ∧ y = .returned (.tuple #[stV (psS l) (.slice a (psS l).tab.length c), .bool (psOk l)]) ∧ Keeps w w' := by
  have hs := bt_size l
  have HR : Hid (∀ W, Calls Try.prog 62 #[.string (bt l), .func (.func 63) #[] #[]] W fun y w' => ∃ a c, OwnTab W.heap.size w' (.slice a (psS l).tab.length c) (psS l).tab ∧ y = .returned (.tuple #[stV (psS l) (.slice a (psS l).tab.length c), .int .i64 (psN l : Int), .bool (psW l)]) ∧ Keeps W w') := fun W => sread l hl W
  have HOK : Hid (psOk l = (psW l && ((psN l : Int) == (l.length : Int)))) := rfl
  generalize psOk l = ok at *
  generalize psW l = wh at *
  generalize (psN l : Int) = n at *
  generalize psS l = s at *
  go_enter Try.func37, Try.ntmps37
  go_wp2_with (first | (refine alloc25 rfl rfl ?_; intro w0 ob hBo hko hlo hgo))
  have HO0 : Hid (CBox ob (C7 z7 (.slice none 0 0)) w0) := hBo
  have HK0 : Hid (Keeps w w0) := hko
  have HOG : Hid (w.heap.size ≤ ob) := hgo
  clear hBo hko hlo hgo
  refine (HR.out w0).mono ?_
  rintro y w1 ⟨xa, xc, hT, rfl, hb⟩
  have HO1 : Hid (CBox ob (C7 z7 (.slice none 0 0)) w1) := HO0.out.keep hb (Nat.le_of_ble_eq_true rfl)
  have HK1 : Hid (Keeps w w1) := HK0.out.trans hb
  have HT1 : Hid (OwnTab w0.heap.size w1 (.slice xa s.tab.length xc) s.tab) := hT
  have HOL : Hid (ob < w0.heap.size) := HO0.out.lt (Nat.le_of_ble_eq_true rfl)
  have HZ : Hid (w.heap.size ≤ w0.heap.size) := HK0.out.size
  clear hb hT HO0 HK0 HR
  cases wh with
  | false =>
    have e : ok = false := by rw [HOK.out]; rfl
    subst e
    go_wp2_with (first | (refine alloc25 rfl rfl ?_; intro w2 sb hBs hks hls hgs) | (refine store25 rfl rfl sb rfl s xa s.tab.length xc rfl hBs ?_; intro w3 hS3 hT3) | (refine load25 rfl rfl sb rfl hS3 ?_) | (refine store25 rfl rfl ob rfl s xa s.tab.length xc rfl (HO1.out.keep (But.to hks hgs hT3) (Nat.le_of_ble_eq_true rfl)) ?_; intro w4 hS4 hT4))
    have k13 : Keeps w1 w3 := But.to hks hgs hT3
    refine bodyPost_ret (results2 Try.results37 rfl rfl (read25 hS4)) rfl ?_
    exact ⟨xa, xc, ((HT1.out.keep k13).but HOL.out hT4).base HZ.out, rfl, But.to (HK1.out.trans k13) HOG.out hT4⟩
  | true =>
    cases q : (n == (l.length : Int)) with
    | false =>
      have e : ok = false := by rw [HOK.out, q]; rfl
      subst e
      go_wp2_with (first | (refine alloc25 rfl rfl ?_; intro w2 sb hBs hks hls hgs) | (refine store25 rfl rfl sb rfl s xa s.tab.length xc rfl hBs ?_; intro w3 hS3 hT3) | (refine load25 rfl rfl sb rfl hS3 ?_) | (refine store25 rfl rfl ob rfl s xa s.tab.length xc rfl (HO1.out.keep (But.to hks hgs hT3) (Nat.le_of_ble_eq_true rfl)) ?_; intro w4 hS4 hT4))
      have k13 : Keeps w1 w3 := But.to hks hgs hT3
      refine bodyPost_ret (results2 Try.results37 rfl rfl (read25 hS4)) rfl ?_
      exact ⟨xa, xc, ((HT1.out.keep k13).but HOL.out hT4).base HZ.out, rfl, But.to (HK1.out.trans k13) HOG.out hT4⟩
    | true =>
      have e : ok = true := by rw [HOK.out, q]; rfl
      subst e
      go_wp2_with (first | (refine alloc25 rfl rfl ?_; intro w2 sb hBs hks hls hgs) | (refine store25 rfl rfl sb rfl s xa s.tab.length xc rfl hBs ?_; intro w3 hS3 hT3) | (refine load25 rfl rfl sb rfl hS3 ?_) | (refine store25 rfl rfl ob rfl s xa s.tab.length xc rfl (HO1.out.keep (But.to hks hgs hT3) (Nat.le_of_ble_eq_true rfl)) ?_; intro w4 hS4 hT4))
      have k13 : Keeps w1 w3 := But.to hks hgs hT3
      refine bodyPost_ret (results2 Try.results37 rfl rfl (read25 hS4)) rfl ?_
      exact ⟨xa, xc, ((HT1.out.keep k13).but HOL.out hT4).base HZ.out, rfl, But.to (HK1.out.trans k13) HOG.out hT4⟩
def rdE (l : List UInt8) : Int := if l.length ≤ 4096 then (if (snOf l).isSome then 0 else 1) else 2
def rdS (l : List UInt8) : St := if l.length ≤ 4096 then (snOf l).getD z7 else z7
theorem snOf_ps (l : List UInt8) : snOf l = if psOk l && (stErr (psS l) == 0) then some (psS l) else none := by
  unfold snOf psOk psW psN psS
  cases h : rdSt l with
  | none => rfl
  | some p =>
    obtain ⟨s, r⟩ := p
    have hb := congrArg List.length (rdSt_bytes h)
    rw [List.length_append] at hb
    match r with
    | [] => simp
    | a :: t =>
      rw [List.length_cons] at hb
      have : (((l.length - (a :: t).length : Nat) : Int) == (l.length : Int)) = false := by
        rw [List.length_cons]
        simp
        omega
      simp only [Option.isSome_some, Bool.true_and, this, Bool.false_and, Bool.false_eq_true, if_false]

set_option maxHeartbeats 4000000 in
theorem snap_read (l : List UInt8) (w : World) : Calls Try.prog 12 #[.string (bt l)] w fun y w' => ∃ a c, OwnTab w.heap.size w' (.slice a (rdS l).tab.length c) (rdS l).tab ∧ y = .returned (.tuple #[stV (rdS l) (.slice a (rdS l).tab.length c), .int .i64 (rdE l)]) ∧ Keeps w w' := by
  have hs := bt_size l
  by_cases h4 : l.length ≤ 4096
  · have HE : Hid (rdE l = if psOk l && (stErr (psS l) == 0) then 0 else 1) := by
      show _ = _
      unfold rdE
      rw [if_pos h4, snOf_ps]
      split <;> rfl
    have HS : Hid (rdS l = if psOk l && (stErr (psS l) == 0) then psS l else z7) := by
      show _ = _
      unfold rdS
      rw [if_pos h4, snOf_ps]
      split <;> rfl
    have HP : Hid (∀ W, Calls Try.prog 37 #[.string (bt l)] W fun y w' => ∃ a c, OwnTab W.heap.size w' (.slice a (psS l).tab.length c) (psS l).tab ∧ y = .returned (.tuple #[stV (psS l) (.slice a (psS l).tab.length c), .bool (psOk l)]) ∧ Keeps W w') := fun W => snap_parse l (by omega) W
    have HCH : Hid (∀ v W, TabAt W v (psS l).tab → Calls Try.prog 29 #[stV (psS l) v] W fun y w' => y = .returned (.int .i64 (stErr (psS l))) ∧ Keeps W w') := fun v W h => state_check (psS l) v W h
    generalize rdE l = RE at *
    generalize rdS l = RS at *
    generalize stErr (psS l) = er at *
    generalize psS l = s at *
    generalize psOk l = ok at *
    go_enter Try.func12, Try.ntmps12
    go_wp2_with (first | (refine alloc25 rfl rfl ?_; intro w0 ob hBo hko hlo hgo))
    have HO0 : Hid (CBox ob (C7 z7 (.slice none 0 0)) w0) := hBo
    have HK0 : Hid (Keeps w w0) := hko
    have HOG : Hid (w.heap.size ≤ ob) := hgo
    clear hBo hko hlo hgo
    refine (HP.out w0).mono ?_
    rintro y w1 ⟨xa, xc, hT, rfl, hb⟩
    have HO1 : Hid (CBox ob (C7 z7 (.slice none 0 0)) w1) := HO0.out.keep hb (Nat.le_of_ble_eq_true rfl)
    have HK1 : Hid (Keeps w w1) := HK0.out.trans hb
    have HT1 : Hid (OwnTab w0.heap.size w1 (.slice xa s.tab.length xc) s.tab) := hT
    have HOL : Hid (ob < w0.heap.size) := HO0.out.lt (Nat.le_of_ble_eq_true rfl)
    have HZ : Hid (w.heap.size ≤ w0.heap.size) := HK0.out.size
    clear hb hT HO0 HK0 HP
    cases ok with
    | false =>
      have e1 : RE = 1 := HE.out
      have e2 : RS = z7 := HS.out
      subst e1 e2
      go_wp2_with (first | (refine alloc25 rfl rfl ?_; intro w2 sb hBs hks hls hgs) | (refine store25 rfl rfl sb rfl s xa s.tab.length xc rfl hBs ?_; intro w3 hS3 hT3) | (refine store25 rfl rfl ob rfl z7 none 0 0 rfl (HO1.out.keep (But.to hks hgs hT3) (Nat.le_of_ble_eq_true rfl)) ?_; intro w4 hS4 hT4))
      have k13 : Keeps w1 w3 := But.to hks hgs hT3
      refine bodyPost_ret (results2 Try.results12 rfl rfl (read25 hS4)) rfl ?_
      exact ⟨none, 0, OwnTab.nil _ _, rfl, But.to (HK1.out.trans k13) HOG.out hT4⟩
    | true =>
      cases q : (er == 0) with
      | false =>
        have q' : (er != 0) = true := by simp [bne, q]
        have e1 : RE = 1 := by rw [HE.out, q]; rfl
        have e2 : RS = z7 := by rw [HS.out, q]; rfl
        subst e1 e2
        go_wp2_with (first | (refine alloc25 rfl rfl ?_; intro w2 sb hBs hks hls hgs) | (refine store25 rfl rfl sb rfl s xa s.tab.length xc rfl hBs ?_; intro w3 hS3 hT3) | (refine load25w (by kernel_rfl) rfl sb rfl hS3 ?_))
        have k13 : Keeps w1 w3 := But.to hks hgs hT3
        refine (HCH.out (.slice xa s.tab.length xc) w3 (HT1.out.keep k13).tab).mono ?_
        rintro y w4 ⟨rfl, hb⟩
        have HO4 : Hid (CBox ob (C7 z7 (.slice none 0 0)) w4) := (HO1.out.keep k13 (Nat.le_of_ble_eq_true rfl)).keep hb (Nat.le_of_ble_eq_true rfl)
        have HK4 : Hid (Keeps w w4) := (HK1.out.trans k13).trans hb
        clear hb k13 hBs hks hls hgs hS3 hT3
        go_wp2_with (first | (refine store25 rfl rfl ob rfl z7 none 0 0 rfl HO4.out ?_; intro w5 hS5 hT5))
        refine bodyPost_ret (results2 Try.results12 rfl rfl (read25 hS5)) rfl ?_
        exact ⟨none, 0, OwnTab.nil _ _, rfl, But.to HK4.out HOG.out hT5⟩
      | true =>
        have q' : (er != 0) = false := by simp [bne, q]
        have e1 : RE = 0 := by rw [HE.out, q]; rfl
        have e2 : RS = s := by rw [HS.out, q]; rfl
        subst e1 e2
        go_wp2_with (first | (refine alloc25 rfl rfl ?_; intro w2 sb hBs hks hls hgs) | (refine store25 rfl rfl sb rfl RS xa RS.tab.length xc rfl hBs ?_; intro w3 hS3 hT3) | (refine load25w (by kernel_rfl) rfl sb rfl hS3 ?_))
        have k13 : Keeps w1 w3 := But.to hks hgs hT3
        refine (HCH.out (.slice xa RS.tab.length xc) w3 (HT1.out.keep k13).tab).mono ?_
        rintro y w4 ⟨rfl, hb⟩
        have HO4 : Hid (CBox ob (C7 z7 (.slice none 0 0)) w4) := (HO1.out.keep k13 (Nat.le_of_ble_eq_true rfl)).keep hb (Nat.le_of_ble_eq_true rfl)
        have HK4 : Hid (Keeps w w4) := (HK1.out.trans k13).trans hb
        have HS4 : Hid (CBox sb (C7 RS (.slice xa RS.tab.length xc)) w4) := hS3.keep hb (Nat.le_of_ble_eq_true rfl)
        have HT4 : Hid (OwnTab w0.heap.size w4 (.slice xa RS.tab.length xc) RS.tab) := (HT1.out.keep k13).keep hb
        clear hb k13 hBs hks hls hgs hS3 hT3
        go_wp2_with (first | (refine load25 rfl rfl sb rfl HS4.out ?_) | (refine store25 rfl rfl ob rfl RS xa RS.tab.length xc rfl HO4.out ?_; intro w5 hS5 hT5))
        refine bodyPost_ret (results2 Try.results12 rfl rfl (read25 hS5)) rfl ?_
        exact ⟨xa, xc, (HT4.out.but HOL.out hT5).base HZ.out, rfl, But.to HK4.out HOG.out hT5⟩
  · have HE : Hid (rdE l = 2) := if_neg h4
    have HS : Hid (rdS l = z7) := if_neg h4
    generalize rdE l = RE at *
    generalize rdS l = RS at *
    have e1 := HE.out
    have e2 := HS.out
    subst e1 e2
    go_enter Try.func12, Try.ntmps12
    go_wp2_with (first | (refine alloc25 rfl rfl ?_; intro w0 ob hBo hko hlo hgo) | (refine store25 rfl rfl ob rfl z7 none 0 0 rfl hBo ?_; intro w5 hS5 hT5))
    refine bodyPost_ret (results2 Try.results12 rfl rfl (read25 hS5)) rfl ?_
    exact ⟨none, 0, OwnTab.nil _ _, rfl, But.to hko hgo hT5⟩
end Go.Proofs.Yteabfjpajgakiad

/- States: the law's shop, Begin. -/
set_option linter.unusedSimpArgs false
set_option linter.unusedVariables false
set_option maxRecDepth 10000
namespace Go.Proofs.Yteabfjpajgakiad
open Go.RowKit

/-- A row of the law, and where its answers lie. -/
theorem row_at (c : Int) (w : World) : Calls Try.prog 64 #[.int .i64 c] w fun e w' => ∃ g, w.heap.size ≤ g ∧ g < w'.heap.size ∧ KeptAt w' (.slice (some ⟨g, 0, none⟩) 2 2) [(3, 7), (5, -1)] ∧ e = .returned (sesV (rowS c) (.slice (some ⟨g, 0, none⟩) 2 2)) ∧ Keeps w w' := by
  go_enter Try.func64, Try.ntmps64
  go_wp2_with fail
  refine bodyPost_ret (v := sesV (rowS c) (.slice (some ⟨w.heap.size + 1, 0, none⟩) 2 2)) ?_ rfl ?_
  · simp [results, Try.results64, go_sem]
  · refine ⟨w.heap.size + 1, by omega, by simp, ?_, rfl, ?_⟩
    · refine ⟨rfl, by unfold maxLen; simp, .inr ⟨_, _, rfl, fun j u hu => ?_⟩⟩
      rw [Addr.add_lit, Nat.zero_add]
      match j, hu with
      | 0, hu => simp [repCells] at hu; subst hu; simp [go_sem]
      | 1, hu => simp [repCells] at hu; subst hu; simp [go_sem]
      | 2, hu => simp [repCells] at hu; subst hu; simp [go_sem]
      | 3, hu => simp [repCells] at hu; subst hu; simp [go_sem]
    · exact ((Keeps.refl _).alloc _).alloc _

abbrev shopS : St := ⟨6, 10, 7, 0, 0, 1, [rowS 2, rowS 4]⟩

/-- Where the shop's table lies. -/
structure ShopAt (w : World) (b : Nat) (ka : Option Addr) (kc : Nat) (la : Option Addr) (lc : Nat) : Prop where
  c0 : w.cell? ⟨b, 0, none⟩ = some (.int .i64 2)
  c1 : w.cell? ⟨b, 1, none⟩ = some (.int .i64 2)
  c2 : w.cell? ⟨b, 2, none⟩ = some (.int .i64 9)
  c3 : w.cell? ⟨b, 3, none⟩ = some (.slice ka 2 kc)
  c4 : w.cell? ⟨b, 4, none⟩ = some (.int .i64 4)
  c5 : w.cell? ⟨b, 5, none⟩ = some (.int .i64 2)
  c6 : w.cell? ⟨b, 6, none⟩ = some (.int .i64 9)
  c7 : w.cell? ⟨b, 7, none⟩ = some (.slice la 2 lc)
  fz : w.frozen? ⟨b, 3, none⟩ = false
  k1 : KeptAt w (.slice ka 2 kc) [(3, 7), (5, -1)]
  k2 : KeptAt w (.slice la 2 lc) [(3, 7), (5, -1)]

theorem ShopAt.keep {w w' : World} {b : Nat} {ka : Option Addr} {kc : Nat} {la : Option Addr} {lc : Nat} (h : ShopAt w b ka kc la lc) (hk : Keeps w w') : ShopAt w' b ka kc la lc :=
  ⟨cell_kept h.c0 hk, cell_kept h.c1 hk, cell_kept h.c2 hk, cell_kept h.c3 hk, cell_kept h.c4 hk, cell_kept h.c5 hk, cell_kept h.c6 hk, cell_kept h.c7 hk,
    (Below.frozen hk (p := ⟨b, 3, none⟩) (World.block_lt_of_cell? _ _ h.c3)).trans h.fz, h.k1.keep hk, h.k2.keep hk⟩

theorem tab_cells {w : World} {b : Nat} {s t : Ses} {k l : Value} (c0 : w.cell? ⟨b, 0, none⟩ = some (.int .i64 s.client)) (c1 : w.cell? ⟨b, 1, none⟩ = some (.int .i64 s.acked)) (c2 : w.cell? ⟨b, 2, none⟩ = some (.int .i64 s.seen)) (c3 : w.cell? ⟨b, 3, none⟩ = some k)
    (c4 : w.cell? ⟨b, 4, none⟩ = some (.int .i64 t.client)) (c5 : w.cell? ⟨b, 5, none⟩ = some (.int .i64 t.acked)) (c6 : w.cell? ⟨b, 6, none⟩ = some (.int .i64 t.seen)) (c7 : w.cell? ⟨b, 7, none⟩ = some l) (hk : KeptAt w k s.kept) (hl : KeptAt w l t.kept) :
    TabAt w (.slice (some ⟨b, 0, none⟩) 2 2) [s, t] := by
  refine ⟨[k, l], ⟨hk, hl, trivial⟩, rfl, by unfold maxLen; simp, .inr ⟨_, _, rfl, fun j u hu => ?_⟩⟩
  rw [Addr.add_lit, Nat.zero_add]
  match j, hu with
  | 0, hu => simp [sesCells] at hu; subst hu; exact c0
  | 1, hu => simp [sesCells] at hu; subst hu; exact c1
  | 2, hu => simp [sesCells] at hu; subst hu; exact c2
  | 3, hu => simp [sesCells] at hu; subst hu; exact c3
  | 4, hu => simp [sesCells] at hu; subst hu; exact c4
  | 5, hu => simp [sesCells] at hu; subst hu; exact c5
  | 6, hu => simp [sesCells] at hu; subst hu; exact c6
  | 7, hu => simp [sesCells] at hu; subst hu; exact c7

theorem ShopAt.tab {w : World} {b : Nat} {ka : Option Addr} {kc : Nat} {la : Option Addr} {lc : Nat} (h : ShopAt w b ka kc la lc) : TabAt w (.slice (some ⟨b, 0, none⟩) 2 2) [rowS 2, rowS 4] :=
  tab_cells h.c0 h.c1 h.c2 h.c3 h.c4 h.c5 h.c6 h.c7 h.k1 h.k2

set_option maxHeartbeats 2000000 in
theorem shop_c (w : World) : Calls Try.prog 38 #[] w fun e w' => ∃ b ka kc la lc, w.heap.size ≤ b ∧ ShopAt w' b ka kc la lc ∧ (KeptFar b w' (.slice la 2 lc) [(3, 7), (5, -1)]) ∧ e = .returned (stV shopS (.slice (some ⟨b, 0, none⟩) 2 2)) ∧ Keeps w w' := by
  go_enter Try.func38, Try.ntmps38
  go_wp2_with fail
  refine (row_at 2 _).mono ?_
  rintro e w1 ⟨g1, hg1, hl1, k1, rfl, hb⟩
  go_wp2_with fail
  refine (row_at 4 _).mono ?_
  rintro e w2 ⟨g2, hg2, hl2, k2, rfl, hb2⟩
  have hB := hb.trans hb2
  have k1 := k1.keep hb2
  have hg1' : g1 ≠ w.heap.size := by simp at hg1; omega
  have hg2' : g2 ≠ w.heap.size := by have := hb.size; simp at this; omega
  have hl1' : g1 < w2.heap.size := Nat.lt_of_lt_of_le hl1 hb2.size
  have hk2 : Keeps w w2 := ((Keeps.refl _).alloc _).trans hB
  have x0 : w2.cell? ⟨w.heap.size, 0, none⟩ = some (.int .i64 0) := cell_kept (by simp [go_sem]) hB
  have x1 : w2.cell? ⟨w.heap.size, 1, none⟩ = some (.int .i64 0) := cell_kept (by simp [go_sem]) hB
  have x2 : w2.cell? ⟨w.heap.size, 2, none⟩ = some (.int .i64 0) := cell_kept (by simp [go_sem]) hB
  have x3 : w2.cell? ⟨w.heap.size, 3, none⟩ = some (.int .i64 0) := cell_kept (by simp [go_sem]) hB
  have x4 : w2.cell? ⟨w.heap.size, 4, none⟩ = some (.int .i64 0) := cell_kept (by simp [go_sem]) hB
  have x5 : w2.cell? ⟨w.heap.size, 5, none⟩ = some (.int .i64 0) := cell_kept (by simp [go_sem]) hB
  have x6 : w2.cell? ⟨w.heap.size, 6, none⟩ = some (.slice none 0 0) := cell_kept (by simp [go_sem]) hB
  have xf : ∀ i, w2.frozen? ⟨w.heap.size, i, none⟩ = false := fun i => (Below.frozen hB (p := ⟨w.heap.size, i, none⟩) (by simp)).trans (by simp [go_sem])
  have hlt := World.block_lt_of_cell? _ _ x6
  simp only [] at hlt
  clear hb hb2 hB
  have K1 : Hid (KeptFar w.heap.size w2 (.slice (some ⟨g1, 0, none⟩) 2 2) [(3, 7), (5, -1)]) := kept_far_at k1 hg1' hl1'
  have K2 : Hid (KeptFar w.heap.size w2 (.slice (some ⟨g2, 0, none⟩) 2 2) [(3, 7), (5, -1)]) := kept_far_at k2 hg2' hl2
  clear k1 k2
  go_wp2_with fail
  refine bodyPost_ret (v := stV shopS (.slice (some ⟨w2.heap.size, 0, none⟩) 2 2)) ?_ rfl ?_
  · simp [results, Try.results38, go_sem, x0, x1, x2, x3, x4, x5, x6, hlt]
  · have hbt : But w.heap.size w2 ((((((((w2.setCell ⟨w.heap.size, 0, none⟩ (.int .i64 6)).setCell ⟨w.heap.size, 1, none⟩ (.int .i64 10)).setCell ⟨w.heap.size, 2, none⟩ (.int .i64 7)).setCell ⟨w.heap.size, 3, none⟩ (.int .i64 0)).setCell ⟨w.heap.size, 4, none⟩ (.int .i64 0)).setCell ⟨w.heap.size, 5, none⟩ (.int .i64 1)).setCell ⟨w.heap.size, 6, none⟩ (.slice (some ⟨w2.heap.size, 0, none⟩) 2 2))) :=
      (((((((But.refl _ _).set 0 _).set 1 _).set 2 _).set 3 _).set 4 _).set 5 _).set 6 _
    have hbu := hbt.keeps ((Keeps.refl _).alloc (.cells #[.int .i64 2, .int .i64 2, .int .i64 9, .slice (some ⟨g1, 0, none⟩) 2 2, .int .i64 4, .int .i64 2, .int .i64 9, .slice (some ⟨g2, 0, none⟩) 2 2] 59))
    have kk2 := K2.out _ hbu
    refine ⟨w2.heap.size, _, _, _, _, hk2.size, ⟨?_, ?_, ?_, ?_, ?_, ?_, ?_, ?_, ?_, K1.out _ hbu, kk2⟩, kept_far_at kk2 (by omega) (by simp; omega), rfl, But.to hk2 (Nat.le_refl _) hbu⟩
    all_goals simp [go_sem]
end Go.Proofs.Yteabfjpajgakiad

/- Two states are the same just if they are one. -/
namespace Go.Proofs.Yteabfjpajgakiad
open Go.RowKit

theorem same_kept_iff : ∀ {l m : List (Int × Int)}, sameKept l m = true ↔ l = m
  | [], [] => by simp [sameKept]
  | [], _ :: _ => by simp [sameKept]
  | _ :: _, [] => by simp [sameKept]
  | (q, v) :: r, (q', v') :: r' => by simp [sameKept, same_kept_iff (l := r) (m := r')]
theorem same_ses_iff {s t : Ses} : sameSes s t = true ↔ s = t := by
  obtain ⟨a, b, c, d⟩ := s
  obtain ⟨a', b', c', d'⟩ := t
  simp [sameSes, same_kept_iff]
theorem same_tab_iff : ∀ {L M : List Ses}, sameTab L M = true ↔ L = M
  | [], [] => by simp [sameTab]
  | [], _ :: _ => by simp [sameTab]
  | _ :: _, [] => by simp [sameTab]
  | s :: r, t :: r' => by simp [sameTab, same_ses_iff, same_tab_iff (L := r) (M := r')]
theorem same_st_iff {s t : St} : sameSt s t = true ↔ s = t := by
  obtain ⟨a, b, c, d, e, f, g⟩ := s
  obtain ⟨a', b', c', d', e', f', g'⟩ := t
  simp [sameSt, sameVals, same_tab_iff, and_assoc]
theorem same_self (t : St) : sameSt t t = true := same_st_iff.2 rfl
end Go.Proofs.Yteabfjpajgakiad

/- snapBegun. -/
set_option linter.unusedSimpArgs false
set_option linter.unusedVariables false
set_option maxRecDepth 10000
namespace Go.Proofs.Yteabfjpajgakiad
open Go.RowKit

theorem y_load25 {ops : Array Oper} {S : World → Prop} {op : Oper} {a : Act} (hw : Region.wanted op (yielded ops a.tmps) = true) {x : Operand} (ho : op.op = .load 25 x) (b : Nat) (hx : a.eval x = .pointer (some ⟨b, 0, none⟩)) {s : St} {p : Value} (hS : ∀ w, S w → CBox b (C7 s p) w) : YieldsIf Try.prog ops S op (stV s p) a := by
  obtain ⟨d, h1, h2⟩ := row25
  exact yieldsIf_load_mid hw _ x ho b _ hx _ d (fun w hs => range_of (hS w hs) 0 7 (ds := C7 s p) rfl) h1 h2 (info_size size25 rfl)
def badS : St := ⟨-1, 0, 0, 0, 0, 0, []⟩
theorem snap_runs : stErr shopS = 0 ∧ (stBs shopS).length = 34 ∧ stErr badS = 3 := by decide +kernel
theorem rd_of {s : St} (h : stErr s = 0) : rdS (stBs s) = s ∧ rdE (stBs s) = 0 := by
  have h1 := stBs_len h
  unfold rdS rdE
  rw [if_pos (by omega), if_pos (by omega), snOf_of h]
  exact ⟨rfl, rfl⟩
theorem rd_more {s : St} (h : stErr s = 0) (x : UInt8) : rdE (stBs s ++ [x]) = 1 := by
  have h1 := stBs_len h
  have h2 : snOf (stBs s ++ [x]) = none := by
    unfold snOf
    rw [rdSt_of s [x] (st_fit h).1]
  unfold rdE
  rw [if_pos (by rw [List.length_append]; simp; omega), h2]
  rfl
theorem shop_at (W : World) : Calls Try.prog 38 #[] W fun y w' => ∃ a c, TabAt w' (.slice a shopS.tab.length c) shopS.tab ∧ y = .returned (stV shopS (.slice a shopS.tab.length c)) ∧ Keeps W w' := by
  refine (shop_c W).mono ?_
  rintro y w' ⟨b, ka, kc, la, lc, h1, h2, h3, h4, h5⟩
  exact ⟨some ⟨b, 0, none⟩, 2, h2.tab, h4, h5⟩

set_option maxHeartbeats 4000000 in
theorem snap_begun (w : World) : Calls Try.prog 13 #[] w fun y w' => y = .returned (.bool true) ∧ Keeps w w' := by
  obtain ⟨p1, p2, p3⟩ := snap_runs
  obtain ⟨s1, hs1⟩ : ∃ z, z = bt (stBs shopS) := ⟨_, rfl⟩
  have hsz : s1.size = 34 := by rw [hs1, bt_size, p2]
  have HADD : Hid (s1 ++ ByteArray.mk #[120] = bt (stBs shopS ++ [120])) := by show _ = _; rw [hs1]; exact bt_append _ [120]
  have HW1 : Hid (∀ v W, TabAt W v shopS.tab → Calls Try.prog 9 #[stV shopS v] W fun y w' => y = .returned (.tuple #[.string s1, .int .i64 0]) ∧ Keeps W w') := fun v W h => by
    have := snap_write shopS v W h
    rw [show snBs shopS = stBs shopS from if_pos (by rw [p1]; rfl), p1, ← hs1] at this
    exact this
  have HW2 : Hid (∀ W, ∃ z, Calls Try.prog 9 #[stV badS (.slice none 0 0)] W fun y w' => y = .returned (.tuple #[.string z, .int .i64 3]) ∧ Keeps W w') := fun W => by
    have := snap_write badS (.slice none 0 0) W (OwnTab.nil 0 W).tab
    rw [p3] at this
    exact ⟨_, this⟩
  have HR1 : Hid (∀ W, Calls Try.prog 12 #[.string s1] W fun y w' => ∃ a c, TabAt w' (.slice a shopS.tab.length c) shopS.tab ∧ y = .returned (.tuple #[stV shopS (.slice a shopS.tab.length c), .int .i64 0]) ∧ Keeps W w') := fun W => by
    rw [hs1]
    refine (snap_read (stBs shopS) W).mono ?_
    obtain ⟨r1, r2⟩ := rd_of p1
    rw [r1, r2]
    rintro y w' ⟨a, c, h1, h2, h3⟩
    exact ⟨a, c, h1.tab, h2, h3⟩
  have HR2 : Hid (∀ W, Calls Try.prog 12 #[.string (bt (stBs shopS ++ [120]))] W fun y w' => ∃ z a c, y = .returned (.tuple #[stV z (.slice a z.tab.length c), .int .i64 1]) ∧ Keeps W w') := fun W => by
    refine (snap_read (stBs shopS ++ [120]) W).mono ?_
    rw [rd_more p1]
    rintro y w' ⟨a, c, h1, h2, h3⟩
    exact ⟨_, a, c, h2, h3⟩
  have HSM : Hid (∀ v v' W, TabAt W v shopS.tab → TabAt W v' shopS.tab → Calls Try.prog 14 #[stV shopS v, stV shopS v'] W fun e w' => e = .returned (.bool true) ∧ Keeps W w') := fun v v' W h h' => by
    have := same_of shopS shopS v v' W h h'
    rw [same_self] at this
    exact this
  have HSH : Hid (∀ W, Calls Try.prog 38 #[] W fun y w' => ∃ a c, TabAt w' (.slice a shopS.tab.length c) shopS.tab ∧ y = .returned (stV shopS (.slice a shopS.tab.length c)) ∧ Keeps W w') := fun W => shop_at W
  have HBS : Hid (badS = ⟨-1, 0, 0, 0, 0, 0, []⟩) := rfl
  clear p1 p2 p3 hs1
  generalize hsh : shopS = sh at *
  clear hsh
  go_enter Try.func13, Try.ntmps13
  go_wp2_with fail
  refine (HSH.out w).mono ?_
  rintro y w1 ⟨a1, c1, h1, rfl, hb⟩
  have HK1 : Hid (Keeps w w1) := hb
  have HT1 : Hid (TabAt w1 (.slice a1 sh.tab.length c1) sh.tab) := h1
  clear hb h1
  go_wp2_with fail
  refine (HW1.out _ w1 HT1.out).mono ?_
  rintro y w2 ⟨rfl, hb⟩
  have HK2 : Hid (Keeps w w2) := HK1.out.trans hb
  clear hb HK1 HT1 HW1
  go_wp2_with fail
  refine (HR1.out w2).mono ?_
  rintro y w3 ⟨a3, c3, h3, rfl, hb⟩
  have HK3 : Hid (Keeps w w3) := HK2.out.trans hb
  have HT3 : Hid (TabAt w3 (.slice a3 sh.tab.length c3) sh.tab) := h3
  clear hb h3 HK2 HR1
  go_wp2_with (first | (refine alloc25 rfl rfl ?_; intro w4 sb hBs hks hls hgs) | (refine store25 rfl rfl sb rfl sh a3 sh.tab.length c3 rfl hBs ?_; intro w5 hS5 hT5))
  have k35 : Keeps w3 w5 := But.to hks hgs hT5
  have HK5 : Hid (Keeps w w5) := HK3.out.trans k35
  have HT5 : Hid (TabAt w5 (.slice a3 sh.tab.length c3) sh.tab) := HT3.out.keep k35
  have HS5 : Hid (CBox sb (C7 sh (.slice a3 sh.tab.length c3)) w5) := hS5
  clear k35 hBs hks hls hgs hS5 hT5 HK3 HT3
  rw [HADD.out]
  refine (HR2.out w5).mono ?_
  rintro y w6 ⟨z, a6, c6, rfl, hb⟩
  have HK6 : Hid (Keeps w w6) := HK5.out.trans hb
  have HT6 : Hid (TabAt w6 (.slice a3 sh.tab.length c3) sh.tab) := HT5.out.keep hb
  have HS6 : Hid (CBox sb (C7 sh (.slice a3 sh.tab.length c3)) w6) := HS5.out.keep hb (Nat.le_of_ble_eq_true rfl)
  clear hb HK5 HT5 HS5 HR2
  go_wp2_with (first | (refine alloc25 rfl rfl ?_; intro w7 xb hBx hkx hlx hgx) | (refine store25 rfl rfl xb rfl z a6 z.tab.length c6 rfl hBx ?_; intro w8 hS8 hT8))
  have k68 : Keeps w6 w8 := But.to hkx hgx hT8
  have HK8 : Hid (Keeps w w8) := HK6.out.trans k68
  have HT8 : Hid (TabAt w8 (.slice a3 sh.tab.length c3) sh.tab) := HT6.out.keep k68
  have HS8 : Hid (CBox sb (C7 sh (.slice a3 sh.tab.length c3)) w8) := HS6.out.keep k68 (Nat.le_of_ble_eq_true rfl)
  clear k68 hBx hkx hlx hgx hS8 hT8 HK6 HT6 HS6
  obtain ⟨z9, h9⟩ := HW2.out w8
  rw [HBS.out] at h9
  refine h9.mono ?_
  rintro y w9 ⟨rfl, hb⟩
  have HK9 : Hid (Keeps w w9) := HK8.out.trans hb
  have HT9 : Hid (TabAt w9 (.slice a3 sh.tab.length c3) sh.tab) := HT8.out.keep hb
  have HS9 : Hid (CBox sb (C7 sh (.slice a3 sh.tab.length c3)) w9) := HS8.out.keep hb (Nat.le_of_ble_eq_true rfl)
  clear hb h9 HK8 HT8 HS8 HW2
  have hq : ((s1.size : Int) == 34) = true := by rw [hsz]; rfl
  clear hsz
  go_wp2_with fail
  refine wp_region_held_drew (S := fun W => Keeps w9 W) (by kernel_rfl) (Keeps.refl _).drew (fun hS => ?_)
  obtain ⟨V0, hV0⟩ : ∃ z, z = w9.drew := ⟨_, rfl⟩
  rw [← hV0] at hS ⊢
  clear hV0
  refine wpAnyH_take (i := 0) (v := .int .i64 0) rfl (by kernel_rfl) (by kernel_rfl) (by kernel_rfl) (fun _ _ _ h => h) (Or.inl ⟨by kernel_rfl, fun w _ => by kernel_rfl⟩) hS ?_
  refine wpAnyH_take (i := 1) (v := .bool true) rfl (by kernel_rfl) (by kernel_rfl) (by kernel_rfl) (fun _ _ _ h => h) (Or.inl ⟨by kernel_rfl, fun w _ => by kernel_rfl⟩) hS ?_
  refine wpAnyH_take (i := 2) (v := .bool true) rfl (by kernel_rfl) (by kernel_rfl) (by kernel_rfl) (fun _ _ _ h => h) (Or.inl ⟨by kernel_rfl, fun w _ => by kernel_rfl⟩) hS ?_
  refine wpAnyH_take (i := 3) (v := .int .i64 0) rfl (by kernel_rfl) (by kernel_rfl) (by kernel_rfl) (fun _ _ _ h => h) (Or.inl ⟨by kernel_rfl, fun w _ => by kernel_rfl⟩) hS ?_
  refine wpAnyH_take (i := 4) (v := .bool true) rfl (by kernel_rfl) (by kernel_rfl) (by kernel_rfl) (fun _ _ _ h => h) (Or.inl ⟨by kernel_rfl, fun w _ => by kernel_rfl⟩) hS ?_
  refine wpAnyH_take (i := 5) (v := .bool true) rfl (by kernel_rfl) (by kernel_rfl) (by kernel_rfl) (fun _ _ _ h => h) (Or.inl ⟨by kernel_rfl, fun w _ => by kernel_rfl⟩) hS ?_
  refine wpAnyH_take (i := 6) (v := .bool true) rfl (by kernel_rfl) (by kernel_rfl) (by kernel_rfl) (fun _ _ _ h => h) (Or.inl ⟨by kernel_rfl, fun w _ => by kernel_rfl⟩) hS ?_
  refine wpAnyH_take (i := 7) (v := .int .i64 1) rfl (by kernel_rfl) (by kernel_rfl) (by kernel_rfl) (fun _ _ _ h => h) (Or.inl ⟨by kernel_rfl, fun w _ => by kernel_rfl⟩) hS ?_
  refine wpAnyH_take (i := 8) (v := .bool true) rfl (by kernel_rfl) (by kernel_rfl) (by kernel_rfl) (fun _ _ _ h => h) (Or.inl ⟨by kernel_rfl, fun w _ => by kernel_rfl⟩) hS ?_
  refine wpAnyH_take (i := 9) (v := .bool true) rfl (by kernel_rfl) (by kernel_rfl) (by kernel_rfl) (fun _ _ _ h => h) (Or.inl ⟨by kernel_rfl, fun w _ => by kernel_rfl⟩) hS ?_
  refine wpAnyH_take (i := 10) (v := .bool true) rfl (by kernel_rfl) (by kernel_rfl) (by kernel_rfl) (fun _ _ _ h => h) (Or.inl ⟨by kernel_rfl, fun w _ => by kernel_rfl⟩) hS ?_
  refine wpAnyH_take (i := 11) (v := .int .i64 3) rfl (by kernel_rfl) (by kernel_rfl) (by kernel_rfl) (fun _ _ _ h => h) (Or.inl ⟨by kernel_rfl, fun w _ => by kernel_rfl⟩) hS ?_
  refine wpAnyH_take (i := 12) (v := .bool true) rfl (by kernel_rfl) (by kernel_rfl) (by kernel_rfl) (fun _ _ _ h => h) (Or.inl ⟨by kernel_rfl, fun w _ => by kernel_rfl⟩) hS ?_
  refine wpAnyH_take (i := 13) (v := .bool true) rfl (by kernel_rfl) (by kernel_rfl) (by kernel_rfl) (fun _ _ _ h => h) (Or.inl ⟨by kernel_rfl, fun w _ => by kernel_rfl⟩) hS ?_
  refine wpAnyH_take (i := 14) (v := .bool true) rfl (by kernel_rfl) (by kernel_rfl) (by kernel_rfl) (fun _ _ _ h => h) (Or.inl ⟨by kernel_rfl, fun w _ => by kernel_rfl⟩) hS ?_
  refine wpAnyH_take (i := 15) (v := .string s1) rfl (by kernel_rfl) (by kernel_rfl) (by kernel_rfl) (fun _ _ _ h => h) (Or.inl ⟨by kernel_rfl, fun w _ => by kernel_rfl⟩) hS ?_
  refine wpAnyH_take (i := 16) (v := .int .i64 (s1.size : Int)) rfl (by kernel_rfl) (by kernel_rfl) (by kernel_rfl) (fun _ _ _ h => h) (Or.inl ⟨by kernel_rfl, fun w _ => by kernel_rfl⟩) hS ?_
  refine wpAnyH_take (i := 17) (v := .bool true) rfl (by kernel_rfl) (by kernel_rfl) (by kernel_rfl) (fun _ _ _ h => h) (Or.inl ⟨by kernel_rfl, fun w _ => Eq.trans (b := .ok (.value (.bool ((s1.size : Int) == 34))) w) (by kernel_rfl) (by rw [hq])⟩) hS ?_
  refine wpAnyH_take (i := 18) (v := .bool true) rfl (by kernel_rfl) (by kernel_rfl) (by kernel_rfl) (fun _ _ _ h => h) (Or.inl ⟨by kernel_rfl, fun w _ => by kernel_rfl⟩) hS ?_
  refine wpAnyH_take (i := 19) (v := .bool true) rfl (by kernel_rfl) (by kernel_rfl) (by kernel_rfl) (fun _ _ _ h => h) (Or.inl ⟨by kernel_rfl, fun w _ => by kernel_rfl⟩) hS ?_
  refine wpAnyH_take (i := 20) (v := stV sh (.slice a3 sh.tab.length c3)) rfl (by kernel_rfl) (by kernel_rfl) (by kernel_rfl) (fun _ _ _ h => h) (y_load25 (by kernel_rfl) rfl sb (by kernel_rfl) (fun W h => HS9.out.keep h (Nat.le_of_ble_eq_true rfl))) hS ?_
  refine wpAnyH_ready (rs := [21]) (by kernel_rfl) (by simp) ?_
  refine AllReadyH.wrp rfl (by kernel_rfl) (fun K hK => ?_) (AllReadyH.nil)
  refine h_call ?_
  go_simp
  refine (HSH.out _).mono ?_
  rintro y x1 ⟨a5, c5, h5, rfl, hb⟩
  go_simp
  refine hK.out _ _ (hS.trans hb) (fun hS => ?_)
  clear hK K
  clear hb
  refine wpAnyH_ready (rs := [22]) (by kernel_rfl) (by simp) ?_
  refine AllReadyH.wrp rfl (by kernel_rfl) (fun K hK => ?_) (AllReadyH.nil)
  refine h_call ?_
  go_simp
  refine (HSM.out _ _ _ (HT9.out.keep hS) h5).mono ?_
  rintro y x2 ⟨rfl, hb⟩
  go_simp
  refine hK.out _ _ (hS.trans hb) (fun hS => ?_)
  clear hK K
  clear hb
  refine wpAnyH_ready (rs := [23]) (by kernel_rfl) (by simp) ?_
  refine AllReadyH.wrp rfl (by kernel_rfl) (fun K hK => ?_) (AllReadyH.nil)
  refine h_call ?_
  go_simp
  refine hK.out _ _ hS (fun hS => ?_)
  clear hK K
  refine wpAnyH_take (i := 24) (v := .bool true) rfl (by kernel_rfl) (by kernel_rfl) (by kernel_rfl) (fun _ _ _ h => h) (Or.inl ⟨by kernel_rfl, fun w _ => by kernel_rfl⟩) hS ?_
  refine wpAnyH_done (by kernel_rfl) ?_ _
  go_wp2_with fail
  go_ret
  exact ⟨rfl, HK9.out.trans hS⟩
end Go.Proofs.Yteabfjpajgakiad

/- SnapWrites: the walk. -/
set_option linter.unusedSimpArgs false
set_option linter.unusedVariables false
set_option maxRecDepth 10000
namespace Go.Proofs.Yteabfjpajgakiad
open Go.RowKit

set_option maxHeartbeats 4000000 in
theorem snap_writes (s : St) (l : List UInt8) (x : Value) (w : World) (hX : TabAt w x s.tab) : Calls Try.prog 3 #[stV s x, .string (bt l)] w fun e w' => e = .returned (.bool true) ∧ Keeps w w' := by
  obtain ⟨xa, xc, rfl, _⟩ := hX.len
  have HX : Hid (TabAt w (.slice xa s.tab.length xc) s.tab) := hX
  clear hX
  have HW1 : Hid (∀ W, Keeps w W → Calls Try.prog 9 #[stV s (.slice xa s.tab.length xc)] W fun y w' => y = .returned (.tuple #[.string (bt (snBs s)), .int .i64 (stErr s)]) ∧ Keeps W w') := fun W hk => snap_write s _ W (HX.out.keep hk)
  have HSE : Hid (∀ W, Keeps w W → Calls Try.prog 10 #[stV s (.slice xa s.tab.length xc)] W fun y w' => y = .returned (.int .i64 (stErr s)) ∧ Keeps W w') := fun W hk => state_error s _ W (HX.out.keep hk)
  have HSB : Hid (stErr s = 0 → ∀ W, Keeps w W → Calls Try.prog 11 #[stV s (.slice xa s.tab.length xc)] W fun y w' => y = .returned (.string (bt (snBs s))) ∧ Keeps W w') := fun h W hk => by
    rw [show snBs s = stBs s from if_pos (by rw [h]; rfl)]
    exact state_bytes s _ W (HX.out.keep hk) h
  have HSN : Hid ((stErr s == 0) = false → bt (snBs s) = ⟨#[]⟩) := fun h => by
    rw [show snBs s = [] from if_neg (by rw [h]; decide)]
    rfl
  have HR : Hid (∀ W, Calls Try.prog 12 #[.string (bt l)] W fun y w' => ∃ a c, TabAt w' (.slice a (rdS l).tab.length c) (rdS l).tab ∧ y = .returned (.tuple #[stV (rdS l) (.slice a (rdS l).tab.length c), .int .i64 (rdE l)]) ∧ Keeps W w') := fun W => by
    refine (snap_read l W).mono ?_
    rintro y w' ⟨a, c, h1, h2, h3⟩
    exact ⟨a, c, h1.tab, h2, h3⟩
  have HF : Hid (∀ W, Calls Try.prog 15 #[.string (bt l)] W fun y w' => ∃ a c, TabAt w' (.slice a ((snOf l).getD z7).tab.length c) ((snOf l).getD z7).tab ∧ y = .returned (.tuple #[stV ((snOf l).getD z7) (.slice a ((snOf l).getD z7).tab.length c), .bool (snOf l).isSome]) ∧ Keeps W w') := fun W => state_from l W
  have HA : Hid (l.length ≤ 4096 → (snOf l).getD z7 = rdS l ∧ rdE l = if (snOf l).isSome then 0 else 1) := fun h => by
    unfold rdS rdE
    rw [if_pos h, if_pos h]
    exact ⟨rfl, rfl⟩
  have HB : Hid (¬ l.length ≤ 4096 → rdS l = z7 ∧ rdE l = 2) := fun h => by
    unfold rdS rdE
    rw [if_neg h, if_neg h]
    exact ⟨rfl, rfl⟩
  have HSM : Hid (∀ v u W, TabAt W v (rdS l).tab → TabAt W u (rdS l).tab → Calls Try.prog 14 #[stV (rdS l) v, stV (rdS l) u] W fun e w' => e = .returned (.bool true) ∧ Keeps W w') := fun v u W h h' => by
    have := same_of (rdS l) (rdS l) v u W h h'
    rw [same_self] at this
    exact this
  generalize rdS l = t at *
  generalize rdE l = re at *
  generalize (snOf l).getD z7 = t2 at *
  generalize (snOf l).isSome = is at *
  generalize bt (snBs s) = bs at *
  generalize stErr s = es at *
  go_enter Try.func3, Try.ntmps3
  go_wp2_with (first | (refine box25 rfl rfl (s := s) (p := .slice xa s.tab.length xc) rfl ?_; intro w1 xb hBx hkx hlx hgx) | (refine load25 rfl rfl xb rfl hBx ?_))
  refine (HW1.out w1 hkx).mono ?_
  rintro e w2 ⟨rfl, hb⟩
  have HK2 : Hid (Keeps w w2) := hkx.trans hb
  have HB2 : Hid (CBox xb (C7 s (.slice xa s.tab.length xc)) w2) := hBx.keep hb (Nat.le_of_ble_eq_true rfl)
  clear hb hBx hkx hlx hgx HW1
  go_wp2_with (first | (refine load25 rfl rfl xb rfl HB2.out ?_))
  refine (HSE.out w2 HK2.out).mono ?_
  rintro e w3 ⟨rfl, hb⟩
  have HK3' : Hid (Keeps w w3) := HK2.out.trans hb
  have HB3 : Hid (CBox xb (C7 s (.slice xa s.tab.length xc)) w3) := HB2.out.keep hb (Nat.le_of_ble_eq_true rfl)
  clear hb HK2 HB2 HSE
  cases qs : (es == 0) with
  | false =>
    have e0 := HSN.out qs
    clear HSN HSB
    subst e0
    go_wp2_with fail
    refine (HR.out w3).mono ?_
    rintro e u3 ⟨ya, yc, hT, rfl, hb⟩
    have HK3 : Hid (Keeps w u3) := HK3'.out.trans hb
    have HT3 : Hid (TabAt u3 (.slice ya t.tab.length yc) t.tab) := hT
    clear hb hT HR
    have hs := bt_size l
    by_cases h4 : l.length ≤ 4096
    · obtain ⟨e1, e2⟩ := HA.out h4
      have HE2 : Hid (re = if is then 0 else 1) := e2
      have HE1 : Hid (t2 = t) := e1
      clear e1 e2
      have h4i : ¬ ((4096 : Int) < (l.length : Int)) := by omega
      have h4j : (l.length : Int) ≤ 4096 := by omega
      clear HA HB
      go_wp2_with (first | (refine alloc25 rfl rfl ?_; intro u4 yb hBy hky hly hgy) | (refine store25 rfl rfl yb rfl t ya t.tab.length yc rfl hBy ?_; intro u5 hS5 hT5))
      have k35 : Keeps u3 u5 := But.to hky hgy hT5
      have HK5 : Hid (Keeps w u5) := HK3.out.trans k35
      have HT5 : Hid (TabAt u5 (.slice ya t.tab.length yc) t.tab) := HT3.out.keep k35
      have HB5 : Hid (CBox yb (C7 t (.slice ya t.tab.length yc)) u5) := hS5
      clear k35 hBy hky hly hgy hS5 hT5 HK3 HT3
      have HFn := HF.out
      rw [HE1.out] at HFn
      clear HF
      refine (HFn u5).mono ?_
      rintro e u6 ⟨za, zc, hT, rfl, hb⟩
      have HK6 : Hid (Keeps w u6) := HK5.out.trans hb
      have HT6 : Hid (TabAt u6 (.slice ya t.tab.length yc) t.tab ∧ TabAt u6 (.slice za t.tab.length zc) t.tab) := ⟨HT5.out.keep hb, hT⟩
      have HB6 : Hid (CBox yb (C7 t (.slice ya t.tab.length yc)) u6) := HB5.out.keep hb (Nat.le_of_ble_eq_true rfl)
      clear hb hT HK5 HT5 HB5 HFn HE1
      cases is with
      | true =>
        have e3 : re = 0 := HE2.out
        subst e3
        clear HE2
        go_wp2_with (first | (refine alloc25 rfl rfl ?_; intro u7 zb hBz hkz hlz hgz) | (refine store25 rfl rfl zb rfl t za t.tab.length zc rfl hBz ?_; intro u8 hS8 hT8))
        have k68 : Keeps u6 u8 := But.to hkz hgz hT8
        have HK8 : Hid (Keeps w u8) := HK6.out.trans k68
        have HT8 : Hid (TabAt u8 (.slice ya t.tab.length yc) t.tab ∧ TabAt u8 (.slice za t.tab.length zc) t.tab) := ⟨HT6.out.1.keep k68, HT6.out.2.keep k68⟩
        have HB8 : Hid (CBox yb (C7 t (.slice ya t.tab.length yc)) u8 ∧ CBox zb (C7 t (.slice za t.tab.length zc)) u8) := ⟨HB6.out.keep k68 (Nat.le_of_ble_eq_true rfl), hS8⟩
        clear k68 hBz hkz hlz hgz hS8 hT8 HK6 HT6 HB6
        refine (snap_begun u8).mono ?_
        rintro e u9 ⟨rfl, hb⟩
        have HK9 : Hid (Keeps w u9) := HK8.out.trans hb
        have HT9 : Hid (TabAt u9 (.slice ya t.tab.length yc) t.tab ∧ TabAt u9 (.slice za t.tab.length zc) t.tab) := ⟨HT8.out.1.keep hb, HT8.out.2.keep hb⟩
        have HB9 : Hid (CBox yb (C7 t (.slice ya t.tab.length yc)) u9 ∧ CBox zb (C7 t (.slice za t.tab.length zc)) u9) := ⟨HB8.out.1.keep hb (Nat.le_of_ble_eq_true rfl), HB8.out.2.keep hb (Nat.le_of_ble_eq_true rfl)⟩
        clear hb HK8 HT8 HB8
        go_wp2_with (first | (refine load25w (by kernel_rfl) rfl yb rfl HB9.out.1 ?_) | (refine load25w (by kernel_rfl) rfl zb rfl HB9.out.2 ?_))
        refine (HSM.out _ _ u9 HT9.out.1 HT9.out.2).mono ?_
        rintro e u10 ⟨rfl, hb⟩
        have HK10 : Hid (Keeps w u10) := HK9.out.trans hb
        clear hb HK9 HT9 HB9
        go_wp2_with fail
        go_ret
        exact ⟨by first | rfl | simp, HK10.out⟩
      | false =>
        have e3 : re = 1 := HE2.out
        subst e3
        clear HE2
        go_wp2_with (first | (refine alloc25 rfl rfl ?_; intro u7 zb hBz hkz hlz hgz) | (refine store25 rfl rfl zb rfl t za t.tab.length zc rfl hBz ?_; intro u8 hS8 hT8))
        have k68 : Keeps u6 u8 := But.to hkz hgz hT8
        have HK8 : Hid (Keeps w u8) := HK6.out.trans k68
        have HT8 : Hid (TabAt u8 (.slice ya t.tab.length yc) t.tab ∧ TabAt u8 (.slice za t.tab.length zc) t.tab) := ⟨HT6.out.1.keep k68, HT6.out.2.keep k68⟩
        have HB8 : Hid (CBox yb (C7 t (.slice ya t.tab.length yc)) u8 ∧ CBox zb (C7 t (.slice za t.tab.length zc)) u8) := ⟨HB6.out.keep k68 (Nat.le_of_ble_eq_true rfl), hS8⟩
        clear k68 hBz hkz hlz hgz hS8 hT8 HK6 HT6 HB6
        refine (snap_begun u8).mono ?_
        rintro e u9 ⟨rfl, hb⟩
        have HK9 : Hid (Keeps w u9) := HK8.out.trans hb
        have HT9 : Hid (TabAt u9 (.slice ya t.tab.length yc) t.tab ∧ TabAt u9 (.slice za t.tab.length zc) t.tab) := ⟨HT8.out.1.keep hb, HT8.out.2.keep hb⟩
        have HB9 : Hid (CBox yb (C7 t (.slice ya t.tab.length yc)) u9 ∧ CBox zb (C7 t (.slice za t.tab.length zc)) u9) := ⟨HB8.out.1.keep hb (Nat.le_of_ble_eq_true rfl), HB8.out.2.keep hb (Nat.le_of_ble_eq_true rfl)⟩
        clear hb HK8 HT8 HB8
        go_wp2_with (first | (refine load25w (by kernel_rfl) rfl yb rfl HB9.out.1 ?_) | (refine load25w (by kernel_rfl) rfl zb rfl HB9.out.2 ?_))
        refine (HSM.out _ _ u9 HT9.out.1 HT9.out.2).mono ?_
        rintro e u10 ⟨rfl, hb⟩
        have HK10 : Hid (Keeps w u10) := HK9.out.trans hb
        clear hb HK9 HT9 HB9
        go_wp2_with fail
        go_ret
        exact ⟨by first | rfl | simp, HK10.out⟩
    · obtain ⟨e1, e2⟩ := HB.out h4
      have h4i : (4096 : Int) < (l.length : Int) := by omega
      have h4j : ¬ ((l.length : Int) ≤ 4096) := by omega
      clear HA HB HF
      subst e1 e2
      go_wp2_with (first | (refine alloc25 rfl rfl ?_; intro u4 yb hBy hky hly hgy) | (refine store25 rfl rfl yb rfl z7 ya z7.tab.length yc rfl hBy ?_; intro u5 hS5 hT5))
      have k35 : Keeps u3 u5 := But.to hky hgy hT5
      have HK5 : Hid (Keeps w u5) := HK3.out.trans k35
      have HT5 : Hid (TabAt u5 (.slice ya z7.tab.length yc) z7.tab) := HT3.out.keep k35
      have HB5 : Hid (CBox yb (C7 z7 (.slice ya z7.tab.length yc)) u5) := hS5
      clear k35 hBy hky hly hgy hS5 hT5 HK3 HT3
      refine (snap_begun u5).mono ?_
      rintro e u9 ⟨rfl, hb⟩
      have HK9 : Hid (Keeps w u9) := HK5.out.trans hb
      have HT9 : Hid (TabAt u9 (.slice ya z7.tab.length yc) z7.tab) := HT5.out.keep hb
      have HB9 : Hid (CBox yb (C7 z7 (.slice ya z7.tab.length yc)) u9) := HB5.out.keep hb (Nat.le_of_ble_eq_true rfl)
      clear hb HK5 HT5 HB5
      go_wp2_with (first | (refine load25w (by kernel_rfl) rfl yb rfl HB9.out ?_))
      refine (HSM.out _ (.slice none 0 0) u9 HT9.out (OwnTab.nil 0 _).tab).mono ?_
      rintro e u10 ⟨rfl, hb⟩
      have HK10 : Hid (Keeps w u10) := HK9.out.trans hb
      clear hb HK9 HT9 HB9
      go_wp2_with fail
      go_ret
      exact ⟨by first | rfl | simp, HK10.out⟩
  | true =>
    have s0 : es = 0 := by simpa using qs
    have HS1 := HSB.out s0
    have HSn : Hid (∀ W, Keeps w W → Calls Try.prog 11 #[stV s (.slice xa s.tab.length xc)] W fun y w' => y = .returned (.string bs) ∧ Keeps W w') := HS1
    clear HSB HSN HS1
    subst s0
    go_wp2_with (first | (refine load25 rfl rfl xb rfl HB3.out ?_))
    refine (HSn.out w3 HK3'.out).mono ?_
    rintro e w4 ⟨rfl, hb⟩
    have HK4' : Hid (Keeps w w4) := HK3'.out.trans hb
    clear hb HK3' HB3 HSn
    go_wp2_with fail
    refine (HR.out w4).mono ?_
    rintro e u3 ⟨ya, yc, hT, rfl, hb⟩
    have HK3 : Hid (Keeps w u3) := HK4'.out.trans hb
    have HT3 : Hid (TabAt u3 (.slice ya t.tab.length yc) t.tab) := hT
    clear hb hT HR
    have hs := bt_size l
    by_cases h4 : l.length ≤ 4096
    · obtain ⟨e1, e2⟩ := HA.out h4
      have HE2 : Hid (re = if is then 0 else 1) := e2
      have HE1 : Hid (t2 = t) := e1
      clear e1 e2
      have h4i : ¬ ((4096 : Int) < (l.length : Int)) := by omega
      have h4j : (l.length : Int) ≤ 4096 := by omega
      clear HA HB
      go_wp2_with (first | (refine alloc25 rfl rfl ?_; intro u4 yb hBy hky hly hgy) | (refine store25 rfl rfl yb rfl t ya t.tab.length yc rfl hBy ?_; intro u5 hS5 hT5))
      have k35 : Keeps u3 u5 := But.to hky hgy hT5
      have HK5 : Hid (Keeps w u5) := HK3.out.trans k35
      have HT5 : Hid (TabAt u5 (.slice ya t.tab.length yc) t.tab) := HT3.out.keep k35
      have HB5 : Hid (CBox yb (C7 t (.slice ya t.tab.length yc)) u5) := hS5
      clear k35 hBy hky hly hgy hS5 hT5 HK3 HT3
      have HFn := HF.out
      rw [HE1.out] at HFn
      clear HF
      refine (HFn u5).mono ?_
      rintro e u6 ⟨za, zc, hT, rfl, hb⟩
      have HK6 : Hid (Keeps w u6) := HK5.out.trans hb
      have HT6 : Hid (TabAt u6 (.slice ya t.tab.length yc) t.tab ∧ TabAt u6 (.slice za t.tab.length zc) t.tab) := ⟨HT5.out.keep hb, hT⟩
      have HB6 : Hid (CBox yb (C7 t (.slice ya t.tab.length yc)) u6) := HB5.out.keep hb (Nat.le_of_ble_eq_true rfl)
      clear hb hT HK5 HT5 HB5 HFn HE1
      cases is with
      | true =>
        have e3 : re = 0 := HE2.out
        subst e3
        clear HE2
        go_wp2_with (first | (refine alloc25 rfl rfl ?_; intro u7 zb hBz hkz hlz hgz) | (refine store25 rfl rfl zb rfl t za t.tab.length zc rfl hBz ?_; intro u8 hS8 hT8))
        have k68 : Keeps u6 u8 := But.to hkz hgz hT8
        have HK8 : Hid (Keeps w u8) := HK6.out.trans k68
        have HT8 : Hid (TabAt u8 (.slice ya t.tab.length yc) t.tab ∧ TabAt u8 (.slice za t.tab.length zc) t.tab) := ⟨HT6.out.1.keep k68, HT6.out.2.keep k68⟩
        have HB8 : Hid (CBox yb (C7 t (.slice ya t.tab.length yc)) u8 ∧ CBox zb (C7 t (.slice za t.tab.length zc)) u8) := ⟨HB6.out.keep k68 (Nat.le_of_ble_eq_true rfl), hS8⟩
        clear k68 hBz hkz hlz hgz hS8 hT8 HK6 HT6 HB6
        refine (snap_begun u8).mono ?_
        rintro e u9 ⟨rfl, hb⟩
        have HK9 : Hid (Keeps w u9) := HK8.out.trans hb
        have HT9 : Hid (TabAt u9 (.slice ya t.tab.length yc) t.tab ∧ TabAt u9 (.slice za t.tab.length zc) t.tab) := ⟨HT8.out.1.keep hb, HT8.out.2.keep hb⟩
        have HB9 : Hid (CBox yb (C7 t (.slice ya t.tab.length yc)) u9 ∧ CBox zb (C7 t (.slice za t.tab.length zc)) u9) := ⟨HB8.out.1.keep hb (Nat.le_of_ble_eq_true rfl), HB8.out.2.keep hb (Nat.le_of_ble_eq_true rfl)⟩
        clear hb HK8 HT8 HB8
        go_wp2_with (first | (refine load25w (by kernel_rfl) rfl yb rfl HB9.out.1 ?_) | (refine load25w (by kernel_rfl) rfl zb rfl HB9.out.2 ?_))
        refine (HSM.out _ _ u9 HT9.out.1 HT9.out.2).mono ?_
        rintro e u10 ⟨rfl, hb⟩
        have HK10 : Hid (Keeps w u10) := HK9.out.trans hb
        clear hb HK9 HT9 HB9
        go_wp2_with fail
        go_ret
        exact ⟨by first | rfl | simp, HK10.out⟩
      | false =>
        have e3 : re = 1 := HE2.out
        subst e3
        clear HE2
        go_wp2_with (first | (refine alloc25 rfl rfl ?_; intro u7 zb hBz hkz hlz hgz) | (refine store25 rfl rfl zb rfl t za t.tab.length zc rfl hBz ?_; intro u8 hS8 hT8))
        have k68 : Keeps u6 u8 := But.to hkz hgz hT8
        have HK8 : Hid (Keeps w u8) := HK6.out.trans k68
        have HT8 : Hid (TabAt u8 (.slice ya t.tab.length yc) t.tab ∧ TabAt u8 (.slice za t.tab.length zc) t.tab) := ⟨HT6.out.1.keep k68, HT6.out.2.keep k68⟩
        have HB8 : Hid (CBox yb (C7 t (.slice ya t.tab.length yc)) u8 ∧ CBox zb (C7 t (.slice za t.tab.length zc)) u8) := ⟨HB6.out.keep k68 (Nat.le_of_ble_eq_true rfl), hS8⟩
        clear k68 hBz hkz hlz hgz hS8 hT8 HK6 HT6 HB6
        refine (snap_begun u8).mono ?_
        rintro e u9 ⟨rfl, hb⟩
        have HK9 : Hid (Keeps w u9) := HK8.out.trans hb
        have HT9 : Hid (TabAt u9 (.slice ya t.tab.length yc) t.tab ∧ TabAt u9 (.slice za t.tab.length zc) t.tab) := ⟨HT8.out.1.keep hb, HT8.out.2.keep hb⟩
        have HB9 : Hid (CBox yb (C7 t (.slice ya t.tab.length yc)) u9 ∧ CBox zb (C7 t (.slice za t.tab.length zc)) u9) := ⟨HB8.out.1.keep hb (Nat.le_of_ble_eq_true rfl), HB8.out.2.keep hb (Nat.le_of_ble_eq_true rfl)⟩
        clear hb HK8 HT8 HB8
        go_wp2_with (first | (refine load25w (by kernel_rfl) rfl yb rfl HB9.out.1 ?_) | (refine load25w (by kernel_rfl) rfl zb rfl HB9.out.2 ?_))
        refine (HSM.out _ _ u9 HT9.out.1 HT9.out.2).mono ?_
        rintro e u10 ⟨rfl, hb⟩
        have HK10 : Hid (Keeps w u10) := HK9.out.trans hb
        clear hb HK9 HT9 HB9
        go_wp2_with fail
        go_ret
        exact ⟨by first | rfl | simp, HK10.out⟩
    · obtain ⟨e1, e2⟩ := HB.out h4
      have h4i : (4096 : Int) < (l.length : Int) := by omega
      have h4j : ¬ ((l.length : Int) ≤ 4096) := by omega
      clear HA HB HF
      subst e1 e2
      go_wp2_with (first | (refine alloc25 rfl rfl ?_; intro u4 yb hBy hky hly hgy) | (refine store25 rfl rfl yb rfl z7 ya z7.tab.length yc rfl hBy ?_; intro u5 hS5 hT5))
      have k35 : Keeps u3 u5 := But.to hky hgy hT5
      have HK5 : Hid (Keeps w u5) := HK3.out.trans k35
      have HT5 : Hid (TabAt u5 (.slice ya z7.tab.length yc) z7.tab) := HT3.out.keep k35
      have HB5 : Hid (CBox yb (C7 z7 (.slice ya z7.tab.length yc)) u5) := hS5
      clear k35 hBy hky hly hgy hS5 hT5 HK3 HT3
      refine (snap_begun u5).mono ?_
      rintro e u9 ⟨rfl, hb⟩
      have HK9 : Hid (Keeps w u9) := HK5.out.trans hb
      have HT9 : Hid (TabAt u9 (.slice ya z7.tab.length yc) z7.tab) := HT5.out.keep hb
      have HB9 : Hid (CBox yb (C7 z7 (.slice ya z7.tab.length yc)) u9) := HB5.out.keep hb (Nat.le_of_ble_eq_true rfl)
      clear hb HK5 HT5 HB5
      go_wp2_with (first | (refine load25w (by kernel_rfl) rfl yb rfl HB9.out ?_))
      refine (HSM.out _ (.slice none 0 0) u9 HT9.out (OwnTab.nil 0 _).tab).mono ?_
      rintro e u10 ⟨rfl, hb⟩
      have HK10 : Hid (Keeps w u10) := HK9.out.trans hb
      clear hb HK9 HT9 HB9
      go_wp2_with fail
      go_ret
      exact ⟨by first | rfl | simp, HK10.out⟩
end Go.Proofs.Yteabfjpajgakiad
