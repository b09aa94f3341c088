/- ApB, ApC, ApD, ApD2, ApF, ApF2. -/
import Derived.Deep.RegionHeld3
import Derived.Deep.DeepCutAuto
import Derived.Laws.IdiomCopy
import Derived.Deep.RegionLaw
import Derived.Lib.AppendZerosOnto
import Derived.Lib.Overlaps
import Derived.Laws.Externs
import Derived.Test.YteabfjpajgakiabJ02
import Derived.Test.YteabfjpajgakiabJ04
/- Applying: checkBoth, the machine's tick. -/
set_option linter.unusedSimpArgs false
set_option linter.unusedVariables false
set_option maxRecDepth 10000
namespace Go.Proofs.Yteabfjpajgakiab
open Go.RowKit

def bothErr (s : St) (e : Ent) : Int := if stErr s == 0 then (if entErr e == 0 then (if s.at_ == 50 then 2 else 0) else entErr e) else stErr s

set_option maxHeartbeats 1000000 in
theorem check_both (s : St) (e : Ent) (x : Value) (w : World) (hT : TabAt w x s.tab) : Calls Try.prog 38 #[stV s x, entV e] w fun y w' => y = .returned (.int .i64 (bothErr s e)) ∧ Keeps w w' := by
  obtain ⟨a, c, rfl, _⟩ := hT.len
  have C1 : Hid (∀ W, Keeps w W → Calls Try.prog 10 #[stV s (.slice a s.tab.length c)] W fun e w' => e = .returned (.int .i64 (stErr s)) ∧ Keeps W w') := fun W hk => state_check s _ W (hT.keep hk)
  clear hT
  have HE : Hid (bothErr s e = if stErr s == 0 then (if entErr e == 0 then (if s.at_ == 50 then 2 else 0) else entErr e) else stErr s) := rfl
  generalize stErr s = se at *
  generalize s.tab.length = n at *
  go_enter Try.func38, Try.ntmps38
  go_wp2_with fail
  refine (C1.out _ (((Keeps.refl _).alloc _).alloc _)).mono ?_
  rintro y w1 ⟨rfl, hb⟩
  clear C1
  have hk1 : Keeps w w1 := (((Keeps.refl _).alloc _).alloc _).trans hb
  cases q1 : (se == 0) with
  | false =>
    have q1' : (se != 0) = true := by simp [bne, q1]
    have HE : Hid (bothErr s e = se) := by show _ = _; rw [HE.out, q1]; rfl
    clear hb
    go_wp2_with fail
    go_ret
    exact ⟨ret_int HE.out.symm, hk1⟩
  | true =>
    have q1' : (se != 0) = false := by simp [bne, q1]
    have z0 : w1.cell? ⟨w.heap.size, 0, none⟩ = some (.int .i64 s.at_) := cell_kept (by simp [go_sem]) hb
    have x0 : w1.cell? ⟨w.heap.size + 1, 0, none⟩ = some (.int .i64 e.kind) := cell_kept (by simp [go_sem]) hb
    have x1 : w1.cell? ⟨w.heap.size + 1, 1, none⟩ = some (.int .i64 e.time) := cell_kept (by simp [go_sem]) hb
    have x2 : w1.cell? ⟨w.heap.size + 1, 2, none⟩ = some (.int .i64 e.client) := cell_kept (by simp [go_sem]) hb
    have x3 : w1.cell? ⟨w.heap.size + 1, 3, none⟩ = some (.int .i64 e.seq) := cell_kept (by simp [go_sem]) hb
    have x4 : w1.cell? ⟨w.heap.size + 1, 4, none⟩ = some (.int .i64 e.ack) := cell_kept (by simp [go_sem]) hb
    have x5 : w1.cell? ⟨w.heap.size + 1, 5, none⟩ = some (.int .i64 e.ok) := cell_kept (by simp [go_sem]) hb
    have x6 : w1.cell? ⟨w.heap.size + 1, 6, none⟩ = some (.int .i64 e.okey) := cell_kept (by simp [go_sem]) hb
    have x7 : w1.cell? ⟨w.heap.size + 1, 7, none⟩ = some (.int .i64 e.oto) := cell_kept (by simp [go_sem]) hb
    have x8 : w1.cell? ⟨w.heap.size + 1, 8, none⟩ = some (.int .i64 e.on) := cell_kept (by simp [go_sem]) hb
    have hlt := World.block_lt_of_cell? _ _ x8
    simp only [] at hlt
    clear hb
    go_wp2_with fail
    refine (ent_check e _).mono ?_
    rintro y w2 ⟨rfl, hb⟩
    have hk2 : Keeps w w2 := hk1.trans hb
    have z0 := cell_kept z0 hb
    have hlt := Nat.lt_of_lt_of_le hlt hb.size
    clear hb x0 x1 x2 x3 x4 x5 x6 x7 x8
    cases q2 : (entErr e == 0) with
    | false =>
      have q2' : (entErr e != 0) = true := by simp [bne, q2]
      have HE : Hid (bothErr s e = entErr e) := by show _ = _; rw [HE.out, q1, q2]; rfl
      go_wp2_with fail
      go_ret
      exact ⟨ret_int HE.out.symm, hk2⟩
    | true =>
      have q2' : (entErr e != 0) = false := by simp [bne, q2]
      cases q3 : (s.at_ == 50) with
      | false =>
        have HE : Hid (bothErr s e = 0) := by show _ = _; rw [HE.out, q1, q2, q3]; rfl
        go_wp2_with fail
        go_ret
        exact ⟨ret_int HE.out.symm, hk2⟩
      | true =>
        have HE : Hid (bothErr s e = 2) := by show _ = _; rw [HE.out, q1, q2, q3]; rfl
        go_wp2_with fail
        go_ret
        exact ⟨ret_int HE.out.symm, hk2⟩

/-- The state that the machine has, in its box. -/
structure StBox (b : Nat) (s : St) (t : Value) (w : World) : Prop where
  c0 : w.cell? ⟨b, 0, none⟩ = some (.int .i64 s.at_)
  c1 : w.cell? ⟨b, 1, none⟩ = some (.int .i64 s.clock)
  c2 : w.cell? ⟨b, 2, none⟩ = some (.int .i64 s.v0)
  c3 : w.cell? ⟨b, 3, none⟩ = some (.int .i64 s.v1)
  c4 : w.cell? ⟨b, 4, none⟩ = some (.int .i64 s.v2)
  c5 : w.cell? ⟨b, 5, none⟩ = some (.int .i64 s.v3)
  c6 : w.cell? ⟨b, 6, none⟩ = some t
  fz : ∀ i, w.frozen? ⟨b, i, none⟩ = false

theorem StBox.lt {b : Nat} {s : St} {t : Value} {w : World} (h : StBox b s t w) : b < w.heap.size := World.block_lt_of_cell? _ _ h.c0
theorem StBox.keep {b : Nat} {s : St} {t : Value} {w w' : World} (h : StBox b s t w) (hk : Keeps w w') : StBox b s t w' :=
  ⟨cell_kept h.c0 hk, cell_kept h.c1 hk, cell_kept h.c2 hk, cell_kept h.c3 hk, cell_kept h.c4 hk, cell_kept h.c5 hk, cell_kept h.c6 hk, fun i => (Below.frozen hk (p := ⟨b, i, none⟩) h.lt).trans (h.fz i)⟩
theorem StBox.other {b b' : Nat} {s : St} {t : Value} {w w' : World} (h : StBox b s t w) (hk : But b' w w') (hb : b ≠ b') : StBox b s t w' :=
  ⟨hk.at h.c0 hb, hk.at h.c1 hb, hk.at h.c2 hb, hk.at h.c3 hb, hk.at h.c4 hb, hk.at h.c5 hb, hk.at h.c6 hb, fun i => (hk.frozen (p := ⟨b, i, none⟩) h.lt hb).trans (h.fz i)⟩
theorem StBox.set {b : Nat} {s s' : St} {t t' : Value} {w : World} (h : StBox b s t w) (i : Nat) (u : Value)
    (h0 : .int .i64 s'.at_ = if i = 0 then u else .int .i64 s.at_) (h1 : .int .i64 s'.clock = if i = 1 then u else .int .i64 s.clock) (h2 : .int .i64 s'.v0 = if i = 2 then u else .int .i64 s.v0) (h3 : .int .i64 s'.v1 = if i = 3 then u else .int .i64 s.v1)
    (h4 : .int .i64 s'.v2 = if i = 4 then u else .int .i64 s.v2) (h5 : .int .i64 s'.v3 = if i = 5 then u else .int .i64 s.v3) (h6 : t' = if i = 6 then u else t) : StBox b s' t' (w.setCell ⟨b, i, none⟩ u) := by
  have go : ∀ j x y, w.cell? ⟨b, j, none⟩ = some x → y = (if i = j then u else x) → (w.setCell ⟨b, i, none⟩ u).cell? ⟨b, j, none⟩ = some y := fun j x y hx hy => by
    by_cases hij : i = j
    · subst hij
      rw [if_pos rfl] at hy
      subst hy
      exact World.cell?_setCell_same _ _ _ hx
    · rw [if_neg hij] at hy
      subst hy
      rw [World.cell?_setCell_other _ _ _ _ (by intro e; injection e with _ e _; exact hij e)]
      exact hx
  exact ⟨go _ _ _ h.c0 h0, go _ _ _ h.c1 h1, go _ _ _ h.c2 h2, go _ _ _ h.c3 h3, go _ _ _ h.c4 h4, go _ _ _ h.c5 h5, go _ _ _ h.c6 h6, fun j => (World.frozen?_setCell _ _ _ _).trans (h.fz j)⟩

theorem StBox.set_at {b : Nat} {s : St} {t : Value} {w : World} (h : StBox b s t w) (n : Int) : StBox b { s with at_ := n } t (w.setCell ⟨b, 0, none⟩ (.int .i64 n)) := h.set (s' := { s with at_ := n }) (t' := t) 0 _ rfl rfl rfl rfl rfl rfl rfl
theorem StBox.set_clock {b : Nat} {s : St} {t : Value} {w : World} (h : StBox b s t w) (n : Int) : StBox b { s with clock := n } t (w.setCell ⟨b, 1, none⟩ (.int .i64 n)) := h.set (s' := { s with clock := n }) (t' := t) 1 _ rfl rfl rfl rfl rfl rfl rfl
theorem StBox.set_tab {b : Nat} {s : St} {t : Value} {w : World} (h : StBox b s t w) (L : List Ses) (u : Value) : StBox b { s with tab := L } u (w.setCell ⟨b, 6, none⟩ u) := h.set (s' := { s with tab := L }) (t' := u) 6 _ rfl rfl rfl rfl rfl rfl rfl

theorem StBox.clock_drew {b : Nat} {s : St} {t : Value} {w : World} (h : StBox b s t w) (n m : Int) (e : n = m) : StBox b { s with clock := m } t (w.setCell ⟨b, 1, none⟩ (.int .i64 n)).drew := by
  subst e
  exact (h.set_clock n).keep (Keeps.refl _).drew

abbrev macV (b : Nat) : Value := .agg #[.pointer (some ⟨b, 0, none⟩)]

def ticked (s : St) (time : Int) : St := ⟨s.at_ + 1, max s.clock time, s.v0, s.v1, s.v2, s.v3, freshTab s.tab (max s.clock time)⟩

theorem stErr_in {s : St} (h : stErr s = 0) : stIn s = true ∧ tabErr s.tab = 0 ∧ seenAll s.clock s.tab = true := by
  unfold stErr at h
  split at h
  · rename_i h1
    split at h
    · rename_i h2
      split at h
      · rename_i h3
        exact ⟨h1, by simpa using h2, h3⟩
      · cases h
    · rename_i h2
      simp [h] at h2
  · cases h

theorem stErr_bounds {s : St} (h : stErr s = 0) : (0 ≤ s.at_ ∧ s.at_ ≤ 50) ∧ (0 ≤ s.clock ∧ s.clock ≤ 999) := by
  have h1 := (stErr_in h).1
  simp only [stIn, Bool.and_eq_true] at h1
  exact ⟨inB_iff.1 h1.2.1, inB_iff.1 h1.2.2⟩

set_option maxHeartbeats 4000000 in
theorem tick_c (s : St) (b : Nat) (x : Value) (time : Int) (w : World) (hB : StBox b s x w) (hT : TabFar b w x s.tab) (hs : stErr s = 0) (ht0 : 0 ≤ time) (ht1 : time ≤ 999) :
    Calls Try.prog 39 #[macV b, .int .i64 time] w fun y w' => y = .returned (.tuple #[]) ∧ ∃ x', StBox b (ticked s time) x' w' ∧ OwnTab w.heap.size w' x' (ticked s time).tab ∧ But b w w' := by
  have hbl := hB.lt
  obtain ⟨⟨ha0, ha1⟩, hc0, hc1⟩ := stErr_bounds hs
  obtain ⟨xa, xc, rfl, _⟩ := hT.tab.len
  go_enter Try.func39, Try.ntmps39
  have c0 := hB.c0
  have hfz := hB.fz
  go_wp2_with fail
  have B1 : StBox b ⟨s.at_ + 1, s.clock, s.v0, s.v1, s.v2, s.v3, s.tab⟩ (.slice xa s.tab.length xc) ((w.setCell ⟨b, 0, none⟩ (.int .i64 (s.at_ + 1))).alloc (.cells #[.pointer (some ⟨b, 0, none⟩)] 62)) := (hB.set_at _).keep ((Keeps.refl _).alloc _)
  have m1 : ((w.setCell ⟨b, 0, none⟩ (.int .i64 (s.at_ + 1))).alloc (.cells #[.pointer (some ⟨b, 0, none⟩)] 62)).cell? ⟨w.heap.size, 0, none⟩ = some (.pointer (some ⟨b, 0, none⟩)) := by simp [go_sem]
  have k1 : But b w ((w.setCell ⟨b, 0, none⟩ (.int .i64 (s.at_ + 1))).alloc (.cells #[.pointer (some ⟨b, 0, none⟩)] 62)) := ((But.refl _ _).set 0 _).keeps ((Keeps.refl _).alloc _)
  generalize ((w.setCell ⟨b, 0, none⟩ (.int .i64 (s.at_ + 1))).alloc (.cells #[.pointer (some ⟨b, 0, none⟩)] 62)) = w1 at *
  have HB1 : Hid (StBox b ⟨s.at_ + 1, s.clock, s.v0, s.v1, s.v2, s.v3, s.tab⟩ (.slice xa s.tab.length xc) w1) := B1
  have HK1 : Hid (But b w w1) := k1
  have HT : Hid (TabFar b w (.slice xa s.tab.length xc) s.tab) := hT
  clear hB hT c0 hfz B1 k1
  go_cut [20] (fun sl wc => StBox b ⟨s.at_ + 1, max s.clock time, s.v0, s.v1, s.v2, s.v3, s.tab⟩ (.slice xa s.tab.length xc) wc ∧ But b w wc ∧ wc.cell? ⟨w.heap.size, 0, none⟩ = some (.pointer (some ⟨b, 0, none⟩)))
  case first =>
    have c1 := HB1.out.c1
    have hfz := HB1.out.fz
    have hl1 := HB1.out.lt
    have hlm := World.block_lt_of_cell? _ _ m1
    simp only [] at hlm
    go_region
    all_goals go_wp2_with fail
    all_goals go_meet
    all_goals exact ⟨HB1.out.clock_drew _ _ (by omega), (HK1.out.set 1 _).keeps (Keeps.refl _).drew, by simp [go_sem, m1]⟩
  case rest =>
    obtain ⟨hB2, hK2, m2⟩ := hcut
    have hin : inB (max s.clock time) 0 999 = true := inB_iff.2 (by omega)
    have hte := (stErr_in hs).2.1
    have F : Hid (∀ W, TabAt W (.slice xa s.tab.length xc) s.tab → Calls Try.prog 53 #[.slice xa s.tab.length xc, .int .i64 (max s.clock time)] W fun e w' => ∃ va n vc, OwnTab W.heap.size w' (.slice va n vc) (freshTab s.tab (max s.clock time)) ∧ e = .returned (.tuple #[.slice va n vc, .int .i64 0]) ∧ Keeps W w') := fun W hW => by
      have := sess_fresh s.tab _ (max s.clock time) W hW
      have e1 : freshErr s.tab (max s.clock time) = 0 := by simp [freshErr, hte, hin]
      have e2 : frTab s.tab (max s.clock time) = freshTab s.tab (max s.clock time) := by simp [frTab, e1]
      rw [e1, e2] at this
      refine this.mono ?_
      rintro e w' ⟨v', ho, rfl, hk⟩
      obtain ⟨va, vc, rfl, _⟩ := ho.tab.len
      exact ⟨va, _, vc, ho, rfl, hk⟩
    have HT2 : Hid (TabAt wc (.slice xa s.tab.length xc) s.tab) := HT.out wc hK2
    have HB2 : Hid (StBox b ⟨s.at_ + 1, max s.clock time, s.v0, s.v1, s.v2, s.v3, s.tab⟩ (.slice xa s.tab.length xc) wc) := hB2
    have HK2 : Hid (But b w wc) := hK2
    have c1 := hB2.c1
    have c6 := hB2.c6
    have hfz := hB2.fz
    have hl2 := hB2.lt
    have hlm := World.block_lt_of_cell? _ _ m2
    simp only [] at hlm
    have HM2 : Hid (wc.drew.cell? ⟨w.heap.size, 0, none⟩ = some (.pointer (some ⟨b, 0, none⟩))) := m2
    have HKS : Hid (∀ n, (ticked s time) = { (⟨s.at_ + 1, max s.clock time, s.v0, s.v1, s.v2, s.v3, n⟩ : St) with tab := freshTab s.tab (max s.clock time) }) := fun _ => rfl
    clear hB2 hK2 HB1 HK1 m1 hin hte
    generalize max s.clock time = mx at *
    go_wp2_with fail
    refine wp_region_held_drew (S := fun w' => w'.cell? ⟨w.heap.size, 0, none⟩ = some (.pointer (some ⟨b, 0, none⟩)) ∧ w'.cell? ⟨b, 1, none⟩ = some (.int .i64 mx)) (by kernel_rfl) ⟨HM2.out, c1⟩ (fun hS => ?_)
    refine wpAnyH_take (i := 0) (v := .pointer (some ⟨w.heap.size, 0, none⟩)) rfl (by kernel_rfl) (by kernel_rfl) (by kernel_rfl) (fun _ _ _ h => h) (Or.inl ⟨by rfl, ?_⟩) hS ?_
    · intro w hS; go_simp
    refine wpAnyH_take (i := 1) (v := .pointer (some ⟨b, 0, none⟩)) rfl (by kernel_rfl) (by kernel_rfl) (by kernel_rfl) (fun _ _ _ h => h) (Or.inl ⟨by rfl, ?_⟩) hS ?_
    · intro w hS; go_simp
    refine wpAnyH_take (i := 2) (v := .pointer (some ⟨w.heap.size, 0, none⟩)) rfl (by kernel_rfl) (by kernel_rfl) (by kernel_rfl) (fun _ _ _ h => h) (Or.inl ⟨by rfl, ?_⟩) hS ?_
    · intro w hS; go_simp
    refine wpAnyH_take (i := 3) (v := .pointer (some ⟨b, 0, none⟩)) rfl (by kernel_rfl) (by kernel_rfl) (by kernel_rfl) (fun _ _ _ h => h) (Or.inl ⟨by rfl, ?_⟩) hS ?_
    · intro w hS; go_simp
    refine wpAnyH_take (i := 4) (v := .pointer (some ⟨b, 0, none⟩)) rfl (by kernel_rfl) (by kernel_rfl) (by kernel_rfl) (fun _ _ _ h => h) (Or.inl ⟨by rfl, ?_⟩) hS ?_
    · intro w hS; go_simp
    refine wpAnyH_take (i := 5) (v := .pointer (some ⟨b, 6, none⟩)) rfl (by kernel_rfl) (by kernel_rfl) (by kernel_rfl) (fun _ _ _ h => h) (Or.inl ⟨by rfl, ?_⟩) hS ?_
    · intro w hS; go_simp
    refine wpAnyH_take (i := 7) (v := .pointer (some ⟨w.heap.size, 0, none⟩)) rfl (by kernel_rfl) (by kernel_rfl) (by kernel_rfl) (fun _ _ _ h => h) (Or.inl ⟨by rfl, ?_⟩) hS ?_
    · intro w hS; go_simp
    refine wpAnyH_take (i := 8) (v := .pointer (some ⟨b, 0, none⟩)) rfl (by kernel_rfl) (by kernel_rfl) (by kernel_rfl) (fun _ _ _ h => h) (Or.inl ⟨by rfl, ?_⟩) hS ?_
    · intro w hS; go_simp
    refine wpAnyH_take (i := 9) (v := .pointer (some ⟨b, 0, none⟩)) rfl (by kernel_rfl) (by kernel_rfl) (by kernel_rfl) (fun _ _ _ h => h) (Or.inl ⟨by rfl, ?_⟩) hS ?_
    · intro w hS; go_simp
    refine wpAnyH_take (i := 10) (v := .pointer (some ⟨b, 1, none⟩)) rfl (by kernel_rfl) (by kernel_rfl) (by kernel_rfl) (fun _ _ _ h => h) (Or.inl ⟨by rfl, ?_⟩) hS ?_
    · intro w hS; go_simp
    refine wpAnyH_take (i := 11) (v := .int .i64 mx) rfl (by kernel_rfl) (by kernel_rfl) (by kernel_rfl) (fun _ _ _ h => h) (Or.inl ⟨by rfl, ?_⟩) hS ?_
    · intro w hS; go_simp
    refine wpAnyH_ready (rs := [6]) (by kernel_rfl) (by simp) ?_
    refine AllReadyH.cons rfl (fun K hK => ?_) AllReadyH.nil
    go_simp
    refine hK.out _ _ (hS) (fun hS => ?_)
    clear hK K
    refine wpAnyH_ready (rs := [12]) (by kernel_rfl) (by simp) ?_
    refine AllReadyH.cons rfl (fun K hK => ?_) AllReadyH.nil
    go_simp
    refine (F.out _ (HT2.out.keep (Keeps.refl _).drew)).mono ?_
    rintro e w2 ⟨va, n2, vc, ho, rfl, hb⟩
    have d1 := HB2.out.keep ((Keeps.refl _).drew.trans hb)
    have d6 := d1.c6
    have dz := d1.fz
    have dl := d1.lt
    have hm2 := cell_kept HM2.out hb
    go_simp
    refine hK.out _ _ (⟨hm2, d1.c1⟩) (fun hS => ?_)
    clear hK K
    refine wpAnyH_take (i := 13) (v := .tuple #[.slice va n2 vc, .int .i64 0]) rfl (by kernel_rfl) (by kernel_rfl) (by kernel_rfl) (fun _ _ _ h => h) (Or.inl ⟨by rfl, ?_⟩) hS ?_
    · intro w hS; go_simp
    refine wpAnyH_take (i := 14) (v := .slice va n2 vc) rfl (by kernel_rfl) (by kernel_rfl) (by kernel_rfl) (fun _ _ _ h => h) (Or.inl ⟨by rfl, ?_⟩) hS ?_
    · intro w hS; go_simp
    refine wpAnyH_take (i := 15) (v := .int .i64 0) rfl (by kernel_rfl) (by kernel_rfl) (by kernel_rfl) (fun _ _ _ h => h) (Or.inl ⟨by rfl, ?_⟩) hS ?_
    · intro w hS; go_simp
    refine wpAnyH_take (i := 16) (v := .pointer (some ⟨b, 0, none⟩)) rfl (by kernel_rfl) (by kernel_rfl) (by kernel_rfl) (fun _ _ _ h => h) (Or.inl ⟨by rfl, ?_⟩) hS ?_
    · intro w hS; go_simp
    refine wpAnyH_take (i := 17) (v := .pointer (some ⟨b, 6, none⟩)) rfl (by kernel_rfl) (by kernel_rfl) (by kernel_rfl) (fun _ _ _ h => h) (Or.inl ⟨by rfl, ?_⟩) hS ?_
    · intro w hS; go_simp
    refine wpAnyH_ready (rs := [18]) (by kernel_rfl) (by simp) ?_
    refine AllReadyH.cons rfl (fun K hK => ?_) AllReadyH.nil
    go_simp
    refine hK.out _ _ (by refine ⟨(World.cell?_setCell_other _ _ _ _ (by intro e; injection e with e _ _; omega)).trans hm2, (World.cell?_setCell_other _ _ _ _ (by intro e; injection e with _ e _; omega)).trans d1.c1⟩) (fun hS => ?_)
    clear hK K
    refine wpAnyH_done (by kernel_rfl) ?_ _
    refine ⟨rfl, .tuple #[], by simp [results, Try.results39], rfl, .slice va n2 vc, ?_, ?_, ?_⟩
    · rw [HKS.out []]
      exact d1.set_tab _ _
    · rw [HKS.out []]
      exact (ho.but (b := b) (by exact hl2) ((But.refl _ _).set 6 _)).base HK2.out.size
    · exact ((HK2.out.keeps (Keeps.refl _).drew).keeps hb).set 6 _
end Go.Proofs.Yteabfjpajgakiab

/- Applying: the machine's close and open. -/
set_option linter.unusedSimpArgs false
set_option linter.unusedVariables false
set_option maxRecDepth 10000
namespace Go.Proofs.Yteabfjpajgakiab
open Go.RowKit

set_option maxHeartbeats 2000000 in
theorem find_own (L : List Ses) (v : Value) (c : Int) (w : World) (hT : TabAt w v L) (he : (tabErr L == 0) = true) :
    Calls Try.prog 70 #[v, .int .i64 c] w fun e w' => ∃ kv, w'.ownsRow w.heap.size 78 2 kv ((findSes L c).getD zeroSes).kept.length (repCells ((findSes L c).getD zeroSes).kept) ∧ e = .returned (.tuple #[sesV ((findSes L c).getD zeroSes) kv, .bool (findSes L c).isSome, .int .i64 0]) ∧ Keeps w w' := by
  have he' : (tabErr L != 0) = false := by simp [bne, he]
  have he0 : tabErr L = 0 := by simpa using he
  have hR := tab_right he0
  obtain ⟨h3, hall, _⟩ := hR
  have HALL : Hid (∀ s ∈ L, sesErr s = 0) := hall
  clear hall
  obtain ⟨a, cap, rfl, hlen⟩ := hT.len
  unfold maxLen at hlen
  have hT0 := hT.keep ((Keeps.refl w).alloc (.cells #[.int .i64 0, .int .i64 0, .int .i64 0, .slice none 0 0] 48))
  have HT : Hid (TabAt (w.alloc (.cells #[.int .i64 0, .int .i64 0, .int .i64 0, .slice none 0 0] 48)) (.slice a L.length cap) L) := hT0
  clear hT hT0
  go_enter Try.func70, Try.ntmps70
  go_wp2_with fail
  refine (sess_check L _ _ HT.out).mono ?_
  rintro e w1 ⟨rfl, hb1⟩
  have HB1 : Hid (Keeps (w.alloc (.cells #[.int .i64 0, .int .i64 0, .int .i64 0, .slice none 0 0] 48)) w1) := hb1
  clear hb1
  go_wp2_with fail
  go_loopw [18] (fun i wr => ∃ (k : Nat), k ≤ L.length ∧ i = .int .i64 k ∧ Hid (Keeps (w.alloc (.cells #[.int .i64 0, .int .i64 0, .int .i64 0, .slice none 0 0] 48)) wr) ∧ Hid (findSes L c = findSes (L.drop k) c)) (fun i _ => L.length - (intOf i).toNat)
  case atStart => exact ⟨0, Nat.zero_le _, rfl, HB1, rfl⟩
  case round =>
    obtain ⟨k, hk, rfl, HKW, HQ⟩ := hrel
    have hz : w.heap.size < wr.heap.size := by have := HKW.out.size; simp at this; omega
    by_cases hlt : k < L.length
    · obtain ⟨b, off, cap', hv, hcell⟩ := (HT.out.keep HKW.out).at hlt
      injection hv with hv1 hv2 hv3
      subst hv1
      clear hv2 hv3
      obtain ⟨c0, c1, c2, ka, kc, c3, hkv⟩ := hcell k hlt
      clear hcell
      have HKV : Hid (KeptAt wr (.slice ka (L[k]).kept.length kc) (L[k]).kept) := hkv
      clear hkv
      have HR : Hid (findSes L c = if (L[k]).client == c then some (L[k]) else findSes (L.drop (k + 1)) c) := HQ.out.trans (findSes_at hlt)
      have hn3 : (L[k]).kept.length ≤ 3 := kept_le (HALL.out _ (List.getElem_mem hlt))
      clear HQ
      generalize L[k] = s at *
      cases hq : (s.client == c) with
      | true =>
        have HN : Hid (findSes L c = some s) := by show _ = _; rw [HR.out, hq]; rfl
        go_wp2_with fail
        refine (twin_c s _ _ (HKV.out.keep ((Keeps.refl _).alloc _)) hn3).mono ?_
        rintro e w2 ⟨kv', ho, rfl, hb2⟩
        obtain ⟨va, vc, rfl⟩ : ∃ va vc, kv' = .slice va s.kept.length vc := by obtain ⟨x, y, h, _⟩ := (RowAt.of_owns ho).len; exact ⟨x, y, h⟩
        have hkZ : Keeps (w.alloc (.cells #[.int .i64 0, .int .i64 0, .int .i64 0, .slice none 0 0] 48)) w2 := (HKW.out.alloc _).trans hb2
        have hk2 : Keeps w w2 := ((Keeps.refl _).alloc _).trans hkZ
        obtain ⟨hc, hf⟩ := hkZ.cells
        simp only [World.size_alloc] at hc hf ho
        have hz2 : w.heap.size < w2.heap.size := by have := hkZ.size; simp at this; omega
        clear hb2 hkZ
        go_wp2_with fail
        refine bodyPost_ret (v := .tuple #[sesV s (.slice va s.kept.length vc), .bool true, .int .i64 0]) ?_ rfl ?_
        · simp [results, Try.results70, go_sem, hc]
        · rw [HN.out]
          refine ⟨.slice va s.kept.length vc, ?_, rfl, ?_⟩
          · refine owns_base (base := wr.heap.size + 1) ?_ (by omega)
            repeat refine ownsRow_setCell_below ?_ (by simp <;> omega) _
            exact ho
          · repeat refine Keeps.set ?_ (by simp <;> omega) _
            exact hk2
      | false =>
        have HN : Hid (findSes L c = findSes (L.drop (k + 1)) c) := by show _ = _; rw [HR.out, hq]; rfl
        go_wp2_with fail
        go_roundw
        case rel => exact ⟨k + 1, by omega, by go_num, HKW.out.alloc _, HN⟩
        case measure => simp [intOf]; omega
    · have HN : Hid (findSes L c = none) := HQ.out.trans (by rw [List.drop_of_length_le (by omega)]; rfl)
      have hk2 : Keeps w wr := ((Keeps.refl _).alloc _).trans HKW.out
      obtain ⟨hc, hf⟩ := HKW.out.cells
      simp only [World.size_alloc] at hc hf
      go_wp2_with fail
      refine bodyPost_ret (v := .tuple #[sesV zeroSes (.slice none 0 0), .bool false, .int .i64 0]) ?_ rfl ?_
      · simp [results, Try.results70, go_sem, hc, zeroSes]
      · rw [HN.out]
        refine ⟨.slice none 0 0, World.ownsRow_nil _ _ _ _, rfl, ?_⟩
        repeat refine Keeps.set ?_ (by simp <;> omega) _
        exact hk2

def closedSt (s : St) (c : Int) : St := if dropErr s.tab c == 0 then { s with tab := dropTab s.tab c } else s
def closedAns (s : St) (c : Int) : Int := if dropErr s.tab c == 0 then 0 else -3

set_option maxHeartbeats 2000000 in
theorem close_c (s : St) (b base : Nat) (x : Value) (c : Int) (w : World) (hB : StBox b s x w) (hO : OwnTab base w x s.tab) (hbb : b < base) (hbw : base ≤ w.heap.size) :
    Calls Try.prog 55 #[macV b, .int .i64 c] w fun y w' => y = .returned (.int .i64 (closedAns s c)) ∧ ∃ x', StBox b (closedSt s c) x' w' ∧ OwnTab base w' x' (closedSt s c).tab ∧ But b w w' := by
  have hT : TabFar b w x s.tab := hO.far hbb
  have HOT : Hid (OwnTab base w x s.tab) := hO
  clear hO
  have hbl := hB.lt
  obtain ⟨xa, xc, rfl, _⟩ := hT.tab.len
  have HT : Hid (TabFar b w (.slice xa s.tab.length xc) s.tab) := hT
  have HB : Hid (StBox b s (.slice xa s.tab.length xc) w) := hB
  have c6 := hB.c6
  clear hB hT
  go_enter Try.func55, Try.ntmps55
  go_wp2_with fail
  refine (sess_drop s.tab _ c _ (HT.out.tab.keep ((Keeps.refl _).alloc _))).mono ?_
  rintro e w1 ⟨v', ho, rfl, hb⟩
  obtain ⟨va, vc, rfl, _⟩ := ho.tab.len
  have hk1 : Keeps w w1 := ((Keeps.refl _).alloc _).trans hb
  have m1 : w1.cell? ⟨w.heap.size, 0, none⟩ = some (.pointer (some ⟨b, 0, none⟩)) := cell_kept (by simp [go_sem]) hb
  have hlm := World.block_lt_of_cell? _ _ m1
  simp only [] at hlm
  clear hb c6
  have HO : Hid (OwnTab (w.alloc (.cells #[.pointer (some ⟨b, 0, none⟩)] 62)).heap.size w1 (.slice va (dropTab s.tab c).length vc) (dropTab s.tab c)) := ho
  clear ho
  generalize (dropTab s.tab c).length = n1 at *
  have HB1 := HB.out.keep hk1
  have d6 := HB1.c6
  have dz := HB1.fz
  have dl := HB1.lt
  have HB1 : Hid (StBox b s (.slice xa s.tab.length xc) w1) := HB1
  cases q : (dropErr s.tab c == 0) with
  | false =>
    have q' : (dropErr s.tab c != 0) = true := by simp [bne, q]
    have HE : Hid (closedAns s c = -3 ∧ closedSt s c = s) := by simp [Hid, closedAns, closedSt, q]
    go_wp2_with fail
    go_ret
    refine ⟨ret_int HE.out.1.symm, ?_⟩
    rw [HE.out.2]
    exact ⟨_, HB1.out, HOT.out.keep hk1, But.of hk1⟩
  | true =>
    have q' : (dropErr s.tab c != 0) = false := by simp [bne, q]
    have HE : Hid (closedAns s c = 0 ∧ closedSt s c = { s with tab := dropTab s.tab c }) := by simp [Hid, closedAns, closedSt, q]
    go_wp2_with fail
    go_ret
    refine ⟨ret_int HE.out.1.symm, ?_⟩
    rw [HE.out.2]
    exact ⟨_, HB1.out.set_tab _ _, ((HO.out.base (by simp; omega)).but hbb ((But.refl _ _).set 6 _)), (But.of hk1).set 6 _⟩

/-- The session that an Open asks for. -/
def openSes (s : St) (c : Int) : Ses := ⟨c, ((findSes s.tab c).getD zeroSes).acked, s.clock, ((findSes s.tab c).getD zeroSes).kept⟩
def openedSt (s : St) (c : Int) : St := if putErr s.tab (openSes s c) == 0 then { s with tab := putTab s.tab (openSes s c) } else s
def openedAns (s : St) (c : Int) : Int := if putErr s.tab (openSes s c) == 0 then 0 else -2

/-- A session in its box. -/
structure SesBox (b : Nat) (s : Ses) (k : Value) (w : World) : Prop where
  c0 : w.cell? ⟨b, 0, none⟩ = some (.int .i64 s.client)
  c1 : w.cell? ⟨b, 1, none⟩ = some (.int .i64 s.acked)
  c2 : w.cell? ⟨b, 2, none⟩ = some (.int .i64 s.seen)
  c3 : w.cell? ⟨b, 3, none⟩ = some k
  fz : ∀ i, w.frozen? ⟨b, i, none⟩ = false

theorem SesBox.lt {b : Nat} {s : Ses} {k : Value} {w : World} (h : SesBox b s k w) : b < w.heap.size := World.block_lt_of_cell? _ _ h.c0
theorem SesBox.keep {b : Nat} {s : Ses} {k : Value} {w w' : World} (h : SesBox b s k w) (hk : Keeps w w') : SesBox b s k w' :=
  ⟨cell_kept h.c0 hk, cell_kept h.c1 hk, cell_kept h.c2 hk, cell_kept h.c3 hk, fun i => (Below.frozen hk (p := ⟨b, i, none⟩) h.lt).trans (h.fz i)⟩
theorem SesBox.other {b b' : Nat} {s : Ses} {k : Value} {w w' : World} (h : SesBox b s k w) (hk : But b' w w') (hb : b ≠ b') : SesBox b s k w' :=
  ⟨hk.at h.c0 hb, hk.at h.c1 hb, hk.at h.c2 hb, hk.at h.c3 hb, fun i => (hk.frozen (p := ⟨b, i, none⟩) h.lt hb).trans (h.fz i)⟩
theorem SesBox.new (w : World) (s : Ses) (k : Value) (t : TypeId) : SesBox w.heap.size s k (w.alloc (.cells #[.int .i64 s.client, .int .i64 s.acked, .int .i64 s.seen, k] t)) :=
  ⟨by simp [go_sem], by simp [go_sem], by simp [go_sem], by simp [go_sem], fun i => by simp [go_sem]⟩
theorem SesBox.set {b : Nat} {s s' : Ses} {t t' : Value} {w : World} (h : SesBox b s t w) (i : Nat) (u : Value)
    (h0 : .int .i64 s'.client = if i = 0 then u else .int .i64 s.client) (h1 : .int .i64 s'.acked = if i = 1 then u else .int .i64 s.acked) (h2 : .int .i64 s'.seen = if i = 2 then u else .int .i64 s.seen) (h3 : t' = if i = 3 then u else t) : SesBox b s' t' (w.setCell ⟨b, i, none⟩ u) := by
  have go : ∀ j x y, w.cell? ⟨b, j, none⟩ = some x → y = (if i = j then u else x) → (w.setCell ⟨b, i, none⟩ u).cell? ⟨b, j, none⟩ = some y := fun j x y hx hy => by
    by_cases hij : i = j
    · subst hij
      rw [if_pos rfl] at hy
      subst hy
      exact World.cell?_setCell_same _ _ _ hx
    · rw [if_neg hij] at hy
      subst hy
      rw [World.cell?_setCell_other _ _ _ _ (by intro e; injection e with _ e _; exact hij e)]
      exact hx
  exact ⟨go _ _ _ h.c0 h0, go _ _ _ h.c1 h1, go _ _ _ h.c2 h2, go _ _ _ h.c3 h3, fun j => (World.frozen?_setCell _ _ _ _).trans (h.fz j)⟩
theorem SesBox.set_client {b : Nat} {s : Ses} {t : Value} {w : World} (h : SesBox b s t w) (n : Int) : SesBox b { s with client := n } t (w.setCell ⟨b, 0, none⟩ (.int .i64 n)) := h.set (s' := { s with client := n }) (t' := t) 0 _ rfl rfl rfl rfl
theorem SesBox.set_acked {b : Nat} {s : Ses} {t : Value} {w : World} (h : SesBox b s t w) (n : Int) : SesBox b { s with acked := n } t (w.setCell ⟨b, 1, none⟩ (.int .i64 n)) := h.set (s' := { s with acked := n }) (t' := t) 1 _ rfl rfl rfl rfl
theorem SesBox.set_seen {b : Nat} {s : Ses} {t : Value} {w : World} (h : SesBox b s t w) (n : Int) : SesBox b { s with seen := n } t (w.setCell ⟨b, 2, none⟩ (.int .i64 n)) := h.set (s' := { s with seen := n }) (t' := t) 2 _ rfl rfl rfl rfl
theorem SesBox.set_kept {b : Nat} {s : Ses} {t : Value} {w : World} (h : SesBox b s t w) (l : List (Int × Int)) (u : Value) : SesBox b { s with kept := l } u (w.setCell ⟨b, 3, none⟩ u) := h.set (s' := { s with kept := l }) (t' := u) 3 _ rfl rfl rfl rfl

set_option maxHeartbeats 4000000 in
theorem open_c (s : St) (b base : Nat) (x : Value) (c : Int) (w : World) (hB : StBox b s x w) (hO : OwnTab base w x s.tab) (hbb : b < base) (hbw : base ≤ w.heap.size) (he : tabErr s.tab = 0) :
    Calls Try.prog 54 #[macV b, .int .i64 c] w fun y w' => y = .returned (.int .i64 (openedAns s c)) ∧ ∃ x', StBox b (openedSt s c) x' w' ∧ OwnTab base w' x' (openedSt s c).tab ∧ But b w w' := by
  have hT : TabFar b w x s.tab := hO.far hbb
  have HOT : Hid (OwnTab base w x s.tab) := hO
  clear hO
  have hbl := hB.lt
  obtain ⟨xa, xc, rfl, _⟩ := hT.tab.len
  have HT : Hid (TabFar b w (.slice xa s.tab.length xc) s.tab) := hT
  have HB : Hid (StBox b s (.slice xa s.tab.length xc) w) := hB
  have c6 := hB.c6
  clear hB hT
  have HO : Hid (openSes s c = { ((findSes s.tab c).getD zeroSes) with client := c, seen := s.clock }) := rfl
  go_enter Try.func54, Try.ntmps54
  go_wp2_with fail
  refine (find_own s.tab _ c _ (HT.out.tab.keep ((Keeps.refl _).alloc _)) (by rw [he]; rfl)).mono ?_
  rintro e w1 ⟨kv, hkv, rfl, hb⟩
  obtain ⟨ka, kc, rfl, _⟩ := (RowAt.of_owns hkv).len
  generalize (findSes s.tab c).getD zeroSes = f at *
  generalize (findSes s.tab c).isSome = fi at *
  have hk1 : Keeps w w1 := ((Keeps.refl _).alloc _).trans hb
  have m1 : w1.cell? ⟨w.heap.size, 0, none⟩ = some (.pointer (some ⟨b, 0, none⟩)) := cell_kept (by simp [go_sem]) hb
  have hlm := World.block_lt_of_cell? _ _ m1
  simp only [] at hlm
  have HK : Hid (KeptAt w1 (.slice ka f.kept.length kc) f.kept) := RowAt.of_owns hkv
  clear hb c6 hkv
  go_wp2_with fail
  have SB := SesBox.new w1 f (.slice ka f.kept.length kc) 48
  have B1 := HB.out.keep (hk1.alloc (.cells #[.int .i64 f.client, .int .i64 f.acked, .int .i64 f.seen, .slice ka f.kept.length kc] 48))
  have k2 := hk1.alloc (.cells #[.int .i64 f.client, .int .i64 f.acked, .int .i64 f.seen, .slice ka f.kept.length kc] 48)
  have m2 := cell_kept m1 ((Keeps.refl _).alloc (.cells #[.int .i64 f.client, .int .i64 f.acked, .int .i64 f.seen, .slice ka f.kept.length kc] 48))
  have kk := HK.out.keep ((Keeps.refl _).alloc (.cells #[.int .i64 f.client, .int .i64 f.acked, .int .i64 f.seen, .slice ka f.kept.length kc] 48))
  have hsb : b < w1.heap.size := Nat.lt_of_lt_of_le hbl hk1.size
  have KF : KeptFar w1.heap.size (w1.alloc (.cells #[.int .i64 f.client, .int .i64 f.acked, .int .i64 f.seen, .slice ka f.kept.length kc] 48)) (.slice ka f.kept.length kc) f.kept := HK.out.far ((Keeps.refl _).alloc _) (Nat.le_refl _)
  have hws : w.heap.size ≤ w1.heap.size := hk1.size
  generalize (w1.alloc (.cells #[.int .i64 f.client, .int .i64 f.acked, .int .i64 f.seen, .slice ka f.kept.length kc] 48)) = w2 at *
  generalize w1.heap.size = sb at *
  clear HK m1 hk1 w1
  have HB1 : Hid (StBox b s (.slice xa s.tab.length xc) w2) := B1
  have HSB : Hid (SesBox sb f (.slice ka f.kept.length kc) w2) := SB
  have HK2 : Hid (Keeps w w2) := k2
  have HKF : Hid (KeptFar sb w2 (.slice ka f.kept.length kc) f.kept) := KF
  have s0 := SB.c0
  have s2 := SB.c2
  have sf := SB.fz
  have sl := SB.lt
  have b1 := B1.c1
  clear SB B1 k2 KF kk
  go_cut [21] (fun _ wc => SesBox sb (openSes s c) (.slice ka f.kept.length kc) wc ∧ But sb w2 wc)
  case first =>
    have hne : sb ≠ b := by omega
    have hne2 : sb ≠ w.heap.size := by omega
    go_region_held3 (fun w' => w'.cell? ⟨w.heap.size, 0, none⟩ = some (.pointer (some ⟨b, 0, none⟩)) ∧ w'.cell? ⟨b, 1, none⟩ = some (.int .i64 s.clock)) (go_keep) (fail)
    all_goals go_wp2_with fail
    all_goals go_meet
    all_goals exact ⟨by rw [HO.out]; exact ((HSB.out.set_client c).set_seen s.clock).keep (Keeps.refl _).drew, (((But.refl _ _).set 0 _).set 2 _).keeps (Keeps.refl _).drew⟩
  case rest =>
    obtain ⟨hSB, hbt⟩ := hcut
    obtain ⟨w4, hw4⟩ : ∃ z : World, z = wc := ⟨_, rfl⟩
    subst hw4
    have hne : b ≠ sb := by omega
    have hkw : Keeps w w4 := But.to HK2.out hws hbt
    have B3 := HB1.out.other hbt hne
    have m3 : w4.cell? ⟨w.heap.size, 0, none⟩ = some (.pointer (some ⟨b, 0, none⟩)) := hbt.at m2 (by simp; omega)
    have KK : Hid (KeptAt w4 (.slice ka f.kept.length kc) (openSes s c).kept) := by rw [HO.out]; exact HKF.out w4 hbt
    have TT : Hid (TabAt w4 (.slice xa s.tab.length xc) s.tab) := HT.out w4 (But.of hkw)
    have HB3 : Hid (StBox b s (.slice xa s.tab.length xc) w4) := B3
    have HKW : Hid (Keeps w w4) := hkw
    have b6 := B3.c6
    have s0 := hSB.c0
    have s1 := hSB.c1
    have s2 := hSB.c2
    have s3 := hSB.c3
    have sl := hSB.lt
    have bl := B3.lt
    have hlm := World.block_lt_of_cell? _ _ m3
    simp only [] at hlm
    have HS : Hid (w4.drew.cell? ⟨w.heap.size, 0, none⟩ = some (.pointer (some ⟨b, 0, none⟩)) ∧ w4.drew.cell? ⟨b, 6, none⟩ = some (.slice xa s.tab.length xc) ∧ w4.drew.cell? ⟨sb, 0, none⟩ = some (.int .i64 (openSes s c).client) ∧ w4.drew.cell? ⟨sb, 1, none⟩ = some (.int .i64 (openSes s c).acked) ∧ w4.drew.cell? ⟨sb, 2, none⟩ = some (.int .i64 (openSes s c).seen) ∧ w4.drew.cell? ⟨sb, 3, none⟩ = some (.slice ka f.kept.length kc)) := ⟨m3, b6, s0, s1, s2, s3⟩
    clear B3 hSB hbt hkw HSB HB1 HK2 HKF m2
    have HA : Hid (openedAns s c = if putErr s.tab (openSes s c) == 0 then 0 else -2) := rfl
    have HS2 : Hid (openedSt s c = if putErr s.tab (openSes s c) == 0 then { s with tab := putTab s.tab (openSes s c) } else s) := rfl
    generalize openSes s c = os at *
    go_wp2_with fail
    go_cut [8, 9] (fun u v wd => v = .int .i64 (putErr s.tab os) ∧ OwnTab w4.heap.size wd u (putTab s.tab os) ∧ Keeps w4 wd)
    case first =>
      go_region_held3 (fun w' => w'.cell? ⟨w.heap.size, 0, none⟩ = some (.pointer (some ⟨b, 0, none⟩)) ∧ w'.cell? ⟨b, 6, none⟩ = some (.slice xa s.tab.length xc) ∧ w'.cell? ⟨sb, 0, none⟩ = some (.int .i64 os.client) ∧ w'.cell? ⟨sb, 1, none⟩ = some (.int .i64 os.acked) ∧ w'.cell? ⟨sb, 2, none⟩ = some (.int .i64 os.seen) ∧ w'.cell? ⟨sb, 3, none⟩ = some (.slice ka f.kept.length kc)) (first | exact ⟨cell_kept HS.out.1 (by assumption), cell_kept HS.out.2.1 (by assumption), cell_kept HS.out.2.2.1 (by assumption), cell_kept HS.out.2.2.2.1 (by assumption), cell_kept HS.out.2.2.2.2.1 (by assumption), cell_kept HS.out.2.2.2.2.2 (by assumption)⟩ | go_keep) (first | (go_at_call 71; refine (sess_put s.tab _ os _ _ (TT.out.keep (Keeps.refl _).drew) (KK.out.keep (Keeps.refl _).drew)).mono ?_; rintro e w3 ⟨v', ho, rfl, hb⟩))
      all_goals go_wp2_with fail
      all_goals go_meet
      all_goals exact ⟨rfl, ho, (Keeps.refl _).drew.trans hb⟩
    case rest =>
      obtain ⟨rfl, ho, hkd⟩ := hcut
      obtain ⟨va, vc, rfl, _⟩ := ho.tab.len
      have hkw := HKW.out.trans hkd
      have B4 := HB3.out.keep hkd
      have m4 := cell_kept m3 hkd
      have d6 := B4.c6
      have dz := B4.fz
      have dl := B4.lt
      have hlm := World.block_lt_of_cell? _ _ m4
      simp only [] at hlm
      have HB4 : Hid (StBox b s (.slice xa s.tab.length xc) wc) := B4
      have HO4 : Hid (OwnTab w4.heap.size wc (.slice va (putTab s.tab os).length vc) (putTab s.tab os)) := ho
      generalize (putTab s.tab os).length = n4 at *
      clear B4 ho
      cases q : (putErr s.tab os == 0) with
      | false =>
        have q' : (putErr s.tab os != 0) = true := by simp [bne, q]
        have HE : Hid (openedAns s c = -2 ∧ openedSt s c = s) := ⟨by rw [HA.out, q]; rfl, by rw [HS2.out, q]; rfl⟩
        go_wp2_with fail
        go_ret
        refine ⟨ret_int HE.out.1.symm, ?_⟩
        rw [HE.out.2]
        exact ⟨_, HB4.out, HOT.out.keep hkw, But.of hkw⟩
      | true =>
        have q' : (putErr s.tab os != 0) = false := by simp [bne, q]
        have HE : Hid (openedAns s c = 0 ∧ openedSt s c = { s with tab := putTab s.tab os }) := ⟨by rw [HA.out, q]; rfl, by rw [HS2.out, q]; rfl⟩
        go_wp2_with fail
        go_ret
        refine ⟨ret_int HE.out.1.symm, ?_⟩
        rw [HE.out.2]
        exact ⟨_, HB4.out.set_tab _ _, ((HO4.out.base (Nat.le_trans hbw HKW.out.size)).but hbb ((But.refl _ _).set 6 _)), (But.of hkw).set 6 _⟩
end Go.Proofs.Yteabfjpajgakiab

/- Applying: the answers that a session keeps, in a row of its own: slices.DeleteFunc. -/
set_option linter.unusedSimpArgs false
set_option linter.unusedVariables false
set_option maxRecDepth 10000
namespace Go.Proofs.Yteabfjpajgakiab
open Go.RowKit

/-- A row of answers in block g. -/
def RepRow (w : World) (g cap : Nat) (xs : List Value) : Prop := ∃ cur : Array Value, w.heap[g]? = some (.cells cur 78 (0, 0)) ∧ cur.size = cap * 2 ∧ cap ≤ maxLen ∧ xs.length ≤ cap * 2 ∧ cur.toList.take xs.length = xs

theorem RepRow.lt {w : World} {g cap : Nat} {xs : List Value} (h : RepRow w g cap xs) : g < w.heap.size := by
  obtain ⟨cur, h1, _⟩ := h
  exact (Array.getElem?_eq_some_iff.1 h1).1
theorem RepRow.cell {w : World} {g cap : Nat} {xs : List Value} (h : RepRow w g cap xs) (i : Nat) (u : Value) (hu : xs[i]? = some u) : w.cell? ⟨g, i, none⟩ = some u := by
  obtain ⟨cur, h1, h2, h3, h4, h5⟩ := h
  have hi := (List.getElem?_eq_some_iff.1 hu).1
  rw [← h5, List.getElem?_take, if_pos hi] at hu
  simp [World.cell?, h1]
  simpa using hu
theorem RepRow.some {w : World} {g cap : Nat} {xs : List Value} (h : RepRow w g cap xs) (i : Nat) (hi : i < cap * 2) : ∃ u, w.cell? ⟨g, i, none⟩ = some u := by
  obtain ⟨cur, h1, h2, _⟩ := h
  refine ⟨cur[i]'(by omega), ?_⟩
  simp [World.cell?, h1, h2, hi]
theorem RepRow.frozen {w : World} {g cap : Nat} {xs : List Value} (h : RepRow w g cap xs) (i : Nat) : w.frozen? ⟨g, i, none⟩ = false := by
  obtain ⟨cur, h1, _⟩ := h
  simp [World.frozen?, h1]
theorem RepRow.set {w : World} {g cap : Nat} {xs : List Value} (h : RepRow w g cap xs) (i : Nat) (u : Value) : RepRow (w.setCell ⟨g, i, none⟩ u) g cap (xs.set i u) := by
  obtain ⟨cur, h1, h2, h3, h4, h5⟩ := h
  refine ⟨cur.setIfInBounds i u, ?_, by simpa using h2, h3, by simpa using h4, ?_⟩
  · simp [World.setCell, Array.getElem?_modify, h1]
  · simp only [List.length_set, Array.toList_setIfInBounds]
    rw [List.take_set, h5]
theorem RepRow.but {w w' : World} {g b cap : Nat} {xs : List Value} (h : RepRow w g cap xs) (hk : But b w w') (hb : g ≠ b) : RepRow w' g cap xs := by
  have hl := h.lt
  obtain ⟨cur, h1, r⟩ := h
  exact ⟨cur, (hk.block g hl hb).trans h1, r⟩
theorem RepRow.keep {w w' : World} {g cap : Nat} {xs : List Value} (h : RepRow w g cap xs) (hk : Keeps w w') : RepRow w' g cap xs := by
  have hl := h.lt
  obtain ⟨cur, h1, r⟩ := h
  exact ⟨cur, (hk.block g hl).trans h1, r⟩
theorem RepRow.take {w : World} {g cap : Nat} {xs : List Value} (h : RepRow w g cap xs) (n : Nat) : RepRow w g cap (xs.take n) := by
  obtain ⟨cur, h1, h2, h3, h4, h5⟩ := h
  refine ⟨cur, h1, h2, h3, by simp; omega, ?_⟩
  have e : List.take n xs = List.take n (List.take xs.length cur.toList) := by rw [h5]
  rw [List.length_take, e, List.take_take]

/-- The answers lie in block g (or there are none, and no row). -/
def KeptOn (g : Nat) (w : World) (kv : Value) (l : List (Int × Int)) : Prop := (kv = .slice none 0 0 ∧ l = []) ∨ ∃ cap, kv = .slice (some ⟨g, 0, none⟩) l.length cap ∧ RepRow w g cap (repCells l)

theorem KeptOn.kept {g : Nat} {w : World} {kv : Value} {l : List (Int × Int)} (h : KeptOn g w kv l) : KeptAt w kv l := by
  rcases h with ⟨rfl, rfl⟩ | ⟨cap, rfl, hr⟩
  · exact kept_nil w
  · have hc := fun i u hu => hr.cell i u hu
    obtain ⟨cur, h1, h2, h3, h4, h5⟩ := hr
    rw [repCells_len] at h4
    exact ⟨repCells_len _, by omega, .inr ⟨_, cap, rfl, fun j u hu => by rw [Addr.add_lit, Nat.zero_add]; exact hc j u hu⟩⟩
theorem KeptOn.but {g b : Nat} {w w' : World} {kv : Value} {l : List (Int × Int)} (h : KeptOn g w kv l) (hk : But b w w') (hb : g ≠ b) : KeptOn g w' kv l :=
  h.imp id fun ⟨cap, e, hr⟩ => ⟨cap, e, hr.but hk hb⟩
theorem KeptOn.keep {g : Nat} {w w' : World} {kv : Value} {l : List (Int × Int)} (h : KeptOn g w kv l) (hk : Keeps w w') : KeptOn g w' kv l :=
  h.imp id fun ⟨cap, e, hr⟩ => ⟨cap, e, hr.keep hk⟩
theorem KeptOn.of_owns {base : Nat} {w : World} {kv : Value} {l : List (Int × Int)} (h : w.ownsRow base 78 2 kv l.length (repCells l)) : ∃ g, KeptOn g w kv l ∧ base ≤ g ∧ (g < w.heap.size ∨ g = base) := by
  obtain ⟨h1, h2⟩ := h
  rcases h2 with ⟨rfl, h0⟩ | ⟨g, cap, cur, rfl, hg, hh, hn, hm, hs, ht⟩
  · exact ⟨base, .inl ⟨rfl, List.length_eq_zero_iff.1 h0⟩, Nat.le_refl _, .inr rfl⟩
  · have hr : RepRow w g cap (repCells l) := ⟨cur, hh, hs, hm, by rw [h1]; omega, by rw [h1]; exact ht⟩
    exact ⟨g, .inr ⟨cap, rfl, hr⟩, hg, .inl hr.lt⟩
/-- .. and back. -/
theorem KeptOn.owns {g : Nat} {w : World} {kv : Value} {l : List (Int × Int)} (h : KeptOn g w kv l) : w.ownsRow g 78 2 kv l.length (repCells l) := by
  refine ⟨repCells_len _, ?_⟩
  rcases h with ⟨rfl, rfl⟩ | ⟨cap, rfl, cur, h1, h2, h3, h4, h5⟩
  · exact .inl ⟨rfl, rfl⟩
  · rw [repCells_len] at h4 h5
    exact .inr ⟨g, cap, cur, rfl, Nat.le_refl _, h1, by omega, h3, h2, h5⟩

theorem fnc74 (args : Array Value) (W : World) : (callFunc 74 args).run Try.prog W = .ok (.enter 74 args) W := by kernel_rfl

theorem gone_c (sb : Nat) (ack q v : Int) (w : World) (hs : w.cell? ⟨sb, 1, none⟩ = some (.int .i64 ack)) :
    Calls Try.prog 74 #[.agg #[.int .i64 q, .int .i64 v], .pointer (some ⟨sb, 0, none⟩)] w fun e w' => e = .returned (.bool (decide (q ≤ ack))) ∧ Keeps w w' := by
  have hl := World.block_lt_of_cell? _ _ hs
  simp only [] at hl
  go_enter Try.func74, Try.ntmps74
  go_wp2_with fail
  go_ret
  exact ⟨rfl, (Keeps.refl _).alloc _⟩

abbrev delF (sb : Nat) : Value := .func (.func 74) #[] #[.pointer (some ⟨sb, 0, none⟩)]

/-- slices.IndexFunc, where none is gone. -/
theorem index_none (sb : Nat) (ack : Int) (l : List (Int × Int)) (kv : Value) (w : World) (hk : KeptAt w kv l) (h3 : l.length ≤ 3) (hs : w.cell? ⟨sb, 1, none⟩ = some (.int .i64 ack)) (hall : ∀ r ∈ l, ack < r.1) :
    Calls Try.prog 81 #[kv, delF sb] w fun e w' => e = .returned (.int .i64 (-1)) ∧ Keeps w w' := by
  obtain ⟨a, cap, rfl, hlen⟩ := hk.len
  have HK : Hid (KeptAt w (.slice a l.length cap) l) := hk
  have HALL : Hid (∀ r ∈ l, ack < r.1) := hall
  have hf := fnc74
  clear hk hall hlen
  go_enter Try.func81, Try.ntmps81
  go_wp2_with fail
  go_loopw [8] (fun i wr => ∃ (k : Nat), k ≤ l.length ∧ i = .int .i64 k ∧ Keeps w wr) (fun i _ => l.length - (intOf i).toNat)
  case atStart => exact ⟨0, Nat.zero_le _, rfl, Keeps.refl _⟩
  case round =>
    obtain ⟨k, hk, rfl, hkw⟩ := hrel
    by_cases hlt : k < l.length
    · obtain ⟨b, off, cp, hv, _, hcell⟩ := (HK.out.keep hkw).at hlt
      injection hv with hv1 hv2 hv3
      subst hv1
      clear hv2 hv3
      obtain ⟨c0, c1⟩ := hcell k hlt
      clear hcell
      have hd : decide ((l[k]).1 ≤ ack) = false := by have := HALL.out _ (List.getElem_mem hlt); simp; omega
      generalize (l[k]).1 = q at *
      generalize (l[k]).2 = v at *
      go_wp2_with fail
      refine (gone_c sb ack q v _ (cell_kept hs hkw)).mono ?_
      rintro e w1 ⟨rfl, hb⟩
      have hk1 : Keeps w w1 := hkw.trans hb
      clear hb
      go_wp2_with fail
      go_roundw
      case rel => exact ⟨k + 1, by omega, by go_num, hk1⟩
      case measure => simp [intOf]; omega
    · go_wp2_with fail
      go_ret
      exact ⟨rfl, hkw⟩

/-- .. and where the first is. -/
theorem index_first (sb : Nat) (ack q v : Int) (l : List (Int × Int)) (kv : Value) (w : World) (hk : KeptAt w kv ((q, v) :: l)) (hs : w.cell? ⟨sb, 1, none⟩ = some (.int .i64 ack)) (hq : q ≤ ack) :
    Calls Try.prog 81 #[kv, delF sb] w fun e w' => e = .returned (.int .i64 0) ∧ Keeps w w' := by
  obtain ⟨b, off, cap, rfl, hlen, hcell⟩ := hk.at (k := 0) (by simp)
  obtain ⟨c0, c1⟩ := hcell 0 (by simp)
  simp only [Nat.zero_mul, Nat.add_zero, List.getElem_cons_zero] at c0 c1
  clear hcell hk
  have hf := fnc74
  have hd : decide (q ≤ ack) = true := by simpa using hq
  simp only [List.length_cons] at *
  generalize l.length = n at *
  unfold maxLen at hlen
  go_enter Try.func81, Try.ntmps81
  go_wp2_with fail
  refine wp_loop_rounds 2 ?_
  rw [rounds_succ]
  go_wp2_with (first | (go_at_call 74; refine (gone_c sb ack q v _ hs).mono ?_; rintro e w1 ⟨rfl, hb⟩))
  go_ret
  exact ⟨rfl, hb⟩

def keptAfter (ack : Int) (l : List (Int × Int)) : List (Int × Int) := l.filter fun r => decide (ack < r.1)
theorem keptAfter_all {ack : Int} {l : List (Int × Int)} (h : ∀ r ∈ l, ack < r.1) : keptAfter ack l = l := List.filter_eq_self.2 (by simpa using h)

/-- slices.DeleteFunc, where none is gone. -/
theorem delete_none (g sb : Nat) (ack : Int) (l : List (Int × Int)) (kv : Value) (w : World) (hk : KeptOn g w kv l) (h3 : l.length ≤ 3) (hs : w.cell? ⟨sb, 1, none⟩ = some (.int .i64 ack)) (hall : ∀ r ∈ l, ack < r.1) :
    Calls Try.prog 73 #[kv, delF sb] w fun e w' => ∃ kv', KeptOn g w' kv' (keptAfter ack l) ∧ e = .returned kv' ∧ But g w w' := by
  have HK : Hid (KeptOn g w kv l) := hk
  have HI : Hid (Calls Try.prog 81 #[kv, delF sb] w fun e w' => e = .returned (.int .i64 (-1)) ∧ Keeps w w') := index_none sb ack l kv w hk.kept h3 hs hall
  rw [keptAfter_all hall]
  obtain ⟨a, cap, rfl, hlen⟩ := hk.kept.len
  clear hk hall
  go_enter Try.func73, Try.ntmps73
  go_wp2_with fail
  refine HI.out.mono ?_
  rintro e w1 ⟨rfl, hb⟩
  go_wp2_with fail
  go_ret
  exact ⟨_, HK.out.keep hb, rfl, But.of hb⟩
end Go.Proofs.Yteabfjpajgakiab

/- Applying: slices.DeleteFunc, where some answers are gone. -/
set_option linter.unusedSimpArgs false
set_option linter.unusedVariables false
set_option maxRecDepth 10000
namespace Go.Proofs.Yteabfjpajgakiab
open Go.RowKit

theorem repCells_set : ∀ (A : List (Int × Int)) (i : Nat) (q v : Int), repCells (A.set i (q, v)) = ((repCells A).set (i * 2) (.int .i64 q)).set (i * 2 + 1) (.int .i64 v)
  | [], i, q, v => by simp [repCells]
  | (a, b) :: r, 0, q, v => by simp [repCells]
  | (a, b) :: r, i + 1, q, v => by
    rw [List.set_cons_succ, show (i + 1) * 2 = i * 2 + 1 + 1 from by omega, show i * 2 + 1 + 1 + 1 = (i * 2 + 1) + 1 + 1 from rfl]
    simp only [repCells, List.set_cons_succ, repCells_set r i q v]
theorem repCells_take : ∀ (A : List (Int × Int)) (i : Nat), (repCells A).take (i * 2) = repCells (A.take i)
  | [], i => by simp [repCells]
  | (a, b) :: r, 0 => by simp [repCells]
  | (a, b) :: r, i + 1 => by
    rw [show (i + 1) * 2 = i * 2 + 1 + 1 from by omega]
    simp only [repCells, List.take_succ_cons, repCells_take r i]
theorem repCells_drop : ∀ (A : List (Int × Int)) (i : Nat), (repCells A).drop (i * 2) = repCells (A.drop i)
  | [], i => by simp [repCells]
  | (a, b) :: r, 0 => by simp [repCells]
  | (a, b) :: r, i + 1 => by
    rw [show (i + 1) * 2 = i * 2 + 1 + 1 from by omega]
    simp only [repCells, List.drop_succ_cons, repCells_drop r i]
theorem repCells_append : ∀ (A B : List (Int × Int)), repCells (A ++ B) = repCells A ++ repCells B
  | [], B => rfl
  | (a, b) :: r, B => by simp [repCells, repCells_append r B]

/-- Values laid one behind the other. -/
def setL : List Value → Nat → List Value → List Value
  | xs, _, [] => xs
  | xs, o, v :: r => setL (xs.set o v) (o + 1) r
theorem setL_len : ∀ (cs xs : List Value) (o : Nat), (setL xs o cs).length = xs.length
  | [], xs, o => rfl
  | v :: r, xs, o => by simp [setL, setL_len r]
theorem setL_at : ∀ (cs xs : List Value) (o j : Nat), j < xs.length → (setL xs o cs)[j]? = if o ≤ j ∧ j < o + cs.length then cs[j - o]? else xs[j]?
  | [], xs, o, j, hj => by simp [setL]; intro _ _; omega
  | v :: r, xs, o, j, hj => by
    rw [setL, setL_at r (xs.set o v) (o + 1) j (by simpa using hj)]
    by_cases h1 : o + 1 ≤ j ∧ j < o + 1 + r.length
    · rw [if_pos h1, if_pos ⟨by omega, by simp; omega⟩, show j - o = (j - (o + 1)) + 1 from by omega]
      simp
    · rw [if_neg h1]
      by_cases h2 : o = j
      · subst h2
        rw [if_pos ⟨Nat.le_refl _, by simp⟩]
        simp [List.getElem?_set, hj]
      · rw [if_neg (by simp only [List.length_cons]; omega), List.getElem?_set_ne (by omega)]
theorem setL_eq (xs cs : List Value) (o : Nat) (h : o + cs.length ≤ xs.length) : setL xs o cs = xs.take o ++ cs ++ xs.drop (o + cs.length) := by
  apply List.ext_getElem?
  intro j
  by_cases hj : j < xs.length
  · rw [setL_at _ _ _ _ hj]
    by_cases h1 : j < o
    · rw [if_neg (by omega), List.append_assoc, List.getElem?_append_left (by simp; omega), List.getElem?_take, if_pos h1]
    · by_cases h2 : j < o + cs.length
      · rw [if_pos ⟨by omega, h2⟩, List.append_assoc, List.getElem?_append_right (by simp; omega), List.getElem?_append_left (by simp; omega)]
        simp [Nat.min_eq_left (show o ≤ xs.length from by omega)]
      · rw [if_neg (by omega), List.getElem?_append_right (by simp; omega), List.getElem?_drop]
        congr 1
        simp
        omega
  · rw [List.getElem?_eq_none (by rw [setL_len]; omega), List.getElem?_eq_none (by simp; omega)]

theorem RepRow.setCells {g cap : Nat} : ∀ (cs : List Value) (o : Nat) {w : World} {xs : List Value}, RepRow w g cap xs → RepRow (w.setCells g o cs) g cap (setL xs o cs)
  | [], _, _, _, h => h
  | v :: r, o, _, _, h => RepRow.setCells r (o + 1) (h.set o v)
theorem But.setCells {g : Nat} {x : World} : ∀ (cs : List Value) (o : Nat) {y : World}, But g x y → But g x (y.setCells g o cs)
  | [], _, _, h => h
  | v :: r, o, _, h => But.setCells r (o + 1) (h.set o v)

/-- 'clear(s)', s a slice of answers. -/
theorem run_clear_rep (w : World) (ty : TypeId) (b o n c : Nat) (hn : 0 < n) (hc : ∀ j, j < n * 2 → (w.cell? ⟨b, o + j, none⟩).isSome = true) (hf : ∀ j, j < n * 2 → w.frozen? ⟨b, o + j, none⟩ = false) :
    (Builtin.clear_ #[46] ty #[.slice (some ⟨b, o, none⟩) n c]).run Try.prog w = .ok (.tuple #[]) (w.setCells b o (List.replicate (n * 2) (.int .i64 0))) := by
  have hzc : (Builtin.zeroCells (Value.cells (.agg #[.int .i64 0, .int .i64 0])) n).toList = List.replicate (n * 2) (.int .i64 0) := by
    simp [Builtin.zeroCells, Value.cells]
    apply List.ext_getElem
    · simp
    · intro i h1 h2
      simp
      have : i % 2 = 0 ∨ i % 2 = 1 := by omega
      rcases this with h | h <;> simp [h]
  have hst := run_storeCells_cells (P := Try.prog) b o (List.replicate (n * 2) (.int .i64 0)) 0 w (by simpa using hc) (by simpa using hf) (by intro v hv'; rw [List.eq_of_mem_replicate hv']; rfl)
  simp only [Nat.add_zero] at hst
  have hv : (zeroValue 78).run Try.prog w = .ok (.agg #[.int .i64 0, .int .i64 0]) w := by kernel_rfl
  obtain ⟨m, rfl⟩ : ∃ m, n = m + 1 := ⟨n - 1, by omega⟩
  simp [Builtin.clear_, run_underlying Try.underlying46, hv, hzc, hst]

theorem keptAfter_take {ack : Int} {L : List (Int × Int)} {k : Nat} (h : k < L.length) : keptAfter ack (L.take (k + 1)) = keptAfter ack (L.take k) ++ (if ack < (L[k]).1 then [L[k]] else []) := by
  unfold keptAfter
  rw [List.take_succ_eq_append_getElem h, List.filter_append]
  by_cases hp : ack < (L[k]).1 <;> simp [hp]

theorem RepRow.at {w : World} {g cap : Nat} {A : List (Int × Int)} (h : RepRow w g cap (repCells A)) {k : Nat} (hk : k < A.length) :
    w.cell? ⟨g, k * 2, none⟩ = Option.some (.int .i64 (A[k]).1) ∧ w.cell? ⟨g, k * 2 + 1, none⟩ = Option.some (.int .i64 (A[k]).2) := by
  have e := repCells_at A k (A[k]).1 (A[k]).2 (by rw [List.getElem?_eq_getElem hk])
  rw [Nat.mul_comm k 2]
  exact ⟨h.cell _ _ e.1, h.cell _ _ e.2⟩
theorem RepRow.store {w : World} {g cap : Nat} {A : List (Int × Int)} (h : RepRow w g cap (repCells A)) (k : Nat) (q v : Int) :
    RepRow ((w.setCell ⟨g, k * 2, none⟩ (.int .i64 q)).setCell ⟨g, k * 2 + 1, none⟩ (.int .i64 v)) g cap (repCells (A.set k (q, v))) := by
  rw [repCells_set]
  exact (h.set _ _).set _ _

set_option maxHeartbeats 4000000 in
theorem delete_some (g sb cap : Nat) (ack q v : Int) (l L : List (Int × Int)) (hL : L = (q, v) :: l) (w : World) (hr : RepRow w g cap (repCells L)) (hne : sb ≠ g) (hs : w.cell? ⟨sb, 1, none⟩ = some (.int .i64 ack)) (hq : q ≤ ack) :
    Calls Try.prog 73 #[.slice (some ⟨g, 0, none⟩) L.length cap, delF sb] w fun e w' => ∃ kv', KeptOn g w' kv' (keptAfter ack L) ∧ e = .returned kv' ∧ But g w w' := by
  have hK : KeptOn g w (.slice (some ⟨g, 0, none⟩) L.length cap) L := .inr ⟨cap, rfl, hr⟩
  have HI : Hid (Calls Try.prog 81 #[.slice (some ⟨g, 0, none⟩) L.length cap, delF sb] w fun e w' => e = .returned (.int .i64 0) ∧ Keeps w w') := index_first sb ack q v l _ w (by rw [← hL]; exact hK.kept) hs hq
  have HR : Hid (RepRow w g cap (repCells L)) := hr
  have h0 : 0 < L.length := by rw [hL]; simp
  have hcp : L.length ≤ cap ∧ cap ≤ maxLen := by obtain ⟨cur, _, _, h3, h4, _⟩ := hr; rw [repCells_len] at h4; exact ⟨by omega, h3⟩
  obtain ⟨hcp1, hcp2⟩ := hcp
  unfold maxLen at hcp2
  have HT1 : Hid (L.take 0 = keptAfter ack (L.take 1)) := by
    show _ = _
    rw [hL]
    simp [keptAfter]
    omega
  have HS : Hid (∀ W, But g w W → W.cell? ⟨sb, 1, none⟩ = some (.int .i64 ack)) := fun W h => h.at hs hne
  have hf := fnc74
  clear hK hr hL hs
  generalize hn : L.length = n at *
  go_enter Try.func73, Try.ntmps73
  go_wp2_with fail
  refine HI.out.mono ?_
  rintro e w1 ⟨rfl, hb⟩
  have HK1 : Hid (But g w w1) := But.of hb
  have HR1 : Hid (RepRow w1 g cap (repCells L)) := HR.out.keep hb
  clear hb
  go_wp2_with fail
  go_loopw [5, 6] (fun i j wr => ∃ (a k : Nat) (A : List (Int × Int)), i = .int .i64 a ∧ j = .int .i64 k ∧ a < k ∧ k ≤ n ∧ A.length = n ∧ Hid (A.take a = keptAfter ack (L.take k)) ∧ Hid (A.drop k = L.drop k) ∧ Hid (RepRow wr g cap (repCells A)) ∧ Hid (But g w wr)) (fun _ j _ => n - (intOf j).toNat)
  case atStart => exact ⟨0, 1, L, rfl, rfl, by omega, by omega, hn, HT1, rfl, HR1, HK1⟩
  case round =>
    obtain ⟨a, k, A, rfl, rfl, hak, hkn, hAn, HT, HD, HR, HB⟩ := hrel
    by_cases hlt : k < n
    · have hkA : k < A.length := by omega
      have haA : a < A.length := by omega
      have hkL : k < L.length := by omega
      have hAk : A[k] = L[k] := by
        have h1 : (A.drop k)[0]? = (L.drop k)[0]? := by rw [HD.out]
        rw [List.getElem?_drop, List.getElem?_drop, Nat.add_zero, List.getElem?_eq_getElem hkA, List.getElem?_eq_getElem hkL] at h1
        exact Option.some.inj h1
      obtain ⟨c0, c1⟩ := HR.out.at hkA
      obtain ⟨d0, d1⟩ := HR.out.at haA
      have HKT : Hid (keptAfter ack (L.take (k + 1)) = keptAfter ack (L.take k) ++ (if ack < (L[k]).1 then [L[k]] else [])) := keptAfter_take hkL
      have HLk : Hid (A[k] = (A[k].1, A[k].2)) := rfl
      have HD' : Hid (A.drop (k + 1) = L.drop (k + 1)) := by
        show _ = _
        have := HD.out
        rw [List.drop_eq_getElem_cons hkA, List.drop_eq_getElem_cons hkL] at this
        exact (List.cons.inj this).2
      rw [← hAk] at HKT
      generalize hAkk : A[k] = z at *
      obtain ⟨zq, zv⟩ := z
      have hlb : g < wr.heap.size := HR.out.lt
      generalize A[a] = y at *
      have hbx : ∀ W, Keeps wr W → W.cell? ⟨sb, 1, none⟩ = some (.int .i64 ack) := fun W h => HS.out W (HB.out.keeps h)
      have HBX : Hid (∀ W, Keeps wr W → W.cell? ⟨sb, 1, none⟩ = some (.int .i64 ack)) := hbx
      clear hbx hAk
      by_cases hq2 : ack < zq
      · have hd : decide (zq ≤ ack) = false := by simp; omega
        go_wp2_with fail
        refine (gone_c sb ack zq zv _ (HBX.out _ ((Keeps.refl _).alloc _))).mono ?_
        rintro e w2 ⟨rfl, hb2⟩
        have b0 : w2.cell? ⟨wr.heap.size, 0, none⟩ = some (.int .i64 zq) := cell_kept (by simp [go_sem]) hb2
        have b1 : w2.cell? ⟨wr.heap.size, 1, none⟩ = some (.int .i64 zv) := cell_kept (by simp [go_sem]) hb2
        have hk2 : Keeps wr w2 := ((Keeps.refl _).alloc _).trans hb2
        have d0 := cell_kept d0 hk2
        have d1 := cell_kept d1 hk2
        have HR2 : Hid (RepRow w2 g cap (repCells A)) := HR.out.keep hk2
        have HB2 : Hid (But g w w2) := HB.out.keeps hk2
        have hfz := fun i => HR2.out.frozen i
        have hl2 := World.block_lt_of_cell? _ _ b0
        have hl3 := HR2.out.lt
        simp only [] at hl2
        have hne2 : ¬ (wr.heap.size = g) := by omega
        clear hb2 hk2
        go_wp2_with fail
        go_roundw
        case rel =>
          refine ⟨a + 1, k + 1, A.set a (zq, zv), by go_num, by go_num, by omega, by omega, by simpa using hAn, ?_, ?_, ?_, ?_⟩
          · show _ = _
            rw [HKT.out, if_pos hq2, ← HT.out, List.take_succ_eq_append_getElem (by simpa using haA), List.take_set_of_le (Nat.le_refl _)]
            simp
          · show _ = _
            rw [List.drop_set_of_lt (by omega), HD'.out]
          · exact HR2.out.store a zq zv
          · exact (HB2.out.set _ _).set _ _
        case measure => simp [intOf]; omega
      · have hd : decide (zq ≤ ack) = true := by simp; omega
        go_wp2_with fail
        refine (gone_c sb ack zq zv _ (HBX.out _ ((Keeps.refl _).alloc _))).mono ?_
        rintro e w2 ⟨rfl, hb2⟩
        have hk2 : Keeps wr w2 := ((Keeps.refl _).alloc _).trans hb2
        have HR2 : Hid (RepRow w2 g cap (repCells A)) := HR.out.keep hk2
        have HB2 : Hid (But g w w2) := HB.out.keeps hk2
        clear hb2 hk2
        go_wp2_with fail
        go_roundw
        case rel =>
          refine ⟨a, k + 1, A, rfl, by go_num, by omega, by omega, hAn, ?_, HD', HR2, HB2⟩
          show _ = _
          rw [HKT.out, if_neg (by omega), HT.out, List.append_nil]
        case measure => simp [intOf]; omega
    · have hkn' : k = n := by omega
      subst hkn'
      have hcl : ∀ ty, (Builtin.clear_ #[46] ty #[.slice (some ⟨g, a * 2, none⟩) (k - a) (cap - a)]).run Try.prog wr = .ok (.tuple #[]) (wr.setCells g (a * 2) (List.replicate ((k - a) * 2) (.int .i64 0))) :=
        fun ty => run_clear_rep wr ty g (a * 2) (k - a) (cap - a) (by omega) (fun j hj => by obtain ⟨u, hu⟩ := HR.out.some (a * 2 + j) (by omega); rw [hu]; rfl) (fun j _ => HR.out.frozen _)
      have HF : Hid (A.take a = keptAfter ack L) := by
        show _ = _
        rw [HT.out, List.take_of_length_le (by omega)]
      clear HT HD
      go_wp2_with fail
      go_ret
      refine ⟨_, ?_, rfl, HB.out.setCells _ _⟩
      rw [← HF.out]
      refine .inr ⟨cap, by simp [hAn]; omega, ?_⟩
      have h1 := (HR.out.setCells (List.replicate ((k - a) * 2) (.int .i64 0)) (a * 2)).take (a * 2)
      rw [setL_eq _ _ _ (by rw [repCells_len]; simp; omega), List.append_assoc, List.take_append_of_le_length (by rw [List.length_take, repCells_len]; omega), List.take_take, Nat.min_self, repCells_take] at h1
      exact h1

/-- slices.DeleteFunc, of answers that rise. -/
theorem delete_c (g sb : Nat) (ack : Int) (l : List (Int × Int)) (kv : Value) (w : World) (hk : KeptOn g w kv l) (h3 : l.length ≤ 3) (hne : sb ≠ g) (hs : w.cell? ⟨sb, 1, none⟩ = some (.int .i64 ack)) (hrise : ∀ r ∈ l, (l.headD r).1 ≤ r.1) :
    Calls Try.prog 73 #[kv, delF sb] w fun e w' => ∃ kv', KeptOn g w' kv' (keptAfter ack l) ∧ e = .returned kv' ∧ But g w w' := by
  cases hl : l with
  | nil =>
    subst hl
    exact delete_none g sb ack [] kv w hk h3 hs (by simp)
  | cons r t =>
    obtain ⟨q, v⟩ := r
    by_cases hq : q ≤ ack
    · rcases hk with ⟨_, h⟩ | ⟨cap, rfl, hr⟩
      · rw [h] at hl; cases hl
      · rw [← hl]
        exact delete_some g sb cap ack q v t l hl w hr hne hs hq
    · rw [← hl]
      refine delete_none g sb ack l kv w hk h3 hs (fun r hr => ?_)
      have := hrise r hr
      rw [hl] at this
      simp at this
      omega
end Go.Proofs.Yteabfjpajgakiab

/- Applying: slices.Insert of an answer. -/
set_option linter.unusedSimpArgs false
set_option linter.unusedVariables false
set_option maxRecDepth 10000
namespace Go.Proofs.Yteabfjpajgakiab
open Go.RowKit

theorem KeptOn.of_owns_at {base g n c : Nat} {w : World} {l : List (Int × Int)} (h : w.ownsRow base 78 2 (.slice (some ⟨g, 0, none⟩) n c) l.length (repCells l)) : KeptOn g w (.slice (some ⟨g, 0, none⟩) n c) l := by
  obtain ⟨g', hk, _⟩ := KeptOn.of_owns h
  rcases hk with ⟨e, _⟩ | ⟨cap, e, hr⟩
  · cases e
  · injection e with e1 e2 e3
    injection e1 with e1
    injection e1 with e1
    subst e1 e2 e3
    exact .inr ⟨_, rfl, hr⟩
theorem But.of_grown {g : Nat} {w w' : World} {row : Option Nat} (h : w.grownBy w' row) (hr : ∀ k, row = some k → k = g) : But g w w' :=
  ⟨h.os, h.tape, h.output, h.size, fun k hk hne => h.block k hk (fun e => hne (hr k e.symm))⟩

theorem vb_cells {w : World} {vb : Nat} {q x : Int} (hv : w.heap[vb]? = some (.cells #[.int .i64 q, .int .i64 x] 78 (0, 0))) : ∀ j u, [Value.int .i64 q, .int .i64 x][j]? = some u → w.cell? ((⟨vb, 0, none⟩ : Addr).add j) = some u := by
  intro j u hu
  rw [Addr.add_lit, Nat.zero_add]
  simp [World.cell?, hv]
  simpa using hu

/-- 'append(kept, answer)'. -/
theorem run_put_end (w : World) (g vb : Nat) (A : List (Int × Int)) (q x : Int) (kv : Value) (hk : KeptOn g w kv A) (h3 : A.length ≤ 3) (hv : w.heap[vb]? = some (.cells #[.int .i64 q, .int .i64 x] 78 (0, 0))) :
    ∃ g' kv' w', (Builtin.append_ #[46, 46] 46 #[kv, .slice (some ⟨vb, 0, none⟩) 1 1]).run Try.prog w = .ok kv' w' ∧ KeptOn g' w' kv' (A ++ [(q, x)]) ∧ (g' = g ∨ w.heap.size ≤ g') ∧ But g w w' := by
  obtain ⟨i, hi, hz, hs, hb⟩ := info_parts infoRep
  have hl : [Value.int .i64 q, .int .i64 x].length = 1 * 2 := rfl
  have h1 : ∀ u ∈ [Value.int .i64 q, .int .i64 x], u.oneCell' = true := by intro u hu; simp at hu; rcases hu with rfl | rfl <;> rfl
  have hc := vb_cells hv
  have happ : repCells A ++ [Value.int .i64 q, .int .i64 x] = repCells (A ++ [(q, x)]) := by rw [repCells_append]; rfl
  rcases hk with ⟨rfl, rfl⟩ | ⟨cap, rfl, hr⟩
  · obtain ⟨v', w', hrun, ho, hg, _⟩ := run_append_own (P := Try.prog) w w.heap.size 46 46 78 i _ 2 16 Try.underlying46 hi hz hs hb rfl (by decide) (.slice none 0 0) 0 [] (World.ownsRow_nil _ _ _ _) ⟨vb, 0, none⟩ 1 1 _ hl hc h1 (by unfold maxLen; omega) (by omega) (Nat.le_refl _)
    have ho' : w'.ownsRow w.heap.size 78 2 v' [(q, x)].length (repCells [(q, x)]) := ho
    obtain ⟨g', hk', hge, _⟩ := KeptOn.of_owns ho'
    exact ⟨g', v', w', hrun, hk', .inr hge, But.of_grown hg (fun k h => by cases h)⟩
  · have hown := KeptOn.owns (.inr ⟨cap, rfl, hr⟩ : KeptOn g w (.slice (some ⟨g, 0, none⟩) A.length cap) A)
    have hlt := hr.lt
    obtain ⟨v', w', hrun, ho, hg, _⟩ := run_append_own (P := Try.prog) w g 46 46 78 i _ 2 16 Try.underlying46 hi hz hs hb rfl (by decide) _ _ _ hown ⟨vb, 0, none⟩ 1 1 _ hl hc h1 (by unfold maxLen; omega) (by omega) (by omega)
    have hbut : But g w w' := But.of_grown hg (fun k h => by simp [Value.ownBlock] at h; exact h.symm)
    rw [happ] at ho
    have hlen : A.length + 1 = (A ++ [(q, x)]).length := by simp
    rw [hlen] at ho
    obtain ⟨cur, h1', h2, h3', h4, h5⟩ := hr
    by_cases hroom : A.length + 1 ≤ cap
    · have hr2 := run_append_room (P := Try.prog) w 46 46 78 i Try.underlying46 hi g A.length cap cur h1' ⟨vb, 0, none⟩ 1 1 _ (by rw [hs]; exact hl) hc h1 hroom (by rw [hs, h2]; simp; omega)
      rw [hrun] at hr2
      injection hr2 with e1 e2
      subst e1
      exact ⟨g, _, w', hrun, KeptOn.of_owns_at ho, .inl rfl, hbut⟩
    · have hr2 := run_append_grow (P := Try.prog) w 46 46 78 i _ Try.underlying46 hi hz ⟨g, 0, none⟩ A.length cap (repCells A) (by rw [hs, repCells_len]) (hown.cells (g := g) rfl) ⟨vb, 0, none⟩ 1 1 _ (by rw [hs]; exact hl) hc (by omega) (by omega) (by rw [hb]; exact growslice_fits (by omega) (by omega))
      rw [hrun] at hr2
      injection hr2 with e1 e2
      subst e1
      exact ⟨w.heap.size, _, w', hrun, KeptOn.of_owns_at ho, .inr (Nat.le_refl _), hbut⟩

/-- 'copy(d, s)' between rows of answers. -/
theorem run_copy_rep (w : World) (ty : TypeId) (b o dLen dCap : Nat) (a : Addr) (sLen sCap : Nat) (cs : List Value) (hn : cs.length = Nat.min sLen dLen * 2)
    (hsrc : ∀ j v, cs[j]? = some v → w.cell? (a.add j) = some v) (hc : ∀ j, j < cs.length → (w.cell? ⟨b, o + j, none⟩).isSome = true) (hf : ∀ j, j < cs.length → w.frozen? ⟨b, o + j, none⟩ = false) (h1 : ∀ v ∈ cs, v.oneCell' = true) :
    (Builtin.copy_ #[46, 46] ty #[.slice (some ⟨b, o, none⟩) dLen dCap, .slice (some a) sLen sCap]).run Try.prog w = .ok (goInt (Nat.min sLen dLen)) (w.setCells b o cs) := by
  have hl := run_loadCells_list (P := Try.prog) w a cs hsrc
  have hst := run_storeCells_cells (P := Try.prog) b o cs 0 w (by simpa using hc) (by simpa using hf) h1
  obtain ⟨i, hi, hz, hs, hb⟩ := info_parts infoRep
  simp [Builtin.copy_, run_underlying Try.underlying46, Builtin.lenOf, Builtin.firstCells, sizeOf, typeInfo, hi, hs, ← hn, hl, hst]

/-- .. as a step of the walk. -/
theorem wpList_copy_run {P : Program} {w w' : World} {ops : Array Oper} {rest : List Oper} {o : Oper} {a : Act} {Q : Exit → Act → World → Prop} {v x v' : Value} (hgd : o.guard = none) (s y : Operand) (t : TypeId)
    (ho : o.op = .call { callee := .builtin .copy, args := #[s, y], argTypes := #[t, t] }) (hs : a.eval s = v) (hx : a.eval y = x)
    (hr : (Builtin.copy_ #[t, t] o.type #[v, x]).run P w = .ok v' w') (h : wpList P ops Q rest (a.put o.dst v') w') : wpList P ops Q (o :: rest) a w := by
  refine wpList_plain hgd fun K hK => ?_
  unfold Oper.wp
  simp [execOp, ho, resolve, invoke, builtin, hs, hx, hr, Result.andThen]
  exact hK _ _ h
/-- .. and as a step of a region that draws. -/
theorem step_copy_run {P : Program} {ops : Array Oper} {o : Oper} {a : Act} {w w' : World} {K : Act → World → Prop} {Q : Exit → Act → World → Prop} {E : Prop} {v x v' : Value} (hgd : o.guard = none) (s y : Operand) (t : TypeId)
    (ho : o.op = .call { callee := .builtin .copy, args := #[s, y], argTypes := #[t, t] }) (hs : a.eval s = v) (hx : a.eval y = x)
    (hr : (Builtin.copy_ #[t, t] o.type #[v, x]).run P w = .ok v' w') (hK : K (a.put o.dst v') w') : if Region.wanted o (yielded ops a.tmps) = true then Oper.wp P o a w K Q else E := by
  have hw : Region.wanted o (yielded ops a.tmps) = true := by simp [Region.wanted, hgd]
  rw [if_pos hw]
  unfold Oper.wp
  simp [execOp, ho, resolve, invoke, builtin, hs, hx, hr, Result.andThen]
  exact hK

theorem insert_end (g vb : Nat) (A : List (Int × Int)) (q x : Int) (kv : Value) (w : World) (hk : KeptOn g w kv A) (h3 : A.length ≤ 3) (hv : w.heap[vb]? = some (.cells #[.int .i64 q, .int .i64 x] 78 (0, 0))) :
    Calls Try.prog 85 #[kv, .int .i64 A.length, .slice (some ⟨vb, 0, none⟩) 1 1] w fun e w' => ∃ g' kv', KeptOn g' w' kv' (A ++ [(q, x)]) ∧ (g' = g ∨ w.heap.size ≤ g') ∧ e = .returned kv' ∧ But g w w' := by
  obtain ⟨g', kv', w', hr, hk', hor, hb⟩ := run_put_end w g vb A q x kv hk h3 hv
  have Hr := (show Hid (_ = _) from hr)
  obtain ⟨ka, kc, rfl, hlen⟩ := hk.kept.len
  have hcap : A.length ≤ kc ∧ kc ≤ maxLen := by
    rcases hk with ⟨e, h⟩ | ⟨cap, e, cur, _, _, h4, h5, _⟩
    · injection e with _ _ e; rw [h, e]; exact ⟨Nat.le_refl _, by unfold maxLen; omega⟩
    · injection e with _ _ e; rw [repCells_len] at h5; subst e; exact ⟨by omega, h4⟩
  obtain ⟨hc1, hc2⟩ := hcap
  unfold maxLen at hc2
  clear hr hk hv
  generalize A.length = n at *
  go_enter Try.func85, Try.ntmps85
  go_wp2_with (at_builtin; refine wpList_append_run rfl _ _ _ rfl rfl rfl Hr.out ?_)
  all_goals go_ret
  all_goals exact ⟨g', kv', hk', hor, rfl, hb⟩

theorem over_no (w : World) (g vb o lb cb cap : Nat) (q x : Int) (xs : List Value) (hr : RepRow w g cap xs) (hc : 0 < cap) (hv : w.heap[vb]? = some (.cells #[.int .i64 q, .int .i64 x] 78 (0, 0))) (hne : vb ≠ g) :
    (callFunc 87 #[.slice (some ⟨vb, 0, none⟩) 1 1, .slice (some ⟨g, o, none⟩) lb cb]).run Try.prog w = .ok (.value (.bool false)) w := by
  obtain ⟨cur, h1, h2, _⟩ := hr
  have hz : ∀ w, (Go.sizeOf 78).run Try.prog w = .ok 2 w := fun _ => by kernel_rfl
  rw [run_callFunc_extern Try.func87 (by kernel_rfl) (by kernel_rfl) (by kernel_rfl) (e := Extern.SlicesOverlaps.overlaps #[46, 46] #[4]) (by kernel_rfl),
    Lib.run_overlaps_apart w 46 4 78 Try.underlying46 2 hz ⟨vb, 0, none⟩ ⟨g, o, none⟩ 1 1 lb cb hne 78 78 2 cur.size (by simp [World.shape?, hv]) (by simp [World.shape?, h1]) (by omega) (by simp [World.frozen?, hv]) (by simp [World.frozen?, hv])]
  rfl
end Go.Proofs.Yteabfjpajgakiab

/- Applying: slices.Insert of an answer, in the middle. -/
set_option linter.unusedSimpArgs false
set_option linter.unusedVariables false
set_option maxRecDepth 10000
namespace Go.Proofs.Yteabfjpajgakiab
open Go.RowKit

theorem RepRow.drew {w : World} {g cap : Nat} {xs : List Value} (h : RepRow w g cap xs) : RepRow w.drew g cap xs := h.keep (Keeps.refl _).drew
/-- The row, with as much of the spare room as is wanted. -/
theorem RepRow.more {w : World} {g cap : Nat} {xs : List Value} (h : RepRow w g cap xs) (n : Nat) (h1 : xs.length ≤ n) (h2 : n ≤ cap * 2) : ∃ ys : List Value, ys.length = n - xs.length ∧ RepRow w g cap (xs ++ ys) := by
  obtain ⟨cur, e1, e2, e3, e4, e5⟩ := h
  refine ⟨(cur.toList.take n).drop xs.length, by simp; omega, cur, e1, e2, e3, by simp; omega, ?_⟩
  have hl : (cur.toList.take n).length = n := by simp; omega
  rw [List.length_append, List.length_drop, hl, show xs.length + (n - xs.length) = n from by omega]
  have hx : xs = (cur.toList.take n).take xs.length := by rw [List.take_take, Nat.min_eq_left h1, e5]
  exact (List.take_append_drop xs.length (cur.toList.take n)).symm.trans (congrArg (· ++ _) hx.symm)

theorem ins_list (A : List (Int × Int)) (i : Nat) (ys : List Value) (q x : Int) (hi : i < A.length) (hy : ys.length = 2) :
    setL (setL (repCells A ++ ys) ((i + 1) * 2) (repCells (A.drop i))) (i * 2) [.int .i64 q, .int .i64 x] = repCells (A.take i ++ (q, x) :: A.drop i) := by
  have hA : A = A.take i ++ A.drop i := (List.take_append_drop _ _).symm
  have hl : (repCells (A.drop i)).length = (A.length - i) * 2 := by rw [repCells_len, List.length_drop]
  have hlA : (repCells A).length = A.length * 2 := repCells_len _
  rw [setL_eq _ _ ((i + 1) * 2) (by rw [List.length_append, hl, hlA, hy]; omega)]
  rw [show ((i + 1) * 2 + (repCells (A.drop i)).length) = (repCells A ++ ys).length from by rw [List.length_append, hl, hlA, hy]; omega, List.drop_length, List.append_nil]
  rw [setL_eq _ _ (i * 2) (by rw [List.length_append, List.length_take, List.length_append, hl, hlA, hy]; simp; omega)]
  have ht : (List.take ((i + 1) * 2) (repCells A ++ ys)).length = (i + 1) * 2 := by rw [List.length_take, List.length_append, hlA, hy]; omega
  rw [List.take_append_of_le_length (by rw [ht]; omega), List.take_take, Nat.min_eq_left (by omega), List.take_append_of_le_length (by rw [hlA]; omega), repCells_take]
  rw [show i * 2 + [Value.int .i64 q, .int .i64 x].length = (i + 1) * 2 from by simp; omega]
  rw [show List.drop ((i + 1) * 2) (List.take ((i + 1) * 2) (repCells A ++ ys) ++ repCells (A.drop i)) = repCells (A.drop i) from List.drop_left' ht]
  rw [repCells_append]
  simp [repCells]

set_option maxHeartbeats 4000000 in
theorem insert_shift (g vb cap i : Nat) (A : List (Int × Int)) (q x : Int) (w : World) (hr : RepRow w g cap (repCells A)) (hi : i < A.length) (h3 : A.length ≤ 3) (hroom : A.length + 1 ≤ cap) (hv : w.heap[vb]? = some (.cells #[.int .i64 q, .int .i64 x] 78 (0, 0))) (hne : vb ≠ g) :
    Calls Try.prog 85 #[.slice (some ⟨g, 0, none⟩) A.length cap, .int .i64 i, .slice (some ⟨vb, 0, none⟩) 1 1] w fun e w' => ∃ g' kv', KeptOn g' w' kv' (A.take i ++ (q, x) :: A.drop i) ∧ (g' = g ∨ w.heap.size ≤ g') ∧ e = .returned kv' ∧ But g w w' := by
  have hcm : cap ≤ maxLen := hr.choose_spec.2.2.1
  unfold maxLen at hcm
  have hov : ∀ lb cb, (callFunc 87 #[.slice (some ⟨vb, 0, none⟩) 1 1, .slice (some ⟨g, (i + 1) * 2, none⟩) lb cb]).run Try.prog w = .ok (.value (.bool false)) w := fun lb cb => over_no w g vb _ lb cb cap q x _ hr (by omega) hv hne
  have hdl : (repCells (A.drop i)).length = (A.length - i) * 2 := by rw [repCells_len, List.length_drop]
  have hcs : ∀ j v, (repCells (A.drop i))[j]? = some v → w.cell? ⟨g, i * 2 + j, none⟩ = some v := fun j v hj => hr.cell _ _ (by rw [← repCells_drop, List.getElem?_drop] at hj; exact hj)
  have hcp1 : ∀ ty dc sc, (Builtin.copy_ #[46, 46] ty #[.slice (some ⟨g, (i + 1) * 2, none⟩) (A.length - i) dc, .slice (some ⟨g, i * 2, none⟩) (A.length + 1 - i) sc]).run Try.prog w.drew = .ok (goInt (Nat.min (A.length + 1 - i) (A.length - i))) (w.drew.setCells g ((i + 1) * 2) (repCells (A.drop i))) := fun ty dc sc =>
    run_copy_rep w.drew ty g ((i + 1) * 2) _ dc ⟨g, i * 2, none⟩ _ sc _ (by rw [hdl]; simp only [Nat.min_def]; split <;> omega) (fun j v hj => by rw [Addr.add_lit]; exact hcs j v hj)
      (fun j hj => by obtain ⟨u, hu⟩ := hr.drew.some ((i + 1) * 2 + j) (by omega); rw [hu]; rfl) (fun j _ => hr.drew.frozen _) (repCells_one _)
  obtain ⟨ys, hys, hr2⟩ := hr.more ((A.length + 1) * 2) (by rw [repCells_len]; omega) (by omega)
  have hy2 : ys.length = 2 := by rw [hys, repCells_len]; omega
  have hr3 : RepRow (w.drew.setCells g ((i + 1) * 2) (repCells (A.drop i))) g cap _ := RepRow.setCells (repCells (A.drop i)) ((i + 1) * 2) hr2.drew
  have hvc : ∀ j u, [Value.int .i64 q, .int .i64 x][j]? = some u → (w.drew.setCells g ((i + 1) * 2) (repCells (A.drop i))).cell? ((⟨vb, 0, none⟩ : Addr).add j) = some u := fun j u hu => by
    rw [Addr.add_lit, Nat.zero_add]
    exact (But.setCells _ _ (But.of (Keeps.refl w).drew)).at (by have := vb_cells hv j u hu; rwa [Addr.add_lit, Nat.zero_add] at this) hne
  have hcp2 : ∀ ty dc, (Builtin.copy_ #[46, 46] ty #[.slice (some ⟨g, i * 2, none⟩) (A.length + 1 - i) dc, .slice (some ⟨vb, 0, none⟩) 1 1]).run Try.prog (w.drew.setCells g ((i + 1) * 2) (repCells (A.drop i))) = .ok (goInt (Nat.min 1 (A.length + 1 - i))) ((w.drew.setCells g ((i + 1) * 2) (repCells (A.drop i))).setCells g (i * 2) [.int .i64 q, .int .i64 x]) := fun ty dc =>
    run_copy_rep _ ty g (i * 2) _ dc ⟨vb, 0, none⟩ 1 1 [.int .i64 q, .int .i64 x] (by simp only [Nat.min_def]; split <;> simp <;> omega) hvc
      (fun j hj => by obtain ⟨u, hu⟩ := hr3.some (i * 2 + j) (by simp at hj; omega); rw [hu]; rfl) (fun j _ => hr3.frozen _) (by intro u hu; simp at hu; rcases hu with rfl | rfl <;> rfl)
  have HF : Hid (KeptOn g ((w.drew.setCells g ((i + 1) * 2) (repCells (A.drop i))).setCells g (i * 2) [.int .i64 q, .int .i64 x]) (.slice (some ⟨g, 0, none⟩) (A.length + 1) cap) (A.take i ++ (q, x) :: A.drop i)) := by
    refine .inr ⟨cap, by simp; omega, ?_⟩
    have := RepRow.setCells [.int .i64 q, .int .i64 x] (i * 2) hr3
    rw [ins_list A i ys q x hi hy2] at this
    exact this
  have HB : Hid (But g w ((w.drew.setCells g ((i + 1) * 2) (repCells (A.drop i))).setCells g (i * 2) [.int .i64 q, .int .i64 x])) := But.setCells _ _ (But.setCells _ _ (But.of (Keeps.refl w).drew))
  have hw1 : IntKind.i64.wrap ((i : Int) + 1) = (i : Int) + 1 := by rw [IntKind.wrap_i64]; omega
  have htn : ((i : Int) + 1).toNat = i + 1 := by omega
  have htn2 : ((A.length : Int) + 1).toNat = A.length + 1 := by omega
  have hb2 : ¬ (cap = i + 1) := by omega
  have hb4 : ¬ (cap = i) := by omega
  have hb1 : (0 : Int) ≤ (i : Int) + 1 := by omega
  have hin : i ≤ A.length := by omega
  have hb3 : (i : Int) ≤ (A.length : Int) + 1 := by omega
  clear hr hr2 hr3 hys hy2 hvc hcs hv
  generalize A.length = n at *
  generalize (w.drew.setCells g ((i + 1) * 2) (repCells (A.drop i))) = W1 at *
  go_enter Try.func85, Try.ntmps85
  go_wp2_with (simp only [hov])
  go_region_law (refine step_copy_run rfl _ _ 46 rfl (by simp [Act.eval, Act.put]) (by simp [Act.eval, Act.put]) (hcp1 _ _ _) ?_)
  go_wp2_with (at_builtin; refine wpList_copy_run rfl _ _ _ rfl rfl rfl (hcp2 _ _) ?_)
  go_ret
  exact ⟨g, _, HF.out, .inl rfl, rfl, HB.out⟩

theorem ins_list2 (A : List (Int × Int)) (i : Nat) (zs : List Value) (q x : Int) (hi : i < A.length) (hz : zs.length = (A.length + 1 - i) * 2) :
    setL (setL (repCells (A.take i) ++ zs) (i * 2) [.int .i64 q, .int .i64 x]) ((i + 1) * 2) (repCells (A.drop i)) = repCells (A.take i ++ (q, x) :: A.drop i) := by
  have hl : (repCells (A.drop i)).length = (A.length - i) * 2 := by rw [repCells_len, List.length_drop]
  have ht : (repCells (A.take i)).length = i * 2 := by rw [repCells_len, List.length_take, Nat.min_eq_left (by omega)]
  rw [setL_eq _ _ (i * 2) (by rw [List.length_append, ht, hz]; simp; omega)]
  rw [List.take_left' ht]
  have hq : (repCells (A.take i) ++ [Value.int .i64 q, .int .i64 x]).length = (i + 1) * 2 := by rw [List.length_append, ht]; simp; omega
  have hd : (List.drop (i * 2 + [Value.int .i64 q, .int .i64 x].length) (repCells (A.take i) ++ zs)).length = (A.length - i) * 2 := by rw [List.length_drop, List.length_append, ht, hz]; simp; omega
  generalize List.drop (i * 2 + [Value.int .i64 q, .int .i64 x].length) (repCells (A.take i) ++ zs) = D at *
  generalize hT : repCells (A.take i) ++ [Value.int .i64 q, .int .i64 x] = T at *
  rw [setL_eq _ _ ((i + 1) * 2) (by rw [List.length_append, hq, hd, hl]; omega)]
  have e : List.drop ((i + 1) * 2 + (repCells (A.drop i)).length) (T ++ D) = [] := List.drop_of_length_le (by rw [List.length_append, hq, hd, hl]; omega)
  rw [e, List.take_left' hq, List.append_nil, ← hT, repCells_append]
  simp [repCells]

set_option maxHeartbeats 4000000 in
theorem insert_grow (g vb cap i : Nat) (A : List (Int × Int)) (q x : Int) (w : World) (hr : RepRow w g cap (repCells A)) (hi : i < A.length) (h3 : A.length ≤ 3) (hroom : cap < A.length + 1) (hv : w.heap[vb]? = some (.cells #[.int .i64 q, .int .i64 x] 78 (0, 0))) (hne : vb ≠ g) :
    Calls Try.prog 85 #[.slice (some ⟨g, 0, none⟩) A.length cap, .int .i64 i, .slice (some ⟨vb, 0, none⟩) 1 1] w fun e w' => ∃ g' kv', KeptOn g' w' kv' (A.take i ++ (q, x) :: A.drop i) ∧ (g' = g ∨ w.heap.size ≤ g') ∧ e = .returned kv' ∧ But g w w' := by
  have hcl : A.length ≤ cap := by obtain ⟨cur, _, _, _, h4, _⟩ := hr; rw [repCells_len] at h4; omega
  obtain ⟨i0, hi0, hz0, hzs, hzb⟩ := info_parts infoRep
  have hglt := hr.lt
  have hvlt : vb < w.heap.size := (Array.getElem?_eq_some_iff.1 hv).1
  have hdl : (repCells (A.drop i)).length = (A.length - i) * 2 := by rw [repCells_len, List.length_drop]
  have hcs : ∀ j v, (repCells (A.drop i))[j]? = some v → w.cell? ⟨g, i * 2 + j, none⟩ = some v := fun j v hj => hr.cell _ _ (by rw [← repCells_drop, List.getElem?_drop] at hj; exact hj)
  have hold : (Builtin.firstCells i0.size i (.slice (some ⟨g, 0, none⟩) i cap)).run Try.prog w.drew = .ok (repCells (A.take i)).toArray w.drew := by
    rw [hzs]
    refine run_firstCells_some w.drew 2 i ⟨g, 0, none⟩ i cap (repCells (A.take i)) (by rw [repCells_len, List.length_take]; omega) (fun j v hj => ?_)
    rw [Addr.add_lit, Nat.zero_add]
    rw [← repCells_take, List.getElem?_take] at hj
    split at hj
    · exact hr.cell j v hj
    · cases hj
  have hkk : (A.length : Int) + 1 - (i : Int) = ((A.length + 1 - i : Nat) : Int) := by omega
  have hrz := Lib.run_append_grow_zeros (P := Try.prog) w 46 3 46 78 i0 _ .i64 .i64 Try.underlying46 Try.underlying3 hi0 hz0 (some ⟨g, 0, none⟩) i cap (repCells (A.take i)) hold (A.length + 1 - i) (by omega) (by omega) (by omega) (by omega) (by rw [hzb]; omega) (by rw [hzb, show i + (A.length + 1 - i) = A.length + 1 from by omega]; exact growslice_fits hroom (by omega))
  rw [show i + (A.length + 1 - i) = A.length + 1 from by omega, ← hkk] at hrz
  obtain ⟨G, hG⟩ : ∃ G, G = grownCap w (A.length + 1) cap 78 := ⟨_, rfl⟩
  have hGn : A.length + 1 ≤ G := by rw [hG]; exact grownCap_ge w _ _ _
  have hGm : G ≤ maxLen := by rw [hG]; exact grownCap_le_maxLen w (A.length + 1) cap 78 (by unfold maxLen; omega)
  rw [← hG] at hrz
  obtain ⟨W1, hW1⟩ : ∃ W1, W1 = (w.drew.alloc (.cells ((repCells (A.take i)).toArray ++ Builtin.zeroCells (Value.cells (.agg #[.int .i64 0, .int .i64 0])) (A.length + 1 - i) ++ Builtin.zeroCells (Value.cells (.agg #[.int .i64 0, .int .i64 0])) (G - (A.length + 1))) 78)) := ⟨_, rfl⟩
  rw [← hW1] at hrz
  have hlt : (repCells (A.take i)).length = i * 2 := by rw [repCells_len, List.length_take, Nat.min_eq_left (by omega)]
  obtain ⟨zs, hzs1⟩ : ∃ zs : List Value, zs = (Builtin.zeroCells (Value.cells (.agg #[.int .i64 0, .int .i64 0])) (A.length + 1 - i)).toList := ⟨_, rfl⟩
  have hzl : zs.length = (A.length + 1 - i) * 2 := by rw [hzs1, Array.length_toList, size_zeroCells]; rfl
  have hr1 : RepRow W1 w.heap.size G (repCells (A.take i) ++ zs) := by
    refine ⟨_, by rw [hW1]; exact heap_alloc_new w.drew _, ?_, hGm, by rw [List.length_append, hlt, hzl]; omega, ?_⟩
    · simp only [Array.size_append, List.size_toArray, size_zeroCells, hlt]
      simp [Value.cells]
      omega
    · rw [Array.toList_append, Array.toList_append, ← hzs1]
      exact List.take_left' rfl
  have hk1 : Keeps w W1 := by rw [hW1]; exact (Keeps.refl _).drew.alloc _
  have hz1 : w.heap.size < W1.heap.size := hr1.lt
  clear hold hW1
  have hvc : ∀ j u, [Value.int .i64 q, .int .i64 x][j]? = some u → W1.cell? ((⟨vb, 0, none⟩ : Addr).add j) = some u := fun j u hu => by
    have := vb_cells hv j u hu
    rw [Addr.add_lit] at this ⊢
    exact cell_kept this hk1
  have hcpA : ∀ ty dc, (Builtin.copy_ #[46, 46] ty #[.slice (some ⟨w.heap.size, i * 2, none⟩) (A.length + 1 - i) dc, .slice (some ⟨vb, 0, none⟩) 1 1]).run Try.prog W1 = .ok (goInt (Nat.min 1 (A.length + 1 - i))) (W1.setCells w.heap.size (i * 2) [.int .i64 q, .int .i64 x]) := fun ty dc =>
    run_copy_rep _ ty w.heap.size (i * 2) _ dc ⟨vb, 0, none⟩ 1 1 [.int .i64 q, .int .i64 x] (by simp only [Nat.min_def]; split <;> simp <;> omega) hvc
      (fun j hj => by obtain ⟨u, hu⟩ := hr1.some (i * 2 + j) (by simp at hj; omega); rw [hu]; rfl) (fun j _ => hr1.frozen _) (by intro u hu; simp at hu; rcases hu with rfl | rfl <;> rfl)
  have hr2 : RepRow (W1.setCells w.heap.size (i * 2) [.int .i64 q, .int .i64 x]) w.heap.size G _ := RepRow.setCells [.int .i64 q, .int .i64 x] (i * 2) hr1
  have hk2 : Keeps w (W1.setCells w.heap.size (i * 2) [.int .i64 q, .int .i64 x]) := But.to hk1 (Nat.le_refl _) (But.setCells _ _ (But.refl _ _))
  generalize hW2 : W1.setCells w.heap.size (i * 2) [.int .i64 q, .int .i64 x] = W2 at *
  have hz2 : w.heap.size < W2.heap.size := hr2.lt
  have hcpB : ∀ ty dc sc, (Builtin.copy_ #[46, 46] ty #[.slice (some ⟨w.heap.size, (i + 1) * 2, none⟩) (A.length - i) dc, .slice (some ⟨g, i * 2, none⟩) (A.length - i) sc]).run Try.prog W2.drew = .ok (goInt (Nat.min (A.length - i) (A.length - i))) (W2.drew.setCells w.heap.size ((i + 1) * 2) (repCells (A.drop i))) := fun ty dc sc =>
    run_copy_rep _ ty w.heap.size ((i + 1) * 2) _ dc ⟨g, i * 2, none⟩ _ sc (repCells (A.drop i)) (by rw [hdl, show Nat.min (A.length - i) (A.length - i) = A.length - i from Nat.min_self _]) (fun j v hj => by rw [Addr.add_lit]; exact cell_kept (hcs j v hj) (hk2.drew))
      (fun j hj => by obtain ⟨u, hu⟩ := hr2.drew.some ((i + 1) * 2 + j) (by omega); rw [hu]; rfl) (fun j _ => hr2.drew.frozen _) (repCells_one _)
  have HF : Hid (KeptOn w.heap.size (W2.drew.setCells w.heap.size ((i + 1) * 2) (repCells (A.drop i))) (.slice (some ⟨w.heap.size, 0, none⟩) (A.length + 1) G) (A.take i ++ (q, x) :: A.drop i)) := by
    refine .inr ⟨G, by simp; omega, ?_⟩
    have := RepRow.setCells (repCells (A.drop i)) ((i + 1) * 2) hr2.drew
    rw [ins_list2 A i zs q x hi hzl] at this
    exact this
  have HB : Hid (But g w (W2.drew.setCells w.heap.size ((i + 1) * 2) (repCells (A.drop i)))) := But.of (But.to hk2.drew (Nat.le_refl _) (But.setCells _ _ (But.refl _ _)))
  have hw1 : IntKind.i64.wrap ((i : Int) + 1) = (i : Int) + 1 := by rw [IntKind.wrap_i64]; omega
  have htn : ((i : Int) + 1).toNat = i + 1 := by omega
  have hGi : ¬ (G = i) := by omega
  have hGi2 : ¬ (G = i + 1) := by omega
  have hci : ¬ (cap = i) := by omega
  have hb1 : (0 : Int) ≤ (i : Int) + 1 := by omega
  have hin : i ≤ A.length := by omega
  have hb3 : (i : Int) ≤ (A.length : Int) + 1 := by omega
  have hG63 : G ≤ 9223372036854775807 := by unfold maxLen at hGm; omega
  have Hrz := (show Hid (_ = _) from hrz)
  clear hr hr1 hr2 hvc hcs hv hrz hkk hlt hzs1 hW2 hk1 hk2 hG hGm hzl
  generalize A.length = n at *
  generalize hWN : w.heap.size = N at *
  go_enter Try.func85, Try.ntmps85
  go_wp2_with (at_builtin; first | (refine Lib.wpList_append_run _ rfl _ _ _ _ rfl _ _ rfl rfl _ _ Hrz.out ?_) | (refine wpList_copy_run rfl _ _ _ rfl rfl rfl (hcpA _ _) ?_))
  go_region_law (refine step_copy_run rfl _ _ 46 rfl (by simp [Act.eval, Act.put]) (by simp [Act.eval, Act.put]) (hcpB _ _ _) ?_)
  go_wp2_with fail
  go_ret
  exact ⟨N, _, HF.out, .inr (Nat.le_refl _), rfl, HB.out⟩

/-- slices.Insert of an answer. -/
theorem insert_c (g vb i : Nat) (A : List (Int × Int)) (q x : Int) (kv : Value) (w : World) (hk : KeptOn g w kv A) (hi : i ≤ A.length) (h3 : A.length ≤ 3) (hv : w.heap[vb]? = some (.cells #[.int .i64 q, .int .i64 x] 78 (0, 0))) (hne : vb ≠ g) :
    Calls Try.prog 85 #[kv, .int .i64 i, .slice (some ⟨vb, 0, none⟩) 1 1] w fun e w' => ∃ g' kv', KeptOn g' w' kv' (A.take i ++ (q, x) :: A.drop i) ∧ (g' = g ∨ w.heap.size ≤ g') ∧ e = .returned kv' ∧ But g w w' := by
  by_cases hlt : i < A.length
  · rcases hk with ⟨_, h⟩ | ⟨cap, rfl, hr⟩
    · rw [h] at hlt; simp at hlt
    · by_cases hroom : A.length + 1 ≤ cap
      · exact insert_shift g vb cap i A q x w hr hlt h3 hroom hv hne
      · exact insert_grow g vb cap i A q x w hr hlt h3 (by omega) hv hne
  · have : i = A.length := by omega
    subst this
    rw [List.take_length, List.drop_length]
    exact insert_end g vb A q x kv w hk h3 hv
end Go.Proofs.Yteabfjpajgakiab
