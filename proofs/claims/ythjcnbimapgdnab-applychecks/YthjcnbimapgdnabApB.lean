/- Applying: checkBoth, the machine's tick. -/
import Derived.Test.YthjcnbimapgdnabApA
import Derived.Test.YthjcnbimapgdnabStD
import Derived.Test.YthjcnbimapgdnabBut
import Derived.Test.YthjcnbimapgdnabSesL
import Derived.Deep.RegionHeld3
import Derived.Deep.DeepCutAuto
set_option linter.unusedSimpArgs false
set_option linter.unusedVariables false
set_option maxRecDepth 10000
namespace Go.Proofs.Ythjcnbimapgdnab
open Go.RowKit

def bothErr (s : St) (e : Ent) : Int := if stErr s == 0 then (if entErr e == 0 then (if s.at_ == 50 then 2 else 0) else entErr e) else stErr s

set_option maxHeartbeats 1000000 in
theorem check_both (s : St) (e : Ent) (x : Value) (w : World) (hT : TabAt w x s.tab) : Calls Try.prog 38 #[stV s x, entV e] w fun y w' => y = .returned (.int .i64 (bothErr s e)) ∧ Keeps w w' := by
  obtain ⟨a, c, rfl, _⟩ := hT.len
  have C1 : Hid (∀ W, Keeps w W → Calls Try.prog 10 #[stV s (.slice a s.tab.length c)] W fun e w' => e = .returned (.int .i64 (stErr s)) ∧ Keeps W w') := fun W hk => state_check s _ W (hT.keep hk)
  clear hT
  have HE : Hid (bothErr s e = if stErr s == 0 then (if entErr e == 0 then (if s.at_ == 50 then 2 else 0) else entErr e) else stErr s) := rfl
  generalize stErr s = se at *
  generalize s.tab.length = n at *
  go_enter Try.func38, Try.ntmps38
  go_wp2_with fail
  refine (C1.out _ (((Keeps.refl _).alloc _).alloc _)).mono ?_
  rintro y w1 ⟨rfl, hb⟩
  clear C1
  have hk1 : Keeps w w1 := (((Keeps.refl _).alloc _).alloc _).trans hb
  cases q1 : (se == 0) with
  | false =>
    have q1' : (se != 0) = true := by simp [bne, q1]
    have HE : Hid (bothErr s e = se) := by show _ = _; rw [HE.out, q1]; rfl
    clear hb
    go_wp2_with fail
    go_ret
    exact ⟨ret_int HE.out.symm, hk1⟩
  | true =>
    have q1' : (se != 0) = false := by simp [bne, q1]
    have z0 : w1.cell? ⟨w.heap.size, 0, none⟩ = some (.int .i64 s.at_) := cell_kept (by simp [go_sem]) hb
    have x0 : w1.cell? ⟨w.heap.size + 1, 0, none⟩ = some (.int .i64 e.kind) := cell_kept (by simp [go_sem]) hb
    have x1 : w1.cell? ⟨w.heap.size + 1, 1, none⟩ = some (.int .i64 e.time) := cell_kept (by simp [go_sem]) hb
    have x2 : w1.cell? ⟨w.heap.size + 1, 2, none⟩ = some (.int .i64 e.client) := cell_kept (by simp [go_sem]) hb
    have x3 : w1.cell? ⟨w.heap.size + 1, 3, none⟩ = some (.int .i64 e.seq) := cell_kept (by simp [go_sem]) hb
    have x4 : w1.cell? ⟨w.heap.size + 1, 4, none⟩ = some (.int .i64 e.ack) := cell_kept (by simp [go_sem]) hb
    have x5 : w1.cell? ⟨w.heap.size + 1, 5, none⟩ = some (.int .i64 e.ok) := cell_kept (by simp [go_sem]) hb
    have x6 : w1.cell? ⟨w.heap.size + 1, 6, none⟩ = some (.int .i64 e.okey) := cell_kept (by simp [go_sem]) hb
    have x7 : w1.cell? ⟨w.heap.size + 1, 7, none⟩ = some (.int .i64 e.oto) := cell_kept (by simp [go_sem]) hb
    have x8 : w1.cell? ⟨w.heap.size + 1, 8, none⟩ = some (.int .i64 e.on) := cell_kept (by simp [go_sem]) hb
    have hlt := World.block_lt_of_cell? _ _ x8
    simp only [] at hlt
    clear hb
    go_wp2_with fail
    refine (ent_check e _).mono ?_
    rintro y w2 ⟨rfl, hb⟩
    have hk2 : Keeps w w2 := hk1.trans hb
    have z0 := cell_kept z0 hb
    have hlt := Nat.lt_of_lt_of_le hlt hb.size
    clear hb x0 x1 x2 x3 x4 x5 x6 x7 x8
    cases q2 : (entErr e == 0) with
    | false =>
      have q2' : (entErr e != 0) = true := by simp [bne, q2]
      have HE : Hid (bothErr s e = entErr e) := by show _ = _; rw [HE.out, q1, q2]; rfl
      go_wp2_with fail
      go_ret
      exact ⟨ret_int HE.out.symm, hk2⟩
    | true =>
      have q2' : (entErr e != 0) = false := by simp [bne, q2]
      cases q3 : (s.at_ == 50) with
      | false =>
        have HE : Hid (bothErr s e = 0) := by show _ = _; rw [HE.out, q1, q2, q3]; rfl
        go_wp2_with fail
        go_ret
        exact ⟨ret_int HE.out.symm, hk2⟩
      | true =>
        have HE : Hid (bothErr s e = 2) := by show _ = _; rw [HE.out, q1, q2, q3]; rfl
        go_wp2_with fail
        go_ret
        exact ⟨ret_int HE.out.symm, hk2⟩

/-- The state that the machine has, in its box. -/
structure StBox (b : Nat) (s : St) (t : Value) (w : World) : Prop where
  c0 : w.cell? ⟨b, 0, none⟩ = some (.int .i64 s.at_)
  c1 : w.cell? ⟨b, 1, none⟩ = some (.int .i64 s.clock)
  c2 : w.cell? ⟨b, 2, none⟩ = some (.int .i64 s.v0)
  c3 : w.cell? ⟨b, 3, none⟩ = some (.int .i64 s.v1)
  c4 : w.cell? ⟨b, 4, none⟩ = some (.int .i64 s.v2)
  c5 : w.cell? ⟨b, 5, none⟩ = some (.int .i64 s.v3)
  c6 : w.cell? ⟨b, 6, none⟩ = some t
  fz : ∀ i, w.frozen? ⟨b, i, none⟩ = false

theorem StBox.lt {b : Nat} {s : St} {t : Value} {w : World} (h : StBox b s t w) : b < w.heap.size := World.block_lt_of_cell? _ _ h.c0
theorem StBox.keep {b : Nat} {s : St} {t : Value} {w w' : World} (h : StBox b s t w) (hk : Keeps w w') : StBox b s t w' :=
  ⟨cell_kept h.c0 hk, cell_kept h.c1 hk, cell_kept h.c2 hk, cell_kept h.c3 hk, cell_kept h.c4 hk, cell_kept h.c5 hk, cell_kept h.c6 hk, fun i => (Below.frozen hk (p := ⟨b, i, none⟩) h.lt).trans (h.fz i)⟩
theorem StBox.other {b b' : Nat} {s : St} {t : Value} {w w' : World} (h : StBox b s t w) (hk : But b' w w') (hb : b ≠ b') : StBox b s t w' :=
  ⟨hk.at h.c0 hb, hk.at h.c1 hb, hk.at h.c2 hb, hk.at h.c3 hb, hk.at h.c4 hb, hk.at h.c5 hb, hk.at h.c6 hb, fun i => (hk.frozen (p := ⟨b, i, none⟩) h.lt hb).trans (h.fz i)⟩
theorem StBox.set {b : Nat} {s s' : St} {t t' : Value} {w : World} (h : StBox b s t w) (i : Nat) (u : Value)
    (h0 : .int .i64 s'.at_ = if i = 0 then u else .int .i64 s.at_) (h1 : .int .i64 s'.clock = if i = 1 then u else .int .i64 s.clock) (h2 : .int .i64 s'.v0 = if i = 2 then u else .int .i64 s.v0) (h3 : .int .i64 s'.v1 = if i = 3 then u else .int .i64 s.v1)
    (h4 : .int .i64 s'.v2 = if i = 4 then u else .int .i64 s.v2) (h5 : .int .i64 s'.v3 = if i = 5 then u else .int .i64 s.v3) (h6 : t' = if i = 6 then u else t) : StBox b s' t' (w.setCell ⟨b, i, none⟩ u) := by
  have go : ∀ j x y, w.cell? ⟨b, j, none⟩ = some x → y = (if i = j then u else x) → (w.setCell ⟨b, i, none⟩ u).cell? ⟨b, j, none⟩ = some y := fun j x y hx hy => by
    by_cases hij : i = j
    · subst hij
      rw [if_pos rfl] at hy
      subst hy
      exact World.cell?_setCell_same _ _ _ hx
    · rw [if_neg hij] at hy
      subst hy
      rw [World.cell?_setCell_other _ _ _ _ (by intro e; injection e with _ e _; exact hij e)]
      exact hx
  exact ⟨go _ _ _ h.c0 h0, go _ _ _ h.c1 h1, go _ _ _ h.c2 h2, go _ _ _ h.c3 h3, go _ _ _ h.c4 h4, go _ _ _ h.c5 h5, go _ _ _ h.c6 h6, fun j => (World.frozen?_setCell _ _ _ _).trans (h.fz j)⟩

theorem StBox.set_at {b : Nat} {s : St} {t : Value} {w : World} (h : StBox b s t w) (n : Int) : StBox b { s with at_ := n } t (w.setCell ⟨b, 0, none⟩ (.int .i64 n)) := h.set (s' := { s with at_ := n }) (t' := t) 0 _ rfl rfl rfl rfl rfl rfl rfl
theorem StBox.set_clock {b : Nat} {s : St} {t : Value} {w : World} (h : StBox b s t w) (n : Int) : StBox b { s with clock := n } t (w.setCell ⟨b, 1, none⟩ (.int .i64 n)) := h.set (s' := { s with clock := n }) (t' := t) 1 _ rfl rfl rfl rfl rfl rfl rfl
theorem StBox.set_tab {b : Nat} {s : St} {t : Value} {w : World} (h : StBox b s t w) (L : List Ses) (u : Value) : StBox b { s with tab := L } u (w.setCell ⟨b, 6, none⟩ u) := h.set (s' := { s with tab := L }) (t' := u) 6 _ rfl rfl rfl rfl rfl rfl rfl

theorem StBox.clock_drew {b : Nat} {s : St} {t : Value} {w : World} (h : StBox b s t w) (n m : Int) (e : n = m) : StBox b { s with clock := m } t (w.setCell ⟨b, 1, none⟩ (.int .i64 n)).drew := by
  subst e
  exact (h.set_clock n).keep (Keeps.refl _).drew

abbrev macV (b : Nat) : Value := .agg #[.pointer (some ⟨b, 0, none⟩)]

def ticked (s : St) (time : Int) : St := ⟨s.at_ + 1, max s.clock time, s.v0, s.v1, s.v2, s.v3, freshTab s.tab (max s.clock time)⟩

theorem stErr_in {s : St} (h : stErr s = 0) : stIn s = true ∧ tabErr s.tab = 0 ∧ seenAll s.clock s.tab = true := by
  unfold stErr at h
  split at h
  · rename_i h1
    split at h
    · rename_i h2
      split at h
      · rename_i h3
        exact ⟨h1, by simpa using h2, h3⟩
      · cases h
    · rename_i h2
      simp [h] at h2
  · cases h

theorem stErr_bounds {s : St} (h : stErr s = 0) : (0 ≤ s.at_ ∧ s.at_ ≤ 50) ∧ (0 ≤ s.clock ∧ s.clock ≤ 999) := by
  have h1 := (stErr_in h).1
  simp only [stIn, Bool.and_eq_true] at h1
  exact ⟨inB_iff.1 h1.2.1, inB_iff.1 h1.2.2⟩

set_option maxHeartbeats 4000000 in
theorem tick_c (s : St) (b : Nat) (x : Value) (time : Int) (w : World) (hB : StBox b s x w) (hT : TabFar b w x s.tab) (hs : stErr s = 0) (ht0 : 0 ≤ time) (ht1 : time ≤ 999) :
    Calls Try.prog 39 #[macV b, .int .i64 time] w fun y w' => y = .returned (.tuple #[]) ∧ ∃ x', StBox b (ticked s time) x' w' ∧ OwnTab w.heap.size w' x' (ticked s time).tab ∧ But b w w' := by
  have hbl := hB.lt
  obtain ⟨⟨ha0, ha1⟩, hc0, hc1⟩ := stErr_bounds hs
  obtain ⟨xa, xc, rfl, _⟩ := hT.tab.len
  go_enter Try.func39, Try.ntmps39
  have c0 := hB.c0
  have hfz := hB.fz
  go_wp2_with fail
  have B1 : StBox b ⟨s.at_ + 1, s.clock, s.v0, s.v1, s.v2, s.v3, s.tab⟩ (.slice xa s.tab.length xc) ((w.setCell ⟨b, 0, none⟩ (.int .i64 (s.at_ + 1))).alloc (.cells #[.pointer (some ⟨b, 0, none⟩)] 62)) := (hB.set_at _).keep ((Keeps.refl _).alloc _)
  have m1 : ((w.setCell ⟨b, 0, none⟩ (.int .i64 (s.at_ + 1))).alloc (.cells #[.pointer (some ⟨b, 0, none⟩)] 62)).cell? ⟨w.heap.size, 0, none⟩ = some (.pointer (some ⟨b, 0, none⟩)) := by simp [go_sem]
  have k1 : But b w ((w.setCell ⟨b, 0, none⟩ (.int .i64 (s.at_ + 1))).alloc (.cells #[.pointer (some ⟨b, 0, none⟩)] 62)) := ((But.refl _ _).set 0 _).keeps ((Keeps.refl _).alloc _)
  generalize ((w.setCell ⟨b, 0, none⟩ (.int .i64 (s.at_ + 1))).alloc (.cells #[.pointer (some ⟨b, 0, none⟩)] 62)) = w1 at *
  have HB1 : Hid (StBox b ⟨s.at_ + 1, s.clock, s.v0, s.v1, s.v2, s.v3, s.tab⟩ (.slice xa s.tab.length xc) w1) := B1
  have HK1 : Hid (But b w w1) := k1
  have HT : Hid (TabFar b w (.slice xa s.tab.length xc) s.tab) := hT
  clear hB hT c0 hfz B1 k1
  go_cut [20] (fun sl wc => StBox b ⟨s.at_ + 1, max s.clock time, s.v0, s.v1, s.v2, s.v3, s.tab⟩ (.slice xa s.tab.length xc) wc ∧ But b w wc ∧ wc.cell? ⟨w.heap.size, 0, none⟩ = some (.pointer (some ⟨b, 0, none⟩)))
  case first =>
    have c1 := HB1.out.c1
    have hfz := HB1.out.fz
    have hl1 := HB1.out.lt
    have hlm := World.block_lt_of_cell? _ _ m1
    simp only [] at hlm
    go_region
    all_goals go_wp2_with fail
    all_goals go_meet
    all_goals exact ⟨HB1.out.clock_drew _ _ (by omega), (HK1.out.set 1 _).keeps (Keeps.refl _).drew, by simp [go_sem, m1]⟩
  case rest =>
    obtain ⟨hB2, hK2, m2⟩ := hcut
    have hin : inB (max s.clock time) 0 999 = true := inB_iff.2 (by omega)
    have hte := (stErr_in hs).2.1
    have F : Hid (∀ W, TabAt W (.slice xa s.tab.length xc) s.tab → Calls Try.prog 53 #[.slice xa s.tab.length xc, .int .i64 (max s.clock time)] W fun e w' => ∃ va n vc, OwnTab W.heap.size w' (.slice va n vc) (freshTab s.tab (max s.clock time)) ∧ e = .returned (.tuple #[.slice va n vc, .int .i64 0]) ∧ Keeps W w') := fun W hW => by
      have := sess_fresh s.tab _ (max s.clock time) W hW
      have e1 : freshErr s.tab (max s.clock time) = 0 := by simp [freshErr, hte, hin]
      have e2 : frTab s.tab (max s.clock time) = freshTab s.tab (max s.clock time) := by simp [frTab, e1]
      rw [e1, e2] at this
      refine this.mono ?_
      rintro e w' ⟨v', ho, rfl, hk⟩
      obtain ⟨va, vc, rfl, _⟩ := ho.tab.len
      exact ⟨va, _, vc, ho, rfl, hk⟩
    have HT2 : Hid (TabAt wc (.slice xa s.tab.length xc) s.tab) := HT.out wc hK2
    have HB2 : Hid (StBox b ⟨s.at_ + 1, max s.clock time, s.v0, s.v1, s.v2, s.v3, s.tab⟩ (.slice xa s.tab.length xc) wc) := hB2
    have HK2 : Hid (But b w wc) := hK2
    have c1 := hB2.c1
    have c6 := hB2.c6
    have hfz := hB2.fz
    have hl2 := hB2.lt
    have hlm := World.block_lt_of_cell? _ _ m2
    simp only [] at hlm
    have HM2 : Hid (wc.drew.cell? ⟨w.heap.size, 0, none⟩ = some (.pointer (some ⟨b, 0, none⟩))) := m2
    have HKS : Hid (∀ n, (ticked s time) = { (⟨s.at_ + 1, max s.clock time, s.v0, s.v1, s.v2, s.v3, n⟩ : St) with tab := freshTab s.tab (max s.clock time) }) := fun _ => rfl
    clear hB2 hK2 HB1 HK1 m1 hin hte
    generalize max s.clock time = mx at *
    go_wp2_with fail
    refine wp_region_held_drew (S := fun w' => w'.cell? ⟨w.heap.size, 0, none⟩ = some (.pointer (some ⟨b, 0, none⟩)) ∧ w'.cell? ⟨b, 1, none⟩ = some (.int .i64 mx)) (by kernel_rfl) ⟨HM2.out, c1⟩ (fun hS => ?_)
    refine wpAnyH_take (i := 0) (v := .pointer (some ⟨w.heap.size, 0, none⟩)) rfl (by kernel_rfl) (by kernel_rfl) (by kernel_rfl) (fun _ _ _ h => h) (Or.inl ⟨by rfl, ?_⟩) hS ?_
    · intro w hS; go_simp
    refine wpAnyH_take (i := 1) (v := .pointer (some ⟨b, 0, none⟩)) rfl (by kernel_rfl) (by kernel_rfl) (by kernel_rfl) (fun _ _ _ h => h) (Or.inl ⟨by rfl, ?_⟩) hS ?_
    · intro w hS; go_simp
    refine wpAnyH_take (i := 2) (v := .pointer (some ⟨w.heap.size, 0, none⟩)) rfl (by kernel_rfl) (by kernel_rfl) (by kernel_rfl) (fun _ _ _ h => h) (Or.inl ⟨by rfl, ?_⟩) hS ?_
    · intro w hS; go_simp
    refine wpAnyH_take (i := 3) (v := .pointer (some ⟨b, 0, none⟩)) rfl (by kernel_rfl) (by kernel_rfl) (by kernel_rfl) (fun _ _ _ h => h) (Or.inl ⟨by rfl, ?_⟩) hS ?_
    · intro w hS; go_simp
    refine wpAnyH_take (i := 4) (v := .pointer (some ⟨b, 0, none⟩)) rfl (by kernel_rfl) (by kernel_rfl) (by kernel_rfl) (fun _ _ _ h => h) (Or.inl ⟨by rfl, ?_⟩) hS ?_
    · intro w hS; go_simp
    refine wpAnyH_take (i := 5) (v := .pointer (some ⟨b, 6, none⟩)) rfl (by kernel_rfl) (by kernel_rfl) (by kernel_rfl) (fun _ _ _ h => h) (Or.inl ⟨by rfl, ?_⟩) hS ?_
    · intro w hS; go_simp
    refine wpAnyH_take (i := 7) (v := .pointer (some ⟨w.heap.size, 0, none⟩)) rfl (by kernel_rfl) (by kernel_rfl) (by kernel_rfl) (fun _ _ _ h => h) (Or.inl ⟨by rfl, ?_⟩) hS ?_
    · intro w hS; go_simp
    refine wpAnyH_take (i := 8) (v := .pointer (some ⟨b, 0, none⟩)) rfl (by kernel_rfl) (by kernel_rfl) (by kernel_rfl) (fun _ _ _ h => h) (Or.inl ⟨by rfl, ?_⟩) hS ?_
    · intro w hS; go_simp
    refine wpAnyH_take (i := 9) (v := .pointer (some ⟨b, 0, none⟩)) rfl (by kernel_rfl) (by kernel_rfl) (by kernel_rfl) (fun _ _ _ h => h) (Or.inl ⟨by rfl, ?_⟩) hS ?_
    · intro w hS; go_simp
    refine wpAnyH_take (i := 10) (v := .pointer (some ⟨b, 1, none⟩)) rfl (by kernel_rfl) (by kernel_rfl) (by kernel_rfl) (fun _ _ _ h => h) (Or.inl ⟨by rfl, ?_⟩) hS ?_
    · intro w hS; go_simp
    refine wpAnyH_take (i := 11) (v := .int .i64 mx) rfl (by kernel_rfl) (by kernel_rfl) (by kernel_rfl) (fun _ _ _ h => h) (Or.inl ⟨by rfl, ?_⟩) hS ?_
    · intro w hS; go_simp
    refine wpAnyH_ready (rs := [6]) (by kernel_rfl) (by simp) ?_
    refine AllReadyH.cons rfl (fun K hK => ?_) AllReadyH.nil
    go_simp
    refine hK.out _ _ (hS) (fun hS => ?_)
    clear hK K
    refine wpAnyH_ready (rs := [12]) (by kernel_rfl) (by simp) ?_
    refine AllReadyH.cons rfl (fun K hK => ?_) AllReadyH.nil
    go_simp
    refine (F.out _ (HT2.out.keep (Keeps.refl _).drew)).mono ?_
    rintro e w2 ⟨va, n2, vc, ho, rfl, hb⟩
    have d1 := HB2.out.keep ((Keeps.refl _).drew.trans hb)
    have d6 := d1.c6
    have dz := d1.fz
    have dl := d1.lt
    have hm2 := cell_kept HM2.out hb
    go_simp
    refine hK.out _ _ (⟨hm2, d1.c1⟩) (fun hS => ?_)
    clear hK K
    refine wpAnyH_take (i := 13) (v := .tuple #[.slice va n2 vc, .int .i64 0]) rfl (by kernel_rfl) (by kernel_rfl) (by kernel_rfl) (fun _ _ _ h => h) (Or.inl ⟨by rfl, ?_⟩) hS ?_
    · intro w hS; go_simp
    refine wpAnyH_take (i := 14) (v := .slice va n2 vc) rfl (by kernel_rfl) (by kernel_rfl) (by kernel_rfl) (fun _ _ _ h => h) (Or.inl ⟨by rfl, ?_⟩) hS ?_
    · intro w hS; go_simp
    refine wpAnyH_take (i := 15) (v := .int .i64 0) rfl (by kernel_rfl) (by kernel_rfl) (by kernel_rfl) (fun _ _ _ h => h) (Or.inl ⟨by rfl, ?_⟩) hS ?_
    · intro w hS; go_simp
    refine wpAnyH_take (i := 16) (v := .pointer (some ⟨b, 0, none⟩)) rfl (by kernel_rfl) (by kernel_rfl) (by kernel_rfl) (fun _ _ _ h => h) (Or.inl ⟨by rfl, ?_⟩) hS ?_
    · intro w hS; go_simp
    refine wpAnyH_take (i := 17) (v := .pointer (some ⟨b, 6, none⟩)) rfl (by kernel_rfl) (by kernel_rfl) (by kernel_rfl) (fun _ _ _ h => h) (Or.inl ⟨by rfl, ?_⟩) hS ?_
    · intro w hS; go_simp
    refine wpAnyH_ready (rs := [18]) (by kernel_rfl) (by simp) ?_
    refine AllReadyH.cons rfl (fun K hK => ?_) AllReadyH.nil
    go_simp
    refine hK.out _ _ (by refine ⟨(World.cell?_setCell_other _ _ _ _ (by intro e; injection e with e _ _; omega)).trans hm2, (World.cell?_setCell_other _ _ _ _ (by intro e; injection e with _ e _; omega)).trans d1.c1⟩) (fun hS => ?_)
    clear hK K
    refine wpAnyH_done (by kernel_rfl) ?_ _
    refine ⟨rfl, .tuple #[], by simp [results, Try.results39], rfl, .slice va n2 vc, ?_, ?_, ?_⟩
    · rw [HKS.out []]
      exact d1.set_tab _ _
    · rw [HKS.out []]
      exact (ho.but (b := b) (by exact hl2) ((But.refl _ _).set 6 _)).base HK2.out.size
    · exact ((HK2.out.keeps (Keeps.refl _).drew).keeps hb).set 6 _
end Go.Proofs.Ythjcnbimapgdnab
