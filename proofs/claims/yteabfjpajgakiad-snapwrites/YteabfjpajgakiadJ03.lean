/- GrowI, StB, StC, StD, SesI, SesJ, SesK, SesL, ApB. -/
import Derived.Deep.RegionHeld3
import Derived.Deep.DeepCutAuto
import Derived.Test.YteabfjpajgakiadJ00
import Derived.Test.YteabfjpajgakiadJ01
import Derived.Test.YteabfjpajgakiadJ02
/- The rule for drawn regions, with an invariant of one's own. -/
set_option linter.unusedSimpArgs false
set_option linter.unusedVariables false
namespace Go.Proofs.Yteabfjpajgakiad
open Go.RowKit

def FrI (xs : List Wr) (I : World → Prop) (i : Nat) (W W' : World) : Prop := ((∀ x ∈ xs, x.num ≠ i) → Keeps W W') ∧ I W' ∧ ∀ x ∈ xs, x.num = i → x.frame W W'
theorem FrI.of {xs : List Wr} {I : World → Prop} {i : Nat} {W W' : World} (h : ∀ x ∈ xs, x.num ≠ i) (h0 : I W') (hk : Keeps W W') : FrI xs I i W W' := ⟨fun _ => hk, h0, fun x hx e => absurd e (h x hx)⟩

/-- What one operation is to do. -/
structure GrowStepI (P : Program) (l : List Oper) (Q : Exit → Act → World → Prop) (a0 : Act) (I : World → Prop) (J : Pr) (ds : List (Option Tmp)) (R : List Pr) (xs : List Wr) (i : Nat) : Prop where
  out : ∀ (vs : Nat → Value) (W : World), I W → ((xs.all fun x => x.num == i || reachB l.toArray l.toArray.size x.num i) = true → J.p undef W) → (∀ j, mayB l.toArray xs i j = true → (prAt R j).p (vs j) W) →
    ∀ K : Act → World → Prop, Shut (∀ a' v W', a' = (fillL ds vs 0 a0).put (ds.getD i none) v → FrI xs I i W W' → (prAt R i).p v W' → K a' W') →
      match l[i]? with
      | none => False
      | some o => if Region.wanted o (yielded l.toArray (fillL ds vs 0 a0).tmps) = true then o.wp P (fillL ds vs 0 a0) W K Q else K ((fillL ds vs 0 a0).put o.dst undef) W

theorem growI_all {P : Program} {l : List Oper} {Q : Exit → Act → World → Prop} {a0 : Act} {I : World → Prop} {J : Pr} {ds : List (Option Tmp)} {R : List Pr} {xs : List Wr} (hds : l.map (·.dst) = ds) (hnd : apartB ds = true) (hG : growB l.toArray = true)
    (hstep : ∀ i, i < l.length → GrowStepI P l Q a0 I J ds R xs i)
    (hF : ∀ x ∈ xs, ∀ j, j < l.length → j ∉ x.dead → j ≠ x.num → reachB l.toArray l.toArray.size j x.num = false → ∀ v W W', (prAt R j).p v W → x.frame W W' → (prAt R j).p v W')
    (hend : ∀ vs W, I W → (∀ i, i < l.length → (∀ x ∈ xs, i ∉ x.dead) → (prAt R i).p (vs i) W) → Q .normal (fillL ds vs 0 a0) W) :
    ∀ c (listed : Array Bool) (vs : Nat → Value) (W : World), cntU listed l.length = c → Listed l.toArray listed → I W → ((∀ x ∈ xs, listed.getD x.num false = false) → J.p undef W) → (∀ i, i < l.length → listed.getD i false = true → (∀ x ∈ xs, listed.getD x.num false = true → i ∉ x.dead) → (prAt R i).p (vs i) W) →
      wpAny P .any l.toArray Q c listed (fillL ds vs 0 a0) W := by
  have G := grow_back hG
  have hN : l.toArray.size = l.length := by simp
  intro c
  induction c with
  | zero =>
    intro listed vs W hc L hk hJ hR
    have hall := cnt_zero l.length hc
    refine ⟨?_, hend vs W hk (fun i hi hd => hR i hi (hall i hi) (fun x hx _ => hd x hx))⟩
    apply List.eq_nil_iff_forall_not_mem.2
    intro i hi
    obtain ⟨h1, o, ho, _⟩ := mem_ready.1 hi
    have hil : i < l.length := by have := size_of ho; omega
    rw [getD_both (by rw [L.size]; omega), hall i hil] at h1
    cases h1
  | succ c ih =>
    intro listed vs W hc L hk hJ hR
    obtain ⟨u, hu, hul⟩ := cnt_pos l.length (by omega : cntU listed l.length ≠ 0)
    refine ⟨fun h0 => ?_, fun i hi => ?_⟩
    · obtain ⟨i, hi⟩ := grow_some G L u u (Nat.le_refl _) (by omega) hul
      rw [h0] at hi
      cases hi
    · obtain ⟨h1, o, ho, ha⟩ := mem_ready.1 hi
      have hin : i < l.length := by have := size_of ho; omega
      have his : i < listed.size := by rw [L.size]; omega
      have hiu : listed.getD i false = false := by rw [← getD_both his]; exact h1
      have hlo : l[i]? = some o := by simpa using ho
      have hdst : o.dst = ds.getD i none ∧ ds[i]? = some (ds.getD i none) := by
        have e1 : (l.map (·.dst))[i]? = some o.dst := by simp [hlo]
        rw [hds] at e1
        have e2 : ds.getD i none = o.dst := by simp [List.getD, e1]
        exact ⟨e2.symm, by rw [e2]; exact e1⟩
      have hs := (hstep i hin).out vs W hk (fun hall => hJ (fun x hx => by
        simp only [List.all_eq_true, Bool.or_eq_true, beq_iff_eq] at hall
        rcases hall x hx with h' | h'
        · rw [h']; exact hiu
        · cases q : listed.getD x.num false with
          | false => rfl
          | true =>
            have := reach_listed L _ x.num i h' q
            rw [hiu] at this
            cases this)) (fun j hw => by
        simp only [mayB, Bool.and_eq_true, List.all_eq_true, Bool.or_eq_true, Bool.not_eq_true', beq_iff_eq] at hw
        obtain ⟨o', ho', e, he, hb, rfl⟩ := waitB_iff hw.1
        rw [ho] at ho'
        cases ho'
        obtain ⟨o2, ho2, hb2⟩ := G i (by omega)
        rw [ho] at ho2
        cases ho2
        refine hR e.on (by have := hb2 e he hb; omega) (ha e he hb) (fun x hx hxl => ?_)
        rcases hw.2 x hx with h' | h' | h'
        · intro hm
          rw [List.contains_iff_mem.2 hm] at h'
          cases h'
        · rw [h', hiu] at hxl; cases hxl
        · have := reach_listed L _ x.num i h' hxl
          rw [hiu] at this
          cases this)
      refine wpOp_step ho (fun K hK => ?_)
      have hs' := hs K (fun a' v W' ha' hfr hv => by
        subst ha'
        refine hK _ _ ?_
        rw [fillL_put ds vs 0 i a0 v hnd hdst.2, Nat.zero_add]
        refine ih (listed.setIfInBounds i true) _ W' (by have := cnt_lt his hiu l.length hin; omega) ⟨by rw [Array.size_setIfInBounds]; exact L.size, ?_⟩ hfr.2.1 ?_ ?_
        · intro j hj o' ho' e he hb
          rw [getD_set his] at hj ⊢
          by_cases hje : j = i
          · subst hje
            rw [ho] at ho'
            cases ho'
            rw [ha e he hb]
            simp
          · rw [if_neg hje] at hj
            rw [L.down j hj o' ho' e he hb]
            simp
        · intro hno
          have hni : ∀ x ∈ xs, x.num ≠ i := fun x hx e => by
            have := hno x hx
            rw [getD_set his, if_pos e] at this
            cases this
          refine J.keep _ _ _ (hJ (fun x hx => ?_)) (hfr.1 hni)
          have := hno x hx
          rw [getD_set his, if_neg (hni x hx)] at this
          exact this
        · intro j hj hjl hjd
          rw [getD_set his] at hjl
          by_cases hje : j = i
          · subst hje
            simp only [if_true]
            exact hv
          · rw [if_neg hje] at hjl
            simp only [if_neg hje]
            have hold : (prAt R j).p (vs j) W := hR j hj hjl (fun x hx hxl => hjd x hx (by rw [getD_set his, hxl, ite_self]))
            by_cases hix : ∃ x, x ∈ xs ∧ x.num = i
            · obtain ⟨x, hx, rfl⟩ := hix
              refine hF x hx j hj (hjd x hx (by rw [getD_set his, if_pos rfl])) hje ?_ _ W W' hold (hfr.2.2 x hx rfl)
              cases q : reachB l.toArray l.toArray.size j x.num with
              | false => rfl
              | true =>
                have := reach_listed L _ j x.num q hjl
                rw [hiu] at this
                cases this
            · exact (prAt R j).keep _ _ _ hold (hfr.1 (fun x hx e => hix ⟨x, hx, e⟩)))
      rw [hlo] at hs'
      simp only at hs'
      exact hs'

/-- THE RULE. -/
theorem wp_region_growI {P : Program} {id : Nat} {Q : Exit → Act → World → Prop} {a0 : Act} {w : World} {l : List Oper} (I : World → Prop) (hI : I w.drew) (J : Pr) (hJ : J.p undef w.drew) (ds : List (Option Tmp)) (R : List Pr) (xs : List Wr) (hm : P.follows .mixedOrders = true) (hds : l.map (·.dst) = ds) (hnd : apartB ds = true) (hG : growB l.toArray = true)
    (hstep : ∀ i, i < l.length → GrowStepI P l Q a0 I J ds R xs i)
    (hF : ∀ x ∈ xs, ∀ j, j < l.length → j ∉ x.dead → j ≠ x.num → reachB l.toArray l.toArray.size j x.num = false → ∀ v W W', (prAt R j).p v W → x.frame W W' → (prAt R j).p v W')
    (hend : ∀ vs W, I W → (∀ i, i < l.length → (∀ x ∈ xs, i ∉ x.dead) → (prAt R i).p (vs i) W) → Q .normal (fillL ds vs 0 a0) W) : (Code.region id l.toArray true).wp P Q a0 w := by
  refine wp_region_any hm ?_
  obtain ⟨vs, hvs⟩ : ∃ vs : Nat → Value, vs = fun i => match ds.getD i none with | some d => a0.tmps.getD d undef | none => undef := ⟨_, rfl⟩
  have key := growI_all hds hnd hG hstep hF hend l.length (Array.replicate l.toArray.size false) vs w.drew
  have hcnt : ∀ k, k ≤ l.toArray.size → cntU (Array.replicate l.toArray.size false) k = k := by
    intro k
    induction k with
    | zero => intro _; rfl
    | succ k ih =>
      intro hk
      simp only [cntU]
      rw [ih (by omega), rep_false]
      simp
  have hfill : ∀ (ds' : List (Option Tmp)) (k : Nat) (vs : Nat → Value), (∀ i d, ds'[i]? = some (some d) → vs (k + i) = a0.tmps.getD d undef) → fillL ds' vs k a0 = a0 := by
    intro ds'
    induction ds' with
    | nil => intro _ _ _; rfl
    | cons d ds' ih =>
      intro k vs h
      simp only [fillL]
      have : a0.put d (vs k) = a0 := by
        cases d with
        | none => rfl
        | some d =>
          have h0 := h 0 d rfl
          rw [Nat.add_zero] at h0
          rw [h0]
          simp only [Act.put]
          congr 1
          apply Array.ext
          · simp
          · intro i h1 h2
            rw [Array.getElem_setIfInBounds]
            split
            · rename_i hdi
              subst hdi
              simp [Array.getD, h2]
            · rfl
      rw [this]
      exact ih (k + 1) vs (fun i d' hd => by rw [← h (i + 1) d' (by simpa using hd)]; congr 1; omega)
  have hf := hfill ds 0 vs (fun i d hd => by rw [hvs]; simp [List.getD, hd])
  rw [hf] at key
  have hsz : l.length = l.toArray.size := by simp
  rw [hsz] at key
  exact key (hcnt _ (Nat.le_refl _)) ⟨by simp, fun j hj => (by rw [rep_false] at hj; cases hj)⟩ hI (fun _ => hJ) (fun i hi hj _ => (by rw [rep_false] at hj; cases hj))
end Go.Proofs.Yteabfjpajgakiad

/- States: valsFine. -/
set_option linter.unusedSimpArgs false
set_option linter.unusedVariables false
namespace Go.Proofs.Yteabfjpajgakiad
open Go.RowKit

def valsIn (v0 v1 v2 v3 : Int) : Bool := inB v0 0 999 && (inB v1 0 999 && (inB v2 0 999 && inB v3 0 999))

set_option maxHeartbeats 2000000 in
theorem st_vals_fine (v0 v1 v2 v3 : Int) (w : World) :
    Calls Try.prog 34 #[.agg #[.int .i64 v0, .int .i64 v1, .int .i64 v2, .int .i64 v3]] w fun e w' => e = .returned (.bool (valsIn v0 v1 v2 v3)) ∧ Keeps w w' := by
  unfold valsIn
  cases q0 : inB v0 0 999 <;> cases q1 : inB v1 0 999 <;> cases q2 : inB v2 0 999 <;> cases q3 : inB v3 0 999 <;>
  · go_enter Try.func34, Try.ntmps34
    go_wp2_with fail
    refine wp_loop_rounds 5 ?_
    rw [rounds_succ]
    go_wp2_with (first | (go_at_call 33; refine (within_c _ _ _ _).mono ?_; rintro e w' ⟨rfl, rfl⟩) | rw [rounds_succ])
    go_ret
    exact ⟨rfl, (Keeps.refl _).alloc _⟩
end Go.Proofs.Yteabfjpajgakiad

/- States: inBounds. -/
set_option linter.unusedSimpArgs false
set_option linter.unusedVariables false
namespace Go.Proofs.Yteabfjpajgakiad
open Go.RowKit

theorem idx4 (v0 v1 v2 v3 : Int) (w : World) : (Instr.index 22 (.agg #[.int .i64 v0, .int .i64 v1, .int .i64 v2, .int .i64 v3]) (.int .i64 0)).run Try.prog w = .ok (.int .i64 v0) w ∧ (Instr.index 22 (.agg #[.int .i64 v0, .int .i64 v1, .int .i64 v2, .int .i64 v3]) (.int .i64 1)).run Try.prog w = .ok (.int .i64 v1) w ∧ (Instr.index 22 (.agg #[.int .i64 v0, .int .i64 v1, .int .i64 v2, .int .i64 v3]) (.int .i64 2)).run Try.prog w = .ok (.int .i64 v2) w ∧ (Instr.index 22 (.agg #[.int .i64 v0, .int .i64 v1, .int .i64 v2, .int .i64 v3]) (.int .i64 3)).run Try.prog w = .ok (.int .i64 v3) w :=
  ⟨by kernel_rfl, by kernel_rfl, by kernel_rfl, by kernel_rfl⟩

def stIn (s : St) : Bool := valsIn s.v0 s.v1 s.v2 s.v3 && (inB s.at_ 0 50 && inB s.clock 0 999)

set_option maxHeartbeats 4000000 in
theorem st_in_bounds (s : St) (x : Value) (w : World) (h : TabAt w x s.tab) :
    Calls Try.prog 59 #[stV s x] w fun e w' => e = .returned (.bool (stIn s)) ∧ Keeps w w' := by
  obtain ⟨a, c, rfl, _⟩ := h.len
  clear h
  obtain ⟨at_, clock, v0, v1, v2, v3, tab⟩ := s
  simp only [stIn, valsIn]
  generalize tab.length = m
  have i0 := fun w => (idx4 v0 v1 v2 v3 w).1
  have i1 := fun w => (idx4 v0 v1 v2 v3 w).2.1
  have i2 := fun w => (idx4 v0 v1 v2 v3 w).2.2.1
  have i3 := fun w => (idx4 v0 v1 v2 v3 w).2.2.2
  cases q0 : inB v0 0 999 <;> cases q1 : inB v1 0 999 <;> cases q2 : inB v2 0 999 <;> cases q3 : inB v3 0 999
  case true.true.true.true =>
    cases q4 : inB at_ 0 50 <;>
    · go_enter Try.func59, Try.ntmps59
      go_wp2_with fail
      refine wp_loop_rounds 5 ?_
      rw [rounds_succ]
      go_wp2_with (first | (go_at_call 56; refine (bound_in _ _ _ _).mono ?_; rintro e w' ⟨rfl, rfl⟩) | rw [rounds_succ])
      go_ret
      exact ⟨rfl, (Keeps.refl _).alloc _⟩
  all_goals
    go_enter Try.func59, Try.ntmps59
    go_wp2_with fail
    refine wp_loop_rounds 5 ?_
    rw [rounds_succ]
    go_wp2_with (first | (go_at_call 56; refine (bound_in _ _ _ _).mono ?_; rintro e w' ⟨rfl, rfl⟩) | rw [rounds_succ])
    go_ret
    exact ⟨rfl, (Keeps.refl _).alloc _⟩
end Go.Proofs.Yteabfjpajgakiad

/- States: Check and StateError. -/
set_option linter.unusedSimpArgs false
set_option linter.unusedVariables false
set_option maxRecDepth 10000
namespace Go.Proofs.Yteabfjpajgakiad
open Go.RowKit

def seenAll (c : Int) : List Ses → Bool
  | [] => true
  | s :: r => inB s.seen (c - 20) c && seenAll c r
theorem seenAll_at {c : Int} {L : List Ses} {k : Nat} (h : k < L.length) : seenAll c (L.drop k) = (inB (L[k]).seen (c - 20) c && seenAll c (L.drop (k + 1))) := by
  rw [List.drop_eq_getElem_cons h]; rfl
def stErr (s : St) : Int := if stIn s then (if tabErr s.tab == 0 then (if seenAll s.clock s.tab then 0 else 1) else tabErr s.tab) else 3

theorem stIn_clock {s : St} (h : stIn s = true) : 0 ≤ s.clock ∧ s.clock ≤ 999 := by
  simp only [stIn, Bool.and_eq_true] at h
  exact inB_iff.1 h.2.2

set_option maxHeartbeats 2000000 in
theorem state_check (s : St) (x : Value) (w : World) (hT : TabAt w x s.tab) :
    Calls Try.prog 29 #[stV s x] w fun e w' => e = .returned (.int .i64 (stErr s)) ∧ Keeps w w' := by
  obtain ⟨a, c, rfl, hlen⟩ := hT.len
  unfold maxLen at hlen
  have HT : Hid (TabAt w (.slice a s.tab.length c) s.tab) := hT
  clear hT
  go_enter Try.func29, Try.ntmps29
  go_wp2_with fail
  refine (st_in_bounds s _ _ (HT.out.keep ((Keeps.refl _).alloc _))).mono ?_
  rintro e w1 ⟨rfl, hb⟩
  have hk1 : Keeps w w1 := ((Keeps.refl _).alloc _).trans hb
  cases hi : stIn s with
  | false =>
    have HE : Hid (stErr s = 3) := by simp [Hid, stErr, hi]
    go_wp2_with fail
    go_ret
    exact ⟨ret_int HE.out.symm, hk1⟩
  | true =>
    obtain ⟨hc0, hc1⟩ := stIn_clock hi
    have x1 : w1.cell? ⟨w.heap.size, 1, none⟩ = some (.int .i64 s.clock) := (Below.cell hb (p := ⟨w.heap.size, 1, none⟩) (by simp)).trans (by simp [go_sem])
    have x6 : w1.cell? ⟨w.heap.size, 6, none⟩ = some (.slice a s.tab.length c) := (Below.cell hb (p := ⟨w.heap.size, 6, none⟩) (by simp)).trans (by simp [go_sem])
    clear hb
    have hlt := World.block_lt_of_cell? _ _ x6
    simp only [] at hlt
    go_wp2_with fail
    refine (sess_check s.tab _ _ (HT.out.keep hk1)).mono ?_
    rintro e w2 ⟨rfl, hb⟩
    have hk2 : Keeps w w2 := hk1.trans hb
    have x1 := cell_kept x1 hb
    have x6 := cell_kept x6 hb
    have hlt := Nat.lt_of_lt_of_le hlt hb.size
    clear hb hk1
    cases he : (tabErr s.tab == 0) with
    | false =>
      have he' : (tabErr s.tab != 0) = true := by simp [bne, he]
      have HE : Hid (stErr s = tabErr s.tab) := by simp [Hid, stErr, hi, he]
      go_wp2_with fail
      go_ret
      exact ⟨ret_int HE.out.symm, hk2⟩
    | true =>
      have he' : (tabErr s.tab != 0) = false := by simp [bne, he]
      have HS : Hid (stErr s = if seenAll s.clock s.tab then 0 else 1) := by simp [Hid, stErr, hi, he]
      clear he hi
      go_wp2_with fail
      go_loopw [18] (fun i wr => ∃ (k : Nat), k ≤ s.tab.length ∧ i = .int .i64 k ∧ Keeps w2 wr ∧ Hid (seenAll s.clock s.tab = seenAll s.clock (s.tab.drop k))) (fun i _ => s.tab.length - (intOf i).toNat)
      case atStart => exact ⟨0, Nat.zero_le _, rfl, Keeps.refl _, rfl⟩
      case round =>
        obtain ⟨k, hk, rfl, hkw, HQ⟩ := hrel
        have x1 := cell_kept x1 hkw
        have hlt := Nat.lt_of_lt_of_le hlt hkw.size
        by_cases hlt2 : k < s.tab.length
        · obtain ⟨b, off, cap', hv, hcell⟩ := (HT.out.keep (hk2.trans hkw)).at hlt2
          injection hv with hv1 hv2 hv3
          subst hv1
          clear hv2 hv3
          obtain ⟨c0, c1, c2, ka, kc, c3, hkv⟩ := hcell k hlt2
          clear hcell hkv
          have HR : Hid (seenAll s.clock s.tab = (inB (s.tab[k]).seen (s.clock - 20) s.clock && seenAll s.clock (s.tab.drop (k + 1)))) := HQ.out.trans (seenAll_at hlt2)
          clear HQ
          generalize s.tab[k] = t at *
          cases hs : inB t.seen (s.clock - 20) s.clock with
          | false =>
            have HE : Hid (stErr s = 1) := by show _ = _; rw [HS.out, HR.out, hs]; rfl
            go_wp2_with (first | (go_at_call 56; refine (bound_in _ _ _ _).mono ?_; rintro e w' ⟨rfl, rfl⟩))
            go_ret
            exact ⟨ret_int HE.out.symm, (hk2.trans hkw).alloc _⟩
          | true =>
            have HN : Hid (seenAll s.clock s.tab = seenAll s.clock (s.tab.drop (k + 1))) := by show _ = _; rw [HR.out, hs]; rfl
            clear HR
            go_wp2_with (first | (go_at_call 56; refine (bound_in _ _ _ _).mono ?_; rintro e w' ⟨rfl, rfl⟩))
            go_roundw
            case rel => exact ⟨k + 1, by omega, by go_num, hkw.alloc _, HN⟩
            case measure => simp [intOf]; omega
        · have HE : Hid (stErr s = 0) := by show _ = _; rw [HS.out, HQ.out, List.drop_of_length_le (by omega)]; rfl
          go_wp2_with fail
          go_ret
          exact ⟨ret_int HE.out.symm, hk2.trans hkw⟩
end Go.Proofs.Yteabfjpajgakiad

/- sess.Drop, sess.Fresh, sess.Put. -/
set_option linter.unusedSimpArgs false
set_option linter.unusedVariables false
namespace Go.Proofs.Yteabfjpajgakiad
open Go.RowKit

end Go.Proofs.Yteabfjpajgakiad

/- sess.Put. -/
set_option linter.unusedSimpArgs false
set_option linter.unusedVariables false
set_option maxRecDepth 10000
namespace Go.Proofs.Yteabfjpajgakiad
open Go.RowKit

end Go.Proofs.Yteabfjpajgakiad

/- The reference's without, fresh, DropOf, FreshOf. -/
set_option linter.unusedSimpArgs false
set_option linter.unusedVariables false
set_option maxRecDepth 10000
namespace Go.Proofs.Yteabfjpajgakiad
open Go.RowKit

end Go.Proofs.Yteabfjpajgakiad

/- The reference's PutOf. -/
set_option linter.unusedSimpArgs false
set_option linter.unusedVariables false
set_option maxRecDepth 10000
namespace Go.Proofs.Yteabfjpajgakiad
open Go.RowKit

/-- The cells of a table at a known address. -/
theorem TabAt.cells {w : World} {b off cap : Nat} {L : List Ses} (h : TabAt w (.slice (some ⟨b, off, none⟩) L.length cap) L) (i : Nat) (hi : i < L.length) (o : Ses) (ho : L[i] = o) :
    w.cell? ⟨b, off + i * 4, none⟩ = some (.int .i64 o.client) ∧ w.cell? ⟨b, off + i * 4 + 1, none⟩ = some (.int .i64 o.acked) ∧
        w.cell? ⟨b, off + i * 4 + 2, none⟩ = some (.int .i64 o.seen) ∧ ∃ ka kc, w.cell? ⟨b, off + i * 4 + 3, none⟩ = some (.slice ka o.kept.length kc) ∧ KeptAt w (.slice ka o.kept.length kc) o.kept := by
  obtain ⟨b', off', cap', hv, hcell⟩ := h.at hi
  injection hv with h1 _ _
  injection h1 with h1
  injection h1 with h1 h2 _
  subst h1 h2 ho
  exact hcell i hi

end Go.Proofs.Yteabfjpajgakiad

/- Applying: checkBoth, the machine's tick. -/
set_option linter.unusedSimpArgs false
set_option linter.unusedVariables false
set_option maxRecDepth 10000
namespace Go.Proofs.Yteabfjpajgakiad
open Go.RowKit

/-- The state that the machine has, in its box. -/
structure StBox (b : Nat) (s : St) (t : Value) (w : World) : Prop where
  c0 : w.cell? ⟨b, 0, none⟩ = some (.int .i64 s.at_)
  c1 : w.cell? ⟨b, 1, none⟩ = some (.int .i64 s.clock)
  c2 : w.cell? ⟨b, 2, none⟩ = some (.int .i64 s.v0)
  c3 : w.cell? ⟨b, 3, none⟩ = some (.int .i64 s.v1)
  c4 : w.cell? ⟨b, 4, none⟩ = some (.int .i64 s.v2)
  c5 : w.cell? ⟨b, 5, none⟩ = some (.int .i64 s.v3)
  c6 : w.cell? ⟨b, 6, none⟩ = some t
  fz : ∀ i, w.frozen? ⟨b, i, none⟩ = false

theorem StBox.lt {b : Nat} {s : St} {t : Value} {w : World} (h : StBox b s t w) : b < w.heap.size := World.block_lt_of_cell? _ _ h.c0
theorem StBox.keep {b : Nat} {s : St} {t : Value} {w w' : World} (h : StBox b s t w) (hk : Keeps w w') : StBox b s t w' :=
  ⟨cell_kept h.c0 hk, cell_kept h.c1 hk, cell_kept h.c2 hk, cell_kept h.c3 hk, cell_kept h.c4 hk, cell_kept h.c5 hk, cell_kept h.c6 hk, fun i => (Below.frozen hk (p := ⟨b, i, none⟩) h.lt).trans (h.fz i)⟩
theorem StBox.other {b b' : Nat} {s : St} {t : Value} {w w' : World} (h : StBox b s t w) (hk : But b' w w') (hb : b ≠ b') : StBox b s t w' :=
  ⟨hk.at h.c0 hb, hk.at h.c1 hb, hk.at h.c2 hb, hk.at h.c3 hb, hk.at h.c4 hb, hk.at h.c5 hb, hk.at h.c6 hb, fun i => (hk.frozen (p := ⟨b, i, none⟩) h.lt hb).trans (h.fz i)⟩
theorem StBox.set {b : Nat} {s s' : St} {t t' : Value} {w : World} (h : StBox b s t w) (i : Nat) (u : Value)
    (h0 : .int .i64 s'.at_ = if i = 0 then u else .int .i64 s.at_) (h1 : .int .i64 s'.clock = if i = 1 then u else .int .i64 s.clock) (h2 : .int .i64 s'.v0 = if i = 2 then u else .int .i64 s.v0) (h3 : .int .i64 s'.v1 = if i = 3 then u else .int .i64 s.v1)
    (h4 : .int .i64 s'.v2 = if i = 4 then u else .int .i64 s.v2) (h5 : .int .i64 s'.v3 = if i = 5 then u else .int .i64 s.v3) (h6 : t' = if i = 6 then u else t) : StBox b s' t' (w.setCell ⟨b, i, none⟩ u) := by
  have go : ∀ j x y, w.cell? ⟨b, j, none⟩ = some x → y = (if i = j then u else x) → (w.setCell ⟨b, i, none⟩ u).cell? ⟨b, j, none⟩ = some y := fun j x y hx hy => by
    by_cases hij : i = j
    · subst hij
      rw [if_pos rfl] at hy
      subst hy
      exact World.cell?_setCell_same _ _ _ hx
    · rw [if_neg hij] at hy
      subst hy
      rw [World.cell?_setCell_other _ _ _ _ (by intro e; injection e with _ e _; exact hij e)]
      exact hx
  exact ⟨go _ _ _ h.c0 h0, go _ _ _ h.c1 h1, go _ _ _ h.c2 h2, go _ _ _ h.c3 h3, go _ _ _ h.c4 h4, go _ _ _ h.c5 h5, go _ _ _ h.c6 h6, fun j => (World.frozen?_setCell _ _ _ _).trans (h.fz j)⟩

end Go.Proofs.Yteabfjpajgakiad
