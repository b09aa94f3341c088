/- GrKr, GrKc, GrN, Grow, GrowI, PkB, GrO0, GrS0, LoF, LoG, LoH. -/
import Derived.Deep.RegionHeld3
import Derived.ArgAppend
import Derived.Great.BuildSlice
import Derived.Defers
import Derived.Recover
import Derived.Laws.Pointers
import Derived.Test.YteabfjpajgakiafJ00
import Derived.Test.YteabfjpajgakiafJ02
import Derived.Test.YteabfjpajgakiafJ13
import Derived.Test.YteabfjpajgakiafJ14
import Derived.Test.YteabfjpajgakiafJ18
import Derived.Test.YteabfjpajgakiafJ19
import Derived.Test.YteabfjpajgakiafJ20
/- group.Run. -/
set_option linter.unusedSimpArgs false
set_option linter.unusedVariables false
set_option maxRecDepth 10000
namespace Go.Proofs.Yteabfjpajgakiaf
open Go.RowKit

end Go.Proofs.Yteabfjpajgakiaf

/- group.Cut. -/
set_option linter.unusedSimpArgs false
set_option linter.unusedVariables false
set_option maxRecDepth 10000
namespace Go.Proofs.Yteabfjpajgakiaf
open Go.RowKit

end Go.Proofs.Yteabfjpajgakiaf

/- group.Begin. -/
set_option linter.unusedSimpArgs false
set_option linter.unusedVariables false
set_option maxRecDepth 10000
namespace Go.Proofs.Yteabfjpajgakiaf
open Go.RowKit

end Go.Proofs.Yteabfjpajgakiaf

/- A region that draws its order: whatever the order, each operation's value meets a condition of its own; the conditions stand when memory is added, and, where an operation writes (a store, an append in its place: 'special'), as far as that operation's own frame keeps them. -/
set_option linter.unusedSimpArgs false
set_option linter.unusedVariables false
namespace Go.Proofs.Yteabfjpajgakiaf
open Go.RowKit

/-- A condition on a value that stands when memory is added. -/
structure Pr where
  p : Value → World → Prop
  keep : ∀ v W W', p v W → Keeps W W' → p v W'
def Pr.any : Pr := ⟨fun _ _ => True, fun _ _ _ _ _ => trivial⟩
def Pr.is (x : Value) : Pr := ⟨fun v _ => v = x, fun _ _ _ h _ => h⟩

def prAt : List Pr → Nat → Pr
  | [], _ => Pr.any
  | r :: _, 0 => r
  | _ :: rs, i + 1 => prAt rs i

def fillL : List (Option Tmp) → (Nat → Value) → Nat → Act → Act
  | [], _, _, a => a
  | d :: ds, vs, k, a => fillL ds vs (k + 1) (a.put d (vs k))

theorem put_twice (a : Act) (d : Option Tmp) (x y : Value) : (a.put d x).put d y = a.put d y := by
  cases d <;> simp [Act.put]
theorem put_comm' (a : Act) {d e : Option Tmp} (x y : Value) (h : ∀ t, d = some t → e ≠ some t) : (a.put d x).put e y = (a.put e y).put d x := by
  cases d with
  | none => rfl
  | some d =>
    cases e with
    | none => rfl
    | some e =>
      simp only [Act.put]
      rw [Array.setIfInBounds_comm _ _ (fun q => h d rfl (by rw [q]))]
/-- No slot is written twice. -/
def apartB : List (Option Tmp) → Bool
  | [] => true
  | none :: ds => apartB ds
  | some d :: ds => !ds.contains (some d) && apartB ds
theorem fillL_comm {d : Option Tmp} : ∀ (ds : List (Option Tmp)) (vs : Nat → Value) (k : Nat) (a : Act) (v : Value), (∀ t, d = some t → some t ∉ ds) → (fillL ds vs k a).put d v = fillL ds vs k (a.put d v)
  | [], _, _, _, _, _ => rfl
  | e :: ds, vs, k, a, v, h => by
    simp only [fillL]
    rw [fillL_comm ds vs (k + 1) _ v (fun t ht hm => h t ht (List.mem_cons_of_mem _ hm)), put_comm' a (vs k) v (fun t ht hd => h t hd (by rw [ht]; exact List.mem_cons_self ..))]
theorem fillL_congr : ∀ (ds : List (Option Tmp)) (vs vs' : Nat → Value) (k : Nat) (a : Act), (∀ j, k ≤ j → vs j = vs' j) → fillL ds vs k a = fillL ds vs' k a
  | [], _, _, _, _, _ => rfl
  | d :: ds, vs, vs', k, a, h => by
    simp only [fillL]
    rw [h k (Nat.le_refl _)]
    exact fillL_congr ds vs vs' (k + 1) _ (fun j hj => h j (by omega))
theorem fillL_put {d : Option Tmp} : ∀ (ds : List (Option Tmp)) (vs : Nat → Value) (k i : Nat) (a : Act) (v : Value), apartB ds = true → ds[i]? = some d → (fillL ds vs k a).put d v = fillL ds (fun j => if j = k + i then v else vs j) k a
  | [], _, _, i, _, _, _, h => by simp at h
  | e :: ds, vs, k, 0, a, v, hn, h => by
    obtain rfl : e = d := by simpa using h
    simp only [fillL]
    rw [fillL_comm ds vs (k + 1) _ v (fun t ht hm => by subst ht; simp [apartB] at hn; exact hn.1 hm), put_twice]
    simp only [Nat.add_zero, if_true]
    exact fillL_congr ds _ _ (k + 1) _ (fun j hj => by simp [show j ≠ k by omega])
  | e :: ds, vs, k, i + 1, a, v, hn, h => by
    have hn' : apartB ds = true := by
      cases e with
      | none => exact hn
      | some e => simp [apartB] at hn; exact hn.2
    simp only [fillL]
    rw [fillL_put ds vs (k + 1) i _ v hn' (by simpa using h)]
    simp only [show k ≠ k + (i + 1) by omega, if_false]
    exact fillL_congr ds _ _ (k + 1) _ (fun j hj => by simp [show k + 1 + i = k + (i + 1) by omega])

def cntU (listed : Array Bool) : Nat → Nat
  | 0 => 0
  | n + 1 => cntU listed n + (if listed.getD n false = true then 0 else 1)
theorem getD_set {listed : Array Bool} {i : Nat} (hi : i < listed.size) (j : Nat) : (listed.setIfInBounds i true).getD j false = if j = i then true else listed.getD j false := by
  simp only [Array.getD_eq_getD_getElem?, Array.getElem?_setIfInBounds]
  by_cases h : i = j
  · subst h; simp [hi]
  · rw [if_neg h, if_neg (fun e => h e.symm)]
theorem cnt_ge {listed : Array Bool} {i : Nat} (hi : i < listed.size) : ∀ n, n ≤ i → cntU (listed.setIfInBounds i true) n = cntU listed n
  | 0, _ => rfl
  | n + 1, h => by
    simp only [cntU]
    rw [cnt_ge hi n (by omega), getD_set hi, if_neg (by omega : ¬ n = i)]
theorem cnt_lt {listed : Array Bool} {i : Nat} (hi : i < listed.size) (hu : listed.getD i false = false) : ∀ n, i < n → cntU listed n = cntU (listed.setIfInBounds i true) n + 1
  | 0, h => by omega
  | n + 1, h => by
    simp only [cntU]
    by_cases hn : i = n
    · subst hn
      rw [cnt_ge hi i (Nat.le_refl _), getD_set hi, hu]
      simp
    · rw [cnt_lt hi hu n (by omega), getD_set hi, if_neg (by omega : ¬ n = i)]
      omega
theorem cnt_zero {listed : Array Bool} : ∀ n, cntU listed n = 0 → ∀ i, i < n → listed.getD i false = true
  | 0, _, i, h => by omega
  | n + 1, h, i, hi => by
    simp only [cntU] at h
    by_cases hn : i = n
    · subst hn
      cases q : listed.getD i false with
      | true => rfl
      | false => rw [q] at h; simp at h
    · exact cnt_zero n (by omega) i (by omega)
theorem cnt_pos {listed : Array Bool} : ∀ n, cntU listed n ≠ 0 → ∃ i, i < n ∧ listed.getD i false = false
  | 0, h => absurd rfl h
  | n + 1, h => by
    simp only [cntU] at h
    cases q : listed.getD n false with
    | false => exact ⟨n, by omega, q⟩
    | true =>
      rw [q] at h
      obtain ⟨i, hi, hu⟩ := cnt_pos n (by simpa using h)
      exact ⟨i, by omega, hu⟩

/-- j waits for i. -/
def waitB (ops : Array Oper) (j i : Nat) : Bool := ((ops[j]?).map fun o => o.after.any fun e => Region.binds .any e && e.on == i).getD false
/-- None waits for one behind it. -/
def growB (ops : Array Oper) : Bool := (List.range ops.size).all fun i => ((ops[i]?).map fun o => o.after.all fun e => !Region.binds .any e || decide (e.on < i)).getD false
theorem grow_back {ops : Array Oper} (h : growB ops = true) : ∀ i, i < ops.size → ∃ o, ops[i]? = some o ∧ ∀ e ∈ o.after, Region.binds .any e = true → e.on < i := by
  simp only [growB, List.all_eq_true, List.mem_range] at h
  intro i hi
  have := h i hi
  cases ho : ops[i]? with
  | none => rw [ho] at this; cases this
  | some o =>
    rw [ho] at this
    simp only [Option.map_some, Option.getD_some, Array.all_eq_true', Bool.or_eq_true, Bool.not_eq_true', decide_eq_true_eq] at this
    refine ⟨o, rfl, fun e he hb => ?_⟩
    rcases this e he with h' | h'
    · rw [hb] at h'; cases h'
    · exact h'

structure Listed (ops : Array Oper) (listed : Array Bool) : Prop where
  size : listed.size = ops.size
  down : ∀ j, listed.getD j false = true → ∀ o, ops[j]? = some o → ∀ e ∈ o.after, Region.binds .any e = true → listed.getD e.on false = true

theorem waitB_iff {ops : Array Oper} {j i : Nat} (h : waitB ops j i = true) : ∃ o, ops[j]? = some o ∧ ∃ e ∈ o.after, Region.binds .any e = true ∧ e.on = i := by
  unfold waitB at h
  cases ho : ops[j]? with
  | none => rw [ho] at h; cases h
  | some o =>
    rw [ho] at h
    simp only [Option.map_some, Option.getD_some, Array.any_eq_true', Bool.and_eq_true, beq_iff_eq] at h
    obtain ⟨e, he, hb, hk⟩ := h
    exact ⟨o, rfl, e, he, hb, hk⟩
theorem getD_both {listed : Array Bool} {i : Nat} (hi : i < listed.size) : listed.getD i true = listed.getD i false := by
  simp [Array.getD, hi]
theorem grow_some {ops : Array Oper} (G : ∀ i, i < ops.size → ∃ o, ops[i]? = some o ∧ ∀ e ∈ o.after, Region.binds .any e = true → e.on < i) {listed : Array Bool} (L : Listed ops listed) : ∀ k u, u ≤ k → u < ops.size → listed.getD u false = false → ∃ i, i ∈ Region.ready .any ops listed := by
  intro k
  induction k with
  | zero =>
    intro u hk hu hul
    obtain ⟨o, ho, hb⟩ := G u hu
    exact ⟨u, mem_ready.2 ⟨by rw [getD_both (by rw [L.size]; omega)]; exact hul, o, ho, fun e he hbd => by have := hb e he hbd; omega⟩⟩
  | succ k ih =>
    intro u hk hu hul
    obtain ⟨o, ho, hb⟩ := G u hu
    by_cases hall : ∀ e ∈ o.after, Region.binds .any e = true → listed.getD e.on false = true
    · exact ⟨u, mem_ready.2 ⟨by rw [getD_both (by rw [L.size]; omega)]; exact hul, o, ho, hall⟩⟩
    · have : ∃ e, e ∈ o.after ∧ Region.binds .any e = true ∧ listed.getD e.on false = false := by
        apply Classical.byContradiction
        intro hc
        refine hall (fun e he hbd => ?_)
        cases q : listed.getD e.on false with
        | true => rfl
        | false => exact absurd ⟨e, he, hbd, q⟩ hc
      obtain ⟨e, he, hbd, q⟩ := this
      have := hb e he hbd
      exact ih e.on (by omega) (by omega) q

/-- It comes behind k. -/
def reachB (ops : Array Oper) : Nat → Nat → Nat → Bool
  | 0, _, _ => false
  | f + 1, i, k => waitB ops i k || (List.range i).any fun j => waitB ops i j && reachB ops f j k
theorem reach_listed {ops : Array Oper} {listed : Array Bool} (L : Listed ops listed) : ∀ f i k, reachB ops f i k = true → listed.getD i false = true → listed.getD k false = true
  | 0, _, _, h, _ => by cases h
  | f + 1, i, k, h, hl => by
    have one : ∀ j, waitB ops i j = true → listed.getD j false = true := fun j hw => by
      obtain ⟨o, ho, e, he, hb, rfl⟩ := waitB_iff hw
      exact L.down i hl o ho e he hb
    simp only [reachB, Bool.or_eq_true, List.any_eq_true, Bool.and_eq_true] at h
    rcases h with h | ⟨j, _, h1, h2⟩
    · exact one k h
    · exact reach_listed L f j k h2 (one j h1)

/-- An operation that writes: its number, the numbers whose conditions it ends, its frame. -/
structure Wr where
  num : Nat
  dead : List Nat
  frame : World → World → Prop
def Fr (xs : List Wr) (w0 : World) (i : Nat) (W W' : World) : Prop := ((∀ x ∈ xs, x.num ≠ i) → Keeps W W') ∧ Keeps w0 W' ∧ ∀ x ∈ xs, x.num = i → x.frame W W'
theorem Fr.of {xs : List Wr} {w0 : World} {i : Nat} {W W' : World} (h : ∀ x ∈ xs, x.num ≠ i) (h0 : Keeps w0 W) (hk : Keeps W W') : Fr xs w0 i W W' := ⟨fun _ => hk, h0.trans hk, fun x hx e => absurd e (h x hx)⟩

/-- What i may use of j. -/
def mayB (ops : Array Oper) (xs : List Wr) (i j : Nat) : Bool := waitB ops i j && xs.all fun x => !x.dead.contains j || (x.num == i || reachB ops ops.size x.num i)

theorem rep_false (N k : Nat) : (Array.replicate N false).getD k false = false := by
  by_cases h : k < N <;> simp [Array.getD, h]

end Go.Proofs.Yteabfjpajgakiaf

/- The rule for drawn regions, with an invariant of one's own. -/
set_option linter.unusedSimpArgs false
set_option linter.unusedVariables false
namespace Go.Proofs.Yteabfjpajgakiaf
open Go.RowKit

def FrI (xs : List Wr) (I : World → Prop) (i : Nat) (W W' : World) : Prop := ((∀ x ∈ xs, x.num ≠ i) → Keeps W W') ∧ I W' ∧ ∀ x ∈ xs, x.num = i → x.frame W W'
theorem FrI.of {xs : List Wr} {I : World → Prop} {i : Nat} {W W' : World} (h : ∀ x ∈ xs, x.num ≠ i) (h0 : I W') (hk : Keeps W W') : FrI xs I i W W' := ⟨fun _ => hk, h0, fun x hx e => absurd e (h x hx)⟩

/-- What one operation is to do. -/
structure GrowStepI (P : Program) (l : List Oper) (Q : Exit → Act → World → Prop) (a0 : Act) (I : World → Prop) (J : Pr) (ds : List (Option Tmp)) (R : List Pr) (xs : List Wr) (i : Nat) : Prop where
  out : ∀ (vs : Nat → Value) (W : World), I W → ((xs.all fun x => x.num == i || reachB l.toArray l.toArray.size x.num i) = true → J.p undef W) → (∀ j, mayB l.toArray xs i j = true → (prAt R j).p (vs j) W) →
    ∀ K : Act → World → Prop, Shut (∀ a' v W', a' = (fillL ds vs 0 a0).put (ds.getD i none) v → FrI xs I i W W' → (prAt R i).p v W' → K a' W') →
      match l[i]? with
      | none => False
      | some o => if Region.wanted o (yielded l.toArray (fillL ds vs 0 a0).tmps) = true then o.wp P (fillL ds vs 0 a0) W K Q else K ((fillL ds vs 0 a0).put o.dst undef) W

theorem growI_all {P : Program} {l : List Oper} {Q : Exit → Act → World → Prop} {a0 : Act} {I : World → Prop} {J : Pr} {ds : List (Option Tmp)} {R : List Pr} {xs : List Wr} (hds : l.map (·.dst) = ds) (hnd : apartB ds = true) (hG : growB l.toArray = true)
    (hstep : ∀ i, i < l.length → GrowStepI P l Q a0 I J ds R xs i)
    (hF : ∀ x ∈ xs, ∀ j, j < l.length → j ∉ x.dead → j ≠ x.num → reachB l.toArray l.toArray.size j x.num = false → ∀ v W W', (prAt R j).p v W → x.frame W W' → (prAt R j).p v W')
    (hend : ∀ vs W, I W → (∀ i, i < l.length → (∀ x ∈ xs, i ∉ x.dead) → (prAt R i).p (vs i) W) → Q .normal (fillL ds vs 0 a0) W) :
    ∀ c (listed : Array Bool) (vs : Nat → Value) (W : World), cntU listed l.length = c → Listed l.toArray listed → I W → ((∀ x ∈ xs, listed.getD x.num false = false) → J.p undef W) → (∀ i, i < l.length → listed.getD i false = true → (∀ x ∈ xs, listed.getD x.num false = true → i ∉ x.dead) → (prAt R i).p (vs i) W) →
      wpAny P .any l.toArray Q c listed (fillL ds vs 0 a0) W := by
  have G := grow_back hG
  have hN : l.toArray.size = l.length := by simp
  intro c
  induction c with
  | zero =>
    intro listed vs W hc L hk hJ hR
    have hall := cnt_zero l.length hc
    refine ⟨?_, hend vs W hk (fun i hi hd => hR i hi (hall i hi) (fun x hx _ => hd x hx))⟩
    apply List.eq_nil_iff_forall_not_mem.2
    intro i hi
    obtain ⟨h1, o, ho, _⟩ := mem_ready.1 hi
    have hil : i < l.length := by have := size_of ho; omega
    rw [getD_both (by rw [L.size]; omega), hall i hil] at h1
    cases h1
  | succ c ih =>
    intro listed vs W hc L hk hJ hR
    obtain ⟨u, hu, hul⟩ := cnt_pos l.length (by omega : cntU listed l.length ≠ 0)
    refine ⟨fun h0 => ?_, fun i hi => ?_⟩
    · obtain ⟨i, hi⟩ := grow_some G L u u (Nat.le_refl _) (by omega) hul
      rw [h0] at hi
      cases hi
    · obtain ⟨h1, o, ho, ha⟩ := mem_ready.1 hi
      have hin : i < l.length := by have := size_of ho; omega
      have his : i < listed.size := by rw [L.size]; omega
      have hiu : listed.getD i false = false := by rw [← getD_both his]; exact h1
      have hlo : l[i]? = some o := by simpa using ho
      have hdst : o.dst = ds.getD i none ∧ ds[i]? = some (ds.getD i none) := by
        have e1 : (l.map (·.dst))[i]? = some o.dst := by simp [hlo]
        rw [hds] at e1
        have e2 : ds.getD i none = o.dst := by simp [List.getD, e1]
        exact ⟨e2.symm, by rw [e2]; exact e1⟩
      have hs := (hstep i hin).out vs W hk (fun hall => hJ (fun x hx => by
        simp only [List.all_eq_true, Bool.or_eq_true, beq_iff_eq] at hall
        rcases hall x hx with h' | h'
        · rw [h']; exact hiu
        · cases q : listed.getD x.num false with
          | false => rfl
          | true =>
            have := reach_listed L _ x.num i h' q
            rw [hiu] at this
            cases this)) (fun j hw => by
        simp only [mayB, Bool.and_eq_true, List.all_eq_true, Bool.or_eq_true, Bool.not_eq_true', beq_iff_eq] at hw
        obtain ⟨o', ho', e, he, hb, rfl⟩ := waitB_iff hw.1
        rw [ho] at ho'
        cases ho'
        obtain ⟨o2, ho2, hb2⟩ := G i (by omega)
        rw [ho] at ho2
        cases ho2
        refine hR e.on (by have := hb2 e he hb; omega) (ha e he hb) (fun x hx hxl => ?_)
        rcases hw.2 x hx with h' | h' | h'
        · intro hm
          rw [List.contains_iff_mem.2 hm] at h'
          cases h'
        · rw [h', hiu] at hxl; cases hxl
        · have := reach_listed L _ x.num i h' hxl
          rw [hiu] at this
          cases this)
      refine wpOp_step ho (fun K hK => ?_)
      have hs' := hs K (fun a' v W' ha' hfr hv => by
        subst ha'
        refine hK _ _ ?_
        rw [fillL_put ds vs 0 i a0 v hnd hdst.2, Nat.zero_add]
        refine ih (listed.setIfInBounds i true) _ W' (by have := cnt_lt his hiu l.length hin; omega) ⟨by rw [Array.size_setIfInBounds]; exact L.size, ?_⟩ hfr.2.1 ?_ ?_
        · intro j hj o' ho' e he hb
          rw [getD_set his] at hj ⊢
          by_cases hje : j = i
          · subst hje
            rw [ho] at ho'
            cases ho'
            rw [ha e he hb]
            simp
          · rw [if_neg hje] at hj
            rw [L.down j hj o' ho' e he hb]
            simp
        · intro hno
          have hni : ∀ x ∈ xs, x.num ≠ i := fun x hx e => by
            have := hno x hx
            rw [getD_set his, if_pos e] at this
            cases this
          refine J.keep _ _ _ (hJ (fun x hx => ?_)) (hfr.1 hni)
          have := hno x hx
          rw [getD_set his, if_neg (hni x hx)] at this
          exact this
        · intro j hj hjl hjd
          rw [getD_set his] at hjl
          by_cases hje : j = i
          · subst hje
            simp only [if_true]
            exact hv
          · rw [if_neg hje] at hjl
            simp only [if_neg hje]
            have hold : (prAt R j).p (vs j) W := hR j hj hjl (fun x hx hxl => hjd x hx (by rw [getD_set his, hxl, ite_self]))
            by_cases hix : ∃ x, x ∈ xs ∧ x.num = i
            · obtain ⟨x, hx, rfl⟩ := hix
              refine hF x hx j hj (hjd x hx (by rw [getD_set his, if_pos rfl])) hje ?_ _ W W' hold (hfr.2.2 x hx rfl)
              cases q : reachB l.toArray l.toArray.size j x.num with
              | false => rfl
              | true =>
                have := reach_listed L _ j x.num q hjl
                rw [hiu] at this
                cases this
            · exact (prAt R j).keep _ _ _ hold (hfr.1 (fun x hx e => hix ⟨x, hx, e⟩)))
      rw [hlo] at hs'
      simp only at hs'
      exact hs'

/-- THE RULE. -/
theorem wp_region_growI {P : Program} {id : Nat} {Q : Exit → Act → World → Prop} {a0 : Act} {w : World} {l : List Oper} (I : World → Prop) (hI : I w.drew) (J : Pr) (hJ : J.p undef w.drew) (ds : List (Option Tmp)) (R : List Pr) (xs : List Wr) (hm : P.follows .mixedOrders = true) (hds : l.map (·.dst) = ds) (hnd : apartB ds = true) (hG : growB l.toArray = true)
    (hstep : ∀ i, i < l.length → GrowStepI P l Q a0 I J ds R xs i)
    (hF : ∀ x ∈ xs, ∀ j, j < l.length → j ∉ x.dead → j ≠ x.num → reachB l.toArray l.toArray.size j x.num = false → ∀ v W W', (prAt R j).p v W → x.frame W W' → (prAt R j).p v W')
    (hend : ∀ vs W, I W → (∀ i, i < l.length → (∀ x ∈ xs, i ∉ x.dead) → (prAt R i).p (vs i) W) → Q .normal (fillL ds vs 0 a0) W) : (Code.region id l.toArray true).wp P Q a0 w := by
  refine wp_region_any hm ?_
  obtain ⟨vs, hvs⟩ : ∃ vs : Nat → Value, vs = fun i => match ds.getD i none with | some d => a0.tmps.getD d undef | none => undef := ⟨_, rfl⟩
  have key := growI_all hds hnd hG hstep hF hend l.length (Array.replicate l.toArray.size false) vs w.drew
  have hcnt : ∀ k, k ≤ l.toArray.size → cntU (Array.replicate l.toArray.size false) k = k := by
    intro k
    induction k with
    | zero => intro _; rfl
    | succ k ih =>
      intro hk
      simp only [cntU]
      rw [ih (by omega), rep_false]
      simp
  have hfill : ∀ (ds' : List (Option Tmp)) (k : Nat) (vs : Nat → Value), (∀ i d, ds'[i]? = some (some d) → vs (k + i) = a0.tmps.getD d undef) → fillL ds' vs k a0 = a0 := by
    intro ds'
    induction ds' with
    | nil => intro _ _ _; rfl
    | cons d ds' ih =>
      intro k vs h
      simp only [fillL]
      have : a0.put d (vs k) = a0 := by
        cases d with
        | none => rfl
        | some d =>
          have h0 := h 0 d rfl
          rw [Nat.add_zero] at h0
          rw [h0]
          simp only [Act.put]
          congr 1
          apply Array.ext
          · simp
          · intro i h1 h2
            rw [Array.getElem_setIfInBounds]
            split
            · rename_i hdi
              subst hdi
              simp [Array.getD, h2]
            · rfl
      rw [this]
      exact ih (k + 1) vs (fun i d' hd => by rw [← h (i + 1) d' (by simpa using hd)]; congr 1; omega)
  have hf := hfill ds 0 vs (fun i d hd => by rw [hvs]; simp [List.getD, hd])
  rw [hf] at key
  have hsz : l.length = l.toArray.size := by simp
  rw [hsz] at key
  exact key (hcnt _ (Nat.le_refl _)) ⟨by simp, fun j hj => (by rw [rep_false] at hj; cases hj)⟩ hI (fun _ => hJ) (fun i hi hj _ => (by rw [rep_false] at hj; cases hj))
end Go.Proofs.Yteabfjpajgakiaf

/- Behind an empty slice that was built: an append only adds memory. -/
set_option linter.unusedSimpArgs false
set_option linter.unusedVariables false
namespace Go.Proofs.Yteabfjpajgakiaf
open Go.RowKit

end Go.Proofs.Yteabfjpajgakiaf

/- Steps of a drawn region, one law an operation. -/
set_option linter.unusedSimpArgs false
set_option linter.unusedVariables false
set_option maxRecDepth 10000
namespace Go.Proofs.Yteabfjpajgakiaf
open Go.RowKit

theorem GrowStepI.wrp {P : Program} {l : List Oper} {Q : Exit → Act → World → Prop} {a0 : Act} {I : World → Prop} {J : Pr} {ds : List (Option Tmp)} {R : List Pr} {xs : List Wr} {i : Nat} {o : Oper} (ho : l[i]? = some o) (hg : o.guard = none)
    (h : ∀ (vs : Nat → Value) (W : World), I W → ((xs.all fun x => x.num == i || reachB l.toArray l.toArray.size x.num i) = true → J.p undef W) → (∀ j, mayB l.toArray xs i j = true → (prAt R j).p (vs j) W) → ∀ K : Act → World → Prop, Shut (∀ a' v W', a' = (fillL ds vs 0 a0).put (ds.getD i none) v → FrI xs I i W W' → (prAt R i).p v W' → K a' W') → Wrp (o.wp P (fillL ds vs 0 a0) W K Q)) : GrowStepI P l Q a0 I J ds R xs i := ⟨by
  intro vs W hI hJ hR K hK
  rw [ho]
  have hw : Region.wanted o (yielded l.toArray (fillL ds vs 0 a0).tmps) = true := by simp [Region.wanted, hg]
  simp only [hw, if_true]
  exact (h vs W hI hJ hR K hK).out⟩
theorem h_run {P : Program} {o : Oper} {a : Act} {w w' : World} {K : Act → World → Prop} {Q : Exit → Act → World → Prop} {v : Value} (hr : (execOp a.eval o).run P w = .ok (.value v) w') (hK : K (a.put o.dst v) w') : Wrp (o.wp P a w K Q) := ⟨by
  unfold Oper.wp
  rw [hr]
  exact hK⟩
theorem h_field {P : Program} {o : Oper} {a : Act} {w : World} {K : Act → World → Prop} {Q : Exit → Act → World → Prop} {t : TypeId} {x : Operand} {f : Nat} (ho : o.op = .fieldAddr t x f) {p q : Value} (hx : a.eval x = p) (hr : (Instr.fieldAt t p f).run P w = .ok q w) (hK : K (a.put o.dst q) w) : Wrp (o.wp P a w K Q) :=
  h_run (by simp only [execOp, ho, hx, Sem.run_bind, hr, Result.andThen_ok, Sem.run_pure]) hK
theorem h_load {P : Program} {o : Oper} {a : Act} {w : World} {K : Act → World → Prop} {Q : Exit → Act → World → Prop} {t : TypeId} {x : Operand} (ho : o.op = .load t x) {p q : Value} (hx : a.eval x = p) (hr : (Instr.loadAt t p).run P w = .ok q w) (hK : K (a.put o.dst q) w) : Wrp (o.wp P a w K Q) :=
  h_run (by simp only [execOp, ho, hx, Sem.run_bind, hr, Result.andThen_ok, Sem.run_pure]) hK
theorem h_append {P : Program} {o : Oper} {a : Act} {w w' : World} {K : Act → World → Prop} {Q : Exit → Act → World → Prop} {v x v' : Value} (s y : Operand) (t : TypeId) (ho : o.op = .call { callee := .builtin .append, args := #[s, y], argTypes := #[t, t] }) (hs : a.eval s = v) (hx : a.eval y = x)
    (hr : (Builtin.append_ #[t, t] o.type #[v, x]).run P w = .ok v' w') (hK : K (a.put o.dst v') w') : Wrp (o.wp P a w K Q) := ⟨by
  unfold Oper.wp
  simp [execOp, ho, resolve, invoke, builtin, hs, hx, hr, Result.andThen]
  exact hK⟩
end Go.Proofs.Yteabfjpajgakiaf

/- groupBegun: what its calls make (plain), and laws. -/
set_option linter.unusedSimpArgs false
set_option linter.unusedVariables false
set_option maxRecDepth 10000
namespace Go.Proofs.Yteabfjpajgakiaf
open Go.RowKit

/-- One cell of a variable is written. -/
theorem CBox.set {b : Nat} {cs : List Value} {w : World} (h : CBox b cs w) (i : Nat) (v : Value) : CBox b (cs.set i v) (w.setCell ⟨b, i, none⟩ v) := by
  refine ⟨fun j u hu => ?_, fun j => (World.frozen?_setCell _ _ _ _).trans (h.2 j)⟩
  by_cases hij : i = j
  · subst hij
    rw [List.getElem?_set] at hu
    simp only [if_true] at hu
    split at hu
    · rename_i hl
      have hc := h.1 i _ (List.getElem?_eq_getElem hl)
      rw [World.cell?_setCell_same _ _ _ hc]
      exact hu
    · cases hu
  · rw [List.getElem?_set_ne hij] at hu
    rw [World.cell?_setCell_other _ _ _ _ (by intro e; injection e with _ e _; exact hij e)]
    exact h.1 j u hu
theorem h_move {P : Program} {o : Oper} {a : Act} {w : World} {K : Act → World → Prop} {Q : Exit → Act → World → Prop} {x : Operand} (ho : o.op = .move x) {v : Value} (hx : a.eval x = v) (hK : K (a.put o.dst v) w) : Wrp (o.wp P a w K Q) := h_run (by simp [execOp, ho, hx]) hK
theorem h_assign {P : Program} {o : Oper} {a : Act} {w : World} {K : Act → World → Prop} {Q : Exit → Act → World → Prop} {x : Operand} (ho : o.op = .assign x) {v : Value} (hx : a.eval x = v) (hK : K (a.put o.dst v) w) : Wrp (o.wp P a w K Q) := h_run (by simp [execOp, ho, hx]) hK
end Go.Proofs.Yteabfjpajgakiaf

/- octet.Read, of an entry. -/
set_option linter.unusedSimpArgs false
set_option linter.unusedVariables false
set_option maxRecDepth 10000
namespace Go.Proofs.Yteabfjpajgakiaf
open Go.RowKit

/-- What Read defers, where the one that reads has panicked. -/
theorem catch_panicking (p : Addr) (v0 : Value) (u : TypeId) (pv : Value) (older : List PanicEntry) (w : World) (hc : w.cell? p = some v0) (hz : w.frozen? p = false) :
    CallsD Try.prog 58 #[.pointer (some p)] (.panicking ({ v := .iface u pv, recovered := false } :: older)) w fun e u' w' =>
      e = .returned (.tuple #[]) ∧ u' = .panicking ({ v := .iface u pv, recovered := true } :: older) ∧ w' = w.setCell p (.bool false) := by
  refine callsD_of_wpS Try.func58 rfl fun c₀ cs hu => ?_
  apply wpS_seq
  apply wpS_region
  simp [wpOpsS, go_sem, recoverD, hu, Try.ntmps58, Exit.thenS]
  refine wpS_cond (t := true) (by simp [Act.eval, Array.replicate]) ?_
  simp only [if_true]
  apply wpS_region
  simp [wpOpsS, go_sem, hc, hz, bodyPostS, results, Try.results58]

theorem catch_idle (p : Addr) (w : World) :
    CallsD Try.prog 58 #[.pointer (some p)] .returning w fun e u' w' => e = .returned (.tuple #[]) ∧ u' = .returning ∧ w' = w := by
  refine callsD_of_wpS Try.func58 rfl fun c₀ cs hu => ?_
  apply wpS_seq
  apply wpS_region
  simp [wpOpsS, go_sem, recoverD, hu, Try.ntmps58, Exit.thenS]
  refine wpS_cond (t := false) (by simp [Act.eval, Array.replicate]) ?_
  simp only [Bool.false_eq_true, if_false]
  refine wpS_of_wp (wp_skip ?_)
  cases c₀
  simp_all [bodyPostS, results, Try.results58]

theorem resultsC {P : Program} {fn : Func} {tmps : Array Value} {w : World} {i j k : Nat} {t t' : TypeId} (hf : fn.results = #[.cell i t, .tmp j, .cell k t']) {p q : Addr} (h0 : tmps.getD i undef = .pointer (some p)) {u : Value} (h1 : tmps.getD j undef = u) (h2 : tmps.getD k undef = .pointer (some q)) {v v' : Value} (hl : (loadVar t p).run P w = .ok v w) (hl' : (loadVar t' q).run P w = .ok v' w) : (results fn tmps).run P w = .ok (.tuple #[v, u, v']) w := by
  simp only [results, hf]
  simp [asAddr, ← Array.getD_eq_getD_getElem?, h0, h1, h2, hl, hl']
theorem read4 {w : World} {b : Nat} {v : Value} (hB : CBox b [v] w) : (loadVar 4 ⟨b, 0, none⟩).run Try.prog w = .ok v w := by
  have ha : (isAgg 4).run Try.prog w = .ok false w := by kernel_rfl
  have hc := hB.1 0 v rfl
  simp [loadVar, ha, go_sem, hc]

theorem load_cell {P : Program} {w : World} {b i : Nat} {t : TypeId} {v : Value} (hc : w.cell? ⟨b, i, none⟩ = some v) (ha : (isAgg t).run P w = .ok false w) : (Instr.loadAt t (.pointer (some ⟨b, i, none⟩))).run P w = .ok v w := by
  simp [Instr.loadAt, Instr.sureAddr, loadVar, ha, go_sem, hc]
theorem h_store35 {o : Oper} {a : Act} {w : World} {K : Act → World → Prop} {Q : Exit → Act → World → Prop} {x y : Operand} (ho : o.op = .store 35 x y) (b : Nat) (hx : a.eval x = .pointer (some ⟨b, 0, none⟩)) {d : Ent} (e : Ent) (hy : a.eval y = entV e) (hB : CBox b (EC d) w)
    (h : ∀ w', CBox b (EC e) w' → But b w w' → K (a.put o.dst undef) w') : Wrp (Oper.wp Try.prog o a w K Q) := by
  exact ⟨wp_store_box _ x y ho b 0 (EC e) hx hy hB _ rfl (Nat.le_of_ble_eq_true rfl) (info_size size35 rfl) (EC_one e) h⟩
theorem h_store4 {o : Oper} {a : Act} {w : World} {K : Act → World → Prop} {Q : Exit → Act → World → Prop} {x y : Operand} (ho : o.op = .store 4 x y) (b : Nat) (hx : a.eval x = .pointer (some ⟨b, 0, none⟩)) {v : Value} (u : Bool) (hy : a.eval y = .bool u) (hB : CBox b [v] w)
    (h : ∀ w', CBox b [.bool u] w' → But b w w' → K (a.put o.dst undef) w') : Wrp (Oper.wp Try.prog o a w K Q) := ⟨by
  have hc := hB.1 0 v rfl
  have hz := hB.2 0
  have e0 : (Instr.storeAt 4 (.pointer (some ⟨b, 0, none⟩)) (.bool u)).run Try.prog w = .ok () (w.setCell ⟨b, 0, none⟩ (.bool u)) := by simp [go_sem, hc, hz]
  have e1 : (execOp a.eval o).run Try.prog w = .ok .skip (w.setCell ⟨b, 0, none⟩ (.bool u)) := by
    simp only [execOp, ho, hx, hy, Sem.run_bind, e0, Result.andThen_ok, Sem.run_pure]
  unfold Oper.wp
  rw [e1]
  exact h _ (hB.one 0 (.bool u)) ((But.refl _ _).set 0 _)⟩

theorem load35_run {w : World} {b : Nat} {e : Ent} (hB : CBox b (EC e) w) : (Instr.loadAt 35 (.pointer (some ⟨b, 0, none⟩))).run Try.prog w = .ok (entV e) w := by
  obtain ⟨d, h1, h2⟩ := row35
  exact run_loadAt_mid w b 0 _ (EC e) d (range_of hB 0 9 rfl) h1 h2 (info_size size35 rfl)
theorem h_lenS {o : Oper} {a : Act} {w : World} {K : Act → World → Prop} {Q : Exit → Act → World → Prop} {x : Operand} (ho : o.op = .call { callee := .builtin .len, args := #[x], argTypes := #[9] }) {s : ByteArray} (hx : a.eval x = .string s) (hK : K (a.put o.dst (.int .i64 (s.size : Int))) w) : Wrp (o.wp Try.prog a w K Q) :=
  h_run (w' := w) (v := .int .i64 (s.size : Int)) (by generalize a.eval = f at hx; simp [execOp, ho, hx, go_sem, resolve, invoke, builtin]) hK
theorem h_sub {o : Oper} {a : Act} {w : World} {K : Act → World → Prop} {Q : Exit → Act → World → Prop} {x y : Operand} (ho : o.op = .binOp .sub 3 x y 3) {p q n : Int} (hx : a.eval x = .int .i64 p) (hy : a.eval y = .int .i64 q) (hn : IntKind.i64.wrap (p - q) = n) (hK : K (a.put o.dst (.int .i64 n)) w) : Wrp (o.wp Try.prog a w K Q) :=
  h_run (w' := w) (v := .int .i64 n) (by generalize a.eval = f at hx hy; subst hn; simp [execOp, ho, hx, hy, go_sem]) hK

set_option maxHeartbeats 4000000 in
theorem read_no (l : List UInt8) (h : readE l = none) (w : World) : Calls Try.prog 40 #[.string (bt l), .func (.func 41) #[] #[]] w fun y w' => y = .returned (.tuple #[entV noEnt, .int .i64 0, .bool false]) ∧ Keeps w w' := by
  have HN : Hid (∀ b W, RBox b l W → Calls Try.prog 41 #[.pointer (some ⟨b, 0, none⟩)] W fun y w' => (∃ u pv, y = .panicked [{ v := .iface u pv, recovered := false }]) ∧ But b W w') := fun b W hB => read_none b l h W hB
  clear h
  have hmf : ∀ (fn : Fn) (first cap : Array Value) (w : World), (Instr.makeFunc fn first cap).run Try.prog w = .ok (.func fn first cap) w := fun _ _ _ _ => rfl
  go_enter_defers Try.func40, Try.ntmps40
  go_wp2_with (first | (refine alloc35 rfl rfl ?_; intro w0 ob hBo hko hlo hgo))
  obtain ⟨wb, hwb⟩ : ∃ z, z = w0.heap.size := ⟨_, rfl⟩
  obtain ⟨W3, hW3⟩ : ∃ z, z = (w0.alloc (Obj.cells #[Value.bool false] 4)).alloc (Obj.cells #[Value.string (bt l)] 111) := ⟨_, rfl⟩
  have k3 : Keeps w0 W3 := by rw [hW3]; exact ((Keeps.refl _).alloc _).alloc _
  have HR3 : Hid (RBox (wb + 1) l W3) := by
    have h := CBox.new (w0.alloc (Obj.cells #[Value.bool false] 4)) [Value.string (bt l)] 111
    rw [World.size_alloc, ← hwb] at h
    rw [hW3]
    exact ⟨h.1 0 _ rfl, h.2 0⟩
  have HB3 : Hid (CBox wb [.bool false] W3) := by
    rw [hW3, hwb]
    exact (CBox.new w0 [.bool false] 4).keep ((Keeps.refl _).alloc _)
  have HO3 : Hid (CBox ob (EC noEnt) W3) := hBo.keep k3 (Nat.le_of_ble_eq_true rfl)
  have HK3 : Hid (Keeps w W3) := hko.trans k3
  have HG : Hid (w.heap.size ≤ wb ∧ ob < wb) := ⟨by rw [hwb]; exact hko.size, by rw [hwb]; exact hlo⟩
  rw [← hW3, ← hwb]
  clear hW3 hwb k3 hBo hko hlo hgo
  refine (HN.out (wb + 1) W3 HR3.out).mono ?_
  rintro y w4 ⟨⟨u, pv, rfl⟩, hb⟩
  have HB4 := HB3.out.other hb (by omega)
  have HO4 := HO3.out.other hb (by have := HG.out; omega) (Nat.le_of_ble_eq_true rfl)
  have HK4 : Keeps w w4 := But.to HK3.out (by have := HG.out; omega) hb
  refine leaves_cons (f := 58) (args := #[.pointer (some ⟨wb, 0, none⟩)]) (by simp) (by simp [go_sem]) ?_
  refine (catch_panicking ⟨wb, 0, none⟩ (.bool false) u pv [] _ (HB4.1 0 _ rfl) (HB4.2 0)).mono ?_
  rintro e u' w5 ⟨rfl, rfl, hw5⟩
  have HB5 : CBox wb [.bool false] w5 := by rw [hw5]; exact HB4.one 0 (.bool false)
  have HT5 : But wb w4 w5 := by rw [hw5]; exact (But.refl _ _).set _ _
  have HO5 := HO4.other HT5 (by have := HG.out; omega) (Nat.le_of_ble_eq_true rfl)
  exact ⟨_, resultsC Try.results40 rfl rfl rfl (read35 HO5) (read4 HB5), rfl, But.to HK4 HG.out.1 HT5⟩
set_option maxHeartbeats 4000000 in
theorem read_ok (l : List UInt8) (e : Ent) (n : Nat) (h : readE l = some (e, n)) (hl : l.length ≤ 100000) (w : World) : Calls Try.prog 40 #[.string (bt l), .func (.func 41) #[] #[]] w fun y w' => y = .returned (.tuple #[entV e, .int .i64 n, .bool true]) ∧ Keeps w w' := by
  have HN : Hid (∀ b W, RBox b l W → Calls Try.prog 41 #[.pointer (some ⟨b, 0, none⟩)] W fun y w' => y = .returned (entV e) ∧ RBox b (l.drop n) w' ∧ But b W w') := fun b W hB => read_some b l e n h W hB
  have hn : n ≤ l.length := by
    obtain ⟨h1, h2⟩ := readE_bytes h
    have h5 := congrArg List.length h2
    simp only [List.length_append] at h5
    omega
  have hs1 := bt_size l
  have hs2 : (bt (l.drop n)).size = l.length - n := by rw [bt_size, List.length_drop]
  clear h
  have hmf : ∀ (fn : Fn) (first cap : Array Value) (w : World), (Instr.makeFunc fn first cap).run Try.prog w = .ok (.func fn first cap) w := fun _ _ _ _ => rfl
  go_enter_defers Try.func40, Try.ntmps40
  go_wp2_with (first | (refine alloc35 rfl rfl ?_; intro w0 ob hBo hko hlo hgo))
  obtain ⟨wb, hwb⟩ : ∃ z, z = w0.heap.size := ⟨_, rfl⟩
  obtain ⟨W3, hW3⟩ : ∃ z, z = (w0.alloc (Obj.cells #[Value.bool false] 4)).alloc (Obj.cells #[Value.string (bt l)] 111) := ⟨_, rfl⟩
  have k3 : Keeps w0 W3 := by rw [hW3]; exact ((Keeps.refl _).alloc _).alloc _
  have HR3 : Hid (RBox (wb + 1) l W3) := by
    have h := CBox.new (w0.alloc (Obj.cells #[Value.bool false] 4)) [Value.string (bt l)] 111
    rw [World.size_alloc, ← hwb] at h
    rw [hW3]
    exact ⟨h.1 0 _ rfl, h.2 0⟩
  have HB3 : Hid (CBox wb [.bool false] W3) := by
    rw [hW3, hwb]
    exact (CBox.new w0 [.bool false] 4).keep ((Keeps.refl _).alloc _)
  have HO3 : Hid (CBox ob (EC noEnt) W3) := hBo.keep k3 (Nat.le_of_ble_eq_true rfl)
  have HK3 : Hid (Keeps w W3) := hko.trans k3
  have HG : Hid (w.heap.size ≤ wb ∧ ob < wb) := ⟨by rw [hwb]; exact hko.size, by rw [hwb]; exact hlo⟩
  have HOG : Hid (w.heap.size ≤ ob) := hgo
  rw [← hW3, ← hwb]
  clear hW3 hwb k3 hBo hko hlo hgo
  refine (HN.out (wb + 1) W3 HR3.out).mono ?_
  rintro y w4 ⟨rfl, hR, hb⟩
  have HB4 : Hid (CBox wb [.bool false] w4) := HB3.out.other hb (by omega)
  have HO4 : Hid (CBox ob (EC noEnt) w4) := HO3.out.other hb (by have := HG.out; omega) (Nat.le_of_ble_eq_true rfl)
  have HK4 : Hid (Keeps w w4) := But.to HK3.out (by have := HG.out; omega) hb
  have HR4 : Hid (RBox (wb + 1) (l.drop n) w4) := hR
  clear hR hb HB3 HO3 HK3 HR3 HN
  go_wp2_with (first | (refine store35 rfl rfl ob rfl e rfl HO4.out ?_; intro w5 hS5 hT5))
  have HS0 : Hid ((fun W => CBox ob (EC e) W ∧ RBox (wb + 1) (l.drop n) W ∧ (∃ v, CBox wb [v] W) ∧ Keeps w W) w5.drew) := ⟨hS5.keep (Keeps.refl _).drew (Nat.le_of_ble_eq_true rfl), (HR4.out.other hT5 (by have := HG.out; omega)).keep (Keeps.refl _).drew, ⟨_, (HB4.out.other hT5 (by have := HG.out; omega)).keep (Keeps.refl _).drew⟩, (But.to HK4.out HOG.out hT5).drew⟩
  have HW : Hid (IntKind.i64.wrap (((bt l).size : Int) - ((bt (l.drop n)).size : Int)) = (n : Int)) := by
    show _ = _
    rw [hs1, hs2]
    simp [IntKind.wrap, IntKind.bits, IntKind.signed]
    omega
  clear hS5 hT5 HR4 HB4 HK4 HO4 hs1 hs2
  refine wp_region_growI (fun W => CBox ob (EC e) W ∧ RBox (wb + 1) (l.drop n) W ∧ (∃ v, CBox wb [v] W) ∧ Keeps w W) HS0.out ⟨fun _ _ => True, fun _ _ _ _ _ => trivial⟩ trivial [some 13, some 14, some 15, some 16, some 17, some 18, some 19, none, some 5, none] [Pr.is (entV e), Pr.is (.string (bt l)), Pr.is (.int .i64 ((bt l).size : Int)), Pr.is (.pointer (some ⟨wb + 1, 0, none⟩)), Pr.is (.string (bt (l.drop n))), Pr.is (.int .i64 ((bt (l.drop n)).size : Int)), Pr.is (.int .i64 (n : Int)), ⟨fun _ _ => True, fun _ _ _ _ _ => trivial⟩, Pr.is (.int .i64 (n : Int)), ⟨fun _ W => CBox wb [.bool true] W, fun _ W W' h hk => h.keep hk⟩] [⟨7, [], fun W W' => But ob W W'⟩, ⟨9, [], fun W W' => But wb W W'⟩] (by kernel_rfl) (by kernel_rfl) (by kernel_rfl) (by kernel_rfl) ?_ ?_ ?_
  · intro i hi
    match i, hi with
    | 0, _ =>
      refine GrowStepI.wrp rfl rfl ?_
      intro vs W hI hJ hR K hK
      refine h_load rfl (p := .pointer (some ⟨ob, 0, none⟩)) (by kernel_rfl) (load35_run hI.1) ?_
      refine hK.out _ (entV e) _ (by kernel_rfl) (FrI.of (by simp) hI (Keeps.refl W)) ?_
      exact rfl
    | 1, _ =>
      refine GrowStepI.wrp rfl rfl ?_
      intro vs W hI hJ hR K hK
      refine h_move rfl (v := .string (bt l)) (by kernel_rfl) ?_
      refine hK.out _ (.string (bt l)) _ (by kernel_rfl) (FrI.of (by simp) hI (Keeps.refl W)) ?_
      exact rfl
    | 2, _ =>
      refine GrowStepI.wrp rfl rfl ?_
      intro vs W hI hJ hR K hK
      have h1 : vs 1 = .string (bt l) := hR 1 (by kernel_rfl)
      refine h_lenS rfl ((show _ = vs 1 from by kernel_rfl).trans h1) ?_
      refine hK.out _ (.int .i64 ((bt l).size : Int)) _ (by kernel_rfl) (FrI.of (by simp) hI (Keeps.refl W)) ?_
      exact rfl
    | 3, _ =>
      refine GrowStepI.wrp rfl rfl ?_
      intro vs W hI hJ hR K hK
      refine h_field rfl (p := .pointer (some ⟨wb + 1, 0, none⟩)) (q := .pointer (some ⟨wb + 1, 0, none⟩)) (by kernel_rfl) (by kernel_rfl) ?_
      refine hK.out _ (.pointer (some ⟨wb + 1, 0, none⟩)) _ (by kernel_rfl) (FrI.of (by simp) hI (Keeps.refl W)) ?_
      exact rfl
    | 4, _ =>
      refine GrowStepI.wrp rfl rfl ?_
      intro vs W hI hJ hR K hK
      have h3 : vs 3 = .pointer (some ⟨wb + 1, 0, none⟩) := hR 3 (by kernel_rfl)
      refine h_load rfl ((show _ = vs 3 from by kernel_rfl).trans h3) (load_cell hI.2.1.1 (by kernel_rfl)) ?_
      refine hK.out _ (.string (bt (l.drop n))) _ (by kernel_rfl) (FrI.of (by simp) hI (Keeps.refl W)) ?_
      exact rfl
    | 5, _ =>
      refine GrowStepI.wrp rfl rfl ?_
      intro vs W hI hJ hR K hK
      have h4 : vs 4 = .string (bt (l.drop n)) := hR 4 (by kernel_rfl)
      refine h_lenS rfl ((show _ = vs 4 from by kernel_rfl).trans h4) ?_
      refine hK.out _ (.int .i64 ((bt (l.drop n)).size : Int)) _ (by kernel_rfl) (FrI.of (by simp) hI (Keeps.refl W)) ?_
      exact rfl
    | 6, _ =>
      refine GrowStepI.wrp rfl rfl ?_
      intro vs W hI hJ hR K hK
      have h2 : vs 2 = .int .i64 ((bt l).size : Int) := hR 2 (by kernel_rfl)
      have h5 : vs 5 = .int .i64 ((bt (l.drop n)).size : Int) := hR 5 (by kernel_rfl)
      refine h_sub rfl ((show _ = vs 2 from by kernel_rfl).trans h2) ((show _ = vs 5 from by kernel_rfl).trans h5) HW.out ?_
      refine hK.out _ (.int .i64 (n : Int)) _ (by kernel_rfl) (FrI.of (by simp) hI (Keeps.refl W)) ?_
      exact rfl
    | 7, _ =>
      refine GrowStepI.wrp rfl rfl ?_
      intro vs W hI hJ hR K hK
      have h0 : vs 0 = entV e := hR 0 (by kernel_rfl)
      refine h_store35 rfl ob (by kernel_rfl) e ((show _ = vs 0 from by kernel_rfl).trans h0) hI.1 ?_
      intro W' hS6 hT6
      refine hK.out _ undef _ (by kernel_rfl) ⟨fun h => absurd rfl (h _ (List.mem_cons_self ..)), ⟨hS6, hI.2.1.other hT6 (by have := HG.out; omega), hI.2.2.1.elim fun v h => ⟨v, h.other hT6 (by have := HG.out; omega)⟩, But.to hI.2.2.2 HOG.out hT6⟩, fun x hx e => ?_⟩ ?_
      · rcases List.mem_cons.1 hx with rfl | hx
        · exact hT6
        · rcases List.mem_cons.1 hx with rfl | hx
          · cases e
          · cases hx
      · exact trivial
    | 8, _ =>
      refine GrowStepI.wrp rfl rfl ?_
      intro vs W hI hJ hR K hK
      have h6 : vs 6 = .int .i64 (n : Int) := hR 6 (by kernel_rfl)
      refine h_assign rfl ((show _ = vs 6 from by kernel_rfl).trans h6) ?_
      refine hK.out _ (.int .i64 (n : Int)) _ (by kernel_rfl) (FrI.of (by simp) hI (Keeps.refl W)) ?_
      exact rfl
    | 9, _ =>
      refine GrowStepI.wrp rfl rfl ?_
      intro vs W hI hJ hR K hK
      refine hI.2.2.1.elim fun v hv => ?_
      refine h_store4 rfl wb (by kernel_rfl) true (by kernel_rfl) hv ?_
      intro W' hS7 hT7
      refine hK.out _ undef _ (by kernel_rfl) ⟨fun h => absurd rfl (h _ (List.mem_cons_of_mem _ (List.mem_cons_self ..))), ⟨hI.1.other hT7 (by have := HG.out; omega) (Nat.le_of_ble_eq_true rfl), hI.2.1.other hT7 (by omega), ⟨_, hS7⟩, But.to hI.2.2.2 HG.out.1 hT7⟩, fun x hx e => ?_⟩ ?_
      · rcases List.mem_cons.1 hx with rfl | hx
        · cases e
        · rcases List.mem_cons.1 hx with rfl | hx
          · exact hT7
          · cases hx
      · exact hS7
    | k + 10, h => exact absurd h (by simp)
  · intro x hx j hj hd hn hr v W W' hp hf
    rcases List.mem_cons.1 hx with rfl | hx
    · match j, hj with
      | 0, _ => exact hp
      | 1, _ => exact hp
      | 2, _ => exact hp
      | 3, _ => exact hp
      | 4, _ => exact hp
      | 5, _ => exact hp
      | 6, _ => exact hp
      | 7, _ => exact absurd rfl hn
      | 8, _ => exact hp
      | 9, _ => exact CBox.other hp hf (by have := HG.out; omega)
      | k + 10, h => exact absurd h (by simp)
    · rcases List.mem_cons.1 hx with rfl | hx
      · match j, hj with
        | 0, _ => exact hp
        | 1, _ => exact hp
        | 2, _ => exact hp
        | 3, _ => exact hp
        | 4, _ => exact hp
        | 5, _ => exact hp
        | 6, _ => exact hp
        | 7, _ => exact hp
        | 8, _ => exact hp
        | 9, _ => exact absurd rfl hn
        | k + 10, h => exact absurd h (by simp)
      · cases hx
  · intro vs W0 hI hR
    have h8 : vs 8 = .int .i64 (n : Int) := hR 8 (by decide) (by simp)
    have hb : CBox wb [.bool true] W0 := hR 9 (by decide) (by simp)
    simp only [fillL, Nat.zero_add, Nat.reduceAdd, h8]
    go_wp2_with fail
    refine leaves_cons (f := 58) (args := #[.pointer (some ⟨wb, 0, none⟩)]) (by simp) (by simp [go_sem]) ?_
    refine (catch_idle ⟨wb, 0, none⟩ _).mono ?_
    rintro y u' w9 ⟨rfl, rfl, rfl⟩
    exact ⟨_, resultsC Try.results40 rfl rfl rfl (read35 hI.1) (read4 hb), rfl, hI.2.2.2⟩
end Go.Proofs.Yteabfjpajgakiaf

/- log.Replay. -/
set_option linter.unusedSimpArgs false
set_option linter.unusedVariables false
set_option maxRecDepth 10000
namespace Go.Proofs.Yteabfjpajgakiaf
open Go.RowKit

def EOwn (base : Nat) (w : World) (v : Value) (L : List Ent) : Prop := w.ownsRow base 35 9 v L.length (entCells L)
theorem EOwn.nil {base : Nat} {w : World} : EOwn base w (.slice none 0 0) [] := ⟨rfl, .inl ⟨rfl, rfl⟩⟩
theorem EOwn.at {base : Nat} {w : World} {v : Value} {L : List Ent} (h : EOwn base w v L) : EntsAt w v L := RowAt.of_owns h
theorem EOwn.keep {base : Nat} {w w' : World} {v : Value} {L : List Ent} (h : EOwn base w v L) (hk : Keeps w w') : EOwn base w' v L := owns_keep h hk
theorem EOwn.own {base : Nat} {w : World} {v : Value} {L : List Ent} (h : EOwn base w v L) {k : Nat} (hk : v.ownBlock = some k) : base ≤ k := by
  rcases h.2 with ⟨rfl, _⟩ | ⟨g, cap, cur, rfl, hb, hg, _⟩
  · cases hk
  · have e : g = k := by simpa [Value.ownBlock] using hk
    subst e
    exact hb
theorem ent_new (w : World) (e : Ent) (c : Nat) : EntsAt (w.alloc (.cells #[.int .i64 e.kind, .int .i64 e.time, .int .i64 e.client, .int .i64 e.seq, .int .i64 e.ack, .int .i64 e.ok, .int .i64 e.okey, .int .i64 e.oto, .int .i64 e.on] 35)) (.slice (some ⟨w.heap.size, 0, none⟩) 1 c) [e] := EntsAt.new w [e] (by simp) c
theorem app_ent {ops : Array Oper} {rest : List Oper} {o : Oper} {a : Act} {Q : Exit → Act → World → Prop} {w0 w : World} (hk : Keeps w0 w) (hg : o.guard = none) (s x : Operand) (hop : o.op = .call { callee := .builtin .append, args := #[s, x], argTypes := #[26, 26] })
    (v : Value) (L : List Ent) (hs : a.eval s = v) (hown : EOwn w0.heap.size w v L) (e : Ent) (xv : Value) (hx : a.eval x = xv) (hX : EntsAt w xv [e]) (hlen : L.length ≤ 1000)
    (h : ∀ v' w', EOwn w0.heap.size w' v' (L ++ [e]) → Keeps w0 w' → wpList Try.prog ops Q rest (a.put o.dst v') w') : wpList Try.prog ops Q (o :: rest) a w := by
  obtain ⟨v', w', hr, h2, h3⟩ := run_append_read w w0.heap.size 26 o.type 35 9 72 _ infoEnt Try.underlying26 rfl (by decide) v L.length (entCells L) hown xv 1 (entCells [e]) hX (entCells_one _) (by unfold maxLen; omega) (by omega) hk.size
  refine wpList_append_run hg s x 26 hop hs hx hr (h v' w' ?_ (keeps_grown hk h3 (fun k e => hown.own e)))
  unfold EOwn
  rw [List.length_append, entCells_append]
  exact h2
def rpE (l : List UInt8) : Int := if l.length ≤ 4096 then 0 else 2
def rpL (l : List UInt8) : List Ent := if l.length ≤ 4096 then repl 50 l else []
def rpN (l : List UInt8) : Nat := (allBs (rpL l)).length
theorem load35w {ops : Array Oper} {rest : List Oper} {op : Oper} {a : Act} {w : World} {Q : Exit → Act → World → Prop} (hw : Region.wanted op (yielded ops a.tmps) = true) {x : Operand} (ho : op.op = .load 35 x) (b : Nat) (hx : a.eval x = .pointer (some ⟨b, 0, none⟩)) {e : Ent} (hB : CBox b (EC e) w)
    (h : wpList Try.prog ops Q rest (a.put op.dst (entV e)) w) : wpList Try.prog ops Q (op :: rest) a w := by
  obtain ⟨d, h1, h2⟩ := row35
  refine wpList_step fun K hK => ?_
  rw [if_pos hw]
  exact wp_load_mid _ x ho b 0 hx _ d (range_of hB 0 9 (ds := EC e) rfl) h1 h2 (info_size size35 rfl) (hK _ _ h)
theorem repl_none {f : Nat} {l : List UInt8} (h : okRead l = none) : repl (f + 1) l = [] := by simp only [repl, h]
theorem repl_some {f : Nat} {l : List UInt8} {e : Ent} {n : Nat} (h : okRead l = some (e, n)) : repl (f + 1) l = e :: repl f (l.drop n) := by simp only [repl, h]

set_option maxHeartbeats 4000000 in
theorem log_replay (l : List UInt8) (w : World) : Calls Try.prog 18 #[.string (bt l)] w fun y w' => ∃ v, EOwn w.heap.size w' v (rpL l) ∧ y = .returned (.tuple #[v, .int .i64 (rpN l : Int), .int .i64 (rpE l)]) ∧ Keeps w w' := by
  have hs := bt_size l
  by_cases h4 : l.length ≤ 4096
  · have HL : Hid (rpL l = repl 50 l ∧ rpE l = 0 ∧ rpN l = (allBs (rpL l)).length) := ⟨if_pos h4, if_pos h4, rfl⟩
    generalize rpL l = RL at *
    generalize rpE l = RE at *
    generalize rpN l = RN at *
    go_enter Try.func18, Try.ntmps18
    go_wp2_with fail
    have e12 : decide ((4096 : Int) < (l.length : Int)) = false := by simp; omega
    simp only [e12]
    clear e12
    go_loopw [5, 6] (fun o p wr => ∃ (L : List Ent) (k : Nat) (oa : Option Addr) (oc : Nat), o = .slice oa L.length oc ∧ p = .int .i64 k ∧ L.length ≤ 50 ∧ k ≤ l.length ∧ Hid (EOwn w.heap.size wr o L ∧ repl 50 l = L ++ repl (50 - L.length) (l.drop k) ∧ k = (allBs L).length) ∧ Hid (Keeps w wr)) (fun _ p _ => l.length - (intOf p).toNat)
    case atStart => exact ⟨[], 0, none, 0, rfl, rfl, by simp, by omega, ⟨EOwn.nil, rfl, rfl⟩, Keeps.refl _⟩
    case round =>
      obtain ⟨L, k, oa, oc, rfl, rfl, hL, hk, HI, HK⟩ := hrel
      by_cases hlt : L.length < 50
      · have HX : Hid ((bt l).extract k l.length = bt (l.drop k)) := bt_drop l k
        have HF : Hid (50 - L.length = (50 - (L.length + 1)) + 1) := by show _ = _; omega
        have HE : Hid (∀ W, EOwn w.heap.size W (.slice oa L.length oc) L → repl (50 - L.length) (l.drop k) = [] → EOwn w.heap.size W (.slice oa L.length oc) RL ∧ (RN : Int) = k ∧ RE = 0) := fun W hW hnil => by
          obtain ⟨h1, h2, h3⟩ := HL.out
          have e1 : RL = L := by rw [h1, HI.out.2.1, hnil, List.append_nil]
          exact ⟨by rw [e1]; exact hW, by rw [h3, e1, HI.out.2.2], h2⟩
        go_wp2_with fail
        rw [HX.out]
        cases hr : readE (l.drop k) with
        | none =>
          have hnil : repl (50 - L.length) (l.drop k) = [] := by
            rw [HF.out]
            exact repl_none (by unfold okRead; rw [hr])
          refine (read_no (l.drop k) hr wr).mono ?_
          rintro y w2 ⟨rfl, hb⟩
          have HK2 : Hid (Keeps w w2) := HK.out.trans hb
          have HO2 : Hid (EOwn w.heap.size w2 (.slice oa L.length oc) RL ∧ (RN : Int) = k ∧ RE = 0) := HE.out w2 (HI.out.1.keep hb) hnil
          clear hb HK HI HE hnil hr HX HF
          go_wp2_with (first | (refine alloc35 rfl rfl ?_; intro w3 eb hBe hke hle hge) | (refine store35 rfl rfl eb rfl noEnt rfl hBe ?_; intro w4 hSe hTe))
          go_ret3
          have k24 : Keeps w2 w4 := But.to hke hge hTe
          rw [HO2.out.2.1, HO2.out.2.2]
          exact ⟨_, HO2.out.1.keep k24, rfl, HK2.out.trans k24⟩
        | some p =>
          obtain ⟨e, n⟩ := p
          have hn : k + n ≤ l.length := by
            obtain ⟨h1, h2⟩ := readE_bytes hr
            have h5 := congrArg List.length h2
            simp only [List.length_append, List.length_drop] at h5
            omega
          have h4n : 4 ≤ n := by
            have := (readE_bytes hr).1
            have := (entBs_pos e).1
            omega
          have HB : Hid (n = (entBs e).length) := (readE_bytes hr).1
          refine (read_ok (l.drop k) e n hr (by rw [List.length_drop]; omega) wr).mono ?_
          rintro y w2 ⟨rfl, hb⟩
          have HK2 : Hid (Keeps w w2) := HK.out.trans hb
          have HO2 : Hid (EOwn w.heap.size w2 (.slice oa L.length oc) L) := HI.out.1.keep hb
          have HEC : Hid (∀ W, Calls Try.prog 34 #[entV e] W fun x w' => x = .returned (.int .i64 (entErr e)) ∧ Keeps W w') := fun W => ent_check e W
          have HOK : Hid (okRead (l.drop k) = if entErr e == 0 then some (e, n) else none) := by show _ = _; unfold okRead; rw [hr]
          clear hb HK hr HX
          generalize entErr e = er at *
          cases q : (er == 0) with
          | false =>
            have q' : (er != 0) = true := by simp [bne, q]
            have hnil : repl (50 - L.length) (l.drop k) = [] := by
              rw [HF.out]
              exact repl_none (by rw [HOK.out, q]; rfl)
            go_wp2_with (first | (refine alloc35 rfl rfl ?_; intro w3 eb hBe hke hle hge) | (refine store35 rfl rfl eb rfl e rfl hBe ?_; intro w4 hSe hTe) | (refine load35w (by kernel_rfl) rfl eb rfl (e := e) hSe ?_))
            refine (HEC.out w4).mono ?_
            rintro y w5 ⟨rfl, hb⟩
            have k25 : Keeps w2 w5 := (But.to hke hge hTe).trans hb
            have HK5 : Hid (Keeps w w5) := HK2.out.trans k25
            have HO5 : Hid (EOwn w.heap.size w5 (.slice oa L.length oc) RL ∧ (RN : Int) = k ∧ RE = 0) := HE.out w5 (HO2.out.keep k25) hnil
            clear hb k25 hBe hke hle hge hSe hTe HK2 HO2 HE HI hnil
            go_wp2_with fail
            go_ret3
            rw [HO5.out.2.1, HO5.out.2.2]
            exact ⟨_, HO5.out.1, rfl, HK5.out⟩
          | true =>
            have q' : (er != 0) = false := by simp [bne, q]
            have HRP : Hid (repl 50 l = (L ++ [e]) ++ repl (50 - (L ++ [e]).length) (l.drop (k + n))) := by
              show _ = _
              rw [HI.out.2.1, HF.out, repl_some (by rw [HOK.out, q]; rfl), List.append_assoc, List.drop_drop, List.length_append]
              rfl
            have HLB : Hid (k + n = (allBs (L ++ [e])).length) := by
              show _ = _
              rw [allBs_append, List.length_append, ← HI.out.2.2, HB.out]
              simp [allBs]
            go_wp2_with (first | (refine alloc35 rfl rfl ?_; intro w3 eb hBe hke hle hge) | (refine store35 rfl rfl eb rfl e rfl hBe ?_; intro w4 hSe hTe) | (refine load35w (by kernel_rfl) rfl eb rfl (e := e) hSe ?_))
            refine (HEC.out w4).mono ?_
            rintro y w5 ⟨rfl, hb⟩
            have k25 : Keeps w2 w5 := (But.to hke hge hTe).trans hb
            have HK5 : Hid (Keeps w w5) := HK2.out.trans k25
            have HO5 : Hid (EOwn w.heap.size w5 (.slice oa L.length oc) L) := HO2.out.keep k25
            have HE5 : Hid (CBox eb (EC e) w5) := hSe.keep hb (Nat.le_of_ble_eq_true rfl)
            clear hb k25 hBe hke hle hge hSe hTe HK2 HO2 HE HI HEC HOK HF HB
            go_wp2_with (first | (refine load35 rfl rfl eb rfl (e := e) HE5.out ?_) | (refine app_ent (HK5.out.alloc _) rfl _ _ rfl (.slice oa L.length oc) L rfl (HO5.out.keep ((Keeps.refl _).alloc _)) e _ rfl (ent_new w5 e 1) (by omega) ?_; intro v6 w6 hO6 hK6))
            obtain ⟨oa6, oc6, hv6, _⟩ := hO6.at.len
            go_roundw
            case rel => exact ⟨L ++ [e], k + n, oa6, oc6, hv6, by go_num, by simp; omega, hn, ⟨hO6, HRP.out, HLB.out⟩, hK6⟩
            case measure => simp [intOf]; omega
      · have HE : Hid (EOwn w.heap.size wr (.slice oa L.length oc) RL ∧ (RN : Int) = k ∧ RE = 0) := by
          obtain ⟨h1, h2, h3⟩ := HL.out
          have e1 : RL = L := by
            have : 50 - L.length = 0 := by omega
            rw [h1, HI.out.2.1, this]
            simp [repl]
          exact ⟨by rw [e1]; exact HI.out.1, by rw [h3, e1, HI.out.2.2], h2⟩
        go_wp2_with fail
        go_ret3
        rw [HE.out.2.1, HE.out.2.2]
        exact ⟨_, HE.out.1, rfl, HK.out⟩
  · have HL : Hid (rpL l = [] ∧ rpE l = 2 ∧ rpN l = (allBs (rpL l)).length) := ⟨if_neg h4, if_neg h4, rfl⟩
    generalize rpL l = RL at *
    generalize rpE l = RE at *
    generalize rpN l = RN at *
    go_enter Try.func18, Try.ntmps18
    go_wp2_with fail
    go_ret3
    obtain ⟨h1, h2, h3⟩ := HL.out
    subst h1 h2
    rw [h3]
    exact ⟨_, EOwn.nil, rfl, Keeps.refl _⟩
end Go.Proofs.Yteabfjpajgakiaf

/- The reference's bytes and ears. -/
set_option linter.unusedSimpArgs false
set_option linter.unusedVariables false
set_option maxRecDepth 10000
namespace Go.Proofs.Yteabfjpajgakiaf
open Go.RowKit

theorem nth_drop (l : List UInt8) (i j : Nat) : nth (l.drop i) j = nth l (i + j) := by
  unfold nth
  simp only [List.getD_eq_getElem?_getD, List.getElem?_drop]

set_option maxHeartbeats 1000000 in
theorem ear_byte (b : Nat) (w : World) : ∀ (l : List UInt8), RBox b l w → Calls Try.prog 42 #[.pointer (some ⟨b, 0, none⟩)] w fun y w' => y = .returned (.int .i64 (i8 (nth l 0))) ∧ RBox b (l.drop 1) w' ∧ But b w w'
  | [], hB => by
    have HB : Hid (RBox b [] w) := hB
    obtain ⟨hc, hf⟩ := hB
    have hie : (bt []).toList.isEmpty = true := by rw [bt_list]; rfl
    go_enter Try.func42, Try.ntmps42
    go_wp2_with fail
    go_ret
    exact ⟨rfl, HB.out, But.refl _ _⟩
  | x :: r, hB => by
    have HB : Hid (RBox b (x :: r) w) := hB
    obtain ⟨hc, hf⟩ := hB
    have hs := bt_size (x :: r)
    have hie : (bt (x :: r)).toList.isEmpty = false := by rw [bt_list]; rfl
    have HX : Hid ((bt (x :: r)).extract 1 (r.length + 1) = bt r) := bt_drop (x :: r) 1
    have h0 := i8_lo x
    have h1 := i8_hi x
    go_enter Try.func42, Try.ntmps42
    go_wp2_with fail
    go_ret
    rw [HX.out]
    refine ⟨?_, HB.out.set, (But.refl _ _).set _ _⟩
    rw [bt_head]
    have : wrap64 (x.toNat : Int) = i8 x := by unfold i8 at *; unfold wrap64; omega
    rw [this]
    rfl
set_option maxHeartbeats 1000000 in
theorem ear_two (b : Nat) (l : List UInt8) (w : World) (hB : RBox b l w) : Calls Try.prog 43 #[.pointer (some ⟨b, 0, none⟩)] w fun y w' => y = .returned (.int .i64 (i8 (nth l 0) * 256 + i8 (nth l 1))) ∧ RBox b (l.drop 2) w' ∧ But b w w' := by
  have HB : Hid (RBox b l w) := hB
  clear hB
  have h0 := i8_lo (nth l 0)
  have h1 := i8_hi (nth l 0)
  have h2 := i8_lo (nth l 1)
  have h3 := i8_hi (nth l 1)
  have HC : Hid (∀ W, RBox b l W → Calls Try.prog 42 #[.pointer (some ⟨b, 0, none⟩)] W fun y w' => y = .returned (.int .i64 (i8 (nth l 0))) ∧ RBox b (l.drop 1) w' ∧ But b W w') := fun W h => ear_byte b W l h
  have HD : Hid (∀ W, RBox b (l.drop 1) W → Calls Try.prog 42 #[.pointer (some ⟨b, 0, none⟩)] W fun y w' => y = .returned (.int .i64 (i8 (nth l 1))) ∧ RBox b (l.drop 2) w' ∧ But b W w') := fun W h => by
    have := ear_byte b W (l.drop 1) h
    rw [nth_drop, List.drop_drop] at this
    exact this
  generalize i8 (nth l 0) = x at *
  generalize i8 (nth l 1) = z at *
  go_enter Try.func43, Try.ntmps43
  go_wp2_with fail
  refine (HC.out w HB.out).mono ?_
  rintro y w1 ⟨rfl, hB1, hb1⟩
  have HB1 : Hid (RBox b (l.drop 1) w1) := hB1
  have HK1 : Hid (But b w w1) := hb1
  clear hB1 hb1 HB HC
  go_wp2_with fail
  refine (HD.out w1 HB1.out).mono ?_
  rintro y w2 ⟨rfl, hB2, hb2⟩
  have HB2 : Hid (RBox b (l.drop 2) w2) := hB2
  have HK2 : Hid (But b w w2) := HK1.out.trans hb2
  have HM : Hid (256 * x + z = x * 256 + z) := by show _ = _; omega
  clear hB2 hb2 HB1 HD
  go_wp2_with fail
  go_ret
  first
    | exact ⟨rfl, HB2.out, HK2.out⟩
    | (rw [← HM.out]; exact ⟨rfl, HB2.out, HK2.out⟩)
theorem two_div {n : Int} (h0 : 0 ≤ n) : n.tdiv 256 = n / 256 ∧ n.tmod 256 = n % 256 := ⟨Int.tdiv_eq_ediv_of_nonneg h0, Int.tmod_eq_emod_of_nonneg h0⟩
set_option maxHeartbeats 1000000 in
theorem two_bytes (n : Int) (h0 : 0 ≤ n) (h1 : n ≤ 65535) (w : World) : Calls Try.prog 39 #[.int .i64 n] w fun y w' => ∃ b, y = .returned (.slice (some ⟨b, 0, none⟩) 2 2) ∧ (b < w'.heap.size ∧ ∀ j u, (byCells (wide n))[j]? = some u → w'.cell? ((⟨b, 0, none⟩ : Addr).add j) = some u) ∧ Keeps w w' ∧ w.heap.size ≤ b := by
  have e1 := wrap_b8 (n / 256)
  have e2 : IntKind.u8.wrap (n % 256) = i8 (b8 n) := by rw [wrap_b8, b8_mod]
  obtain ⟨d1, d2⟩ := two_div h0
  have HB : Hid (∀ w : World, ∀ t, ∀ j u, (byCells (wide n))[j]? = some u → (w.alloc (.cells #[.int .u8 (i8 (b8 (n / 256))), .int .u8 (i8 (b8 n))] t)).cell? ((⟨w.heap.size, 0, none⟩ : Addr).add j) = some u) := fun w t => new_bytes w (wide n) t
  go_enter Try.func39, Try.ntmps39
  go_wp2_with fail
  go_ret
  exact ⟨_, rfl, ⟨by simp, HB.out _ _⟩, (Keeps.refl _).alloc _, Nat.le_refl _⟩
end Go.Proofs.Yteabfjpajgakiaf
