/- Base, Frame, OpenInt, BndA, SesA, Aft, RefW, SesB. -/
import Derived.Test.YteabfjpajgakiabChecked
import Derived.WalkKit
import Derived.WalkLawsBesides
import Derived.Deep.QuietTactic
import Derived.BigQuiet
import Derived.Deep.RegionWith
import Derived.Test.YteabfjpajgakiabRows
import Derived.ProofKit
import Derived.OpenShut
import Derived.Carry
import Derived.Lib.SmallJoins
/- The frame of all contracts. -/
namespace Go.Proofs.Yteabfjpajgakiab
open Go.RowKit

/-- What was there when the call began is as it was. -/
def Keeps (a w : World) : Prop := Below a.heap.size a w
theorem Keeps.refl (a : World) : Keeps a a := Below.refl _ _
theorem Keeps.alloc {a w : World} (h : Keeps a w) (o : Obj) : Keeps a (w.alloc o) := Below.alloc h (Below.size h) o
theorem Keeps.drew {a w : World} (h : Keeps a w) : Keeps a w.drew := Below.drew h
theorem Keeps.trans {a b c : World} (h : Keeps a b) (k : Keeps b c) : Keeps a c := Below.trans h (Below.mono k (Below.size h))
theorem Keeps.set {a w : World} (h : Keeps a w) {p : Addr} (hp : a.heap.size ≤ p.block) (u : Value) : Keeps a (w.setCell p u) := Below.setCell h hp u
theorem Keeps.size {a w : World} (h : Keeps a w) : a.heap.size ≤ w.heap.size := Below.size h
theorem Keeps.drewN {a w : World} (h : Keeps a w) (n : Nat) : Keeps a (w.drewN n) := by
  exact h.trans ⟨rfl, rfl, rfl, Nat.le_refl _, fun _ _ => rfl⟩
theorem Keeps.cells {W w1 : World} (hb : Keeps W w1) : (∀ b o, b < W.heap.size → w1.cell? ⟨b, o, none⟩ = W.cell? ⟨b, o, none⟩) ∧ (∀ b o, b < W.heap.size → w1.frozen? ⟨b, o, none⟩ = W.frozen? ⟨b, o, none⟩) :=
  ⟨fun b o h => Below.cell hb (p := ⟨b, o, none⟩) h, fun b o h => Below.frozen hb (p := ⟨b, o, none⟩) h⟩
def inB (n lo hi : Int) : Bool := decide (lo ≤ n) && decide (n ≤ hi)

end Go.Proofs.Yteabfjpajgakiab

/- What a law's row asks behind the walk: shared by all laws of the seat. -/
set_option linter.unusedSimpArgs false
set_option linter.unusedVariables false
namespace Go.Proofs.Yteabfjpajgakiab
open Go.ChangeShapes Go.WideShapes Go.ChangeAt Go.RowKit

theorem own : ownKnob Try.prog.godebug = none := by kernel_rfl
theorem laid_out : laidOutB Try.prog = true := by kernel_rfl

section
variable {H : Type} {enc : TypeId × Value → H}

/-- The arguments read behind the call as they read before. -/
theorem all_stay {W W' : World} (hk : Keeps W W') : ∀ (ts : List TypeId) (vs : List Value) (ds : List (DataW H)) (ps : List MemPlace),
    (∀ t ∈ ts, Try.prog.readableRec t = true ∧ t < Try.prog.types.size) → (∀ x ∈ ps, x.block < W.heap.size) →
    DataW.TrodAll enc Try.prog W 0 (fun _ => true) true ts vs ds ps → DataW.TrodAll enc Try.prog W' 0 (fun b => decide (b < W.heap.size)) true ts vs ds ps
  | [], vs, ds, ps, _, _, h => by
    obtain ⟨rfl, rfl, rfl⟩ := trodAll_nil h
    exact trodAll_mk0
  | t :: ts, vs, ds, ps, ht, hp, h => by
    obtain ⟨v, vs', d, ds', p, q, rfl, rfl, rfl, h0, hs⟩ := trodAll_cons h
    have h1 := ht t (List.mem_cons_self ..)
    exact trodAll_cons_mk (Below.trod laid_out h1.1 h1.2 h0 hk (fun x hx => hp x (List.mem_append_left _ hx)))
      (all_stay hk ts vs' ds' q (fun t' h' => ht t' (List.mem_cons_of_mem _ h')) (fun x hx => hp x (List.mem_append_right _ hx)) hs)

/-- Behind a walk that answers true and turns nothing that was there: what the row asks. -/
theorem law_post {f : Func} {s : ChangeSpec} {W W' : World} {args : Array Value} {ds gs : List (DataW H)} {before : List MemPlace}
    (hvars : s.vars = []) (hres : f.resultTypes = #[4]) (hts : ∀ t ∈ f.params.toList, Try.prog.readableRec t = true ∧ t < Try.prog.types.size)
    (hfn : s.fn H (ds ++ gs) = { results := [.lit (.bool true)], args := ds })
    (hW : DataW.Whole enc Try.prog f.params.toList s.vars false W args.toList ds gs before) (hk : Keeps W W') :
    s.post enc Try.prog f false true false false W args (.bool true) W' := by
  have hlt := hW.lt
  have hW' := hW
  obtain ⟨p, q, hA, hV, rfl, _, _⟩ := hW
  rw [hvars] at hV
  obtain ⟨rfl, rfl⟩ := trodVars_none hV
  refine ⟨ds, [], p ++ [], [], p, [], hW', ?_, ?_, ?_, Below.frame hk _, fun h => by cases h⟩
  · rw [hfn, hres]; exact trodAll_cons_mk (shut_bool Try.underlying4 _) trodAll_mk0
  · rw [hfn]; exact all_stay hk _ _ _ _ hts (fun x hx => hlt x (List.mem_append_left _ hx)) hA
  · rw [hfn, hvars]; exact rfl
end
end Go.Proofs.Yteabfjpajgakiab

/- The arguments of a law: an int. -/
set_option linter.unusedSimpArgs false
set_option linter.unusedVariables false
set_option maxRecDepth 100000
namespace Go.Proofs.Yteabfjpajgakiab
open Go.ChangeShapes Go.WideShapes Go.ChangeAt Go.RowKit Go.Joins

section
variable {H : Type} {enc : TypeId × Value → H} {w : World} {base : Nat} {spare : Nat → Bool} {held : Bool}

theorem cells3 : Try.prog.cellsOf 3 = 1 := by kernel_rfl

theorem one_int {n : Nat} {v : Value} {y : DataW H × List MemPlace} (h : DataW.trod enc Try.prog w base spare held n 3 [v] = some y) : ∃ a : Int, v = .int .i64 a := by
  obtain ⟨a, e, _, _⟩ := DataW.trod_int Try.underlying3 h
  simp at e
  exact ⟨a, e⟩

end

/-- An int's argument, with its bounds. -/
theorem open_int64 {H : Type} {enc : TypeId × Value → H} {w : World} {base : Nat} {spare : Nat → Bool} {held : Bool} {r : Reach} {b0 : Nat} {v : Value} {d : DataW H} {p : List MemPlace} (hv : Value.okWide Try.prog w r b0 3 v) (h : DataW.Trod enc Try.prog w base spare held 3 v d p) :
    ∃ n : Int, v = .int .i64 n ∧ -9223372036854775808 ≤ n ∧ n ≤ 9223372036854775807 := by
  obtain ⟨n, rfl⟩ := okWide_int Try.underlying3 hv
  obtain ⟨k, hk⟩ := field_of_Trod h (by simp [Value.cells])
  obtain ⟨m, e, _, hw⟩ := DataW.trod_int Try.underlying3 hk
  obtain rfl : n = m := by simpa using e
  have := in64_of_wf hw
  unfold In64 at this
  exact ⟨n, rfl, by omega, by omega⟩

end Go.Proofs.Yteabfjpajgakiab

/- bound.In. -/
namespace Go.Proofs.Yteabfjpajgakiab
open Go.RowKit

theorem bound_in (n lo hi : Int) (w : World) :
    Calls Try.prog 26 #[.int .i64 n, .int .i64 lo, .int .i64 hi] w fun e w' => e = .returned (.bool (inB n lo hi)) ∧ w = w' := by
  by_cases h : lo ≤ n
  · go_enter Try.func26, Try.ntmps26
    go_wp2
    go_ret
    exact ⟨by simp [inB, h], rfl⟩
  · have h' : decide (lo ≤ n) = false := by simpa using h
    go_enter Try.func26, Try.ntmps26
    go_wp2
    go_ret
    exact ⟨by simp only [inB, h', Bool.false_and]; rfl, rfl⟩

end Go.Proofs.Yteabfjpajgakiab

/- Sessions in memory: what a table reads as. -/
set_option linter.unusedSimpArgs false
set_option linter.unusedVariables false
namespace Go.Proofs.Yteabfjpajgakiab
open Go.RowKit

/-- A session: client, acked, seen, the answers that are kept. -/
structure Ses where
  client : Int
  acked : Int
  seen : Int
  kept : List (Int × Int)

/-- The cells of the answers. -/
def repCells : List (Int × Int) → List Value
  | [] => []
  | (q, v) :: r => .int .i64 q :: .int .i64 v :: repCells r

/-- A slice value whose elements' cells are these (size cells an element, n elements): nil and other empty slices too. -/
def RowAt (w : World) (size : Nat) (v : Value) (n : Nat) (xs : List Value) : Prop :=
  xs.length = n * size ∧ n ≤ maxLen ∧ ((v = .slice none 0 0 ∧ n = 0) ∨ ∃ a cap, v = .slice (some a) n cap ∧ ∀ j u, xs[j]? = some u → w.cell? (a.add j) = some u)

def KeptAt (w : World) (v : Value) (l : List (Int × Int)) : Prop := RowAt w 2 v l.length (repCells l)

/-- The cells of sessions, the slices of answers being these values. -/
def sesCells : List Ses → List Value → List Value
  | s :: r, k :: ks => .int .i64 s.client :: .int .i64 s.acked :: .int .i64 s.seen :: k :: sesCells r ks
  | _, _ => []

/-- The slices read as what is kept. -/
def KeptsAt (w : World) : List Ses → List Value → Prop
  | [], [] => True
  | s :: r, k :: ks => KeptAt w k s.kept ∧ KeptsAt w r ks
  | _, _ => False

def TabAt (w : World) (v : Value) (L : List Ses) : Prop := ∃ ks, KeptsAt w L ks ∧ RowAt w 4 v L.length (sesCells L ks)

theorem RowAt.keep {w w' : World} {size n : Nat} {v : Value} {xs : List Value} (h : RowAt w size v n xs) (hk : Keeps w w') : RowAt w' size v n xs := by
  obtain ⟨h1, h2, h3⟩ := h
  refine ⟨h1, h2, ?_⟩
  rcases h3 with h3 | ⟨a, cap, rfl, h3⟩
  · exact .inl h3
  · refine .inr ⟨a, cap, rfl, fun j u hu => ?_⟩
    have := h3 j u hu
    exact (Below.cell hk (World.block_lt_of_cell? _ _ this)).trans this

theorem spot_none {w : World} {a : Addr} {u : Value} (h : w.cell? a = some u) : a.spot = none := by
  unfold World.cell? at h
  split at h
  · cases hs : a.spot with
    | none => rfl
    | some _ => simp [hs] at h
  · cases h

/-- Where there is an element the address is plain. -/
theorem RowAt.plain {w : World} {size n : Nat} {v : Value} {xs : List Value} (h : RowAt w size v n xs) (hx : 0 < xs.length) :
    ∃ b off cap, v = .slice (some ⟨b, off, none⟩) n cap ∧ ∀ j u, xs[j]? = some u → w.cell? ⟨b, off + j, none⟩ = some u := by
  obtain ⟨h1, h2, h3⟩ := h
  rcases h3 with ⟨_, h3⟩ | ⟨a, cap, rfl, h3⟩
  · subst h3; omega
  · have h0 := h3 0 xs[0] (by rw [List.getElem?_eq_getElem hx])
    have e : a.add 0 = a := rfl
    rw [e] at h0
    have hs := spot_none h0
    obtain ⟨b, off, sp⟩ := a
    simp only at hs
    subst hs
    exact ⟨b, off, cap, rfl, fun j u hu => by have := h3 j u hu; rwa [Addr.add_lit] at this⟩

theorem RowAt.len {w : World} {size n : Nat} {v : Value} {xs : List Value} (h : RowAt w size v n xs) : ∃ a cap, v = .slice a n cap ∧ n ≤ maxLen := by
  obtain ⟨_, h2, h3⟩ := h
  rcases h3 with ⟨rfl, rfl⟩ | ⟨a, cap, rfl, _⟩
  · exact ⟨_, _, rfl, h2⟩
  · exact ⟨_, _, rfl, h2⟩

theorem KeptAt.keep {w w' : World} {v : Value} {l : List (Int × Int)} (h : KeptAt w v l) (hk : Keeps w w') : KeptAt w' v l := RowAt.keep h hk

theorem KeptsAt.keep {w w' : World} (hk : Keeps w w') : ∀ {L : List Ses} {ks : List Value}, KeptsAt w L ks → KeptsAt w' L ks
  | [], [], _ => trivial
  | _ :: _, _ :: _, h => ⟨h.1.keep hk, KeptsAt.keep hk h.2⟩

theorem TabAt.keep {w w' : World} {v : Value} {L : List Ses} (h : TabAt w v L) (hk : Keeps w w') : TabAt w' v L := by
  obtain ⟨ks, h1, h2⟩ := h
  exact ⟨ks, h1.keep hk, h2.keep hk⟩

theorem repCells_len : ∀ l : List (Int × Int), (repCells l).length = l.length * 2
  | [] => rfl
  | (_, _) :: r => by simp [repCells, repCells_len r]; omega

theorem repCells_at : ∀ (l : List (Int × Int)) (k : Nat) (q v : Int), l[k]? = some (q, v) → (repCells l)[2 * k]? = some (.int .i64 q) ∧ (repCells l)[2 * k + 1]? = some (.int .i64 v)
  | [], k, q, v, h => by simp at h
  | (a, b) :: r, 0, q, v, h => by
    simp at h; obtain ⟨rfl, rfl⟩ := h; exact ⟨rfl, rfl⟩
  | (a, b) :: r, k + 1, q, v, h => by
    have := repCells_at r k q v (by simpa using h)
    rw [show 2 * (k + 1) = 2 * k + 1 + 1 from by omega]
    exact ⟨by simpa [repCells] using this.1, by simpa [repCells] using this.2⟩

/-- Answer number k of what is kept, in memory. -/
theorem KeptAt.at {w : World} {v : Value} {l : List (Int × Int)} (h : KeptAt w v l) {k : Nat} (hk : k < l.length) :
    ∃ b off cap, v = .slice (some ⟨b, off, none⟩) l.length cap ∧ l.length ≤ maxLen ∧
      ∀ i (hi : i < l.length), w.cell? ⟨b, off + i * 2, none⟩ = some (.int .i64 (l[i]).1) ∧ w.cell? ⟨b, off + i * 2 + 1, none⟩ = some (.int .i64 (l[i]).2) := by
  obtain ⟨b, off, cap, rfl, h3⟩ := RowAt.plain h (by rw [repCells_len]; omega)
  refine ⟨b, off, cap, rfl, h.2.1, fun i hi => ?_⟩
  have e := repCells_at l i (l[i]).1 (l[i]).2 (by rw [List.getElem?_eq_getElem hi])
  rw [Nat.mul_comm i 2]
  exact ⟨h3 _ _ e.1, h3 _ _ e.2⟩

theorem KeptAt.len {w : World} {v : Value} {l : List (Int × Int)} (h : KeptAt w v l) : ∃ a cap, v = .slice a l.length cap ∧ l.length ≤ maxLen := RowAt.len h

theorem kept_nil (w : World) : KeptAt w (.slice none 0 0) [] := ⟨rfl, by unfold maxLen; simp, .inl ⟨rfl, rfl⟩⟩

/-- The check of what is kept. -/
def keptOk (hi : Int) : Int → List (Int × Int) → Bool
  | _, [] => true
  | lo, (q, v) :: r => inB q lo hi && inB v (-1) 999 && keptOk hi (q + 1) r

def sesErr (s : Ses) : Int :=
  if !(inB s.client 1 5 && inB s.acked 0 60 && inB s.seen 0 999) then 3
  else if !keptOk (min (s.acked + 3) 60) (s.acked + 1) s.kept then 1 else 0

abbrev sesV (s : Ses) (k : Value) : Value := .agg #[.int .i64 s.client, .int .i64 s.acked, .int .i64 s.seen, k]

set_option maxHeartbeats 1000000 in
theorem check_one_range (s : Ses) (kv : Value) (w : World) (h : (inB s.client 1 5 && inB s.acked 0 60 && inB s.seen 0 999) = false) :
    Calls Try.prog 47 #[sesV s kv] w fun e w' => e = .returned (.int .i64 3) ∧ Keeps w w' := by
  go_enter Try.func47, Try.ntmps47
  go_wp2_with (first | (go_at_call 26; refine (bound_in _ _ _ _).mono ?_; rintro e w' ⟨rfl, rfl⟩))
  all_goals first | (go_ret; exact ⟨rfl, (Keeps.refl _).alloc _⟩) | (exfalso; go_tidy; simp_all; done)

theorem inB_iff {n lo hi : Int} : inB n lo hi = true ↔ lo ≤ n ∧ n ≤ hi := by simp [inB]

theorem keptOk_at {hi l : Int} {kept : List (Int × Int)} {k : Nat} (h : k < kept.length) :
    keptOk hi l (kept.drop k) = (inB (kept[k]).1 l hi && inB (kept[k]).2 (-1) 999 && keptOk hi ((kept[k]).1 + 1) (kept.drop (k + 1))) := by
  rw [List.drop_eq_getElem_cons h]; rfl
theorem sesErr_ok {s : Ses} (h1 : inB s.client 1 5 = true) (h2 : inB s.acked 0 60 = true) (h3 : inB s.seen 0 999 = true) (h : keptOk (min (s.acked + 3) 60) (s.acked + 1) s.kept = true) : sesErr s = 0 := by
  simp [sesErr, h1, h2, h3, h]
theorem sesErr_form {s : Ses} (h1 : inB s.client 1 5 = true) (h2 : inB s.acked 0 60 = true) (h3 : inB s.seen 0 999 = true) (h : keptOk (min (s.acked + 3) 60) (s.acked + 1) s.kept = false) : sesErr s = 1 := by
  simp [sesErr, h1, h2, h3, h]
theorem ret_int {k : IntKind} {a b : Int} (h : a = b) : Ending.returned (.int k a) = .returned (.int k b) := by rw [h]

set_option maxHeartbeats 1000000 in
theorem check_one_formA (s : Ses) (kv : Value) (w : World) (hk : KeptAt w kv s.kept) (h1 : inB s.client 1 5 = true) (h2 : inB s.acked 0 60 = true) (h3 : inB s.seen 0 999 = true) (hm : s.acked + 3 ≤ 60) :
    Calls Try.prog 47 #[sesV s kv] w fun e w' => e = .returned (.int .i64 (sesErr s)) ∧ Keeps w w' := by
  have ha := inB_iff.1 h2
  obtain ⟨ha0, ha1⟩ := ha
  obtain ⟨ka, kc, rfl, hlen⟩ := hk.len
  unfold maxLen at hlen
  have HK : Hid (KeptAt w (.slice ka s.kept.length kc) s.kept) := hk
  clear hk
  have hm2 : Hid (min (s.acked + 3) 60 = (s.acked + 3)) := by show min _ _ = _; omega
  go_enter Try.func47, Try.ntmps47
  go_wp2_with (first | (go_at_call 26; refine (bound_in _ _ _ _).mono ?_; rintro e w' ⟨rfl, rfl⟩))
  go_region
  go_wp2_with fail
  go_loopw [3, 33] (fun lo i wr => ∃ (k : Nat) (l : Int), k ≤ s.kept.length ∧ i = .int .i64 k ∧ lo = .int .i64 l ∧ 0 ≤ l ∧ l ≤ 100 ∧ Keeps w wr ∧ Hid (keptOk (min (s.acked + 3) 60) (s.acked + 1) s.kept = keptOk (s.acked + 3) l (s.kept.drop k))) (fun _ i _ => s.kept.length - (intOf i).toNat)
  case atStart => exact ⟨0, _, Nat.zero_le _, rfl, rfl, by omega, by omega, ((Keeps.refl _).alloc _).drew, by show _ = _; rw [hm2.out]; rfl⟩
  case round =>
    obtain ⟨k, l, hk, rfl, rfl, hl0, hl1, hkw, HQ⟩ := hrel
    by_cases hlt : k < s.kept.length
    · obtain ⟨b, off, cap, hv, _, hcell⟩ := (HK.out.keep hkw).at hlt
      have hc := hcell k hlt
      injection hv with hv1 hv2 hv3
      subst hv1
      clear hcell hv2 hv3
      obtain ⟨hc0, hc1⟩ := hc
      have HR : Hid (keptOk (min (s.acked + 3) 60) (s.acked + 1) s.kept = (inB (s.kept[k]).1 l (s.acked + 3) && inB (s.kept[k]).2 (-1) 999 && keptOk (s.acked + 3) ((s.kept[k]).1 + 1) (s.kept.drop (k + 1)))) := HQ.out.trans (keptOk_at hlt)
      generalize (s.kept[k]).1 = q at *
      generalize (s.kept[k]).2 = v at *
      cases hb1 : inB q l (s.acked + 3) with
      | false =>
        have HE : Hid (sesErr s = 1) := sesErr_form h1 h2 h3 (by rw [HR.out, hb1]; rfl)
        go_wp2_with (first | (go_at_call 26; refine (bound_in _ _ _ _).mono ?_; rintro e w' ⟨rfl, rfl⟩))
        go_ret
        exact ⟨ret_int HE.out.symm, hkw.alloc _⟩
      | true =>
        have hbq := inB_iff.1 hb1
        obtain ⟨hbq0, hbq1⟩ := hbq
        cases hb2 : inB v (-1) 999 with
        | false =>
          have HE : Hid (sesErr s = 1) := sesErr_form h1 h2 h3 (by rw [HR.out, hb1, hb2]; rfl)
          go_wp2_with (first | (go_at_call 26; refine (bound_in _ _ _ _).mono ?_; rintro e w' ⟨rfl, rfl⟩))
          go_ret
          exact ⟨ret_int HE.out.symm, hkw.alloc _⟩
        | true =>
          have HN : Hid (keptOk (min (s.acked + 3) 60) (s.acked + 1) s.kept = keptOk (s.acked + 3) (q + 1) (s.kept.drop (k + 1))) := by show _ = _; rw [HR.out, hb1, hb2]; rfl
          clear HR
          go_wp2_with (first | (go_at_call 26; refine (bound_in _ _ _ _).mono ?_; rintro e w' ⟨rfl, rfl⟩))
          go_roundw
          case rel => exact ⟨k + 1, q + 1, by omega, by go_num, rfl, by omega, by omega, hkw.alloc _, HN⟩
          case measure => simp [intOf]; omega
    · have HE : Hid (sesErr s = 0) := sesErr_ok h1 h2 h3 (by rw [HQ.out, List.drop_of_length_le (by omega)]; rfl)
      go_wp2_with fail
      go_ret
      exact ⟨ret_int HE.out.symm, hkw⟩

set_option maxHeartbeats 1000000 in
theorem check_one_formB (s : Ses) (kv : Value) (w : World) (hk : KeptAt w kv s.kept) (h1 : inB s.client 1 5 = true) (h2 : inB s.acked 0 60 = true) (h3 : inB s.seen 0 999 = true) (hm : 60 < s.acked + 3) :
    Calls Try.prog 47 #[sesV s kv] w fun e w' => e = .returned (.int .i64 (sesErr s)) ∧ Keeps w w' := by
  have ha := inB_iff.1 h2
  obtain ⟨ha0, ha1⟩ := ha
  obtain ⟨ka, kc, rfl, hlen⟩ := hk.len
  unfold maxLen at hlen
  have HK : Hid (KeptAt w (.slice ka s.kept.length kc) s.kept) := hk
  clear hk
  have hm2 : Hid (min (s.acked + 3) 60 = 60) := by show min _ _ = _; omega
  go_enter Try.func47, Try.ntmps47
  go_wp2_with (first | (go_at_call 26; refine (bound_in _ _ _ _).mono ?_; rintro e w' ⟨rfl, rfl⟩))
  go_region
  go_wp2_with fail
  go_loopw [3, 33] (fun lo i wr => ∃ (k : Nat) (l : Int), k ≤ s.kept.length ∧ i = .int .i64 k ∧ lo = .int .i64 l ∧ 0 ≤ l ∧ l ≤ 100 ∧ Keeps w wr ∧ Hid (keptOk (min (s.acked + 3) 60) (s.acked + 1) s.kept = keptOk 60 l (s.kept.drop k))) (fun _ i _ => s.kept.length - (intOf i).toNat)
  case atStart => exact ⟨0, _, Nat.zero_le _, rfl, rfl, by omega, by omega, ((Keeps.refl _).alloc _).drew, by show _ = _; rw [hm2.out]; rfl⟩
  case round =>
    obtain ⟨k, l, hk, rfl, rfl, hl0, hl1, hkw, HQ⟩ := hrel
    by_cases hlt : k < s.kept.length
    · obtain ⟨b, off, cap, hv, _, hcell⟩ := (HK.out.keep hkw).at hlt
      have hc := hcell k hlt
      injection hv with hv1 hv2 hv3
      subst hv1
      clear hcell hv2 hv3
      obtain ⟨hc0, hc1⟩ := hc
      have HR : Hid (keptOk (min (s.acked + 3) 60) (s.acked + 1) s.kept = (inB (s.kept[k]).1 l 60 && inB (s.kept[k]).2 (-1) 999 && keptOk 60 ((s.kept[k]).1 + 1) (s.kept.drop (k + 1)))) := HQ.out.trans (keptOk_at hlt)
      generalize (s.kept[k]).1 = q at *
      generalize (s.kept[k]).2 = v at *
      cases hb1 : inB q l 60 with
      | false =>
        have HE : Hid (sesErr s = 1) := sesErr_form h1 h2 h3 (by rw [HR.out, hb1]; rfl)
        go_wp2_with (first | (go_at_call 26; refine (bound_in _ _ _ _).mono ?_; rintro e w' ⟨rfl, rfl⟩))
        go_ret
        exact ⟨ret_int HE.out.symm, hkw.alloc _⟩
      | true =>
        have hbq := inB_iff.1 hb1
        obtain ⟨hbq0, hbq1⟩ := hbq
        cases hb2 : inB v (-1) 999 with
        | false =>
          have HE : Hid (sesErr s = 1) := sesErr_form h1 h2 h3 (by rw [HR.out, hb1, hb2]; rfl)
          go_wp2_with (first | (go_at_call 26; refine (bound_in _ _ _ _).mono ?_; rintro e w' ⟨rfl, rfl⟩))
          go_ret
          exact ⟨ret_int HE.out.symm, hkw.alloc _⟩
        | true =>
          have HN : Hid (keptOk (min (s.acked + 3) 60) (s.acked + 1) s.kept = keptOk 60 (q + 1) (s.kept.drop (k + 1))) := by show _ = _; rw [HR.out, hb1, hb2]; rfl
          clear HR
          go_wp2_with (first | (go_at_call 26; refine (bound_in _ _ _ _).mono ?_; rintro e w' ⟨rfl, rfl⟩))
          go_roundw
          case rel => exact ⟨k + 1, q + 1, by omega, by go_num, rfl, by omega, by omega, hkw.alloc _, HN⟩
          case measure => simp [intOf]; omega
    · have HE : Hid (sesErr s = 0) := sesErr_ok h1 h2 h3 (by rw [HQ.out, List.drop_of_length_le (by omega)]; rfl)
      go_wp2_with fail
      go_ret
      exact ⟨ret_int HE.out.symm, hkw⟩

/-- sess.checkOne. -/
theorem check_one (s : Ses) (kv : Value) (w : World) (hk : KeptAt w kv s.kept) :
    Calls Try.prog 47 #[sesV s kv] w fun e w' => e = .returned (.int .i64 (sesErr s)) ∧ Keeps w w' := by
  cases h : (inB s.client 1 5 && inB s.acked 0 60 && inB s.seen 0 999) with
  | false =>
    rw [show sesErr s = 3 from by simp [sesErr, h]]
    exact check_one_range s kv w h
  | true =>
    simp only [Bool.and_eq_true] at h
    by_cases hm : s.acked + 3 ≤ 60
    · exact check_one_formA s kv w hk h.1.1 h.1.2 h.2 hm
    · exact check_one_formB s kv w hk h.1.1 h.1.2 h.2 (by omega)
end Go.Proofs.Yteabfjpajgakiab

/- A region that draws its order, whose operations only read and whose calls leave all that was there as it was. -/
set_option linter.unusedSimpArgs false
set_option linter.unusedVariables false
namespace Go.Proofs.Yteabfjpajgakiab
open Go.RowKit

/-- A world in which all that was there in W0 is as it was. -/
structure After (W0 : World) where
  w : World
  h : Keeps W0 w
theorem After.some (W0 : World) : Nonempty (After W0) := ⟨⟨W0, Keeps.refl _⟩⟩

/-- A region that draws its order, whose operations only read and whose calls leave all as it was: one walk in the order of the text. -/
theorem wp_region_after {P : Program} {id : Nat} {Q : Exit → Act → World → Prop} {a : Act} {w : World} {l : List Oper} (hm : P.follows .mixedOrders = true) (hB : Region.lexB .any l.toArray = true)
    (h : wpQuiet P l.toArray (fun w' => ∃ s : After w, w' = s.w) (fun a' => ∀ w', (∃ s : After w, w' = s.w) → Q .normal a' w') l a) : (Code.region id l.toArray true).wp P Q a w :=
  wp_region_quiet (C := fun w' => ∃ s : After w, w' = s.w) hm hB ⟨⟨w.drew, (Keeps.refl _).drew⟩, rfl⟩ (by simpa using h)

theorem calls_after {P : Program} {W0 : World} {f : FuncId} {args : Array Value} {s : After W0} {v : Value}
    (h : Calls P f args s.w fun e w' => e = .returned v ∧ Keeps s.w w') : Calls P f args s.w fun e w'' => e = .returned v ∧ ∃ s' : After W0, w'' = s'.w :=
  h.mono fun _ w' ⟨he, hk⟩ => ⟨he, ⟨w', s.h.trans hk⟩, rfl⟩

/-- .. a callee that leaves the very world. -/
theorem calls_after_same {P : Program} {W0 : World} {f : FuncId} {args : Array Value} {s : After W0} {v : Value}
    (h : Calls P f args s.w fun e w' => e = .returned v ∧ s.w = w') : Calls P f args s.w fun e w'' => e = .returned v ∧ ∃ s' : After W0, w'' = s'.w :=
  h.mono fun _ w' ⟨he, hk⟩ => ⟨he, s, hk.symm⟩
/-- .. whose answer is known otherwise. -/
theorem calls_after_eq {P : Program} {W0 : World} {f : FuncId} {args : Array Value} {s : After W0} {v v' : Value}
    (h : Calls P f args s.w fun e w' => e = .returned v ∧ s.w = w') (hv : v = v') : Calls P f args s.w fun e w'' => e = .returned v' ∧ ∃ s' : After W0, w'' = s'.w :=
  hv ▸ calls_after_same h
theorem calls_after_keq {P : Program} {W0 : World} {f : FuncId} {args : Array Value} {s : After W0} {v v' : Value}
    (h : Calls P f args s.w fun e w' => e = .returned v ∧ Keeps s.w w') (hv : v = v') : Calls P f args s.w fun e w'' => e = .returned v' ∧ ∃ s' : After W0, w'' = s'.w :=
  hv ▸ calls_after h
end Go.Proofs.Yteabfjpajgakiab

/- The reference's within. -/
set_option linter.unusedSimpArgs false
set_option linter.unusedVariables false
namespace Go.Proofs.Yteabfjpajgakiab
open Go.RowKit

theorem within_c (n lo hi : Int) (w : World) :
    Calls Try.prog 27 #[.int .i64 n, .int .i64 lo, .int .i64 hi] w fun e w' => e = .returned (.bool (inB n lo hi)) ∧ w = w' := by
  by_cases h : lo ≤ n
  · go_enter Try.func27, Try.ntmps27
    go_wp2
    go_ret
    exact ⟨by simp [inB, h], rfl⟩
  · have h' : decide (lo ≤ n) = false := by simpa using h
    go_enter Try.func27, Try.ntmps27
    go_wp2
    go_ret
    exact ⟨by simp only [inB, h', Bool.false_and]; rfl, rfl⟩

end Go.Proofs.Yteabfjpajgakiab

/- The reference's oneError. -/
set_option linter.unusedSimpArgs false
set_option linter.unusedVariables false
namespace Go.Proofs.Yteabfjpajgakiab
open Go.RowKit

/-- The check of what is kept, as the reference has it. -/
def refOk (lo hi : Int) : Option Int → List (Int × Int) → Bool
  | _, [] => true
  | p, (q, v) :: r => inB q lo hi && inB v (-1) 999 && (match p with | none => true | some x => decide (x < q)) && refOk lo hi (some q) r

theorem refOk_some (lo hi : Int) : ∀ (l : List (Int × Int)) (p : Int), lo ≤ p + 1 → keptOk hi (p + 1) l = refOk lo hi (some p) l
  | [], _, _ => rfl
  | (q, v) :: r, p, h => by
    simp only [keptOk, refOk]
    by_cases hq : p + 1 ≤ q
    · rw [refOk_some lo hi r q (by omega)]
      have e : inB q (p + 1) hi = (inB q lo hi && decide (p < q)) := by
        rw [Bool.eq_iff_iff]; simp [inB]; omega
      rw [e]
      cases inB q lo hi <;> cases decide (p < q) <;> cases inB v (-1) 999 <;> simp
    · have e1 : inB q (p + 1) hi = false := by simp [inB]; omega
      have e2 : decide (p < q) = false := by simp; omega
      simp [e1, e2]

theorem refOk_none (lo hi : Int) (l : List (Int × Int)) : keptOk hi lo l = refOk lo hi none l := by
  cases l with
  | nil => rfl
  | cons x r =>
    obtain ⟨q, v⟩ := x
    simp only [keptOk, refOk]
    by_cases hq : lo ≤ q
    · rw [refOk_some lo hi r q (by omega)]; simp
    · have e1 : inB q lo hi = false := by simp [inB]; omega
      simp [e1]

/-- The number ahead of place k. -/
def prevOf (l : List (Int × Int)) : Nat → Option Int
  | 0 => none
  | j + 1 => (l[j]?).map (·.1)

theorem refOk_at {lo hi : Int} {p : Option Int} {kept : List (Int × Int)} {k : Nat} (h : k < kept.length) :
    refOk lo hi p (kept.drop k) = (inB (kept[k]).1 lo hi && inB (kept[k]).2 (-1) 999 && (match p with | none => true | some x => decide (x < (kept[k]).1)) && refOk lo hi (prevOf kept (k + 1)) (kept.drop (k + 1))) := by
  rw [List.drop_eq_getElem_cons h]
  simp [refOk, prevOf, h]

set_option maxHeartbeats 1000000 in
theorem one_error_range (s : Ses) (kv : Value) (w : World) (h : (inB s.client 1 5 && inB s.acked 0 60 && inB s.seen 0 999) = false) :
    Calls Try.prog 48 #[sesV s kv] w fun e w' => e = .returned (.int .i64 3) ∧ Keeps w w' := by
  go_enter Try.func48, Try.ntmps48
  go_wp2_with (first | (go_at_call 27; refine (within_c _ _ _ _).mono ?_; rintro e w' ⟨rfl, rfl⟩))
  all_goals first | (go_ret; exact ⟨rfl, (Keeps.refl _).alloc _⟩) | (exfalso; go_tidy; simp_all; done)
set_option maxHeartbeats 2000000 in
theorem one_error_formA (s : Ses) (kv : Value) (w : World) (hk : KeptAt w kv s.kept) (h1 : inB s.client 1 5 = true) (h2 : inB s.acked 0 60 = true) (h3 : inB s.seen 0 999 = true) (hm : 0 ≤ s.acked) :
    Calls Try.prog 48 #[sesV s kv] w fun e w' => e = .returned (.int .i64 (sesErr s)) ∧ Keeps w w' := by
  have ha := inB_iff.1 h2
  obtain ⟨ha0, ha1⟩ := ha
  obtain ⟨ka, kc, rfl, hlen⟩ := hk.len
  unfold maxLen at hlen
  have HK : Hid (KeptAt w (.slice ka s.kept.length kc) s.kept) := hk
  clear hk
  have hm2 : Hid (min (s.acked + 3) 60 = (if s.acked + 3 < 60 then s.acked + 3 else 60)) := by show min _ _ = _; split <;> omega
  have HZ : Hid (keptOk (min (s.acked + 3) 60) (s.acked + 1) s.kept = refOk (s.acked + 1) (if s.acked + 3 < 60 then s.acked + 3 else 60) none s.kept) := by show _ = _; rw [hm2.out]; exact refOk_none _ _ _
  go_enter Try.func48, Try.ntmps48
  go_wp2_with (first | (go_at_call 27; refine (within_c _ _ _ _).mono ?_; rintro e w' ⟨rfl, rfl⟩))
  go_loopw [3] (fun i wr => ∃ (k : Nat), k ≤ s.kept.length ∧ i = .int .i64 k ∧ Keeps (w.alloc (.cells #[.int .i64 s.client, .int .i64 s.acked, .int .i64 s.seen, .slice ka s.kept.length kc] 48)) wr ∧ Hid (keptOk (min (s.acked + 3) 60) (s.acked + 1) s.kept = refOk (s.acked + 1) (if s.acked + 3 < 60 then s.acked + 3 else 60) (prevOf s.kept k) (s.kept.drop k))) (fun i _ => s.kept.length - (intOf i).toNat)
  case atStart => exact ⟨0, Nat.zero_le _, rfl, Keeps.refl _, HZ⟩
  case round =>
    obtain ⟨k, hk, rfl, hkW, HQ⟩ := hrel
    clear HZ
    have hkw : Keeps w wr := ((Keeps.refl _).alloc _).trans hkW
    have hxb : w.heap.size < wr.heap.size := by have := hkW.size; simp at this; omega
    have x1 : wr.cell? ⟨w.heap.size, 1, none⟩ = some (.int .i64 s.acked) := (Below.cell hkW (p := ⟨w.heap.size, 1, none⟩) (by simp)).trans (by simp)
    have x3 : wr.cell? ⟨w.heap.size, 3, none⟩ = some (.slice ka s.kept.length kc) := (Below.cell hkW (p := ⟨w.heap.size, 3, none⟩) (by simp)).trans (by simp)
    by_cases hlt : k < s.kept.length
    · obtain ⟨b, off, cap, hv, _, hcell⟩ := (HK.out.keep hkw).at hlt
      injection hv with hv1 hv2 hv3
      subst hv1
      clear hv2 hv3
      have HC : Hid (∀ i (hi : i < s.kept.length), wr.cell? ⟨b, off + i * 2, none⟩ = some (.int .i64 (s.kept[i]).1) ∧ wr.cell? ⟨b, off + i * 2 + 1, none⟩ = some (.int .i64 (s.kept[i]).2)) := hcell
      clear hcell
      have hc0 := (HC.out k hlt).1
      have hc1 := (HC.out k hlt).2
      have HR : Hid (keptOk (min (s.acked + 3) 60) (s.acked + 1) s.kept = (inB (s.kept[k]).1 (s.acked + 1) (if s.acked + 3 < 60 then s.acked + 3 else 60) && inB (s.kept[k]).2 (-1) 999 && (match prevOf s.kept k with | none => true | some x => decide (x < (s.kept[k]).1)) && refOk (s.acked + 1) (if s.acked + 3 < 60 then s.acked + 3 else 60) (prevOf s.kept (k + 1)) (s.kept.drop (k + 1)))) := HQ.out.trans (refOk_at hlt)
      clear HQ
      have hne := After.some wr
      have y1 := fun t : After wr => (Below.cell t.h (p := ⟨w.heap.size, 1, none⟩) hxb).trans x1
      have y3 := fun t : After wr => (Below.cell t.h (p := ⟨w.heap.size, 3, none⟩) hxb).trans x3
      have z0 := fun t : After wr => (Below.cell t.h (p := ⟨b, off + k * 2, none⟩) (World.block_lt_of_cell? _ _ hc0)).trans hc0
      have z1 := fun t : After wr => (Below.cell t.h (p := ⟨b, off + k * 2 + 1, none⟩) (World.block_lt_of_cell? _ _ hc1)).trans hc1
      generalize hgq : (s.kept[k]).1 = q at *
      generalize hgv : (s.kept[k]).2 = v at *
      have Hgq : Hid ((s.kept[k]).1 = q) := hgq
      clear hgq hgv
      cases hb1 : inB q (s.acked + 1) (if s.acked + 3 < 60 then s.acked + 3 else 60) with
      | false =>
        have HE : Hid (sesErr s = 1) := sesErr_form h1 h2 h3 (by rw [HR.out, hb1]; rfl)
        clear HR HC
        go_wp2_with fail
        refine wp_region_after (by kernel_rfl) (by kernel_rfl) ?_
        repeat (first | go_big_quiet_skip | (go_big_quiet_want; go_big_quiet_op; first | go_big_quiet_on | (apply Exists.intro; refine ⟨fun _ => ?_, ?_⟩; (go_at_call 27; first | exact calls_after_eq (within_c _ _ _ _) (congrArg Value.bool hb1) | exact calls_after_eq (within_c _ _ _ _) (congrArg Value.bool hb2)); go_big_quiet_on)))
        refine wpQuiet_nil ?_
        rintro _ ⟨t, rfl⟩
        generalize (if s.acked + 3 < 60 then s.acked + 3 else 60) = hiX
        go_wp2_with fail
        go_ret
        exact ⟨ret_int HE.out.symm, hkw.trans t.h⟩
      | true =>
        cases hb2 : inB v (-1) 999 with
        | false =>
          have HE : Hid (sesErr s = 1) := sesErr_form h1 h2 h3 (by rw [HR.out, hb1, hb2]; rfl)
          clear HR HC
          go_wp2_with fail
          refine wp_region_after (by kernel_rfl) (by kernel_rfl) ?_
          repeat (first | go_big_quiet_skip | (go_big_quiet_want; go_big_quiet_op; first | go_big_quiet_on | (apply Exists.intro; refine ⟨fun _ => ?_, ?_⟩; (go_at_call 27; first | exact calls_after_eq (within_c _ _ _ _) (congrArg Value.bool hb1) | exact calls_after_eq (within_c _ _ _ _) (congrArg Value.bool hb2)); go_big_quiet_on)))
          refine wpQuiet_nil ?_
          rintro _ ⟨t, rfl⟩
          generalize (if s.acked + 3 < 60 then s.acked + 3 else 60) = hiX
          go_wp2_with fail
          go_ret
          exact ⟨ret_int HE.out.symm, hkw.trans t.h⟩
        | true =>
          cases k with
          | zero =>
            simp only [Nat.zero_mul, Nat.add_zero] at z0 z1 hc0 hc1
            have HN : Hid (keptOk (min (s.acked + 3) 60) (s.acked + 1) s.kept = refOk (s.acked + 1) (if s.acked + 3 < 60 then s.acked + 3 else 60) (prevOf s.kept (0 + 1)) (s.kept.drop (0 + 1))) := by show _ = _; rw [HR.out, hb1, hb2]; rfl
            clear HR HC
            go_wp2_with fail
            refine wp_region_after (by kernel_rfl) (by kernel_rfl) ?_
            repeat (first | go_big_quiet_skip | (go_big_quiet_want; go_big_quiet_op; first | go_big_quiet_on | (apply Exists.intro; refine ⟨fun _ => ?_, ?_⟩; (go_at_call 27; first | exact calls_after_eq (within_c _ _ _ _) (congrArg Value.bool hb1) | exact calls_after_eq (within_c _ _ _ _) (congrArg Value.bool hb2)); go_big_quiet_on)))
            refine wpQuiet_nil ?_
            rintro _ ⟨t, rfl⟩
            generalize (if s.acked + 3 < 60 then s.acked + 3 else 60) = hiX
            go_wp2_with fail
            go_roundw
            case rel => exact ⟨0 + 1, by omega, by go_num, hkW.trans t.h, HN⟩
            case measure => simp [intOf]; omega
          | succ j =>
            have hj : j < s.kept.length := by omega
            have hp0 := (HC.out j hj).1
            have zp := fun t : After wr => (Below.cell t.h (p := ⟨b, off + j * 2, none⟩) (World.block_lt_of_cell? _ _ hp0)).trans hp0
            have hpv : prevOf s.kept (j + 1) = some (s.kept[j]).1 := by simp [prevOf, hj]
            rw [hpv] at HR
            generalize (s.kept[j]).1 = p at *
            cases hb3 : decide (p < q) with
            | false =>
              have hb4 : decide (q ≤ p) = true := by simp at hb3 ⊢; omega
              have HE : Hid (sesErr s = 1) := sesErr_form h1 h2 h3 (by rw [HR.out, hb1, hb2]; simp [hb3])
              clear HR HC hpv hb3
              go_wp2_with fail
              refine wp_region_after (by kernel_rfl) (by kernel_rfl) ?_
              repeat (first | go_big_quiet_skip | (go_big_quiet_want; go_big_quiet_op; first | go_big_quiet_on | (apply Exists.intro; refine ⟨fun _ => ?_, ?_⟩; (go_at_call 27; first | exact calls_after_eq (within_c _ _ _ _) (congrArg Value.bool hb1) | exact calls_after_eq (within_c _ _ _ _) (congrArg Value.bool hb2)); go_big_quiet_on)))
              refine wpQuiet_nil ?_
              rintro _ ⟨t, rfl⟩
              generalize (if s.acked + 3 < 60 then s.acked + 3 else 60) = hiX
              go_wp2_with fail
              go_ret
              exact ⟨ret_int HE.out.symm, hkw.trans t.h⟩
            | true =>
              have hb4 : decide (q ≤ p) = false := by simp at hb3 ⊢; omega
              have HN : Hid (keptOk (min (s.acked + 3) 60) (s.acked + 1) s.kept = refOk (s.acked + 1) (if s.acked + 3 < 60 then s.acked + 3 else 60) (prevOf s.kept (j + 1 + 1)) (s.kept.drop (j + 1 + 1))) := by show _ = _; rw [HR.out, hb1, hb2]; simp [hb3]
              clear HR HC hpv hb3
              go_wp2_with fail
              refine wp_region_after (by kernel_rfl) (by kernel_rfl) ?_
              repeat (first | go_big_quiet_skip | (go_big_quiet_want; go_big_quiet_op; first | go_big_quiet_on | (apply Exists.intro; refine ⟨fun _ => ?_, ?_⟩; (go_at_call 27; first | exact calls_after_eq (within_c _ _ _ _) (congrArg Value.bool hb1) | exact calls_after_eq (within_c _ _ _ _) (congrArg Value.bool hb2)); go_big_quiet_on)))
              refine wpQuiet_nil ?_
              rintro _ ⟨t, rfl⟩
              generalize (if s.acked + 3 < 60 then s.acked + 3 else 60) = hiX
              go_wp2_with fail
              go_roundw
              case rel => exact ⟨j + 1 + 1, by omega, by go_num, hkW.trans t.h, HN⟩
              case measure => simp [intOf]; omega
    · have HE : Hid (sesErr s = 0) := sesErr_ok h1 h2 h3 (by rw [HQ.out, List.drop_of_length_le (by omega)]; rfl)
      go_wp2_with fail
      go_ret
      exact ⟨ret_int HE.out.symm, hkw⟩

/-- The reference's oneError. -/
theorem one_error (s : Ses) (kv : Value) (w : World) (hk : KeptAt w kv s.kept) :
    Calls Try.prog 48 #[sesV s kv] w fun e w' => e = .returned (.int .i64 (sesErr s)) ∧ Keeps w w' := by
  cases h : (inB s.client 1 5 && inB s.acked 0 60 && inB s.seen 0 999) with
  | false =>
    rw [show sesErr s = 3 from by simp [sesErr, h]]
    exact one_error_range s kv w h
  | true =>
    simp only [Bool.and_eq_true] at h
    exact one_error_formA s kv w hk h.1.1 h.1.2 h.2 (inB_iff.1 h.1.2).1
end Go.Proofs.Yteabfjpajgakiab
