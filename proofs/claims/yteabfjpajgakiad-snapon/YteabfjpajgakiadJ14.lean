/- ApQ0, FoB, StP, FoC, FoD, Ints, FoE, FoF, FoG. -/
import Derived.RangeFuncNested
import Derived.RangeFuncBound
import Derived.RangeFuncCalls
import Derived.RangeFuncLeaves
import Derived.Shelf.Abstract
import Derived.Shelf.RegionOpen
import Derived.OwnWalkIn
import Derived.TacticsInMore
import Derived.LoopNIn
import Derived.LoopIn
import Derived.Test.YteabfjpajgakiadJ02
import Derived.Test.YteabfjpajgakiadJ03
import Derived.Test.YteabfjpajgakiadJ12
import Derived.Test.YteabfjpajgakiadJ13
/- What the reference's applied makes, said by places: plain mathematics. -/
set_option linter.unusedSimpArgs false
set_option linter.unusedVariables false
namespace Go.Proofs.Yteabfjpajgakiad
open Go.RowKit

theorem tab_three {s : St} (h : stErr s = 0) : s.tab.length ≤ 3 := (tab_right (stErr_in h).2.1).1

end Go.Proofs.Yteabfjpajgakiad

/- twin.State. -/
set_option linter.unusedSimpArgs false
set_option linter.unusedVariables false
set_option maxRecDepth 10000
namespace Go.Proofs.Yteabfjpajgakiad
open Go.RowKit

set_option maxHeartbeats 2000000 in
theorem twin_state (s : St) (x : Value) (w : World) (hT : TabAt w x s.tab) (h3 : s.tab.length ≤ 3) (hk3 : ∀ y ∈ s.tab, y.kept.length ≤ 3) :
    Calls Try.prog 45 #[stV s x] w fun y w' => ∃ x', OwnTab w.heap.size w' x' s.tab ∧ y = .returned (stV s x') ∧ Keeps w w' := by
  obtain ⟨xa, xc, rfl, hlen⟩ := hT.len
  unfold maxLen at hlen
  have HT : Hid (TabAt w (.slice xa s.tab.length xc) s.tab) := hT
  have HK3 : Hid (∀ y ∈ s.tab, y.kept.length ≤ 3) := hk3
  clear hT hk3
  go_enter Try.func45, Try.ntmps45
  go_wp2_with fail
  obtain ⟨W1, hW1⟩ : ∃ W1, W1 = (w.alloc (.cells #[.int .i64 s.at_, .int .i64 s.clock, .int .i64 s.v0, .int .i64 s.v1, .int .i64 s.v2, .int .i64 s.v3, .slice xa s.tab.length xc] 25)).alloc (.cells #[.int .i64 0, .int .i64 0, .int .i64 0, .int .i64 0, .int .i64 0, .int .i64 0, .slice none 0 0] 25) := ⟨_, rfl⟩
  have k1 : Keeps w W1 := by rw [hW1]; exact ((Keeps.refl _).alloc _).alloc _
  have B1 : StBox w.heap.size s (.slice xa s.tab.length xc) W1 := by rw [hW1]; exact (StBox.new w s _ 25).keep ((Keeps.refl _).alloc _)
  have Z1 : StBox (w.heap.size + 1) zeroSt (.slice none 0 0) W1 := by
    rw [hW1]
    have := StBox.new (w.alloc (.cells #[.int .i64 s.at_, .int .i64 s.clock, .int .i64 s.v0, .int .i64 s.v1, .int .i64 s.v2, .int .i64 s.v3, .slice xa s.tab.length xc] 25)) zeroSt (.slice none 0 0) 25
    simp only [World.size_alloc] at this
    exact this
  have hz1 : W1.heap.size = w.heap.size + 2 := by rw [hW1]; simp
  rw [← hW1]
  clear hW1
  have HB1 : Hid (StBox w.heap.size s (.slice xa s.tab.length xc) W1) := B1
  have HZ1 : Hid (StBox (w.heap.size + 1) zeroSt (.slice none 0 0) W1) := Z1
  have HK1 : Hid (Keeps w W1) := k1
  clear B1 Z1 k1
  go_loopw [3, 9] (fun o i wr => ∃ (k : Nat), k ≤ s.tab.length ∧ i = .int .i64 k ∧ Keeps W1 wr ∧ Hid (OwnTab W1.heap.size wr o (s.tab.take k))) (fun _ i _ => s.tab.length - (intOf i).toNat)
  case atStart => exact ⟨0, Nat.zero_le _, rfl, Keeps.refl _, OwnTab.nil _ _⟩
  case round =>
    obtain ⟨k, hk, rfl, hkw, HO⟩ := hrel
    by_cases hlt : k < s.tab.length
    · obtain ⟨b, off, cap', hv, hcell⟩ := ((HT.out.keep HK1.out).keep hkw).at hlt
      injection hv with hv1 hv2 hv3
      subst hv1
      clear hv2 hv3
      obtain ⟨c0, c1, c2, ka, kc, c3, hkv⟩ := hcell k hlt
      clear hcell
      have HKV : Hid (KeptAt wr (.slice ka (s.tab[k]).kept.length kc) (s.tab[k]).kept) := hkv
      clear hkv
      have HF : Hid (s.tab.take (k + 1) = s.tab.take k ++ [s.tab[k]]) := List.take_succ_eq_append_getElem hlt
      have hn3 : (s.tab[k]).kept.length ≤ 3 := HK3.out _ (List.getElem_mem hlt)
      have hfl : (s.tab.take k).length ≤ 3 := by simp; omega
      generalize s.tab[k] = f at *
      generalize hO : s.tab.take k = O at *
      go_wp2_with fail
      have kA : Keeps wr (wr.alloc (.cells #[.int .i64 f.client, .int .i64 f.acked, .int .i64 f.seen, .slice ka f.kept.length kc] 59)) := (Keeps.refl _).alloc _
      generalize (wr.alloc (.cells #[.int .i64 f.client, .int .i64 f.acked, .int .i64 f.seen, .slice ka f.kept.length kc] 59)) = wA at *
      refine (twin_c f _ wA (HKV.out.keep kA) hn3).mono ?_
      rintro e w2 ⟨kv', ho, rfl, hb2⟩
      have hb2 : Keeps wr w2 := kA.trans hb2
      have ho : w2.ownsRow wr.heap.size 66 2 kv' f.kept.length (repCells f.kept) := owns_base ho kA.size
      clear kA
      obtain ⟨va, vc, rfl⟩ : ∃ va vc, kv' = .slice va f.kept.length vc := by obtain ⟨x, y, h, _⟩ := (RowAt.of_owns ho).len; exact ⟨x, y, h⟩
      have hM : KeptsOwn W1.heap.size (w2.alloc (.cells #[.int .i64 f.client, .int .i64 f.acked, .int .i64 f.seen, .slice va f.kept.length vc] 59)) [f] [.slice va f.kept.length vc] := ⟨owns_keep (owns_base ho hkw.size) ((Keeps.refl _).alloc _), trivial⟩
      obtain ⟨v', w', hr, hO', hg, hbk⟩ := run_append_tab (w2.alloc (.cells #[.int .i64 f.client, .int .i64 f.acked, .int .i64 f.seen, .slice va f.kept.length vc] 59)) W1.heap.size u3 O ((HO.out.keep hb2).keep ((Keeps.refl _).alloc _)) _ [f] _ hM (row_one w2 f _) (by simp; omega) (by simp; have := hkw.size; have := hb2.size; omega)
      have hk' : Keeps W1 w' := keeps_grown ((hkw.trans hb2).alloc _) hg hbk
      have Hr := (show Hid (_ = _) from hr)
      have HO1 : Hid (OwnTab W1.heap.size w' v' (s.tab.take (k + 1))) := by show OwnTab _ _ _ _; rw [HF.out]; exact hO'
      clear hr hM hO' hg hbk ho hb2 HO HF HKV
      go_wp2_with (at_builtin; refine wpList_append_run rfl _ _ _ rfl rfl rfl Hr.out ?_)
      go_roundw
      case rel => exact ⟨k + 1, by omega, by go_num, hk', HO1⟩
      case measure => simp [intOf]; omega
    · have HO1 : Hid (OwnTab W1.heap.size wr u3 s.tab) := by
        have := HO.out
        rw [List.take_of_length_le (by omega)] at this
        exact this
      obtain ⟨va, vc, hu, _⟩ := HO1.out.tab.len
      subst hu
      have B2 := HB1.out.keep hkw
      have Z2 := HZ1.out.keep hkw
      have b0 := B2.c0
      have b1 := B2.c1
      have b2 := B2.c2
      have b3 := B2.c3
      have b4 := B2.c4
      have b5 := B2.c5
      have b6 := B2.c6
      have bz := B2.fz
      have bl := B2.lt
      have z0 := Z2.c0
      have z1 := Z2.c1
      have z2 := Z2.c2
      have z3 := Z2.c3
      have z4 := Z2.c4
      have z5 := Z2.c5
      have z6 := Z2.c6
      have zf := Z2.fz
      have zl := Z2.lt
      have HKw : Hid (Keeps w wr) := HK1.out.trans hkw
      clear B2 Z2 HT HO hkw
      generalize hsl : s.tab.length = sl at *
      go_wp2_with fail
      refine bodyPost_ret (v := stV s (.slice va sl vc)) ?_ rfl ?_
      · simp [results, Try.results45, go_sem, z0, z1, z2, z3, z4, z5, z6]
      · refine ⟨.slice va sl vc, ?_, rfl, ?_⟩
        · exact ((HO1.out.but (b := w.heap.size) (by omega) ((But.refl _ _).set 6 _)).but (b := w.heap.size + 1) (by omega) ((((((((But.refl _ _).set 0 _).set 1 _).set 2 _).set 3 _).set 4 _).set 5 _).set 6 _)).base (by omega)
        · repeat refine Keeps.set ?_ (by simp <;> omega) _
          exact HKw.out

theorem twin_right {s : St} (x : Value) (w : World) (hT : TabAt w x s.tab) (hs : stErr s = 0) :
    Calls Try.prog 45 #[stV s x] w fun y w' => ∃ x', OwnTab w.heap.size w' x' s.tab ∧ y = .returned (stV s x') ∧ Keeps w w' :=
  twin_state s x w hT (tab_three hs) (fun y hy => kept_le ((tab_right (stErr_in hs).2.1).2.1 y hy))
end Go.Proofs.Yteabfjpajgakiad

/- A state laid into its box. -/
namespace Go.Proofs.Yteabfjpajgakiad
open Go.RowKit

/-- A state laid into its box. -/
theorem StBox.put {b : Nat} {s : St} {t : Value} {w : World} (h : StBox b s t w) (s' : St) (t' : Value) : StBox b s' t' (((((((w.setCell ⟨b, 0, none⟩ (.int .i64 s'.at_)).setCell ⟨b, 1, none⟩ (.int .i64 s'.clock)).setCell ⟨b, 2, none⟩ (.int .i64 s'.v0)).setCell ⟨b, 3, none⟩ (.int .i64 s'.v1)).setCell ⟨b, 4, none⟩ (.int .i64 s'.v2)).setCell ⟨b, 5, none⟩ (.int .i64 s'.v3)).setCell ⟨b, 6, none⟩ t') :=
  ((((((h.set (s' := { s with at_ := s'.at_ }) (t' := t) 0 (.int .i64 s'.at_) rfl rfl rfl rfl rfl rfl rfl).set (s' := { s with at_ := s'.at_, clock := s'.clock }) (t' := t) 1 (.int .i64 s'.clock) rfl rfl rfl rfl rfl rfl rfl).set (s' := { s with at_ := s'.at_, clock := s'.clock, v0 := s'.v0 }) (t' := t) 2 (.int .i64 s'.v0) rfl rfl rfl rfl rfl rfl rfl).set (s' := { s with at_ := s'.at_, clock := s'.clock, v0 := s'.v0, v1 := s'.v1 }) (t' := t) 3 (.int .i64 s'.v1) rfl rfl rfl rfl rfl rfl rfl).set (s' := { s with at_ := s'.at_, clock := s'.clock, v0 := s'.v0, v1 := s'.v1, v2 := s'.v2 }) (t' := t) 4 (.int .i64 s'.v2) rfl rfl rfl rfl rfl rfl rfl).set (s' := { s with at_ := s'.at_, clock := s'.clock, v0 := s'.v0, v1 := s'.v1, v2 := s'.v2, v3 := s'.v3 }) (t' := t) 5 (.int .i64 s'.v3) rfl rfl rfl rfl rfl rfl rfl).set (s' := s') (t' := t') 6 t' rfl rfl rfl rfl rfl rfl rfl
theorem But.puts {b : Nat} (w : World) (s' : St) (t' : Value) : But b w (((((((w.setCell ⟨b, 0, none⟩ (.int .i64 s'.at_)).setCell ⟨b, 1, none⟩ (.int .i64 s'.clock)).setCell ⟨b, 2, none⟩ (.int .i64 s'.v0)).setCell ⟨b, 3, none⟩ (.int .i64 s'.v1)).setCell ⟨b, 4, none⟩ (.int .i64 s'.v2)).setCell ⟨b, 5, none⟩ (.int .i64 s'.v3)).setCell ⟨b, 6, none⟩ t') :=
  (((((((But.refl _ _).set 0 _).set 1 _).set 2 _).set 3 _).set 4 _).set 5 _).set 6 _
end Go.Proofs.Yteabfjpajgakiad

/- All of it, plain; what a round of a loop over a function spares; a round out of its body's walk. -/
set_option linter.unusedSimpArgs false
set_option linter.unusedVariables false
namespace Go.Proofs.Yteabfjpajgakiad
open Go.RowKit

/-- The state behind entries, and their answers. -/
def runSt (s : St) (L : List Ent) : St := L.foldl oneSt s
def runAns : St → List Ent → List Int
  | _, [] => []
  | s, e :: r => oneAns s e :: runAns (oneSt s e) r
theorem runSt_snoc (s : St) (L : List Ent) (e : Ent) : runSt s (L ++ [e]) = oneSt (runSt s L) e := by simp [runSt]
theorem runSt_append (s : St) (L M : List Ent) : runSt s (L ++ M) = runSt (runSt s L) M := by simp [runSt]
theorem runAns_append : ∀ (s : St) (L M : List Ent), runAns s (L ++ M) = runAns s L ++ runAns (runSt s L) M
  | s, [], M => rfl
  | s, e :: r, M => by simp only [List.cons_append, runAns, runAns_append (oneSt s e) r M]; rfl
theorem runAns_len : ∀ (s : St) (L : List Ent), (runAns s L).length = L.length
  | s, [] => rfl
  | s, e :: r => by simp [runAns, runAns_len (oneSt s e) r]
theorem both_zero {s : St} {e : Ent} (h1 : stErr s = 0) (h2 : entErr e = 0) (h3 : s.at_ ≠ 50) : bothErr s e = 0 := by simp [bothErr, h1, h2, h3]

theorem run_right : ∀ {L : List Ent} {s : St}, stErr s = 0 → (∀ e ∈ L, entErr e = 0) → s.at_ + L.length ≤ 50 → stErr (runSt s L) = 0 ∧ (runSt s L).at_ = s.at_ + L.length
  | [], s, h, _, _ => ⟨h, by simp [runSt]⟩
  | e :: r, s, h, hL, hr => by
    have hb : bothErr s e = 0 := both_zero h (hL e (List.mem_cons_self ..)) (by simp at hr; omega)
    obtain ⟨h1, h2, _⟩ := one_right hb
    have ih := run_right (L := r) h1 (fun x hx => hL x (List.mem_cons_of_mem _ hx)) (by rw [h2]; simp at hr; omega)
    refine ⟨ih.1, ?_⟩
    show (runSt (oneSt s e) r).at_ = _
    rw [ih.2, h2]
    simp
    omega

/-- What is spared is as it was. -/
structure Spares (p : Nat → Prop) (x y : World) : Prop where
  os : y.os = x.os
  tape : y.tape = x.tape
  output : y.output = x.output
  size : x.heap.size ≤ y.heap.size
  block : ∀ k, k < x.heap.size → p k → y.heap[k]? = x.heap[k]?
theorem Spares.refl (p : Nat → Prop) (x : World) : Spares p x x := ⟨rfl, rfl, rfl, Nat.le_refl _, fun _ _ _ => rfl⟩
theorem Spares.trans {p : Nat → Prop} {x y z : World} (h : Spares p x y) (k : Spares p y z) : Spares p x z :=
  ⟨k.os.trans h.os, k.tape.trans h.tape, k.output.trans h.output, Nat.le_trans h.size k.size, fun i hi hp => (k.block i (Nat.lt_of_lt_of_le hi h.size) hp).trans (h.block i hi hp)⟩
theorem Spares.mono {p q : Nat → Prop} {x y : World} (h : Spares p x y) (hq : ∀ k, k < x.heap.size → q k → p k) : Spares q x y := ⟨h.os, h.tape, h.output, h.size, fun k hk hp => h.block k hk (hq k hk hp)⟩
theorem Spares.of {p : Nat → Prop} {x y : World} (h : Keeps x y) : Spares p x y := ⟨h.os, h.tape, h.output, h.size, fun k hk _ => h.block k hk⟩
theorem Spares.but {p : Nat → Prop} {b : Nat} {x y : World} (h : But b x y) (hb : ¬ p b) : Spares p x y := ⟨h.os, h.tape, h.output, h.size, fun k hk hp => h.block k hk (fun e => hb (by rw [← e]; exact hp))⟩
theorem Spares.grown {p : Nat → Prop} {r : Option Nat} {x y : World} (h : x.grownBy y r) (hb : ∀ b, r = some b → ¬ p b) : Spares p x y := ⟨h.os, h.tape, h.output, h.size, fun k hk hp => h.block k hk (fun e => hb k e.symm hp)⟩
theorem Spares.put {p : Nat → Prop} {x : World} {l : Nat} (o : Obj) (hb : ¬ p l) : Spares p x (x.putObj l o) := Spares.grown (grownBy_putObj' x l o) (fun b e => by cases e; exact hb)
theorem Spares.keeps {p : Nat → Prop} {a x y : World} (h : Spares p x y) (ha : Keeps a x) (hp : ∀ k, k < a.heap.size → p k) : Keeps a y :=
  Below.trans ha (⟨h.os, h.tape, h.output, h.size, fun k hk => h.block k (Nat.lt_of_lt_of_le hk ha.size) (hp k hk)⟩ : Below a.heap.size x y)
theorem owns_spared {p : Nat → Prop} {m : Nat} {w w' : World} {e : TypeId} {size : Nat} {v : Value} {n : Nat} {xs : List Value} (h : w.ownsRow m e size v n xs) (hs : Spares p w w') (hp : ∀ k, m ≤ k → k < w.heap.size → p k) : w'.ownsRow m e size v n xs := by
  refine ⟨h.1, ?_⟩
  rcases h.2 with h2 | ⟨g, cap, cur, hv, hg, hc, r⟩
  · exact .inl h2
  · exact .inr ⟨g, cap, cur, hv, hg, (hs.block g (Array.getElem?_eq_some_iff.1 hc).1 (hp g hg (Array.getElem?_eq_some_iff.1 hc).1)).trans hc, r⟩
theorem KeptsOwn.spared {p : Nat → Prop} {m : Nat} {w w' : World} (hs : Spares p w w') (hp : ∀ k, m ≤ k → k < w.heap.size → p k) : ∀ {L : List Ses} {ks : List Value}, KeptsOwn m w L ks → KeptsOwn m w' L ks
  | [], [], _ => trivial
  | _ :: _, _ :: _, h => ⟨owns_spared h.1 hs hp, KeptsOwn.spared hs hp h.2⟩
theorem OwnTab.spared {p : Nat → Prop} {m : Nat} {w w' : World} {v : Value} {L : List Ses} (h : OwnTab m w v L) (hs : Spares p w w') (hp : ∀ k, m ≤ k → k < w.heap.size → p k) : OwnTab m w' v L := by
  obtain ⟨ks, h1, h2⟩ := h
  exact ⟨ks, h1.spared hs hp, owns_spared h2 hs hp⟩
theorem StBox.spared {p : Nat → Prop} {b : Nat} {s : St} {t : Value} {w w' : World} (h : StBox b s t w) (hs : Spares p w w') (hp : p b) : StBox b s t w' := by
  have hb := hs.block b h.lt hp
  have hc : ∀ i, w'.cell? ⟨b, i, none⟩ = w.cell? ⟨b, i, none⟩ := fun i => World.cell?_of_block hb
  exact ⟨(hc _).trans h.c0, (hc _).trans h.c1, (hc _).trans h.c2, (hc _).trans h.c3, (hc _).trans h.c4, (hc _).trans h.c5, (hc _).trans h.c6, fun i => (World.frozen?_of_block hb).trans (h.fz i)⟩

/-- A round of a loop over a function, whose body goes on: out of the walk of its assignments and of its body. -/
theorem yield_round {F : Fence} {m : Nat} {P : Program} {l : Nat} {r : Loop} {args tmps : Array Value} {ps : Array Tmp} {assign body : Code} {W : World} {R : Ending → World → Prop} (hl : W.heap[l]? = some (.loop r)) (hr : r.state = .ready) (hp : r.pending = none) (hfn : F.fn r.fn)
    (e1 : r.params = ps) (e2 : r.tmps = tmps) (e3 : r.assign = assign) (e4 : r.body = body) (hs : args.size = ps.size)
    (h : ∀ rb : Loop, assign.wpIn (F.inRound l) m P (Exit.then (fun a₁ w₁ => w₁.heap[l]? = some (.loop r) ∧ body.wpIn (F.inRound l) m P (fun e _ W3 => e = .normal ∧ W3.heap[l]? = some (.loop rb) ∧ R (.returned (.bool true)) (W3.putObj l (.loop r))) a₁ (w₁.putObj l (.loop rb))) (fun _ _ _ => False))
      { tmps := (ps.zip args).foldl (fun t (p, v) => t.setIfInBounds p v) tmps, defers := [] } W) :
    YieldAt F m P l args W R := by
  subst e1 e2 e3 e4
  refine ⟨r.fn, _, r.assign, r.body, run_yield hl hs, roundIn_of_wpIn hfn (wpIn_mono (h { r with state := .busy }) ?_)⟩
  intro e a w1 he
  cases e with
  | normal =>
    obtain ⟨h1, h2⟩ := he
    refine ⟨_, run_beginRound h1 hr, wpIn_mono h2 ?_⟩
    rintro e a3 W3 ⟨rfl, h3, h4⟩
    refine ⟨_, _, run_endRound none h3, ?_⟩
    have e1 : ({ { r with state := LoopState.busy } with state := if (none : Option Code).isNone = true then LoopState.ready else LoopState.done, pending := none } : Loop) = r := by
      cases r
      simp at hr hp ⊢
      exact ⟨hr.symm, hp.symm⟩
    rw [e1]
    exact h4
  | _ => exact he.elim

/-- A loop over a function, whose body never leaves: by a contract of the function at this very loop. -/
theorem range_walk {F : Fence} {n : Nat} {P : Program} {g : Operand} {ps : Array Tmp} {assign body : Code} {Q : Exit → Act → World → Prop} {a : Act} {w : World} (hro : F.round = none) (h1 : 1 ≤ n) {gf : Nat} {lb : Array Value} (hg : a.eval g = .func (.func gf) #[] lb) (hFg : F.fn gf)
    (eg : ∀ args w, (callFunc gf args).run P w = .ok (.enter gf args) w)
    (h : ∀ r : Loop, F.fn r.fn → r.state = .ready → r.pending = none → r.params = ps → r.tmps = a.tmps → r.assign = assign → r.body = body →
      CallsIn F (n - 1) P gf (#[.func (.yield (w.heap.size + 1)) #[] #[]] ++ lb) ((w.alloc (.deferred (some []))).alloc (.loop r)) fun e W' => (∃ v, e = .returned v) ∧ W'.heap[w.heap.size + 1]? = some (.loop r) ∧ Q .normal { a with defers := { target := .collected w.heap.size, args := #[] } :: a.defers } (W'.putObj (w.heap.size + 1) (.loop { r with state := .exhausted }))) :
    (Code.rangeFunc g ps assign body).wpIn F n P Q a w := by
  refine wpIn_rangeFunc ?_
  intro fn hfn
  rw [hro]
  obtain ⟨r, hr⟩ : ∃ r : Loop, r = { state := .ready, pending := none, fn, tmps := a.tmps, params := ps, assign, body, defers := w.heap.size } := ⟨_, rfl⟩
  have hen := run_enterLoop_outer (P := P) (w := w) fn a.tmps ps assign body
  rw [← hr] at hen
  refine ⟨w.heap.size + 1, [{ target := .collected w.heap.size, args := #[] }], (w.alloc (.deferred (some []))).alloc (.loop r), { target := .fn (.func gf) lb, args := #[.func (.yield (w.heap.size + 1)) #[] #[]] }, (w.alloc (.deferred (some []))).alloc (.loop r), gf, #[.func (.yield (w.heap.size + 1)) #[] #[]] ++ lb, (w.alloc (.deferred (some []))).alloc (.loop r), hen, ?_, ?_, ?_, fun _ => h1, ?_⟩
  · simp only [resolve, hg]
    simp [go_sem]
  · intro f' hf'
    simp [Target.leads] at hf'
    subst hf'
    exact hFg
  · simp [invoke, go_sem, eg]
  · refine (h r (by rw [hr]; exact hfn) (by rw [hr]) (by rw [hr]) (by rw [hr]) (by rw [hr]) (by rw [hr]) (by rw [hr])).mono ?_
    rintro e W2 ⟨⟨v, rfl⟩, hl, hq⟩
    have hel := run_endLoop (P := P) hl (by rw [hr]; simp)
    have hpn : r.pending = none := by rw [hr]
    simp only [hpn] at hel hq
    exact ⟨none, _, hel, hq⟩
end Go.Proofs.Yteabfjpajgakiad

/- The iterator of fold.All. -/
set_option linter.unusedSimpArgs false
set_option linter.unusedVariables false
set_option maxRecDepth 10000
namespace Go.Proofs.Yteabfjpajgakiad
open Go.RowKit Go.Shelf
attribute [local go_sem] Oper.semAt_some

set_option maxHeartbeats 2000000 in
theorem steps_in (n l bL bS : Nat) (s : St) (L : List Ent) (la : Option Addr) (lc : Nat) (hs : stErr s = 0) (hL : ∀ e ∈ L, entErr e = 0) (hroom : s.at_ + L.length ≤ 50) (W0 : World) (hE : EntsAt W0 (.slice la L.length lc) L)
    (J : Nat → World → Prop) (hJ : ∀ i W W', J i W → But bS W W' → J i W')
    (hY : ∀ i v Wb W1 (hi : i < L.length), J i Wb → Keeps Wb W1 → OwnTab Wb.heap.size W1 v (runSt s (L.take (i + 1))).tab → bS < Wb.heap.size → Keeps W0 Wb → YieldAt Fence.wide (n - 1) Try.prog l #[stV (runSt s (L.take (i + 1))) v, .int .i64 (oneAns (runSt s (L.take i)) (L[i]))] W1 fun e W' => e = .returned (.bool true) ∧ J (i + 1) W' ∧ Spares (fun k => k < W0.heap.size ∨ k = bS ∨ Wb.heap.size ≤ k) W1 W')
    (W : World) (x : Value) (hk0 : Keeps W0 W) (hb0 : W0.heap.size ≤ bS) (hbL : W.cell? ⟨bL, 0, none⟩ = some (.slice la L.length lc)) (hB : StBox bS s x W) (hT : TabAt W x s.tab) (h0 : J 0 W) :
    CallsIn Fence.wide n Try.prog 68 #[.func (.yield l) #[] #[], .pointer (some ⟨bL, 0, none⟩), .pointer (some ⟨bS, 0, none⟩)] W fun e W' => (∃ v, e = .returned v) ∧ J L.length W' := by
  have hlen : L.length ≤ 50 := by have := (stErr_bounds hs).1.1; omega
  have HE : Hid (EntsAt W0 (.slice la L.length lc) L) := hE
  have HJ : Hid (∀ i W W', J i W → But bS W W' → J i W') := hJ
  have HY := (show Hid _ from hY)
  have HS : Hid (stErr s = 0) := hs
  have HLE : Hid (∀ e ∈ L, entErr e = 0) := hL
  have HB : Hid (StBox bS s x W) := hB
  have HT : Hid (TabAt W x s.tab) := hT
  have H0 : Hid (J 0 W) := h0
  have HK0 : Hid (Keeps W0 W) := hk0
  have hlL := World.block_lt_of_cell? _ _ hbL
  simp only [] at hlL
  clear hE hJ hY hs hL hB hT h0 hk0
  refine callsIn_of_wp Try.func68 rfl trivial ?_ rfl
  simp only [Try.ntmps68, List.size_toArray, List.length_cons, List.length_nil, Nat.reduceAdd, Nat.reduceSub, Array.replicate_succ, Array.replicate_zero, List.push_toArray, List.append_toArray, List.nil_append, List.cons_append]
  gi_wp2
  gi_loopw [12] (fun i wr => ∃ (j : Nat), j ≤ L.length ∧ i = .int .i64 j ∧ Hid (J j wr) ∧ Hid (∃ y, StBox bS (runSt s (L.take j)) y wr ∧ TabAt wr y (runSt s (L.take j)).tab) ∧ Hid (Keeps W0 wr)) (fun i _ => L.length - (intOf i).toNat)
  case atStart => exact ⟨0, Nat.zero_le _, rfl, H0, ⟨x, HB.out, HT.out⟩, HK0⟩
  case round =>
    obtain ⟨j, hj, rfl, HJj, HX, HKw⟩ := hrel
    by_cases hlt : j < L.length
    · obtain ⟨b, off, cap', hv, c0, c1, c2, c3, c4, c5, c6, c7, c8⟩ := (HE.out.keep HKw.out).at hlt
      injection hv with hv1 hv2 hv3
      subst hv1
      clear hv2 hv3
      obtain ⟨y, hBy, hTy⟩ := HX.out
      obtain ⟨ya, yc, rfl, _⟩ := hTy.len
      have hr0 : ∀ e ∈ L.take j, entErr e = 0 := fun e he => HLE.out e (List.mem_of_mem_take he)
      have hst := run_right HS.out hr0 (by simp; omega)
      have hent := HLE.out _ (List.getElem_mem hlt)
      have htl : ((L.take j).length : Int) = j := by simp; omega
      have hbe : bothErr (runSt s (L.take j)) (L[j]) = 0 := both_zero hst.1 hent (by rw [hst.2, htl]; omega)
      have HNX : Hid (runSt s (L.take (j + 1)) = oneSt (runSt s (L.take j)) (L[j])) := by show _ = _; rw [List.take_succ_eq_append_getElem hlt, runSt_snoc]
      have HYj := (show Hid _ from fun v Wb W1 => HY.out j v Wb W1 hlt)
      have HBy : Hid (StBox bS (runSt s (L.take j)) (.slice ya (runSt s (L.take j)).tab.length yc) wr) := hBy
      have HTy : Hid (TabAt wr (.slice ya (runSt s (L.take j)).tab.length yc) (runSt s (L.take j)).tab) := hTy
      have HBE : Hid (bothErr (runSt s (L.take j)) (L[j]) = 0) := hbe
      clear hBy hTy hr0 hst hent htl hbe HX HY HB HT H0 HK0 HS HLE
      obtain ⟨t', htt⟩ : ∃ t', runSt s (L.take (j + 1)) = t' := ⟨_, rfl⟩
      rw [htt] at HNX HYj
      have HTT : Hid (runSt s (L.take (j + 1)) = t') := htt
      clear htt
      generalize runSt s (L.take j) = t at *
      generalize L[j] = e at *
      have b0 := HBy.out.c0
      have b1 := HBy.out.c1
      have b2 := HBy.out.c2
      have b3 := HBy.out.c3
      have b4 := HBy.out.c4
      have b5 := HBy.out.c5
      have b6 := HBy.out.c6
      have bl := HBy.out.lt
      gi_wp2
      have kB : Keeps wr (wr.alloc (.cells #[.int .i64 e.kind, .int .i64 e.time, .int .i64 e.client, .int .i64 e.seq, .int .i64 e.ack, .int .i64 e.ok, .int .i64 e.okey, .int .i64 e.oto, .int .i64 e.on] 89)) := (Keeps.refl _).alloc _
      generalize (wr.alloc (.cells #[.int .i64 e.kind, .int .i64 e.time, .int .i64 e.client, .int .i64 e.seq, .int .i64 e.ack, .int .i64 e.ok, .int .i64 e.okey, .int .i64 e.oto, .int .i64 e.on] 89)) = wB at *
      refine ⟨trivial, (fun h => (by cases h)), CallsIn.mono (callsIn_wide.2 (one_c t e _ wB (HTy.out.keep kB))) ?_⟩
      rintro y w1 ⟨x', ho, rfl, hb⟩
      rw [← HNX.out] at ho
      rw [← HNX.out, HBE.out]
      obtain ⟨za, zc, rfl, _⟩ := ho.tab.len
      have HO : Hid (OwnTab wB.heap.size w1 (.slice za t'.tab.length zc) t'.tab) := ho
      have HBb : Hid (StBox bS t (.slice ya t.tab.length yc) w1) := (HBy.out.keep kB).keep hb
      have hbB := (HBy.out.keep kB).lt
      have HKB : Hid (Keeps W0 wB) := HKw.out.trans kB
      have HJB : Hid (J j wB) := HJ.out _ _ _ HJj.out (But.of kB)
      have HKb : Hid (Keeps wB w1) := hb
      have hzB := hb.size
      clear ho b0 b1 b2 b3 b4 b5 b6 bl c0 c1 c2 c3 c4 c5 c6 c7 c8 HBy HTy HNX HBE HKw HJj kB hb HE
      generalize oneAns t e = an at *
      generalize oneDone t e = dn at *
      obtain ⟨fn, tmps, assign, body, hy, hR⟩ := HYj.out (.slice za t'.tab.length zc) wB (w1.alloc (.cells #[.int .i64 t'.at_, .int .i64 t'.clock, .int .i64 t'.v0, .int .i64 t'.v1, .int .i64 t'.v2, .int .i64 t'.v3, .slice za t'.tab.length zc] 25)) HJB.out (HKb.out.alloc _) (HO.out.keep ((Keeps.refl _).alloc _)) hbB HKB.out
      gi_wp2
      refine ⟨(fun h => (by cases h)), hR.mono ?_⟩
      rintro e' W3 ⟨rfl, hJ3, hsp⟩
      have T3 : StBox w1.heap.size t' (.slice za t'.tab.length zc) W3 := (StBox.new w1 t' _ 25).spared hsp (.inr (.inr hzB))
      have B3 : StBox bS t (.slice ya t.tab.length yc) W3 := (HBb.out.keep ((Keeps.refl _).alloc _)).spared hsp (.inr (.inl rfl))
      have O3 : OwnTab wB.heap.size W3 (.slice za t'.tab.length zc) t'.tab := (HO.out.keep ((Keeps.refl _).alloc _)).spared hsp (fun k hk _ => .inr (.inr hk))
      have K3 : Keeps W0 W3 := hsp.keeps (HKB.out.trans (HKb.out.alloc _)) (fun k hk => .inl hk)
      have HJ3 : Hid (J (j + 1) W3) := hJ3
      have HB3 : Hid (StBox bS t (.slice ya t.tab.length yc) W3) := B3
      have HO3 : Hid (OwnTab wB.heap.size W3 (.slice za t'.tab.length zc) t'.tab) := O3
      have HK3 : Hid (Keeps W0 W3) := K3
      have t0 := T3.c0
      have t1 := T3.c1
      have t2 := T3.c2
      have t3 := T3.c3
      have t4 := T3.c4
      have t5 := T3.c5
      have t6 := T3.c6
      have tl := T3.lt
      have b0 := B3.c0
      have b1 := B3.c1
      have b2 := B3.c2
      have b3 := B3.c3
      have b4 := B3.c4
      have b5 := B3.c5
      have b6 := B3.c6
      have bz := B3.fz
      have bl := B3.lt
      have hne : (w1.heap.size = bS) = False := eq_false (by omega)
      have hne2 : (bS = w1.heap.size) = False := eq_false (by omega)
      clear hy hR hJ3 hsp T3 B3 O3 K3 HYj
      gi_wp2
      have BP := HB3.out.put t' (.slice za t'.tab.length zc)
      have BT := But.puts (b := bS) W3 t' (.slice za t'.tab.length zc)
      go_roundw
      case rel => exact ⟨j + 1, by omega, by go_num, HJ.out _ _ _ HJ3.out BT, (by show ∃ y, _; rw [HTT.out]; exact ⟨_, BP, (HO3.out.but hbB BT).tab⟩), But.to HK3.out hb0 BT⟩
      case measure => simp [intOf]; omega
    · gi_wp2
      go_end0
      have : j = L.length := by omega
      subst this
      exact ⟨⟨_, rfl⟩, HJj.out⟩
end Go.Proofs.Yteabfjpajgakiad

/- Rows of numbers; SameInts. -/
set_option linter.unusedSimpArgs false
set_option linter.unusedVariables false
set_option maxRecDepth 10000
namespace Go.Proofs.Yteabfjpajgakiad
open Go.RowKit

theorem infoInt : (Try.prog.info? 3).map (fun i => (i.zero, i.size, i.bytes)) = some (some (.int .i64 0), 1, 8) := by kernel_rfl
def intCells (l : List Int) : List Value := l.map (fun n => .int .i64 n)

def IntsAt (w : World) (v : Value) (l : List Int) : Prop := RowAt w 1 v l.length (intCells l)
theorem IntsAt.keep {w w' : World} {v : Value} {l : List Int} (h : IntsAt w v l) (hk : Keeps w w') : IntsAt w' v l := RowAt.keep h hk
theorem IntsAt.of {w : World} {base : Nat} {v : Value} {l : List Int} (h : w.ownsRow base 3 1 v l.length (intCells l)) : IntsAt w v l := RowAt.of_owns h
theorem IntsAt.at {w : World} {v : Value} {l : List Int} (h : IntsAt w v l) {k : Nat} (hk : k < l.length) : ∃ b off cap, v = .slice (some ⟨b, off, none⟩) l.length cap ∧ w.cell? ⟨b, off + k, none⟩ = some (.int .i64 (l[k])) := by
  obtain ⟨b, off, cap, rfl, h3⟩ := RowAt.plain h (by simp [intCells]; omega)
  exact ⟨b, off, cap, rfl, h3 k _ (by simp [intCells, List.getElem?_eq_getElem hk])⟩

def sameInts : List Int → List Int → Bool
  | [], [] => true
  | a :: r, b :: r' => a == b && sameInts r r'
  | _, _ => false
theorem sameInts_iff : ∀ {l m : List Int}, sameInts l m = true ↔ l = m
  | [], [] => by simp [sameInts]
  | [], _ :: _ => by simp [sameInts]
  | _ :: _, [] => by simp [sameInts]
  | a :: r, b :: r' => by simp [sameInts, sameInts_iff (l := r) (m := r')]
theorem sameInts_len {l m : List Int} (h : l.length ≠ m.length) : sameInts l m = false := by
  cases q : sameInts l m with
  | false => rfl
  | true => rw [sameInts_iff.1 q] at h; exact absurd rfl h
theorem sameInts_at {l m : List Int} {k : Nat} (hl : k < l.length) (hm : k < m.length) : sameInts (l.drop k) (m.drop k) = (l[k] == m[k] && sameInts (l.drop (k + 1)) (m.drop (k + 1))) := by
  rw [List.drop_eq_getElem_cons hl, List.drop_eq_getElem_cons hm]
  rfl

set_option maxHeartbeats 2000000 in
theorem same_ints (l m : List Int) (x y : Value) (w : World) (hx : IntsAt w x l) (hy : IntsAt w y m) : Calls Try.prog 20 #[x, y] w fun e w' => e = .returned (.bool (sameInts l m)) ∧ Keeps w w' := by
  obtain ⟨xa, xc, rfl, hlen⟩ := RowAt.len hx
  obtain ⟨ya, yc, rfl, hlem⟩ := RowAt.len hy
  unfold maxLen at hlen hlem
  have HX : Hid (IntsAt w (.slice xa l.length xc) l) := hx
  have HY : Hid (IntsAt w (.slice ya m.length yc) m) := hy
  clear hx hy
  by_cases hll : l.length = m.length
  · rw [← hll] at HY ⊢
    have HLL : Hid (l.length = m.length) := hll
    clear hll hlem
    go_enter Try.func20, Try.ntmps20
    go_wp2_with fail
    go_loopw [5] (fun i wr => ∃ (k : Nat), k ≤ l.length ∧ i = .int .i64 k ∧ Hid (Keeps w wr) ∧ Hid (sameInts l m = sameInts (l.drop k) (m.drop k))) (fun i _ => l.length - (intOf i).toNat)
    case atStart => exact ⟨0, Nat.zero_le _, rfl, Keeps.refl _, rfl⟩
    case round =>
      obtain ⟨k, hk, rfl, HK, HQ⟩ := hrel
      by_cases hlt : k < l.length
      · have hlt2 : k < m.length := by have := HLL.out; omega
        obtain ⟨b1, o1, p1, hv1, c1⟩ := (HX.out.keep HK.out).at hlt
        obtain ⟨b2, o2, p2, hv2, c2⟩ := (HY.out.keep HK.out).at hlt2
        injection hv1 with hv1 ea eb
        injection hv2 with hv2 ec ed
        subst hv1 hv2
        clear ea eb ec ed
        have HR : Hid (sameInts l m = (l[k] == m[k] && sameInts (l.drop (k + 1)) (m.drop (k + 1)))) := HQ.out.trans (sameInts_at hlt hlt2)
        clear HQ
        generalize l[k] = u at *
        generalize m[k] = v at *
        clear hlt2
        cases hq : (u == v) with
        | true =>
          have hq' : (u != v) = false := by simp [bne, hq]
          have HN : Hid (sameInts l m = sameInts (l.drop (k + 1)) (m.drop (k + 1))) := by show _ = _; rw [HR.out, hq]; rfl
          go_wp2_with fail
          go_quiet (fail)
          go_wp2_with fail
          go_roundw
          case rel => exact ⟨k + 1, by omega, by go_num, HK.out.drewN _, HN⟩
          case measure => simp [intOf]; omega
        | false =>
          have hq' : (u != v) = true := by simp [bne, hq]
          have HN : Hid (sameInts l m = false) := by show _ = _; rw [HR.out, hq]; rfl
          go_wp2_with fail
          go_quiet (fail)
          go_wp2_with fail
          go_ret
          rw [HN.out]
          exact ⟨rfl, HK.out.drewN _⟩
      · have HN : Hid (sameInts l m = true) := by show _ = _; rw [HQ.out, List.drop_of_length_le (by omega), List.drop_of_length_le (by have := HLL.out; omega)]; rfl
        go_wp2_with fail
        go_ret
        rw [HN.out]
        exact ⟨rfl, HK.out⟩
  · have HN : Hid (sameInts l m = false) := sameInts_len hll
    go_enter Try.func20, Try.ntmps20
    go_wp2_with fail
    go_ret
    rw [HN.out]
    exact ⟨rfl, Keeps.refl _⟩

end Go.Proofs.Yteabfjpajgakiad

/- fold.All. -/
set_option linter.unusedSimpArgs false
set_option linter.unusedVariables false
set_option maxRecDepth 10000
namespace Go.Proofs.Yteabfjpajgakiad
open Go.RowKit Go.Shelf
attribute [local go_sem] Oper.semAt_some

def allSt (s : St) (L : List Ent) : St := if foldErr s L == 0 then runSt s L else zeroSt
def allAns (s : St) (L : List Ent) : List Int := if foldErr s L == 0 then runAns s L else []


theorem fold_right {s : St} {L : List Ent} (h : foldErr s L = 0) : stErr s = 0 ∧ (∀ e ∈ L, entErr e = 0) ∧ s.at_ + L.length ≤ 50 := by
  unfold foldErr at h
  split at h
  · rename_i h1
    split at h
    · rename_i h2
      split at h
      · cases h
      · rename_i h3
        refine ⟨by simpa using h1, ?_, by omega⟩
        have h2' : listErr L = 0 := by simpa using h2
        unfold listErr at h2'
        split at h2'
        · cases h2'
        · exact fent_zero.1 h2'
    · rename_i h2
      simp [h] at h2
  · rename_i h1
    simp [h] at h1

theorem steps_made (s : St) (xa la : Option Addr) (xn xc ln lc : Nat) (w : World) :
    Calls Try.prog 46 #[stV s (.slice xa xn xc), .slice la ln lc] w fun y w' => y = .returned (.func (.func 68) #[] #[.pointer (some ⟨w.heap.size + 1, 0, none⟩), .pointer (some ⟨w.heap.size, 0, none⟩)]) ∧
      w' = (w.alloc (.cells #[.int .i64 s.at_, .int .i64 s.clock, .int .i64 s.v0, .int .i64 s.v1, .int .i64 s.v2, .int .i64 s.v3, .slice xa xn xc] 25)).alloc (.cells #[.slice la ln lc] 38) := by
  go_enter Try.func46, Try.ntmps46
  go_wp2_with fail
  go_ret
  exact ⟨rfl, rfl⟩

/-- A variable of one cell. -/
def OneBox (b : Nat) (v : Value) (w : World) : Prop := w.cell? ⟨b, 0, none⟩ = some v ∧ ∀ i, w.frozen? ⟨b, i, none⟩ = false
theorem OneBox.lt {b : Nat} {v : Value} {w : World} (h : OneBox b v w) : b < w.heap.size := World.block_lt_of_cell? _ _ h.1
theorem OneBox.same {b : Nat} {v : Value} {w w' : World} (h : OneBox b v w) (he : w'.heap[b]? = w.heap[b]?) : OneBox b v w' := ⟨(World.cell?_of_block he).trans h.1, fun i => (World.frozen?_of_block he).trans (h.2 i)⟩
theorem OneBox.set {b : Nat} {v : Value} {w : World} (h : OneBox b v w) (u : Value) : OneBox b u (w.setCell ⟨b, 0, none⟩ u) := ⟨World.cell?_setCell_same _ _ _ h.1, fun i => (World.frozen?_setCell _ _ _ _).trans (h.2 i)⟩

/-- What stands between two rounds of All's loop. -/
structure AllAt (s : St) (L : List Ent) (w w2 : World) (p : Nat → Prop) (bl ba D l n1 : Nat) (r : Loop) (i : Nat) (W : World) : Prop where
  last : ∃ v, StBox bl (runSt s (L.take i)) v W ∧ ∀ W', Spares p W W' → OwnTab w.heap.size W' v (runSt s (L.take i)).tab
  ans : ∃ av, OneBox ba av W ∧ W.ownsRow n1 3 1 av (runAns s (L.take i)).length (intCells (runAns s (L.take i)))
  loop : W.heap[l]? = some (.loop r)
  mark : W.heap[D]? = some (.deferred (some []))
  keeps : Keeps w2 W

theorem AllAt.but {s : St} {L : List Ent} {w w2 : World} {p : Nat → Prop} {bl ba bS D l n1 : Nat} {r : Loop} {i : Nat} {W W' : World} (h : AllAt s L w w2 p bl ba D l n1 r i W) (hb : But bS W W') (h0 : ¬ p bS) (h1 : bl ≠ bS) (h2 : ba ≠ bS) (h3 : D ≠ bS) (h4 : l ≠ bS) (h5 : bS < n1) (h6 : w2.heap.size ≤ bS) :
    AllAt s L w w2 p bl ba D l n1 r i W' := by
  obtain ⟨v, hv, ho⟩ := h.last
  obtain ⟨av, ha, hr⟩ := h.ans
  exact ⟨⟨v, hv.other hb h1, fun W2 h2 => ho W2 ((Spares.but hb h0).trans h2)⟩, ⟨av, ha.same (hb.block ba ha.lt h2), owns_far hr h5 hb⟩, (hb.block l (Array.getElem?_eq_some_iff.1 h.loop).1 h4).trans h.loop, (hb.block D (Array.getElem?_eq_some_iff.1 h.mark).1 h3).trans h.mark, But.to h.keeps h6 hb⟩

theorem But.put (w : World) (b : Nat) (o : Obj) : But b w (w.putObj b o) := ⟨rfl, rfl, rfl, by simp, fun k _ hne => World.putObj_heap_other hne⟩
theorem StBox.slice {b n c : Nat} {s : St} {a : Option Addr} {w : World} (h : StBox b s (.slice a n c) w) : w.cell? ⟨b, 6, none⟩ = some (.slice a n c) := h.c6

/-- An append of a number to a row of its own. -/
theorem app_int {F : Fence} {n : Nat} {ops : Array Oper} {rest : List Oper} {o : Oper} {a : Act} {Q : Exit → Act → World → Prop} (w : World) (hg : o.guard = none) (s x : Operand) (hop : o.op = Op.call { callee := Callee.builtin Builtin.append, args := #[s, x], argTypes := #[39, 39] })
    (base : Nat) (v : Value) (k : Nat) (xs : List Value) (hs : a.eval s = v) (hown : w.ownsRow base 3 1 v k xs) (b : Nat) (an : Int) (hx : a.eval x = .slice (some ⟨b, 0, none⟩) 1 1) (hc : w.cell? ⟨b, 0, none⟩ = some (.int .i64 an)) (hk : k ≤ 1000) (hb : base ≤ w.heap.size)
    (hK : ∀ v' w', w'.ownsRow base 3 1 v' (k + 1) (xs ++ [.int .i64 an]) → w.grownBy w' v.ownBlock → wpListIn F n Try.prog ops Q rest (a.put o.dst v') w') : wpListIn F n Try.prog ops Q (o :: rest) a w := by
  obtain ⟨i0, hi0, hz0, hz01, hz02⟩ := info_parts infoInt
  refine wpListIn_append_own w hg s x 39 hop base 3 i0 (.int .i64 0) 1 8 Try.underlying39 hi0 hz0 hz01 hz02 rfl (by decide) v k xs hs hown ⟨b, 0, none⟩ 1 1 [.int .i64 an] hx rfl ?_ (by simp [Value.oneCell']) (by unfold maxLen; omega) (by omega) hb (fun v' w' h1 h2 _ => hK v' w' h1 h2)
  intro j u hu
  match j, hu with
  | 0, hu => cases hu; exact hc

/-- Behind an append to a row of its own: the box where it is to be stored, and the other one. -/
theorem stands {bl ba n1 : Nat} {t : St} {tv v v' : Value} {W w3 : World} {o : Obj} {m : Nat} {xs : List Value} (hL : StBox bl t tv W) (hA : OneBox ba v W) (hown' : w3.ownsRow n1 3 1 v' m xs) (hg : (W.alloc o).grownBy w3 v.ownBlock) (h1 : ba < n1) (hv : ∀ k, v.ownBlock = some k → n1 ≤ k) :
    ∃ ga gc, v' = .slice ga m gc ∧ w3.cell? ⟨ba, 0, none⟩ = some v ∧ ∀ i, w3.frozen? ⟨ba, i, none⟩ = false := by
  obtain ⟨ga, gc, h, _⟩ := (RowAt.of_owns hown').len
  have hb : w3.heap[ba]? = W.heap[ba]? := (hg.block ba (by have := hA.lt; simp; omega) (fun e => by have := hv _ e.symm; omega)).trans (Below.heap_alloc _ _ _ hA.lt)
  have := hA.same hb
  exact ⟨ga, gc, h, this.1, this.2⟩

set_option maxHeartbeats 1000000 in
theorem fold_all (s : St) (L : List Ent) (x v : Value) (w : World) (hT : TabAt w x s.tab) (hL : EntsAt w v L) :
    Calls Try.prog 17 #[stV s x, v] w fun y w' => ∃ x' av, OwnTab w.heap.size w' x' (allSt s L).tab ∧ w'.ownsRow w.heap.size 3 1 av (allAns s L).length (intCells (allAns s L)) ∧ y = .returned (.tuple #[stV (allSt s L) x', av, .int .i64 (foldErr s L)]) ∧ Keeps w w' := by
  obtain ⟨xa, xc, rfl, _⟩ := hT.len
  obtain ⟨la, lc, rfl, hlen⟩ := hL.len
  unfold maxLen at hlen
  have HT : Hid (TabAt w (.slice xa s.tab.length xc) s.tab) := hT
  have HL : Hid (EntsAt w (.slice la L.length lc) L) := hL
  have HS : Hid (allSt s L = if foldErr s L == 0 then runSt s L else zeroSt) := rfl
  have HA : Hid (allAns s L = if foldErr s L == 0 then runAns s L else []) := rfl
  have HZT : Hid (zeroSt.tab = []) := rfl
  clear hT hL
  refine (callsIn_wide (n := 3)).1 ?_
  refine callsIn_of_wp_marks Try.func17 rfl trivial ?_ rfl
  simp only [Try.ntmps17, List.size_toArray, List.length_cons, List.length_nil, Nat.reduceAdd, Nat.reduceSub, Array.replicate_succ, Array.replicate_zero, List.push_toArray, List.append_toArray, List.nil_append, List.cons_append]
  gi_wp2
  obtain ⟨W1, hW1⟩ : ∃ W1, W1 = (w.alloc (.cells #[.int .i64 s.at_, .int .i64 s.clock, .int .i64 s.v0, .int .i64 s.v1, .int .i64 s.v2, .int .i64 s.v3, .slice xa s.tab.length xc] 25)).alloc (.cells #[.int .i64 0, .int .i64 0, .int .i64 0, .int .i64 0, .int .i64 0, .int .i64 0, .slice none 0 0] 25) := ⟨_, rfl⟩
  have k1 : Keeps w W1 := by rw [hW1]; exact ((Keeps.refl _).alloc _).alloc _
  have B1 : StBox w.heap.size s (.slice xa s.tab.length xc) W1 := by rw [hW1]; exact (StBox.new w s _ 25).keep ((Keeps.refl _).alloc _)
  have Z1 : StBox (w.heap.size + 1) zeroSt (.slice none 0 0) W1 := by
    rw [hW1]
    have := StBox.new (w.alloc (.cells #[.int .i64 s.at_, .int .i64 s.clock, .int .i64 s.v0, .int .i64 s.v1, .int .i64 s.v2, .int .i64 s.v3, .slice xa s.tab.length xc] 25)) zeroSt (.slice none 0 0) 25
    simp only [World.size_alloc] at this
    exact this
  rw [← hW1]
  clear hW1
  refine ⟨trivial, CallsIn.mono (callsIn_wide.2 (fold_both s L _ _ W1 (HT.out.keep k1) (HL.out.keep k1))) ?_⟩
  rintro y w1 ⟨rfl, hb⟩
  have HK1 : Hid (Keeps w w1) := k1.trans hb
  have HB1 : Hid (StBox w.heap.size s (.slice xa s.tab.length xc) w1) := B1.keep hb
  have HZ1 : Hid (StBox (w.heap.size + 1) zeroSt (.slice none 0 0) w1) := Z1.keep hb
  clear k1 B1 Z1 hb
  clear W1
  cases q : (foldErr s L == 0) with
  | false =>
    have q' : (foldErr s L != 0) = true := by simp [bne, q]
    have H1 : Hid (allSt s L = zeroSt ∧ allAns s L = []) := ⟨by rw [HS.out, q]; rfl, by rw [HA.out, q]; rfl⟩
    have z0 := HZ1.out.c0
    have z1 := HZ1.out.c1
    have z2 := HZ1.out.c2
    have z3 := HZ1.out.c3
    have z4 := HZ1.out.c4
    have z5 := HZ1.out.c5
    have z6 := HZ1.out.c6
    have zf := HZ1.out.fz
    have zl := HZ1.out.lt
    have hk1 := HK1.out
    gi_wp2
    refine ⟨.tuple #[stV zeroSt (.slice none 0 0), .slice none 0 0, .int .i64 (foldErr s L)], ?_, ?_⟩
    · simp [results, Try.results17, go_sem, zeroSt, z0, z1, z2, z3, z4, z5, z6]
    · rw [H1.out.1, H1.out.2, HZT.out]
      refine ⟨.slice none 0 0, .slice none 0 0, OwnTab.nil _ _, World.ownsRow_nil _ _ _ _, rfl, ?_⟩
      repeat refine Keeps.set ?_ (by simp <;> omega) _
      exact hk1
  | true =>
    have q' : (foldErr s L != 0) = false := by simp [bne, q]
    have q0 : foldErr s L = 0 := by simpa using q
    obtain ⟨hs, hE, hroom⟩ := fold_right q0
    have H1 : Hid (allSt s L = runSt s L ∧ allAns s L = runAns s L ∧ foldErr s L = 0) := ⟨by rw [HS.out, q]; rfl, by rw [HA.out, q]; rfl, q0⟩
    have HSR : Hid (stErr s = 0) := hs
    have HER : Hid (∀ e ∈ L, entErr e = 0) := hE
    have b0 := HB1.out.c0
    have b1 := HB1.out.c1
    have b2 := HB1.out.c2
    have b3 := HB1.out.c3
    have b4 := HB1.out.c4
    have b5 := HB1.out.c5
    have b6 := HB1.out.c6
    have bl := HB1.out.lt
    clear hs hE q0
    gi_wp2
    refine ⟨trivial, CallsIn.mono (callsIn_wide.2 (twin_right _ w1 (HT.out.keep HK1.out) HSR.out)) ?_⟩
    rintro y w2 ⟨x', ho, rfl, hb⟩
    obtain ⟨ta, tc, rfl, _⟩ := ho.tab.len
    have HK2 : Hid (Keeps w w2) := HK1.out.trans hb
    have HB2 : Hid (StBox w.heap.size s (.slice xa s.tab.length xc) w2) := HB1.out.keep hb
    have HZ2 : Hid (StBox (w.heap.size + 1) zeroSt (.slice none 0 0) w2) := HZ1.out.keep hb
    have HO2 : Hid (OwnTab w1.heap.size w2 (.slice ta s.tab.length tc) s.tab) := ho
    have hz1 : w.heap.size + 1 < w1.heap.size := HZ1.out.lt
    have hz12 : w1.heap.size ≤ w2.heap.size := hb.size
    clear ho hb b0 b1 b2 b3 b4 b5 b6 bl HK1 HB1 HZ1
    have b0 := HB2.out.c0
    have b1 := HB2.out.c1
    have b2 := HB2.out.c2
    have b3 := HB2.out.c3
    have b4 := HB2.out.c4
    have b5 := HB2.out.c5
    have b6 := HB2.out.c6
    have bl := HB2.out.lt
    gi_wp2
    obtain ⟨W4, hW4⟩ : ∃ z, z = (w2.alloc (.cells #[.int .i64 s.at_, .int .i64 s.clock, .int .i64 s.v0, .int .i64 s.v1, .int .i64 s.v2, .int .i64 s.v3, .slice ta s.tab.length tc] 25)).alloc (.cells #[.slice none 0 0] 39) := ⟨_, rfl⟩
    have hz4 : W4.heap.size = w2.heap.size + 2 := by rw [hW4]; simp
    have k24 : Keeps w2 W4 := by rw [hW4]; exact ((Keeps.refl _).alloc _).alloc _
    have L4 : StBox w2.heap.size s (.slice ta s.tab.length tc) W4 := by rw [hW4]; exact (StBox.new w2 s _ 25).keep ((Keeps.refl _).alloc _)
    have A4 : OneBox (w2.heap.size + 1) (.slice none 0 0) W4 := by rw [hW4]; exact ⟨by simp [go_sem], fun i => by simp [go_sem]⟩
    rw [← hW4]
    clear hW4
    refine ⟨trivial, CallsIn.mono (callsIn_wide.2 (steps_made s xa la s.tab.length xc L.length lc W4)) ?_⟩
    rintro y W5 ⟨rfl, hW5⟩
    have hz5 : W5.heap.size = w2.heap.size + 4 := by rw [hW5]; simp [hz4]
    have k45 : Keeps W4 W5 := by rw [hW5]; exact ((Keeps.refl _).alloc _).alloc _
    have S5 : StBox (w2.heap.size + 2) s (.slice xa s.tab.length xc) W5 := by
      rw [hW5, ← hz4]
      exact (StBox.new W4 s _ 25).keep ((Keeps.refl _).alloc _)
    have L5 : W5.cell? ⟨w2.heap.size + 3, 0, none⟩ = some (.slice la L.length lc) := by rw [hW5]; simp [go_sem, hz4]
    rw [hz4]
    have HL5 : Hid (StBox w2.heap.size s (.slice ta s.tab.length tc) W5) := L4.keep k45
    have HA5 : Hid (OneBox (w2.heap.size + 1) (.slice none 0 0) W5) := A4.same (k45.block _ A4.lt)
    have HS5 : Hid (StBox (w2.heap.size + 2) s (.slice xa s.tab.length xc) W5) := S5
    have HK5 : Hid (Keeps w2 W5) := k24.trans k45
    have HE5 : Hid (W5.cell? ⟨w2.heap.size + 3, 0, none⟩ = some (.slice la L.length lc)) := L5
    clear L4 A4 S5 L5 k24 k45 hW5 hz4 b0 b1 b2 b3 b4 b5 b6 bl
    clear W4
    gi_wp2
    refine range_walk rfl (by decide) (gf := 68) (lb := #[.pointer (some ⟨w2.heap.size + 2 + 1, 0, none⟩), .pointer (some ⟨w2.heap.size + 2, 0, none⟩)]) rfl trivial (enters_of Try.func68 (by kernel_rfl) rfl) ?_
    intro r hrf hrs hrp e1 e2 e3 e4
    have HRS : Hid (r.state = .ready) := hrs
    have HRP : Hid (r.pending = none) := hrp
    have hz6 : ((W5.alloc (.deferred (some []))).alloc (.loop r)).heap.size = W5.heap.size + 2 := by simp
    have k56 : Keeps W5 ((W5.alloc (.deferred (some []))).alloc (.loop r)) := ((Keeps.refl _).alloc _).alloc _
    have l6 : ((W5.alloc (.deferred (some []))).alloc (.loop r)).heap[W5.heap.size + 1]? = some (.loop r) := by
      have := World.alloc_heap_new (W5.alloc (.deferred (some []))) (.loop r)
      rwa [World.size_alloc] at this
    have d6 : ((W5.alloc (.deferred (some []))).alloc (.loop r)).heap[W5.heap.size]? = some (.deferred (some [])) := (Below.heap_alloc _ _ _ (by simp)).trans (World.alloc_heap_new W5 _)
    generalize ((W5.alloc (.deferred (some []))).alloc (.loop r)) = W6 at *
    obtain ⟨p, hp0⟩ : ∃ p : Nat → Prop, p = (fun k => (w1.heap.size ≤ k ∧ k < w2.heap.size) ∨ W5.heap.size + 2 ≤ k) := ⟨_, rfl⟩
    have HP : Hid (∀ k, p k ↔ ((w1.heap.size ≤ k ∧ k < w2.heap.size) ∨ W5.heap.size + 2 ≤ k)) := by intro k; rw [hp0]
    clear hp0
    have J0 : AllAt s L w w2 p w2.heap.size (w2.heap.size + 1) W5.heap.size (W5.heap.size + 1) (W5.heap.size + 2) r 0 W6 := by
      refine ⟨⟨_, HL5.out.keep k56, fun W' hb => ?_⟩, ⟨_, HA5.out.same (k56.block _ HA5.out.lt), World.ownsRow_nil _ _ _ _⟩, l6, d6, HK5.out.trans k56⟩
      have h1 : Spares (fun k => w1.heap.size ≤ k ∧ k < w2.heap.size) w2 W' := (Spares.of (HK5.out.trans k56)).trans (hb.mono (fun k _ hk => by rw [HP.out]; exact .inl hk))
      exact (HO2.out.spared h1 (fun k h1 h2 => ⟨h1, h2⟩)).base (by omega)
    have hbut : ∀ i W W', AllAt s L w w2 p w2.heap.size (w2.heap.size + 1) W5.heap.size (W5.heap.size + 1) (W5.heap.size + 2) r i W → But (w2.heap.size + 2) W W' → AllAt s L w w2 p w2.heap.size (w2.heap.size + 1) W5.heap.size (W5.heap.size + 1) (W5.heap.size + 2) r i W' := fun i W W' h hb => h.but hb (by rw [HP.out]; omega) (by omega) (by omega) (by omega) (by omega) (by omega) (by omega)
    refine CallsIn.mono (steps_in 2 (W5.heap.size + 1) (w2.heap.size + 2 + 1) (w2.heap.size + 2) s L la lc HSR.out HER.out hroom w HL.out (AllAt s L w w2 p w2.heap.size (w2.heap.size + 1) W5.heap.size (W5.heap.size + 1) (W5.heap.size + 2) r) hbut ?yield W6 (.slice xa s.tab.length xc) ((HK2.out.trans HK5.out).trans k56) (by have := HK2.out.size; omega) (cell_kept HE5.out k56) (HS5.out.keep k56) (HT.out.keep ((HK2.out.trans HK5.out).trans k56)) J0) ?done
    case done =>
      rintro e W7 ⟨hv, hJ⟩
      refine ⟨hv, hJ.loop, ?_⟩
      obtain ⟨lv, hlb, hown⟩ := hJ.last
      obtain ⟨av, hab, hrow⟩ := hJ.ans
      rw [List.take_of_length_le (Nat.le_refl _)] at hlb hown hrow
      obtain ⟨va, vc, rfl, _⟩ := (hown W7 (Spares.refl _ _)).tab.len
      have hK7 := hJ.keeps
      have hD7 := hJ.mark
      have bt8 : But (W5.heap.size + 1) W7 (W7.putObj (W5.heap.size + 1) (.loop { r with state := .exhausted })) := But.put _ _ _
      generalize (W7.putObj (W5.heap.size + 1) (.loop { r with state := .exhausted })) = W8 at *
      have HB8 : Hid (StBox w2.heap.size (runSt s L) (.slice va (runSt s L).tab.length vc) W8) := hlb.other bt8 (by omega)
      have HA8 : Hid (OneBox (w2.heap.size + 1) av W8) := hab.same (bt8.block _ hab.lt (by omega))
      have HO8 : Hid (∀ W', Spares p W8 W' → OwnTab w.heap.size W' (.slice va (runSt s L).tab.length vc) (runSt s L).tab) := fun W' h => hown W' ((Spares.but bt8 (by rw [HP.out]; omega)).trans h)
      have HR8 : Hid (W8.ownsRow (W5.heap.size + 2) 3 1 av (runAns s L).length (intCells (runAns s L))) := owns_far hrow (by omega) bt8
      have HK8 : Hid (Keeps w2 W8) := But.to hK7 (by omega) bt8
      have HD8 : Hid (W8.heap[W5.heap.size]? = some (.deferred (some []))) := (bt8.block _ (Array.getElem?_eq_some_iff.1 hD7).1 (by omega)).trans hD7
      have HZ8 : Hid (StBox (w.heap.size + 1) zeroSt (.slice none 0 0) W8) := HZ2.out.keep HK8.out
      clear hlb hown hrow hK7 hD7 bt8 hab hJ J0 hbut k56 l6 d6 hz6
      obtain ⟨aa, ac, rfl, _⟩ := (RowAt.of_owns HR8.out).len
      have b0 := HB8.out.c0
      have b1 := HB8.out.c1
      have b2 := HB8.out.c2
      have b3 := HB8.out.c3
      have b4 := HB8.out.c4
      have b5 := HB8.out.c5
      have b6 := HB8.out.c6
      have bl := HB8.out.lt
      have a0 := HA8.out.1
      have al := HA8.out.lt
      have z0 := HZ8.out.c0
      have z1 := HZ8.out.c1
      have z2 := HZ8.out.c2
      have z3 := HZ8.out.c3
      have z4 := HZ8.out.c4
      have z5 := HZ8.out.c5
      have z6 := HZ8.out.c6
      have zf := HZ8.out.fz
      have zl := HZ8.out.lt
      generalize runSt s L = t at *
      generalize runAns s L = an at *
      gi_wp2
      gi_region
      all_goals gi_wp2
      all_goals
        have BZ := (But.puts (b := w.heap.size + 1) W8 t (.slice va t.tab.length vc)).keeps (Keeps.refl _).drew
        have BF := (HZ8.out.put t (.slice va t.tab.length vc)).keep (Keeps.refl _).drew
        refine ⟨by simp, .inl ⟨_, _, rfl, run_takeDeferred ((BZ.block _ (by have := (Array.getElem?_eq_some_iff.1 HD8.out).1; omega) (by omega)).trans (by rw [← hz5]; exact HD8.out)), ?_⟩⟩
        have BD := But.put ((((((((W8.setCell ⟨w.heap.size + 1, 0, none⟩ (.int .i64 t.at_)).setCell ⟨w.heap.size + 1, 1, none⟩ (.int .i64 t.clock)).setCell ⟨w.heap.size + 1, 2, none⟩ (.int .i64 t.v0)).setCell ⟨w.heap.size + 1, 3, none⟩ (.int .i64 t.v1)).setCell ⟨w.heap.size + 1, 4, none⟩ (.int .i64 t.v2)).setCell ⟨w.heap.size + 1, 5, none⟩ (.int .i64 t.v3)).setCell ⟨w.heap.size + 1, 6, none⟩ (.slice va t.tab.length vc)).drew) (w2.heap.size + 4) (.deferred none)
        have B9 := BF.other BD (by omega)
        have O9 := HO8.out _ ((Spares.but BZ (by rw [HP.out]; omega)).trans (Spares.but BD (by rw [HP.out]; omega)))
        have R9 := owns_far (owns_far HR8.out (by omega) BZ) (by omega) BD
        have K9 := But.to (But.to (HK2.out.trans HK8.out) (by omega) BZ) (by have := HK2.out.size; omega) BD
        have c0 := B9.c0
        have c1 := B9.c1
        have c2 := B9.c2
        have c3 := B9.c3
        have c4 := B9.c4
        have c5 := B9.c5
        have c6 := B9.c6
        refine ⟨.tuple #[stV t (.slice va t.tab.length vc), .slice aa an.length ac, .int .i64 0], ?_, ?_⟩
        · simp [results, Try.results17, go_sem, c0, c1, c2, c3, c4, c5, c6]
        · rw [H1.out.1, H1.out.2.1, H1.out.2.2]
          exact ⟨_, _, O9, owns_base R9 (by have := HK2.out.size; omega), rfl, K9⟩
    case yield =>
      intro i v Wb W1 hi hJb hk ho hbS hK0
      have hJ1 := hbut _ _ _ hJb (But.of hk)
      obtain ⟨lv, hlb, hlo⟩ := hJ1.last
      obtain ⟨qa, qc, rfl, _⟩ := (hlo _ (Spares.refl _ _)).tab.len
      obtain ⟨av, hab0, hrow0⟩ := hJb.ans
      have hab := hab0.same (hk.block _ hab0.lt)
      have hrow := owns_keep hrow0 hk
      have hbL := (Array.getElem?_eq_some_iff.1 hJb.loop).1
      have hzk := hk.size
      obtain ⟨va, vc, rfl, _⟩ := ho.tab.len
      refine yield_round hJ1.loop HRS.out HRP.out trivial e1 e2 e3 e4 rfl ?_
      intro rb
      clear e1 e2 e3 e4 hrs hrp hrf HRS HRP J0
      have HR1 : Hid (W1.heap[W5.heap.size + 1]? = some (.loop r)) := hJ1.loop
      have HD1 : Hid (W1.heap[W5.heap.size]? = some (.deferred (some []))) := hJ1.mark
      have HK1 : Hid (Keeps w2 W1) := hJ1.keeps
      have HLB : Hid (StBox w2.heap.size (runSt s (L.take i)) (.slice qa (runSt s (L.take i)).tab.length qc) W1) := hlb
      have HAB : Hid (OneBox (w2.heap.size + 1) av W1) := hab
      have HRW : Hid (W1.ownsRow (W5.heap.size + 2) 3 1 av (runAns s (L.take i)).length (intCells (runAns s (L.take i)))) := hrow
      have HRB : Hid (∀ k, av.ownBlock = some k → k < Wb.heap.size) := fun k hk => (hrow0.lt k hk).2
      have HOW : Hid (OwnTab Wb.heap.size W1 (.slice va (runSt s (L.take (i + 1))).tab.length vc) (runSt s (L.take (i + 1))).tab) := ho
      have HAN : Hid (runAns s (L.take (i + 1)) = runAns s (L.take i) ++ [oneAns (runSt s (L.take i)) (L[i])]) := by
        show _ = _
        rw [List.take_succ_eq_append_getElem hi, runAns_append]
        rfl
      clear hlo hlb hab hrow hab0 hrow0 ho hJ1 hJb
      obtain ⟨t', htt⟩ : ∃ t', t' = runSt s (L.take (i + 1)) := ⟨_, rfl⟩
      rw [← htt] at HOW ⊢
      have HTT : Hid (t' = runSt s (L.take (i + 1))) := htt
      clear htt
      obtain ⟨an, han⟩ : ∃ an, an = oneAns (runSt s (L.take i)) (L[i]) := ⟨_, rfl⟩
      rw [← han] at HAN ⊢
      clear han
      generalize runSt s (L.take i) = t at *
      gi_wp2
      obtain ⟨WA, hWA⟩ : ∃ z, z = W1.alloc (.cells #[.int .i64 t'.at_, .int .i64 t'.clock, .int .i64 t'.v0, .int .i64 t'.v1, .int .i64 t'.v2, .int .i64 t'.v3, .slice va t'.tab.length vc] 25) := ⟨_, rfl⟩
      have kA : Keeps W1 WA := by rw [hWA]; exact (Keeps.refl _).alloc _
      have TA : StBox W1.heap.size t' (.slice va t'.tab.length vc) WA := by rw [hWA]; exact StBox.new W1 t' _ 25
      have hzA : WA.heap.size = W1.heap.size + 1 := by rw [hWA]; exact World.size_alloc _ _
      rw [← hWA]
      clear hWA
      refine ⟨(kA.block _ (Array.getElem?_eq_some_iff.1 HR1.out).1).trans HR1.out, ?_⟩
      have hl1 := (Array.getElem?_eq_some_iff.1 HR1.out).1
      have bB : But (W5.heap.size + 1) WA (WA.putObj (W5.heap.size + 1) (.loop rb)) := But.put _ _ _
      have lB : (WA.putObj (W5.heap.size + 1) (.loop rb)).heap[W5.heap.size + 1]? = some (.loop rb) := World.putObj_heap_same (by omega)
      generalize (WA.putObj (W5.heap.size + 1) (.loop rb)) = WB at *
      have TB := TA.other bB (by omega)
      have LB := (HLB.out.keep kA).other bB (by omega)
      have AB : OneBox (w2.heap.size + 1) av WB := (HAB.out.same (kA.block _ HAB.out.lt)).same (bB.block _ (by have := HAB.out.lt; omega) (by omega))
      have RB := owns_far (owns_keep HRW.out kA) (by omega) bB
      have hav : ∃ pa pc, av = .slice pa (runAns s (L.take i)).length pc := by obtain ⟨x, y, h, _⟩ := (RowAt.of_owns HRW.out).len; exact ⟨x, y, h⟩
      obtain ⟨pa, pc, rfl⟩ := hav
      have HTB : Hid (StBox W1.heap.size t' (.slice va t'.tab.length vc) WB) := TB
      have HLBB : Hid (StBox w2.heap.size t (.slice qa t.tab.length qc) WB) := LB
      have HABB : Hid (OneBox (w2.heap.size + 1) (.slice pa (runAns s (L.take i)).length pc) WB) := AB
      have HRBB : Hid (WB.ownsRow (W5.heap.size + 2) 3 1 (.slice pa (runAns s (L.take i)).length pc) (runAns s (L.take i)).length (intCells (runAns s (L.take i)))) := RB
      have HLOOP : Hid (WB.heap[W5.heap.size + 1]? = some (.loop rb)) := lB
      have HKA : Hid (Keeps W1 WA) := kA
      have HBB : Hid (But (W5.heap.size + 1) WA WB) := bB
      have c0 := TB.c0
      have c1 := TB.c1
      have c2 := TB.c2
      have c3 := TB.c3
      have c4 := TB.c4
      have c5 := TB.c5
      have c6 := TB.c6
      have cl := TB.lt
      have b0 := LB.c0
      have b1 := LB.c1
      have b2 := LB.c2
      have b3 := LB.c3
      have b4 := LB.c4
      have b5 := LB.c5
      have b6 := LB.c6
      have bz := LB.fz
      have bl := LB.lt
      have a0 := AB.1
      have az := AB.2
      have al := AB.lt
      clear TB LB AB RB lB kA bB TA
      obtain ⟨nl, hnl⟩ : ∃ nl, nl = (runAns s (L.take i)).length := ⟨_, rfl⟩
      rw [← hnl] at HABB HRBB HAB HRW HRB a0
      have hnl50 : nl ≤ 50 := by rw [hnl, runAns_len]; have := (stErr_bounds HSR.out).1.1; simp; omega
      have HNL : Hid (nl = (runAns s (L.take i)).length) := hnl
      clear hnl
      have BC := But.puts (b := w2.heap.size) WB t' (.slice va t'.tab.length vc)
      have HLC : Hid (StBox w2.heap.size t' (.slice va t'.tab.length vc) (((((((WB.setCell ⟨w2.heap.size, 0, none⟩ (.int .i64 t'.at_)).setCell ⟨w2.heap.size, 1, none⟩ (.int .i64 t'.clock)).setCell ⟨w2.heap.size, 2, none⟩ (.int .i64 t'.v0)).setCell ⟨w2.heap.size, 3, none⟩ (.int .i64 t'.v1)).setCell ⟨w2.heap.size, 4, none⟩ (.int .i64 t'.v2)).setCell ⟨w2.heap.size, 5, none⟩ (.int .i64 t'.v3)).setCell ⟨w2.heap.size, 6, none⟩ (.slice va t'.tab.length vc))) := HLBB.out.put t' _
      have HAC : Hid (OneBox (w2.heap.size + 1) (.slice pa nl pc) (((((((WB.setCell ⟨w2.heap.size, 0, none⟩ (.int .i64 t'.at_)).setCell ⟨w2.heap.size, 1, none⟩ (.int .i64 t'.clock)).setCell ⟨w2.heap.size, 2, none⟩ (.int .i64 t'.v0)).setCell ⟨w2.heap.size, 3, none⟩ (.int .i64 t'.v1)).setCell ⟨w2.heap.size, 4, none⟩ (.int .i64 t'.v2)).setCell ⟨w2.heap.size, 5, none⟩ (.int .i64 t'.v3)).setCell ⟨w2.heap.size, 6, none⟩ (.slice va t'.tab.length vc))) := HABB.out.same (BC.block _ al (by omega))
      have HRC : Hid (((((((((WB.setCell ⟨w2.heap.size, 0, none⟩ (.int .i64 t'.at_)).setCell ⟨w2.heap.size, 1, none⟩ (.int .i64 t'.clock)).setCell ⟨w2.heap.size, 2, none⟩ (.int .i64 t'.v0)).setCell ⟨w2.heap.size, 3, none⟩ (.int .i64 t'.v1)).setCell ⟨w2.heap.size, 4, none⟩ (.int .i64 t'.v2)).setCell ⟨w2.heap.size, 5, none⟩ (.int .i64 t'.v3)).setCell ⟨w2.heap.size, 6, none⟩ (.slice va t'.tab.length vc)).alloc (.cells #[.int .i64 an] 3)).ownsRow (W5.heap.size + 2) 3 1 (.slice pa nl pc) nl (intCells (runAns s (L.take i)))) := owns_keep (owns_far HRBB.out (by omega) BC) ((Keeps.refl _).alloc _)
      have HBC : Hid (But w2.heap.size WB (((((((WB.setCell ⟨w2.heap.size, 0, none⟩ (.int .i64 t'.at_)).setCell ⟨w2.heap.size, 1, none⟩ (.int .i64 t'.clock)).setCell ⟨w2.heap.size, 2, none⟩ (.int .i64 t'.v0)).setCell ⟨w2.heap.size, 3, none⟩ (.int .i64 t'.v1)).setCell ⟨w2.heap.size, 4, none⟩ (.int .i64 t'.v2)).setCell ⟨w2.heap.size, 5, none⟩ (.int .i64 t'.v3)).setCell ⟨w2.heap.size, 6, none⟩ (.slice va t'.tab.length vc))) := BC
      clear BC
      have hne1 : (w2.heap.size = W1.heap.size) = False := eq_false (by have := HKA.out.size; have := HLB.out.lt; omega)
      have hne2 : (W1.heap.size = w2.heap.size) = False := eq_false (by have := HLB.out.lt; omega)
      have hszC : W5.heap.size + 2 ≤ WB.heap.size + 1 := by have := HBB.out.size; have := (Array.getElem?_eq_some_iff.1 HR1.out).1; have := HKA.out.size; omega
      have hba : w2.heap.size + 1 < W5.heap.size + 2 := by omega
      have HARITH : Hid (W5.heap.size = w2.heap.size + 4 ∧ W5.heap.size + 1 < Wb.heap.size ∧ Wb.heap.size ≤ W1.heap.size ∧ W1.heap.size ≤ WB.heap.size ∧ w.heap.size ≤ w2.heap.size) := ⟨hz5, hbL, hzk, by have := HBB.out.size; omega, HK2.out.size⟩
      clear hz5 hzA hl1 hbS hbL hzk
      gi_wp2_with (gi_at_builtin; refine app_int _ rfl _ _ rfl (W5.heap.size + 2) (.slice pa nl pc) nl _ rfl HRC.out _ an rfl (by simp [go_sem]) (by omega) (by simp; omega) ?_; intro v' w3 hown' hg3; obtain ⟨ga, gc, rfl, hw0, hwz⟩ := stands HLC.out HAC.out hown' hg3 hba (fun k hk => (HRC.out.lt k hk).1); have HOWN : Hid (w3.ownsRow (W5.heap.size + 2) 3 1 (.slice ga (nl + 1) gc) (nl + 1) (intCells (runAns s (L.take i)) ++ [.int .i64 an])) := hown'; have HG3 : Hid (((((((((WB.setCell ⟨w2.heap.size, 0, none⟩ (.int .i64 t'.at_)).setCell ⟨w2.heap.size, 1, none⟩ (.int .i64 t'.clock)).setCell ⟨w2.heap.size, 2, none⟩ (.int .i64 t'.v0)).setCell ⟨w2.heap.size, 3, none⟩ (.int .i64 t'.v1)).setCell ⟨w2.heap.size, 4, none⟩ (.int .i64 t'.v2)).setCell ⟨w2.heap.size, 5, none⟩ (.int .i64 t'.v3)).setCell ⟨w2.heap.size, 6, none⟩ (.slice va t'.tab.length vc)).alloc (.cells #[.int .i64 an] 3)).grownBy w3 (Value.slice pa nl pc).ownBlock) := hg3; clear hown' hg3)
      obtain ⟨x1, x2, x3, x4, x5⟩ := HARITH.out
      have hrow1 : ∀ k, (Value.slice pa nl pc).ownBlock = some k → W5.heap.size + 2 ≤ k ∧ k < Wb.heap.size := fun k hk => ⟨(HRC.out.lt k hk).1, HRB.out k hk⟩
      have bA : But (w2.heap.size + 1) w3 (w3.setCell ⟨w2.heap.size + 1, 0, none⟩ (.slice ga (nl + 1) gc)) := (But.refl _ _).set 0 _
      have AE : OneBox (w2.heap.size + 1) (.slice ga (nl + 1) gc) (w3.setCell ⟨w2.heap.size + 1, 0, none⟩ (.slice ga (nl + 1) gc)) := OneBox.set ⟨hw0, hwz⟩ _
      have RE := owns_far HOWN.out hba bA
      obtain ⟨WE, hWE⟩ : ∃ z, z = w3.setCell ⟨w2.heap.size + 1, 0, none⟩ (.slice ga (nl + 1) gc) := ⟨_, rfl⟩
      rw [← hWE] at bA AE RE ⊢
      clear hWE
      have SC : Spares (fun k => k ≠ w2.heap.size + 1 ∧ some k ≠ (Value.slice pa nl pc).ownBlock) (((((((WB.setCell ⟨w2.heap.size, 0, none⟩ (.int .i64 t'.at_)).setCell ⟨w2.heap.size, 1, none⟩ (.int .i64 t'.clock)).setCell ⟨w2.heap.size, 2, none⟩ (.int .i64 t'.v0)).setCell ⟨w2.heap.size, 3, none⟩ (.int .i64 t'.v1)).setCell ⟨w2.heap.size, 4, none⟩ (.int .i64 t'.v2)).setCell ⟨w2.heap.size, 5, none⟩ (.int .i64 t'.v3)).setCell ⟨w2.heap.size, 6, none⟩ (.slice va t'.tab.length vc)) WE :=
        ((Spares.of ((Keeps.refl _).alloc (.cells #[.int .i64 an] 3))).trans (Spares.grown HG3.out (fun b e h => h.2 e.symm))).trans (Spares.but bA (fun h => h.1 rfl))
      have SB : Spares (fun k => k ≠ w2.heap.size ∧ k ≠ w2.heap.size + 1 ∧ some k ≠ (Value.slice pa nl pc).ownBlock) WB WE :=
        (Spares.but HBC.out (fun h => h.1 rfl)).trans (SC.mono (fun k _ h => h.2))
      have hLE : WE.heap[W5.heap.size + 1]? = some (.loop rb) := (SB.block _ (by omega) ⟨by omega, by omega, fun e => by have := (hrow1 _ e.symm).1; omega⟩).trans HLOOP.out
      have hlE := (Array.getElem?_eq_some_iff.1 hLE).1
      have BF : But (W5.heap.size + 1) WE (WE.putObj (W5.heap.size + 1) (.loop r)) := But.put _ _ _
      have hLF : (WE.putObj (W5.heap.size + 1) (.loop r)).heap[W5.heap.size + 1]? = some (.loop r) := World.putObj_heap_same hlE
      refine ⟨hLE, ?_⟩
      generalize (WE.putObj (W5.heap.size + 1) (.loop r)) = WF at *
      have SF : Spares (fun k => k ≠ w2.heap.size ∧ k ≠ w2.heap.size + 1 ∧ k ≠ W5.heap.size + 1 ∧ some k ≠ (Value.slice pa nl pc).ownBlock) W1 WF :=
        (((Spares.of HKA.out).trans (Spares.but HBB.out (fun h => h.2.2.1 rfl))).trans (SB.mono (fun k _ h => ⟨h.1, h.2.1, h.2.2.2⟩))).trans (Spares.but BF (fun h => h.2.2.1 rfl))
      have hz12' := hz12
      refine ⟨⟨⟨.slice va t'.tab.length vc, ?_, ?_⟩, ⟨.slice ga (nl + 1) gc, AE.same (BF.block _ AE.lt (by omega)), ?_⟩, hLF, ?_, ?_⟩, ?_⟩
      · rw [← HTT.out]
        exact (HLC.out.spared SC ⟨by omega, fun e => by have := (hrow1 _ e.symm).1; omega⟩).other BF (by omega)
      · intro W' hW'
        rw [← HTT.out]
        have h1 : Spares (fun k => Wb.heap.size ≤ k) W1 W' := (SF.mono (fun k _ h => ⟨by omega, by omega, by omega, fun e => by have := (hrow1 _ e.symm).2; omega⟩)).trans (hW'.mono (fun k _ h => by rw [HP.out]; exact .inr (by omega)))
        exact (HOW.out.spared h1 (fun k h _ => h)).base (by omega)
      · rw [HAN.out, List.length_append, ← HNL.out]
        have := owns_far RE (by omega) BF
        simpa [intCells] using this
      · exact (SF.block _ (Array.getElem?_eq_some_iff.1 HD1.out).1 ⟨by omega, by omega, by omega, fun e => by have := (hrow1 _ e.symm).1; omega⟩).trans HD1.out
      · exact SF.keeps HK1.out (fun k hk => ⟨by omega, by omega, by omega, fun e => by have := (hrow1 _ e.symm).1; omega⟩)
      · exact SF.mono (fun k hk h => ⟨by omega, by omega, by omega, fun e => by have := hrow1 _ e.symm; omega⟩)
end Go.Proofs.Yteabfjpajgakiad

/- Entries made. -/
set_option linter.unusedSimpArgs false
set_option linter.unusedVariables false
set_option maxRecDepth 10000
namespace Go.Proofs.Yteabfjpajgakiad
open Go.RowKit

end Go.Proofs.Yteabfjpajgakiad

/- Some entries of a log, as the statements have them. -/
set_option linter.unusedSimpArgs false
set_option linter.unusedVariables false
set_option maxRecDepth 10000
namespace Go.Proofs.Yteabfjpajgakiad
open Go.RowKit

/-- Entries that have just been laid. -/
theorem EntsAt.new (w : World) (L : List Ent) (hL : L.length ≤ 1000) (c : Nat) : EntsAt (w.alloc (.cells (entCells L).toArray 89)) (.slice (some ⟨w.heap.size, 0, none⟩) L.length c) L := by
  refine ⟨entCells_len L, by unfold maxLen; omega, .inr ⟨_, _, rfl, fun j u hu => ?_⟩⟩
  rw [Addr.add_lit, Nat.zero_add]
  unfold World.cell?
  rw [World.alloc_heap_new]
  simpa using hu

end Go.Proofs.Yteabfjpajgakiad
