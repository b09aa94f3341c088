/- TrC, TrD, TrE, TrF, TrG, TrH, TrI0, TrI. -/
import Derived.Test.YteabfjpajgakiacJ12
import Derived.Test.YteabfjpajgakiacJ13
import Derived.Test.YteabfjpajgakiacJ14
import Derived.Test.YteabfjpajgakiacJ15
import Derived.Test.YteabfjpajgakiacJ19
import Derived.Test.YteabfjpajgakiacJ20
/- trace.Ops. -/
set_option linter.unusedSimpArgs false
set_option linter.unusedVariables false
set_option maxRecDepth 10000
namespace Go.Proofs.Yteabfjpajgakiac
open Go.RowKit Go.Shelf
attribute [local go_sem] Oper.semAt_some

/-- The entries by which an op was done, of the first i. -/
def doersTo (L : List Ent) : Nat → List Ent
  | 0 => []
  | i + 1 => if doneB L i then doersTo L i ++ [(L[i]?).getD zeroEnt] else doersTo L i
theorem doersTo_none {L : List Ent} {i : Nat} (hi : i < L.length) (h : oneDone (atSt L i) (L[i]) = false) : doersTo L (i + 1) = doersTo L i := by
  simp only [doersTo, doneB_at hi, h]
  rfl
theorem doersTo_some {L : List Ent} {i : Nat} (hi : i < L.length) (h : oneDone (atSt L i) (L[i]) = true) : doersTo L (i + 1) = doersTo L i ++ [L[i]] := by
  simp only [doersTo, doneB_at hi, h, List.getElem?_eq_getElem hi]
  rfl
theorem doersTo_len (L : List Ent) : ∀ i, (doersTo L i).length ≤ i
  | 0 => Nat.le_refl _
  | i + 1 => by
    have := doersTo_len L i
    simp only [doersTo]
    split
    · simp; omega
    · omega
def doersL (L : List Ent) : List Ent := if listErr L == 0 then doersTo L L.length else []

def opCells : List Ent → List Value
  | [] => []
  | e :: r => .int .i64 e.ok :: .int .i64 e.okey :: .int .i64 e.oto :: .int .i64 e.on :: opCells r
theorem opCells_len : ∀ l : List Ent, (opCells l).length = l.length * 4
  | [] => rfl
  | _ :: r => by simp only [opCells, List.length_cons, opCells_len r]; omega
theorem opCells_append : ∀ (l m : List Ent), opCells (l ++ m) = opCells l ++ opCells m
  | [], m => rfl
  | _ :: r, m => by simp only [opCells, List.cons_append, opCells_append r m]
theorem opCells_drop : ∀ (l : List Ent) (k : Nat), (opCells l).drop (k * 4) = opCells (l.drop k)
  | l, 0 => by simp
  | [], k + 1 => by simp [opCells]
  | e :: r, k + 1 => by
    rw [show (k + 1) * 4 = k * 4 + 1 + 1 + 1 + 1 from by omega]
    simp only [opCells, List.drop_succ_cons]
    exact opCells_drop r k
def OpsRow (w : World) (v : Value) (l : List Ent) : Prop := RowAt w 4 v l.length (opCells l)
theorem OpsRow.keep {w w' : World} {v : Value} {l : List Ent} (h : OpsRow w v l) (hk : Keeps w w') : OpsRow w' v l := RowAt.keep h hk
theorem OpsRow.of {w : World} {base : Nat} {v : Value} {l : List Ent} (h : w.ownsRow base 55 4 v l.length (opCells l)) : OpsRow w v l := RowAt.of_owns h
theorem OpsRow.at {w : World} {v : Value} {L : List Ent} (h : OpsRow w v L) {k : Nat} (hk : k < L.length) :
    ∃ b off cap, v = .slice (some ⟨b, off, none⟩) L.length cap ∧ w.cell? ⟨b, off + k * 4, none⟩ = some (.int .i64 (L[k]).ok) ∧ w.cell? ⟨b, off + k * 4 + 1, none⟩ = some (.int .i64 (L[k]).okey) ∧ w.cell? ⟨b, off + k * 4 + 2, none⟩ = some (.int .i64 (L[k]).oto) ∧ w.cell? ⟨b, off + k * 4 + 3, none⟩ = some (.int .i64 (L[k]).on) := by
  obtain ⟨b, off, cap, rfl, h3⟩ := RowAt.plain h (by rw [opCells_len]; omega)
  refine ⟨b, off, cap, rfl, ?_⟩
  have hd : (opCells L).drop (k * 4) = opCells (L[k] :: L.drop (k + 1)) := by rw [opCells_drop, List.drop_eq_getElem_cons hk]
  have go : ∀ i u, (opCells (L[k] :: L.drop (k + 1)))[i]? = some u → w.cell? ⟨b, off + k * 4 + i, none⟩ = some u := by
    intro i u hu
    rw [← hd, List.getElem?_drop] at hu
    rw [Nat.add_assoc]
    exact h3 _ _ hu
  exact ⟨go 0 _ rfl, go 1 _ rfl, go 2 _ rfl, go 3 _ rfl⟩
theorem infoOp : (Try.prog.info? 55).map (fun i => (i.zero, i.size, i.bytes)) = some (some (.agg #[.int .i64 0, .int .i64 0, .int .i64 0, .int .i64 0]), 4, 32) := by kernel_rfl

/-- An append of an op to a row of its own. -/
theorem app_op {F : Fence} {n : Nat} {ops : Array Oper} {rest : List Oper} {o : Oper} {a : Act} {Q : Exit → Act → World → Prop} (w : World) (hg : o.guard = none) (s x : Operand) (hop : o.op = Op.call { callee := Callee.builtin Builtin.append, args := #[s, x], argTypes := #[42, 42] })
    (base : Nat) (v : Value) (k : Nat) (xs : List Value) (hs : a.eval s = v) (hown : w.ownsRow base 55 4 v k xs) (b : Nat) (p q r t : Int) (hx : a.eval x = .slice (some ⟨b, 0, none⟩) 1 1) (c0 : w.cell? ⟨b, 0, none⟩ = some (.int .i64 p)) (c1 : w.cell? ⟨b, 1, none⟩ = some (.int .i64 q)) (c2 : w.cell? ⟨b, 2, none⟩ = some (.int .i64 r)) (c3 : w.cell? ⟨b, 3, none⟩ = some (.int .i64 t)) (hk : k ≤ 1000) (hb : base ≤ w.heap.size)
    (hK : ∀ v' w', w'.ownsRow base 55 4 v' (k + 1) (xs ++ [.int .i64 p, .int .i64 q, .int .i64 r, .int .i64 t]) → w.grownBy w' v.ownBlock → wpListIn F n Try.prog ops Q rest (a.put o.dst v') w') : wpListIn F n Try.prog ops Q (o :: rest) a w := by
  obtain ⟨i0, hi0, hz0, hz01, hz02⟩ := info_parts infoOp
  refine wpListIn_append_own w hg s x 42 hop base 55 i0 (.agg #[.int .i64 0, .int .i64 0, .int .i64 0, .int .i64 0]) 4 32 Try.underlying42 hi0 hz0 hz01 hz02 rfl (by decide) v k xs hs hown ⟨b, 0, none⟩ 1 1 [.int .i64 p, .int .i64 q, .int .i64 r, .int .i64 t] hx rfl ?_ (by simp [Value.oneCell']) (by unfold maxLen; omega) (by omega) hb (fun v' w' h1 h2 _ => hK v' w' h1 h2)
  intro j u hu
  match j, hu with
  | 0, hu => cases hu; exact c0
  | 1, hu => cases hu; exact c1
  | 2, hu => cases hu; exact c2
  | 3, hu => cases hu; exact c3

/-- Behind an append to a row of its own: the box where it is to be stored. -/
theorem stands_op {ba n1 : Nat} {v v' : Value} {W w3 : World} {o : Obj} {m n : Nat} {xs ys : List Value} (hA : OneBox ba v W) (hr : (W.alloc o).ownsRow n1 55 4 v n ys) (hown' : w3.ownsRow n1 55 4 v' m xs) (hg : (W.alloc o).grownBy w3 v.ownBlock) (h1 : ba < n1) :
    ∃ ga gc, v' = .slice ga m gc ∧ w3.cell? ⟨ba, 0, none⟩ = some v ∧ ∀ i, w3.frozen? ⟨ba, i, none⟩ = false := by
  obtain ⟨ga, gc, h, _⟩ := (RowAt.of_owns hown').len
  have hb : w3.heap[ba]? = W.heap[ba]? := (hg.block ba (by have := hA.lt; simp; omega) (fun e => by have := (hr.lt _ e.symm).1; omega)).trans (Below.heap_alloc _ _ _ hA.lt)
  have := hA.same hb
  exact ⟨ga, gc, h, this.1, this.2⟩

/-- What stands between two rounds of Ops' loop. -/
structure OpsAt (L : List Ent) (w : World) (bo D l : Nat) (r : Loop) (bS i : Nat) (W : World) : Prop where
  row : ∃ av, OneBox bo av W ∧ W.ownsRow (bS + 1) 55 4 av (doersTo L i).length (opCells (doersTo L i))
  loop : W.heap[l]? = some (.loop r)
  mark : W.heap[D]? = some (.deferred (some []))
  keeps : Keeps w W
  far : bo < bS ∧ D < bS ∧ l < bS ∧ w.heap.size ≤ bS

theorem OpsAt.but {L : List Ent} {w : World} {bo D l : Nat} {r : Loop} {bS i : Nat} {W W' : World} (h : OpsAt L w bo D l r bS i W) (hb : But bS W W') : OpsAt L w bo D l r bS i W' := by
  obtain ⟨f1, f2, f3, f4⟩ := h.far
  obtain ⟨av, h1, h2⟩ := h.row
  exact ⟨⟨av, h1.same (hb.block bo h1.lt (by omega)), owns_far h2 (by omega) hb⟩, (hb.block l (Array.getElem?_eq_some_iff.1 h.loop).1 (by omega)).trans h.loop, (hb.block D (Array.getElem?_eq_some_iff.1 h.mark).1 (by omega)).trans h.mark, But.to h.keeps f4 hb, h.far⟩

set_option maxHeartbeats 1000000 in
theorem trace_ops (L : List Ent) (v : Value) (w : World) (hL : EntsAt w v L) :
    Calls Try.prog 19 #[v] w fun y w' => ∃ da dc, OpsRow w' (.slice da (doersL L).length dc) (doersL L) ∧ y = .returned (.tuple #[.slice da (doersL L).length dc, .int .i64 (listErr L)]) ∧ Keeps w w' := by
  obtain ⟨la, lc, rfl, hlen⟩ := hL.len
  unfold maxLen at hlen
  have HL : Hid (EntsAt w (.slice la L.length lc) L) := hL
  have HD : Hid (doersL L = if listErr L == 0 then doersTo L L.length else []) := rfl
  clear hL
  refine (callsIn_wide (n := 3)).1 ?_
  refine callsIn_of_wp_marks Try.func19 rfl trivial ?_ rfl
  simp only [Try.ntmps19, List.size_toArray, List.length_cons, List.length_nil, Nat.reduceAdd, Nat.reduceSub, Array.replicate_succ, Array.replicate_zero, List.push_toArray, List.append_toArray, List.nil_append, List.cons_append]
  gi_wp2
  refine ⟨trivial, CallsIn.mono (callsIn_wide.2 (fold_check L _ w HL.out)) ?_⟩
  rintro y w1 ⟨rfl, hb⟩
  have HK1 : Hid (Keeps w w1) := hb
  clear hb
  cases q : (listErr L == 0) with
  | false =>
    have q' : (listErr L != 0) = true := by simp [bne, q]
    have H1 : Hid (doersL L = []) := by show _ = _; rw [HD.out, q]; rfl
    gi_wp2
    refine ⟨.tuple #[.slice none 0 0, .int .i64 (listErr L)], ?_, ?_⟩
    · simp [results, Try.results19, go_sem]
    · rw [H1.out]
      exact ⟨none, 0, ⟨rfl, by unfold maxLen; simp, .inl ⟨rfl, rfl⟩⟩, rfl, HK1.out⟩
  | true =>
    have q' : (listErr L != 0) = false := by simp [bne, q]
    have q0 : listErr L = 0 := by simpa using q
    obtain ⟨hE, h50⟩ := list_right q0
    have H1 : Hid (doersL L = doersTo L L.length ∧ listErr L = 0) := ⟨by rw [HD.out, q]; rfl, q0⟩
    have HER : Hid (∀ e ∈ L, entErr e = 0) := hE
    clear hE q0
    gi_wp2
    obtain ⟨W4, hW4⟩ : ∃ z, z = w1.alloc (.cells #[.slice none 0 0] 42) := ⟨_, rfl⟩
    have hz4 : W4.heap.size = w1.heap.size + 1 := by rw [hW4]; simp
    have k14 : Keeps w1 W4 := by rw [hW4]; exact (Keeps.refl _).alloc _
    have A4 : OneBox w1.heap.size (.slice none 0 0) W4 := by rw [hW4]; exact ⟨by simp [go_sem], fun i => by simp [go_sem]⟩
    rw [← hW4]
    clear hW4
    refine ⟨trivial, CallsIn.mono (callsIn_wide.2 (doers_made la L.length lc W4)) ?_⟩
    rintro y W5 ⟨rfl, hW5⟩
    have hz5 : W5.heap.size = w1.heap.size + 2 := by rw [hW5]; simp [hz4]
    have k45 : Keeps W4 W5 := by rw [hW5]; exact (Keeps.refl _).alloc _
    have L5 : W5.cell? ⟨w1.heap.size + 1, 0, none⟩ = some (.slice la L.length lc) := by rw [hW5]; simp [go_sem, hz4]
    rw [hz4]
    have HA5 : Hid (OneBox w1.heap.size (.slice none 0 0) W5) := A4.same (k45.block _ A4.lt)
    have HK5 : Hid (Keeps w W5) := HK1.out.trans (k14.trans k45)
    have HE5 : Hid (W5.cell? ⟨w1.heap.size + 1, 0, none⟩ = some (.slice la L.length lc)) := L5
    have hw1 := HK1.out.size
    clear A4 L5 k14 k45 hW5 hz4
    clear W4
    gi_wp2
    refine range_walk rfl (by decide) (gf := 62) (lb := #[.pointer (some ⟨w1.heap.size + 1, 0, none⟩)]) rfl trivial (enters_of Try.func62 (by kernel_rfl) rfl) ?_
    intro r hrf hrs hrp e1 e2 e3 e4
    have HRS : Hid (r.state = .ready) := hrs
    have HRP : Hid (r.pending = none) := hrp
    have k56 : Keeps W5 ((W5.alloc (.deferred (some []))).alloc (.loop r)) := ((Keeps.refl _).alloc _).alloc _
    have l6 : ((W5.alloc (.deferred (some []))).alloc (.loop r)).heap[W5.heap.size + 1]? = some (.loop r) := by
      have := World.alloc_heap_new (W5.alloc (.deferred (some []))) (.loop r)
      rwa [World.size_alloc] at this
    have d6 : ((W5.alloc (.deferred (some []))).alloc (.loop r)).heap[W5.heap.size]? = some (.deferred (some [])) := (Below.heap_alloc _ _ _ (by simp)).trans (World.alloc_heap_new W5 _)
    have hz6 : ((W5.alloc (.deferred (some []))).alloc (.loop r)).heap.size = W5.heap.size + 2 := by simp
    generalize ((W5.alloc (.deferred (some []))).alloc (.loop r)) = W6 at *
    have J0 : ∀ V bS, Keeps W6 V → W6.heap.size ≤ bS → OpsAt L w w1.heap.size W5.heap.size (W5.heap.size + 1) r bS 0 V := by
      intro V bS hk hbS
      have kV := k56.trans hk
      have hzV := hk.size
      exact ⟨⟨_, HA5.out.same (kV.block _ HA5.out.lt), World.ownsRow_nil _ _ _ _⟩, (hk.block _ (by omega)).trans l6, (hk.block _ (by omega)).trans d6, HK5.out.trans kV, by refine ⟨?_, ?_, ?_, ?_⟩ <;> omega⟩
    refine CallsIn.mono (doers_in 2 (W5.heap.size + 1) (w1.heap.size + 1) L la lc HER.out h50 w HL.out (OpsAt L w w1.heap.size W5.heap.size (W5.heap.size + 1) r) (fun bS i W W' h hb => h.but hb) (fun bS i W hi hdn h => ⟨by rw [doersTo_none hi hdn]; exact h.row, h.loop, h.mark, h.keeps, h.far⟩) ?yield W6 (HK5.out.trans k56) (cell_kept HE5.out k56) J0) ?done
    case done =>
      rintro e W7 ⟨hv, bS, hJ⟩
      refine ⟨hv, hJ.loop, ?_⟩
      obtain ⟨f1, f2, f3, f4⟩ := hJ.far
      obtain ⟨av, hab, hrow⟩ := hJ.row
      have bt8 : But (W5.heap.size + 1) W7 (W7.putObj (W5.heap.size + 1) (.loop { r with state := .exhausted })) := But.put _ _ _
      generalize (W7.putObj (W5.heap.size + 1) (.loop { r with state := .exhausted })) = W8 at *
      have HA8 : Hid (OneBox w1.heap.size av W8) := hab.same (bt8.block _ hab.lt (by omega))
      have HR8 : Hid (W8.ownsRow (bS + 1) 55 4 av (doersTo L L.length).length (opCells (doersTo L L.length))) := owns_far hrow (by omega) bt8
      have HK8 : Hid (Keeps w W8) := But.to hJ.keeps (by omega) bt8
      have HD8 : Hid (W8.heap[W5.heap.size]? = some (.deferred (some []))) := (bt8.block _ (Array.getElem?_eq_some_iff.1 hJ.mark).1 (by omega)).trans hJ.mark
      clear bt8 hJ J0 k56 l6 d6 hz6 hrow hab
      obtain ⟨aa, ac, rfl, _⟩ := (RowAt.of_owns HR8.out).len
      have a0 := HA8.out.1
      have al := HA8.out.lt
      gi_wp2
      refine ⟨by simp, .inl ⟨_, _, rfl, run_takeDeferred (by rw [← hz5]; exact HD8.out), ?_⟩⟩
      have BD := But.put W8 (w1.heap.size + 2) (.deferred none)
      refine ⟨.tuple #[.slice aa (doersTo L L.length).length ac, .int .i64 0], ?_, ?_⟩
      · simp [results, Try.results19, go_sem]
      · rw [H1.out.1, H1.out.2]
        exact ⟨aa, ac, OpsRow.of (owns_far HR8.out (by omega) BD), rfl, But.to HK8.out (by omega) BD⟩
    case yield =>
      intro bS i Wb W1 hi hdn hJb hk hb0 hbS hK0
      have hJ1 := hJb.but (But.of hk)
      refine yield_round hJ1.loop HRS.out HRP.out trivial e1 e2 e3 e4 rfl ?_
      intro rb
      clear e1 e2 e3 e4 hrs hrp hrf HRS HRP J0
      obtain ⟨f1, f2, f3, f4⟩ := hJb.far
      obtain ⟨av, hab, hrow⟩ := hJ1.row
      have hrB := fun k (h : av.ownBlock = some k) => (hrow.lt k h).1
      have hrT : ∀ k, av.ownBlock = some k → k < Wb.heap.size := by
        obtain ⟨av', hab', hrow'⟩ := hJb.row
        have : av = av' := by
          have h1 := hab.1
          rw [cell_kept hab'.1 hk] at h1
          injection h1 with h1
          exact h1.symm
        subst this
        exact fun k h => (hrow'.lt k h).2
      obtain ⟨pa, pc, rfl, _⟩ := (RowAt.of_owns hrow).len
      have HKb : Hid (Keeps Wb W1) := hk
      have HDN : Hid (doersTo L (i + 1) = doersTo L i ++ [L[i]]) := doersTo_some hi hdn
      have HLP : Hid (W1.heap[W5.heap.size + 1]? = some (.loop r)) := hJ1.loop
      have HMK : Hid (W1.heap[W5.heap.size]? = some (.deferred (some []))) := hJ1.mark
      have HKW : Hid (Keeps w W1) := hJ1.keeps
      have HAB : Hid (OneBox w1.heap.size (.slice pa (doersTo L i).length pc) W1) := hab
      have HRW : Hid (W1.ownsRow (bS + 1) 55 4 (.slice pa (doersTo L i).length pc) (doersTo L i).length (opCells (doersTo L i))) := hrow
      have HRB : Hid (∀ k, (Value.slice pa (doersTo L i).length pc).ownBlock = some k → bS + 1 ≤ k) := hrB
      have HRT : Hid (∀ k, (Value.slice pa (doersTo L i).length pc).ownBlock = some k → k < Wb.heap.size) := hrT
      have HZ5 : Hid (W5.heap.size = w1.heap.size + 2 ∧ w.heap.size ≤ w1.heap.size ∧ w1.heap.size < bS ∧ W5.heap.size < bS ∧ W5.heap.size + 1 < bS ∧ bS < Wb.heap.size ∧ Wb.heap.size ≤ W1.heap.size) := ⟨hz5, hw1, f1, f2, f3, hbS, hk.size⟩
      have hln : (doersTo L i).length ≤ 50 := by have := doersTo_len L i; omega
      clear hdn hJ1 hJb hk hz5 hab hrow hrB hrT hw1 f1 f2 f3 f4 hb0 hbS hK0
      generalize hnl : (doersTo L i).length = nl at *
      have HNL : Hid ((doersTo L i).length = nl) := hnl
      clear hnl
      generalize L[i] = e at *
      gi_wp2
      obtain ⟨WA, hWA⟩ : ∃ z, z = W1.alloc (.cells #[.int .i64 e.kind, .int .i64 e.time, .int .i64 e.client, .int .i64 e.seq, .int .i64 e.ack, .int .i64 e.ok, .int .i64 e.okey, .int .i64 e.oto, .int .i64 e.on] 57) := ⟨_, rfl⟩
      have kA : Keeps W1 WA := by rw [hWA]; exact (Keeps.refl _).alloc _
      have TA : EntBox W1.heap.size e WA := by rw [hWA]; exact EntBox.new W1 e 57
      rw [← hWA]
      clear hWA
      refine ⟨(kA.block _ (Array.getElem?_eq_some_iff.1 HLP.out).1).trans HLP.out, ?_⟩
      obtain ⟨x1, x2, x3, x4, x5, x6, x7⟩ := HZ5.out
      have hzA := kA.size
      have bB : But (W5.heap.size + 1) WA (WA.putObj (W5.heap.size + 1) (.loop rb)) := But.put _ _ _
      have lB : (WA.putObj (W5.heap.size + 1) (.loop rb)).heap[W5.heap.size + 1]? = some (.loop rb) := World.putObj_heap_same (by omega)
      generalize (WA.putObj (W5.heap.size + 1) (.loop rb)) = WB at *
      have TB := TA.but bB (by omega)
      have AB : OneBox w1.heap.size (.slice pa nl pc) WB := (HAB.out.same (kA.block _ HAB.out.lt)).same (bB.block _ (by omega) (by omega))
      have RB := owns_far (owns_keep HRW.out kA) (by omega) bB
      have HLOOP : Hid (WB.heap[W5.heap.size + 1]? = some (.loop rb)) := lB
      have HKA : Hid (Keeps W1 WA) := kA
      have HBB : Hid (But (W5.heap.size + 1) WA WB) := bB
      have HAB2 : Hid (OneBox w1.heap.size (.slice pa nl pc) WB) := AB
      have HRB2 : Hid ((WB.alloc (.cells #[.int .i64 e.ok, .int .i64 e.okey, .int .i64 e.oto, .int .i64 e.on] 55)).ownsRow (bS + 1) 55 4 (.slice pa nl pc) nl (opCells (doersTo L i))) := owns_keep RB ((Keeps.refl _).alloc _)
      have c5 := TB.c5
      have c6 := TB.c6
      have c7 := TB.c7
      have c8 := TB.c8
      have cl := TB.lt
      have a0 := AB.1
      have al := AB.lt
      have hszB : bS + 1 ≤ WB.heap.size + 1 := by have := bB.size; omega
      clear TB AB RB lB kA bB TA x1 x2 x3 x4 x5 x6 x7 hzA
      gi_wp2_with (gi_at_builtin; refine app_op _ rfl _ _ rfl (bS + 1) (.slice pa nl pc) nl _ rfl HRB2.out _ e.ok e.okey e.oto e.on rfl (by simp [go_sem]) (by simp [go_sem]) (by simp [go_sem]) (by simp [go_sem]) (by omega) (by simp; omega) ?_; intro v' w3 hown' hg3; obtain ⟨ga, gc, rfl, hw0, hwz⟩ := stands_op HAB2.out HRB2.out hown' hg3 (by have := HZ5.out; omega); have HOWN := (show Hid _ from hown'); have HG3 := (show Hid _ from hg3); clear hown' hg3)
      obtain ⟨x1, x2, x3, x4, x5, x6, x7⟩ := HZ5.out
      have hown := HOWN.out
      have bA : But w1.heap.size w3 (w3.setCell ⟨w1.heap.size, 0, none⟩ (.slice ga (nl + 1) gc)) := (But.refl _ _).set 0 _
      have AE : OneBox w1.heap.size (.slice ga (nl + 1) gc) (w3.setCell ⟨w1.heap.size, 0, none⟩ (.slice ga (nl + 1) gc)) := OneBox.set ⟨hw0, hwz⟩ _
      have RE := owns_far hown (by omega) bA
      have hk1 := HKA.out.size
      have hk2 := HBB.out.size
      have hrow1 : ∀ k, (Value.slice pa nl pc).ownBlock = some k → bS + 1 ≤ k ∧ k < Wb.heap.size := fun k hk => ⟨HRB.out k hk, HRT.out k hk⟩
      have SB : Spares (fun k => k ≠ w1.heap.size ∧ some k ≠ (Value.slice pa nl pc).ownBlock) WB (w3.setCell ⟨w1.heap.size, 0, none⟩ (.slice ga (nl + 1) gc)) :=
        ((Spares.of ((Keeps.refl _).alloc _)).trans (Spares.grown HG3.out (fun b e h => h.2 e.symm))).trans (Spares.but bA (fun h => h.1 rfl))
      generalize (w3.setCell ⟨w1.heap.size, 0, none⟩ (.slice ga (nl + 1) gc)) = WE at *
      have hLE : WE.heap[W5.heap.size + 1]? = some (.loop rb) := (SB.block _ (Array.getElem?_eq_some_iff.1 HLOOP.out).1 ⟨by omega, fun e => by have := (hrow1 _ e.symm).1; omega⟩).trans HLOOP.out
      have hlE := (Array.getElem?_eq_some_iff.1 hLE).1
      have BF : But (W5.heap.size + 1) WE (WE.putObj (W5.heap.size + 1) (.loop r)) := But.put _ _ _
      have hLF : (WE.putObj (W5.heap.size + 1) (.loop r)).heap[W5.heap.size + 1]? = some (.loop r) := World.putObj_heap_same hlE
      refine ⟨hLE, ?_⟩
      generalize (WE.putObj (W5.heap.size + 1) (.loop r)) = WF at *
      have SF : Spares (fun k => k ≠ w1.heap.size ∧ k ≠ W5.heap.size + 1 ∧ some k ≠ (Value.slice pa nl pc).ownBlock) W1 WF :=
        (((Spares.of HKA.out).trans (Spares.but HBB.out (fun h => h.2.1 rfl))).trans (SB.mono (fun k _ h => ⟨h.1, h.2.2⟩))).trans (Spares.but BF (fun h => h.2.1 rfl))
      refine ⟨⟨⟨.slice ga (nl + 1) gc, AE.same (BF.block _ AE.lt (by omega)), ?_⟩, hLF, ?_, ?_, by refine ⟨?_, ?_, ?_, ?_⟩ <;> omega⟩, ?_⟩
      · rw [HDN.out, List.length_append, HNL.out, opCells_append]
        exact owns_far RE (by omega) BF
      · exact (SF.block _ (Array.getElem?_eq_some_iff.1 HMK.out).1 ⟨by omega, by omega, fun e => by have := (hrow1 _ e.symm).1; omega⟩).trans HMK.out
      · exact SF.keeps HKW.out (fun k hk => ⟨by omega, by omega, fun e => by have := (hrow1 _ e.symm).1; omega⟩)
      · exact SF.mono (fun k hk h => ⟨by rcases h with h | h | h <;> omega, by rcases h with h | h | h <;> omega, fun e => by have := hrow1 _ e.symm; rcases h with h | h | h <;> omega⟩)
end Go.Proofs.Yteabfjpajgakiac

/- trace.Once. -/
set_option linter.unusedSimpArgs false
set_option linter.unusedVariables false
set_option maxRecDepth 10000
namespace Go.Proofs.Yteabfjpajgakiac
open Go.RowKit Go.Shelf
attribute [local go_sem] Oper.semAt_some

/-- How many of the first i did an op of that client by that number. -/
def onceTo (L : List Ent) (c q : Int) (i : Nat) : Int := ((doersTo L i).filter (fun e => e.client == c && e.seq == q)).length
theorem onceTo_le (L : List Ent) (c q : Int) (i : Nat) : 0 ≤ onceTo L c q i ∧ onceTo L c q i ≤ i := by
  unfold onceTo
  have h1 := List.length_filter_le (fun e : Ent => e.client == c && e.seq == q) (doersTo L i)
  have h2 := doersTo_len L i
  omega
theorem onceTo_some {L : List Ent} {c q : Int} {i : Nat} (hi : i < L.length) (h : oneDone (atSt L i) (L[i]) = true) : onceTo L c q (i + 1) = onceTo L c q i + if ((L[i]).client == c && (L[i]).seq == q) then 1 else 0 := by
  unfold onceTo
  rw [doersTo_some hi h, List.filter_append]
  cases hh : ((L[i]).client == c && (L[i]).seq == q) with
  | true => simp [List.filter_cons, hh]
  | false => simp [List.filter_cons, hh]
def onceErr (L : List Ent) (c q : Int) : Int := if listErr L == 0 then (if inB c 1 5 && inB q 1 60 then 0 else 3) else listErr L
def onceN (L : List Ent) (c q : Int) : Int := if onceErr L c q == 0 then onceTo L c q L.length else 0

/-- What stands between two rounds of Once's loop. -/
structure OnceAt (L : List Ent) (c q : Int) (w : World) (bc D l : Nat) (r : Loop) (bS i : Nat) (W : World) : Prop where
  count : OneBox bc (.int .i64 (onceTo L c q i)) W
  client : OneBox w.heap.size (.int .i64 c) W
  seq : OneBox (w.heap.size + 1) (.int .i64 q) W
  loop : W.heap[l]? = some (.loop r)
  mark : W.heap[D]? = some (.deferred (some []))
  keeps : Keeps w W
  far : bc < bS ∧ D < bS ∧ l < bS ∧ w.heap.size + 2 ≤ bc

theorem OnceAt.but {L : List Ent} {c q : Int} {w : World} {bc D l : Nat} {r : Loop} {bS i : Nat} {W W' : World} (h : OnceAt L c q w bc D l r bS i W) (hb : But bS W W') : OnceAt L c q w bc D l r bS i W' := by
  obtain ⟨f1, f2, f3, f4⟩ := h.far
  exact ⟨h.count.same (hb.block _ h.count.lt (by omega)), h.client.same (hb.block _ h.client.lt (by omega)), h.seq.same (hb.block _ h.seq.lt (by omega)), (hb.block l (Array.getElem?_eq_some_iff.1 h.loop).1 (by omega)).trans h.loop, (hb.block D (Array.getElem?_eq_some_iff.1 h.mark).1 (by omega)).trans h.mark, But.to h.keeps (by omega) hb, h.far⟩

set_option maxHeartbeats 1000000 in
theorem trace_once (L : List Ent) (c q : Int) (v : Value) (w : World) (hL : EntsAt w v L) :
    Calls Try.prog 25 #[v, .int .i64 c, .int .i64 q] w fun y w' => y = .returned (.tuple #[.int .i64 (onceN L c q), .int .i64 (onceErr L c q)]) ∧ Keeps w w' := by
  obtain ⟨la, lc, rfl, hlen⟩ := hL.len
  unfold maxLen at hlen
  have HL : Hid (EntsAt w (.slice la L.length lc) L) := hL
  have HE : Hid (onceErr L c q = if listErr L == 0 then (if inB c 1 5 && inB q 1 60 then 0 else 3) else listErr L) := rfl
  have HN : Hid (onceN L c q = if onceErr L c q == 0 then onceTo L c q L.length else 0) := rfl
  clear hL
  refine (callsIn_wide (n := 3)).1 ?_
  refine callsIn_of_wp_marks Try.func25 rfl trivial ?_ rfl
  simp only [Try.ntmps25, List.size_toArray, List.length_cons, List.length_nil, Nat.reduceAdd, Nat.reduceSub, Array.replicate_succ, Array.replicate_zero, List.push_toArray, List.append_toArray, List.nil_append, List.cons_append]
  gi_wp2
  obtain ⟨W0, hW0⟩ : ∃ z, z = (w.alloc (.cells #[.int .i64 c] 3)).alloc (.cells #[.int .i64 q] 3) := ⟨_, rfl⟩
  have k0 : Keeps w W0 := by rw [hW0]; exact ((Keeps.refl _).alloc _).alloc _
  have C0 : OneBox w.heap.size (.int .i64 c) W0 := by rw [hW0]; exact ⟨by simp [go_sem], fun i => by simp [go_sem]⟩
  have Q0 : OneBox (w.heap.size + 1) (.int .i64 q) W0 := by rw [hW0]; exact ⟨by simp [go_sem], fun i => by simp [go_sem]⟩
  rw [← hW0]
  clear hW0
  refine ⟨trivial, CallsIn.mono (callsIn_wide.2 (fold_check L _ W0 (HL.out.keep k0))) ?_⟩
  rintro y w1 ⟨rfl, hb⟩
  have HK1 : Hid (Keeps w w1) := k0.trans hb
  have HC1 : Hid (OneBox w.heap.size (.int .i64 c) w1) := C0.same (hb.block _ C0.lt)
  have HQ1 : Hid (OneBox (w.heap.size + 1) (.int .i64 q) w1) := Q0.same (hb.block _ Q0.lt)
  clear hb k0 C0 Q0
  clear W0
  have c0 := HC1.out.1
  have cl := HC1.out.lt
  have q0 := HQ1.out.1
  have ql := HQ1.out.lt
  cases q1 : (listErr L == 0) with
  | false =>
    have q' : (listErr L != 0) = true := by simp [bne, q1]
    have H1 : Hid (onceErr L c q = listErr L ∧ onceN L c q = 0) := by
      have h1 : onceErr L c q = listErr L := by rw [HE.out, q1]; rfl
      exact ⟨h1, by rw [HN.out, h1, q1]; rfl⟩
    gi_wp2
    refine ⟨.tuple #[.int .i64 0, .int .i64 (listErr L)], ?_, ?_⟩
    · simp [results, Try.results25, go_sem]
    · rw [H1.out.1, H1.out.2]
      exact ⟨rfl, HK1.out⟩
  | true =>
    have q' : (listErr L != 0) = false := by simp [bne, q1]
    have qz : listErr L = 0 := by simpa using q1
    obtain ⟨hE, h50⟩ := list_right qz
    have HER : Hid (∀ e ∈ L, entErr e = 0) := hE
    clear hE qz
    cases qc : (inB c 1 5 && inB q 1 60) with
    | false =>
      have H1 : Hid (onceErr L c q = 3 ∧ onceN L c q = 0) := by
        have h1 : onceErr L c q = 3 := by rw [HE.out, q1, qc]; rfl
        exact ⟨h1, by rw [HN.out, h1]; rfl⟩
      cases qcc : inB c 1 5 with
      | false =>
        gi_wp2
        refine ⟨trivial, CallsIn.mono (callsIn_wide.2 (bound_in c 1 5 w1)) ?_⟩
        rintro y w2 ⟨rfl, rfl⟩
        rw [qcc]
        gi_wp2
        refine ⟨trivial, ?_⟩
        go_at_K
        gi_wp2
        refine ⟨.tuple #[.int .i64 0, .int .i64 3], ?_, ?_⟩
        · simp [results, Try.results25, go_sem]
        · rw [H1.out.1, H1.out.2]
          exact ⟨rfl, HK1.out⟩
      | true =>
        have qqq : inB q 1 60 = false := by rw [qcc] at qc; simpa using qc
        gi_wp2
        refine ⟨trivial, CallsIn.mono (callsIn_wide.2 (bound_in c 1 5 w1)) ?_⟩
        rintro y w2 ⟨rfl, rfl⟩
        rw [qcc]
        gi_wp2
        refine ⟨trivial, CallsIn.mono (callsIn_wide.2 (bound_in q 1 60 w1)) ?_⟩
        rintro y w2 ⟨rfl, rfl⟩
        rw [qqq]
        gi_wp2
        refine ⟨.tuple #[.int .i64 0, .int .i64 3], ?_, ?_⟩
        · simp [results, Try.results25, go_sem]
        · rw [H1.out.1, H1.out.2]
          exact ⟨rfl, HK1.out⟩
    | true =>
      have H1 : Hid (onceErr L c q = 0 ∧ onceN L c q = onceTo L c q L.length) := by
        have h1 : onceErr L c q = 0 := by rw [HE.out, q1, qc]; rfl
        exact ⟨h1, by rw [HN.out, h1]; rfl⟩
      have qcc : inB c 1 5 = true := by simp only [Bool.and_eq_true] at qc; exact qc.1
      have qqq : inB q 1 60 = true := by simp only [Bool.and_eq_true] at qc; exact qc.2
      clear qc
      gi_wp2
      refine ⟨trivial, CallsIn.mono (callsIn_wide.2 (bound_in c 1 5 w1)) ?_⟩
      rintro y w2 ⟨rfl, rfl⟩
      rw [qcc]
      gi_wp2
      refine ⟨trivial, CallsIn.mono (callsIn_wide.2 (bound_in q 1 60 w1)) ?_⟩
      rintro y w2 ⟨rfl, rfl⟩
      rw [qqq]
      gi_wp2
      clear c0 cl q0 ql qcc qqq
      obtain ⟨W4, hW4⟩ : ∃ z, z = w1.alloc (.cells #[.int .i64 0] 3) := ⟨_, rfl⟩
      have hz4 : W4.heap.size = w1.heap.size + 1 := by rw [hW4]; simp
      have k14 : Keeps w1 W4 := by rw [hW4]; exact (Keeps.refl _).alloc _
      have A4 : OneBox w1.heap.size (.int .i64 0) W4 := by rw [hW4]; exact ⟨by simp [go_sem], fun i => by simp [go_sem]⟩
      rw [← hW4]
      clear hW4
      refine ⟨trivial, CallsIn.mono (callsIn_wide.2 (doers_made la L.length lc W4)) ?_⟩
      rintro y W5 ⟨rfl, hW5⟩
      have hz5 : W5.heap.size = w1.heap.size + 2 := by rw [hW5]; simp [hz4]
      have k45 : Keeps W4 W5 := by rw [hW5]; exact (Keeps.refl _).alloc _
      have L5 : W5.cell? ⟨w1.heap.size + 1, 0, none⟩ = some (.slice la L.length lc) := by rw [hW5]; simp [go_sem, hz4]
      rw [hz4]
      have HA5 : Hid (OneBox w1.heap.size (.int .i64 0) W5) := A4.same (k45.block _ A4.lt)
      have HC5 : Hid (OneBox w.heap.size (.int .i64 c) W5) := HC1.out.same ((k14.trans k45).block _ HC1.out.lt)
      have HQ5 : Hid (OneBox (w.heap.size + 1) (.int .i64 q) W5) := HQ1.out.same ((k14.trans k45).block _ HQ1.out.lt)
      have HK5 : Hid (Keeps w W5) := HK1.out.trans (k14.trans k45)
      have HE5 : Hid (W5.cell? ⟨w1.heap.size + 1, 0, none⟩ = some (.slice la L.length lc)) := L5
      have hw1 : w.heap.size + 2 ≤ w1.heap.size := by have := HQ1.out.lt; omega
      clear A4 L5 k14 k45 hW5 hz4 HC1 HQ1
      clear W4
      gi_wp2
      refine range_walk rfl (by decide) (gf := 62) (lb := #[.pointer (some ⟨w1.heap.size + 1, 0, none⟩)]) rfl trivial (enters_of Try.func62 (by kernel_rfl) rfl) ?_
      intro r hrf hrs hrp e1 e2 e3 e4
      have HRS : Hid (r.state = .ready) := hrs
      have HRP : Hid (r.pending = none) := hrp
      have k56 : Keeps W5 ((W5.alloc (.deferred (some []))).alloc (.loop r)) := ((Keeps.refl _).alloc _).alloc _
      have l6 : ((W5.alloc (.deferred (some []))).alloc (.loop r)).heap[W5.heap.size + 1]? = some (.loop r) := by
        have := World.alloc_heap_new (W5.alloc (.deferred (some []))) (.loop r)
        rwa [World.size_alloc] at this
      have d6 : ((W5.alloc (.deferred (some []))).alloc (.loop r)).heap[W5.heap.size]? = some (.deferred (some [])) := (Below.heap_alloc _ _ _ (by simp)).trans (World.alloc_heap_new W5 _)
      have hz6 : ((W5.alloc (.deferred (some []))).alloc (.loop r)).heap.size = W5.heap.size + 2 := by simp
      generalize ((W5.alloc (.deferred (some []))).alloc (.loop r)) = W6 at *
      have J0 : ∀ V bS, Keeps W6 V → W6.heap.size ≤ bS → OnceAt L c q w w1.heap.size W5.heap.size (W5.heap.size + 1) r bS 0 V := by
        intro V bS hk hbS
        have kV := k56.trans hk
        have hzV := hk.size
        exact ⟨HA5.out.same (kV.block _ HA5.out.lt), HC5.out.same (kV.block _ HC5.out.lt), HQ5.out.same (kV.block _ HQ5.out.lt), (hk.block _ (by omega)).trans l6, (hk.block _ (by omega)).trans d6, HK5.out.trans kV, by refine ⟨?_, ?_, ?_, ?_⟩ <;> omega⟩
      refine CallsIn.mono (doers_in 2 (W5.heap.size + 1) (w1.heap.size + 1) L la lc HER.out h50 w HL.out (OnceAt L c q w w1.heap.size W5.heap.size (W5.heap.size + 1) r) (fun bS i W W' h hb => h.but hb) (fun bS i W hi hdn h => ⟨by have := h.count; unfold onceTo at *; rw [doersTo_none hi hdn]; exact this, h.client, h.seq, h.loop, h.mark, h.keeps, h.far⟩) ?yield W6 (HK5.out.trans k56) (cell_kept HE5.out k56) J0) ?done
      case done =>
        rintro e W7 ⟨hv, bS, hJ⟩
        refine ⟨hv, hJ.loop, ?_⟩
        have bt8 : But (W5.heap.size + 1) W7 (W7.putObj (W5.heap.size + 1) (.loop { r with state := .exhausted })) := But.put _ _ _
        generalize (W7.putObj (W5.heap.size + 1) (.loop { r with state := .exhausted })) = W8 at *
        have HA8 : Hid (OneBox w1.heap.size (.int .i64 (onceTo L c q L.length)) W8) := hJ.count.same (bt8.block _ hJ.count.lt (by omega))
        have HK8 : Hid (Keeps w W8) := But.to hJ.keeps (by omega) bt8
        have HD8 : Hid (W8.heap[W5.heap.size]? = some (.deferred (some []))) := (bt8.block _ (Array.getElem?_eq_some_iff.1 hJ.mark).1 (by omega)).trans hJ.mark
        clear bt8 hJ J0 k56 l6 d6 hz6
        have a0 := HA8.out.1
        have al := HA8.out.lt
        gi_wp2
        refine ⟨by simp, .inl ⟨_, _, rfl, run_takeDeferred (by rw [← hz5]; exact HD8.out), ?_⟩⟩
        have BD := But.put W8 (w1.heap.size + 2) (.deferred none)
        refine ⟨.tuple #[.int .i64 (onceTo L c q L.length), .int .i64 0], ?_, ?_⟩
        · simp [results, Try.results25, go_sem]
        · rw [H1.out.1, H1.out.2]
          exact ⟨rfl, But.to HK8.out (by omega) BD⟩
      case yield =>
        intro bS i Wb W1 hi hdn hJb hk hb0 hbS hK0
        have hJ1 := hJb.but (But.of hk)
        refine yield_round hJ1.loop HRS.out HRP.out trivial e1 e2 e3 e4 rfl ?_
        intro rb
        clear e1 e2 e3 e4 hrs hrp hrf HRS HRP J0
        have hcb := onceTo_le L c q i
        have HJ1 := (show Hid _ from hJ1)
        have HFR := (show Hid _ from hJb.far)
        have HCT : Hid (OneBox w1.heap.size (.int .i64 (onceTo L c q i)) W1) := hJ1.count
        have HKb : Hid (Keeps Wb W1) := hk
        have HDN : Hid (onceTo L c q (i + 1) = onceTo L c q i + if ((L[i]).client == c && (L[i]).seq == q) then 1 else 0) := onceTo_some hi hdn
        have HZ5 : Hid (W5.heap.size = w1.heap.size + 2 ∧ w.heap.size + 2 ≤ w1.heap.size ∧ bS < Wb.heap.size ∧ Wb.heap.size ≤ W1.heap.size) := ⟨hz5, hw1, hbS, hk.size⟩
        clear hdn hJ1 hJb hk hz5 hw1 hb0 hbS hK0
        generalize hoc : onceTo L c q i = oc at *
        clear hoc
        generalize L[i] = e at *
        gi_wp2
        obtain ⟨WA, hWA⟩ : ∃ z, z = W1.alloc (.cells #[.int .i64 e.kind, .int .i64 e.time, .int .i64 e.client, .int .i64 e.seq, .int .i64 e.ack, .int .i64 e.ok, .int .i64 e.okey, .int .i64 e.oto, .int .i64 e.on] 57) := ⟨_, rfl⟩
        have kA : Keeps W1 WA := by rw [hWA]; exact (Keeps.refl _).alloc _
        have TA : EntBox W1.heap.size e WA := by rw [hWA]; exact EntBox.new W1 e 57
        rw [← hWA]
        clear hWA
        refine ⟨(kA.block _ (Array.getElem?_eq_some_iff.1 HJ1.out.loop).1).trans HJ1.out.loop, ?_⟩
        obtain ⟨x1, x2, x3, x4⟩ := HZ5.out
        obtain ⟨y1, y2, y3, y4⟩ := HFR.out
        have hzA := kA.size
        have bB : But (W5.heap.size + 1) WA (WA.putObj (W5.heap.size + 1) (.loop rb)) := But.put _ _ _
        have lB : (WA.putObj (W5.heap.size + 1) (.loop rb)).heap[W5.heap.size + 1]? = some (.loop rb) := World.putObj_heap_same (by omega)
        generalize (WA.putObj (W5.heap.size + 1) (.loop rb)) = WB at *
        have TB := TA.but bB (by omega)
        have CB : OneBox w1.heap.size (.int .i64 oc) WB := (HCT.out.same (kA.block _ HCT.out.lt)).same (bB.block _ (by omega) (by omega))
        have LB : OneBox w.heap.size (.int .i64 c) WB := (HJ1.out.client.same (kA.block _ HJ1.out.client.lt)).same (bB.block _ (by omega) (by omega))
        have QB : OneBox (w.heap.size + 1) (.int .i64 q) WB := (HJ1.out.seq.same (kA.block _ HJ1.out.seq.lt)).same (bB.block _ (by omega) (by omega))
        have HLOOP : Hid (WB.heap[W5.heap.size + 1]? = some (.loop rb)) := lB
        have HKA : Hid (Keeps W1 WA) := kA
        have HBB : Hid (But (W5.heap.size + 1) WA WB) := bB
        have HCB : Hid (OneBox w1.heap.size (.int .i64 oc) WB) := CB
        have c2 := TB.c2
        have c3 := TB.c3
        have cl := TB.lt
        have a0 := CB.1
        have az := CB.2
        have al := CB.lt
        have l0 := LB.1
        have ll := LB.lt
        have s0 := QB.1
        have sl := QB.lt
        clear TB CB LB QB lB kA bB TA x1 x2 x3 x4 y1 y2 y3 y4 hzA
        cases qe : (e.client == c && e.seq == q) with
        | true =>
          simp only [Bool.and_eq_true] at qe
          obtain ⟨qe1, qe2⟩ := qe
          have HD2 : Hid (onceTo L c q (i + 1) = oc + 1) := by show _ = _; rw [HDN.out, qe1, qe2]; rfl
          gi_wp2
          have hz := HZ5.out
          have hf := HFR.out
          have bA : But w1.heap.size WB (WB.setCell ⟨w1.heap.size, 0, none⟩ (.int .i64 (oc + 1))) := (But.refl _ _).set 0 _
          have AE : OneBox w1.heap.size (.int .i64 (oc + 1)) (WB.setCell ⟨w1.heap.size, 0, none⟩ (.int .i64 (oc + 1))) := OneBox.set HCB.out _
          generalize (WB.setCell ⟨w1.heap.size, 0, none⟩ (.int .i64 (oc + 1))) = WE at *
          have hLE : WE.heap[W5.heap.size + 1]? = some (.loop rb) := (bA.block _ (Array.getElem?_eq_some_iff.1 HLOOP.out).1 (by omega)).trans HLOOP.out
          have hlE := (Array.getElem?_eq_some_iff.1 hLE).1
          have BF : But (W5.heap.size + 1) WE (WE.putObj (W5.heap.size + 1) (.loop r)) := But.put _ _ _
          have hLF : (WE.putObj (W5.heap.size + 1) (.loop r)).heap[W5.heap.size + 1]? = some (.loop r) := World.putObj_heap_same hlE
          refine ⟨hLE, ?_⟩
          generalize (WE.putObj (W5.heap.size + 1) (.loop r)) = WF at *
          have SF : Spares (fun k => k ≠ w1.heap.size ∧ k ≠ W5.heap.size + 1) W1 WF := (((Spares.of HKA.out).trans (Spares.but HBB.out (fun h => h.2 rfl))).trans (Spares.but bA (fun h => h.1 rfl))).trans (Spares.but BF (fun h => h.2 rfl))
          have hJ := HJ1.out
          refine ⟨⟨by rw [HD2.out]; exact AE.same (BF.block _ AE.lt (by omega)), hJ.client.same (SF.block _ hJ.client.lt ⟨by omega, by omega⟩), hJ.seq.same (SF.block _ hJ.seq.lt ⟨by omega, by omega⟩), hLF, (SF.block _ (Array.getElem?_eq_some_iff.1 hJ.mark).1 ⟨by omega, by omega⟩).trans hJ.mark, SF.keeps hJ.keeps (fun k hk => ⟨by omega, by omega⟩), HFR.out⟩, ?_⟩
          exact SF.mono (fun k hk h => ⟨by rcases h with h | h | h <;> omega, by rcases h with h | h | h <;> omega⟩)
        | false =>
          have HD2 : Hid (onceTo L c q (i + 1) = oc) := by show _ = _; rw [HDN.out, qe]; simp
          cases qe1 : (e.client == c) with
          | false =>
            gi_wp2
            have hz := HZ5.out
            have hf := HFR.out
            have bA : But w1.heap.size WB WB := But.refl _ _
            have AE := HCB.out
            obtain ⟨WE, hWE⟩ : ∃ z, z = WB := ⟨_, rfl⟩
            have bA : But w1.heap.size WB WE := by rw [hWE]; exact But.refl _ _
            rw [← hWE] at AE ⊢
            clear hWE
            have hLE : WE.heap[W5.heap.size + 1]? = some (.loop rb) := (bA.block _ (Array.getElem?_eq_some_iff.1 HLOOP.out).1 (by omega)).trans HLOOP.out
            have hlE := (Array.getElem?_eq_some_iff.1 hLE).1
            have BF : But (W5.heap.size + 1) WE (WE.putObj (W5.heap.size + 1) (.loop r)) := But.put _ _ _
            have hLF : (WE.putObj (W5.heap.size + 1) (.loop r)).heap[W5.heap.size + 1]? = some (.loop r) := World.putObj_heap_same hlE
            refine ⟨hLE, ?_⟩
            generalize (WE.putObj (W5.heap.size + 1) (.loop r)) = WF at *
            have SF : Spares (fun k => k ≠ w1.heap.size ∧ k ≠ W5.heap.size + 1) W1 WF := (((Spares.of HKA.out).trans (Spares.but HBB.out (fun h => h.2 rfl))).trans (Spares.but bA (fun h => h.1 rfl))).trans (Spares.but BF (fun h => h.2 rfl))
            have hJ := HJ1.out
            refine ⟨⟨by rw [HD2.out]; exact AE.same (BF.block _ AE.lt (by omega)), hJ.client.same (SF.block _ hJ.client.lt ⟨by omega, by omega⟩), hJ.seq.same (SF.block _ hJ.seq.lt ⟨by omega, by omega⟩), hLF, (SF.block _ (Array.getElem?_eq_some_iff.1 hJ.mark).1 ⟨by omega, by omega⟩).trans hJ.mark, SF.keeps hJ.keeps (fun k hk => ⟨by omega, by omega⟩), HFR.out⟩, ?_⟩
            exact SF.mono (fun k hk h => ⟨by rcases h with h | h | h <;> omega, by rcases h with h | h | h <;> omega⟩)
          | true =>
            have qe2 : (e.seq == q) = false := by rw [qe1] at qe; simpa using qe
            gi_wp2
            have hz := HZ5.out
            have hf := HFR.out
            have AE := HCB.out
            obtain ⟨WE, hWE⟩ : ∃ z, z = WB := ⟨_, rfl⟩
            have bA : But w1.heap.size WB WE := by rw [hWE]; exact But.refl _ _
            rw [← hWE] at AE ⊢
            clear hWE
            have hLE : WE.heap[W5.heap.size + 1]? = some (.loop rb) := (bA.block _ (Array.getElem?_eq_some_iff.1 HLOOP.out).1 (by omega)).trans HLOOP.out
            have hlE := (Array.getElem?_eq_some_iff.1 hLE).1
            have BF : But (W5.heap.size + 1) WE (WE.putObj (W5.heap.size + 1) (.loop r)) := But.put _ _ _
            have hLF : (WE.putObj (W5.heap.size + 1) (.loop r)).heap[W5.heap.size + 1]? = some (.loop r) := World.putObj_heap_same hlE
            refine ⟨hLE, ?_⟩
            generalize (WE.putObj (W5.heap.size + 1) (.loop r)) = WF at *
            have SF : Spares (fun k => k ≠ w1.heap.size ∧ k ≠ W5.heap.size + 1) W1 WF := (((Spares.of HKA.out).trans (Spares.but HBB.out (fun h => h.2 rfl))).trans (Spares.but bA (fun h => h.1 rfl))).trans (Spares.but BF (fun h => h.2 rfl))
            have hJ := HJ1.out
            refine ⟨⟨by rw [HD2.out]; exact AE.same (BF.block _ AE.lt (by omega)), hJ.client.same (SF.block _ hJ.client.lt ⟨by omega, by omega⟩), hJ.seq.same (SF.block _ hJ.seq.lt ⟨by omega, by omega⟩), hLF, (SF.block _ (Array.getElem?_eq_some_iff.1 hJ.mark).1 ⟨by omega, by omega⟩).trans hJ.mark, SF.keeps hJ.keeps (fun k hk => ⟨by omega, by omega⟩), HFR.out⟩, ?_⟩
            exact SF.mono (fun k hk h => ⟨by rcases h with h | h | h <;> omega, by rcases h with h | h | h <;> omega⟩)
end Go.Proofs.Yteabfjpajgakiac

/- SameBools, SameOps, traceBegun. -/
set_option linter.unusedSimpArgs false
set_option linter.unusedVariables false
set_option maxRecDepth 10000
namespace Go.Proofs.Yteabfjpajgakiac
open Go.RowKit

def sameBools : List Bool → List Bool → Bool
  | [], [] => true
  | a :: r, b :: r' => (a == b) && sameBools r r'
  | _, _ => false
theorem sameBools_len : ∀ {l m : List Bool}, l.length ≠ m.length → sameBools l m = false
  | [], [], h => absurd rfl h
  | [], _ :: _, _ => rfl
  | _ :: _, [], _ => rfl
  | a :: r, b :: r', h => by
    have := sameBools_len (l := r) (m := r') (by simpa using h)
    simp only [sameBools, this, Bool.and_false]
theorem sameBools_self : ∀ (l : List Bool), sameBools l l = true
  | [] => rfl
  | a :: r => by simp [sameBools, sameBools_self r]
theorem sameBools_at {l m : List Bool} {k : Nat} (hl : k < l.length) (hm : k < m.length) : sameBools (l.drop k) (m.drop k) = ((fun (a b : Bool) => (a == b)) l[k] m[k] && sameBools (l.drop (k + 1)) (m.drop (k + 1))) := by
  rw [List.drop_eq_getElem_cons hl, List.drop_eq_getElem_cons hm]
  rfl

set_option maxHeartbeats 2000000 in
theorem sameBools_c (l m : List Bool) (x y : Value) (w : World) (hx : BoolsAt w x l) (hy : BoolsAt w y m) : Calls Try.prog 23 #[x, y] w fun e w' => e = .returned (.bool (sameBools l m)) ∧ Keeps w w' := by
  obtain ⟨xa, xc, rfl, hlen⟩ := RowAt.len hx
  obtain ⟨ya, yc, rfl, hlem⟩ := RowAt.len hy
  unfold maxLen at hlen hlem
  have HX : Hid (BoolsAt w (.slice xa l.length xc) l) := hx
  have HY : Hid (BoolsAt w (.slice ya m.length yc) m) := hy
  clear hx hy
  by_cases hll : l.length = m.length
  · rw [← hll] at HY ⊢
    have HLL : Hid (l.length = m.length) := hll
    clear hll hlem
    go_enter Try.func23, Try.ntmps23
    go_wp2_with fail
    go_loopw [5] (fun i wr => ∃ (k : Nat), k ≤ l.length ∧ i = .int .i64 k ∧ Hid (Keeps w wr) ∧ Hid (sameBools l m = sameBools (l.drop k) (m.drop k))) (fun i _ => l.length - (intOf i).toNat)
    case atStart => exact ⟨0, Nat.zero_le _, rfl, Keeps.refl _, rfl⟩
    case round =>
      obtain ⟨k, hk, rfl, HK, HQ⟩ := hrel
      by_cases hlt : k < l.length
      · have hlt2 : k < m.length := by have := HLL.out; omega
        obtain ⟨b1, o1, p1, hv1, c1⟩ := (HX.out.keep HK.out).at hlt
        obtain ⟨b2, o2, p2, hv2, d1⟩ := (HY.out.keep HK.out).at hlt2
        injection hv1 with hv1 ea eb
        injection hv2 with hv2 ec ed
        subst hv1 hv2
        clear ea eb ec ed
        have HR : Hid (sameBools l m = ((fun (a b : Bool) => (a == b)) l[k] m[k] && sameBools (l.drop (k + 1)) (m.drop (k + 1)))) := HQ.out.trans (sameBools_at hlt hlt2)
        clear HQ
        generalize l[k] = a at *
        generalize m[k] = b at *
        clear hlt2
        cases hq : ((a == b)) with
        | true =>
          have hq' : (a != b) = false := by simp only [bne, hq, Bool.not_true, Bool.not_false]
          have HN : Hid (sameBools l m = sameBools (l.drop (k + 1)) (m.drop (k + 1))) := by show _ = _; rw [HR.out]; simp only [hq, Bool.true_and]
          go_wp2_with fail
          go_quiet (fail)
          go_wp2_with fail
          go_roundw
          case rel => exact ⟨k + 1, by omega, by go_num, HK.out.drewN _, HN⟩
          case measure => simp [intOf]; omega
        | false =>
          have hq' : (a != b) = true := by simp only [bne, hq, Bool.not_true, Bool.not_false]
          have HN : Hid (sameBools l m = false) := by show _ = _; rw [HR.out]; simp only [hq, Bool.false_and]
          go_wp2_with fail
          go_quiet (fail)
          go_wp2_with fail
          go_ret
          rw [HN.out]
          exact ⟨rfl, HK.out.drewN _⟩
      · have HN : Hid (sameBools l m = true) := by show _ = _; rw [HQ.out, List.drop_of_length_le (by omega), List.drop_of_length_le (by have := HLL.out; omega)]; rfl
        go_wp2_with fail
        go_ret
        rw [HN.out]
        exact ⟨rfl, HK.out⟩
  · have HN : Hid (sameBools l m = false) := sameBools_len hll
    go_enter Try.func23, Try.ntmps23
    go_wp2_with fail
    go_ret
    rw [HN.out]
    exact ⟨rfl, Keeps.refl _⟩

def sameOps : List Ent → List Ent → Bool
  | [], [] => true
  | a :: r, b :: r' => (a.ok == b.ok && (a.okey == b.okey && (a.oto == b.oto && a.on == b.on))) && sameOps r r'
  | _, _ => false
theorem sameOps_len : ∀ {l m : List Ent}, l.length ≠ m.length → sameOps l m = false
  | [], [], h => absurd rfl h
  | [], _ :: _, _ => rfl
  | _ :: _, [], _ => rfl
  | a :: r, b :: r', h => by
    have := sameOps_len (l := r) (m := r') (by simpa using h)
    simp only [sameOps, this, Bool.and_false]
theorem sameOps_self : ∀ (l : List Ent), sameOps l l = true
  | [] => rfl
  | a :: r => by simp [sameOps, sameOps_self r]
theorem sameOps_at {l m : List Ent} {k : Nat} (hl : k < l.length) (hm : k < m.length) : sameOps (l.drop k) (m.drop k) = ((fun (a b : Ent) => (a.ok == b.ok && (a.okey == b.okey && (a.oto == b.oto && a.on == b.on)))) l[k] m[k] && sameOps (l.drop (k + 1)) (m.drop (k + 1))) := by
  rw [List.drop_eq_getElem_cons hl, List.drop_eq_getElem_cons hm]
  rfl

set_option maxHeartbeats 2000000 in
theorem sameOps_c (l m : List Ent) (x y : Value) (w : World) (hx : OpsRow w x l) (hy : OpsRow w y m) : Calls Try.prog 24 #[x, y] w fun e w' => e = .returned (.bool (sameOps l m)) ∧ Keeps w w' := by
  obtain ⟨xa, xc, rfl, hlen⟩ := RowAt.len hx
  obtain ⟨ya, yc, rfl, hlem⟩ := RowAt.len hy
  unfold maxLen at hlen hlem
  have HX : Hid (OpsRow w (.slice xa l.length xc) l) := hx
  have HY : Hid (OpsRow w (.slice ya m.length yc) m) := hy
  clear hx hy
  by_cases hll : l.length = m.length
  · rw [← hll] at HY ⊢
    have HLL : Hid (l.length = m.length) := hll
    clear hll hlem
    go_enter Try.func24, Try.ntmps24
    go_wp2_with fail
    go_loopw [5] (fun i wr => ∃ (k : Nat), k ≤ l.length ∧ i = .int .i64 k ∧ Hid (Keeps w wr) ∧ Hid (sameOps l m = sameOps (l.drop k) (m.drop k))) (fun i _ => l.length - (intOf i).toNat)
    case atStart => exact ⟨0, Nat.zero_le _, rfl, Keeps.refl _, rfl⟩
    case round =>
      obtain ⟨k, hk, rfl, HK, HQ⟩ := hrel
      by_cases hlt : k < l.length
      · have hlt2 : k < m.length := by have := HLL.out; omega
        obtain ⟨b1, o1, p1, hv1, c0, c1, c2, c3⟩ := (HX.out.keep HK.out).at hlt
        obtain ⟨b2, o2, p2, hv2, d0, d1, d2, d3⟩ := (HY.out.keep HK.out).at hlt2
        injection hv1 with hv1 ea eb
        injection hv2 with hv2 ec ed
        subst hv1 hv2
        clear ea eb ec ed
        have HR : Hid (sameOps l m = ((fun (a b : Ent) => (a.ok == b.ok && (a.okey == b.okey && (a.oto == b.oto && a.on == b.on)))) l[k] m[k] && sameOps (l.drop (k + 1)) (m.drop (k + 1)))) := HQ.out.trans (sameOps_at hlt hlt2)
        clear HQ
        generalize l[k] = a at *
        generalize m[k] = b at *
        clear hlt2
        cases hq : ((a.ok == b.ok && (a.okey == b.okey && (a.oto == b.oto && a.on == b.on)))) with
        | true =>
          have hq' : (!(a.ok == b.ok && (a.okey == b.okey && (a.oto == b.oto && a.on == b.on)))) = false := by rw [hq]; rfl
          have hn := neqop
          have HN : Hid (sameOps l m = sameOps (l.drop (k + 1)) (m.drop (k + 1))) := by show _ = _; rw [HR.out]; simp only [hq, Bool.true_and]
          go_wp2_with fail
          go_quiet (fail)
          go_wp2_with fail
          go_roundw
          case rel => exact ⟨k + 1, by omega, by go_num, HK.out.drewN _, HN⟩
          case measure => simp [intOf]; omega
        | false =>
          have hq' : (!(a.ok == b.ok && (a.okey == b.okey && (a.oto == b.oto && a.on == b.on)))) = true := by rw [hq]; rfl
          have hn := neqop
          have HN : Hid (sameOps l m = false) := by show _ = _; rw [HR.out]; simp only [hq, Bool.false_and]
          go_wp2_with fail
          go_quiet (fail)
          go_wp2_with fail
          go_ret
          rw [HN.out]
          exact ⟨rfl, HK.out.drewN _⟩
      · have HN : Hid (sameOps l m = true) := by show _ = _; rw [HQ.out, List.drop_of_length_le (by omega), List.drop_of_length_le (by have := HLL.out; omega)]; rfl
        go_wp2_with fail
        go_ret
        rw [HN.out]
        exact ⟨rfl, HK.out⟩
  · have HN : Hid (sameOps l m = false) := sameOps_len hll
    go_enter Try.func24, Try.ntmps24
    go_wp2_with fail
    go_ret
    rw [HN.out]
    exact ⟨rfl, Keeps.refl _⟩

theorem BoolsAt.new (w : World) (l : List Bool) (hl : l.length ≤ 1000) (c : Nat) : BoolsAt (w.alloc (.cells (boolCells l).toArray 4)) (.slice (some ⟨w.heap.size, 0, none⟩) l.length c) l := by
  refine ⟨by simp [boolCells], by unfold maxLen; omega, .inr ⟨_, _, rfl, fun j u hu => ?_⟩⟩
  rw [Addr.add_lit, Nat.zero_add]
  unfold World.cell?
  rw [World.alloc_heap_new]
  simpa using hu
theorem OpsRow.new (w : World) (l : List Ent) (hl : l.length ≤ 1000) (c : Nat) : OpsRow (w.alloc (.cells (opCells l).toArray 55)) (.slice (some ⟨w.heap.size, 0, none⟩) l.length c) l := by
  refine ⟨opCells_len l, by unfold maxLen; omega, .inr ⟨_, _, rfl, fun j u hu => ?_⟩⟩
  rw [Addr.add_lit, Nat.zero_add]
  unfold World.cell?
  rw [World.alloc_heap_new]
  simpa using hu
def someOps : List Ent := [⟨2, 2, 1, 1, 0, 2, 0, 0, 5⟩, ⟨2, 5, 1, 2, 1, 3, 0, 1, 2⟩, ⟨2, 42, 1, 1, 0, 2, 0, 0, 9⟩]
def someDone : List Bool := [false, true, false, false, false, true, false, false, false, true]
theorem trace_runs : listErr someL = 0 ∧ doneL someL = someDone ∧ sameOps (doersL someL) someOps = true ∧ (doersL someL).length = 3 ∧ onceErr someL 1 1 = 0 ∧ onceN someL 1 1 = 2 ∧ onceErr someL 2 1 = 0 ∧ onceN someL 2 1 = 0 ∧ onceErr someL 6 1 = 3 ∧ onceN someL 6 1 = 0 := by decide +kernel

set_option maxHeartbeats 4000000 in
theorem trace_begun (w : World) : Calls Try.prog 22 #[] w fun y w' => y = .returned (.bool true) ∧ Keeps w w' := by
  have HR := (show Hid _ from trace_runs)
  go_enter Try.func22, Try.ntmps22
  go_wp2_with fail
  refine (some_c _).mono ?_
  rintro y w1 ⟨v1, h1, rfl, hb⟩
  have k1 : Keeps w w1 := hb
  clear hb
  go_wp2_with fail
  refine (trace_done someL v1 w1 h1).mono ?_
  rintro y w2 ⟨da, dc, hD, rfl, hb⟩
  rw [HR.out.2.1] at hD ⊢
  rw [HR.out.1]
  have HD : Hid (BoolsAt w2 (.slice da someDone.length dc) someDone) := hD
  have k2 : Keeps w w2 := k1.trans hb
  clear hb hD h1 k1
  go_wp2_with fail
  refine (some_c _).mono ?_
  rintro y w3 ⟨v3, h3, rfl, hb⟩
  have k3 : Keeps w2 w3 := hb
  clear hb
  go_wp2_with fail
  refine (trace_ops someL v3 w3 h3).mono ?_
  rintro y w4 ⟨oa, oc, hO, rfl, hb⟩
  rw [HR.out.1]
  have HO : Hid (OpsRow w4 (.slice oa (doersL someL).length oc) (doersL someL)) := hO
  have hol : (doersL someL).length = 3 := HR.out.2.2.2.1
  rw [hol] at HO ⊢
  have k4 : Keeps w2 w4 := k3.trans hb
  clear hb hO h3 k3 hol
  go_wp2_with fail
  refine (some_c _).mono ?_
  rintro y w5 ⟨v5, h5, rfl, hb⟩
  have k5 : Keeps w4 w5 := hb
  clear hb
  go_wp2_with fail
  refine (trace_once someL 1 1 v5 w5 h5).mono ?_
  rintro y w6 ⟨rfl, hb⟩
  rw [HR.out.2.2.2.2.1, HR.out.2.2.2.2.2.1]
  have k6 : Keeps w4 w6 := k5.trans hb
  clear hb h5 k5
  go_wp2_with fail
  refine (some_c _).mono ?_
  rintro y w7 ⟨v7, h7, rfl, hb⟩
  have k7 : Keeps w4 w7 := k6.trans hb
  clear hb k6
  go_wp2_with fail
  refine (trace_once someL 2 1 v7 w7 h7).mono ?_
  rintro y w8 ⟨rfl, hb⟩
  rw [HR.out.2.2.2.2.2.2.1, HR.out.2.2.2.2.2.2.2.1]
  have k8 : Keeps w4 w8 := k7.trans hb
  clear hb h7 k7
  go_wp2_with fail
  refine (some_c _).mono ?_
  rintro y w9 ⟨v9, h9, rfl, hb⟩
  have k9 : Keeps w4 w9 := k8.trans hb
  clear hb k8
  go_wp2_with fail
  refine (trace_once someL 6 1 v9 w9 h9).mono ?_
  rintro y w10 ⟨rfl, hb⟩
  rw [HR.out.2.2.2.2.2.2.2.2.1, HR.out.2.2.2.2.2.2.2.2.2]
  have k10 : Keeps w4 w10 := k9.trans hb
  clear hb h9 k9
  have HK2 : Hid (Keeps w w2) := k2
  have HK4 : Hid (Keeps w2 w4) := k4
  have HK10 : Hid (Keeps w4 w10) := k10
  clear k2 k4 k10
  go_wp2_with fail
  have k11 : Keeps w10 (w10.alloc (.cells (boolCells someDone).toArray 4)) := (Keeps.refl _).alloc _
  have n11 := BoolsAt.new w10 someDone (by decide) 10
  refine (sameBools_c someDone someDone _ _ _ (HD.out.keep ((HK4.out.trans HK10.out).trans k11)) n11).mono ?_
  rintro y w12 ⟨rfl, hb⟩
  rw [sameBools_self]
  have HK12 : Hid (Keeps w4 w12) := HK10.out.trans (k11.trans hb)
  clear hb k11 n11
  go_wp2_with fail
  refine (mk_add 5 _).mono ?_
  rintro y w13 ⟨rfl, hb⟩
  have HK13 : Hid (Keeps w4 w13) := HK12.out.trans hb
  clear hb
  go_wp2_with fail
  refine (mk_add 9 _).mono ?_
  rintro y w14 ⟨rfl, hb⟩
  have HK14 : Hid (Keeps w4 w14) := HK13.out.trans hb
  clear hb
  go_wp2_with fail
  have k15 : Keeps w14 (w14.alloc (.cells (opCells someOps).toArray 55)) := (Keeps.refl _).alloc _
  have n15 := OpsRow.new w14 someOps (by decide) 3
  refine (sameOps_c (doersL someL) someOps _ _ _ (by have := HO.out.keep (HK14.out.trans k15); exact this) n15).mono ?_
  rintro y w16 ⟨rfl, hb⟩
  rw [HR.out.2.2.1]
  have HK16 : Hid (Keeps w w16) := ((HK2.out.trans HK4.out).trans HK14.out).trans (k15.trans hb)
  clear hb k15 n15
  go_wp2_with fail
  go_ret
  exact ⟨rfl, HK16.out⟩
end Go.Proofs.Yteabfjpajgakiac

/- The reference's DoneOf, OpsOf, OnceOf. -/
set_option linter.unusedSimpArgs false
set_option linter.unusedVariables false
set_option maxRecDepth 10000
namespace Go.Proofs.Yteabfjpajgakiac
open Go.RowKit

theorem zero_tab (w : World) : TabAt w (.slice none 0 0) zeroSt.tab := (OwnTab.nil 0 w).tab

set_option maxHeartbeats 2000000 in
theorem done_of (L : List Ent) (v : Value) (w : World) (hL : EntsAt w v L) :
    Calls Try.prog 20 #[v] w fun y w' => ∃ da dc, BoolsAt w' (.slice da (doneL L).length dc) (doneL L) ∧ y = .returned (.tuple #[.slice da (doneL L).length dc, .int .i64 (listErr L)]) ∧ Keeps w w' := by
  obtain ⟨la, lc, rfl, hlen⟩ := hL.len
  unfold maxLen at hlen
  have HL : Hid (EntsAt w (.slice la L.length lc) L) := hL
  have HD : Hid (doneL L = if listErr L == 0 then runDone zeroSt L else []) := rfl
  clear hL
  go_enter Try.func20, Try.ntmps20
  go_wp2_with fail
  refine (list_error L _ w HL.out).mono ?_
  rintro y w1 ⟨rfl, hb⟩
  have HK1 : Hid (Keeps w w1) := hb
  clear hb
  cases q : (listErr L == 0) with
  | false =>
    have q' : (listErr L != 0) = true := by simp [bne, q]
    have H1 : Hid (doneL L = []) := by show _ = _; rw [HD.out, q]; rfl
    go_wp2_with fail
    refine bodyPost_ret (v := .tuple #[.slice none 0 0, .int .i64 (listErr L)]) ?_ rfl ?_
    · simp [results, Try.results20, go_sem]
    · rw [H1.out]
      exact ⟨none, 0, ⟨rfl, by unfold maxLen; simp, .inl ⟨rfl, rfl⟩⟩, rfl, HK1.out⟩
  | true =>
    have q' : (listErr L != 0) = false := by simp [bne, q]
    have q0 : listErr L = 0 := by simpa using q
    obtain ⟨hE, h50⟩ := list_right q0
    have H1 : Hid (doneL L = runDone zeroSt L ∧ listErr L = 0) := ⟨by rw [HD.out, q]; rfl, q0⟩
    have HER : Hid (∀ e ∈ L, entErr e = 0) := hE
    clear hE q0
    go_wp2_with fail
    refine (folded_c zeroSt L (.slice none 0 0) _ w1 (zero_tab _) (HL.out.keep HK1.out) zero_right HER.out (by show (0 : Int) + _ ≤ 50; omega)).mono ?_
    rintro y w2 ⟨qa, qc, ra, rc, da, dc, HO, HA, HB, rfl, hb⟩
    have HK2 : Hid (Keeps w w2) := HK1.out.trans hb
    have HDL : Hid ((runDone zeroSt L).length = L.length) := runDone_len _ _
    clear hb
    go_wp2_with fail
    refine bodyPost_ret (v := .tuple #[.slice da L.length dc, .int .i64 0]) ?_ rfl ?_
    · simp [results, Try.results20, go_sem]
    · rw [H1.out.1, H1.out.2, HDL.out]
      have hB := HB.out
      rw [← HDL.out] at hB
      have := (BoolsAt.of hB).keep ((Keeps.refl _).alloc (.cells #[.int .i64 (runSt zeroSt L).at_, .int .i64 (runSt zeroSt L).clock, .int .i64 (runSt zeroSt L).v0, .int .i64 (runSt zeroSt L).v1, .int .i64 (runSt zeroSt L).v2, .int .i64 (runSt zeroSt L).v3, .slice qa (runSt zeroSt L).tab.length qc] 25))
      rw [HDL.out] at this
      exact ⟨da, dc, this, rfl, HK2.out.alloc _⟩

theorem doneL_at {L : List Ent} (h : listErr L = 0) {k : Nat} (hk : k < L.length) (hk' : k < (doneL L).length) : (doneL L)[k] = doneB L k := by
  have e : doneL L = runDone zeroSt L := by simp [doneL, h]
  have h1 := runDone_bool hk
  rw [← e, List.getElem?_eq_getElem hk'] at h1
  injection h1 with h1
  rw [h1, doneTo]
  simp [hk]
theorem doneL_len {L : List Ent} (h : listErr L = 0) : (doneL L).length = L.length := by
  have e : doneL L = runDone zeroSt L := by simp [doneL, h]
  rw [e, runDone_len]
theorem opCells_one : ∀ (l : List Ent), ∀ u ∈ opCells l, u.oneCell' = true
  | [], u, h => by simp [opCells] at h
  | e :: r, u, h => by
    simp only [opCells, List.mem_cons] at h
    rcases h with rfl | rfl | rfl | rfl | h
    all_goals first | rfl | exact opCells_one r u h

set_option maxHeartbeats 2000000 in
theorem ops_of (L : List Ent) (v : Value) (w : World) (hL : EntsAt w v L) :
    Calls Try.prog 21 #[v] w fun y w' => ∃ da dc, OpsRow w' (.slice da (doersL L).length dc) (doersL L) ∧ y = .returned (.tuple #[.slice da (doersL L).length dc, .int .i64 (listErr L)]) ∧ Keeps w w' := by
  obtain ⟨la, lc, rfl, hlen⟩ := hL.len
  unfold maxLen at hlen
  have HL : Hid (EntsAt w (.slice la L.length lc) L) := hL
  have HD : Hid (doersL L = if listErr L == 0 then doersTo L L.length else []) := rfl
  clear hL
  go_enter Try.func21, Try.ntmps21
  go_wp2_with fail
  refine (done_of L _ w HL.out).mono ?_
  rintro y w1 ⟨da, dc, hB, rfl, hb⟩
  have HK1 : Hid (Keeps w w1) := hb
  have HB : Hid (BoolsAt w1 (.slice da (doneL L).length dc) (doneL L)) := hB
  clear hb hB
  cases q : (listErr L == 0) with
  | false =>
    have q' : (listErr L != 0) = true := by simp [bne, q]
    have H1 : Hid (doersL L = []) := by show _ = _; rw [HD.out, q]; rfl
    go_wp2_with fail
    refine bodyPost_ret (v := .tuple #[.slice none 0 0, .int .i64 (listErr L)]) ?_ rfl ?_
    · simp [results, Try.results21, go_sem]
    · rw [H1.out]
      exact ⟨none, 0, ⟨rfl, by unfold maxLen; simp, .inl ⟨rfl, rfl⟩⟩, rfl, HK1.out⟩
  | true =>
    have q' : (listErr L != 0) = false := by simp [bne, q]
    have q0 : listErr L = 0 := by simpa using q
    have h50 := (list_right q0).2
    have H1 : Hid (doersL L = doersTo L L.length ∧ listErr L = 0) := ⟨by rw [HD.out, q]; rfl, q0⟩
    have HDL : Hid ((doneL L).length = L.length) := doneL_len q0
    have HAT : Hid (∀ k (hk : k < L.length) (hk' : k < (doneL L).length), (doneL L)[k] = doneB L k) := fun k hk hk' => doneL_at q0 hk hk'
    clear q0
    go_wp2_with fail
    go_loopw [6, 7] (fun o i wr => ∃ (k : Nat), k ≤ L.length ∧ i = .int .i64 k ∧ Hid (Keeps w1 wr) ∧ Hid (wr.ownsRow w1.heap.size 55 4 o (doersTo L k).length (opCells (doersTo L k)))) (fun _ i _ => L.length - (intOf i).toNat)
    case atStart => exact ⟨0, Nat.zero_le _, rfl, Keeps.refl _, World.ownsRow_nil _ _ _ _⟩
    case round =>
      obtain ⟨k, hk, rfl, HKw, HO⟩ := hrel
      by_cases hlt : k < L.length
      · have hltd : k < (doneL L).length := by rw [HDL.out]; exact hlt
        obtain ⟨b, off, cap', hv, c0, c1, c2, c3, c4, c5, c6, c7, c8⟩ := (HL.out.keep (HK1.out.trans HKw.out)).at hlt
        injection hv with hv1 hv2 hv3
        subst hv1
        clear hv2 hv3
        obtain ⟨b2, o2, p2, hv, d1⟩ := (HB.out.keep HKw.out).at hltd
        injection hv with hv1 hv2 hv3
        subst hv1
        clear hv2 hv3
        rw [HAT.out k hlt hltd] at d1
        have hdl : (doneL L).length = L.length := HDL.out
        rw [hdl] at *
        have HN0 : Hid (doneB L k = false → doersTo L (k + 1) = doersTo L k) := fun h => doersTo_none hlt (by rw [← doneB_at hlt]; exact h)
        have HN1 : Hid (doneB L k = true → doersTo L (k + 1) = doersTo L k ++ [L[k]]) := fun h => doersTo_some hlt (by rw [← doneB_at hlt]; exact h)
        have hdn := doersTo_len L k
        clear hdl
        generalize L[k] = e at *
        cases qd : doneB L k with
        | false =>
          rw [qd] at d1
          have HN : Hid (doersTo L (k + 1) = doersTo L k) := HN0.out qd
          clear qd HN0 HN1
          go_wp2_with fail
          go_roundw
          case rel => exact ⟨k + 1, by omega, by go_num, HKw, by rw [HN.out]; exact HO⟩
          case measure => simp [intOf]; omega
        | true =>
          rw [qd] at d1
          have HN : Hid (doersTo L (k + 1) = doersTo L k ++ [e]) := HN1.out qd
          clear qd HN0 HN1
          have kA : Keeps wr (wr.alloc (.cells (opCells [e]).toArray 55)) := (Keeps.refl _).alloc _
          obtain ⟨v', w', hr, ho, hg⟩ := run_append_read (wr.alloc (.cells (opCells [e]).toArray 55)) w1.heap.size 42 42 55 4 32 _ infoOp Try.underlying42 rfl (by decide) u6 _ _ (owns_keep HO.out kA) _ 1 (opCells [e]) (OpsRow.new wr [e] (by simp) 1) (opCells_one _) (by unfold maxLen; omega) (by omega) (by have := HKw.out.size; simp; omega)
          have HK' : Hid (Keeps w1 w') := keeps_grown (HKw.out.trans kA) hg (fun g h => (HO.out.lt g h).1)
          have HO' : Hid (w'.ownsRow w1.heap.size 55 4 v' (doersTo L (k + 1)).length (opCells (doersTo L (k + 1)))) := by
            show World.ownsRow _ _ _ _ _ _ _
            rw [HN.out, opCells_append, List.length_append]
            exact ho
          have Hr := (show Hid (_ = _) from hr)
          clear hr ho hg kA HO
          go_wp2_with (at_builtin; refine wpList_append_run rfl _ _ _ rfl rfl rfl Hr.out ?_)
          go_roundw
          case rel => exact ⟨k + 1, by omega, by go_num, HK', HO'⟩
          case measure => simp [intOf]; omega
      · have hkl : k = L.length := by omega
        subst hkl
        obtain ⟨oa, oc, rfl, _⟩ := (RowAt.of_owns HO.out).len
        go_wp2_with fail
        refine bodyPost_ret (v := .tuple #[.slice oa (doersTo L L.length).length oc, .int .i64 0]) ?_ rfl ?_
        · simp [results, Try.results21, go_sem]
        · rw [H1.out.1, H1.out.2]
          exact ⟨oa, oc, OpsRow.of HO.out, rfl, HK1.out.trans HKw.out⟩

theorem onceTo_next {L : List Ent} {c q : Int} {k : Nat} (hk : k < L.length) : onceTo L c q (k + 1) = onceTo L c q k + if (doneB L k && ((L[k]).client == c && (L[k]).seq == q)) then 1 else 0 := by
  cases h : doneB L k with
  | true => rw [onceTo_some hk (by rw [← doneB_at hk]; exact h)]; simp
  | false =>
    unfold onceTo
    rw [doersTo_none hk (by rw [← doneB_at hk]; exact h)]
    simp

set_option maxHeartbeats 2000000 in
theorem once_of (L : List Ent) (c q : Int) (v : Value) (w : World) (hL : EntsAt w v L) :
    Calls Try.prog 26 #[v, .int .i64 c, .int .i64 q] w fun y w' => y = .returned (.tuple #[.int .i64 (onceN L c q), .int .i64 (onceErr L c q)]) ∧ Keeps w w' := by
  obtain ⟨la, lc, rfl, hlen⟩ := hL.len
  unfold maxLen at hlen
  have HL : Hid (EntsAt w (.slice la L.length lc) L) := hL
  have HE : Hid (onceErr L c q = if listErr L == 0 then (if inB c 1 5 && inB q 1 60 then 0 else 3) else listErr L) := rfl
  have HN : Hid (onceN L c q = if onceErr L c q == 0 then onceTo L c q L.length else 0) := rfl
  clear hL
  go_enter Try.func26, Try.ntmps26
  go_wp2_with fail
  refine (done_of L _ w HL.out).mono ?_
  rintro y w1 ⟨da, dc, hB, rfl, hb⟩
  have HK1 : Hid (Keeps w w1) := hb
  have HB : Hid (BoolsAt w1 (.slice da (doneL L).length dc) (doneL L)) := hB
  clear hb hB
  cases q1 : (listErr L == 0) with
  | false =>
    have q' : (listErr L != 0) = true := by simp [bne, q1]
    have H1 : Hid (onceErr L c q = listErr L ∧ onceN L c q = 0) := by
      have h1 : onceErr L c q = listErr L := by rw [HE.out, q1]; rfl
      exact ⟨h1, by rw [HN.out, h1, q1]; rfl⟩
    go_wp2_with fail
    refine bodyPost_ret (v := .tuple #[.int .i64 0, .int .i64 (listErr L)]) ?_ rfl ?_
    · simp [results, Try.results26, go_sem]
    · rw [H1.out.1, H1.out.2]
      exact ⟨rfl, HK1.out⟩
  | true =>
    have q' : (listErr L != 0) = false := by simp [bne, q1]
    have q0 : listErr L = 0 := by simpa using q1
    have h50 := (list_right q0).2
    have HDL : Hid ((doneL L).length = L.length) := doneL_len q0
    have HAT : Hid (∀ k (hk : k < L.length) (hk' : k < (doneL L).length), (doneL L)[k] = doneB L k) := fun k hk hk' => doneL_at q0 hk hk'
    clear q0
    cases qcc : inB c 1 5 with
    | false =>
      have H1 : Hid (onceErr L c q = 3 ∧ onceN L c q = 0) := by
        have h1 : onceErr L c q = 3 := by rw [HE.out, q1, qcc]; rfl
        exact ⟨h1, by rw [HN.out, h1]; rfl⟩
      go_wp2_with (first | (go_at_call 44; refine (within_c _ _ _ _).mono ?_; rintro x w' ⟨rfl, rfl⟩))
      refine bodyPost_ret (v := .tuple #[.int .i64 0, .int .i64 3]) ?_ rfl ?_
      · simp [results, Try.results26, go_sem]
      · rw [H1.out.1, H1.out.2]
        exact ⟨rfl, HK1.out⟩
    | true =>
      cases qqq : inB q 1 60 with
      | false =>
        have H1 : Hid (onceErr L c q = 3 ∧ onceN L c q = 0) := by
          have h1 : onceErr L c q = 3 := by rw [HE.out, q1, qcc, qqq]; rfl
          exact ⟨h1, by rw [HN.out, h1]; rfl⟩
        go_wp2_with (first | (go_at_call 44; refine (within_c _ _ _ _).mono ?_; rintro x w' ⟨rfl, rfl⟩))
        refine bodyPost_ret (v := .tuple #[.int .i64 0, .int .i64 3]) ?_ rfl ?_
        · simp [results, Try.results26, go_sem]
        · rw [H1.out.1, H1.out.2]
          exact ⟨rfl, HK1.out⟩
      | true =>
        have H1 : Hid (onceErr L c q = 0 ∧ onceN L c q = onceTo L c q L.length) := by
          have h1 : onceErr L c q = 0 := by rw [HE.out, q1, qcc, qqq]; rfl
          exact ⟨h1, by rw [HN.out, h1]; rfl⟩
        go_wp2_with (first | (go_at_call 44; refine (within_c _ _ _ _).mono ?_; rintro x w' ⟨rfl, rfl⟩))
        go_loop [10, 11] (fun n i => ∃ (k : Nat), k ≤ L.length ∧ i = .int .i64 k ∧ n = .int .i64 (onceTo L c q k)) (fun _ i => L.length - (intOf i).toNat)
        case atStart => exact ⟨0, Nat.zero_le _, rfl, rfl⟩
        case round =>
          obtain ⟨k, hk, rfl, rfl⟩ := hrel
          have hob := onceTo_le L c q k
          by_cases hlt : k < L.length
          · have hltd : k < (doneL L).length := by rw [HDL.out]; exact hlt
            obtain ⟨b, off, cap', hv, c0, c1, c2, c3, c4, c5, c6, c7, c8⟩ := (HL.out.keep HK1.out).at hlt
            injection hv with hv1 hv2 hv3
            subst hv1
            clear hv2 hv3
            obtain ⟨b2, o2, p2, hv, d1⟩ := HB.out.at hltd
            injection hv with hv1 hv2 hv3
            subst hv1
            clear hv2 hv3
            rw [HAT.out k hlt hltd] at d1
            have hdl : (doneL L).length = L.length := HDL.out
            rw [hdl] at *
            have HNX : Hid (onceTo L c q (k + 1) = onceTo L c q k + if (doneB L k && ((L[k]).client == c && (L[k]).seq == q)) then 1 else 0) := onceTo_next hlt
            clear hdl
            generalize L[k] = e at *
            cases qd : doneB L k with
            | false =>
              rw [qd] at d1 HNX
              go_wp2_with fail
              go_round
              case rel => exact ⟨k + 1, by omega, by go_num, by rw [HNX.out]; simp⟩
              case measure => simp [intOf]; omega
            | true =>
              rw [qd] at d1 HNX
              cases qe1 : (e.client == c) with
              | false =>
                rw [qe1] at HNX
                go_wp2_with fail
                go_round
                case rel => exact ⟨k + 1, by omega, by go_num, by rw [HNX.out]; simp⟩
                case measure => simp [intOf]; omega
              | true =>
                rw [qe1] at HNX
                cases qe2 : (e.seq == q) with
                | false =>
                  rw [qe2] at HNX
                  go_wp2_with fail
                  go_round
                  case rel => exact ⟨k + 1, by omega, by go_num, by rw [HNX.out]; simp⟩
                  case measure => simp [intOf]; omega
                | true =>
                  rw [qe2] at HNX
                  go_wp2_with fail
                  go_round
                  case rel => exact ⟨k + 1, by omega, by go_num, by rw [HNX.out]; simp⟩
                  case measure => simp [intOf]; omega
          · have hkl : k = L.length := by omega
            subst hkl
            go_wp2_with fail
            refine bodyPost_ret (v := .tuple #[.int .i64 (onceTo L c q L.length), .int .i64 0]) ?_ rfl ?_
            · simp [results, Try.results26, go_sem]
            · rw [H1.out.1, H1.out.2]
              exact ⟨rfl, HK1.out⟩
end Go.Proofs.Yteabfjpajgakiac

/- TraceTells, TraceOnce: the walks. -/
set_option linter.unusedSimpArgs false
set_option linter.unusedVariables false
set_option maxRecDepth 10000
namespace Go.Proofs.Yteabfjpajgakiac
open Go.RowKit

set_option maxHeartbeats 4000000 in
theorem trace_tells (L : List Ent) (la : Option Addr) (lc : Nat) (w : World) (hL : EntsAt w (.slice la L.length lc) L) :
    Calls Try.prog 5 #[.slice la L.length lc] w fun y w' => y = .returned (.bool true) ∧ Keeps w w' := by
  have HL : Hid (EntsAt w (.slice la L.length lc) L) := hL
  have C3 : Hid (∀ W, Keeps w W → Calls Try.prog 20 #[.slice la L.length lc] W fun y w' => ∃ da dc, BoolsAt w' (.slice da (doneL L).length dc) (doneL L) ∧ y = .returned (.tuple #[.slice da (doneL L).length dc, .int .i64 (listErr L)]) ∧ Keeps W w') := fun W hk => done_of L _ W (HL.out.keep hk)
  have C2 : Hid (∀ W, Keeps w W → Calls Try.prog 19 #[.slice la L.length lc] W fun y w' => ∃ da dc, OpsRow w' (.slice da (doersL L).length dc) (doersL L) ∧ y = .returned (.tuple #[.slice da (doersL L).length dc, .int .i64 (listErr L)]) ∧ Keeps W w') := fun W hk => trace_ops L _ W (HL.out.keep hk)
  have C4 : Hid (∀ W, Keeps w W → Calls Try.prog 21 #[.slice la L.length lc] W fun y w' => ∃ da dc, OpsRow w' (.slice da (doersL L).length dc) (doersL L) ∧ y = .returned (.tuple #[.slice da (doersL L).length dc, .int .i64 (listErr L)]) ∧ Keeps W w') := fun W hk => ops_of L _ W (HL.out.keep hk)
  have C1 : Hid (∀ W, Keeps w W → Calls Try.prog 18 #[.slice la L.length lc] W fun y w' => ∃ da dc, BoolsAt w' (.slice da (doneL L).length dc) (doneL L) ∧ y = .returned (.tuple #[.slice da (doneL L).length dc, .int .i64 (listErr L)]) ∧ Keeps W w') := fun W hk => trace_done L _ W (HL.out.keep hk)
  clear hL HL
  generalize listErr L = er at *
  generalize doneL L = dl at *
  generalize doersL L = ol at *
  go_enter Try.func5, Try.ntmps5
  go_wp2_with fail
  refine (C1.out w (Keeps.refl _)).mono ?_
  rintro y w1 ⟨a1, c1, h1, rfl, hb⟩
  have k1 : Keeps w w1 := hb
  have H1 := (show Hid _ from h1)
  clear hb h1
  go_wp2_with fail
  refine (C2.out w1 k1).mono ?_
  rintro y w2 ⟨a2, c2, h2, rfl, hb⟩
  have k12 : Keeps w1 w2 := hb
  have H2 := (show Hid _ from h2)
  clear hb h2
  go_wp2_with fail
  refine (C3.out w2 (k1.trans k12)).mono ?_
  rintro y w3 ⟨a3, c3, h3, rfl, hb⟩
  have k23 : Keeps w2 w3 := hb
  have H3 := (show Hid _ from h3)
  clear hb h3
  go_wp2_with fail
  refine (C4.out w3 ((k1.trans k12).trans k23)).mono ?_
  rintro y w4 ⟨a4, c4, h4, rfl, hb⟩
  have k34 : Keeps w3 w4 := hb
  have H4 := (show Hid _ from h4)
  clear hb h4
  have HK1 : Hid (Keeps w w1) := k1
  have HK12 : Hid (Keeps w1 w2) := k12
  have HK23 : Hid (Keeps w2 w3) := k23
  have HK34 : Hid (Keeps w3 w4) := k34
  clear k1 k12 k23 k34
  go_wp2_with fail
  refine (trace_begun w4).mono ?_
  rintro y w5 ⟨rfl, hb⟩
  have HK45 : Hid (Keeps w4 w5) := hb
  clear hb
  go_wp2_with fail
  refine (sameBools_c dl dl _ _ w5 (H1.out.keep (((HK12.out.trans HK23.out).trans HK34.out).trans HK45.out)) (H3.out.keep (HK34.out.trans HK45.out))).mono ?_
  rintro y w6 ⟨rfl, hb⟩
  rw [sameBools_self]
  have HK46 : Hid (Keeps w4 w6) := HK45.out.trans hb
  clear hb
  go_wp2_with fail
  refine (sameOps_c ol ol _ _ w6 (H2.out.keep ((HK23.out.trans HK34.out).trans HK46.out)) (H4.out.keep HK46.out)).mono ?_
  rintro y w7 ⟨rfl, hb⟩
  rw [sameOps_self]
  have HK7 : Hid (Keeps w w7) := (((HK1.out.trans HK12.out).trans HK23.out).trans HK34.out).trans (HK46.out.trans hb)
  clear hb
  go_wp2_with fail
  go_ret
  exact ⟨by simp, HK7.out⟩

set_option maxHeartbeats 4000000 in
theorem trace_once_law (L : List Ent) (c q : Int) (la : Option Addr) (lc : Nat) (w : World) (hL : EntsAt w (.slice la L.length lc) L) :
    Calls Try.prog 6 #[.slice la L.length lc, .int .i64 c, .int .i64 q] w fun y w' => y = .returned (.bool true) ∧ Keeps w w' := by
  have HL : Hid (EntsAt w (.slice la L.length lc) L) := hL
  have C1 : Hid (∀ W, Keeps w W → Calls Try.prog 25 #[.slice la L.length lc, .int .i64 c, .int .i64 q] W fun y w' => y = .returned (.tuple #[.int .i64 (onceN L c q), .int .i64 (onceErr L c q)]) ∧ Keeps W w') := fun W hk => trace_once L c q _ W (HL.out.keep hk)
  have C2 : Hid (∀ W, Keeps w W → Calls Try.prog 26 #[.slice la L.length lc, .int .i64 c, .int .i64 q] W fun y w' => y = .returned (.tuple #[.int .i64 (onceN L c q), .int .i64 (onceErr L c q)]) ∧ Keeps W w') := fun W hk => once_of L c q _ W (HL.out.keep hk)
  clear hL HL
  generalize onceN L c q = n at *
  generalize onceErr L c q = er at *
  go_enter Try.func6, Try.ntmps6
  go_wp2_with fail
  refine (C1.out w (Keeps.refl _)).mono ?_
  rintro y w1 ⟨rfl, hb⟩
  have k1 : Keeps w w1 := hb
  clear hb
  go_wp2_with fail
  refine (C2.out w1 k1).mono ?_
  rintro y w2 ⟨rfl, hb⟩
  have k2 : Keeps w w2 := k1.trans hb
  clear hb k1
  go_wp2_with fail
  refine (trace_begun w2).mono ?_
  rintro y w3 ⟨rfl, hb⟩
  have HK3 : Hid (Keeps w w3) := k2.trans hb
  clear hb k2
  go_wp2_with fail
  go_ret
  exact ⟨by simp, HK3.out⟩
end Go.Proofs.Yteabfjpajgakiac

/- TraceVals: the walk. -/
set_option linter.unusedSimpArgs false
set_option linter.unusedVariables false
set_option maxRecDepth 10000
namespace Go.Proofs.Yteabfjpajgakiac
open Go.RowKit

/-- The values behind an op that was done. -/
def stepV (t : St) (e : Ent) : St := ⟨0, 0, doneVals t e 0, doneVals t e 1, doneVals t e 2, doneVals t e 3, []⟩
def vst (D : List Ent) : St := D.foldl stepV zeroSt
theorem stG_same {s t : St} (h0 : s.v0 = t.v0) (h1 : s.v1 = t.v1) (h2 : s.v2 = t.v2) (h3 : s.v3 = t.v3) : stG s = stG t := by
  unfold stG
  rw [h0, h1, h2, h3]
theorem trace_vals_of {L : List Ent} (hL : ∀ e ∈ L, entErr e = 0) (h50 : L.length ≤ 50) : ∀ i, i ≤ L.length →
    ((vst (doersTo L i)).v0 = (atSt L i).v0 ∧ (vst (doersTo L i)).v1 = (atSt L i).v1 ∧ (vst (doersTo L i)).v2 = (atSt L i).v2 ∧ (vst (doersTo L i)).v3 = (atSt L i).v3) ∧
    ∀ k (hk : k < (doersTo L i).length), doErr (stG (vst ((doersTo L i).take k))) ((doersTo L i)[k]).ok ((doersTo L i)[k]).okey ((doersTo L i)[k]).oto ((doersTo L i)[k]).on = 0
  | 0, _ => ⟨⟨rfl, rfl, rfl, rfl⟩, fun k hk => by simp [doersTo] at hk⟩
  | i + 1, hi => by
    have ih := trace_vals_of hL h50 i (by omega)
    have hlt : i < L.length := by omega
    have hst := atSt_right hL h50 i (by omega)
    have hbe : bothErr (atSt L i) (L[i]) = 0 := both_zero hst.1 (hL _ (List.getElem_mem hlt)) (by rw [hst.2]; omega)
    have hv := one_vals hbe
    have hg := stG_same ih.1.1 ih.1.2.1 ih.1.2.2.1 ih.1.2.2.2
    rw [atSt_succ hlt]
    cases hd : oneDone (atSt L i) (L[i]) with
    | false =>
      have h1 := hv.1 hd
      simp only [sameVals, Bool.and_eq_true, beq_iff_eq] at h1
      have he := doersTo_none hlt hd
      simp only [he]
      exact ⟨⟨ih.1.1.trans h1.1.symm, ih.1.2.1.trans h1.2.1.symm, ih.1.2.2.1.trans h1.2.2.1.symm, ih.1.2.2.2.trans h1.2.2.2.symm⟩, ih.2⟩
    | true =>
      obtain ⟨_, h2, ⟨a0, a1, a2, a3⟩, _⟩ := hv.2 hd
      have he := doersTo_some hlt hd
      have hvs : vst (doersTo L i ++ [L[i]]) = stepV (vst (doersTo L i)) (L[i]) := by simp [vst]
      have hdv : doneVals (vst (doersTo L i)) (L[i]) = doneVals (atSt L i) (L[i]) := by unfold doneVals; rw [hg]
      simp only [he]
      rw [hvs]
      refine ⟨⟨?_, ?_, ?_, ?_⟩, ?_⟩
      · rw [a0, ← hdv]; rfl
      · rw [a1, ← hdv]; rfl
      · rw [a2, ← hdv]; rfl
      · rw [a3, ← hdv]; rfl
      · intro k hk
        by_cases hkd : k < (doersTo L i).length
        · rw [List.take_append_of_le_length (by omega), List.getElem_append_left hkd]
          exact ih.2 k hkd
        · have : k = (doersTo L i).length := by simp at hk; omega
          subst this
          rw [List.take_left', List.getElem_append_right (by omega)]
          · simp only [Nat.sub_self, List.getElem_cons_zero]
            rw [hg]
            exact h2
          · rfl

/-- Four values in memory. -/
structure VBox (b : Nat) (t : St) (w : World) : Prop where
  c0 : w.cell? ⟨b, 0, none⟩ = some (.int .i64 t.v0)
  c1 : w.cell? ⟨b, 1, none⟩ = some (.int .i64 t.v1)
  c2 : w.cell? ⟨b, 2, none⟩ = some (.int .i64 t.v2)
  c3 : w.cell? ⟨b, 3, none⟩ = some (.int .i64 t.v3)
  fz : ∀ i, w.frozen? ⟨b, i, none⟩ = false
theorem VBox.lt {b : Nat} {t : St} {w : World} (h : VBox b t w) : b < w.heap.size := World.block_lt_of_cell? _ _ h.c0
theorem VBox.keep {b : Nat} {t : St} {w w' : World} (h : VBox b t w) (hk : Keeps w w') : VBox b t w' :=
  ⟨cell_kept h.c0 hk, cell_kept h.c1 hk, cell_kept h.c2 hk, cell_kept h.c3 hk, fun i => (Below.frozen hk (p := ⟨b, i, none⟩) h.lt).trans (h.fz i)⟩
theorem VBox.new (w : World) (t : St) (ty : TypeId) : VBox w.heap.size t (w.alloc (.cells #[.int .i64 t.v0, .int .i64 t.v1, .int .i64 t.v2, .int .i64 t.v3] ty)) := ⟨by simp [go_sem], by simp [go_sem], by simp [go_sem], by simp [go_sem], fun i => by simp [go_sem]⟩
theorem VBox.put {b : Nat} {t : St} {w : World} (h : VBox b t w) (u : St) : VBox b u ((((w.setCell ⟨b, 0, none⟩ (.int .i64 u.v0)).setCell ⟨b, 1, none⟩ (.int .i64 u.v1)).setCell ⟨b, 2, none⟩ (.int .i64 u.v2)).setCell ⟨b, 3, none⟩ (.int .i64 u.v3)) ∧ But b w ((((w.setCell ⟨b, 0, none⟩ (.int .i64 u.v0)).setCell ⟨b, 1, none⟩ (.int .i64 u.v1)).setCell ⟨b, 2, none⟩ (.int .i64 u.v2)).setCell ⟨b, 3, none⟩ (.int .i64 u.v3)) := by
  have c0 := h.c0
  have c1 := h.c1
  have c2 := h.c2
  have c3 := h.c3
  have fz := h.fz
  refine ⟨⟨by simp [go_sem, c0, c1, c2, c3], by simp [go_sem, c0, c1, c2, c3], by simp [go_sem, c0, c1, c2, c3], by simp [go_sem, c0, c1, c2, c3], fun i => by simp [go_sem, fz]⟩, ((((But.refl _ _).set 0 _).set 1 _).set 2 _).set 3 _⟩

theorem fold_zero_err {L : List Ent} : foldErr zeroSt L = listErr L := by
  unfold foldErr
  rw [zero_right]
  simp only [beq_self_eq_true, if_true]
  split
  · rename_i h
    have h0 : listErr L = 0 := by simpa using h
    have := (list_right h0).2
    rw [if_neg (by show ¬ (50 : Int) < 0 + _; omega), h0]
  · rfl

theorem sameV_c (w : World) (a0 a1 a2 a3 : Int) : (binOp .eql 22 (.agg #[.int .i64 a0, .int .i64 a1, .int .i64 a2, .int .i64 a3]) (.agg #[.int .i64 a0, .int .i64 a1, .int .i64 a2, .int .i64 a3])).run Try.prog w = .ok (.bool true) w := by
  rw [eql22]
  simp

set_option maxHeartbeats 8000000 in
theorem trace_vals (L : List Ent) (la : Option Addr) (lc : Nat) (w : World) (hL : EntsAt w (.slice la L.length lc) L) :
    Calls Try.prog 7 #[.slice la L.length lc] w fun y w' => y = .returned (.bool true) ∧ Keeps w w' := by
  have HL : Hid (EntsAt w (.slice la L.length lc) L) := hL
  clear hL
  go_enter Try.func7, Try.ntmps7
  go_wp2_with fail
  refine (begin_c w).mono ?_
  rintro y w0 ⟨rfl, hb⟩
  have k0 : Keeps w w0 := hb
  clear hb
  go_wp2_with fail
  refine (fold_all zeroSt L (.slice none 0 0) _ w0 (zero_tab _) (HL.out.keep k0)).mono ?_
  rintro y w1 ⟨x1, av1, ho, hr, rfl, hb⟩
  obtain ⟨pa, pc, rfl, _⟩ := ho.tab.len
  obtain ⟨aa, ac, hav, _⟩ := (RowAt.of_owns hr).len
  subst hav
  have HK1 : Hid (Keeps w w1) := k0.trans hb
  rw [fold_zero_err]
  clear ho hr hb k0
  cases q : (listErr L == 0) with
  | false =>
    have q' : (listErr L != 0) = true := by simp [bne, q]
    go_wp2_with fail
    refine (trace_ops L _ _ (HL.out.keep (HK1.out.alloc _))).mono ?_
    rintro y w2 ⟨oa, oc, hO, rfl, hb⟩
    have HK2 : Hid (Keeps w w2) := (HK1.out.alloc _).trans hb
    clear hb hO
    generalize listErr L = er at *
    go_wp2_with fail
    refine (trace_begun w2).mono ?_
    rintro y w3 ⟨rfl, hb⟩
    have HK3 : Hid (Keeps w w3) := HK2.out.trans hb
    clear hb
    go_wp2_with fail
    go_ret
    exact ⟨by simp, HK3.out⟩
  | true =>
    have q' : (listErr L != 0) = false := by simp [bne, q]
    have q0 : listErr L = 0 := by simpa using q
    obtain ⟨hE, h50⟩ := list_right q0
    have HV := (show Hid _ from trace_vals_of hE h50 L.length (Nat.le_refl _))
    have HAL : Hid (allSt zeroSt L = atSt L L.length) := by
      show _ = _
      unfold allSt atSt
      rw [fold_zero_err, q0, List.take_length]
      rfl
    have HDR : Hid (doersL L = doersTo L L.length) := by show _ = _; unfold doersL; rw [q]; rfl
    have hdl : (doersTo L L.length).length ≤ 50 := by have := doersTo_len L L.length; omega
    rw [HAL.out]
    clear hE h50 q0 HAL
    generalize hat : atSt L L.length = u at *
    clear hat
    generalize allAns zeroSt L = an0 at *
    go_wp2_with fail
    have X2 : StBox w1.heap.size u (.slice pa u.tab.length pc) (w1.alloc (.cells #[.int .i64 u.at_, .int .i64 u.clock, .int .i64 u.v0, .int .i64 u.v1, .int .i64 u.v2, .int .i64 u.v3, .slice pa u.tab.length pc] 25)) := StBox.new w1 u _ 25
    have k12 : Keeps w1 (w1.alloc (.cells #[.int .i64 u.at_, .int .i64 u.clock, .int .i64 u.v0, .int .i64 u.v1, .int .i64 u.v2, .int .i64 u.v3, .slice pa u.tab.length pc] 25)) := (Keeps.refl _).alloc _
    generalize (w1.alloc (.cells #[.int .i64 u.at_, .int .i64 u.clock, .int .i64 u.v0, .int .i64 u.v1, .int .i64 u.v2, .int .i64 u.v3, .slice pa u.tab.length pc] 25)) = w2 at *
    generalize w1.heap.size = XB at *
    refine (trace_ops L _ w2 (HL.out.keep (HK1.out.trans k12))).mono ?_
    rintro y w3 ⟨oa, oc, hO, rfl, hb⟩
    rw [HDR.out] at hO ⊢
    obtain ⟨D, hD⟩ : ∃ D, doersTo L L.length = D := ⟨_, rfl⟩
    rw [hD] at hO hdl HV ⊢
    have HX3 : Hid (StBox XB u (.slice pa u.tab.length pc) w3) := X2.keep hb
    have HK3 : Hid (Keeps w w3) := (HK1.out.trans k12).trans hb
    have HO3 : Hid (OpsRow w3 (.slice oa D.length oc) D) := hO
    clear hb hO X2 k12 HK1 HDR hD
    generalize listErr L = er at *
    go_wp2_with fail
    have A4 : VBox w3.heap.size (vst (D.take 0)) (w3.alloc (.cells #[.int .i64 0, .int .i64 0, .int .i64 0, .int .i64 0] 22)) := VBox.new w3 zeroSt 22
    have k34 : Keeps w3 (w3.alloc (.cells #[.int .i64 0, .int .i64 0, .int .i64 0, .int .i64 0] 22)) := (Keeps.refl _).alloc _
    have HA4 : Hid (VBox w3.heap.size (vst (D.take 0)) (w3.alloc (.cells #[.int .i64 0, .int .i64 0, .int .i64 0, .int .i64 0] 22))) := A4
    have HK34 : Hid (Keeps w3 (w3.alloc (.cells #[.int .i64 0, .int .i64 0, .int .i64 0, .int .i64 0] 22))) := k34
    generalize (w3.alloc (.cells #[.int .i64 0, .int .i64 0, .int .i64 0, .int .i64 0] 22)) = w4 at *
    obtain ⟨vb, hvb⟩ : ∃ vb, vb = w3.heap.size := ⟨_, rfl⟩
    rw [← hvb] at HA4 ⊢
    have HVB : Hid (vb = w3.heap.size) := hvb
    clear hvb A4 k34
    obtain ⟨n, hn⟩ : ∃ n, n = D.length := ⟨_, rfl⟩
    rw [← hn] at HO3 hdl ⊢
    have HN : Hid (n = D.length) := hn
    clear hn
    go_loopw [9] (fun i wr => ∃ (k : Nat), k ≤ n ∧ i = .int .i64 k ∧ Hid (VBox vb (vst (D.take k)) wr) ∧ Hid (Keeps w3 wr)) (fun i _ => n - (intOf i).toNat)
    case atStart => exact ⟨0, Nat.zero_le _, rfl, HA4, HK34⟩
    case round =>
      obtain ⟨k, hk, rfl, HB, HKw⟩ := hrel
      by_cases hlt : k < n
      · have hltD : k < D.length := by rw [← HN.out]; exact hlt
        have hO' := HO3.out.keep HKw.out
        rw [HN.out] at hO'
        obtain ⟨b, off, cap', hv, c0, c1, c2, c3⟩ := hO'.at hltD
        injection hv with hv1 hv2 hv3
        subst hv1
        clear hv2 hv3 hO'
        have HDE : Hid (doErr (stG (vst (D.take k))) (D[k]).ok (D[k]).okey (D[k]).oto (D[k]).on = 0) := HV.out.2 k hltD
        have HNX : Hid (vst (D.take (k + 1)) = stepV (vst (D.take k)) (D[k])) := by show _ = _; unfold vst; rw [List.take_succ_eq_append_getElem hltD, List.foldl_append]; rfl
        generalize vst (D.take k) = t at *
        generalize D[k] = e at *
        have HC : Hid (∀ W, Calls Try.prog 28 #[arrV (stG t), opV e.ok e.okey e.oto e.on] W fun y w' => y = .returned (.tuple #[arrV (doneVals t e), .int .i64 (doneAns t e), .int .i64 0]) ∧ Keeps W w') := by
          intro W
          have := op_do (stG t) e.ok e.okey e.oto e.on W
          unfold DoSays at this
          rw [HDE.out] at this
          exact this
        generalize doneAns t e = an at *
        have HBx := HB
        have HSA : Hid (∀ W, Keeps wr W → W.cell? ⟨vb, 0, none⟩ = some (.int .i64 t.v0) ∧ W.cell? ⟨vb, 1, none⟩ = some (.int .i64 t.v1) ∧ W.cell? ⟨vb, 2, none⟩ = some (.int .i64 t.v2) ∧ W.cell? ⟨vb, 3, none⟩ = some (.int .i64 t.v3) ∧ W.cell? ⟨b, off + k * 4, none⟩ = some (.int .i64 e.ok) ∧ W.cell? ⟨b, off + k * 4 + 1, none⟩ = some (.int .i64 e.okey) ∧ W.cell? ⟨b, off + k * 4 + 2, none⟩ = some (.int .i64 e.oto) ∧ W.cell? ⟨b, off + k * 4 + 3, none⟩ = some (.int .i64 e.on)) := fun W hk => have B := HBx.out.keep hk; ⟨B.c0, B.c1, B.c2, B.c3, cell_kept c0 hk, cell_kept c1 hk, cell_kept c2 hk, cell_kept c3 hk⟩
        clear c0 c1 c2 c3 HDE HBx hltD
        go_wp2_with fail
        go_cut [10, 11, 12] (fun p a f wc => f = .int .i64 0 ∧ ∃ nb, p = .pointer (some ⟨nb, 0, none⟩) ∧ VBox nb (stepV t e) wc ∧ Keeps wr wc ∧ wr.heap.size ≤ nb)
        case first =>
          obtain ⟨V0, hV0⟩ : ∃ z, z = wr.drew := ⟨_, rfl⟩
          have k0 : Keeps wr V0 := by rw [hV0]; exact (Keeps.refl _).drew
          refine wp_region_held_drew (S := fun W => W.cell? ⟨vb, 0, none⟩ = some (.int .i64 t.v0) ∧ W.cell? ⟨vb, 1, none⟩ = some (.int .i64 t.v1) ∧ W.cell? ⟨vb, 2, none⟩ = some (.int .i64 t.v2) ∧ W.cell? ⟨vb, 3, none⟩ = some (.int .i64 t.v3) ∧ W.cell? ⟨b, off + k * 4, none⟩ = some (.int .i64 e.ok) ∧ W.cell? ⟨b, off + k * 4 + 1, none⟩ = some (.int .i64 e.okey) ∧ W.cell? ⟨b, off + k * 4 + 2, none⟩ = some (.int .i64 e.oto) ∧ W.cell? ⟨b, off + k * 4 + 3, none⟩ = some (.int .i64 e.on)) (by kernel_rfl) (HSA.out _ (Keeps.refl _).drew) (fun hS => ?_)
          rw [← hV0] at hS ⊢
          clear hV0
          refine wpAnyH_take (i := 0) (v := .agg #[.int .i64 t.v0, .int .i64 t.v1, .int .i64 t.v2, .int .i64 t.v3]) rfl (by kernel_rfl) (by kernel_rfl) (by kernel_rfl) (fun _ _ _ h => h) (Or.inl ⟨by rfl, ?_⟩) hS ?_
          · intro w hS; go_simp
          refine wpAnyH_take (i := 1) (v := .slice (some ⟨b, off, none⟩) n oc) rfl (by kernel_rfl) (by kernel_rfl) (by kernel_rfl) (fun _ _ _ h => h) (Or.inl ⟨by rfl, ?_⟩) hS ?_
          · intro w hS; go_simp
          refine wpAnyH_take (i := 2) (v := .int .i64 k) rfl (by kernel_rfl) (by kernel_rfl) (by kernel_rfl) (fun _ _ _ h => h) (Or.inl ⟨by rfl, ?_⟩) hS ?_
          · intro w hS; go_simp
          refine wpAnyH_take (i := 3) (v := .pointer (some ⟨b, off + k * 4, none⟩)) rfl (by kernel_rfl) (by kernel_rfl) (by kernel_rfl) (fun _ _ _ h => h) (Or.inl ⟨by rfl, ?_⟩) hS ?_
          · intro w hS; go_simp
          refine wpAnyH_take (i := 4) (v := opV e.ok e.okey e.oto e.on) rfl (by kernel_rfl) (by kernel_rfl) (by kernel_rfl) (fun _ _ _ h => h) (Or.inl ⟨by rfl, ?_⟩) hS ?_
          · intro w hS; go_simp
          refine wpAnyH_ready (rs := [5, 10]) (by kernel_rfl) (by simp) ?_
          refine AllReadyH.cons rfl (fun K hK => ?_) (AllReadyH.cons rfl (fun K hK => ?_) (AllReadyH.nil))
          · go_simp
            refine (HC.out V0).mono ?_
            rintro y V1 ⟨rfl, hb⟩
            have k1 := k0.trans hb
            go_simp
            refine hK.out _ _ (HSA.out _ k1) (fun hS => ?_)
            clear hK K
            clear hb
            refine wpAnyH_take (i := 6) (v := .tuple #[arrV (doneVals t e), .int .i64 an, .int .i64 0]) rfl (by kernel_rfl) (by kernel_rfl) (by kernel_rfl) (fun _ _ _ h => h) (Or.inl ⟨by rfl, ?_⟩) hS ?_
            · intro w hS; go_simp
            refine wpAnyH_take (i := 7) (v := arrV (doneVals t e)) rfl (by kernel_rfl) (by kernel_rfl) (by kernel_rfl) (fun _ _ _ h => h) (Or.inl ⟨by rfl, ?_⟩) hS ?_
            · intro w hS; go_simp
            refine wpAnyH_take (i := 8) (v := .int .i64 an) rfl (by kernel_rfl) (by kernel_rfl) (by kernel_rfl) (fun _ _ _ h => h) (Or.inl ⟨by rfl, ?_⟩) hS ?_
            · intro w hS; go_simp
            refine wpAnyH_take (i := 9) (v := .int .i64 0) rfl (by kernel_rfl) (by kernel_rfl) (by kernel_rfl) (fun _ _ _ h => h) (Or.inl ⟨by rfl, ?_⟩) hS ?_
            · intro w hS; go_simp
            refine wpAnyH_ready (rs := [10]) (by kernel_rfl) (by simp) ?_
            refine AllReadyH.cons rfl (fun K hK => ?_) (AllReadyH.nil)
            go_simp
            have hb : Keeps V1 (V1.alloc (.cells #[.int .i64 0, .int .i64 0, .int .i64 0, .int .i64 0] 22)) := (Keeps.refl _).alloc _
            have HQ2 : Hid (VBox V1.heap.size zeroSt (V1.alloc (.cells #[.int .i64 0, .int .i64 0, .int .i64 0, .int .i64 0] 22))) := VBox.new V1 zeroSt 22
            generalize V1.alloc (.cells #[.int .i64 0, .int .i64 0, .int .i64 0, .int .i64 0] 22) = V2 at *
            have k2 := k1.trans hb
            refine hK.out _ _ (HSA.out _ k2) (fun hS => ?_)
            clear hK K
            clear hb
            refine wpAnyH_ready (rs := [11]) (by kernel_rfl) (by simp) ?_
            refine AllReadyH.cons rfl (fun K hK => ?_) (AllReadyH.nil)
            have z0 := HQ2.out.c0
            have z1 := HQ2.out.c1
            have z2 := HQ2.out.c2
            have z3 := HQ2.out.c3
            have zf := HQ2.out.fz
            have zl := HQ2.out.lt
            go_simp
            have BP := HQ2.out.put (stepV t e)
            have BT : But V1.heap.size V2 _ := BP.2
            have KF := But.to k2 k1.size BT
            refine hK.out _ _ (HSA.out _ KF) (fun hS => ?_)
            clear hK K
            refine wpAnyH_take (i := 12) (v := .int .i64 an) rfl (by kernel_rfl) (by kernel_rfl) (by kernel_rfl) (fun _ _ _ h => h) (Or.inl ⟨by rfl, ?_⟩) hS ?_
            · intro w hS; go_simp
            refine wpAnyH_take (i := 13) (v := .int .i64 0) rfl (by kernel_rfl) (by kernel_rfl) (by kernel_rfl) (fun _ _ _ h => h) (Or.inl ⟨by rfl, ?_⟩) hS ?_
            · intro w hS; go_simp
            refine wpAnyH_done (by kernel_rfl) ?_ _
            go_wp2_with fail
            go_meet
            exact ⟨rfl, _, rfl, BP.1, KF, k1.size⟩
          · go_simp
            have hb : Keeps V0 (V0.alloc (.cells #[.int .i64 0, .int .i64 0, .int .i64 0, .int .i64 0] 22)) := (Keeps.refl _).alloc _
            have HQ1 : Hid (VBox V0.heap.size zeroSt (V0.alloc (.cells #[.int .i64 0, .int .i64 0, .int .i64 0, .int .i64 0] 22))) := VBox.new V0 zeroSt 22
            generalize V0.alloc (.cells #[.int .i64 0, .int .i64 0, .int .i64 0, .int .i64 0] 22) = V1 at *
            have k1 := k0.trans hb
            refine hK.out _ _ (HSA.out _ k1) (fun hS => ?_)
            clear hK K
            clear hb
            refine wpAnyH_ready (rs := [5]) (by kernel_rfl) (by simp) ?_
            refine AllReadyH.cons rfl (fun K hK => ?_) (AllReadyH.nil)
            go_simp
            refine (HC.out V1).mono ?_
            rintro y V2 ⟨rfl, hb⟩
            have k2 := k1.trans hb
            go_simp
            refine hK.out _ _ (HSA.out _ k2) (fun hS => ?_)
            clear hK K
            have HQ2 : Hid (VBox V0.heap.size zeroSt V2) := HQ1.out.keep hb
            clear hb
            refine wpAnyH_take (i := 6) (v := .tuple #[arrV (doneVals t e), .int .i64 an, .int .i64 0]) rfl (by kernel_rfl) (by kernel_rfl) (by kernel_rfl) (fun _ _ _ h => h) (Or.inl ⟨by rfl, ?_⟩) hS ?_
            · intro w hS; go_simp
            refine wpAnyH_take (i := 7) (v := arrV (doneVals t e)) rfl (by kernel_rfl) (by kernel_rfl) (by kernel_rfl) (fun _ _ _ h => h) (Or.inl ⟨by rfl, ?_⟩) hS ?_
            · intro w hS; go_simp
            refine wpAnyH_take (i := 8) (v := .int .i64 an) rfl (by kernel_rfl) (by kernel_rfl) (by kernel_rfl) (fun _ _ _ h => h) (Or.inl ⟨by rfl, ?_⟩) hS ?_
            · intro w hS; go_simp
            refine wpAnyH_take (i := 9) (v := .int .i64 0) rfl (by kernel_rfl) (by kernel_rfl) (by kernel_rfl) (fun _ _ _ h => h) (Or.inl ⟨by rfl, ?_⟩) hS ?_
            · intro w hS; go_simp
            refine wpAnyH_ready (rs := [11]) (by kernel_rfl) (by simp) ?_
            refine AllReadyH.cons rfl (fun K hK => ?_) (AllReadyH.nil)
            have z0 := HQ2.out.c0
            have z1 := HQ2.out.c1
            have z2 := HQ2.out.c2
            have z3 := HQ2.out.c3
            have zf := HQ2.out.fz
            have zl := HQ2.out.lt
            go_simp
            have BP := HQ2.out.put (stepV t e)
            have BT : But V0.heap.size V2 _ := BP.2
            have KF := But.to k2 k0.size BT
            refine hK.out _ _ (HSA.out _ KF) (fun hS => ?_)
            clear hK K
            refine wpAnyH_take (i := 12) (v := .int .i64 an) rfl (by kernel_rfl) (by kernel_rfl) (by kernel_rfl) (fun _ _ _ h => h) (Or.inl ⟨by rfl, ?_⟩) hS ?_
            · intro w hS; go_simp
            refine wpAnyH_take (i := 13) (v := .int .i64 0) rfl (by kernel_rfl) (by kernel_rfl) (by kernel_rfl) (fun _ _ _ h => h) (Or.inl ⟨by rfl, ?_⟩) hS ?_
            · intro w hS; go_simp
            refine wpAnyH_done (by kernel_rfl) ?_ _
            go_wp2_with fail
            go_meet
            exact ⟨rfl, _, rfl, BP.1, KF, k0.size⟩
        case rest =>
          obtain ⟨rfl, nb, rfl, hN, hkc, hnb⟩ := hcut
          have HB2 := HB.out.keep hkc
          have HBc : Hid (VBox vb t wc) := HB2
          have HNc : Hid (VBox nb (stepV t e) wc) := hN
          have hvl := HB.out.lt
          have n0 := hN.c0
          have n1 := hN.c1
          have n2 := hN.c2
          have n3 := hN.c3
          have nl := hN.lt
          have b0 := HB2.c0
          have b1 := HB2.c1
          have b2 := HB2.c2
          have b3 := HB2.c3
          have bz := HB2.fz
          have bl := HB2.lt
          have hne1 : (nb = vb) = False := eq_false (by omega)
          have hne2 : (vb = nb) = False := eq_false (by omega)
          have HKc : Hid (Keeps w3 wc) := HKw.out.trans hkc
          have hvw : w3.heap.size ≤ vb := by rw [HVB.out]; exact Nat.le_refl _
          clear hN HB2 hkc HSA HC
          go_wp2_with fail
          have BP := HBc.out.put (stepV t e)
          go_roundw
          case rel => exact ⟨k + 1, by omega, by go_num, by rw [HNX.out]; exact BP.1, But.to HKc.out hvw BP.2⟩
          case measure => simp [intOf]; omega
      · have hkn : k = D.length := by have := HN.out; omega
        have hB := HB.out
        rw [hkn, List.take_length] at hB
        have hX := HX3.out.keep HKw.out
        obtain ⟨⟨e0, e1, e2, e3⟩, _⟩ := HV.out
        have b0 := hB.c0
        have b1 := hB.c1
        have b2 := hB.c2
        have b3 := hB.c3
        rw [e0] at b0
        rw [e1] at b1
        rw [e2] at b2
        rw [e3] at b3
        have HX := (show Hid _ from hX)
        have HVV : Hid (∀ W, Keeps wr W → W.cell? ⟨vb, 0, none⟩ = some (.int .i64 u.v0) ∧ W.cell? ⟨vb, 1, none⟩ = some (.int .i64 u.v1) ∧ W.cell? ⟨vb, 2, none⟩ = some (.int .i64 u.v2) ∧ W.cell? ⟨vb, 3, none⟩ = some (.int .i64 u.v3)) := fun W hk => ⟨cell_kept b0 hk, cell_kept b1 hk, cell_kept b2 hk, cell_kept b3 hk⟩
        clear b0 b1 b2 b3 e0 e1 e2 e3 hB hX HB HV
        go_wp2_with fail
        refine (trace_begun wr).mono ?_
        rintro y w5 ⟨rfl, hb⟩
        obtain ⟨b0, b1, b2, b3⟩ := HVV.out w5 hb
        have hx := HX.out.keep hb
        have x2 := hx.c2
        have x3 := hx.c3
        have x4 := hx.c4
        have x5 := hx.c5
        have xl := hx.lt
        have he := sameV_c
        have HK5 : Hid (Keeps w w5) := (HK3.out.trans HKw.out).trans hb
        have bl := World.block_lt_of_cell? _ _ b0
        simp only [] at bl
        clear hb hx
        go_wp2_with fail
        go_ret
        exact ⟨rfl, HK5.out⟩
end Go.Proofs.Yteabfjpajgakiac

/- A number is done twice only by two sessions: plain mathematics. -/
set_option linter.unusedSimpArgs false
set_option linter.unusedVariables false
set_option maxRecDepth 10000
namespace Go.Proofs.Yteabfjpajgakiac
open Go.RowKit

/-- If a client has a session, this number is acknowledged there, or its answer is kept. -/
def Held (c q : Int) (s : St) : Prop := ∀ f ∈ s.tab, f.client = c → q ≤ f.acked ∨ ∃ v, (q, v) ∈ f.kept

theorem Held.tick {c q : Int} {s : St} (h : Held c q s) (t : Int) : Held c q (ticked s t) := by
  intro f hf hc
  simp only [ticked, freshTab] at hf
  exact h f ((List.mem_filter.1 hf).1) hc

theorem keptPut_mem {l : List (Int × Int)} {q v : Int} {r : Int × Int} (h : r ∈ l) : r ∈ keptPut l q v := by
  unfold keptPut
  rw [← List.take_append_drop (posOf l q) l] at h
  rcases List.mem_append.1 h with h | h
  · exact List.mem_append.2 (.inl h)
  · exact List.mem_append.2 (.inr (List.mem_cons_of_mem _ h))
theorem keptPut_self {l : List (Int × Int)} {q v : Int} : (q, v) ∈ keptPut l q v := List.mem_append.2 (.inr (List.mem_cons_self ..))

theorem pair_kept {s : Ses} (h : sesErr s = 0) : s.kept.Pairwise (fun a b => a.1 < b.1) := by
  have hr := keptOk_rises (ses_right h).2.2.2
  rw [List.pairwise_iff_getElem]
  intro i j hi hj hij
  exact hr i j hi hj hij

theorem find_at {s : St} {c : Int} {f : Ses} (hf : findSes s.tab c = some f) : ∃ k, ∃ hk : k < s.tab.length, s.tab[k] = f := by
  obtain ⟨h1, _⟩ := findSes_mem hf
  exact List.mem_iff_getElem.1 h1

/-- A call leaves a session of that client as it makes it. -/
theorem call_tab {s : St} {e : Ent} {f x : Ses} (h : stErr s = 0) (he : entErr e = 0) (hk : e.kind = 2) (hf : findSes s.tab e.client = some f) (hx : x ∈ (callSt s e).tab) : (x ∈ s.tab ∧ x.client ≠ e.client) ∨ x = callSes s f e := by
  obtain ⟨k, hkl, hkf⟩ := find_at hf
  have hf' := hf
  rw [← hkf] at hf'
  have h1 := (call_found h he hk hkl hf').1
  rw [h1, hkf] at hx
  simp only [] at hx
  obtain ⟨j, hj, hjx⟩ := List.mem_iff_getElem.1 hx
  rw [List.getElem_set] at hjx
  split at hjx
  · exact .inr hjx.symm
  · rename_i hne
    left
    rw [List.length_set] at hj
    refine ⟨hjx ▸ List.getElem_mem hj, ?_⟩
    have hp := List.pairwise_iff_getElem.1 (tab_pair h)
    have hcl := (findSes_mem hf).2
    rw [← hkf] at hcl
    rw [← hjx, ← hcl]
    rcases Nat.lt_or_gt_of_ne hne with h2 | h2
    · have := hp k j hkl hj h2
      omega
    · have := hp j k hj hkl h2
      omega

/-- Behind a call by which an op was done. -/
theorem held_done {s : St} {e : Ent} (h : bothErr s e = 0) (hd : oneDone s e = true) : Held e.client e.seq (oneSt s e) := by
  obtain ⟨b1, b2, b3⟩ := both_right h
  have ht := (ent_right b2).2.1
  have hT := ticked_right b1 ht.1 ht.2 b3
  have hk := ((one_vals h).2 hd).1
  have e0 : oneSt s e = callSt (ticked s e.time) e := by simp [oneSt, h, takenSt, hk]
  have e1 : oneDone s e = callDone (ticked s e.time) e := by simp [oneDone, h, takenDone, hk]
  rw [e1] at hd
  rw [e0]
  cases hf : findSes (ticked s e.time).tab e.client with
  | none => rw [(call_none hf).2.2] at hd; cases hd
  | some f =>
    have hd' : ansDone (calledSes (ticked s e.time) f e) e = true := by
      unfold callDone at hd
      rw [hf] at hd
      exact hd
    intro x hx hc
    rcases call_tab hT b2 hk hf hx with ⟨_, hne⟩ | rfl
    · exact absurd hc hne
    · right
      refine ⟨doneAns (ticked s e.time) e, ?_⟩
      show _ ∈ ansKept (ticked s e.time) (calledSes (ticked s e.time) f e) e
      unfold ansKept
      rw [if_pos hd']
      exact keptPut_self

theorem called_held {c q : Int} {s : St} {f : Ses} {e : Ent} (h : q ≤ f.acked ∨ ∃ v, (q, v) ∈ f.kept) : q ≤ (calledSes s f e).acked ∨ ∃ v, (q, v) ∈ (calledSes s f e).kept := by
  show q ≤ max f.acked e.ack ∨ ∃ v, (q, v) ∈ keptAfter (max f.acked e.ack) f.kept
  by_cases hq : q ≤ max f.acked e.ack
  · exact .inl hq
  · rcases h with h | ⟨v, h⟩
    · exact .inl (by omega)
    · exact .inr ⟨v, List.mem_filter.2 ⟨h, by simp; omega⟩⟩

/-- Whatever comes but an Open of that client. -/
theorem held_step {c q : Int} {s : St} {e : Ent} (h : bothErr s e = 0) (hh : Held c q s) (hno : ¬ (e.kind = 1 ∧ e.client = c)) : Held c q (oneSt s e) := by
  obtain ⟨b1, b2, b3⟩ := both_right h
  have ht := (ent_right b2).2.1
  have hT := ticked_right b1 ht.1 ht.2 b3
  have hH := hh.tick e.time
  have e0 : oneSt s e = takenSt (ticked s e.time) e := by simp [oneSt, h]
  rw [e0]
  generalize ticked s e.time = t at *
  unfold takenSt
  by_cases k1 : e.kind = 1
  · simp only [k1, beq_self_eq_true, if_true]
    unfold openedSt
    split
    · rename_i hp
      intro x hx hc
      have hp0 : putErr t.tab (openSes t e.client) = 0 := by simpa using hp
      simp only [putTab_ok hp0] at hx
      rcases mem_putList hx with rfl | hx
      · exact absurd ⟨k1, hc⟩ hno
      · exact hH x hx hc
    · exact hH
  · have k1' : (e.kind == 1) = false := by simpa using k1
    by_cases k3 : e.kind = 3
    · simp only [k3, beq_self_eq_true, if_true, show ((3 : Int) == 1) = false from rfl, Bool.false_eq_true, if_false]
      unfold closedSt
      split
      · rename_i hp
        intro x hx hc
        unfold dropTab at hx
        rw [hp] at hx
        simp only [if_true] at hx
        exact hH x ((List.mem_filter.1 hx).1) hc
      · exact hH
    · have k3' : (e.kind == 3) = false := by simpa using k3
      have k2 : e.kind = 2 := by have := (ent_right b2).1; omega
      simp only [k1', k3', Bool.false_eq_true, if_false]
      cases hf : findSes t.tab e.client with
      | none => rw [(call_none hf).1]; exact hH
      | some f =>
        intro x hx hc
        rcases call_tab hT b2 k2 hf hx with ⟨hx, _⟩ | rfl
        · exact hH x hx hc
        · obtain ⟨hm, hcl⟩ := findSes_mem hf
          have hce : f.client = c := hc
          have h2 := called_held (c := c) (s := t) (e := e) (hH f hm hce)
          show q ≤ (calledSes t f e).acked ∨ ∃ v, (q, v) ∈ ansKept t (calledSes t f e) e
          rcases h2 with h2 | ⟨v, h2⟩
          · exact .inl h2
          · right
            refine ⟨v, ?_⟩
            unfold ansKept
            split
            · exact keptPut_mem h2
            · exact h2

/-- A call by that number does nothing. -/
theorem held_not {s : St} {e : Ent} (h : bothErr s e = 0) (hh : Held e.client e.seq s) : oneDone s e = false := by
  cases hd : oneDone s e with
  | false => rfl
  | true =>
    exfalso
    obtain ⟨b1, b2, b3⟩ := both_right h
    have ht := (ent_right b2).2.1
    have hT := ticked_right b1 ht.1 ht.2 b3
    have hk := ((one_vals h).2 hd).1
    have hH := hh.tick e.time
    have e1 : oneDone s e = callDone (ticked s e.time) e := by simp [oneDone, h, takenDone, hk]
    rw [e1] at hd
    generalize ticked s e.time = t at *
    cases hf : findSes t.tab e.client with
    | none => rw [(call_none hf).2.2] at hd; cases hd
    | some f =>
      obtain ⟨hm, hcl⟩ := findSes_mem hf
      have hd' : ansDone (calledSes t f e) e = true := by
        unfold callDone at hd
        rw [hf] at hd
        exact hd
      simp only [ansDone, Bool.and_eq_true, Bool.not_eq_true', decide_eq_false_iff_not] at hd'
      rcases called_held (c := e.client) (s := t) (e := e) (hH f hm hcl) with h2 | ⟨v, h2⟩
      · exact hd'.1 h2
      · have hse := (call_put hT b2 hk hf).2.1
        have hp : (calledSes t f e).kept.Pairwise (fun a b => a.1 < b.1) := (pair_kept hse).sublist (List.filter_sublist ..)
        have := (has_mem hp h2).1
        rw [hd'.2.1] at this
        cases this

/-- A number that is done twice: between the two the client has opened anew. -/
theorem life {L : List Ent} (hL : ∀ e ∈ L, entErr e = 0) (h50 : L.length ≤ 50) {i k : Nat} (hik : i < k) (hk : k < L.length) (hi : i < L.length) (di : oneDone (atSt L i) (L[i]) = true) (dk : oneDone (atSt L k) (L[k]) = true)
    (hc : (L[i]).client = (L[k]).client) (hq : (L[i]).seq = (L[k]).seq) (hno : ∀ n (hn : n < L.length), i < n → n < k → ¬ ((L[n]).kind = 1 ∧ (L[n]).client = (L[k]).client)) : False := by
  have hb : ∀ j (hj : j < L.length), bothErr (atSt L j) (L[j]) = 0 := fun j hj => by
    have hst := atSt_right hL h50 j (by omega)
    exact both_zero hst.1 (hL _ (List.getElem_mem hj)) (by rw [hst.2]; omega)
  have key : ∀ d, i + 1 + d ≤ k → Held (L[k]).client (L[k]).seq (atSt L (i + 1 + d)) := by
    intro d
    induction d with
    | zero =>
      intro _
      have := held_done (hb i hi) di
      rw [hc, hq, ← atSt_succ hi] at this
      exact this
    | succ d ih =>
      intro hd
      have hj : i + 1 + d < L.length := by omega
      have := held_step (hb _ hj) (ih (by omega)) (hno _ hj (by omega) (by omega))
      rw [← atSt_succ hj] at this
      exact this
  have h1 := key (k - (i + 1)) (by omega)
  rw [show i + 1 + (k - (i + 1)) = k by omega] at h1
  rw [held_not (hb k hk) h1] at dk
  cases dk
end Go.Proofs.Yteabfjpajgakiac

/- TraceLife: the walk. -/
set_option linter.unusedSimpArgs false
set_option linter.unusedVariables false
set_option maxRecDepth 10000
namespace Go.Proofs.Yteabfjpajgakiac
open Go.RowKit

theorem EntsAt.two {w : World} {a : Option Addr} {n c : Nat} {L : List Ent} (h : EntsAt w (.slice a L.length c) L) (hn : n < L.length) : ∃ b off, a = some ⟨b, off, none⟩ ∧ ∀ k (hk : k < L.length), w.cell? ⟨b, off + k * 9, none⟩ = some (.int .i64 (L[k]).kind) ∧ w.cell? ⟨b, off + k * 9 + 2, none⟩ = some (.int .i64 (L[k]).client) ∧ w.cell? ⟨b, off + k * 9 + 3, none⟩ = some (.int .i64 (L[k]).seq) := by
  obtain ⟨b, off, cap, hv, _⟩ := h.at hn
  injection hv with hv1 hv2 hv3
  refine ⟨b, off, hv1, fun k hk => ?_⟩
  obtain ⟨b', off', cap', hv', c0, c1, c2, c3, _⟩ := h.at hk
  injection hv' with hv1' hv2' hv3'
  rw [hv1] at hv1'
  injection hv1' with e
  injection e with e1 e2
  subst e1 e2
  exact ⟨c0, c2, c3⟩
theorem BoolsAt.two {w : World} {a : Option Addr} {n c : Nat} {L : List Bool} (h : BoolsAt w (.slice a L.length c) L) (hn : n < L.length) : ∃ b off, a = some ⟨b, off, none⟩ ∧ ∀ k (hk : k < L.length), w.cell? ⟨b, off + k, none⟩ = some (.bool (L[k])) := by
  obtain ⟨b, off, cap, hv, _⟩ := h.at hn
  injection hv with hv1 hv2 hv3
  refine ⟨b, off, hv1, fun k hk => ?_⟩
  obtain ⟨b', off', cap', hv', c0⟩ := h.at hk
  injection hv' with hv1' hv2' hv3'
  rw [hv1] at hv1'
  injection hv1' with e
  injection e with e1 e2
  subst e1 e2
  exact c0

set_option maxHeartbeats 8000000 in
theorem trace_life (L : List Ent) (a b : Int) (la : Option Addr) (lc : Nat) (w : World) (hL : EntsAt w (.slice la L.length lc) L) (a0 : -9223372036854775808 ≤ a) (a1 : a ≤ 9223372036854775807) (b0 : -9223372036854775808 ≤ b) (b1 : b ≤ 9223372036854775807) :
    Calls Try.prog 8 #[.slice la L.length lc, .int .i64 a, .int .i64 b] w fun y w' => y = .returned (.bool true) ∧ Keeps w w' := by
  have HL : Hid (EntsAt w (.slice la L.length lc) L) := hL
  have hlen := hL.2.1
  unfold maxLen at hlen
  clear hL
  go_enter Try.func8, Try.ntmps8
  go_wp2_with fail
  refine (trace_done L _ w HL.out).mono ?_
  rintro y w1 ⟨da, dc, hD, rfl, hb⟩
  have HK1 : Hid (Keeps w w1) := hb
  have HKQ := HK1
  have HD : Hid (BoolsAt w1 (.slice da (doneL L).length dc) (doneL L)) := hD
  clear hb hD
  cases q : (listErr L == 0) with
  | false =>
    have q' : (listErr L != 0) = true := by simp [bne, q]
    go_wp2_with fail
    refine (trace_begun _).mono ?_
    rintro y w9 ⟨rfl, hb⟩
    have HK9 : Hid (Keeps w w9) := HKQ.out.trans hb
    clear hb
    go_wp2_with fail
    go_ret
    exact ⟨rfl, HK9.out⟩
  | true =>
    have q' : (listErr L != 0) = false := by simp [bne, q]
    have q0 : listErr L = 0 := by simpa using q
    have HDL : Hid ((doneL L).length = L.length) := doneL_len q0
    have HAT : Hid (∀ k (hk : k < L.length) (hk' : k < (doneL L).length), (doneL L)[k] = doneB L k) := fun k hk hk' => doneL_at q0 hk hk'
    have HLR := (show Hid _ from list_right q0)
    rw [HDL.out]
    clear q0
    generalize listErr L = er at *
    by_cases hn0 : L.length = 0
    · have hn0' : ((L.length : Int) == 0) = true := by simp [hn0]
      go_wp2_with fail
      refine (trace_begun _).mono ?_
      rintro y w9 ⟨rfl, hb⟩
      have HK9 : Hid (Keeps w w9) := HKQ.out.trans hb
      clear hb
      go_wp2_with fail
      go_ret
      exact ⟨rfl, HK9.out⟩
    · have hn0' : ((L.length : Int) == 0) = false := by simp [hn0]
      have hd0 := HD.out
      have hln : (doneL L).length = L.length := HDL.out
      obtain ⟨eb, eo, rfl, hE⟩ := (HL.out.keep HK1.out).two (n := 0) (by omega)
      obtain ⟨db, dof, hda, hDc⟩ := hd0.two (n := 0) (by omega)
      subst hda
      have HE := (show Hid _ from hE)
      have HDc : Hid (∀ k, k < L.length → w1.cell? ⟨db, dof + k, none⟩ = some (.bool (doneB L k))) := fun k hk => by
        have := hDc k (by omega)
        rw [HAT.out k hk (by omega)] at this
        exact this
      clear hE hDc hd0 hln HD HAT HDL
      go_wp2_with fail
      refine (choose_n a L.length w1 a0 a1 (by omega) (by omega)).mono ?_
      rintro y w1' ⟨ri, hr0, hr1, rfl, hw⟩
      subst hw
      obtain ⟨i, rfl⟩ : ∃ i : Nat, ri = i := ⟨ri.toNat, by omega⟩
      have hi : i < L.length := by omega
      clear hr0 hr1
      go_wp2_with fail
      refine (choose_n b L.length w1 b0 b1 (by omega) (by omega)).mono ?_
      rintro y w1' ⟨rk, hr0, hr1, rfl, hw⟩
      subst hw
      obtain ⟨k, rfl⟩ : ∃ k : Nat, rk = k := ⟨rk.toNat, by omega⟩
      have hk : k < L.length := by omega
      clear hr0 hr1 a0 a1 b0 b1
      have d1 := HDc.out i hi
      have d2 := HDc.out k hk
      obtain ⟨f0, f2, f3⟩ := HE.out i hi
      obtain ⟨g0, g2, g3⟩ := HE.out k hk
      have hia : (i : Int) < (L.length : Int) := by omega
      have hka : (k : Int) < (L.length : Int) := by omega
      obtain ⟨ei, hei⟩ : ∃ e, e = L[i] := ⟨_, rfl⟩
      obtain ⟨ek, hek⟩ : ∃ e, e = L[k] := ⟨_, rfl⟩
      rw [← hei] at f0 f2 f3
      rw [← hek] at g0 g2 g3
      have HEI : Hid (ei = L[i]) := hei
      have HEK : Hid (ek = L[k]) := hek
      clear hei hek
      by_cases hik : i < k
      · have hik' : decide (k ≤ i) = false := by simp; omega
        have hikn : ¬ (k ≤ i) := by omega
        cases qd1 : doneB L i with
        | false =>
          rw [qd1] at d1
          go_wp2_with fail
          have hne := After.some w1
          have x1 := fun t : After w1 => cell_kept d1 t.h
          have x2 := fun t : After w1 => cell_kept d2 t.h
          have x3 := fun t : After w1 => cell_kept f2 t.h
          have x4 := fun t : After w1 => cell_kept g2 t.h
          have x5 := fun t : After w1 => cell_kept f3 t.h
          have x6 := fun t : After w1 => cell_kept g3 t.h
          clear d1 d2 f0 f2 f3 g0 g2 g3
          refine wp_region_after (by kernel_rfl) (by kernel_rfl) ?_
          repeat (first | go_big_quiet_skip | (go_big_quiet_want; go_big_quiet_op; go_big_quiet_on))
          refine wpQuiet_nil ?_
          rintro _ ⟨r, rfl⟩
          have HKQ : Hid (Keeps w r.w) := HK1.out.trans r.h
          go_wp2_with fail
          refine (trace_begun _).mono ?_
          rintro y w9 ⟨rfl, hb⟩
          have HK9 : Hid (Keeps w w9) := HKQ.out.trans hb
          clear hb
          go_wp2_with fail
          go_ret
          exact ⟨rfl, HK9.out⟩
        | true =>
          rw [qd1] at d1
          cases qd2 : doneB L k with
          | false =>
            rw [qd2] at d2
            go_wp2_with fail
            have hne := After.some w1
            have x1 := fun t : After w1 => cell_kept d1 t.h
            have x2 := fun t : After w1 => cell_kept d2 t.h
            have x3 := fun t : After w1 => cell_kept f2 t.h
            have x4 := fun t : After w1 => cell_kept g2 t.h
            have x5 := fun t : After w1 => cell_kept f3 t.h
            have x6 := fun t : After w1 => cell_kept g3 t.h
            clear d1 d2 f0 f2 f3 g0 g2 g3
            refine wp_region_after (by kernel_rfl) (by kernel_rfl) ?_
            repeat (first | go_big_quiet_skip | (go_big_quiet_want; go_big_quiet_op; go_big_quiet_on))
            refine wpQuiet_nil ?_
            rintro _ ⟨r, rfl⟩
            have HKQ : Hid (Keeps w r.w) := HK1.out.trans r.h
            go_wp2_with fail
            refine (trace_begun _).mono ?_
            rintro y w9 ⟨rfl, hb⟩
            have HK9 : Hid (Keeps w w9) := HKQ.out.trans hb
            clear hb
            go_wp2_with fail
            go_ret
            exact ⟨rfl, HK9.out⟩
          | true =>
            rw [qd2] at d2
            cases qc : (ei.client == ek.client) with
            | false =>
              have qc' : (ei.client != ek.client) = true := by simp [bne, qc]
              go_wp2_with fail
              have hne := After.some w1
              have x1 := fun t : After w1 => cell_kept d1 t.h
              have x2 := fun t : After w1 => cell_kept d2 t.h
              have x3 := fun t : After w1 => cell_kept f2 t.h
              have x4 := fun t : After w1 => cell_kept g2 t.h
              have x5 := fun t : After w1 => cell_kept f3 t.h
              have x6 := fun t : After w1 => cell_kept g3 t.h
              clear d1 d2 f0 f2 f3 g0 g2 g3
              refine wp_region_after (by kernel_rfl) (by kernel_rfl) ?_
              repeat (first | go_big_quiet_skip | (go_big_quiet_want; go_big_quiet_op; go_big_quiet_on))
              refine wpQuiet_nil ?_
              rintro _ ⟨r, rfl⟩
              have HKQ : Hid (Keeps w r.w) := HK1.out.trans r.h
              go_wp2_with fail
              refine (trace_begun _).mono ?_
              rintro y w9 ⟨rfl, hb⟩
              have HK9 : Hid (Keeps w w9) := HKQ.out.trans hb
              clear hb
              go_wp2_with fail
              go_ret
              exact ⟨rfl, HK9.out⟩
            | true =>
              have qc' : (ei.client != ek.client) = false := by simp [bne, qc]
              cases qs : (ei.seq == ek.seq) with
              | false =>
                have qs' : (ei.seq != ek.seq) = true := by simp [bne, qs]
                go_wp2_with fail
                have hne := After.some w1
                have x1 := fun t : After w1 => cell_kept d1 t.h
                have x2 := fun t : After w1 => cell_kept d2 t.h
                have x3 := fun t : After w1 => cell_kept f2 t.h
                have x4 := fun t : After w1 => cell_kept g2 t.h
                have x5 := fun t : After w1 => cell_kept f3 t.h
                have x6 := fun t : After w1 => cell_kept g3 t.h
                clear d1 d2 f0 f2 f3 g0 g2 g3
                refine wp_region_after (by kernel_rfl) (by kernel_rfl) ?_
                repeat (first | go_big_quiet_skip | (go_big_quiet_want; go_big_quiet_op; go_big_quiet_on))
                refine wpQuiet_nil ?_
                rintro _ ⟨r, rfl⟩
                have HKQ : Hid (Keeps w r.w) := HK1.out.trans r.h
                go_wp2_with fail
                refine (trace_begun _).mono ?_
                rintro y w9 ⟨rfl, hb⟩
                have HK9 : Hid (Keeps w w9) := HKQ.out.trans hb
                clear hb
                go_wp2_with fail
                go_ret
                exact ⟨rfl, HK9.out⟩
              | true =>
                have qs' : (ei.seq != ek.seq) = false := by simp [bne, qs]
                have HLF : Hid ((∀ n (hn : n < L.length), i < n → n < k → ¬ ((L[n]).kind = 1 ∧ (L[n]).client = ek.client)) → False) := by
                  intro h
                  refine life HLR.out.1 HLR.out.2 hik hk hi (by rw [← doneB_at hi]; exact qd1) (by rw [← doneB_at hk]; exact qd2) ?_ ?_ (by rw [← HEK.out]; exact h)
                  · rw [← HEI.out, ← HEK.out]; simpa using qc
                  · rw [← HEI.out, ← HEK.out]; simpa using qs
                go_wp2_with fail
                have hne := After.some w1
                have x1 := fun t : After w1 => cell_kept d1 t.h
                have x2 := fun t : After w1 => cell_kept d2 t.h
                have x3 := fun t : After w1 => cell_kept f2 t.h
                have x4 := fun t : After w1 => cell_kept g2 t.h
                have x5 := fun t : After w1 => cell_kept f3 t.h
                have x6 := fun t : After w1 => cell_kept g3 t.h
                clear d1 d2 f0 f2 f3 g0 g2 g3
                refine wp_region_after (by kernel_rfl) (by kernel_rfl) ?_
                repeat (first | go_big_quiet_skip | (go_big_quiet_want; go_big_quiet_op; go_big_quiet_on))
                refine wpQuiet_nil ?_
                rintro _ ⟨r, rfl⟩
                have HKQ : Hid (Keeps w r.w) := HK1.out.trans r.h
                go_wp2_with fail
                clear x1 x2 x3 x4 x5 x6 hne hia qc qc' qs qs' qd1 qd2 hik' hikn
                go_loopw [11, 12] (fun s i' wr => ∃ (m : Nat) (bb : Bool), i + 1 ≤ m ∧ m ≤ k ∧ i' = .int .i64 m ∧ s = .bool bb ∧ Hid (Keeps w1 wr) ∧ Hid (bb = false → ∀ n (hn : n < L.length), i < n → n < m → ¬ ((L[n]).kind = 1 ∧ (L[n]).client = ek.client))) (fun _ i' _ => k - (intOf i').toNat)
                case atStart => exact ⟨i + 1, false, Nat.le_refl _, hik, by go_num, rfl, r.h, fun _ n hn h1 h2 => by omega⟩
                case round =>
                  obtain ⟨m, bb, hm1, hm2, rfl, rfl, HKw, HB⟩ := hrel
                  by_cases hlt : m < k
                  · have hml : m < L.length := by omega
                    obtain ⟨m0, m2, m3⟩ := HE.out m hml
                    obtain ⟨g0, g2, g3⟩ := HE.out k hk
                    rw [← HEK.out] at g2
                    have m0 := cell_kept m0 HKw.out
                    have m2 := cell_kept m2 HKw.out
                    have g2 := cell_kept g2 HKw.out
                    have hma : (m : Int) < (L.length : Int) := by omega
                    obtain ⟨em, hem⟩ : ∃ e, e = L[m] := ⟨_, rfl⟩
                    rw [← hem] at m0 m2
                    have HEM : Hid (em = L[m]) := hem
                    clear hem m3 g0 g3
                    have HNX : Hid (∀ b2 : Bool, (b2 = false → bb = false ∧ ¬ (em.kind = 1 ∧ em.client = ek.client)) → (b2 = false → ∀ n (hn : n < L.length), i < n → n < m + 1 → ¬ ((L[n]).kind = 1 ∧ (L[n]).client = ek.client))) := by
                      intro b2 h2 hb2 n hn h3 h4
                      obtain ⟨h5, h6⟩ := h2 hb2
                      by_cases hnm : n = m
                      · subst hnm
                        rw [← HEM.out]
                        exact h6
                      · exact HB.out h5 n hn h3 (by omega)
                    clear HB
                    cases bb with
                    | true =>
                      have y1 := fun t : After wr => cell_kept m0 t.h
                      have y2 := fun t : After wr => cell_kept m2 t.h
                      have y3 := fun t : After wr => cell_kept g2 t.h
                      have hne := After.some wr
                      clear m0 m2 g2
                      go_wp2_with fail
                      refine wp_region_after (by kernel_rfl) (by kernel_rfl) ?_
                      repeat (first | go_big_quiet_skip | (go_big_quiet_want; go_big_quiet_op; go_big_quiet_on))
                      refine wpQuiet_nil ?_
                      rintro _ ⟨r2, rfl⟩
                      go_wp2_with fail
                      go_roundw
                      case rel => exact ⟨m + 1, true, by omega, by omega, by go_num, rfl, HKw.out.trans r2.h, HNX.out _ (fun h => by cases h)⟩
                      case measure => simp [intOf]; omega
                    | false =>
                      cases qk : (em.kind == 1) with
                      | false =>
                        have y1 := fun t : After wr => cell_kept m0 t.h
                        have y2 := fun t : After wr => cell_kept m2 t.h
                        have y3 := fun t : After wr => cell_kept g2 t.h
                        have hne := After.some wr
                        clear m0 m2 g2
                        go_wp2_with fail
                        refine wp_region_after (by kernel_rfl) (by kernel_rfl) ?_
                        repeat (first | go_big_quiet_skip | (go_big_quiet_want; go_big_quiet_op; go_big_quiet_on))
                        refine wpQuiet_nil ?_
                        rintro _ ⟨r2, rfl⟩
                        go_wp2_with fail
                        go_roundw
                        case rel => exact ⟨m + 1, false, by omega, by omega, by go_num, rfl, HKw.out.trans r2.h, HNX.out _ (fun _ => ⟨(by first | trivial | rfl), fun h => by rw [h.1] at qk; cases qk⟩)⟩
                        case measure => simp [intOf]; omega
                      | true =>
                        cases qe : (em.client == ek.client) with
                        | false =>
                          have y1 := fun t : After wr => cell_kept m0 t.h
                          have y2 := fun t : After wr => cell_kept m2 t.h
                          have y3 := fun t : After wr => cell_kept g2 t.h
                          have hne := After.some wr
                          clear m0 m2 g2
                          go_wp2_with fail
                          refine wp_region_after (by kernel_rfl) (by kernel_rfl) ?_
                          repeat (first | go_big_quiet_skip | (go_big_quiet_want; go_big_quiet_op; go_big_quiet_on))
                          refine wpQuiet_nil ?_
                          rintro _ ⟨r2, rfl⟩
                          go_wp2_with fail
                          go_roundw
                          case rel => exact ⟨m + 1, false, by omega, by omega, by go_num, rfl, HKw.out.trans r2.h, HNX.out _ (fun _ => ⟨(by first | trivial | rfl), fun h => by rw [h.2] at qe; simp at qe⟩)⟩
                          case measure => simp [intOf]; omega
                        | true =>
                          have y1 := fun t : After wr => cell_kept m0 t.h
                          have y2 := fun t : After wr => cell_kept m2 t.h
                          have y3 := fun t : After wr => cell_kept g2 t.h
                          have hne := After.some wr
                          clear m0 m2 g2
                          go_wp2_with fail
                          refine wp_region_after (by kernel_rfl) (by kernel_rfl) ?_
                          repeat (first | go_big_quiet_skip | (go_big_quiet_want; go_big_quiet_op; go_big_quiet_on))
                          refine wpQuiet_nil ?_
                          rintro _ ⟨r2, rfl⟩
                          go_wp2_with fail
                          go_roundw
                          case rel => exact ⟨m + 1, true, by omega, by omega, by go_num, rfl, HKw.out.trans r2.h, HNX.out _ (fun h => by cases h)⟩
                          case measure => simp [intOf]; omega
                  · have hmk : m = k := by omega
                    subst hmk
                    have hbb : bb = true := by
                      cases bb with
                      | true => rfl
                      | false => exact (HLF.out (HB.out rfl)).elim
                    subst hbb
                    have HKQ : Hid (Keeps w wr) := HK1.out.trans HKw.out
                    go_wp2_with fail
                    refine (trace_begun _).mono ?_
                    rintro y w9 ⟨rfl, hb⟩
                    have HK9 : Hid (Keeps w w9) := HKQ.out.trans hb
                    clear hb
                    go_wp2_with fail
                    go_ret
                    exact ⟨rfl, HK9.out⟩
      · have hik' : decide (k ≤ i) = true := by simp; omega
        have hikn : k ≤ i := by omega
        go_wp2_with fail
        have hne := After.some w1
        have x1 := fun t : After w1 => cell_kept d1 t.h
        have x2 := fun t : After w1 => cell_kept d2 t.h
        have x3 := fun t : After w1 => cell_kept f2 t.h
        have x4 := fun t : After w1 => cell_kept g2 t.h
        have x5 := fun t : After w1 => cell_kept f3 t.h
        have x6 := fun t : After w1 => cell_kept g3 t.h
        clear d1 d2 f0 f2 f3 g0 g2 g3
        refine wp_region_after (by kernel_rfl) (by kernel_rfl) ?_
        repeat (first | go_big_quiet_skip | (go_big_quiet_want; go_big_quiet_op; go_big_quiet_on))
        refine wpQuiet_nil ?_
        rintro _ ⟨r, rfl⟩
        have HKQ : Hid (Keeps w r.w) := HK1.out.trans r.h
        go_wp2_with fail
        refine (trace_begun _).mono ?_
        rintro y w9 ⟨rfl, hb⟩
        have HK9 : Hid (Keeps w w9) := HKQ.out.trans hb
        clear hb
        go_wp2_with fail
        go_ret
        exact ⟨rfl, HK9.out⟩
end Go.Proofs.Yteabfjpajgakiac
