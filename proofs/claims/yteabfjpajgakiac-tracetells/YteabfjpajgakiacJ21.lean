/- TrC, TrD, TrE, TrF, TrG. -/
import Derived.Test.YteabfjpajgakiacJ13
import Derived.Test.YteabfjpajgakiacJ14
import Derived.Test.YteabfjpajgakiacJ19
import Derived.Test.YteabfjpajgakiacJ20
/- trace.Ops. -/
set_option linter.unusedSimpArgs false
set_option linter.unusedVariables false
set_option maxRecDepth 10000
namespace Go.Proofs.Yteabfjpajgakiac
open Go.RowKit Go.Shelf
attribute [local go_sem] Oper.semAt_some

/-- The entries by which an op was done, of the first i. -/
def doersTo (L : List Ent) : Nat → List Ent
  | 0 => []
  | i + 1 => if doneB L i then doersTo L i ++ [(L[i]?).getD zeroEnt] else doersTo L i
theorem doersTo_none {L : List Ent} {i : Nat} (hi : i < L.length) (h : oneDone (atSt L i) (L[i]) = false) : doersTo L (i + 1) = doersTo L i := by
  simp only [doersTo, doneB_at hi, h]
  rfl
theorem doersTo_some {L : List Ent} {i : Nat} (hi : i < L.length) (h : oneDone (atSt L i) (L[i]) = true) : doersTo L (i + 1) = doersTo L i ++ [L[i]] := by
  simp only [doersTo, doneB_at hi, h, List.getElem?_eq_getElem hi]
  rfl
theorem doersTo_len (L : List Ent) : ∀ i, (doersTo L i).length ≤ i
  | 0 => Nat.le_refl _
  | i + 1 => by
    have := doersTo_len L i
    simp only [doersTo]
    split
    · simp; omega
    · omega
def doersL (L : List Ent) : List Ent := if listErr L == 0 then doersTo L L.length else []

def opCells : List Ent → List Value
  | [] => []
  | e :: r => .int .i64 e.ok :: .int .i64 e.okey :: .int .i64 e.oto :: .int .i64 e.on :: opCells r
theorem opCells_len : ∀ l : List Ent, (opCells l).length = l.length * 4
  | [] => rfl
  | _ :: r => by simp only [opCells, List.length_cons, opCells_len r]; omega
theorem opCells_append : ∀ (l m : List Ent), opCells (l ++ m) = opCells l ++ opCells m
  | [], m => rfl
  | _ :: r, m => by simp only [opCells, List.cons_append, opCells_append r m]
theorem opCells_drop : ∀ (l : List Ent) (k : Nat), (opCells l).drop (k * 4) = opCells (l.drop k)
  | l, 0 => by simp
  | [], k + 1 => by simp [opCells]
  | e :: r, k + 1 => by
    rw [show (k + 1) * 4 = k * 4 + 1 + 1 + 1 + 1 from by omega]
    simp only [opCells, List.drop_succ_cons]
    exact opCells_drop r k
def OpsRow (w : World) (v : Value) (l : List Ent) : Prop := RowAt w 4 v l.length (opCells l)
theorem OpsRow.keep {w w' : World} {v : Value} {l : List Ent} (h : OpsRow w v l) (hk : Keeps w w') : OpsRow w' v l := RowAt.keep h hk
theorem OpsRow.of {w : World} {base : Nat} {v : Value} {l : List Ent} (h : w.ownsRow base 55 4 v l.length (opCells l)) : OpsRow w v l := RowAt.of_owns h
theorem OpsRow.at {w : World} {v : Value} {L : List Ent} (h : OpsRow w v L) {k : Nat} (hk : k < L.length) :
    ∃ b off cap, v = .slice (some ⟨b, off, none⟩) L.length cap ∧ w.cell? ⟨b, off + k * 4, none⟩ = some (.int .i64 (L[k]).ok) ∧ w.cell? ⟨b, off + k * 4 + 1, none⟩ = some (.int .i64 (L[k]).okey) ∧ w.cell? ⟨b, off + k * 4 + 2, none⟩ = some (.int .i64 (L[k]).oto) ∧ w.cell? ⟨b, off + k * 4 + 3, none⟩ = some (.int .i64 (L[k]).on) := by
  obtain ⟨b, off, cap, rfl, h3⟩ := RowAt.plain h (by rw [opCells_len]; omega)
  refine ⟨b, off, cap, rfl, ?_⟩
  have hd : (opCells L).drop (k * 4) = opCells (L[k] :: L.drop (k + 1)) := by rw [opCells_drop, List.drop_eq_getElem_cons hk]
  have go : ∀ i u, (opCells (L[k] :: L.drop (k + 1)))[i]? = some u → w.cell? ⟨b, off + k * 4 + i, none⟩ = some u := by
    intro i u hu
    rw [← hd, List.getElem?_drop] at hu
    rw [Nat.add_assoc]
    exact h3 _ _ hu
  exact ⟨go 0 _ rfl, go 1 _ rfl, go 2 _ rfl, go 3 _ rfl⟩
theorem infoOp : (Try.prog.info? 55).map (fun i => (i.zero, i.size, i.bytes)) = some (some (.agg #[.int .i64 0, .int .i64 0, .int .i64 0, .int .i64 0]), 4, 32) := by kernel_rfl

/-- An append of an op to a row of its own. -/
theorem app_op {F : Fence} {n : Nat} {ops : Array Oper} {rest : List Oper} {o : Oper} {a : Act} {Q : Exit → Act → World → Prop} (w : World) (hg : o.guard = none) (s x : Operand) (hop : o.op = Op.call { callee := Callee.builtin Builtin.append, args := #[s, x], argTypes := #[42, 42] })
    (base : Nat) (v : Value) (k : Nat) (xs : List Value) (hs : a.eval s = v) (hown : w.ownsRow base 55 4 v k xs) (b : Nat) (p q r t : Int) (hx : a.eval x = .slice (some ⟨b, 0, none⟩) 1 1) (c0 : w.cell? ⟨b, 0, none⟩ = some (.int .i64 p)) (c1 : w.cell? ⟨b, 1, none⟩ = some (.int .i64 q)) (c2 : w.cell? ⟨b, 2, none⟩ = some (.int .i64 r)) (c3 : w.cell? ⟨b, 3, none⟩ = some (.int .i64 t)) (hk : k ≤ 1000) (hb : base ≤ w.heap.size)
    (hK : ∀ v' w', w'.ownsRow base 55 4 v' (k + 1) (xs ++ [.int .i64 p, .int .i64 q, .int .i64 r, .int .i64 t]) → w.grownBy w' v.ownBlock → wpListIn F n Try.prog ops Q rest (a.put o.dst v') w') : wpListIn F n Try.prog ops Q (o :: rest) a w := by
  obtain ⟨i0, hi0, hz0, hz01, hz02⟩ := info_parts infoOp
  refine wpListIn_append_own w hg s x 42 hop base 55 i0 (.agg #[.int .i64 0, .int .i64 0, .int .i64 0, .int .i64 0]) 4 32 Try.underlying42 hi0 hz0 hz01 hz02 rfl (by decide) v k xs hs hown ⟨b, 0, none⟩ 1 1 [.int .i64 p, .int .i64 q, .int .i64 r, .int .i64 t] hx rfl ?_ (by simp [Value.oneCell']) (by unfold maxLen; omega) (by omega) hb (fun v' w' h1 h2 _ => hK v' w' h1 h2)
  intro j u hu
  match j, hu with
  | 0, hu => cases hu; exact c0
  | 1, hu => cases hu; exact c1
  | 2, hu => cases hu; exact c2
  | 3, hu => cases hu; exact c3

/-- Behind an append to a row of its own: the box where it is to be stored. -/
theorem stands_op {ba n1 : Nat} {v v' : Value} {W w3 : World} {o : Obj} {m n : Nat} {xs ys : List Value} (hA : OneBox ba v W) (hr : (W.alloc o).ownsRow n1 55 4 v n ys) (hown' : w3.ownsRow n1 55 4 v' m xs) (hg : (W.alloc o).grownBy w3 v.ownBlock) (h1 : ba < n1) :
    ∃ ga gc, v' = .slice ga m gc ∧ w3.cell? ⟨ba, 0, none⟩ = some v ∧ ∀ i, w3.frozen? ⟨ba, i, none⟩ = false := by
  obtain ⟨ga, gc, h, _⟩ := (RowAt.of_owns hown').len
  have hb : w3.heap[ba]? = W.heap[ba]? := (hg.block ba (by have := hA.lt; simp; omega) (fun e => by have := (hr.lt _ e.symm).1; omega)).trans (Below.heap_alloc _ _ _ hA.lt)
  have := hA.same hb
  exact ⟨ga, gc, h, this.1, this.2⟩

/-- What stands between two rounds of Ops' loop. -/
structure OpsAt (L : List Ent) (w : World) (bo D l : Nat) (r : Loop) (bS i : Nat) (W : World) : Prop where
  row : ∃ av, OneBox bo av W ∧ W.ownsRow (bS + 1) 55 4 av (doersTo L i).length (opCells (doersTo L i))
  loop : W.heap[l]? = some (.loop r)
  mark : W.heap[D]? = some (.deferred (some []))
  keeps : Keeps w W
  far : bo < bS ∧ D < bS ∧ l < bS ∧ w.heap.size ≤ bS

theorem OpsAt.but {L : List Ent} {w : World} {bo D l : Nat} {r : Loop} {bS i : Nat} {W W' : World} (h : OpsAt L w bo D l r bS i W) (hb : But bS W W') : OpsAt L w bo D l r bS i W' := by
  obtain ⟨f1, f2, f3, f4⟩ := h.far
  obtain ⟨av, h1, h2⟩ := h.row
  exact ⟨⟨av, h1.same (hb.block bo h1.lt (by omega)), owns_far h2 (by omega) hb⟩, (hb.block l (Array.getElem?_eq_some_iff.1 h.loop).1 (by omega)).trans h.loop, (hb.block D (Array.getElem?_eq_some_iff.1 h.mark).1 (by omega)).trans h.mark, But.to h.keeps f4 hb, h.far⟩

set_option maxHeartbeats 1000000 in
theorem trace_ops (L : List Ent) (v : Value) (w : World) (hL : EntsAt w v L) :
    Calls Try.prog 19 #[v] w fun y w' => ∃ da dc, OpsRow w' (.slice da (doersL L).length dc) (doersL L) ∧ y = .returned (.tuple #[.slice da (doersL L).length dc, .int .i64 (listErr L)]) ∧ Keeps w w' := by
  obtain ⟨la, lc, rfl, hlen⟩ := hL.len
  unfold maxLen at hlen
  have HL : Hid (EntsAt w (.slice la L.length lc) L) := hL
  have HD : Hid (doersL L = if listErr L == 0 then doersTo L L.length else []) := rfl
  clear hL
  refine (callsIn_wide (n := 3)).1 ?_
  refine callsIn_of_wp_marks Try.func19 rfl trivial ?_ rfl
  simp only [Try.ntmps19, List.size_toArray, List.length_cons, List.length_nil, Nat.reduceAdd, Nat.reduceSub, Array.replicate_succ, Array.replicate_zero, List.push_toArray, List.append_toArray, List.nil_append, List.cons_append]
  gi_wp2
  refine ⟨trivial, CallsIn.mono (callsIn_wide.2 (fold_check L _ w HL.out)) ?_⟩
  rintro y w1 ⟨rfl, hb⟩
  have HK1 : Hid (Keeps w w1) := hb
  clear hb
  cases q : (listErr L == 0) with
  | false =>
    have q' : (listErr L != 0) = true := by simp [bne, q]
    have H1 : Hid (doersL L = []) := by show _ = _; rw [HD.out, q]; rfl
    gi_wp2
    refine ⟨.tuple #[.slice none 0 0, .int .i64 (listErr L)], ?_, ?_⟩
    · simp [results, Try.results19, go_sem]
    · rw [H1.out]
      exact ⟨none, 0, ⟨rfl, by unfold maxLen; simp, .inl ⟨rfl, rfl⟩⟩, rfl, HK1.out⟩
  | true =>
    have q' : (listErr L != 0) = false := by simp [bne, q]
    have q0 : listErr L = 0 := by simpa using q
    obtain ⟨hE, h50⟩ := list_right q0
    have H1 : Hid (doersL L = doersTo L L.length ∧ listErr L = 0) := ⟨by rw [HD.out, q]; rfl, q0⟩
    have HER : Hid (∀ e ∈ L, entErr e = 0) := hE
    clear hE q0
    gi_wp2
    obtain ⟨W4, hW4⟩ : ∃ z, z = w1.alloc (.cells #[.slice none 0 0] 42) := ⟨_, rfl⟩
    have hz4 : W4.heap.size = w1.heap.size + 1 := by rw [hW4]; simp
    have k14 : Keeps w1 W4 := by rw [hW4]; exact (Keeps.refl _).alloc _
    have A4 : OneBox w1.heap.size (.slice none 0 0) W4 := by rw [hW4]; exact ⟨by simp [go_sem], fun i => by simp [go_sem]⟩
    rw [← hW4]
    clear hW4
    refine ⟨trivial, CallsIn.mono (callsIn_wide.2 (doers_made la L.length lc W4)) ?_⟩
    rintro y W5 ⟨rfl, hW5⟩
    have hz5 : W5.heap.size = w1.heap.size + 2 := by rw [hW5]; simp [hz4]
    have k45 : Keeps W4 W5 := by rw [hW5]; exact (Keeps.refl _).alloc _
    have L5 : W5.cell? ⟨w1.heap.size + 1, 0, none⟩ = some (.slice la L.length lc) := by rw [hW5]; simp [go_sem, hz4]
    rw [hz4]
    have HA5 : Hid (OneBox w1.heap.size (.slice none 0 0) W5) := A4.same (k45.block _ A4.lt)
    have HK5 : Hid (Keeps w W5) := HK1.out.trans (k14.trans k45)
    have HE5 : Hid (W5.cell? ⟨w1.heap.size + 1, 0, none⟩ = some (.slice la L.length lc)) := L5
    have hw1 := HK1.out.size
    clear A4 L5 k14 k45 hW5 hz4
    clear W4
    gi_wp2
    refine range_walk rfl (by decide) (gf := 62) (lb := #[.pointer (some ⟨w1.heap.size + 1, 0, none⟩)]) rfl trivial (enters_of Try.func62 (by kernel_rfl) rfl) ?_
    intro r hrf hrs hrp e1 e2 e3 e4
    have HRS : Hid (r.state = .ready) := hrs
    have HRP : Hid (r.pending = none) := hrp
    have k56 : Keeps W5 ((W5.alloc (.deferred (some []))).alloc (.loop r)) := ((Keeps.refl _).alloc _).alloc _
    have l6 : ((W5.alloc (.deferred (some []))).alloc (.loop r)).heap[W5.heap.size + 1]? = some (.loop r) := by
      have := World.alloc_heap_new (W5.alloc (.deferred (some []))) (.loop r)
      rwa [World.size_alloc] at this
    have d6 : ((W5.alloc (.deferred (some []))).alloc (.loop r)).heap[W5.heap.size]? = some (.deferred (some [])) := (Below.heap_alloc _ _ _ (by simp)).trans (World.alloc_heap_new W5 _)
    have hz6 : ((W5.alloc (.deferred (some []))).alloc (.loop r)).heap.size = W5.heap.size + 2 := by simp
    generalize ((W5.alloc (.deferred (some []))).alloc (.loop r)) = W6 at *
    have J0 : ∀ V bS, Keeps W6 V → W6.heap.size ≤ bS → OpsAt L w w1.heap.size W5.heap.size (W5.heap.size + 1) r bS 0 V := by
      intro V bS hk hbS
      have kV := k56.trans hk
      have hzV := hk.size
      exact ⟨⟨_, HA5.out.same (kV.block _ HA5.out.lt), World.ownsRow_nil _ _ _ _⟩, (hk.block _ (by omega)).trans l6, (hk.block _ (by omega)).trans d6, HK5.out.trans kV, by refine ⟨?_, ?_, ?_, ?_⟩ <;> omega⟩
    refine CallsIn.mono (doers_in 2 (W5.heap.size + 1) (w1.heap.size + 1) L la lc HER.out h50 w HL.out (OpsAt L w w1.heap.size W5.heap.size (W5.heap.size + 1) r) (fun bS i W W' h hb => h.but hb) (fun bS i W hi hdn h => ⟨by rw [doersTo_none hi hdn]; exact h.row, h.loop, h.mark, h.keeps, h.far⟩) ?yield W6 (HK5.out.trans k56) (cell_kept HE5.out k56) J0) ?done
    case done =>
      rintro e W7 ⟨hv, bS, hJ⟩
      refine ⟨hv, hJ.loop, ?_⟩
      obtain ⟨f1, f2, f3, f4⟩ := hJ.far
      obtain ⟨av, hab, hrow⟩ := hJ.row
      have bt8 : But (W5.heap.size + 1) W7 (W7.putObj (W5.heap.size + 1) (.loop { r with state := .exhausted })) := But.put _ _ _
      generalize (W7.putObj (W5.heap.size + 1) (.loop { r with state := .exhausted })) = W8 at *
      have HA8 : Hid (OneBox w1.heap.size av W8) := hab.same (bt8.block _ hab.lt (by omega))
      have HR8 : Hid (W8.ownsRow (bS + 1) 55 4 av (doersTo L L.length).length (opCells (doersTo L L.length))) := owns_far hrow (by omega) bt8
      have HK8 : Hid (Keeps w W8) := But.to hJ.keeps (by omega) bt8
      have HD8 : Hid (W8.heap[W5.heap.size]? = some (.deferred (some []))) := (bt8.block _ (Array.getElem?_eq_some_iff.1 hJ.mark).1 (by omega)).trans hJ.mark
      clear bt8 hJ J0 k56 l6 d6 hz6 hrow hab
      obtain ⟨aa, ac, rfl, _⟩ := (RowAt.of_owns HR8.out).len
      have a0 := HA8.out.1
      have al := HA8.out.lt
      gi_wp2
      refine ⟨by simp, .inl ⟨_, _, rfl, run_takeDeferred (by rw [← hz5]; exact HD8.out), ?_⟩⟩
      have BD := But.put W8 (w1.heap.size + 2) (.deferred none)
      refine ⟨.tuple #[.slice aa (doersTo L L.length).length ac, .int .i64 0], ?_, ?_⟩
      · simp [results, Try.results19, go_sem]
      · rw [H1.out.1, H1.out.2]
        exact ⟨aa, ac, OpsRow.of (owns_far HR8.out (by omega) BD), rfl, But.to HK8.out (by omega) BD⟩
    case yield =>
      intro bS i Wb W1 hi hdn hJb hk hb0 hbS hK0
      have hJ1 := hJb.but (But.of hk)
      refine yield_round hJ1.loop HRS.out HRP.out trivial e1 e2 e3 e4 rfl ?_
      intro rb
      clear e1 e2 e3 e4 hrs hrp hrf HRS HRP J0
      obtain ⟨f1, f2, f3, f4⟩ := hJb.far
      obtain ⟨av, hab, hrow⟩ := hJ1.row
      have hrB := fun k (h : av.ownBlock = some k) => (hrow.lt k h).1
      have hrT : ∀ k, av.ownBlock = some k → k < Wb.heap.size := by
        obtain ⟨av', hab', hrow'⟩ := hJb.row
        have : av = av' := by
          have h1 := hab.1
          rw [cell_kept hab'.1 hk] at h1
          injection h1 with h1
          exact h1.symm
        subst this
        exact fun k h => (hrow'.lt k h).2
      obtain ⟨pa, pc, rfl, _⟩ := (RowAt.of_owns hrow).len
      have HKb : Hid (Keeps Wb W1) := hk
      have HDN : Hid (doersTo L (i + 1) = doersTo L i ++ [L[i]]) := doersTo_some hi hdn
      have HLP : Hid (W1.heap[W5.heap.size + 1]? = some (.loop r)) := hJ1.loop
      have HMK : Hid (W1.heap[W5.heap.size]? = some (.deferred (some []))) := hJ1.mark
      have HKW : Hid (Keeps w W1) := hJ1.keeps
      have HAB : Hid (OneBox w1.heap.size (.slice pa (doersTo L i).length pc) W1) := hab
      have HRW : Hid (W1.ownsRow (bS + 1) 55 4 (.slice pa (doersTo L i).length pc) (doersTo L i).length (opCells (doersTo L i))) := hrow
      have HRB : Hid (∀ k, (Value.slice pa (doersTo L i).length pc).ownBlock = some k → bS + 1 ≤ k) := hrB
      have HRT : Hid (∀ k, (Value.slice pa (doersTo L i).length pc).ownBlock = some k → k < Wb.heap.size) := hrT
      have HZ5 : Hid (W5.heap.size = w1.heap.size + 2 ∧ w.heap.size ≤ w1.heap.size ∧ w1.heap.size < bS ∧ W5.heap.size < bS ∧ W5.heap.size + 1 < bS ∧ bS < Wb.heap.size ∧ Wb.heap.size ≤ W1.heap.size) := ⟨hz5, hw1, f1, f2, f3, hbS, hk.size⟩
      have hln : (doersTo L i).length ≤ 50 := by have := doersTo_len L i; omega
      clear hdn hJ1 hJb hk hz5 hab hrow hrB hrT hw1 f1 f2 f3 f4 hb0 hbS hK0
      generalize hnl : (doersTo L i).length = nl at *
      have HNL : Hid ((doersTo L i).length = nl) := hnl
      clear hnl
      generalize L[i] = e at *
      gi_wp2
      obtain ⟨WA, hWA⟩ : ∃ z, z = W1.alloc (.cells #[.int .i64 e.kind, .int .i64 e.time, .int .i64 e.client, .int .i64 e.seq, .int .i64 e.ack, .int .i64 e.ok, .int .i64 e.okey, .int .i64 e.oto, .int .i64 e.on] 57) := ⟨_, rfl⟩
      have kA : Keeps W1 WA := by rw [hWA]; exact (Keeps.refl _).alloc _
      have TA : EntBox W1.heap.size e WA := by rw [hWA]; exact EntBox.new W1 e 57
      rw [← hWA]
      clear hWA
      refine ⟨(kA.block _ (Array.getElem?_eq_some_iff.1 HLP.out).1).trans HLP.out, ?_⟩
      obtain ⟨x1, x2, x3, x4, x5, x6, x7⟩ := HZ5.out
      have hzA := kA.size
      have bB : But (W5.heap.size + 1) WA (WA.putObj (W5.heap.size + 1) (.loop rb)) := But.put _ _ _
      have lB : (WA.putObj (W5.heap.size + 1) (.loop rb)).heap[W5.heap.size + 1]? = some (.loop rb) := World.putObj_heap_same (by omega)
      generalize (WA.putObj (W5.heap.size + 1) (.loop rb)) = WB at *
      have TB := TA.but bB (by omega)
      have AB : OneBox w1.heap.size (.slice pa nl pc) WB := (HAB.out.same (kA.block _ HAB.out.lt)).same (bB.block _ (by omega) (by omega))
      have RB := owns_far (owns_keep HRW.out kA) (by omega) bB
      have HLOOP : Hid (WB.heap[W5.heap.size + 1]? = some (.loop rb)) := lB
      have HKA : Hid (Keeps W1 WA) := kA
      have HBB : Hid (But (W5.heap.size + 1) WA WB) := bB
      have HAB2 : Hid (OneBox w1.heap.size (.slice pa nl pc) WB) := AB
      have HRB2 : Hid ((WB.alloc (.cells #[.int .i64 e.ok, .int .i64 e.okey, .int .i64 e.oto, .int .i64 e.on] 55)).ownsRow (bS + 1) 55 4 (.slice pa nl pc) nl (opCells (doersTo L i))) := owns_keep RB ((Keeps.refl _).alloc _)
      have c5 := TB.c5
      have c6 := TB.c6
      have c7 := TB.c7
      have c8 := TB.c8
      have cl := TB.lt
      have a0 := AB.1
      have al := AB.lt
      have hszB : bS + 1 ≤ WB.heap.size + 1 := by have := bB.size; omega
      clear TB AB RB lB kA bB TA x1 x2 x3 x4 x5 x6 x7 hzA
      gi_wp2_with (gi_at_builtin; refine app_op _ rfl _ _ rfl (bS + 1) (.slice pa nl pc) nl _ rfl HRB2.out _ e.ok e.okey e.oto e.on rfl (by simp [go_sem]) (by simp [go_sem]) (by simp [go_sem]) (by simp [go_sem]) (by omega) (by simp; omega) ?_; intro v' w3 hown' hg3; obtain ⟨ga, gc, rfl, hw0, hwz⟩ := stands_op HAB2.out HRB2.out hown' hg3 (by have := HZ5.out; omega); have HOWN := (show Hid _ from hown'); have HG3 := (show Hid _ from hg3); clear hown' hg3)
      obtain ⟨x1, x2, x3, x4, x5, x6, x7⟩ := HZ5.out
      have hown := HOWN.out
      have bA : But w1.heap.size w3 (w3.setCell ⟨w1.heap.size, 0, none⟩ (.slice ga (nl + 1) gc)) := (But.refl _ _).set 0 _
      have AE : OneBox w1.heap.size (.slice ga (nl + 1) gc) (w3.setCell ⟨w1.heap.size, 0, none⟩ (.slice ga (nl + 1) gc)) := OneBox.set ⟨hw0, hwz⟩ _
      have RE := owns_far hown (by omega) bA
      have hk1 := HKA.out.size
      have hk2 := HBB.out.size
      have hrow1 : ∀ k, (Value.slice pa nl pc).ownBlock = some k → bS + 1 ≤ k ∧ k < Wb.heap.size := fun k hk => ⟨HRB.out k hk, HRT.out k hk⟩
      have SB : Spares (fun k => k ≠ w1.heap.size ∧ some k ≠ (Value.slice pa nl pc).ownBlock) WB (w3.setCell ⟨w1.heap.size, 0, none⟩ (.slice ga (nl + 1) gc)) :=
        ((Spares.of ((Keeps.refl _).alloc _)).trans (Spares.grown HG3.out (fun b e h => h.2 e.symm))).trans (Spares.but bA (fun h => h.1 rfl))
      generalize (w3.setCell ⟨w1.heap.size, 0, none⟩ (.slice ga (nl + 1) gc)) = WE at *
      have hLE : WE.heap[W5.heap.size + 1]? = some (.loop rb) := (SB.block _ (Array.getElem?_eq_some_iff.1 HLOOP.out).1 ⟨by omega, fun e => by have := (hrow1 _ e.symm).1; omega⟩).trans HLOOP.out
      have hlE := (Array.getElem?_eq_some_iff.1 hLE).1
      have BF : But (W5.heap.size + 1) WE (WE.putObj (W5.heap.size + 1) (.loop r)) := But.put _ _ _
      have hLF : (WE.putObj (W5.heap.size + 1) (.loop r)).heap[W5.heap.size + 1]? = some (.loop r) := World.putObj_heap_same hlE
      refine ⟨hLE, ?_⟩
      generalize (WE.putObj (W5.heap.size + 1) (.loop r)) = WF at *
      have SF : Spares (fun k => k ≠ w1.heap.size ∧ k ≠ W5.heap.size + 1 ∧ some k ≠ (Value.slice pa nl pc).ownBlock) W1 WF :=
        (((Spares.of HKA.out).trans (Spares.but HBB.out (fun h => h.2.1 rfl))).trans (SB.mono (fun k _ h => ⟨h.1, h.2.2⟩))).trans (Spares.but BF (fun h => h.2.1 rfl))
      refine ⟨⟨⟨.slice ga (nl + 1) gc, AE.same (BF.block _ AE.lt (by omega)), ?_⟩, hLF, ?_, ?_, by refine ⟨?_, ?_, ?_, ?_⟩ <;> omega⟩, ?_⟩
      · rw [HDN.out, List.length_append, HNL.out, opCells_append]
        exact owns_far RE (by omega) BF
      · exact (SF.block _ (Array.getElem?_eq_some_iff.1 HMK.out).1 ⟨by omega, by omega, fun e => by have := (hrow1 _ e.symm).1; omega⟩).trans HMK.out
      · exact SF.keeps HKW.out (fun k hk => ⟨by omega, by omega, fun e => by have := (hrow1 _ e.symm).1; omega⟩)
      · exact SF.mono (fun k hk h => ⟨by rcases h with h | h | h <;> omega, by rcases h with h | h | h <;> omega, fun e => by have := hrow1 _ e.symm; rcases h with h | h | h <;> omega⟩)
end Go.Proofs.Yteabfjpajgakiac

/- trace.Once. -/
set_option linter.unusedSimpArgs false
set_option linter.unusedVariables false
set_option maxRecDepth 10000
namespace Go.Proofs.Yteabfjpajgakiac
open Go.RowKit Go.Shelf
attribute [local go_sem] Oper.semAt_some

/-- How many of the first i did an op of that client by that number. -/
def onceTo (L : List Ent) (c q : Int) (i : Nat) : Int := ((doersTo L i).filter (fun e => e.client == c && e.seq == q)).length
theorem onceTo_le (L : List Ent) (c q : Int) (i : Nat) : 0 ≤ onceTo L c q i ∧ onceTo L c q i ≤ i := by
  unfold onceTo
  have h1 := List.length_filter_le (fun e : Ent => e.client == c && e.seq == q) (doersTo L i)
  have h2 := doersTo_len L i
  omega
theorem onceTo_some {L : List Ent} {c q : Int} {i : Nat} (hi : i < L.length) (h : oneDone (atSt L i) (L[i]) = true) : onceTo L c q (i + 1) = onceTo L c q i + if ((L[i]).client == c && (L[i]).seq == q) then 1 else 0 := by
  unfold onceTo
  rw [doersTo_some hi h, List.filter_append]
  cases hh : ((L[i]).client == c && (L[i]).seq == q) with
  | true => simp [List.filter_cons, hh]
  | false => simp [List.filter_cons, hh]
def onceErr (L : List Ent) (c q : Int) : Int := if listErr L == 0 then (if inB c 1 5 && inB q 1 60 then 0 else 3) else listErr L
def onceN (L : List Ent) (c q : Int) : Int := if onceErr L c q == 0 then onceTo L c q L.length else 0

/-- What stands between two rounds of Once's loop. -/
structure OnceAt (L : List Ent) (c q : Int) (w : World) (bc D l : Nat) (r : Loop) (bS i : Nat) (W : World) : Prop where
  count : OneBox bc (.int .i64 (onceTo L c q i)) W
  client : OneBox w.heap.size (.int .i64 c) W
  seq : OneBox (w.heap.size + 1) (.int .i64 q) W
  loop : W.heap[l]? = some (.loop r)
  mark : W.heap[D]? = some (.deferred (some []))
  keeps : Keeps w W
  far : bc < bS ∧ D < bS ∧ l < bS ∧ w.heap.size + 2 ≤ bc

theorem OnceAt.but {L : List Ent} {c q : Int} {w : World} {bc D l : Nat} {r : Loop} {bS i : Nat} {W W' : World} (h : OnceAt L c q w bc D l r bS i W) (hb : But bS W W') : OnceAt L c q w bc D l r bS i W' := by
  obtain ⟨f1, f2, f3, f4⟩ := h.far
  exact ⟨h.count.same (hb.block _ h.count.lt (by omega)), h.client.same (hb.block _ h.client.lt (by omega)), h.seq.same (hb.block _ h.seq.lt (by omega)), (hb.block l (Array.getElem?_eq_some_iff.1 h.loop).1 (by omega)).trans h.loop, (hb.block D (Array.getElem?_eq_some_iff.1 h.mark).1 (by omega)).trans h.mark, But.to h.keeps (by omega) hb, h.far⟩

set_option maxHeartbeats 1000000 in
theorem trace_once (L : List Ent) (c q : Int) (v : Value) (w : World) (hL : EntsAt w v L) :
    Calls Try.prog 25 #[v, .int .i64 c, .int .i64 q] w fun y w' => y = .returned (.tuple #[.int .i64 (onceN L c q), .int .i64 (onceErr L c q)]) ∧ Keeps w w' := by
  obtain ⟨la, lc, rfl, hlen⟩ := hL.len
  unfold maxLen at hlen
  have HL : Hid (EntsAt w (.slice la L.length lc) L) := hL
  have HE : Hid (onceErr L c q = if listErr L == 0 then (if inB c 1 5 && inB q 1 60 then 0 else 3) else listErr L) := rfl
  have HN : Hid (onceN L c q = if onceErr L c q == 0 then onceTo L c q L.length else 0) := rfl
  clear hL
  refine (callsIn_wide (n := 3)).1 ?_
  refine callsIn_of_wp_marks Try.func25 rfl trivial ?_ rfl
  simp only [Try.ntmps25, List.size_toArray, List.length_cons, List.length_nil, Nat.reduceAdd, Nat.reduceSub, Array.replicate_succ, Array.replicate_zero, List.push_toArray, List.append_toArray, List.nil_append, List.cons_append]
  gi_wp2
  obtain ⟨W0, hW0⟩ : ∃ z, z = (w.alloc (.cells #[.int .i64 c] 3)).alloc (.cells #[.int .i64 q] 3) := ⟨_, rfl⟩
  have k0 : Keeps w W0 := by rw [hW0]; exact ((Keeps.refl _).alloc _).alloc _
  have C0 : OneBox w.heap.size (.int .i64 c) W0 := by rw [hW0]; exact ⟨by simp [go_sem], fun i => by simp [go_sem]⟩
  have Q0 : OneBox (w.heap.size + 1) (.int .i64 q) W0 := by rw [hW0]; exact ⟨by simp [go_sem], fun i => by simp [go_sem]⟩
  rw [← hW0]
  clear hW0
  refine ⟨trivial, CallsIn.mono (callsIn_wide.2 (fold_check L _ W0 (HL.out.keep k0))) ?_⟩
  rintro y w1 ⟨rfl, hb⟩
  have HK1 : Hid (Keeps w w1) := k0.trans hb
  have HC1 : Hid (OneBox w.heap.size (.int .i64 c) w1) := C0.same (hb.block _ C0.lt)
  have HQ1 : Hid (OneBox (w.heap.size + 1) (.int .i64 q) w1) := Q0.same (hb.block _ Q0.lt)
  clear hb k0 C0 Q0
  clear W0
  have c0 := HC1.out.1
  have cl := HC1.out.lt
  have q0 := HQ1.out.1
  have ql := HQ1.out.lt
  cases q1 : (listErr L == 0) with
  | false =>
    have q' : (listErr L != 0) = true := by simp [bne, q1]
    have H1 : Hid (onceErr L c q = listErr L ∧ onceN L c q = 0) := by
      have h1 : onceErr L c q = listErr L := by rw [HE.out, q1]; rfl
      exact ⟨h1, by rw [HN.out, h1, q1]; rfl⟩
    gi_wp2
    refine ⟨.tuple #[.int .i64 0, .int .i64 (listErr L)], ?_, ?_⟩
    · simp [results, Try.results25, go_sem]
    · rw [H1.out.1, H1.out.2]
      exact ⟨rfl, HK1.out⟩
  | true =>
    have q' : (listErr L != 0) = false := by simp [bne, q1]
    have qz : listErr L = 0 := by simpa using q1
    obtain ⟨hE, h50⟩ := list_right qz
    have HER : Hid (∀ e ∈ L, entErr e = 0) := hE
    clear hE qz
    cases qc : (inB c 1 5 && inB q 1 60) with
    | false =>
      have H1 : Hid (onceErr L c q = 3 ∧ onceN L c q = 0) := by
        have h1 : onceErr L c q = 3 := by rw [HE.out, q1, qc]; rfl
        exact ⟨h1, by rw [HN.out, h1]; rfl⟩
      cases qcc : inB c 1 5 with
      | false =>
        gi_wp2
        refine ⟨trivial, CallsIn.mono (callsIn_wide.2 (bound_in c 1 5 w1)) ?_⟩
        rintro y w2 ⟨rfl, rfl⟩
        rw [qcc]
        gi_wp2
        refine ⟨trivial, ?_⟩
        go_at_K
        gi_wp2
        refine ⟨.tuple #[.int .i64 0, .int .i64 3], ?_, ?_⟩
        · simp [results, Try.results25, go_sem]
        · rw [H1.out.1, H1.out.2]
          exact ⟨rfl, HK1.out⟩
      | true =>
        have qqq : inB q 1 60 = false := by rw [qcc] at qc; simpa using qc
        gi_wp2
        refine ⟨trivial, CallsIn.mono (callsIn_wide.2 (bound_in c 1 5 w1)) ?_⟩
        rintro y w2 ⟨rfl, rfl⟩
        rw [qcc]
        gi_wp2
        refine ⟨trivial, CallsIn.mono (callsIn_wide.2 (bound_in q 1 60 w1)) ?_⟩
        rintro y w2 ⟨rfl, rfl⟩
        rw [qqq]
        gi_wp2
        refine ⟨.tuple #[.int .i64 0, .int .i64 3], ?_, ?_⟩
        · simp [results, Try.results25, go_sem]
        · rw [H1.out.1, H1.out.2]
          exact ⟨rfl, HK1.out⟩
    | true =>
      have H1 : Hid (onceErr L c q = 0 ∧ onceN L c q = onceTo L c q L.length) := by
        have h1 : onceErr L c q = 0 := by rw [HE.out, q1, qc]; rfl
        exact ⟨h1, by rw [HN.out, h1]; rfl⟩
      have qcc : inB c 1 5 = true := by simp only [Bool.and_eq_true] at qc; exact qc.1
      have qqq : inB q 1 60 = true := by simp only [Bool.and_eq_true] at qc; exact qc.2
      clear qc
      gi_wp2
      refine ⟨trivial, CallsIn.mono (callsIn_wide.2 (bound_in c 1 5 w1)) ?_⟩
      rintro y w2 ⟨rfl, rfl⟩
      rw [qcc]
      gi_wp2
      refine ⟨trivial, CallsIn.mono (callsIn_wide.2 (bound_in q 1 60 w1)) ?_⟩
      rintro y w2 ⟨rfl, rfl⟩
      rw [qqq]
      gi_wp2
      clear c0 cl q0 ql qcc qqq
      obtain ⟨W4, hW4⟩ : ∃ z, z = w1.alloc (.cells #[.int .i64 0] 3) := ⟨_, rfl⟩
      have hz4 : W4.heap.size = w1.heap.size + 1 := by rw [hW4]; simp
      have k14 : Keeps w1 W4 := by rw [hW4]; exact (Keeps.refl _).alloc _
      have A4 : OneBox w1.heap.size (.int .i64 0) W4 := by rw [hW4]; exact ⟨by simp [go_sem], fun i => by simp [go_sem]⟩
      rw [← hW4]
      clear hW4
      refine ⟨trivial, CallsIn.mono (callsIn_wide.2 (doers_made la L.length lc W4)) ?_⟩
      rintro y W5 ⟨rfl, hW5⟩
      have hz5 : W5.heap.size = w1.heap.size + 2 := by rw [hW5]; simp [hz4]
      have k45 : Keeps W4 W5 := by rw [hW5]; exact (Keeps.refl _).alloc _
      have L5 : W5.cell? ⟨w1.heap.size + 1, 0, none⟩ = some (.slice la L.length lc) := by rw [hW5]; simp [go_sem, hz4]
      rw [hz4]
      have HA5 : Hid (OneBox w1.heap.size (.int .i64 0) W5) := A4.same (k45.block _ A4.lt)
      have HC5 : Hid (OneBox w.heap.size (.int .i64 c) W5) := HC1.out.same ((k14.trans k45).block _ HC1.out.lt)
      have HQ5 : Hid (OneBox (w.heap.size + 1) (.int .i64 q) W5) := HQ1.out.same ((k14.trans k45).block _ HQ1.out.lt)
      have HK5 : Hid (Keeps w W5) := HK1.out.trans (k14.trans k45)
      have HE5 : Hid (W5.cell? ⟨w1.heap.size + 1, 0, none⟩ = some (.slice la L.length lc)) := L5
      have hw1 : w.heap.size + 2 ≤ w1.heap.size := by have := HQ1.out.lt; omega
      clear A4 L5 k14 k45 hW5 hz4 HC1 HQ1
      clear W4
      gi_wp2
      refine range_walk rfl (by decide) (gf := 62) (lb := #[.pointer (some ⟨w1.heap.size + 1, 0, none⟩)]) rfl trivial (enters_of Try.func62 (by kernel_rfl) rfl) ?_
      intro r hrf hrs hrp e1 e2 e3 e4
      have HRS : Hid (r.state = .ready) := hrs
      have HRP : Hid (r.pending = none) := hrp
      have k56 : Keeps W5 ((W5.alloc (.deferred (some []))).alloc (.loop r)) := ((Keeps.refl _).alloc _).alloc _
      have l6 : ((W5.alloc (.deferred (some []))).alloc (.loop r)).heap[W5.heap.size + 1]? = some (.loop r) := by
        have := World.alloc_heap_new (W5.alloc (.deferred (some []))) (.loop r)
        rwa [World.size_alloc] at this
      have d6 : ((W5.alloc (.deferred (some []))).alloc (.loop r)).heap[W5.heap.size]? = some (.deferred (some [])) := (Below.heap_alloc _ _ _ (by simp)).trans (World.alloc_heap_new W5 _)
      have hz6 : ((W5.alloc (.deferred (some []))).alloc (.loop r)).heap.size = W5.heap.size + 2 := by simp
      generalize ((W5.alloc (.deferred (some []))).alloc (.loop r)) = W6 at *
      have J0 : ∀ V bS, Keeps W6 V → W6.heap.size ≤ bS → OnceAt L c q w w1.heap.size W5.heap.size (W5.heap.size + 1) r bS 0 V := by
        intro V bS hk hbS
        have kV := k56.trans hk
        have hzV := hk.size
        exact ⟨HA5.out.same (kV.block _ HA5.out.lt), HC5.out.same (kV.block _ HC5.out.lt), HQ5.out.same (kV.block _ HQ5.out.lt), (hk.block _ (by omega)).trans l6, (hk.block _ (by omega)).trans d6, HK5.out.trans kV, by refine ⟨?_, ?_, ?_, ?_⟩ <;> omega⟩
      refine CallsIn.mono (doers_in 2 (W5.heap.size + 1) (w1.heap.size + 1) L la lc HER.out h50 w HL.out (OnceAt L c q w w1.heap.size W5.heap.size (W5.heap.size + 1) r) (fun bS i W W' h hb => h.but hb) (fun bS i W hi hdn h => ⟨by have := h.count; unfold onceTo at *; rw [doersTo_none hi hdn]; exact this, h.client, h.seq, h.loop, h.mark, h.keeps, h.far⟩) ?yield W6 (HK5.out.trans k56) (cell_kept HE5.out k56) J0) ?done
      case done =>
        rintro e W7 ⟨hv, bS, hJ⟩
        refine ⟨hv, hJ.loop, ?_⟩
        have bt8 : But (W5.heap.size + 1) W7 (W7.putObj (W5.heap.size + 1) (.loop { r with state := .exhausted })) := But.put _ _ _
        generalize (W7.putObj (W5.heap.size + 1) (.loop { r with state := .exhausted })) = W8 at *
        have HA8 : Hid (OneBox w1.heap.size (.int .i64 (onceTo L c q L.length)) W8) := hJ.count.same (bt8.block _ hJ.count.lt (by omega))
        have HK8 : Hid (Keeps w W8) := But.to hJ.keeps (by omega) bt8
        have HD8 : Hid (W8.heap[W5.heap.size]? = some (.deferred (some []))) := (bt8.block _ (Array.getElem?_eq_some_iff.1 hJ.mark).1 (by omega)).trans hJ.mark
        clear bt8 hJ J0 k56 l6 d6 hz6
        have a0 := HA8.out.1
        have al := HA8.out.lt
        gi_wp2
        refine ⟨by simp, .inl ⟨_, _, rfl, run_takeDeferred (by rw [← hz5]; exact HD8.out), ?_⟩⟩
        have BD := But.put W8 (w1.heap.size + 2) (.deferred none)
        refine ⟨.tuple #[.int .i64 (onceTo L c q L.length), .int .i64 0], ?_, ?_⟩
        · simp [results, Try.results25, go_sem]
        · rw [H1.out.1, H1.out.2]
          exact ⟨rfl, But.to HK8.out (by omega) BD⟩
      case yield =>
        intro bS i Wb W1 hi hdn hJb hk hb0 hbS hK0
        have hJ1 := hJb.but (But.of hk)
        refine yield_round hJ1.loop HRS.out HRP.out trivial e1 e2 e3 e4 rfl ?_
        intro rb
        clear e1 e2 e3 e4 hrs hrp hrf HRS HRP J0
        have hcb := onceTo_le L c q i
        have HJ1 := (show Hid _ from hJ1)
        have HFR := (show Hid _ from hJb.far)
        have HCT : Hid (OneBox w1.heap.size (.int .i64 (onceTo L c q i)) W1) := hJ1.count
        have HKb : Hid (Keeps Wb W1) := hk
        have HDN : Hid (onceTo L c q (i + 1) = onceTo L c q i + if ((L[i]).client == c && (L[i]).seq == q) then 1 else 0) := onceTo_some hi hdn
        have HZ5 : Hid (W5.heap.size = w1.heap.size + 2 ∧ w.heap.size + 2 ≤ w1.heap.size ∧ bS < Wb.heap.size ∧ Wb.heap.size ≤ W1.heap.size) := ⟨hz5, hw1, hbS, hk.size⟩
        clear hdn hJ1 hJb hk hz5 hw1 hb0 hbS hK0
        generalize hoc : onceTo L c q i = oc at *
        clear hoc
        generalize L[i] = e at *
        gi_wp2
        obtain ⟨WA, hWA⟩ : ∃ z, z = W1.alloc (.cells #[.int .i64 e.kind, .int .i64 e.time, .int .i64 e.client, .int .i64 e.seq, .int .i64 e.ack, .int .i64 e.ok, .int .i64 e.okey, .int .i64 e.oto, .int .i64 e.on] 57) := ⟨_, rfl⟩
        have kA : Keeps W1 WA := by rw [hWA]; exact (Keeps.refl _).alloc _
        have TA : EntBox W1.heap.size e WA := by rw [hWA]; exact EntBox.new W1 e 57
        rw [← hWA]
        clear hWA
        refine ⟨(kA.block _ (Array.getElem?_eq_some_iff.1 HJ1.out.loop).1).trans HJ1.out.loop, ?_⟩
        obtain ⟨x1, x2, x3, x4⟩ := HZ5.out
        obtain ⟨y1, y2, y3, y4⟩ := HFR.out
        have hzA := kA.size
        have bB : But (W5.heap.size + 1) WA (WA.putObj (W5.heap.size + 1) (.loop rb)) := But.put _ _ _
        have lB : (WA.putObj (W5.heap.size + 1) (.loop rb)).heap[W5.heap.size + 1]? = some (.loop rb) := World.putObj_heap_same (by omega)
        generalize (WA.putObj (W5.heap.size + 1) (.loop rb)) = WB at *
        have TB := TA.but bB (by omega)
        have CB : OneBox w1.heap.size (.int .i64 oc) WB := (HCT.out.same (kA.block _ HCT.out.lt)).same (bB.block _ (by omega) (by omega))
        have LB : OneBox w.heap.size (.int .i64 c) WB := (HJ1.out.client.same (kA.block _ HJ1.out.client.lt)).same (bB.block _ (by omega) (by omega))
        have QB : OneBox (w.heap.size + 1) (.int .i64 q) WB := (HJ1.out.seq.same (kA.block _ HJ1.out.seq.lt)).same (bB.block _ (by omega) (by omega))
        have HLOOP : Hid (WB.heap[W5.heap.size + 1]? = some (.loop rb)) := lB
        have HKA : Hid (Keeps W1 WA) := kA
        have HBB : Hid (But (W5.heap.size + 1) WA WB) := bB
        have HCB : Hid (OneBox w1.heap.size (.int .i64 oc) WB) := CB
        have c2 := TB.c2
        have c3 := TB.c3
        have cl := TB.lt
        have a0 := CB.1
        have az := CB.2
        have al := CB.lt
        have l0 := LB.1
        have ll := LB.lt
        have s0 := QB.1
        have sl := QB.lt
        clear TB CB LB QB lB kA bB TA x1 x2 x3 x4 y1 y2 y3 y4 hzA
        cases qe : (e.client == c && e.seq == q) with
        | true =>
          simp only [Bool.and_eq_true] at qe
          obtain ⟨qe1, qe2⟩ := qe
          have HD2 : Hid (onceTo L c q (i + 1) = oc + 1) := by show _ = _; rw [HDN.out, qe1, qe2]; rfl
          gi_wp2
          have hz := HZ5.out
          have hf := HFR.out
          have bA : But w1.heap.size WB (WB.setCell ⟨w1.heap.size, 0, none⟩ (.int .i64 (oc + 1))) := (But.refl _ _).set 0 _
          have AE : OneBox w1.heap.size (.int .i64 (oc + 1)) (WB.setCell ⟨w1.heap.size, 0, none⟩ (.int .i64 (oc + 1))) := OneBox.set HCB.out _
          generalize (WB.setCell ⟨w1.heap.size, 0, none⟩ (.int .i64 (oc + 1))) = WE at *
          have hLE : WE.heap[W5.heap.size + 1]? = some (.loop rb) := (bA.block _ (Array.getElem?_eq_some_iff.1 HLOOP.out).1 (by omega)).trans HLOOP.out
          have hlE := (Array.getElem?_eq_some_iff.1 hLE).1
          have BF : But (W5.heap.size + 1) WE (WE.putObj (W5.heap.size + 1) (.loop r)) := But.put _ _ _
          have hLF : (WE.putObj (W5.heap.size + 1) (.loop r)).heap[W5.heap.size + 1]? = some (.loop r) := World.putObj_heap_same hlE
          refine ⟨hLE, ?_⟩
          generalize (WE.putObj (W5.heap.size + 1) (.loop r)) = WF at *
          have SF : Spares (fun k => k ≠ w1.heap.size ∧ k ≠ W5.heap.size + 1) W1 WF := (((Spares.of HKA.out).trans (Spares.but HBB.out (fun h => h.2 rfl))).trans (Spares.but bA (fun h => h.1 rfl))).trans (Spares.but BF (fun h => h.2 rfl))
          have hJ := HJ1.out
          refine ⟨⟨by rw [HD2.out]; exact AE.same (BF.block _ AE.lt (by omega)), hJ.client.same (SF.block _ hJ.client.lt ⟨by omega, by omega⟩), hJ.seq.same (SF.block _ hJ.seq.lt ⟨by omega, by omega⟩), hLF, (SF.block _ (Array.getElem?_eq_some_iff.1 hJ.mark).1 ⟨by omega, by omega⟩).trans hJ.mark, SF.keeps hJ.keeps (fun k hk => ⟨by omega, by omega⟩), HFR.out⟩, ?_⟩
          exact SF.mono (fun k hk h => ⟨by rcases h with h | h | h <;> omega, by rcases h with h | h | h <;> omega⟩)
        | false =>
          have HD2 : Hid (onceTo L c q (i + 1) = oc) := by show _ = _; rw [HDN.out, qe]; simp
          cases qe1 : (e.client == c) with
          | false =>
            gi_wp2
            have hz := HZ5.out
            have hf := HFR.out
            have bA : But w1.heap.size WB WB := But.refl _ _
            have AE := HCB.out
            obtain ⟨WE, hWE⟩ : ∃ z, z = WB := ⟨_, rfl⟩
            have bA : But w1.heap.size WB WE := by rw [hWE]; exact But.refl _ _
            rw [← hWE] at AE ⊢
            clear hWE
            have hLE : WE.heap[W5.heap.size + 1]? = some (.loop rb) := (bA.block _ (Array.getElem?_eq_some_iff.1 HLOOP.out).1 (by omega)).trans HLOOP.out
            have hlE := (Array.getElem?_eq_some_iff.1 hLE).1
            have BF : But (W5.heap.size + 1) WE (WE.putObj (W5.heap.size + 1) (.loop r)) := But.put _ _ _
            have hLF : (WE.putObj (W5.heap.size + 1) (.loop r)).heap[W5.heap.size + 1]? = some (.loop r) := World.putObj_heap_same hlE
            refine ⟨hLE, ?_⟩
            generalize (WE.putObj (W5.heap.size + 1) (.loop r)) = WF at *
            have SF : Spares (fun k => k ≠ w1.heap.size ∧ k ≠ W5.heap.size + 1) W1 WF := (((Spares.of HKA.out).trans (Spares.but HBB.out (fun h => h.2 rfl))).trans (Spares.but bA (fun h => h.1 rfl))).trans (Spares.but BF (fun h => h.2 rfl))
            have hJ := HJ1.out
            refine ⟨⟨by rw [HD2.out]; exact AE.same (BF.block _ AE.lt (by omega)), hJ.client.same (SF.block _ hJ.client.lt ⟨by omega, by omega⟩), hJ.seq.same (SF.block _ hJ.seq.lt ⟨by omega, by omega⟩), hLF, (SF.block _ (Array.getElem?_eq_some_iff.1 hJ.mark).1 ⟨by omega, by omega⟩).trans hJ.mark, SF.keeps hJ.keeps (fun k hk => ⟨by omega, by omega⟩), HFR.out⟩, ?_⟩
            exact SF.mono (fun k hk h => ⟨by rcases h with h | h | h <;> omega, by rcases h with h | h | h <;> omega⟩)
          | true =>
            have qe2 : (e.seq == q) = false := by rw [qe1] at qe; simpa using qe
            gi_wp2
            have hz := HZ5.out
            have hf := HFR.out
            have AE := HCB.out
            obtain ⟨WE, hWE⟩ : ∃ z, z = WB := ⟨_, rfl⟩
            have bA : But w1.heap.size WB WE := by rw [hWE]; exact But.refl _ _
            rw [← hWE] at AE ⊢
            clear hWE
            have hLE : WE.heap[W5.heap.size + 1]? = some (.loop rb) := (bA.block _ (Array.getElem?_eq_some_iff.1 HLOOP.out).1 (by omega)).trans HLOOP.out
            have hlE := (Array.getElem?_eq_some_iff.1 hLE).1
            have BF : But (W5.heap.size + 1) WE (WE.putObj (W5.heap.size + 1) (.loop r)) := But.put _ _ _
            have hLF : (WE.putObj (W5.heap.size + 1) (.loop r)).heap[W5.heap.size + 1]? = some (.loop r) := World.putObj_heap_same hlE
            refine ⟨hLE, ?_⟩
            generalize (WE.putObj (W5.heap.size + 1) (.loop r)) = WF at *
            have SF : Spares (fun k => k ≠ w1.heap.size ∧ k ≠ W5.heap.size + 1) W1 WF := (((Spares.of HKA.out).trans (Spares.but HBB.out (fun h => h.2 rfl))).trans (Spares.but bA (fun h => h.1 rfl))).trans (Spares.but BF (fun h => h.2 rfl))
            have hJ := HJ1.out
            refine ⟨⟨by rw [HD2.out]; exact AE.same (BF.block _ AE.lt (by omega)), hJ.client.same (SF.block _ hJ.client.lt ⟨by omega, by omega⟩), hJ.seq.same (SF.block _ hJ.seq.lt ⟨by omega, by omega⟩), hLF, (SF.block _ (Array.getElem?_eq_some_iff.1 hJ.mark).1 ⟨by omega, by omega⟩).trans hJ.mark, SF.keeps hJ.keeps (fun k hk => ⟨by omega, by omega⟩), HFR.out⟩, ?_⟩
            exact SF.mono (fun k hk h => ⟨by rcases h with h | h | h <;> omega, by rcases h with h | h | h <;> omega⟩)
end Go.Proofs.Yteabfjpajgakiac

/- SameBools, SameOps, traceBegun. -/
set_option linter.unusedSimpArgs false
set_option linter.unusedVariables false
set_option maxRecDepth 10000
namespace Go.Proofs.Yteabfjpajgakiac
open Go.RowKit

def sameBools : List Bool → List Bool → Bool
  | [], [] => true
  | a :: r, b :: r' => (a == b) && sameBools r r'
  | _, _ => false
theorem sameBools_len : ∀ {l m : List Bool}, l.length ≠ m.length → sameBools l m = false
  | [], [], h => absurd rfl h
  | [], _ :: _, _ => rfl
  | _ :: _, [], _ => rfl
  | a :: r, b :: r', h => by
    have := sameBools_len (l := r) (m := r') (by simpa using h)
    simp only [sameBools, this, Bool.and_false]
theorem sameBools_self : ∀ (l : List Bool), sameBools l l = true
  | [] => rfl
  | a :: r => by simp [sameBools, sameBools_self r]
theorem sameBools_at {l m : List Bool} {k : Nat} (hl : k < l.length) (hm : k < m.length) : sameBools (l.drop k) (m.drop k) = ((fun (a b : Bool) => (a == b)) l[k] m[k] && sameBools (l.drop (k + 1)) (m.drop (k + 1))) := by
  rw [List.drop_eq_getElem_cons hl, List.drop_eq_getElem_cons hm]
  rfl

set_option maxHeartbeats 2000000 in
theorem sameBools_c (l m : List Bool) (x y : Value) (w : World) (hx : BoolsAt w x l) (hy : BoolsAt w y m) : Calls Try.prog 23 #[x, y] w fun e w' => e = .returned (.bool (sameBools l m)) ∧ Keeps w w' := by
  obtain ⟨xa, xc, rfl, hlen⟩ := RowAt.len hx
  obtain ⟨ya, yc, rfl, hlem⟩ := RowAt.len hy
  unfold maxLen at hlen hlem
  have HX : Hid (BoolsAt w (.slice xa l.length xc) l) := hx
  have HY : Hid (BoolsAt w (.slice ya m.length yc) m) := hy
  clear hx hy
  by_cases hll : l.length = m.length
  · rw [← hll] at HY ⊢
    have HLL : Hid (l.length = m.length) := hll
    clear hll hlem
    go_enter Try.func23, Try.ntmps23
    go_wp2_with fail
    go_loopw [5] (fun i wr => ∃ (k : Nat), k ≤ l.length ∧ i = .int .i64 k ∧ Hid (Keeps w wr) ∧ Hid (sameBools l m = sameBools (l.drop k) (m.drop k))) (fun i _ => l.length - (intOf i).toNat)
    case atStart => exact ⟨0, Nat.zero_le _, rfl, Keeps.refl _, rfl⟩
    case round =>
      obtain ⟨k, hk, rfl, HK, HQ⟩ := hrel
      by_cases hlt : k < l.length
      · have hlt2 : k < m.length := by have := HLL.out; omega
        obtain ⟨b1, o1, p1, hv1, c1⟩ := (HX.out.keep HK.out).at hlt
        obtain ⟨b2, o2, p2, hv2, d1⟩ := (HY.out.keep HK.out).at hlt2
        injection hv1 with hv1 ea eb
        injection hv2 with hv2 ec ed
        subst hv1 hv2
        clear ea eb ec ed
        have HR : Hid (sameBools l m = ((fun (a b : Bool) => (a == b)) l[k] m[k] && sameBools (l.drop (k + 1)) (m.drop (k + 1)))) := HQ.out.trans (sameBools_at hlt hlt2)
        clear HQ
        generalize l[k] = a at *
        generalize m[k] = b at *
        clear hlt2
        cases hq : ((a == b)) with
        | true =>
          have hq' : (a != b) = false := by simp only [bne, hq, Bool.not_true, Bool.not_false]
          have HN : Hid (sameBools l m = sameBools (l.drop (k + 1)) (m.drop (k + 1))) := by show _ = _; rw [HR.out]; simp only [hq, Bool.true_and]
          go_wp2_with fail
          go_quiet (fail)
          go_wp2_with fail
          go_roundw
          case rel => exact ⟨k + 1, by omega, by go_num, HK.out.drewN _, HN⟩
          case measure => simp [intOf]; omega
        | false =>
          have hq' : (a != b) = true := by simp only [bne, hq, Bool.not_true, Bool.not_false]
          have HN : Hid (sameBools l m = false) := by show _ = _; rw [HR.out]; simp only [hq, Bool.false_and]
          go_wp2_with fail
          go_quiet (fail)
          go_wp2_with fail
          go_ret
          rw [HN.out]
          exact ⟨rfl, HK.out.drewN _⟩
      · have HN : Hid (sameBools l m = true) := by show _ = _; rw [HQ.out, List.drop_of_length_le (by omega), List.drop_of_length_le (by have := HLL.out; omega)]; rfl
        go_wp2_with fail
        go_ret
        rw [HN.out]
        exact ⟨rfl, HK.out⟩
  · have HN : Hid (sameBools l m = false) := sameBools_len hll
    go_enter Try.func23, Try.ntmps23
    go_wp2_with fail
    go_ret
    rw [HN.out]
    exact ⟨rfl, Keeps.refl _⟩

def sameOps : List Ent → List Ent → Bool
  | [], [] => true
  | a :: r, b :: r' => (a.ok == b.ok && (a.okey == b.okey && (a.oto == b.oto && a.on == b.on))) && sameOps r r'
  | _, _ => false
theorem sameOps_len : ∀ {l m : List Ent}, l.length ≠ m.length → sameOps l m = false
  | [], [], h => absurd rfl h
  | [], _ :: _, _ => rfl
  | _ :: _, [], _ => rfl
  | a :: r, b :: r', h => by
    have := sameOps_len (l := r) (m := r') (by simpa using h)
    simp only [sameOps, this, Bool.and_false]
theorem sameOps_self : ∀ (l : List Ent), sameOps l l = true
  | [] => rfl
  | a :: r => by simp [sameOps, sameOps_self r]
theorem sameOps_at {l m : List Ent} {k : Nat} (hl : k < l.length) (hm : k < m.length) : sameOps (l.drop k) (m.drop k) = ((fun (a b : Ent) => (a.ok == b.ok && (a.okey == b.okey && (a.oto == b.oto && a.on == b.on)))) l[k] m[k] && sameOps (l.drop (k + 1)) (m.drop (k + 1))) := by
  rw [List.drop_eq_getElem_cons hl, List.drop_eq_getElem_cons hm]
  rfl

set_option maxHeartbeats 2000000 in
theorem sameOps_c (l m : List Ent) (x y : Value) (w : World) (hx : OpsRow w x l) (hy : OpsRow w y m) : Calls Try.prog 24 #[x, y] w fun e w' => e = .returned (.bool (sameOps l m)) ∧ Keeps w w' := by
  obtain ⟨xa, xc, rfl, hlen⟩ := RowAt.len hx
  obtain ⟨ya, yc, rfl, hlem⟩ := RowAt.len hy
  unfold maxLen at hlen hlem
  have HX : Hid (OpsRow w (.slice xa l.length xc) l) := hx
  have HY : Hid (OpsRow w (.slice ya m.length yc) m) := hy
  clear hx hy
  by_cases hll : l.length = m.length
  · rw [← hll] at HY ⊢
    have HLL : Hid (l.length = m.length) := hll
    clear hll hlem
    go_enter Try.func24, Try.ntmps24
    go_wp2_with fail
    go_loopw [5] (fun i wr => ∃ (k : Nat), k ≤ l.length ∧ i = .int .i64 k ∧ Hid (Keeps w wr) ∧ Hid (sameOps l m = sameOps (l.drop k) (m.drop k))) (fun i _ => l.length - (intOf i).toNat)
    case atStart => exact ⟨0, Nat.zero_le _, rfl, Keeps.refl _, rfl⟩
    case round =>
      obtain ⟨k, hk, rfl, HK, HQ⟩ := hrel
      by_cases hlt : k < l.length
      · have hlt2 : k < m.length := by have := HLL.out; omega
        obtain ⟨b1, o1, p1, hv1, c0, c1, c2, c3⟩ := (HX.out.keep HK.out).at hlt
        obtain ⟨b2, o2, p2, hv2, d0, d1, d2, d3⟩ := (HY.out.keep HK.out).at hlt2
        injection hv1 with hv1 ea eb
        injection hv2 with hv2 ec ed
        subst hv1 hv2
        clear ea eb ec ed
        have HR : Hid (sameOps l m = ((fun (a b : Ent) => (a.ok == b.ok && (a.okey == b.okey && (a.oto == b.oto && a.on == b.on)))) l[k] m[k] && sameOps (l.drop (k + 1)) (m.drop (k + 1)))) := HQ.out.trans (sameOps_at hlt hlt2)
        clear HQ
        generalize l[k] = a at *
        generalize m[k] = b at *
        clear hlt2
        cases hq : ((a.ok == b.ok && (a.okey == b.okey && (a.oto == b.oto && a.on == b.on)))) with
        | true =>
          have hq' : (!(a.ok == b.ok && (a.okey == b.okey && (a.oto == b.oto && a.on == b.on)))) = false := by rw [hq]; rfl
          have hn := neqop
          have HN : Hid (sameOps l m = sameOps (l.drop (k + 1)) (m.drop (k + 1))) := by show _ = _; rw [HR.out]; simp only [hq, Bool.true_and]
          go_wp2_with fail
          go_quiet (fail)
          go_wp2_with fail
          go_roundw
          case rel => exact ⟨k + 1, by omega, by go_num, HK.out.drewN _, HN⟩
          case measure => simp [intOf]; omega
        | false =>
          have hq' : (!(a.ok == b.ok && (a.okey == b.okey && (a.oto == b.oto && a.on == b.on)))) = true := by rw [hq]; rfl
          have hn := neqop
          have HN : Hid (sameOps l m = false) := by show _ = _; rw [HR.out]; simp only [hq, Bool.false_and]
          go_wp2_with fail
          go_quiet (fail)
          go_wp2_with fail
          go_ret
          rw [HN.out]
          exact ⟨rfl, HK.out.drewN _⟩
      · have HN : Hid (sameOps l m = true) := by show _ = _; rw [HQ.out, List.drop_of_length_le (by omega), List.drop_of_length_le (by have := HLL.out; omega)]; rfl
        go_wp2_with fail
        go_ret
        rw [HN.out]
        exact ⟨rfl, HK.out⟩
  · have HN : Hid (sameOps l m = false) := sameOps_len hll
    go_enter Try.func24, Try.ntmps24
    go_wp2_with fail
    go_ret
    rw [HN.out]
    exact ⟨rfl, Keeps.refl _⟩

theorem BoolsAt.new (w : World) (l : List Bool) (hl : l.length ≤ 1000) (c : Nat) : BoolsAt (w.alloc (.cells (boolCells l).toArray 4)) (.slice (some ⟨w.heap.size, 0, none⟩) l.length c) l := by
  refine ⟨by simp [boolCells], by unfold maxLen; omega, .inr ⟨_, _, rfl, fun j u hu => ?_⟩⟩
  rw [Addr.add_lit, Nat.zero_add]
  unfold World.cell?
  rw [World.alloc_heap_new]
  simpa using hu
theorem OpsRow.new (w : World) (l : List Ent) (hl : l.length ≤ 1000) (c : Nat) : OpsRow (w.alloc (.cells (opCells l).toArray 55)) (.slice (some ⟨w.heap.size, 0, none⟩) l.length c) l := by
  refine ⟨opCells_len l, by unfold maxLen; omega, .inr ⟨_, _, rfl, fun j u hu => ?_⟩⟩
  rw [Addr.add_lit, Nat.zero_add]
  unfold World.cell?
  rw [World.alloc_heap_new]
  simpa using hu
def someOps : List Ent := [⟨2, 2, 1, 1, 0, 2, 0, 0, 5⟩, ⟨2, 5, 1, 2, 1, 3, 0, 1, 2⟩, ⟨2, 42, 1, 1, 0, 2, 0, 0, 9⟩]
def someDone : List Bool := [false, true, false, false, false, true, false, false, false, true]
theorem trace_runs : listErr someL = 0 ∧ doneL someL = someDone ∧ sameOps (doersL someL) someOps = true ∧ (doersL someL).length = 3 ∧ onceErr someL 1 1 = 0 ∧ onceN someL 1 1 = 2 ∧ onceErr someL 2 1 = 0 ∧ onceN someL 2 1 = 0 ∧ onceErr someL 6 1 = 3 ∧ onceN someL 6 1 = 0 := by decide +kernel

set_option maxHeartbeats 4000000 in
theorem trace_begun (w : World) : Calls Try.prog 22 #[] w fun y w' => y = .returned (.bool true) ∧ Keeps w w' := by
  have HR := (show Hid _ from trace_runs)
  go_enter Try.func22, Try.ntmps22
  go_wp2_with fail
  refine (some_c _).mono ?_
  rintro y w1 ⟨v1, h1, rfl, hb⟩
  have k1 : Keeps w w1 := hb
  clear hb
  go_wp2_with fail
  refine (trace_done someL v1 w1 h1).mono ?_
  rintro y w2 ⟨da, dc, hD, rfl, hb⟩
  rw [HR.out.2.1] at hD ⊢
  rw [HR.out.1]
  have HD : Hid (BoolsAt w2 (.slice da someDone.length dc) someDone) := hD
  have k2 : Keeps w w2 := k1.trans hb
  clear hb hD h1 k1
  go_wp2_with fail
  refine (some_c _).mono ?_
  rintro y w3 ⟨v3, h3, rfl, hb⟩
  have k3 : Keeps w2 w3 := hb
  clear hb
  go_wp2_with fail
  refine (trace_ops someL v3 w3 h3).mono ?_
  rintro y w4 ⟨oa, oc, hO, rfl, hb⟩
  rw [HR.out.1]
  have HO : Hid (OpsRow w4 (.slice oa (doersL someL).length oc) (doersL someL)) := hO
  have hol : (doersL someL).length = 3 := HR.out.2.2.2.1
  rw [hol] at HO ⊢
  have k4 : Keeps w2 w4 := k3.trans hb
  clear hb hO h3 k3 hol
  go_wp2_with fail
  refine (some_c _).mono ?_
  rintro y w5 ⟨v5, h5, rfl, hb⟩
  have k5 : Keeps w4 w5 := hb
  clear hb
  go_wp2_with fail
  refine (trace_once someL 1 1 v5 w5 h5).mono ?_
  rintro y w6 ⟨rfl, hb⟩
  rw [HR.out.2.2.2.2.1, HR.out.2.2.2.2.2.1]
  have k6 : Keeps w4 w6 := k5.trans hb
  clear hb h5 k5
  go_wp2_with fail
  refine (some_c _).mono ?_
  rintro y w7 ⟨v7, h7, rfl, hb⟩
  have k7 : Keeps w4 w7 := k6.trans hb
  clear hb k6
  go_wp2_with fail
  refine (trace_once someL 2 1 v7 w7 h7).mono ?_
  rintro y w8 ⟨rfl, hb⟩
  rw [HR.out.2.2.2.2.2.2.1, HR.out.2.2.2.2.2.2.2.1]
  have k8 : Keeps w4 w8 := k7.trans hb
  clear hb h7 k7
  go_wp2_with fail
  refine (some_c _).mono ?_
  rintro y w9 ⟨v9, h9, rfl, hb⟩
  have k9 : Keeps w4 w9 := k8.trans hb
  clear hb k8
  go_wp2_with fail
  refine (trace_once someL 6 1 v9 w9 h9).mono ?_
  rintro y w10 ⟨rfl, hb⟩
  rw [HR.out.2.2.2.2.2.2.2.2.1, HR.out.2.2.2.2.2.2.2.2.2]
  have k10 : Keeps w4 w10 := k9.trans hb
  clear hb h9 k9
  have HK2 : Hid (Keeps w w2) := k2
  have HK4 : Hid (Keeps w2 w4) := k4
  have HK10 : Hid (Keeps w4 w10) := k10
  clear k2 k4 k10
  go_wp2_with fail
  have k11 : Keeps w10 (w10.alloc (.cells (boolCells someDone).toArray 4)) := (Keeps.refl _).alloc _
  have n11 := BoolsAt.new w10 someDone (by decide) 10
  refine (sameBools_c someDone someDone _ _ _ (HD.out.keep ((HK4.out.trans HK10.out).trans k11)) n11).mono ?_
  rintro y w12 ⟨rfl, hb⟩
  rw [sameBools_self]
  have HK12 : Hid (Keeps w4 w12) := HK10.out.trans (k11.trans hb)
  clear hb k11 n11
  go_wp2_with fail
  refine (mk_add 5 _).mono ?_
  rintro y w13 ⟨rfl, hb⟩
  have HK13 : Hid (Keeps w4 w13) := HK12.out.trans hb
  clear hb
  go_wp2_with fail
  refine (mk_add 9 _).mono ?_
  rintro y w14 ⟨rfl, hb⟩
  have HK14 : Hid (Keeps w4 w14) := HK13.out.trans hb
  clear hb
  go_wp2_with fail
  have k15 : Keeps w14 (w14.alloc (.cells (opCells someOps).toArray 55)) := (Keeps.refl _).alloc _
  have n15 := OpsRow.new w14 someOps (by decide) 3
  refine (sameOps_c (doersL someL) someOps _ _ _ (by have := HO.out.keep (HK14.out.trans k15); exact this) n15).mono ?_
  rintro y w16 ⟨rfl, hb⟩
  rw [HR.out.2.2.1]
  have HK16 : Hid (Keeps w w16) := ((HK2.out.trans HK4.out).trans HK14.out).trans (k15.trans hb)
  clear hb k15 n15
  go_wp2_with fail
  go_ret
  exact ⟨rfl, HK16.out⟩
end Go.Proofs.Yteabfjpajgakiac

/- The reference's DoneOf, OpsOf, OnceOf. -/
set_option linter.unusedSimpArgs false
set_option linter.unusedVariables false
set_option maxRecDepth 10000
namespace Go.Proofs.Yteabfjpajgakiac
open Go.RowKit

theorem zero_tab (w : World) : TabAt w (.slice none 0 0) zeroSt.tab := (OwnTab.nil 0 w).tab

set_option maxHeartbeats 2000000 in
theorem done_of (L : List Ent) (v : Value) (w : World) (hL : EntsAt w v L) :
    Calls Try.prog 20 #[v] w fun y w' => ∃ da dc, BoolsAt w' (.slice da (doneL L).length dc) (doneL L) ∧ y = .returned (.tuple #[.slice da (doneL L).length dc, .int .i64 (listErr L)]) ∧ Keeps w w' := by
  obtain ⟨la, lc, rfl, hlen⟩ := hL.len
  unfold maxLen at hlen
  have HL : Hid (EntsAt w (.slice la L.length lc) L) := hL
  have HD : Hid (doneL L = if listErr L == 0 then runDone zeroSt L else []) := rfl
  clear hL
  go_enter Try.func20, Try.ntmps20
  go_wp2_with fail
  refine (list_error L _ w HL.out).mono ?_
  rintro y w1 ⟨rfl, hb⟩
  have HK1 : Hid (Keeps w w1) := hb
  clear hb
  cases q : (listErr L == 0) with
  | false =>
    have q' : (listErr L != 0) = true := by simp [bne, q]
    have H1 : Hid (doneL L = []) := by show _ = _; rw [HD.out, q]; rfl
    go_wp2_with fail
    refine bodyPost_ret (v := .tuple #[.slice none 0 0, .int .i64 (listErr L)]) ?_ rfl ?_
    · simp [results, Try.results20, go_sem]
    · rw [H1.out]
      exact ⟨none, 0, ⟨rfl, by unfold maxLen; simp, .inl ⟨rfl, rfl⟩⟩, rfl, HK1.out⟩
  | true =>
    have q' : (listErr L != 0) = false := by simp [bne, q]
    have q0 : listErr L = 0 := by simpa using q
    obtain ⟨hE, h50⟩ := list_right q0
    have H1 : Hid (doneL L = runDone zeroSt L ∧ listErr L = 0) := ⟨by rw [HD.out, q]; rfl, q0⟩
    have HER : Hid (∀ e ∈ L, entErr e = 0) := hE
    clear hE q0
    go_wp2_with fail
    refine (folded_c zeroSt L (.slice none 0 0) _ w1 (zero_tab _) (HL.out.keep HK1.out) zero_right HER.out (by show (0 : Int) + _ ≤ 50; omega)).mono ?_
    rintro y w2 ⟨qa, qc, ra, rc, da, dc, HO, HA, HB, rfl, hb⟩
    have HK2 : Hid (Keeps w w2) := HK1.out.trans hb
    have HDL : Hid ((runDone zeroSt L).length = L.length) := runDone_len _ _
    clear hb
    go_wp2_with fail
    refine bodyPost_ret (v := .tuple #[.slice da L.length dc, .int .i64 0]) ?_ rfl ?_
    · simp [results, Try.results20, go_sem]
    · rw [H1.out.1, H1.out.2, HDL.out]
      have hB := HB.out
      rw [← HDL.out] at hB
      have := (BoolsAt.of hB).keep ((Keeps.refl _).alloc (.cells #[.int .i64 (runSt zeroSt L).at_, .int .i64 (runSt zeroSt L).clock, .int .i64 (runSt zeroSt L).v0, .int .i64 (runSt zeroSt L).v1, .int .i64 (runSt zeroSt L).v2, .int .i64 (runSt zeroSt L).v3, .slice qa (runSt zeroSt L).tab.length qc] 25))
      rw [HDL.out] at this
      exact ⟨da, dc, this, rfl, HK2.out.alloc _⟩

theorem doneL_at {L : List Ent} (h : listErr L = 0) {k : Nat} (hk : k < L.length) (hk' : k < (doneL L).length) : (doneL L)[k] = doneB L k := by
  have e : doneL L = runDone zeroSt L := by simp [doneL, h]
  have h1 := runDone_bool hk
  rw [← e, List.getElem?_eq_getElem hk'] at h1
  injection h1 with h1
  rw [h1, doneTo]
  simp [hk]
theorem doneL_len {L : List Ent} (h : listErr L = 0) : (doneL L).length = L.length := by
  have e : doneL L = runDone zeroSt L := by simp [doneL, h]
  rw [e, runDone_len]
theorem opCells_one : ∀ (l : List Ent), ∀ u ∈ opCells l, u.oneCell' = true
  | [], u, h => by simp [opCells] at h
  | e :: r, u, h => by
    simp only [opCells, List.mem_cons] at h
    rcases h with rfl | rfl | rfl | rfl | h
    all_goals first | rfl | exact opCells_one r u h

set_option maxHeartbeats 2000000 in
theorem ops_of (L : List Ent) (v : Value) (w : World) (hL : EntsAt w v L) :
    Calls Try.prog 21 #[v] w fun y w' => ∃ da dc, OpsRow w' (.slice da (doersL L).length dc) (doersL L) ∧ y = .returned (.tuple #[.slice da (doersL L).length dc, .int .i64 (listErr L)]) ∧ Keeps w w' := by
  obtain ⟨la, lc, rfl, hlen⟩ := hL.len
  unfold maxLen at hlen
  have HL : Hid (EntsAt w (.slice la L.length lc) L) := hL
  have HD : Hid (doersL L = if listErr L == 0 then doersTo L L.length else []) := rfl
  clear hL
  go_enter Try.func21, Try.ntmps21
  go_wp2_with fail
  refine (done_of L _ w HL.out).mono ?_
  rintro y w1 ⟨da, dc, hB, rfl, hb⟩
  have HK1 : Hid (Keeps w w1) := hb
  have HB : Hid (BoolsAt w1 (.slice da (doneL L).length dc) (doneL L)) := hB
  clear hb hB
  cases q : (listErr L == 0) with
  | false =>
    have q' : (listErr L != 0) = true := by simp [bne, q]
    have H1 : Hid (doersL L = []) := by show _ = _; rw [HD.out, q]; rfl
    go_wp2_with fail
    refine bodyPost_ret (v := .tuple #[.slice none 0 0, .int .i64 (listErr L)]) ?_ rfl ?_
    · simp [results, Try.results21, go_sem]
    · rw [H1.out]
      exact ⟨none, 0, ⟨rfl, by unfold maxLen; simp, .inl ⟨rfl, rfl⟩⟩, rfl, HK1.out⟩
  | true =>
    have q' : (listErr L != 0) = false := by simp [bne, q]
    have q0 : listErr L = 0 := by simpa using q
    have h50 := (list_right q0).2
    have H1 : Hid (doersL L = doersTo L L.length ∧ listErr L = 0) := ⟨by rw [HD.out, q]; rfl, q0⟩
    have HDL : Hid ((doneL L).length = L.length) := doneL_len q0
    have HAT : Hid (∀ k (hk : k < L.length) (hk' : k < (doneL L).length), (doneL L)[k] = doneB L k) := fun k hk hk' => doneL_at q0 hk hk'
    clear q0
    go_wp2_with fail
    go_loopw [6, 7] (fun o i wr => ∃ (k : Nat), k ≤ L.length ∧ i = .int .i64 k ∧ Hid (Keeps w1 wr) ∧ Hid (wr.ownsRow w1.heap.size 55 4 o (doersTo L k).length (opCells (doersTo L k)))) (fun _ i _ => L.length - (intOf i).toNat)
    case atStart => exact ⟨0, Nat.zero_le _, rfl, Keeps.refl _, World.ownsRow_nil _ _ _ _⟩
    case round =>
      obtain ⟨k, hk, rfl, HKw, HO⟩ := hrel
      by_cases hlt : k < L.length
      · have hltd : k < (doneL L).length := by rw [HDL.out]; exact hlt
        obtain ⟨b, off, cap', hv, c0, c1, c2, c3, c4, c5, c6, c7, c8⟩ := (HL.out.keep (HK1.out.trans HKw.out)).at hlt
        injection hv with hv1 hv2 hv3
        subst hv1
        clear hv2 hv3
        obtain ⟨b2, o2, p2, hv, d1⟩ := (HB.out.keep HKw.out).at hltd
        injection hv with hv1 hv2 hv3
        subst hv1
        clear hv2 hv3
        rw [HAT.out k hlt hltd] at d1
        have hdl : (doneL L).length = L.length := HDL.out
        rw [hdl] at *
        have HN0 : Hid (doneB L k = false → doersTo L (k + 1) = doersTo L k) := fun h => doersTo_none hlt (by rw [← doneB_at hlt]; exact h)
        have HN1 : Hid (doneB L k = true → doersTo L (k + 1) = doersTo L k ++ [L[k]]) := fun h => doersTo_some hlt (by rw [← doneB_at hlt]; exact h)
        have hdn := doersTo_len L k
        clear hdl
        generalize L[k] = e at *
        cases qd : doneB L k with
        | false =>
          rw [qd] at d1
          have HN : Hid (doersTo L (k + 1) = doersTo L k) := HN0.out qd
          clear qd HN0 HN1
          go_wp2_with fail
          go_roundw
          case rel => exact ⟨k + 1, by omega, by go_num, HKw, by rw [HN.out]; exact HO⟩
          case measure => simp [intOf]; omega
        | true =>
          rw [qd] at d1
          have HN : Hid (doersTo L (k + 1) = doersTo L k ++ [e]) := HN1.out qd
          clear qd HN0 HN1
          have kA : Keeps wr (wr.alloc (.cells (opCells [e]).toArray 55)) := (Keeps.refl _).alloc _
          obtain ⟨v', w', hr, ho, hg⟩ := run_append_read (wr.alloc (.cells (opCells [e]).toArray 55)) w1.heap.size 42 42 55 4 32 _ infoOp Try.underlying42 rfl (by decide) u6 _ _ (owns_keep HO.out kA) _ 1 (opCells [e]) (OpsRow.new wr [e] (by simp) 1) (opCells_one _) (by unfold maxLen; omega) (by omega) (by have := HKw.out.size; simp; omega)
          have HK' : Hid (Keeps w1 w') := keeps_grown (HKw.out.trans kA) hg (fun g h => (HO.out.lt g h).1)
          have HO' : Hid (w'.ownsRow w1.heap.size 55 4 v' (doersTo L (k + 1)).length (opCells (doersTo L (k + 1)))) := by
            show World.ownsRow _ _ _ _ _ _ _
            rw [HN.out, opCells_append, List.length_append]
            exact ho
          have Hr := (show Hid (_ = _) from hr)
          clear hr ho hg kA HO
          go_wp2_with (at_builtin; refine wpList_append_run rfl _ _ _ rfl rfl rfl Hr.out ?_)
          go_roundw
          case rel => exact ⟨k + 1, by omega, by go_num, HK', HO'⟩
          case measure => simp [intOf]; omega
      · have hkl : k = L.length := by omega
        subst hkl
        obtain ⟨oa, oc, rfl, _⟩ := (RowAt.of_owns HO.out).len
        go_wp2_with fail
        refine bodyPost_ret (v := .tuple #[.slice oa (doersTo L L.length).length oc, .int .i64 0]) ?_ rfl ?_
        · simp [results, Try.results21, go_sem]
        · rw [H1.out.1, H1.out.2]
          exact ⟨oa, oc, OpsRow.of HO.out, rfl, HK1.out.trans HKw.out⟩

theorem onceTo_next {L : List Ent} {c q : Int} {k : Nat} (hk : k < L.length) : onceTo L c q (k + 1) = onceTo L c q k + if (doneB L k && ((L[k]).client == c && (L[k]).seq == q)) then 1 else 0 := by
  cases h : doneB L k with
  | true => rw [onceTo_some hk (by rw [← doneB_at hk]; exact h)]; simp
  | false =>
    unfold onceTo
    rw [doersTo_none hk (by rw [← doneB_at hk]; exact h)]
    simp

set_option maxHeartbeats 2000000 in
theorem once_of (L : List Ent) (c q : Int) (v : Value) (w : World) (hL : EntsAt w v L) :
    Calls Try.prog 26 #[v, .int .i64 c, .int .i64 q] w fun y w' => y = .returned (.tuple #[.int .i64 (onceN L c q), .int .i64 (onceErr L c q)]) ∧ Keeps w w' := by
  obtain ⟨la, lc, rfl, hlen⟩ := hL.len
  unfold maxLen at hlen
  have HL : Hid (EntsAt w (.slice la L.length lc) L) := hL
  have HE : Hid (onceErr L c q = if listErr L == 0 then (if inB c 1 5 && inB q 1 60 then 0 else 3) else listErr L) := rfl
  have HN : Hid (onceN L c q = if onceErr L c q == 0 then onceTo L c q L.length else 0) := rfl
  clear hL
  go_enter Try.func26, Try.ntmps26
  go_wp2_with fail
  refine (done_of L _ w HL.out).mono ?_
  rintro y w1 ⟨da, dc, hB, rfl, hb⟩
  have HK1 : Hid (Keeps w w1) := hb
  have HB : Hid (BoolsAt w1 (.slice da (doneL L).length dc) (doneL L)) := hB
  clear hb hB
  cases q1 : (listErr L == 0) with
  | false =>
    have q' : (listErr L != 0) = true := by simp [bne, q1]
    have H1 : Hid (onceErr L c q = listErr L ∧ onceN L c q = 0) := by
      have h1 : onceErr L c q = listErr L := by rw [HE.out, q1]; rfl
      exact ⟨h1, by rw [HN.out, h1, q1]; rfl⟩
    go_wp2_with fail
    refine bodyPost_ret (v := .tuple #[.int .i64 0, .int .i64 (listErr L)]) ?_ rfl ?_
    · simp [results, Try.results26, go_sem]
    · rw [H1.out.1, H1.out.2]
      exact ⟨rfl, HK1.out⟩
  | true =>
    have q' : (listErr L != 0) = false := by simp [bne, q1]
    have q0 : listErr L = 0 := by simpa using q1
    have h50 := (list_right q0).2
    have HDL : Hid ((doneL L).length = L.length) := doneL_len q0
    have HAT : Hid (∀ k (hk : k < L.length) (hk' : k < (doneL L).length), (doneL L)[k] = doneB L k) := fun k hk hk' => doneL_at q0 hk hk'
    clear q0
    cases qcc : inB c 1 5 with
    | false =>
      have H1 : Hid (onceErr L c q = 3 ∧ onceN L c q = 0) := by
        have h1 : onceErr L c q = 3 := by rw [HE.out, q1, qcc]; rfl
        exact ⟨h1, by rw [HN.out, h1]; rfl⟩
      go_wp2_with (first | (go_at_call 44; refine (within_c _ _ _ _).mono ?_; rintro x w' ⟨rfl, rfl⟩))
      refine bodyPost_ret (v := .tuple #[.int .i64 0, .int .i64 3]) ?_ rfl ?_
      · simp [results, Try.results26, go_sem]
      · rw [H1.out.1, H1.out.2]
        exact ⟨rfl, HK1.out⟩
    | true =>
      cases qqq : inB q 1 60 with
      | false =>
        have H1 : Hid (onceErr L c q = 3 ∧ onceN L c q = 0) := by
          have h1 : onceErr L c q = 3 := by rw [HE.out, q1, qcc, qqq]; rfl
          exact ⟨h1, by rw [HN.out, h1]; rfl⟩
        go_wp2_with (first | (go_at_call 44; refine (within_c _ _ _ _).mono ?_; rintro x w' ⟨rfl, rfl⟩))
        refine bodyPost_ret (v := .tuple #[.int .i64 0, .int .i64 3]) ?_ rfl ?_
        · simp [results, Try.results26, go_sem]
        · rw [H1.out.1, H1.out.2]
          exact ⟨rfl, HK1.out⟩
      | true =>
        have H1 : Hid (onceErr L c q = 0 ∧ onceN L c q = onceTo L c q L.length) := by
          have h1 : onceErr L c q = 0 := by rw [HE.out, q1, qcc, qqq]; rfl
          exact ⟨h1, by rw [HN.out, h1]; rfl⟩
        go_wp2_with (first | (go_at_call 44; refine (within_c _ _ _ _).mono ?_; rintro x w' ⟨rfl, rfl⟩))
        go_loop [10, 11] (fun n i => ∃ (k : Nat), k ≤ L.length ∧ i = .int .i64 k ∧ n = .int .i64 (onceTo L c q k)) (fun _ i => L.length - (intOf i).toNat)
        case atStart => exact ⟨0, Nat.zero_le _, rfl, rfl⟩
        case round =>
          obtain ⟨k, hk, rfl, rfl⟩ := hrel
          have hob := onceTo_le L c q k
          by_cases hlt : k < L.length
          · have hltd : k < (doneL L).length := by rw [HDL.out]; exact hlt
            obtain ⟨b, off, cap', hv, c0, c1, c2, c3, c4, c5, c6, c7, c8⟩ := (HL.out.keep HK1.out).at hlt
            injection hv with hv1 hv2 hv3
            subst hv1
            clear hv2 hv3
            obtain ⟨b2, o2, p2, hv, d1⟩ := HB.out.at hltd
            injection hv with hv1 hv2 hv3
            subst hv1
            clear hv2 hv3
            rw [HAT.out k hlt hltd] at d1
            have hdl : (doneL L).length = L.length := HDL.out
            rw [hdl] at *
            have HNX : Hid (onceTo L c q (k + 1) = onceTo L c q k + if (doneB L k && ((L[k]).client == c && (L[k]).seq == q)) then 1 else 0) := onceTo_next hlt
            clear hdl
            generalize L[k] = e at *
            cases qd : doneB L k with
            | false =>
              rw [qd] at d1 HNX
              go_wp2_with fail
              go_round
              case rel => exact ⟨k + 1, by omega, by go_num, by rw [HNX.out]; simp⟩
              case measure => simp [intOf]; omega
            | true =>
              rw [qd] at d1 HNX
              cases qe1 : (e.client == c) with
              | false =>
                rw [qe1] at HNX
                go_wp2_with fail
                go_round
                case rel => exact ⟨k + 1, by omega, by go_num, by rw [HNX.out]; simp⟩
                case measure => simp [intOf]; omega
              | true =>
                rw [qe1] at HNX
                cases qe2 : (e.seq == q) with
                | false =>
                  rw [qe2] at HNX
                  go_wp2_with fail
                  go_round
                  case rel => exact ⟨k + 1, by omega, by go_num, by rw [HNX.out]; simp⟩
                  case measure => simp [intOf]; omega
                | true =>
                  rw [qe2] at HNX
                  go_wp2_with fail
                  go_round
                  case rel => exact ⟨k + 1, by omega, by go_num, by rw [HNX.out]; simp⟩
                  case measure => simp [intOf]; omega
          · have hkl : k = L.length := by omega
            subst hkl
            go_wp2_with fail
            refine bodyPost_ret (v := .tuple #[.int .i64 (onceTo L c q L.length), .int .i64 0]) ?_ rfl ?_
            · simp [results, Try.results26, go_sem]
            · rw [H1.out.1, H1.out.2]
              exact ⟨rfl, HK1.out⟩
end Go.Proofs.Yteabfjpajgakiac

/- TraceTells, TraceOnce: the walks. -/
set_option linter.unusedSimpArgs false
set_option linter.unusedVariables false
set_option maxRecDepth 10000
namespace Go.Proofs.Yteabfjpajgakiac
open Go.RowKit

set_option maxHeartbeats 4000000 in
theorem trace_tells (L : List Ent) (la : Option Addr) (lc : Nat) (w : World) (hL : EntsAt w (.slice la L.length lc) L) :
    Calls Try.prog 5 #[.slice la L.length lc] w fun y w' => y = .returned (.bool true) ∧ Keeps w w' := by
  have HL : Hid (EntsAt w (.slice la L.length lc) L) := hL
  have C3 : Hid (∀ W, Keeps w W → Calls Try.prog 20 #[.slice la L.length lc] W fun y w' => ∃ da dc, BoolsAt w' (.slice da (doneL L).length dc) (doneL L) ∧ y = .returned (.tuple #[.slice da (doneL L).length dc, .int .i64 (listErr L)]) ∧ Keeps W w') := fun W hk => done_of L _ W (HL.out.keep hk)
  have C2 : Hid (∀ W, Keeps w W → Calls Try.prog 19 #[.slice la L.length lc] W fun y w' => ∃ da dc, OpsRow w' (.slice da (doersL L).length dc) (doersL L) ∧ y = .returned (.tuple #[.slice da (doersL L).length dc, .int .i64 (listErr L)]) ∧ Keeps W w') := fun W hk => trace_ops L _ W (HL.out.keep hk)
  have C4 : Hid (∀ W, Keeps w W → Calls Try.prog 21 #[.slice la L.length lc] W fun y w' => ∃ da dc, OpsRow w' (.slice da (doersL L).length dc) (doersL L) ∧ y = .returned (.tuple #[.slice da (doersL L).length dc, .int .i64 (listErr L)]) ∧ Keeps W w') := fun W hk => ops_of L _ W (HL.out.keep hk)
  have C1 : Hid (∀ W, Keeps w W → Calls Try.prog 18 #[.slice la L.length lc] W fun y w' => ∃ da dc, BoolsAt w' (.slice da (doneL L).length dc) (doneL L) ∧ y = .returned (.tuple #[.slice da (doneL L).length dc, .int .i64 (listErr L)]) ∧ Keeps W w') := fun W hk => trace_done L _ W (HL.out.keep hk)
  clear hL HL
  generalize listErr L = er at *
  generalize doneL L = dl at *
  generalize doersL L = ol at *
  go_enter Try.func5, Try.ntmps5
  go_wp2_with fail
  refine (C1.out w (Keeps.refl _)).mono ?_
  rintro y w1 ⟨a1, c1, h1, rfl, hb⟩
  have k1 : Keeps w w1 := hb
  have H1 := (show Hid _ from h1)
  clear hb h1
  go_wp2_with fail
  refine (C2.out w1 k1).mono ?_
  rintro y w2 ⟨a2, c2, h2, rfl, hb⟩
  have k12 : Keeps w1 w2 := hb
  have H2 := (show Hid _ from h2)
  clear hb h2
  go_wp2_with fail
  refine (C3.out w2 (k1.trans k12)).mono ?_
  rintro y w3 ⟨a3, c3, h3, rfl, hb⟩
  have k23 : Keeps w2 w3 := hb
  have H3 := (show Hid _ from h3)
  clear hb h3
  go_wp2_with fail
  refine (C4.out w3 ((k1.trans k12).trans k23)).mono ?_
  rintro y w4 ⟨a4, c4, h4, rfl, hb⟩
  have k34 : Keeps w3 w4 := hb
  have H4 := (show Hid _ from h4)
  clear hb h4
  have HK1 : Hid (Keeps w w1) := k1
  have HK12 : Hid (Keeps w1 w2) := k12
  have HK23 : Hid (Keeps w2 w3) := k23
  have HK34 : Hid (Keeps w3 w4) := k34
  clear k1 k12 k23 k34
  go_wp2_with fail
  refine (trace_begun w4).mono ?_
  rintro y w5 ⟨rfl, hb⟩
  have HK45 : Hid (Keeps w4 w5) := hb
  clear hb
  go_wp2_with fail
  refine (sameBools_c dl dl _ _ w5 (H1.out.keep (((HK12.out.trans HK23.out).trans HK34.out).trans HK45.out)) (H3.out.keep (HK34.out.trans HK45.out))).mono ?_
  rintro y w6 ⟨rfl, hb⟩
  rw [sameBools_self]
  have HK46 : Hid (Keeps w4 w6) := HK45.out.trans hb
  clear hb
  go_wp2_with fail
  refine (sameOps_c ol ol _ _ w6 (H2.out.keep ((HK23.out.trans HK34.out).trans HK46.out)) (H4.out.keep HK46.out)).mono ?_
  rintro y w7 ⟨rfl, hb⟩
  rw [sameOps_self]
  have HK7 : Hid (Keeps w w7) := (((HK1.out.trans HK12.out).trans HK23.out).trans HK34.out).trans (HK46.out.trans hb)
  clear hb
  go_wp2_with fail
  go_ret
  exact ⟨by simp, HK7.out⟩

set_option maxHeartbeats 4000000 in
theorem trace_once_law (L : List Ent) (c q : Int) (la : Option Addr) (lc : Nat) (w : World) (hL : EntsAt w (.slice la L.length lc) L) :
    Calls Try.prog 6 #[.slice la L.length lc, .int .i64 c, .int .i64 q] w fun y w' => y = .returned (.bool true) ∧ Keeps w w' := by
  have HL : Hid (EntsAt w (.slice la L.length lc) L) := hL
  have C1 : Hid (∀ W, Keeps w W → Calls Try.prog 25 #[.slice la L.length lc, .int .i64 c, .int .i64 q] W fun y w' => y = .returned (.tuple #[.int .i64 (onceN L c q), .int .i64 (onceErr L c q)]) ∧ Keeps W w') := fun W hk => trace_once L c q _ W (HL.out.keep hk)
  have C2 : Hid (∀ W, Keeps w W → Calls Try.prog 26 #[.slice la L.length lc, .int .i64 c, .int .i64 q] W fun y w' => y = .returned (.tuple #[.int .i64 (onceN L c q), .int .i64 (onceErr L c q)]) ∧ Keeps W w') := fun W hk => once_of L c q _ W (HL.out.keep hk)
  clear hL HL
  generalize onceN L c q = n at *
  generalize onceErr L c q = er at *
  go_enter Try.func6, Try.ntmps6
  go_wp2_with fail
  refine (C1.out w (Keeps.refl _)).mono ?_
  rintro y w1 ⟨rfl, hb⟩
  have k1 : Keeps w w1 := hb
  clear hb
  go_wp2_with fail
  refine (C2.out w1 k1).mono ?_
  rintro y w2 ⟨rfl, hb⟩
  have k2 : Keeps w w2 := k1.trans hb
  clear hb k1
  go_wp2_with fail
  refine (trace_begun w2).mono ?_
  rintro y w3 ⟨rfl, hb⟩
  have HK3 : Hid (Keeps w w3) := k2.trans hb
  clear hb k2
  go_wp2_with fail
  go_ret
  exact ⟨by simp, HK3.out⟩
end Go.Proofs.Yteabfjpajgakiac
