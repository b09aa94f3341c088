/- TrC, TrD, TrE, Apart, ApQ1, OpF. -/
import Derived.Test.YteabfjpajgakiagJ04
import Derived.Test.YteabfjpajgakiagJ10
import Derived.Test.YteabfjpajgakiagJ12
import Derived.Test.YteabfjpajgakiagJ13
import Derived.Test.YteabfjpajgakiagJ14
/- trace.Ops. -/
set_option linter.unusedSimpArgs false
set_option linter.unusedVariables false
set_option maxRecDepth 10000
namespace Go.Proofs.Yteabfjpajgakiag
open Go.RowKit Go.Shelf
attribute [local go_sem] Oper.semAt_some

/-- The entries by which an op was done, of the first i. -/
def doersTo (L : List Ent) : Nat → List Ent
  | 0 => []
  | i + 1 => if doneB L i then doersTo L i ++ [(L[i]?).getD zeroEnt] else doersTo L i
theorem doersTo_none {L : List Ent} {i : Nat} (hi : i < L.length) (h : oneDone (atSt L i) (L[i]) = false) : doersTo L (i + 1) = doersTo L i := by
  simp only [doersTo, doneB_at hi, h]
  rfl
theorem doersTo_some {L : List Ent} {i : Nat} (hi : i < L.length) (h : oneDone (atSt L i) (L[i]) = true) : doersTo L (i + 1) = doersTo L i ++ [L[i]] := by
  simp only [doersTo, doneB_at hi, h, List.getElem?_eq_getElem hi]
  rfl
theorem doersTo_len (L : List Ent) : ∀ i, (doersTo L i).length ≤ i
  | 0 => Nat.le_refl _
  | i + 1 => by
    have := doersTo_len L i
    simp only [doersTo]
    split
    · simp; omega
    · omega
def opCells : List Ent → List Value
  | [] => []
  | e :: r => .int .i64 e.ok :: .int .i64 e.okey :: .int .i64 e.oto :: .int .i64 e.on :: opCells r
theorem opCells_len : ∀ l : List Ent, (opCells l).length = l.length * 4
  | [] => rfl
  | _ :: r => by simp only [opCells, List.length_cons, opCells_len r]; omega
theorem opCells_drop : ∀ (l : List Ent) (k : Nat), (opCells l).drop (k * 4) = opCells (l.drop k)
  | l, 0 => by simp
  | [], k + 1 => by simp [opCells]
  | e :: r, k + 1 => by
    rw [show (k + 1) * 4 = k * 4 + 1 + 1 + 1 + 1 from by omega]
    simp only [opCells, List.drop_succ_cons]
    exact opCells_drop r k
def OpsRow (w : World) (v : Value) (l : List Ent) : Prop := RowAt w 4 v l.length (opCells l)
theorem OpsRow.keep {w w' : World} {v : Value} {l : List Ent} (h : OpsRow w v l) (hk : Keeps w w') : OpsRow w' v l := RowAt.keep h hk
theorem OpsRow.of {w : World} {base : Nat} {v : Value} {l : List Ent} (h : w.ownsRow base 26 4 v l.length (opCells l)) : OpsRow w v l := RowAt.of_owns h
theorem OpsRow.at {w : World} {v : Value} {L : List Ent} (h : OpsRow w v L) {k : Nat} (hk : k < L.length) :
    ∃ b off cap, v = .slice (some ⟨b, off, none⟩) L.length cap ∧ w.cell? ⟨b, off + k * 4, none⟩ = some (.int .i64 (L[k]).ok) ∧ w.cell? ⟨b, off + k * 4 + 1, none⟩ = some (.int .i64 (L[k]).okey) ∧ w.cell? ⟨b, off + k * 4 + 2, none⟩ = some (.int .i64 (L[k]).oto) ∧ w.cell? ⟨b, off + k * 4 + 3, none⟩ = some (.int .i64 (L[k]).on) := by
  obtain ⟨b, off, cap, rfl, h3⟩ := RowAt.plain h (by rw [opCells_len]; omega)
  refine ⟨b, off, cap, rfl, ?_⟩
  have hd : (opCells L).drop (k * 4) = opCells (L[k] :: L.drop (k + 1)) := by rw [opCells_drop, List.drop_eq_getElem_cons hk]
  have go : ∀ i u, (opCells (L[k] :: L.drop (k + 1)))[i]? = some u → w.cell? ⟨b, off + k * 4 + i, none⟩ = some u := by
    intro i u hu
    rw [← hd, List.getElem?_drop] at hu
    rw [Nat.add_assoc]
    exact h3 _ _ hu
  exact ⟨go 0 _ rfl, go 1 _ rfl, go 2 _ rfl, go 3 _ rfl⟩
/-- What stands between two rounds of Ops' loop. -/
structure OpsAt (L : List Ent) (w : World) (bo D l : Nat) (r : Loop) (bS i : Nat) (W : World) : Prop where
  row : ∃ av, OneBox bo av W ∧ W.ownsRow (bS + 1) 26 4 av (doersTo L i).length (opCells (doersTo L i))
  loop : W.heap[l]? = some (.loop r)
  mark : W.heap[D]? = some (.deferred (some []))
  keeps : Keeps w W
  far : bo < bS ∧ D < bS ∧ l < bS ∧ w.heap.size ≤ bS

theorem OpsAt.but {L : List Ent} {w : World} {bo D l : Nat} {r : Loop} {bS i : Nat} {W W' : World} (h : OpsAt L w bo D l r bS i W) (hb : But bS W W') : OpsAt L w bo D l r bS i W' := by
  obtain ⟨f1, f2, f3, f4⟩ := h.far
  obtain ⟨av, h1, h2⟩ := h.row
  exact ⟨⟨av, h1.same (hb.block bo h1.lt (by omega)), owns_far h2 (by omega) hb⟩, (hb.block l (Array.getElem?_eq_some_iff.1 h.loop).1 (by omega)).trans h.loop, (hb.block D (Array.getElem?_eq_some_iff.1 h.mark).1 (by omega)).trans h.mark, But.to h.keeps f4 hb, h.far⟩

end Go.Proofs.Yteabfjpajgakiag

/- trace.Once. -/
set_option linter.unusedSimpArgs false
set_option linter.unusedVariables false
set_option maxRecDepth 10000
namespace Go.Proofs.Yteabfjpajgakiag
open Go.RowKit Go.Shelf
attribute [local go_sem] Oper.semAt_some

/-- How many of the first i did an op of that client by that number. -/
def onceTo (L : List Ent) (c q : Int) (i : Nat) : Int := ((doersTo L i).filter (fun e => e.client == c && e.seq == q)).length
theorem onceTo_le (L : List Ent) (c q : Int) (i : Nat) : 0 ≤ onceTo L c q i ∧ onceTo L c q i ≤ i := by
  unfold onceTo
  have h1 := List.length_filter_le (fun e : Ent => e.client == c && e.seq == q) (doersTo L i)
  have h2 := doersTo_len L i
  omega
theorem onceTo_some {L : List Ent} {c q : Int} {i : Nat} (hi : i < L.length) (h : oneDone (atSt L i) (L[i]) = true) : onceTo L c q (i + 1) = onceTo L c q i + if ((L[i]).client == c && (L[i]).seq == q) then 1 else 0 := by
  unfold onceTo
  rw [doersTo_some hi h, List.filter_append]
  cases hh : ((L[i]).client == c && (L[i]).seq == q) with
  | true => simp [List.filter_cons, hh]
  | false => simp [List.filter_cons, hh]
def onceErr (L : List Ent) (c q : Int) : Int := if listErr L == 0 then (if inB c 1 5 && inB q 1 60 then 0 else 3) else listErr L
def onceN (L : List Ent) (c q : Int) : Int := if onceErr L c q == 0 then onceTo L c q L.length else 0

/-- What stands between two rounds of Once's loop. -/
structure OnceAt (L : List Ent) (c q : Int) (w : World) (bc D l : Nat) (r : Loop) (bS i : Nat) (W : World) : Prop where
  count : OneBox bc (.int .i64 (onceTo L c q i)) W
  client : OneBox w.heap.size (.int .i64 c) W
  seq : OneBox (w.heap.size + 1) (.int .i64 q) W
  loop : W.heap[l]? = some (.loop r)
  mark : W.heap[D]? = some (.deferred (some []))
  keeps : Keeps w W
  far : bc < bS ∧ D < bS ∧ l < bS ∧ w.heap.size + 2 ≤ bc

theorem OnceAt.but {L : List Ent} {c q : Int} {w : World} {bc D l : Nat} {r : Loop} {bS i : Nat} {W W' : World} (h : OnceAt L c q w bc D l r bS i W) (hb : But bS W W') : OnceAt L c q w bc D l r bS i W' := by
  obtain ⟨f1, f2, f3, f4⟩ := h.far
  exact ⟨h.count.same (hb.block _ h.count.lt (by omega)), h.client.same (hb.block _ h.client.lt (by omega)), h.seq.same (hb.block _ h.seq.lt (by omega)), (hb.block l (Array.getElem?_eq_some_iff.1 h.loop).1 (by omega)).trans h.loop, (hb.block D (Array.getElem?_eq_some_iff.1 h.mark).1 (by omega)).trans h.mark, But.to h.keeps (by omega) hb, h.far⟩

set_option maxHeartbeats 1000000 in
theorem trace_once (L : List Ent) (c q : Int) (v : Value) (w : World) (hL : EntsAt w v L) :
    Calls Try.prog 20 #[v, .int .i64 c, .int .i64 q] w fun y w' => y = .returned (.tuple #[.int .i64 (onceN L c q), .int .i64 (onceErr L c q)]) ∧ Keeps w w' := by
  obtain ⟨la, lc, rfl, hlen⟩ := hL.len
  unfold maxLen at hlen
  have HL : Hid (EntsAt w (.slice la L.length lc) L) := hL
  have HE : Hid (onceErr L c q = if listErr L == 0 then (if inB c 1 5 && inB q 1 60 then 0 else 3) else listErr L) := rfl
  have HN : Hid (onceN L c q = if onceErr L c q == 0 then onceTo L c q L.length else 0) := rfl
  clear hL
  refine (callsIn_wide (n := 3)).1 ?_
  refine callsIn_of_wp_marks Try.func20 rfl trivial ?_ rfl
  simp only [Try.ntmps20, List.size_toArray, List.length_cons, List.length_nil, Nat.reduceAdd, Nat.reduceSub, Array.replicate_succ, Array.replicate_zero, List.push_toArray, List.append_toArray, List.nil_append, List.cons_append]
  gi_wp2
  obtain ⟨W0, hW0⟩ : ∃ z, z = (w.alloc (.cells #[.int .i64 c] 3)).alloc (.cells #[.int .i64 q] 3) := ⟨_, rfl⟩
  have k0 : Keeps w W0 := by rw [hW0]; exact ((Keeps.refl _).alloc _).alloc _
  have C0 : OneBox w.heap.size (.int .i64 c) W0 := by rw [hW0]; exact ⟨by simp [go_sem], fun i => by simp [go_sem]⟩
  have Q0 : OneBox (w.heap.size + 1) (.int .i64 q) W0 := by rw [hW0]; exact ⟨by simp [go_sem], fun i => by simp [go_sem]⟩
  rw [← hW0]
  clear hW0
  refine ⟨trivial, CallsIn.mono (callsIn_wide.2 (fold_check L _ W0 (HL.out.keep k0))) ?_⟩
  rintro y w1 ⟨rfl, hb⟩
  have HK1 : Hid (Keeps w w1) := k0.trans hb
  have HC1 : Hid (OneBox w.heap.size (.int .i64 c) w1) := C0.same (hb.block _ C0.lt)
  have HQ1 : Hid (OneBox (w.heap.size + 1) (.int .i64 q) w1) := Q0.same (hb.block _ Q0.lt)
  clear hb k0 C0 Q0
  clear W0
  have c0 := HC1.out.1
  have cl := HC1.out.lt
  have q0 := HQ1.out.1
  have ql := HQ1.out.lt
  cases q1 : (listErr L == 0) with
  | false =>
    have q' : (listErr L != 0) = true := by simp [bne, q1]
    have H1 : Hid (onceErr L c q = listErr L ∧ onceN L c q = 0) := by
      have h1 : onceErr L c q = listErr L := by rw [HE.out, q1]; rfl
      exact ⟨h1, by rw [HN.out, h1, q1]; rfl⟩
    gi_wp2
    refine ⟨.tuple #[.int .i64 0, .int .i64 (listErr L)], ?_, ?_⟩
    · simp [results, Try.results20, go_sem]
    · rw [H1.out.1, H1.out.2]
      exact ⟨rfl, HK1.out⟩
  | true =>
    have q' : (listErr L != 0) = false := by simp [bne, q1]
    have qz : listErr L = 0 := by simpa using q1
    obtain ⟨hE, h50⟩ := list_right qz
    have HER : Hid (∀ e ∈ L, entErr e = 0) := hE
    clear hE qz
    cases qc : (inB c 1 5 && inB q 1 60) with
    | false =>
      have H1 : Hid (onceErr L c q = 3 ∧ onceN L c q = 0) := by
        have h1 : onceErr L c q = 3 := by rw [HE.out, q1, qc]; rfl
        exact ⟨h1, by rw [HN.out, h1]; rfl⟩
      cases qcc : inB c 1 5 with
      | false =>
        gi_wp2
        refine ⟨trivial, CallsIn.mono (callsIn_wide.2 (bound_in c 1 5 w1)) ?_⟩
        rintro y w2 ⟨rfl, rfl⟩
        rw [qcc]
        gi_wp2
        refine ⟨trivial, ?_⟩
        go_at_K
        gi_wp2
        refine ⟨.tuple #[.int .i64 0, .int .i64 3], ?_, ?_⟩
        · simp [results, Try.results20, go_sem]
        · rw [H1.out.1, H1.out.2]
          exact ⟨rfl, HK1.out⟩
      | true =>
        have qqq : inB q 1 60 = false := by rw [qcc] at qc; simpa using qc
        gi_wp2
        refine ⟨trivial, CallsIn.mono (callsIn_wide.2 (bound_in c 1 5 w1)) ?_⟩
        rintro y w2 ⟨rfl, rfl⟩
        rw [qcc]
        gi_wp2
        refine ⟨trivial, CallsIn.mono (callsIn_wide.2 (bound_in q 1 60 w1)) ?_⟩
        rintro y w2 ⟨rfl, rfl⟩
        rw [qqq]
        gi_wp2
        refine ⟨.tuple #[.int .i64 0, .int .i64 3], ?_, ?_⟩
        · simp [results, Try.results20, go_sem]
        · rw [H1.out.1, H1.out.2]
          exact ⟨rfl, HK1.out⟩
    | true =>
      have H1 : Hid (onceErr L c q = 0 ∧ onceN L c q = onceTo L c q L.length) := by
        have h1 : onceErr L c q = 0 := by rw [HE.out, q1, qc]; rfl
        exact ⟨h1, by rw [HN.out, h1]; rfl⟩
      have qcc : inB c 1 5 = true := by simp only [Bool.and_eq_true] at qc; exact qc.1
      have qqq : inB q 1 60 = true := by simp only [Bool.and_eq_true] at qc; exact qc.2
      clear qc
      gi_wp2
      refine ⟨trivial, CallsIn.mono (callsIn_wide.2 (bound_in c 1 5 w1)) ?_⟩
      rintro y w2 ⟨rfl, rfl⟩
      rw [qcc]
      gi_wp2
      refine ⟨trivial, CallsIn.mono (callsIn_wide.2 (bound_in q 1 60 w1)) ?_⟩
      rintro y w2 ⟨rfl, rfl⟩
      rw [qqq]
      gi_wp2
      clear c0 cl q0 ql qcc qqq
      obtain ⟨W4, hW4⟩ : ∃ z, z = w1.alloc (.cells #[.int .i64 0] 3) := ⟨_, rfl⟩
      have hz4 : W4.heap.size = w1.heap.size + 1 := by rw [hW4]; simp
      have k14 : Keeps w1 W4 := by rw [hW4]; exact (Keeps.refl _).alloc _
      have A4 : OneBox w1.heap.size (.int .i64 0) W4 := by rw [hW4]; exact ⟨by simp [go_sem], fun i => by simp [go_sem]⟩
      rw [← hW4]
      clear hW4
      refine ⟨trivial, CallsIn.mono (callsIn_wide.2 (doers_made la L.length lc W4)) ?_⟩
      rintro y W5 ⟨rfl, hW5⟩
      have hz5 : W5.heap.size = w1.heap.size + 2 := by rw [hW5]; simp [hz4]
      have k45 : Keeps W4 W5 := by rw [hW5]; exact (Keeps.refl _).alloc _
      have L5 : W5.cell? ⟨w1.heap.size + 1, 0, none⟩ = some (.slice la L.length lc) := by rw [hW5]; simp [go_sem, hz4]
      rw [hz4]
      have HA5 : Hid (OneBox w1.heap.size (.int .i64 0) W5) := A4.same (k45.block _ A4.lt)
      have HC5 : Hid (OneBox w.heap.size (.int .i64 c) W5) := HC1.out.same ((k14.trans k45).block _ HC1.out.lt)
      have HQ5 : Hid (OneBox (w.heap.size + 1) (.int .i64 q) W5) := HQ1.out.same ((k14.trans k45).block _ HQ1.out.lt)
      have HK5 : Hid (Keeps w W5) := HK1.out.trans (k14.trans k45)
      have HE5 : Hid (W5.cell? ⟨w1.heap.size + 1, 0, none⟩ = some (.slice la L.length lc)) := L5
      have hw1 : w.heap.size + 2 ≤ w1.heap.size := by have := HQ1.out.lt; omega
      clear A4 L5 k14 k45 hW5 hz4 HC1 HQ1
      clear W4
      gi_wp2
      refine range_walk rfl (by decide) (gf := 50) (lb := #[.pointer (some ⟨w1.heap.size + 1, 0, none⟩)]) rfl trivial (enters_of Try.func50 (by kernel_rfl) rfl) ?_
      intro r hrf hrs hrp e1 e2 e3 e4
      have HRS : Hid (r.state = .ready) := hrs
      have HRP : Hid (r.pending = none) := hrp
      have k56 : Keeps W5 ((W5.alloc (.deferred (some []))).alloc (.loop r)) := ((Keeps.refl _).alloc _).alloc _
      have l6 : ((W5.alloc (.deferred (some []))).alloc (.loop r)).heap[W5.heap.size + 1]? = some (.loop r) := by
        have := World.alloc_heap_new (W5.alloc (.deferred (some []))) (.loop r)
        rwa [World.size_alloc] at this
      have d6 : ((W5.alloc (.deferred (some []))).alloc (.loop r)).heap[W5.heap.size]? = some (.deferred (some [])) := (Below.heap_alloc _ _ _ (by simp)).trans (World.alloc_heap_new W5 _)
      have hz6 : ((W5.alloc (.deferred (some []))).alloc (.loop r)).heap.size = W5.heap.size + 2 := by simp
      generalize ((W5.alloc (.deferred (some []))).alloc (.loop r)) = W6 at *
      have J0 : ∀ V bS, Keeps W6 V → W6.heap.size ≤ bS → OnceAt L c q w w1.heap.size W5.heap.size (W5.heap.size + 1) r bS 0 V := by
        intro V bS hk hbS
        have kV := k56.trans hk
        have hzV := hk.size
        exact ⟨HA5.out.same (kV.block _ HA5.out.lt), HC5.out.same (kV.block _ HC5.out.lt), HQ5.out.same (kV.block _ HQ5.out.lt), (hk.block _ (by omega)).trans l6, (hk.block _ (by omega)).trans d6, HK5.out.trans kV, by refine ⟨?_, ?_, ?_, ?_⟩ <;> omega⟩
      refine CallsIn.mono (doers_in 2 (W5.heap.size + 1) (w1.heap.size + 1) L la lc HER.out h50 w HL.out (OnceAt L c q w w1.heap.size W5.heap.size (W5.heap.size + 1) r) (fun bS i W W' h hb => h.but hb) (fun bS i W hi hdn h => ⟨by have := h.count; unfold onceTo at *; rw [doersTo_none hi hdn]; exact this, h.client, h.seq, h.loop, h.mark, h.keeps, h.far⟩) ?yield W6 (HK5.out.trans k56) (cell_kept HE5.out k56) J0) ?done
      case done =>
        rintro e W7 ⟨hv, bS, hJ⟩
        refine ⟨hv, hJ.loop, ?_⟩
        have bt8 : But (W5.heap.size + 1) W7 (W7.putObj (W5.heap.size + 1) (.loop { r with state := .exhausted })) := But.put _ _ _
        generalize (W7.putObj (W5.heap.size + 1) (.loop { r with state := .exhausted })) = W8 at *
        have HA8 : Hid (OneBox w1.heap.size (.int .i64 (onceTo L c q L.length)) W8) := hJ.count.same (bt8.block _ hJ.count.lt (by omega))
        have HK8 : Hid (Keeps w W8) := But.to hJ.keeps (by omega) bt8
        have HD8 : Hid (W8.heap[W5.heap.size]? = some (.deferred (some []))) := (bt8.block _ (Array.getElem?_eq_some_iff.1 hJ.mark).1 (by omega)).trans hJ.mark
        clear bt8 hJ J0 k56 l6 d6 hz6
        have a0 := HA8.out.1
        have al := HA8.out.lt
        gi_wp2
        refine ⟨by simp, .inl ⟨_, _, rfl, run_takeDeferred (by rw [← hz5]; exact HD8.out), ?_⟩⟩
        have BD := But.put W8 (w1.heap.size + 2) (.deferred none)
        refine ⟨.tuple #[.int .i64 (onceTo L c q L.length), .int .i64 0], ?_, ?_⟩
        · simp [results, Try.results20, go_sem]
        · rw [H1.out.1, H1.out.2]
          exact ⟨rfl, But.to HK8.out (by omega) BD⟩
      case yield =>
        intro bS i Wb W1 hi hdn hJb hk hb0 hbS hK0
        have hJ1 := hJb.but (But.of hk)
        refine yield_round hJ1.loop HRS.out HRP.out trivial e1 e2 e3 e4 rfl ?_
        intro rb
        clear e1 e2 e3 e4 hrs hrp hrf HRS HRP J0
        have hcb := onceTo_le L c q i
        have HJ1 := (show Hid _ from hJ1)
        have HFR := (show Hid _ from hJb.far)
        have HCT : Hid (OneBox w1.heap.size (.int .i64 (onceTo L c q i)) W1) := hJ1.count
        have HKb : Hid (Keeps Wb W1) := hk
        have HDN : Hid (onceTo L c q (i + 1) = onceTo L c q i + if ((L[i]).client == c && (L[i]).seq == q) then 1 else 0) := onceTo_some hi hdn
        have HZ5 : Hid (W5.heap.size = w1.heap.size + 2 ∧ w.heap.size + 2 ≤ w1.heap.size ∧ bS < Wb.heap.size ∧ Wb.heap.size ≤ W1.heap.size) := ⟨hz5, hw1, hbS, hk.size⟩
        clear hdn hJ1 hJb hk hz5 hw1 hb0 hbS hK0
        generalize hoc : onceTo L c q i = oc at *
        clear hoc
        generalize L[i] = e at *
        gi_wp2
        obtain ⟨WA, hWA⟩ : ∃ z, z = W1.alloc (.cells #[.int .i64 e.kind, .int .i64 e.time, .int .i64 e.client, .int .i64 e.seq, .int .i64 e.ack, .int .i64 e.ok, .int .i64 e.okey, .int .i64 e.oto, .int .i64 e.on] 28) := ⟨_, rfl⟩
        have kA : Keeps W1 WA := by rw [hWA]; exact (Keeps.refl _).alloc _
        have TA : EntBox W1.heap.size e WA := by rw [hWA]; exact EntBox.new W1 e 28
        rw [← hWA]
        clear hWA
        refine ⟨(kA.block _ (Array.getElem?_eq_some_iff.1 HJ1.out.loop).1).trans HJ1.out.loop, ?_⟩
        obtain ⟨x1, x2, x3, x4⟩ := HZ5.out
        obtain ⟨y1, y2, y3, y4⟩ := HFR.out
        have hzA := kA.size
        have bB : But (W5.heap.size + 1) WA (WA.putObj (W5.heap.size + 1) (.loop rb)) := But.put _ _ _
        have lB : (WA.putObj (W5.heap.size + 1) (.loop rb)).heap[W5.heap.size + 1]? = some (.loop rb) := World.putObj_heap_same (by omega)
        generalize (WA.putObj (W5.heap.size + 1) (.loop rb)) = WB at *
        have TB := TA.but bB (by omega)
        have CB : OneBox w1.heap.size (.int .i64 oc) WB := (HCT.out.same (kA.block _ HCT.out.lt)).same (bB.block _ (by omega) (by omega))
        have LB : OneBox w.heap.size (.int .i64 c) WB := (HJ1.out.client.same (kA.block _ HJ1.out.client.lt)).same (bB.block _ (by omega) (by omega))
        have QB : OneBox (w.heap.size + 1) (.int .i64 q) WB := (HJ1.out.seq.same (kA.block _ HJ1.out.seq.lt)).same (bB.block _ (by omega) (by omega))
        have HLOOP : Hid (WB.heap[W5.heap.size + 1]? = some (.loop rb)) := lB
        have HKA : Hid (Keeps W1 WA) := kA
        have HBB : Hid (But (W5.heap.size + 1) WA WB) := bB
        have HCB : Hid (OneBox w1.heap.size (.int .i64 oc) WB) := CB
        have c2 := TB.c2
        have c3 := TB.c3
        have cl := TB.lt
        have a0 := CB.1
        have az := CB.2
        have al := CB.lt
        have l0 := LB.1
        have ll := LB.lt
        have s0 := QB.1
        have sl := QB.lt
        clear TB CB LB QB lB kA bB TA x1 x2 x3 x4 y1 y2 y3 y4 hzA
        cases qe : (e.client == c && e.seq == q) with
        | true =>
          simp only [Bool.and_eq_true] at qe
          obtain ⟨qe1, qe2⟩ := qe
          have HD2 : Hid (onceTo L c q (i + 1) = oc + 1) := by show _ = _; rw [HDN.out, qe1, qe2]; rfl
          gi_wp2
          have hz := HZ5.out
          have hf := HFR.out
          have bA : But w1.heap.size WB (WB.setCell ⟨w1.heap.size, 0, none⟩ (.int .i64 (oc + 1))) := (But.refl _ _).set 0 _
          have AE : OneBox w1.heap.size (.int .i64 (oc + 1)) (WB.setCell ⟨w1.heap.size, 0, none⟩ (.int .i64 (oc + 1))) := OneBox.set HCB.out _
          generalize (WB.setCell ⟨w1.heap.size, 0, none⟩ (.int .i64 (oc + 1))) = WE at *
          have hLE : WE.heap[W5.heap.size + 1]? = some (.loop rb) := (bA.block _ (Array.getElem?_eq_some_iff.1 HLOOP.out).1 (by omega)).trans HLOOP.out
          have hlE := (Array.getElem?_eq_some_iff.1 hLE).1
          have BF : But (W5.heap.size + 1) WE (WE.putObj (W5.heap.size + 1) (.loop r)) := But.put _ _ _
          have hLF : (WE.putObj (W5.heap.size + 1) (.loop r)).heap[W5.heap.size + 1]? = some (.loop r) := World.putObj_heap_same hlE
          refine ⟨hLE, ?_⟩
          generalize (WE.putObj (W5.heap.size + 1) (.loop r)) = WF at *
          have SF : Spares (fun k => k ≠ w1.heap.size ∧ k ≠ W5.heap.size + 1) W1 WF := (((Spares.of HKA.out).trans (Spares.but HBB.out (fun h => h.2 rfl))).trans (Spares.but bA (fun h => h.1 rfl))).trans (Spares.but BF (fun h => h.2 rfl))
          have hJ := HJ1.out
          refine ⟨⟨by rw [HD2.out]; exact AE.same (BF.block _ AE.lt (by omega)), hJ.client.same (SF.block _ hJ.client.lt ⟨by omega, by omega⟩), hJ.seq.same (SF.block _ hJ.seq.lt ⟨by omega, by omega⟩), hLF, (SF.block _ (Array.getElem?_eq_some_iff.1 hJ.mark).1 ⟨by omega, by omega⟩).trans hJ.mark, SF.keeps hJ.keeps (fun k hk => ⟨by omega, by omega⟩), HFR.out⟩, ?_⟩
          exact SF.mono (fun k hk h => ⟨by rcases h with h | h | h <;> omega, by rcases h with h | h | h <;> omega⟩)
        | false =>
          have HD2 : Hid (onceTo L c q (i + 1) = oc) := by show _ = _; rw [HDN.out, qe]; simp
          cases qe1 : (e.client == c) with
          | false =>
            gi_wp2
            have hz := HZ5.out
            have hf := HFR.out
            have bA : But w1.heap.size WB WB := But.refl _ _
            have AE := HCB.out
            obtain ⟨WE, hWE⟩ : ∃ z, z = WB := ⟨_, rfl⟩
            have bA : But w1.heap.size WB WE := by rw [hWE]; exact But.refl _ _
            rw [← hWE] at AE ⊢
            clear hWE
            have hLE : WE.heap[W5.heap.size + 1]? = some (.loop rb) := (bA.block _ (Array.getElem?_eq_some_iff.1 HLOOP.out).1 (by omega)).trans HLOOP.out
            have hlE := (Array.getElem?_eq_some_iff.1 hLE).1
            have BF : But (W5.heap.size + 1) WE (WE.putObj (W5.heap.size + 1) (.loop r)) := But.put _ _ _
            have hLF : (WE.putObj (W5.heap.size + 1) (.loop r)).heap[W5.heap.size + 1]? = some (.loop r) := World.putObj_heap_same hlE
            refine ⟨hLE, ?_⟩
            generalize (WE.putObj (W5.heap.size + 1) (.loop r)) = WF at *
            have SF : Spares (fun k => k ≠ w1.heap.size ∧ k ≠ W5.heap.size + 1) W1 WF := (((Spares.of HKA.out).trans (Spares.but HBB.out (fun h => h.2 rfl))).trans (Spares.but bA (fun h => h.1 rfl))).trans (Spares.but BF (fun h => h.2 rfl))
            have hJ := HJ1.out
            refine ⟨⟨by rw [HD2.out]; exact AE.same (BF.block _ AE.lt (by omega)), hJ.client.same (SF.block _ hJ.client.lt ⟨by omega, by omega⟩), hJ.seq.same (SF.block _ hJ.seq.lt ⟨by omega, by omega⟩), hLF, (SF.block _ (Array.getElem?_eq_some_iff.1 hJ.mark).1 ⟨by omega, by omega⟩).trans hJ.mark, SF.keeps hJ.keeps (fun k hk => ⟨by omega, by omega⟩), HFR.out⟩, ?_⟩
            exact SF.mono (fun k hk h => ⟨by rcases h with h | h | h <;> omega, by rcases h with h | h | h <;> omega⟩)
          | true =>
            have qe2 : (e.seq == q) = false := by rw [qe1] at qe; simpa using qe
            gi_wp2
            have hz := HZ5.out
            have hf := HFR.out
            have AE := HCB.out
            obtain ⟨WE, hWE⟩ : ∃ z, z = WB := ⟨_, rfl⟩
            have bA : But w1.heap.size WB WE := by rw [hWE]; exact But.refl _ _
            rw [← hWE] at AE ⊢
            clear hWE
            have hLE : WE.heap[W5.heap.size + 1]? = some (.loop rb) := (bA.block _ (Array.getElem?_eq_some_iff.1 HLOOP.out).1 (by omega)).trans HLOOP.out
            have hlE := (Array.getElem?_eq_some_iff.1 hLE).1
            have BF : But (W5.heap.size + 1) WE (WE.putObj (W5.heap.size + 1) (.loop r)) := But.put _ _ _
            have hLF : (WE.putObj (W5.heap.size + 1) (.loop r)).heap[W5.heap.size + 1]? = some (.loop r) := World.putObj_heap_same hlE
            refine ⟨hLE, ?_⟩
            generalize (WE.putObj (W5.heap.size + 1) (.loop r)) = WF at *
            have SF : Spares (fun k => k ≠ w1.heap.size ∧ k ≠ W5.heap.size + 1) W1 WF := (((Spares.of HKA.out).trans (Spares.but HBB.out (fun h => h.2 rfl))).trans (Spares.but bA (fun h => h.1 rfl))).trans (Spares.but BF (fun h => h.2 rfl))
            have hJ := HJ1.out
            refine ⟨⟨by rw [HD2.out]; exact AE.same (BF.block _ AE.lt (by omega)), hJ.client.same (SF.block _ hJ.client.lt ⟨by omega, by omega⟩), hJ.seq.same (SF.block _ hJ.seq.lt ⟨by omega, by omega⟩), hLF, (SF.block _ (Array.getElem?_eq_some_iff.1 hJ.mark).1 ⟨by omega, by omega⟩).trans hJ.mark, SF.keeps hJ.keeps (fun k hk => ⟨by omega, by omega⟩), HFR.out⟩, ?_⟩
            exact SF.mono (fun k hk h => ⟨by rcases h with h | h | h <;> omega, by rcases h with h | h | h <;> omega⟩)
end Go.Proofs.Yteabfjpajgakiag

/- SameBools, SameOps, traceBegun. -/
set_option linter.unusedSimpArgs false
set_option linter.unusedVariables false
set_option maxRecDepth 10000
namespace Go.Proofs.Yteabfjpajgakiag
open Go.RowKit

theorem BoolsAt.new (w : World) (l : List Bool) (hl : l.length ≤ 1000) (c : Nat) : BoolsAt (w.alloc (.cells (boolCells l).toArray 4)) (.slice (some ⟨w.heap.size, 0, none⟩) l.length c) l := by
  refine ⟨by simp [boolCells], by unfold maxLen; omega, .inr ⟨_, _, rfl, fun j u hu => ?_⟩⟩
  rw [Addr.add_lit, Nat.zero_add]
  unfold World.cell?
  rw [World.alloc_heap_new]
  simpa using hu
theorem OpsRow.new (w : World) (l : List Ent) (hl : l.length ≤ 1000) (c : Nat) : OpsRow (w.alloc (.cells (opCells l).toArray 26)) (.slice (some ⟨w.heap.size, 0, none⟩) l.length c) l := by
  refine ⟨opCells_len l, by unfold maxLen; omega, .inr ⟨_, _, rfl, fun j u hu => ?_⟩⟩
  rw [Addr.add_lit, Nat.zero_add]
  unfold World.cell?
  rw [World.alloc_heap_new]
  simpa using hu
end Go.Proofs.Yteabfjpajgakiag

/- Rows of two types lie in two blocks. -/
set_option linter.unusedSimpArgs false
set_option linter.unusedVariables false
set_option maxRecDepth 10000
namespace Go.Proofs.Yteabfjpajgakiag
open Go.RowKit

theorem owns_not {w : World} {m : Nat} {e e' : TypeId} {size : Nat} {v : Value} {n : Nat} {xs : List Value} {g : Nat} {c : Array Value} {f : Nat × Nat} (h : w.ownsRow m e size v n xs) (hb : w.heap[g]? = some (.cells c e' f)) (hne : e ≠ e') : v.ownBlock ≠ some g := by
  intro h1
  rcases h.2 with ⟨hv, _⟩ | ⟨a, cap, cur, hv, _, hc, _⟩
  · rw [hv] at h1; cases h1
  · rw [hv] at h1
    simp only [Value.ownBlock, Option.some.injEq] at h1
    subst h1
    rw [hc] at hb
    simp only [Option.some.injEq, Obj.cells.injEq] at hb
    exact hne hb.2.1

end Go.Proofs.Yteabfjpajgakiag

/- Three appends in one statement, and parts of a row of answers. -/
set_option linter.unusedSimpArgs false
set_option linter.unusedVariables false
namespace Go.Proofs.Yteabfjpajgakiag
open Go.RowKit

/-- An append whose run is known, as a step of a region that draws. -/
theorem step_append_run {P : Program} {ops : Array Oper} {o : Oper} {a : Act} {w w' : World} {K : Act → World → Prop} {Q : Exit → Act → World → Prop} {E : Prop} {v x v' : Value} (hgd : o.guard = none) (s y : Operand) (t : TypeId)
    (ho : o.op = .call { callee := .builtin .append, args := #[s, y], argTypes := #[t, t] }) (hs : a.eval s = v) (hx : a.eval y = x)
    (hr : (Builtin.append_ #[t, t] o.type #[v, x]).run P w = .ok v' w') (hK : K (a.put o.dst v') w') : if Region.wanted o (yielded ops a.tmps) = true then Oper.wp P o a w K Q else E := by
  have hw : Region.wanted o (yielded ops a.tmps) = true := by simp [Region.wanted, hgd]
  rw [if_pos hw]
  unfold Oper.wp
  simp [execOp, ho, resolve, invoke, builtin, hs, hx, hr, Result.andThen]
  exact hK

end Go.Proofs.Yteabfjpajgakiag

/- What the reference's DoOf answers. -/
set_option linter.unusedSimpArgs false
set_option linter.unusedVariables false
set_option maxRecDepth 10000
namespace Go.Proofs.Yteabfjpajgakiag
open Go.RowKit

end Go.Proofs.Yteabfjpajgakiag
