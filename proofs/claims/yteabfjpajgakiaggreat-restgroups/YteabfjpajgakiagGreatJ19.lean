/- GrE, GrF, PaC, GrG, NoC. -/
import Derived.Deep.RegionHeld3
import Derived.Deep.DeepCutAuto
import Derived.Lib.MinMax
import Derived.Test.YteabfjpajgakiagGreatJ02
import Derived.Test.YteabfjpajgakiagGreatJ11
import Derived.Test.YteabfjpajgakiagGreatJ15
import Derived.Test.YteabfjpajgakiagGreatJ18
/- twin.Group, enter. -/
set_option linter.unusedSimpArgs false
set_option linter.unusedVariables false
set_option maxRecDepth 10000
namespace Go.Proofs.YteabfjpajgakiagGreat
open Go.RowKit

set_option maxHeartbeats 4000000 in
theorem twin_group (g : Grp) (A : Ad) (w : World) (hG : GrAt w g A) (hb0 : stErr g.log.base = 0) (h50 : g.log.tail.length ≤ 50) (hs : stErr g.n0 = 0 ∧ stErr g.n1 = 0 ∧ stErr g.n2 = 0) :
    Calls Tryz.prog 43 #[.agg (GL g A).toArray] w fun e w' => ∃ B, GrOwn w.heap.size w' g B ∧ e = .returned (.agg (GL g B).toArray) ∧ Keeps w w' := by
  have HG : Hid (GrAt w g A) := hG
  clear hG
  go_enter Tryz.func43, Tryz.ntmps43
  go_wp2_with (first | (refine box31 rfl rfl rfl ?_; intro w1 bb hBbb hkbb hlbb hgbb) | (refine alloc31 rfl rfl ?_; intro w2 r hBr hkr hlr hgr) | (refine load28 rfl rfl bb rfl (hBbb.keep hkr (by rw [GL_len]; decide)) ?_))
  have hk2 : Keeps w w2 := hkbb.trans hkr
  refine (twin_log g.log _ A.ta A.tc w2 (HG.out.keep hk2).base (HG.out.keep hk2).tail hb0 (by omega)).mono ?_
  rintro e w3 ⟨qa, qc, ea, ec, o1, o2, o3, rfl, hb⟩
  have hB3 := (hBbb.keep hkr (by rw [GL_len]; decide)).keep hb (by rw [GL_len]; decide)
  have HR3 : Hid (CBox r (GL zeroGrp zeroAd) w3) := hBr.keep hb (by rw [GL_len]; decide)
  have HBL : Hid (bb < w2.heap.size) := Nat.lt_of_lt_of_le hlbb hkr.size
  have HRL : Hid (r < w2.heap.size) := hlr
  have HBG : Hid (w.heap.size ≤ bb) := hgbb
  have HRG : Hid (w.heap.size ≤ r) := Nat.le_trans hkbb.size hgr
  have HNE : Hid (r ≠ bb) := fun e => by omega
  have HK3 : Hid (Keeps w w3) := hk2.trans hb
  have HW3 : Hid (w2.heap.size ≤ w3.heap.size) := hb.size
  have HWW : Hid (w.heap.size ≤ w2.heap.size) := hk2.size
  have HO3 : Hid (LogOwn w2.heap.size w3 g (setLogA A qa qc ea ec)) := ⟨o1, o2, o3⟩
  clear hb hk2 hBbb hkbb hlbb hgbb hBr hkr hlr hgr o1 o2 o3
  go_wp2_with (first | (refine store28 rfl rfl bb rfl rfl hB3 ?_; intro W0 hSW0 hTW0) | (refine load29 rfl rfl bb rfl hSW0 ?_))
  obtain ⟨A1, hA1⟩ : ∃ z, z = setLogA A qa qc ea ec := ⟨_, rfl⟩
  have HB0 : Hid (CBox bb (GL g A1) W0) := by rw [hA1]; exact hSW0
  have HR0 : Hid (CBox r (GL zeroGrp zeroAd) W0) := HR3.out.other hTW0 HNE.out (by rw [GL_len]; decide)
  have HO0 : Hid (LogOwn w2.heap.size W0 g A1) := by rw [hA1]; exact HO3.out.but hTW0 HBL.out
  have HK0 : Hid (Keeps w W0) := But.to HK3.out HBG.out hTW0
  have HW0 : Hid (w2.heap.size ≤ W0.heap.size) := Nat.le_trans HW3.out hTW0.size
  have eN : NC (setLog g g.log) (setLogA A qa qc ea ec) = NC g A1 := by rw [hA1]; rfl
  rw [eN]
  have hAA : A1.a0 = A.a0 ∧ A1.c0 = A.c0 ∧ A1.a1 = A.a1 ∧ A1.c1 = A.c1 ∧ A1.a2 = A.a2 ∧ A1.c2 = A.c2 := by rw [hA1]; exact ⟨rfl, rfl, rfl, rfl, rfl, rfl⟩
  have hI0 : ∀ w, (Instr.index 29 (.agg (NC g A1).toArray) (.int .i64 0)).run Tryz.prog w = .ok (stV g.n0 (.slice A.a0 g.n0.tab.length A.c0)) w := fun w => by rw [node_index0, hAA.1, hAA.2.1]
  have hI1 : ∀ w, (Instr.index 29 (.agg (NC g A1).toArray) (.int .i64 1)).run Tryz.prog w = .ok (stV g.n1 (.slice A.a1 g.n1.tab.length A.c1)) w := fun w => by rw [node_index1, hAA.2.2.1, hAA.2.2.2.1]
  have hI2 : ∀ w, (Instr.index 29 (.agg (NC g A1).toArray) (.int .i64 2)).run Tryz.prog w = .ok (stV g.n2 (.slice A.a2 g.n2.tab.length A.c2)) w := fun w => by rw [node_index2, hAA.2.2.2.2.1, hAA.2.2.2.2.2]
  obtain ⟨N, hN⟩ : ∃ z, z = (NC g A1).toArray := ⟨_, rfl⟩
  rw [← hN] at hI0 hI1 hI2 ⊢
  clear hSW0 hTW0 hB3 HR3 HO3 HK3 HW3 eN hAA hN hA1
  refine wp_loop_rounds 4 ?_
  rw [rounds_succ]
  have ix := hI0
  go_wp2_with (first | (refine alloc25 rfl rfl ?_; intro v0 s0 hBs0 hks0 hls0 hgs0) | (refine store25b rfl rfl s0 rfl rfl hBs0 ?_; intro x0 hSx0 hTx0) | (refine load25b rfl rfl s0 rfl hSx0 ?_))
  have hkx : Keeps W0 x0 := But.to hks0 hgs0 hTx0
  refine (twin_right _ x0 (HG.out.keep (HK0.out.trans hkx)).t0 hs.1).mono ?_
  rintro e y0 ⟨x', ho, rfl, hb⟩
  obtain ⟨va0, vc0, rfl, _⟩ := ho.tab.len
  have hkb : Keeps W0 y0 := hkx.trans hb
  have hB0b := HB0.out.keep hkb (by rw [GL_len]; decide)
  have hR0b : Hid (CBox r (GL zeroGrp zeroAd) y0) := HR0.out.keep hkb (by rw [GL_len]; decide)
  have HO0b : Hid (LogOwn w2.heap.size y0 g A1) := HO0.out.keep hkb
  have HT0b : Hid (OwnTab w2.heap.size y0 (.slice va0 g.n0.tab.length vc0) g.n0.tab) := ho.base (by have := HW0.out; have := hkx.size; omega)
  have HKb : Hid (Keeps w y0) := HK0.out.trans hkb
  have HWb : Hid (w2.heap.size ≤ y0.heap.size) := by have := HW0.out; have := hkb.size; exact Nat.le_trans HW0.out hkb.size
  clear ho hb hkx hkb ix hBs0 hks0 hls0 hgs0 hSx0 hTx0 HB0 HR0 HO0 HK0 HW0
  go_wp2_with (first | (refine store25 rfl rfl bb 0 (by decide) 8 rfl rfl rfl hB0b ?_; intro W1 hSW1 hTW1))
  obtain ⟨A2, hA2⟩ : ∃ z, z = setNodeA A1 0 va0 vc0 := ⟨_, rfl⟩
  have HB1 : Hid (CBox bb (GL g A2) W1) := by rw [hA2]; exact hSW1
  have HR1 : Hid (CBox r (GL zeroGrp zeroAd) W1) := hR0b.out.other hTW1 HNE.out (by rw [GL_len]; decide)
  have HO1 : Hid (LogOwn w2.heap.size W1 g A2) := by rw [hA2]; exact (HO0b.out.but hTW1 HBL.out).node _ _ 0
  have HT0 : Hid (OwnTab w2.heap.size W1 (.slice A2.a0 g.n0.tab.length A2.c0) g.n0.tab) := by rw [hA2]; exact HT0b.out.but HBL.out hTW1
  have HK1 : Hid (Keeps w W1) := But.to HKb.out HBG.out hTW1
  have HW1 : Hid (w2.heap.size ≤ W1.heap.size) := Nat.le_trans HWb.out hTW1.size
  clear hSW1 hTW1 hB0b hR0b HO0b HKb HWb hA2 HT0b
  rw [rounds_succ]
  have ix := hI1
  go_wp2_with (first | (refine alloc25 rfl rfl ?_; intro v1 s1 hBs1 hks1 hls1 hgs1) | (refine store25b rfl rfl s1 rfl rfl hBs1 ?_; intro x1 hSx1 hTx1) | (refine load25b rfl rfl s1 rfl hSx1 ?_))
  have hkx : Keeps W1 x1 := But.to hks1 hgs1 hTx1
  refine (twin_right _ x1 (HG.out.keep (HK1.out.trans hkx)).t1 hs.2.1).mono ?_
  rintro e y1 ⟨x', ho, rfl, hb⟩
  obtain ⟨va1, vc1, rfl, _⟩ := ho.tab.len
  have hkb : Keeps W1 y1 := hkx.trans hb
  have hB1b := HB1.out.keep hkb (by rw [GL_len]; decide)
  have hR1b : Hid (CBox r (GL zeroGrp zeroAd) y1) := HR1.out.keep hkb (by rw [GL_len]; decide)
  have HO1b : Hid (LogOwn w2.heap.size y1 g A2) := HO1.out.keep hkb
  have HT0b : Hid (OwnTab w2.heap.size y1 (.slice A2.a0 g.n0.tab.length A2.c0) g.n0.tab) := HT0.out.keep hkb
  have HT1b : Hid (OwnTab w2.heap.size y1 (.slice va1 g.n1.tab.length vc1) g.n1.tab) := ho.base (by have := HW1.out; have := hkx.size; omega)
  have HKb : Hid (Keeps w y1) := HK1.out.trans hkb
  have HWb : Hid (w2.heap.size ≤ y1.heap.size) := by have := HW1.out; have := hkb.size; exact Nat.le_trans HW1.out hkb.size
  clear ho hb hkx hkb ix hBs1 hks1 hls1 hgs1 hSx1 hTx1 HB1 HR1 HO1 HK1 HW1 HT0
  go_wp2_with (first | (refine store25 rfl rfl bb 1 (by decide) 15 rfl rfl rfl hB1b ?_; intro W2 hSW2 hTW2))
  obtain ⟨A3, hA3⟩ : ∃ z, z = setNodeA A2 1 va1 vc1 := ⟨_, rfl⟩
  have HB2 : Hid (CBox bb (GL g A3) W2) := by rw [hA3]; exact hSW2
  have HR2 : Hid (CBox r (GL zeroGrp zeroAd) W2) := hR1b.out.other hTW2 HNE.out (by rw [GL_len]; decide)
  have HO2 : Hid (LogOwn w2.heap.size W2 g A3) := by rw [hA3]; exact (HO1b.out.but hTW2 HBL.out).node _ _ 1
  have HT0 : Hid (OwnTab w2.heap.size W2 (.slice A3.a0 g.n0.tab.length A3.c0) g.n0.tab) := by rw [hA3]; exact HT0b.out.but HBL.out hTW2
  have HT1 : Hid (OwnTab w2.heap.size W2 (.slice A3.a1 g.n1.tab.length A3.c1) g.n1.tab) := by rw [hA3]; exact HT1b.out.but HBL.out hTW2
  have HK2 : Hid (Keeps w W2) := But.to HKb.out HBG.out hTW2
  have HW2 : Hid (w2.heap.size ≤ W2.heap.size) := Nat.le_trans HWb.out hTW2.size
  clear hSW2 hTW2 hB1b hR1b HO1b HKb HWb hA3 HT0b HT1b
  rw [rounds_succ]
  have ix := hI2
  go_wp2_with (first | (refine alloc25 rfl rfl ?_; intro v2 s2 hBs2 hks2 hls2 hgs2) | (refine store25b rfl rfl s2 rfl rfl hBs2 ?_; intro x2 hSx2 hTx2) | (refine load25b rfl rfl s2 rfl hSx2 ?_))
  have hkx : Keeps W2 x2 := But.to hks2 hgs2 hTx2
  refine (twin_right _ x2 (HG.out.keep (HK2.out.trans hkx)).t2 hs.2.2).mono ?_
  rintro e y2 ⟨x', ho, rfl, hb⟩
  obtain ⟨va2, vc2, rfl, _⟩ := ho.tab.len
  have hkb : Keeps W2 y2 := hkx.trans hb
  have hB2b := HB2.out.keep hkb (by rw [GL_len]; decide)
  have hR2b : Hid (CBox r (GL zeroGrp zeroAd) y2) := HR2.out.keep hkb (by rw [GL_len]; decide)
  have HO2b : Hid (LogOwn w2.heap.size y2 g A3) := HO2.out.keep hkb
  have HT0b : Hid (OwnTab w2.heap.size y2 (.slice A3.a0 g.n0.tab.length A3.c0) g.n0.tab) := HT0.out.keep hkb
  have HT1b : Hid (OwnTab w2.heap.size y2 (.slice A3.a1 g.n1.tab.length A3.c1) g.n1.tab) := HT1.out.keep hkb
  have HT2b : Hid (OwnTab w2.heap.size y2 (.slice va2 g.n2.tab.length vc2) g.n2.tab) := ho.base (by have := HW2.out; have := hkx.size; omega)
  have HKb : Hid (Keeps w y2) := HK2.out.trans hkb
  have HWb : Hid (w2.heap.size ≤ y2.heap.size) := by have := HW2.out; have := hkb.size; exact Nat.le_trans HW2.out hkb.size
  clear ho hb hkx hkb ix hBs2 hks2 hls2 hgs2 hSx2 hTx2 HB2 HR2 HO2 HK2 HW2 HT0 HT1
  go_wp2_with (first | (refine store25 rfl rfl bb 2 (by decide) 22 rfl rfl rfl hB2b ?_; intro W3 hSW3 hTW3))
  obtain ⟨A4, hA4⟩ : ∃ z, z = setNodeA A3 2 va2 vc2 := ⟨_, rfl⟩
  have HB3 : Hid (CBox bb (GL g A4) W3) := by rw [hA4]; exact hSW3
  have HR3 : Hid (CBox r (GL zeroGrp zeroAd) W3) := hR2b.out.other hTW3 HNE.out (by rw [GL_len]; decide)
  have HO3 : Hid (LogOwn w2.heap.size W3 g A4) := by rw [hA4]; exact (HO2b.out.but hTW3 HBL.out).node _ _ 2
  have HT0 : Hid (OwnTab w2.heap.size W3 (.slice A4.a0 g.n0.tab.length A4.c0) g.n0.tab) := by rw [hA4]; exact HT0b.out.but HBL.out hTW3
  have HT1 : Hid (OwnTab w2.heap.size W3 (.slice A4.a1 g.n1.tab.length A4.c1) g.n1.tab) := by rw [hA4]; exact HT1b.out.but HBL.out hTW3
  have HT2 : Hid (OwnTab w2.heap.size W3 (.slice A4.a2 g.n2.tab.length A4.c2) g.n2.tab) := by rw [hA4]; exact HT2b.out.but HBL.out hTW3
  have HK3 : Hid (Keeps w W3) := But.to HKb.out HBG.out hTW3
  have HW3 : Hid (w2.heap.size ≤ W3.heap.size) := Nat.le_trans HWb.out hTW3.size
  clear hSW3 hTW3 hB2b hR2b HO2b HKb HWb hA4 HT0b HT1b HT2b
  rw [rounds_succ]
  go_wp2_with (first | (refine load31 rfl rfl bb rfl HB3.out ?_) | (refine store31 rfl rfl r rfl rfl HR3.out ?_; intro W4 hSW4 hTW4))
  refine bodyPost_ret (results1 Tryz.results43 rfl (read31 hSW4)) rfl ?_
  exact ⟨A4, GrOwn.of (HO3.out.but hTW4 HRL.out) (HT0.out.but HRL.out hTW4) (HT1.out.but HRL.out hTW4) (HT2.out.but HRL.out hTW4) HWW.out, rfl, But.to HK3.out HRG.out hTW4⟩
end Go.Proofs.YteabfjpajgakiagGreat

/- Laws for drawn regions at variables of many cells. -/
set_option linter.unusedSimpArgs false
set_option linter.unusedVariables false
set_option maxRecDepth 10000
namespace Go.Proofs.YteabfjpajgakiagGreat
open Go.RowKit

/-- A goal that is not looked into. -/
structure Wrp (p : Prop) : Prop where
  out : p
/-- An operation that is wanted comes up next. -/
theorem AllReadyH.wrp {P : Program} {ops : Array Oper} {Q : Exit → Act → World → Prop} {md : Region.Mode} {S : World → Prop} {fuel : Nat} {listed : Array Bool} {a : Act} {w : World} {i : Nat} {o : Oper} {rs : List Nat} (ho : ops[i]? = some o) (hw : Region.wanted o (yielded ops a.tmps) = true)
    (h : ∀ K' : Act → World → Prop, Shut (∀ a w, S w → (S w → wpAnyH P md ops Q S fuel (listed.setIfInBounds i true) a w) → K' a w) → Wrp (Oper.wp P o a w K' Q)) (hs : AllReadyH P md ops Q S fuel listed a w rs) : AllReadyH P md ops Q S fuel listed a w (i :: rs) :=
  AllReadyH.cons ho (fun K' hK => by rw [if_pos hw]; exact (h K' hK).out) hs
/-- A call. -/
theorem h_call {P : Program} {o : Oper} {a : Act} {w : World} {K : Act → World → Prop} {Q : Exit → Act → World → Prop} (h : o.wp P a w K Q) : Wrp (Oper.wp P o a w K Q) := ⟨h⟩
def EC (e : Ent) : List Value := [.int .i64 e.kind, .int .i64 e.time, .int .i64 e.client, .int .i64 e.seq, .int .i64 e.ack, .int .i64 e.ok, .int .i64 e.okey, .int .i64 e.oto, .int .i64 e.on]
theorem size35 : (Tryz.prog.info? 35).map (·.size) = some 9 := by kernel_rfl
theorem row35 : ∃ d, Tryz.prog.underlying 35 = some d ∧ d.isRow = true := ⟨_, Tryz.underlying35, rfl⟩
theorem wp_alloc_new {P : Program} {op : Oper} {a : Act} {w : World} {K : Act → World → Prop} {Q : Exit → Act → World → Prop} (ty : TypeId) (ho : op.op = .alloc ty) (z : Value) (cs : List Value) (hz : (P.info? ty).map (·.zero) = some (some z)) (hc : z.cells = cs.toArray)
    (h : ∀ (w' : World) (b : Nat), CBox b cs w' → Keeps w w' → b < w'.heap.size → w.heap.size ≤ b → K (a.put op.dst (.pointer (some ⟨b, 0, none⟩))) w') : op.wp P a w K Q := by
  have hn := h (w.alloc (.cells cs.toArray ty)) w.heap.size (CBox.new w cs ty) ((Keeps.refl _).alloc _) (by simp) (Nat.le_refl _)
  obtain ⟨i, hi, hzi⟩ : ∃ i, P.info? ty = some i ∧ i.zero = some z := by
    cases q : P.info? ty with
    | none => rw [q] at hz; cases hz
    | some i => rw [q] at hz; exact ⟨i, rfl, by simpa using hz⟩
  have e1 : (execOp a.eval op).run P w = .ok (.value (.pointer (some ⟨w.heap.size, 0, none⟩))) (w.alloc (.cells cs.toArray ty)) := by
    generalize a.eval = f
    rw [← hc]
    simp [execOp, ho, hi, hzi, go_sem, typeInfo, zeroValue]
  unfold Oper.wp
  rw [e1]
  exact hn
theorem wp_store_box {P : Program} {op : Oper} {a : Act} {w : World} {K : Act → World → Prop} {Q : Exit → Act → World → Prop} (ty : TypeId) (x y : Operand) (ho : op.op = .store ty x y) (b o : Nat) (ds : List Value) (hx : a.eval x = .pointer (some ⟨b, o, none⟩)) (hy : a.eval y = .agg ds.toArray) {cs : List Value} (hB : CBox b cs w) (es : List Value) (hes : cs.take o ++ ds ++ cs.drop (o + ds.length) = es)
    (hl : o + ds.length ≤ cs.length) (hi : (P.info? ty).map (·.size) = some ds.length) (h1 : ds.toArray.all (·.oneCell') = true) (h : ∀ w', CBox b es w' → But b w w' → K (a.put op.dst undef) w') : op.wp P a w K Q := by
  subst hes
  refine wp_store_mid ty x y ho b o ds.toArray hx hy (by simpa using hB.there o ds.length hl) (by simpa using hi) h1 ?_
  exact h _ (hB.putAt ds hl) (But.setCells _ _ (But.refl _ _))
theorem h_alloc31 {o : Oper} {a : Act} {w : World} {K : Act → World → Prop} {Q : Exit → Act → World → Prop} (ho : o.op = .alloc 31)
    (h : ∀ (w' : World) (b : Nat), CBox b (GL zeroGrp zeroAd) w' → Keeps w w' → b < w'.heap.size → w.heap.size ≤ b → K (a.put o.dst (.pointer (some ⟨b, 0, none⟩))) w') : Wrp (Oper.wp Tryz.prog o a w K Q) := ⟨wp_alloc_new _ ho _ _ zero31 rfl h⟩
theorem h_alloc28 {o : Oper} {a : Act} {w : World} {K : Act → World → Prop} {Q : Exit → Act → World → Prop} (ho : o.op = .alloc 28)
    (h : ∀ (w' : World) (b : Nat), CBox b (LC zeroLg (.slice none 0 0) (.slice none 0 0)) w' → Keeps w w' → b < w'.heap.size → w.heap.size ≤ b → K (a.put o.dst (.pointer (some ⟨b, 0, none⟩))) w') : Wrp (Oper.wp Tryz.prog o a w K Q) := ⟨wp_alloc_new _ ho _ _ zero28 rfl h⟩
theorem h_alloc25 {o : Oper} {a : Act} {w : World} {K : Act → World → Prop} {Q : Exit → Act → World → Prop} (ho : o.op = .alloc 25)
    (h : ∀ (w' : World) (b : Nat), CBox b (SC zeroSt (.slice none 0 0)) w' → Keeps w w' → b < w'.heap.size → w.heap.size ≤ b → K (a.put o.dst (.pointer (some ⟨b, 0, none⟩))) w') : Wrp (Oper.wp Tryz.prog o a w K Q) := ⟨wp_alloc_new _ ho _ _ zero25 rfl h⟩
theorem y_load31 {ops : Array Oper} {S : World → Prop} {op : Oper} {a : Act} (hw : Region.wanted op (yielded ops a.tmps) = true) {x : Operand} (ho : op.op = .load 31 x) (b : Nat) (hx : a.eval x = .pointer (some ⟨b, 0, none⟩)) {g : Grp} {A : Ad} (hS : ∀ w, S w → CBox b (GL g A) w) : YieldsIf Tryz.prog ops S op (.agg (GL g A).toArray) a := by
  obtain ⟨d, h1, h2⟩ := row31
  exact yieldsIf_load_mid hw _ x ho b _ hx _ d (fun w hs => range_of (hS w hs) 0 29 (GL_all g A)) h1 h2 (info_size size31 (GL_len g A))
theorem y_load28 {ops : Array Oper} {S : World → Prop} {op : Oper} {a : Act} (hw : Region.wanted op (yielded ops a.tmps) = true) {x : Operand} (ho : op.op = .load 28 x) (b : Nat) (hx : a.eval x = .pointer (some ⟨b, 0, none⟩)) {g : Grp} {A : Ad} (hS : ∀ w, S w → CBox b (GL g A) w) : YieldsIf Tryz.prog ops S op (logV g A) a := by
  obtain ⟨d, h1, h2⟩ := row28
  exact yieldsIf_load_mid hw _ x ho b _ hx _ d (fun w hs => range_of (hS w hs) 0 8 (GL_log g A)) h1 h2 (info_size size28 rfl)
theorem y_load25 {ops : Array Oper} {S : World → Prop} {op : Oper} {a : Act} (hw : Region.wanted op (yielded ops a.tmps) = true) {x : Operand} (ho : op.op = .load 25 x) (b : Nat) (k : Nat) (hk : k < 3) (o : Nat) (e : o = 8 + k * 7) (hx : a.eval x = .pointer (some ⟨b, o, none⟩)) {g : Grp} {A : Ad} (hS : ∀ w, S w → CBox b (GL g A) w) : YieldsIf Tryz.prog ops S op (nodeV g A k) a := by
  obtain ⟨d, h1, h2⟩ := row25
  subst e
  exact yieldsIf_load_mid hw _ x ho b _ hx _ d (fun w hs => range_of (hS w hs) (8 + k * 7) 7 (GL_node g A k hk)) h1 h2 (info_size size25 rfl)
theorem y_load25b {ops : Array Oper} {S : World → Prop} {op : Oper} {a : Act} (hw : Region.wanted op (yielded ops a.tmps) = true) {x : Operand} (ho : op.op = .load 25 x) (b : Nat) (hx : a.eval x = .pointer (some ⟨b, 0, none⟩)) {s : St} {p : Value} (hS : ∀ w, S w → CBox b (SC s p) w) : YieldsIf Tryz.prog ops S op (stV s p) a := by
  obtain ⟨d, h1, h2⟩ := row25
  exact yieldsIf_load_mid hw _ x ho b _ hx _ d (fun w hs => range_of (hS w hs) 0 7 (ds := SC s p) rfl) h1 h2 (info_size size25 rfl)
theorem y_load35 {ops : Array Oper} {S : World → Prop} {op : Oper} {a : Act} (hw : Region.wanted op (yielded ops a.tmps) = true) {x : Operand} (ho : op.op = .load 35 x) (b : Nat) (hx : a.eval x = .pointer (some ⟨b, 0, none⟩)) {e : Ent} (hS : ∀ w, S w → CBox b (EC e) w) : YieldsIf Tryz.prog ops S op (entV e) a := by
  obtain ⟨d, h1, h2⟩ := row35
  exact yieldsIf_load_mid hw _ x ho b _ hx _ d (fun w hs => range_of (hS w hs) 0 9 (ds := EC e) rfl) h1 h2 (info_size size35 rfl)
theorem h_store28b {o : Oper} {a : Act} {w : World} {K : Act → World → Prop} {Q : Exit → Act → World → Prop} {x y : Operand} (ho : o.op = .store 28 x y) (b : Nat) (hx : a.eval x = .pointer (some ⟨b, 0, none⟩)) {k l : Lg} {p q : Value} {xa ta : Option Addr} {xn tn xc tc : Nat} (hy : a.eval y = lgV l (.slice xa xn xc) (.slice ta tn tc)) (hB : CBox b (LC k p q) w)
    (h : ∀ w', CBox b (LC l (.slice xa xn xc) (.slice ta tn tc)) w' → But b w w' → K (a.put o.dst undef) w') : Wrp (Oper.wp Tryz.prog o a w K Q) := by
  exact ⟨wp_store_box _ x y ho b 0 (LC l (.slice xa xn xc) (.slice ta tn tc)) hx hy hB _ rfl (Nat.le_of_ble_eq_true rfl) (info_size size28 rfl) (LC_one _ _ _ _ _ _ _) h⟩
theorem h_store25b {o : Oper} {a : Act} {w : World} {K : Act → World → Prop} {Q : Exit → Act → World → Prop} {x y : Operand} (ho : o.op = .store 25 x y) (b : Nat) (hx : a.eval x = .pointer (some ⟨b, 0, none⟩)) {k s : St} {p : Value} {xa : Option Addr} {xn xc : Nat} (hy : a.eval y = stV s (.slice xa xn xc)) (hB : CBox b (SC k p) w)
    (h : ∀ w', CBox b (SC s (.slice xa xn xc)) w' → But b w w' → K (a.put o.dst undef) w') : Wrp (Oper.wp Tryz.prog o a w K Q) := by
  exact ⟨wp_store_box _ x y ho b 0 (SC s (.slice xa xn xc)) hx hy hB _ rfl (Nat.le_of_ble_eq_true rfl) (info_size size25 rfl) (SC_one _ _ _ _) h⟩
theorem h_store31 {o : Oper} {a : Act} {w : World} {K : Act → World → Prop} {Q : Exit → Act → World → Prop} {x y : Operand} (ho : o.op = .store 31 x y) (b : Nat) (hx : a.eval x = .pointer (some ⟨b, 0, none⟩)) {g g' : Grp} {A A' : Ad} (hy : a.eval y = .agg (GL g' A').toArray) (hB : CBox b (GL g A) w)
    (h : ∀ w', CBox b (GL g' A') w' → But b w w' → K (a.put o.dst undef) w') : Wrp (Oper.wp Tryz.prog o a w K Q) := by
  exact ⟨wp_store_box _ x y ho b 0 _ hx hy hB _ (GL_whole g g' A A') (Nat.le_of_eq rfl) (info_size size31 (GL_len g' A')) (GL_one g' A') h⟩
theorem h_store28 {o : Oper} {a : Act} {w : World} {K : Act → World → Prop} {Q : Exit → Act → World → Prop} {x y : Operand} (ho : o.op = .store 28 x y) (b : Nat) (hx : a.eval x = .pointer (some ⟨b, 0, none⟩)) {g : Grp} {A : Ad} {l : Lg} {xa ta : Option Addr} {xc tc : Nat} (hy : a.eval y = lgV l (.slice xa l.base.tab.length xc) (.slice ta l.tail.length tc)) (hB : CBox b (GL g A) w)
    (h : ∀ w', CBox b (GL (setLog g l) (setLogA A xa xc ta tc)) w' → But b w w' → K (a.put o.dst undef) w') : Wrp (Oper.wp Tryz.prog o a w K Q) := by
  exact ⟨wp_store_box _ x y ho b 0 (LC l (.slice xa l.base.tab.length xc) (.slice ta l.tail.length tc)) hx hy hB _ (GL_setLog g A l xa ta xc tc) (Nat.le_of_ble_eq_true rfl) (info_size size28 rfl) (LC_one _ _ _ _ _ _ _) h⟩
theorem h_store25 {o : Oper} {a : Act} {w : World} {K : Act → World → Prop} {Q : Exit → Act → World → Prop} {x y : Operand} (ho : o.op = .store 25 x y) (b : Nat) (k : Nat) (hk : k < 3) (i : Nat) (e : i = 8 + k * 7) (hx : a.eval x = .pointer (some ⟨b, i, none⟩)) {g : Grp} {A : Ad} {s : St} {xa : Option Addr} {xc : Nat} (hy : a.eval y = stV s (.slice xa s.tab.length xc)) (hB : CBox b (GL g A) w)
    (h : ∀ w', CBox b (GL (setNode g k s) (setNodeA A k xa xc)) w' → But b w w' → K (a.put o.dst undef) w') : Wrp (Oper.wp Tryz.prog o a w K Q) := by
  subst e
  exact ⟨wp_store_box _ x y ho b (8 + k * 7) (SC s (.slice xa s.tab.length xc)) hx hy hB _ (GL_setNode g A s xa xc k hk) (by rw [GL_len]; show 8 + k * 7 + 7 ≤ 29; omega) (info_size size25 rfl) (SC_one _ _ _ _) h⟩
section
variable {ops : Array Oper} {rest : List Oper} {op : Oper} {a : Act} {w : World} {Q : Exit → Act → World → Prop}
theorem box35 (hgd : op.guard = none) {x : Operand} (ho : op.op = .box 35 x) {e : Ent} (hx : a.eval x = entV e)
    (h : ∀ (w' : World) (b : Nat), CBox b (EC e) w' → Keeps w w' → b < w'.heap.size → w.heap.size ≤ b → wpList Tryz.prog ops Q rest (a.put op.dst (.pointer (some ⟨b, 0, none⟩))) w') : wpList Tryz.prog ops Q (op :: rest) a w := wpList_box_new hgd _ x ho (EC e) hx h
theorem load35 (hgd : op.guard = none) {x : Operand} (ho : op.op = .load 35 x) (b : Nat) (hx : a.eval x = .pointer (some ⟨b, 0, none⟩)) {e : Ent} (hB : CBox b (EC e) w)
    (h : wpList Tryz.prog ops Q rest (a.put op.dst (entV e)) w) : wpList Tryz.prog ops Q (op :: rest) a w := by
  obtain ⟨d, h1, h2⟩ := row35
  exact wpList_load_box hgd _ x ho b 0 hx hB 9 (EC e) rfl d h1 h2 (info_size size35 rfl) h
end
end Go.Proofs.YteabfjpajgakiagGreat

/- pack.Put. -/
set_option linter.unusedSimpArgs false
set_option linter.unusedVariables false
set_option maxRecDepth 10000
namespace Go.Proofs.YteabfjpajgakiagGreat
open Go.RowKit

set_option maxHeartbeats 8000000 in
theorem pack_put (l : Lg) (e : Ent) (x : Value) (ta : Option Addr) (tc : Nat) (w : World) (hT : TabAt w x l.base.tab) (hL : EntsAt w (.slice ta l.tail.length tc) l.tail) (hcap : l.tail.length ≤ tc) :
    Calls Tryz.prog 44 #[lgV l x (.slice ta l.tail.length tc), entV e] w fun y w' => ∃ qa qc ea ec, OwnTab w.heap.size w' (.slice qa (putLg l e).base.tab.length qc) (putLg l e).base.tab ∧ w'.ownsRow w.heap.size 35 9 (.slice ea (putLg l e).tail.length ec) (putLg l e).tail.length (entCells (putLg l e).tail) ∧ (putLg l e).tail.length ≤ ec ∧
      y = .returned (.tuple #[lgV (putLg l e) (.slice qa (putLg l e).base.tab.length qc) (.slice ea (putLg l e).tail.length ec), .int .i64 (putAns l e), .int .i64 (putLgErr l e)]) ∧ Keeps w w' := by
  obtain ⟨xa, xc, rfl, _⟩ := hT.len
  have HT : Hid (TabAt w (.slice xa l.base.tab.length xc) l.base.tab) := hT
  have HL : Hid (EntsAt w (.slice ta l.tail.length tc) l.tail) := hL
  have hlen := hL.2.1
  unfold maxLen at hlen
  clear hT hL
  have HPZ : Hid ((putLgErr l e == 0) = false → putLg l e = zeroLg ∧ putAns l e = 0) := fun h => ⟨by unfold putLg; rw [h]; rfl, by unfold putAns; rw [h]; rfl⟩
  have HPN : Hid (putLgErr l e = 0 → putLg l e = ⟨l.base, l.tail ++ [e]⟩ ∧ putAns l e = oneAns (runSt l.base l.tail) e) := fun h => ⟨by unfold putLg; rw [h]; rfl, by unfold putAns; rw [h]; rfl⟩
  go_enter Tryz.func44, Tryz.ntmps44
  go_wp2_with fail
  obtain ⟨W1, hW1⟩ : ∃ W1, W1 = ((w.alloc (.cells #[.int .i64 l.base.at_, .int .i64 l.base.clock, .int .i64 l.base.v0, .int .i64 l.base.v1, .int .i64 l.base.v2, .int .i64 l.base.v3, .slice xa l.base.tab.length xc, .slice ta l.tail.length tc] 28)).alloc (.cells #[.int .i64 e.kind, .int .i64 e.time, .int .i64 e.client, .int .i64 e.seq, .int .i64 e.ack, .int .i64 e.ok, .int .i64 e.okey, .int .i64 e.oto, .int .i64 e.on] 35)).alloc (.cells #[.int .i64 0, .int .i64 0, .int .i64 0, .int .i64 0, .int .i64 0, .int .i64 0, .slice none 0 0, .slice none 0 0] 28) := ⟨_, rfl⟩
  have k1 : Keeps w W1 := by rw [hW1]; exact (((Keeps.refl _).alloc _).alloc _).alloc _
  have B1 : LgBox w.heap.size l (.slice xa l.base.tab.length xc) (.slice ta l.tail.length tc) W1 := by rw [hW1]; exact (LgBox.new w l _ _ rfl rfl 28).keep (((Keeps.refl _).alloc _).alloc _)
  have E1 : EntBox (w.heap.size + 1) e W1 := by
    rw [hW1]
    have := (EntBox.new (w.alloc (.cells #[.int .i64 l.base.at_, .int .i64 l.base.clock, .int .i64 l.base.v0, .int .i64 l.base.v1, .int .i64 l.base.v2, .int .i64 l.base.v3, .slice xa l.base.tab.length xc, .slice ta l.tail.length tc] 28)) e 35).keep ((Keeps.refl _).alloc (.cells #[.int .i64 0, .int .i64 0, .int .i64 0, .int .i64 0, .int .i64 0, .int .i64 0, .slice none 0 0, .slice none 0 0] 28))
    simp only [World.size_alloc] at this
    exact this
  have Z1 : LgBox (w.heap.size + 2) zeroLg (.slice none 0 0) (.slice none 0 0) W1 := by
    rw [hW1]
    have := LgBox.new ((w.alloc (.cells #[.int .i64 l.base.at_, .int .i64 l.base.clock, .int .i64 l.base.v0, .int .i64 l.base.v1, .int .i64 l.base.v2, .int .i64 l.base.v3, .slice xa l.base.tab.length xc, .slice ta l.tail.length tc] 28)).alloc (.cells #[.int .i64 e.kind, .int .i64 e.time, .int .i64 e.client, .int .i64 e.seq, .int .i64 e.ack, .int .i64 e.ok, .int .i64 e.okey, .int .i64 e.oto, .int .i64 e.on] 35)) zeroLg (.slice none 0 0) (.slice none 0 0) rfl rfl 28
    simp only [World.size_alloc] at this
    exact this
  rw [← hW1]
  clear hW1
  refine (pack_both l e _ _ W1 (HT.out.keep k1) (HL.out.keep k1)).mono ?_
  rintro y w1 ⟨rfl, hb⟩
  have HK1 : Hid (Keeps w w1) := k1.trans hb
  have HB1 : Hid (LgBox w.heap.size l (.slice xa l.base.tab.length xc) (.slice ta l.tail.length tc) w1) := B1.keep hb
  have HE1 : Hid (EntBox (w.heap.size + 1) e w1) := E1.keep hb
  have HZ1 : Hid (LgBox (w.heap.size + 2) zeroLg (.slice none 0 0) (.slice none 0 0) w1) := Z1.keep hb
  have HZ5 : Hid (w.heap.size + 2 < w1.heap.size) := HZ1.out.lt
  clear k1 B1 E1 Z1 hb
  clear W1
  cases q1 : (putLgErr l e == 0) with
  | false =>
    have q1' : (putLgErr l e != 0) = true := by simp [bne, q1]
    have H1 := (show Hid _ from HPZ.out q1)
    have z0 := HZ1.out.c0
    have z1 := HZ1.out.c1
    have z2 := HZ1.out.c2
    have z3 := HZ1.out.c3
    have z4 := HZ1.out.c4
    have z5 := HZ1.out.c5
    have z6 := HZ1.out.c6
    have z7 := HZ1.out.c7
    have zf := HZ1.out.fz
    have zl := HZ1.out.lt
    have hk := HK1.out
    go_wp2_with fail
    refine bodyPost_ret (v := .tuple #[lgV zeroLg (.slice none 0 0) (.slice none 0 0), .int .i64 0, .int .i64 (putLgErr l e)]) ?_ rfl ?_
    · simp [results, Tryz.results44, go_sem, zeroLg, zeroSt, z0, z1, z2, z3, z4, z5, z6, z7]
    · rw [H1.out.1, H1.out.2]
      refine ⟨none, 0, none, 0, OwnTab.nil _ _, World.ownsRow_nil _ _ _ _, Nat.le_refl _, rfl, ?_⟩
      repeat refine Keeps.set ?_ (by simp <;> omega) _
      exact hk
  | true =>
    have q1' : (putLgErr l e != 0) = false := by simp [bne, q1]
    have q0 : putLgErr l e = 0 := by simpa using q1
    obtain ⟨hl0, he0, hroom, hbe⟩ := putLg_right q0
    have hbase := (fold_right hl0).1
    have h50 : l.tail.length ≤ 50 := by have := (stErr_bounds hbase).1; omega
    have H1 := (show Hid _ from HPN.out q0)
    have HP0 : Hid (putLgErr l e = 0) := q0
    have HBS : Hid (stErr l.base = 0) := hbase
    obtain ⟨r, hr'⟩ : ∃ r, r = runSt l.base l.tail := ⟨_, rfl⟩
    rw [← hr'] at hbe H1
    obtain ⟨r2, hr2⟩ : ∃ r2, r2 = oneSt r e := ⟨_, rfl⟩
    obtain ⟨an, han⟩ : ∃ an, an = oneAns r e := ⟨_, rfl⟩
    obtain ⟨dn, hdn⟩ : ∃ dn, dn = oneDone r e := ⟨_, rfl⟩
    rw [← han] at H1
    have HC1 : Hid (∀ W, Keeps w1 W → Calls Tryz.prog 30 #[lgV l (.slice xa l.base.tab.length xc) (.slice ta l.tail.length tc), .int .i64 l.tail.length] W fun y w' => ∃ qa qc, Hid (OwnTab W.heap.size w' (.slice qa r.tab.length qc) r.tab) ∧ y = .returned (stV r (.slice qa r.tab.length qc)) ∧ Keeps W w') := by
      intro W hk
      rw [hr']
      have := pack_behind l l.tail.length _ ta tc W (HT.out.keep (HK1.out.trans hk)) (HL.out.keep (HK1.out.trans hk)) hl0 (Nat.le_refl _) hcap
      rw [List.take_length] at this
      exact this
    have HC2 : Hid (∀ W (x : Value), TabAt W x r.tab → Calls Tryz.prog 63 #[stV r x, entV e] W fun y w' => ∃ sa sc, Hid (OwnTab W.heap.size w' (.slice sa r2.tab.length sc) r2.tab) ∧ y = .returned (.tuple #[stV r2 (.slice sa r2.tab.length sc), .int .i64 an, .bool dn, .int .i64 0]) ∧ Keeps W w') := by
      intro W x hx
      refine (one_c r e x W hx).mono ?_
      rintro y w' ⟨x', ho, rfl, hb⟩
      rw [hr2, han, hdn, hbe]
      obtain ⟨sa, sc, rfl, _⟩ := ho.tab.len
      exact ⟨sa, sc, ho, rfl, hb⟩
    have HSA : Hid (∀ W, Keeps w1 W → W.cell? ⟨w.heap.size, 0, none⟩ = some (.int .i64 l.base.at_) ∧ W.cell? ⟨w.heap.size, 1, none⟩ = some (.int .i64 l.base.clock) ∧ W.cell? ⟨w.heap.size, 2, none⟩ = some (.int .i64 l.base.v0) ∧ W.cell? ⟨w.heap.size, 3, none⟩ = some (.int .i64 l.base.v1) ∧ W.cell? ⟨w.heap.size, 4, none⟩ = some (.int .i64 l.base.v2) ∧ W.cell? ⟨w.heap.size, 5, none⟩ = some (.int .i64 l.base.v3) ∧ W.cell? ⟨w.heap.size, 6, none⟩ = some (.slice xa l.base.tab.length xc) ∧ W.cell? ⟨w.heap.size, 7, none⟩ = some (.slice ta l.tail.length tc) ∧ W.cell? ⟨w.heap.size + 1, 0, none⟩ = some (.int .i64 e.kind) ∧ W.cell? ⟨w.heap.size + 1, 1, none⟩ = some (.int .i64 e.time) ∧ W.cell? ⟨w.heap.size + 1, 2, none⟩ = some (.int .i64 e.client) ∧ W.cell? ⟨w.heap.size + 1, 3, none⟩ = some (.int .i64 e.seq) ∧ W.cell? ⟨w.heap.size + 1, 4, none⟩ = some (.int .i64 e.ack) ∧ W.cell? ⟨w.heap.size + 1, 5, none⟩ = some (.int .i64 e.ok) ∧ W.cell? ⟨w.heap.size + 1, 6, none⟩ = some (.int .i64 e.okey) ∧ W.cell? ⟨w.heap.size + 1, 7, none⟩ = some (.int .i64 e.oto) ∧ W.cell? ⟨w.heap.size + 1, 8, none⟩ = some (.int .i64 e.on)) := fun W hk => have B := HB1.out.keep hk; have E := HE1.out.keep hk; ⟨B.c0, B.c1, B.c2, B.c3, B.c4, B.c5, B.c6, B.c7, E.c0, E.c1, E.c2, E.c3, E.c4, E.c5, E.c6, E.c7, E.c8⟩
    clear hr' hr2 han hdn hbe q0 hbase hl0 he0 hroom
    go_wp2_with fail
    go_cut [9] (fun p wc => p = .int .i64 an ∧ Keeps w1 wc)
    case first =>
      obtain ⟨V0, hV0⟩ : ∃ z, z = w1.drew := ⟨_, rfl⟩
      have k0 : Keeps w1 V0 := by rw [hV0]; exact (Keeps.refl _).drew
      refine wp_region_held_drew (S := fun W => W.cell? ⟨w.heap.size, 0, none⟩ = some (.int .i64 l.base.at_) ∧ W.cell? ⟨w.heap.size, 1, none⟩ = some (.int .i64 l.base.clock) ∧ W.cell? ⟨w.heap.size, 2, none⟩ = some (.int .i64 l.base.v0) ∧ W.cell? ⟨w.heap.size, 3, none⟩ = some (.int .i64 l.base.v1) ∧ W.cell? ⟨w.heap.size, 4, none⟩ = some (.int .i64 l.base.v2) ∧ W.cell? ⟨w.heap.size, 5, none⟩ = some (.int .i64 l.base.v3) ∧ W.cell? ⟨w.heap.size, 6, none⟩ = some (.slice xa l.base.tab.length xc) ∧ W.cell? ⟨w.heap.size, 7, none⟩ = some (.slice ta l.tail.length tc) ∧ W.cell? ⟨w.heap.size + 1, 0, none⟩ = some (.int .i64 e.kind) ∧ W.cell? ⟨w.heap.size + 1, 1, none⟩ = some (.int .i64 e.time) ∧ W.cell? ⟨w.heap.size + 1, 2, none⟩ = some (.int .i64 e.client) ∧ W.cell? ⟨w.heap.size + 1, 3, none⟩ = some (.int .i64 e.seq) ∧ W.cell? ⟨w.heap.size + 1, 4, none⟩ = some (.int .i64 e.ack) ∧ W.cell? ⟨w.heap.size + 1, 5, none⟩ = some (.int .i64 e.ok) ∧ W.cell? ⟨w.heap.size + 1, 6, none⟩ = some (.int .i64 e.okey) ∧ W.cell? ⟨w.heap.size + 1, 7, none⟩ = some (.int .i64 e.oto) ∧ W.cell? ⟨w.heap.size + 1, 8, none⟩ = some (.int .i64 e.on)) (by kernel_rfl) (HSA.out _ (Keeps.refl _).drew) (fun hS => ?_)
      rw [← hV0] at hS ⊢
      clear hV0
      refine wpAnyH_take (i := 0) (v := lgV l (.slice xa l.base.tab.length xc) (.slice ta l.tail.length tc)) rfl (by kernel_rfl) (by kernel_rfl) (by kernel_rfl) (fun _ _ _ h => h) (Or.inl ⟨by rfl, ?_⟩) hS ?_
      · intro w hS; go_simp
      refine wpAnyH_take (i := 1) (v := .pointer (some ⟨w.heap.size, 7, none⟩)) rfl (by kernel_rfl) (by kernel_rfl) (by kernel_rfl) (fun _ _ _ h => h) (Or.inl ⟨by rfl, ?_⟩) hS ?_
      · intro w hS; go_simp
      refine wpAnyH_take (i := 2) (v := .slice ta l.tail.length tc) rfl (by kernel_rfl) (by kernel_rfl) (by kernel_rfl) (fun _ _ _ h => h) (Or.inl ⟨by rfl, ?_⟩) hS ?_
      · intro w hS; go_simp
      refine wpAnyH_take (i := 3) (v := .int .i64 l.tail.length) rfl (by kernel_rfl) (by kernel_rfl) (by kernel_rfl) (fun _ _ _ h => h) (Or.inl ⟨by rfl, ?_⟩) hS ?_
      · intro w hS; go_simp
      refine wpAnyH_take (i := 5) (v := entV e) rfl (by kernel_rfl) (by kernel_rfl) (by kernel_rfl) (fun _ _ _ h => h) (Or.inl ⟨by rfl, ?_⟩) hS ?_
      · intro w hS; go_simp
      refine wpAnyH_ready (rs := [4, 12]) (by kernel_rfl) (by simp) ?_
      refine AllReadyH.cons rfl (fun K hK => ?_) (AllReadyH.cons rfl (fun K hK => ?_) (AllReadyH.nil))
      · go_simp
        refine (HC1.out V0 k0).mono ?_
        rintro y V1 ⟨qa, qc, HO1, rfl, hb⟩
        have k1 := k0.trans hb
        clear hb
        go_simp
        refine hK.out _ _ (HSA.out _ k1) (fun hS => ?_)
        clear hK K
        refine wpAnyH_ready (rs := [6, 12]) (by kernel_rfl) (by simp) ?_
        refine AllReadyH.cons rfl (fun K hK => ?_) (AllReadyH.cons rfl (fun K hK => ?_) (AllReadyH.nil))
        · go_simp
          refine (HC2.out V1 _ HO1.out.tab).mono ?_
          rintro y V2 ⟨sa, sc, HS2, rfl, hb⟩
          have k2 := k1.trans hb
          clear hb
          go_simp
          refine hK.out _ _ (HSA.out _ k2) (fun hS => ?_)
          clear hK K
          refine wpAnyH_take (i := 7) (v := .tuple #[stV r2 (.slice sa r2.tab.length sc), .int .i64 an, .bool dn, .int .i64 0]) rfl (by kernel_rfl) (by kernel_rfl) (by kernel_rfl) (fun _ _ _ h => h) (Or.inl ⟨by rfl, ?_⟩) hS ?_
          · intro w hS; go_simp
          refine wpAnyH_take (i := 8) (v := stV r2 (.slice sa r2.tab.length sc)) rfl (by kernel_rfl) (by kernel_rfl) (by kernel_rfl) (fun _ _ _ h => h) (Or.inl ⟨by rfl, ?_⟩) hS ?_
          · intro w hS; go_simp
          refine wpAnyH_take (i := 9) (v := .int .i64 an) rfl (by kernel_rfl) (by kernel_rfl) (by kernel_rfl) (fun _ _ _ h => h) (Or.inl ⟨by rfl, ?_⟩) hS ?_
          · intro w hS; go_simp
          refine wpAnyH_take (i := 10) (v := .bool dn) rfl (by kernel_rfl) (by kernel_rfl) (by kernel_rfl) (fun _ _ _ h => h) (Or.inl ⟨by rfl, ?_⟩) hS ?_
          · intro w hS; go_simp
          refine wpAnyH_take (i := 11) (v := .int .i64 0) rfl (by kernel_rfl) (by kernel_rfl) (by kernel_rfl) (fun _ _ _ h => h) (Or.inl ⟨by rfl, ?_⟩) hS ?_
          · intro w hS; go_simp
          refine wpAnyH_ready (rs := [12]) (by kernel_rfl) (by simp) ?_
          refine AllReadyH.cons rfl (fun K hK => ?_) (AllReadyH.nil)
          go_simp
          have hb : Keeps V2 (V2.alloc (.cells #[.int .i64 0, .int .i64 0, .int .i64 0, .int .i64 0, .int .i64 0, .int .i64 0, .slice none 0 0] 25)) := (Keeps.refl _).alloc _
          have HQ3 : Hid (StBox V2.heap.size zeroSt (.slice none 0 0) (V2.alloc (.cells #[.int .i64 0, .int .i64 0, .int .i64 0, .int .i64 0, .int .i64 0, .int .i64 0, .slice none 0 0] 25))) := StBox.new V2 zeroSt (.slice none 0 0) 25
          generalize V2.alloc (.cells #[.int .i64 0, .int .i64 0, .int .i64 0, .int .i64 0, .int .i64 0, .int .i64 0, .slice none 0 0] 25) = V3 at *
          have k3 := k2.trans hb
          clear hb
          refine hK.out _ _ (HSA.out _ k3) (fun hS => ?_)
          clear hK K
          refine wpAnyH_ready (rs := [13]) (by kernel_rfl) (by simp) ?_
          refine AllReadyH.cons rfl (fun K hK => ?_) (AllReadyH.nil)
          have z0 := HQ3.out.c0
          have z1 := HQ3.out.c1
          have z2 := HQ3.out.c2
          have z3 := HQ3.out.c3
          have z4 := HQ3.out.c4
          have z5 := HQ3.out.c5
          have z6 := HQ3.out.c6
          have zf := HQ3.out.fz
          have zl := HQ3.out.lt
          go_simp
          have BT := But.puts (b := V2.heap.size) V3 r2 (.slice sa r2.tab.length sc)
          have KF := But.to k3 k2.size BT
          obtain ⟨WF, hWF⟩ : ∃ z, z = (((((((V3.setCell ⟨V2.heap.size, 0, none⟩ (.int .i64 r2.at_)).setCell ⟨V2.heap.size, 1, none⟩ (.int .i64 r2.clock)).setCell ⟨V2.heap.size, 2, none⟩ (.int .i64 r2.v0)).setCell ⟨V2.heap.size, 3, none⟩ (.int .i64 r2.v1)).setCell ⟨V2.heap.size, 4, none⟩ (.int .i64 r2.v2)).setCell ⟨V2.heap.size, 5, none⟩ (.int .i64 r2.v3)).setCell ⟨V2.heap.size, 6, none⟩ (.slice sa r2.tab.length sc)) := ⟨_, rfl⟩
          rw [← hWF] at BT KF ⊢
          clear hWF z0 z1 z2 z3 z4 z5 z6 zf zl
          refine hK.out _ _ (HSA.out _ KF) (fun hS => ?_)
          clear hK K
          refine wpAnyH_take (i := 14) (v := .int .i64 an) rfl (by kernel_rfl) (by kernel_rfl) (by kernel_rfl) (fun _ _ _ h => h) (Or.inl ⟨by rfl, ?_⟩) hS ?_
          · intro w hS; go_simp
          refine wpAnyH_take (i := 15) (v := .bool dn) rfl (by kernel_rfl) (by kernel_rfl) (by kernel_rfl) (fun _ _ _ h => h) (Or.inl ⟨by rfl, ?_⟩) hS ?_
          · intro w hS; go_simp
          refine wpAnyH_take (i := 16) (v := .int .i64 0) rfl (by kernel_rfl) (by kernel_rfl) (by kernel_rfl) (fun _ _ _ h => h) (Or.inl ⟨by rfl, ?_⟩) hS ?_
          · intro w hS; go_simp
          refine wpAnyH_done (by kernel_rfl) ?_ _
          go_wp2_with fail
          go_meet
          exact ⟨rfl, KF⟩
        · go_simp
          have hb : Keeps V1 (V1.alloc (.cells #[.int .i64 0, .int .i64 0, .int .i64 0, .int .i64 0, .int .i64 0, .int .i64 0, .slice none 0 0] 25)) := (Keeps.refl _).alloc _
          have HQ2 : Hid (StBox V1.heap.size zeroSt (.slice none 0 0) (V1.alloc (.cells #[.int .i64 0, .int .i64 0, .int .i64 0, .int .i64 0, .int .i64 0, .int .i64 0, .slice none 0 0] 25))) := StBox.new V1 zeroSt (.slice none 0 0) 25
          generalize V1.alloc (.cells #[.int .i64 0, .int .i64 0, .int .i64 0, .int .i64 0, .int .i64 0, .int .i64 0, .slice none 0 0] 25) = V2 at *
          have k2 := k1.trans hb
          have HO2 : Hid (OwnTab V0.heap.size V2 (.slice qa r.tab.length qc) r.tab) := HO1.out.keep hb
          clear hb
          refine hK.out _ _ (HSA.out _ k2) (fun hS => ?_)
          clear hK K
          refine wpAnyH_ready (rs := [6]) (by kernel_rfl) (by simp) ?_
          refine AllReadyH.cons rfl (fun K hK => ?_) (AllReadyH.nil)
          go_simp
          refine (HC2.out V2 _ HO2.out.tab).mono ?_
          rintro y V3 ⟨sa, sc, HS3, rfl, hb⟩
          have k3 := k2.trans hb
          have HQ3 : Hid (StBox V1.heap.size zeroSt (.slice none 0 0) V3) := HQ2.out.keep hb
          clear hb
          go_simp
          refine hK.out _ _ (HSA.out _ k3) (fun hS => ?_)
          clear hK K
          refine wpAnyH_take (i := 7) (v := .tuple #[stV r2 (.slice sa r2.tab.length sc), .int .i64 an, .bool dn, .int .i64 0]) rfl (by kernel_rfl) (by kernel_rfl) (by kernel_rfl) (fun _ _ _ h => h) (Or.inl ⟨by rfl, ?_⟩) hS ?_
          · intro w hS; go_simp
          refine wpAnyH_take (i := 8) (v := stV r2 (.slice sa r2.tab.length sc)) rfl (by kernel_rfl) (by kernel_rfl) (by kernel_rfl) (fun _ _ _ h => h) (Or.inl ⟨by rfl, ?_⟩) hS ?_
          · intro w hS; go_simp
          refine wpAnyH_take (i := 9) (v := .int .i64 an) rfl (by kernel_rfl) (by kernel_rfl) (by kernel_rfl) (fun _ _ _ h => h) (Or.inl ⟨by rfl, ?_⟩) hS ?_
          · intro w hS; go_simp
          refine wpAnyH_take (i := 10) (v := .bool dn) rfl (by kernel_rfl) (by kernel_rfl) (by kernel_rfl) (fun _ _ _ h => h) (Or.inl ⟨by rfl, ?_⟩) hS ?_
          · intro w hS; go_simp
          refine wpAnyH_take (i := 11) (v := .int .i64 0) rfl (by kernel_rfl) (by kernel_rfl) (by kernel_rfl) (fun _ _ _ h => h) (Or.inl ⟨by rfl, ?_⟩) hS ?_
          · intro w hS; go_simp
          refine wpAnyH_ready (rs := [13]) (by kernel_rfl) (by simp) ?_
          refine AllReadyH.cons rfl (fun K hK => ?_) (AllReadyH.nil)
          have z0 := HQ3.out.c0
          have z1 := HQ3.out.c1
          have z2 := HQ3.out.c2
          have z3 := HQ3.out.c3
          have z4 := HQ3.out.c4
          have z5 := HQ3.out.c5
          have z6 := HQ3.out.c6
          have zf := HQ3.out.fz
          have zl := HQ3.out.lt
          go_simp
          have BT := But.puts (b := V1.heap.size) V3 r2 (.slice sa r2.tab.length sc)
          have KF := But.to k3 k1.size BT
          obtain ⟨WF, hWF⟩ : ∃ z, z = (((((((V3.setCell ⟨V1.heap.size, 0, none⟩ (.int .i64 r2.at_)).setCell ⟨V1.heap.size, 1, none⟩ (.int .i64 r2.clock)).setCell ⟨V1.heap.size, 2, none⟩ (.int .i64 r2.v0)).setCell ⟨V1.heap.size, 3, none⟩ (.int .i64 r2.v1)).setCell ⟨V1.heap.size, 4, none⟩ (.int .i64 r2.v2)).setCell ⟨V1.heap.size, 5, none⟩ (.int .i64 r2.v3)).setCell ⟨V1.heap.size, 6, none⟩ (.slice sa r2.tab.length sc)) := ⟨_, rfl⟩
          rw [← hWF] at BT KF ⊢
          clear hWF z0 z1 z2 z3 z4 z5 z6 zf zl
          refine hK.out _ _ (HSA.out _ KF) (fun hS => ?_)
          clear hK K
          refine wpAnyH_take (i := 14) (v := .int .i64 an) rfl (by kernel_rfl) (by kernel_rfl) (by kernel_rfl) (fun _ _ _ h => h) (Or.inl ⟨by rfl, ?_⟩) hS ?_
          · intro w hS; go_simp
          refine wpAnyH_take (i := 15) (v := .bool dn) rfl (by kernel_rfl) (by kernel_rfl) (by kernel_rfl) (fun _ _ _ h => h) (Or.inl ⟨by rfl, ?_⟩) hS ?_
          · intro w hS; go_simp
          refine wpAnyH_take (i := 16) (v := .int .i64 0) rfl (by kernel_rfl) (by kernel_rfl) (by kernel_rfl) (fun _ _ _ h => h) (Or.inl ⟨by rfl, ?_⟩) hS ?_
          · intro w hS; go_simp
          refine wpAnyH_done (by kernel_rfl) ?_ _
          go_wp2_with fail
          go_meet
          exact ⟨rfl, KF⟩
      · go_simp
        have hb : Keeps V0 (V0.alloc (.cells #[.int .i64 0, .int .i64 0, .int .i64 0, .int .i64 0, .int .i64 0, .int .i64 0, .slice none 0 0] 25)) := (Keeps.refl _).alloc _
        have HQ1 : Hid (StBox V0.heap.size zeroSt (.slice none 0 0) (V0.alloc (.cells #[.int .i64 0, .int .i64 0, .int .i64 0, .int .i64 0, .int .i64 0, .int .i64 0, .slice none 0 0] 25))) := StBox.new V0 zeroSt (.slice none 0 0) 25
        generalize V0.alloc (.cells #[.int .i64 0, .int .i64 0, .int .i64 0, .int .i64 0, .int .i64 0, .int .i64 0, .slice none 0 0] 25) = V1 at *
        have k1 := k0.trans hb
        clear hb
        refine hK.out _ _ (HSA.out _ k1) (fun hS => ?_)
        clear hK K
        refine wpAnyH_ready (rs := [4]) (by kernel_rfl) (by simp) ?_
        refine AllReadyH.cons rfl (fun K hK => ?_) (AllReadyH.nil)
        go_simp
        refine (HC1.out V1 k1).mono ?_
        rintro y V2 ⟨qa, qc, HO2, rfl, hb⟩
        have k2 := k1.trans hb
        have HQ2 : Hid (StBox V0.heap.size zeroSt (.slice none 0 0) V2) := HQ1.out.keep hb
        clear hb
        go_simp
        refine hK.out _ _ (HSA.out _ k2) (fun hS => ?_)
        clear hK K
        refine wpAnyH_ready (rs := [6]) (by kernel_rfl) (by simp) ?_
        refine AllReadyH.cons rfl (fun K hK => ?_) (AllReadyH.nil)
        go_simp
        refine (HC2.out V2 _ HO2.out.tab).mono ?_
        rintro y V3 ⟨sa, sc, HS3, rfl, hb⟩
        have k3 := k2.trans hb
        have HQ3 : Hid (StBox V0.heap.size zeroSt (.slice none 0 0) V3) := HQ2.out.keep hb
        clear hb
        go_simp
        refine hK.out _ _ (HSA.out _ k3) (fun hS => ?_)
        clear hK K
        refine wpAnyH_take (i := 7) (v := .tuple #[stV r2 (.slice sa r2.tab.length sc), .int .i64 an, .bool dn, .int .i64 0]) rfl (by kernel_rfl) (by kernel_rfl) (by kernel_rfl) (fun _ _ _ h => h) (Or.inl ⟨by rfl, ?_⟩) hS ?_
        · intro w hS; go_simp
        refine wpAnyH_take (i := 8) (v := stV r2 (.slice sa r2.tab.length sc)) rfl (by kernel_rfl) (by kernel_rfl) (by kernel_rfl) (fun _ _ _ h => h) (Or.inl ⟨by rfl, ?_⟩) hS ?_
        · intro w hS; go_simp
        refine wpAnyH_take (i := 9) (v := .int .i64 an) rfl (by kernel_rfl) (by kernel_rfl) (by kernel_rfl) (fun _ _ _ h => h) (Or.inl ⟨by rfl, ?_⟩) hS ?_
        · intro w hS; go_simp
        refine wpAnyH_take (i := 10) (v := .bool dn) rfl (by kernel_rfl) (by kernel_rfl) (by kernel_rfl) (fun _ _ _ h => h) (Or.inl ⟨by rfl, ?_⟩) hS ?_
        · intro w hS; go_simp
        refine wpAnyH_take (i := 11) (v := .int .i64 0) rfl (by kernel_rfl) (by kernel_rfl) (by kernel_rfl) (fun _ _ _ h => h) (Or.inl ⟨by rfl, ?_⟩) hS ?_
        · intro w hS; go_simp
        refine wpAnyH_ready (rs := [13]) (by kernel_rfl) (by simp) ?_
        refine AllReadyH.cons rfl (fun K hK => ?_) (AllReadyH.nil)
        have z0 := HQ3.out.c0
        have z1 := HQ3.out.c1
        have z2 := HQ3.out.c2
        have z3 := HQ3.out.c3
        have z4 := HQ3.out.c4
        have z5 := HQ3.out.c5
        have z6 := HQ3.out.c6
        have zf := HQ3.out.fz
        have zl := HQ3.out.lt
        go_simp
        have BT := But.puts (b := V0.heap.size) V3 r2 (.slice sa r2.tab.length sc)
        have KF := But.to k3 k0.size BT
        obtain ⟨WF, hWF⟩ : ∃ z, z = (((((((V3.setCell ⟨V0.heap.size, 0, none⟩ (.int .i64 r2.at_)).setCell ⟨V0.heap.size, 1, none⟩ (.int .i64 r2.clock)).setCell ⟨V0.heap.size, 2, none⟩ (.int .i64 r2.v0)).setCell ⟨V0.heap.size, 3, none⟩ (.int .i64 r2.v1)).setCell ⟨V0.heap.size, 4, none⟩ (.int .i64 r2.v2)).setCell ⟨V0.heap.size, 5, none⟩ (.int .i64 r2.v3)).setCell ⟨V0.heap.size, 6, none⟩ (.slice sa r2.tab.length sc)) := ⟨_, rfl⟩
        rw [← hWF] at BT KF ⊢
        clear hWF z0 z1 z2 z3 z4 z5 z6 zf zl
        refine hK.out _ _ (HSA.out _ KF) (fun hS => ?_)
        clear hK K
        refine wpAnyH_take (i := 14) (v := .int .i64 an) rfl (by kernel_rfl) (by kernel_rfl) (by kernel_rfl) (fun _ _ _ h => h) (Or.inl ⟨by rfl, ?_⟩) hS ?_
        · intro w hS; go_simp
        refine wpAnyH_take (i := 15) (v := .bool dn) rfl (by kernel_rfl) (by kernel_rfl) (by kernel_rfl) (fun _ _ _ h => h) (Or.inl ⟨by rfl, ?_⟩) hS ?_
        · intro w hS; go_simp
        refine wpAnyH_take (i := 16) (v := .int .i64 0) rfl (by kernel_rfl) (by kernel_rfl) (by kernel_rfl) (fun _ _ _ h => h) (Or.inl ⟨by rfl, ?_⟩) hS ?_
        · intro w hS; go_simp
        refine wpAnyH_done (by kernel_rfl) ?_ _
        go_wp2_with fail
        go_meet
        exact ⟨rfl, KF⟩
    case rest =>
      obtain ⟨rfl, hkc⟩ := hcut
      have HKc : Hid (Keeps w1 wc) := hkc
      have hB := HB1.out.keep hkc
      have b0 := hB.c0
      have b1 := hB.c1
      have b2 := hB.c2
      have b3 := hB.c3
      have b4 := hB.c4
      have b5 := hB.c5
      have b6 := hB.c6
      have b7 := hB.c7
      have bl := hB.lt
      clear hB hkc HSA HC1 HC2
      go_wp2_with fail
      refine (twin_log l _ ta tc wc (HT.out.keep (HK1.out.trans HKc.out)) (HL.out.keep (HK1.out.trans HKc.out)) HBS.out (by omega)).mono ?_
      rintro y w2 ⟨qa, qc, ea, ec, hO, hE, hec, rfl, hb⟩
      have HO2 : Hid (OwnTab wc.heap.size w2 (.slice qa l.base.tab.length qc) l.base.tab) := hO
      have HE2 : Hid (w2.ownsRow wc.heap.size 35 9 (.slice ea l.tail.length ec) l.tail.length (entCells l.tail)) := hE
      have HK2 : Hid (Keeps wc w2) := hb
      have hzc := HKc.out.size
      have hz5 := HZ5.out
      have hz2 := hb.size
      clear hO hE hb b0 b1 b2 b3 b4 b5 b6 b7 bl
      have hE1 := HE1.out.keep (HKc.out.trans HK2.out)
      have e0 := hE1.c0
      have e1 := hE1.c1
      have e2 := hE1.c2
      have e3 := hE1.c3
      have e4 := hE1.c4
      have e5 := hE1.c5
      have e6 := hE1.c6
      have e7 := hE1.c7
      have e8 := hE1.c8
      have el := hE1.lt
      clear hE1
      have k23 : Keeps w2 (w2.alloc (.cells #[.int .i64 l.base.at_, .int .i64 l.base.clock, .int .i64 l.base.v0, .int .i64 l.base.v1, .int .i64 l.base.v2, .int .i64 l.base.v3, .slice qa l.base.tab.length qc, .slice ea l.tail.length ec] 28)) := (Keeps.refl _).alloc _
      have HB3 : Hid (LgBox w2.heap.size l (.slice qa l.base.tab.length qc) (.slice ea l.tail.length ec) (w2.alloc (.cells #[.int .i64 l.base.at_, .int .i64 l.base.clock, .int .i64 l.base.v0, .int .i64 l.base.v1, .int .i64 l.base.v2, .int .i64 l.base.v3, .slice qa l.base.tab.length qc, .slice ea l.tail.length ec] 28))) := LgBox.new w2 l _ _ rfl rfl 28
      have k34 : Keeps (w2.alloc (.cells #[.int .i64 l.base.at_, .int .i64 l.base.clock, .int .i64 l.base.v0, .int .i64 l.base.v1, .int .i64 l.base.v2, .int .i64 l.base.v3, .slice qa l.base.tab.length qc, .slice ea l.tail.length ec] 28)) ((w2.alloc (.cells #[.int .i64 l.base.at_, .int .i64 l.base.clock, .int .i64 l.base.v0, .int .i64 l.base.v1, .int .i64 l.base.v2, .int .i64 l.base.v3, .slice qa l.base.tab.length qc, .slice ea l.tail.length ec] 28)).alloc (.cells (entCells [e]).toArray 35)) := (Keeps.refl _).alloc _
      obtain ⟨v', w4, hr, ho, hg⟩ := run_append_read ((w2.alloc (.cells #[.int .i64 l.base.at_, .int .i64 l.base.clock, .int .i64 l.base.v0, .int .i64 l.base.v1, .int .i64 l.base.v2, .int .i64 l.base.v3, .slice qa l.base.tab.length qc, .slice ea l.tail.length ec] 28)).alloc (.cells (entCells [e]).toArray 35)) wc.heap.size 26 26 35 9 72 _ infoEnt Tryz.underlying26 rfl (by decide) (.slice ea l.tail.length ec) l.tail.length (entCells l.tail) (owns_keep HE2.out (k23.trans k34)) _ 1 (entCells [e]) (EntsAt.new _ [e] (by simp) 1) (entCells_one _) (by unfold maxLen; omega) (by omega) (by simp; omega)
      have SP : Spares (fun g => ∀ h, (Value.slice ea l.tail.length ec).ownBlock = some h → g ≠ h) (w2.alloc (.cells #[.int .i64 l.base.at_, .int .i64 l.base.clock, .int .i64 l.base.v0, .int .i64 l.base.v1, .int .i64 l.base.v2, .int .i64 l.base.v3, .slice qa l.base.tab.length qc, .slice ea l.tail.length ec] 28)) w4 := (Spares.of k34).trans (Spares.grown hg (fun b e h => h b e rfl))
      have hown : ∀ h, (Value.slice ea l.tail.length ec).ownBlock = some h → wc.heap.size ≤ h ∧ h < w2.heap.size := fun h hh => HE2.out.lt h hh
      have hapt := (show Hid _ from owns_tab_apart HO2.out HE2.out (by decide) (by decide))
      have hLB : w4.heap[w2.heap.size]? = some (.cells #[.int .i64 l.base.at_, .int .i64 l.base.clock, .int .i64 l.base.v0, .int .i64 l.base.v1, .int .i64 l.base.v2, .int .i64 l.base.v3, .slice qa l.base.tab.length qc, .slice ea l.tail.length ec] 28) := (SP.block _ (by simp) (fun h hh => by have := hown h hh; omega)).trans (World.alloc_heap_new _ _)
      have HGN := (show Hid _ from owns_not ho hLB (by decide))
      have HSP := (show Hid _ from (Spares.of k23).trans SP)
      have HB4 : Hid (LgBox w2.heap.size l (.slice qa l.base.tab.length qc) (.slice ea l.tail.length ec) w4) := HB3.out.same (SP.block _ (by simp) (fun h hh => by have := hown h hh; omega))
      have HK4 : Hid (Keeps wc w4) := SP.keeps (HK2.out.trans k23) (fun g hg h hh => by have := hown h hh; omega)
      obtain ⟨ga, gc, rfl, _⟩ := (RowAt.of_owns ho).len
      have hgc : l.tail.length + 1 ≤ gc := by
        rcases ho.2 with ⟨h1, h2⟩ | ⟨g, cap, cur, h1, _, _, h2, _⟩
        · omega
        · injection h1 with a1 a2 a3
          omega
      have HG4 : Hid (w4.ownsRow wc.heap.size 35 9 (.slice ga (l.tail.length + 1) gc) (l.tail.length + 1) (entCells l.tail ++ entCells [e])) := ho
      rw [World.size_alloc] at hr
      have Hr := (show Hid (_ = _) from hr)
      have hb4 := HB4.out
      have b0 := hb4.c0
      have b1 := hb4.c1
      have b2 := hb4.c2
      have b3 := hb4.c3
      have b4 := hb4.c4
      have b5 := hb4.c5
      have b6 := hb4.c6
      have b7 := hb4.c7
      have bf := hb4.fz
      have bl := hb4.lt
      have HZ4 : Hid (LgBox (w.heap.size + 2) zeroLg (.slice none 0 0) (.slice none 0 0) w4) := HZ1.out.keep (HKc.out.trans HK4.out)
      have hz4 := HZ4.out
      have z0 := hz4.c0
      have z1 := hz4.c1
      have z2 := hz4.c2
      have z3 := hz4.c3
      have z4 := hz4.c4
      have z5 := hz4.c5
      have z6 := hz4.c6
      have z7 := hz4.c7
      have zf := hz4.fz
      have zl := hz4.lt
      have hne1 : (w2.heap.size = w.heap.size + 2) = False := eq_false (by omega)
      have hne2 : (w.heap.size + 2 = w2.heap.size) = False := eq_false (by omega)
      clear hr ho hg SP hb4 hz4 k23 k34 hLB
      go_wp2_with (at_builtin; refine wpList_append_run rfl _ _ _ rfl rfl rfl Hr.out ?_)
      have bS : But w2.heap.size w4 (w4.setCell ⟨w2.heap.size, 7, none⟩ (.slice ga (l.tail.length + 1) gc)) := (But.refl _ _).set 7 _
      have hz5Z : LgBox (w.heap.size + 2) zeroLg (.slice none 0 0) (.slice none 0 0) (w4.setCell ⟨w2.heap.size, 7, none⟩ (.slice ga (l.tail.length + 1) gc)) := HZ4.out.other bS (by omega)
      have BP := hz5Z.put ⟨l.base, l.tail ++ [e]⟩ (.slice qa l.base.tab.length qc) (.slice ga (l.tail.length + 1) gc)
      have BT := But.lgputs (w.heap.size + 2) (w4.setCell ⟨w2.heap.size, 7, none⟩ (.slice ga (l.tail.length + 1) gc)) ⟨l.base, l.tail ++ [e]⟩ (.slice qa l.base.tab.length qc) (.slice ga (l.tail.length + 1) gc)
      have SX : Spares (fun g => g ≠ w2.heap.size ∧ g ≠ w.heap.size + 2) w4 _ := (Spares.but bS (fun h => h.1 rfl)).trans (Spares.but BT (fun h => h.2 rfl))
      have c0 := BP.c0
      have c1 := BP.c1
      have c2 := BP.c2
      have c3 := BP.c3
      have c4 := BP.c4
      have c5 := BP.c5
      have c6 := BP.c6
      have c7 := BP.c7
      refine bodyPost_ret (v := .tuple #[lgV ⟨l.base, l.tail ++ [e]⟩ (.slice qa l.base.tab.length qc) (.slice ga (l.tail.length + 1) gc), .int .i64 an, .int .i64 0]) ?_ rfl ?_
      · simp only [results, Tryz.results44, go_sem, c0, c1, c2, c3, c4, c5, c6, c7]
        simp [go_sem, c0, c1, c2, c3, c4, c5, c6, c7]
      · rw [H1.out.1, H1.out.2, HP0.out]
        refine ⟨qa, qc, ga, gc, ?_, ?_, ?_, ?_, ?_⟩
        · refine (hapt.out _ ((HSP.out.mono (fun g _ h => h.2.2)).trans (SX.mono (fun g _ h => ⟨by omega, by omega⟩)))).base (by omega)
        · have := owns_base (owns_spared_at HG4.out SX (fun g hg => ⟨fun e => HGN.out (e ▸ hg), by have := (HG4.out.lt g hg).1; omega⟩)) (show w.heap.size ≤ wc.heap.size by omega)
          simpa [entCells_append] using this
        · simpa using hgc
        · simp
        · exact SX.keeps ((HK1.out.trans HKc.out).trans HK4.out) (fun g hg => ⟨by omega, by omega⟩)
end Go.Proofs.YteabfjpajgakiagGreat

/- enter, the hall's put. -/
set_option linter.unusedSimpArgs false
set_option linter.unusedVariables false
set_option maxRecDepth 10000
namespace Go.Proofs.YteabfjpajgakiagGreat
open Go.RowKit

def entG (g : Grp) : Grp := if grErr g == 0 then g else zeroGrp

set_option maxHeartbeats 4000000 in
theorem enter_c (g : Grp) (A : Ad) (w : World) (hG : GrAt w g A) : Calls Tryz.prog 25 #[.agg (GL g A).toArray] w fun e w' => ∃ B, GrOwn w.heap.size w' (entG g) B ∧ e = .returned (.tuple #[.agg (GL (entG g) B).toArray, .int .i64 (grErr g)]) ∧ Keeps w w' := by
  have HG : Hid (GrAt w g A) := hG
  clear hG
  go_enter Tryz.func25, Tryz.ntmps25
  go_wp2_with (first | (refine box31 rfl rfl rfl ?_; intro w1 bb hBbb hkbb hlbb hgbb) | (have _h := hBr; refine alloc48 rfl rfl ?_; intro w3 nb hBnb hknb hlnb hgnb) | (refine alloc48 rfl rfl ?_; intro w2 r hBr hkr hlr hgr) | (refine load31 rfl rfl bb rfl (hBbb.keep hkr (by rw [GL_len]; decide)) ?_) | (refine build48 rfl rfl rfl ?_) | (refine store48 rfl rfl nb rfl rfl hBnb ?_; intro w4 hSw4 hTw4))
  have hk2 : Keeps w w2 := hkbb.trans hkr
  have hk3 : Keeps w w3 := hk2.trans hknb
  have hk24 : Keeps w2 w4 := But.to hknb hgnb hTw4
  have hk4 : Keeps w w4 := hk2.trans hk24
  refine (hall_check_c g A nb w4 (HG.out.keep hk4) hSw4).mono ?_
  rintro e w5 ⟨rfl, hb⟩
  have HK5 : Hid (Keeps w w5) := hk4.trans hb
  have HBB : Hid (CBox bb (GL g A) w5) := ((hBbb.keep hkr (by rw [GL_len]; decide)).keep hk24 (by rw [GL_len]; decide)).keep hb (by rw [GL_len]; decide)
  have HR5 : Hid (CBox r (GL zeroGrp zeroAd) w5) := (hBr.keep hk24 (by rw [GL_len]; decide)).keep hb (by rw [GL_len]; decide)
  have HRG : Hid (w.heap.size ≤ r) := Nat.le_trans hkbb.size hgr
  have HRL : Hid (r < w5.heap.size) := Nat.lt_of_lt_of_le hlr (hk24.trans hb).size
  clear hb hk2 hk3 hk24 hk4 hBbb hkbb hlbb hgbb hBr hkr hlr hgr hBnb hknb hlnb hgnb hSw4 hTw4
  have HE : Hid (entG g = if grErr g == 0 then g else zeroGrp) := rfl
  cases q : (grErr g == 0) with
  | false =>
    have q' : (grErr g != 0) = true := by simp [bne, q]
    have HE0 : Hid (entG g = zeroGrp) := by show _ = _; rw [HE.out, q]; rfl
    go_wp2_with (first | (refine build48z rfl rfl ?_) | (refine store48 rfl rfl r rfl rfl HR5.out ?_; intro w6 hSw6 hTw6))
    refine bodyPost_ret (results2 Tryz.results25 rfl rfl (read48 hSw6)) rfl ?_
    rw [HE0.out]
    exact ⟨zeroAd, GrOwn.zero _ _, rfl, But.to HK5.out HRG.out hTw6⟩
  | true =>
    have q' : (grErr g != 0) = false := by simp [bne, q]
    have q0 : grErr g = 0 := by simpa using q
    have HE0 : Hid (entG g = g) := by show _ = _; rw [HE.out, q]; rfl
    obtain ⟨_, r1, r2, r3, _⟩ := gr_right q0
    go_wp2_with (first | (refine load31 rfl rfl bb rfl HBB.out ?_))
    refine (twin_group g A w5 (HG.out.keep HK5.out) r1 r2 r3).mono ?_
    rintro e w6 ⟨B, ho, rfl, hb⟩
    have hR6 := HR5.out.keep hb (by rw [GL_len]; decide)
    have HO6 : Hid (GrOwn w5.heap.size w6 g B) := ho
    have HK6 : Hid (Keeps w w6) := HK5.out.trans hb
    clear hb ho r1 r2 r3 HR5
    go_wp2_with (first | (refine build48 rfl rfl rfl ?_) | (refine store48 rfl rfl r rfl rfl hR6 ?_; intro w7 hSw7 hTw7))
    refine bodyPost_ret (results2 Tryz.results25 rfl rfl (read48 hSw7)) rfl ?_
    rw [HE0.out, q0]
    exact ⟨B, (HO6.out.but HRL.out hTw7).mono HK5.out.size, rfl, But.to HK6.out HRG.out hTw7⟩
end Go.Proofs.YteabfjpajgakiagGreat

/- node.Run. -/
set_option linter.unusedSimpArgs false
set_option linter.unusedVariables false
set_option maxRecDepth 10000
namespace Go.Proofs.YteabfjpajgakiagGreat
open Go.RowKit

def runFrom (l : Lg) (s : St) : St := if s.at_ < l.base.at_ then l.base else s
def runLo (l : Lg) (s : St) : Nat := ((runFrom l s).at_ - l.base.at_).toNat
def runCnt (l : Lg) (s : St) (n : Int) : Nat := min n.toNat (l.tail.length - runLo l s)
def runL (l : Lg) (s : St) (n : Int) : List Ent := (l.tail.drop (runLo l s)).take (runCnt l s n)
def runOut (l : Lg) (s : St) (n : Int) : St := if runErr l s n == 0 then runSt (runFrom l s) (runL l s n) else zeroSt
def runNum (l : Lg) (s : St) (n : Int) : Int := if runErr l s n == 0 then runCnt l s n else 0

theorem run_chk {l : Lg} {s : St} {n : Int} (h : runErr l s n = 0) : lgErr l = 0 ∧ stErr s = 0 ∧ (0 ≤ n ∧ n ≤ 50) ∧ fitsB l s = true := by
  unfold runErr at h
  split at h
  · rename_i h1
    split at h
    · rename_i h2
      split at h
      · rename_i h3
        have := node_right (by simpa using h1)
        exact ⟨this.1, this.2, inB_iff.1 h2, h3⟩
      · cases h
    · cases h
  · rename_i h1
    simp [h] at h1

theorem fold_mk {t : St} {M : List Ent} (a : stErr t = 0) (b : ∀ e ∈ M, entErr e = 0) (c : t.at_ + M.length ≤ 50) : foldErr t M = 0 := by
  have hb := (stErr_bounds a).1
  have hl : listErr M = 0 := by unfold listErr; rw [if_neg (by omega)]; exact fent_zero.2 b
  simp only [foldErr, a, hl, beq_self_eq_true, if_true]
  rw [if_neg (by omega)]

theorem fits_at {l : Lg} {s : St} (hl : lgErr l = 0) (hs : stErr s = 0) (hf : fitsB l s = true) : stErr (runFrom l s) = 0 ∧ (runFrom l s).at_ - l.base.at_ = runLo l s ∧ runLo l s ≤ l.tail.length ∧ l.base.at_ + l.tail.length ≤ 50 := by
  obtain ⟨h1, h2, h3⟩ := fold_right hl
  unfold fitsB at hf
  unfold runLo runFrom
  split at hf
  · rename_i h
    rw [if_pos h]
    refine ⟨h1, by omega, by omega, h3⟩
  · rename_i h
    split at hf
    · cases hf
    · rename_i h'
      rw [if_neg h]
      exact ⟨hs, by omega, by omega, h3⟩

theorem run_fold {l : Lg} {s : St} {n : Int} (h : runErr l s n = 0) : foldErr (runFrom l s) (runL l s n) = 0 ∧ (runFrom l s).at_ - l.base.at_ = runLo l s ∧ runLo l s ≤ l.tail.length ∧ l.base.at_ + l.tail.length ≤ 50 := by
  obtain ⟨h1, h2, h3, h4⟩ := run_chk h
  obtain ⟨g1, g2, g3, g4⟩ := fits_at h1 h2 h4
  obtain ⟨f1, f2, f3⟩ := fold_right h1
  refine ⟨fold_mk g1 (fun e he => f2 e (List.mem_of_mem_drop (List.mem_of_mem_take he))) ?_, g2, g3, g4⟩
  have : (runL l s n).length ≤ l.tail.length - runLo l s := by unfold runL; simp; omega
  omega

set_option maxHeartbeats 4000000 in
theorem node_run (l : Lg) (s : St) (n : Int) (x y : Value) (ta : Option Addr) (tc : Nat) (w : World) (hT : TabAt w x l.base.tab) (hL : EntsAt w (.slice ta l.tail.length tc) l.tail) (hY : TabAt w y s.tab) (hcap : l.tail.length ≤ tc) : Calls Tryz.prog 46 #[lgV l x (.slice ta l.tail.length tc), stV s y, .int .i64 n] w fun e w' => ∃ qa qc, OwnTab w.heap.size w' (.slice qa (runOut l s n).tab.length qc) (runOut l s n).tab ∧ e = .returned (.tuple #[stV (runOut l s n) (.slice qa (runOut l s n).tab.length qc), .int .i64 (runNum l s n), .int .i64 (runErr l s n)]) ∧ Keeps w w' := by
  obtain ⟨xa, xc, rfl, _⟩ := hT.len
  obtain ⟨ya, yc, rfl, _⟩ := hY.len
  have HT : Hid (TabAt w (.slice xa l.base.tab.length xc) l.base.tab) := hT
  have HL : Hid (EntsAt w (.slice ta l.tail.length tc) l.tail) := hL
  have HY : Hid (TabAt w (.slice ya s.tab.length yc) s.tab) := hY
  have hlen := hL.2.1
  unfold maxLen at hlen
  clear hT hL hY
  have HOZ : Hid ((runErr l s n == 0) = false → runOut l s n = zeroSt ∧ runNum l s n = 0) := fun h => ⟨by unfold runOut; rw [h]; rfl, by unfold runNum; rw [h]; rfl⟩
  have HON : Hid (runErr l s n = 0 → runOut l s n = runSt (runFrom l s) (runL l s n)) := fun h => by unfold runOut; rw [h]; rfl
  have HNN : Hid (runErr l s n = 0 → runNum l s n = runCnt l s n) := fun h => by unfold runNum; rw [h]; rfl
  have HZT : Hid (zeroSt.tab = []) := rfl
  go_enter Tryz.func46, Tryz.ntmps46
  go_wp2_with fail
  obtain ⟨W1, hW1⟩ : ∃ W1, W1 = ((w.alloc (.cells #[.int .i64 l.base.at_, .int .i64 l.base.clock, .int .i64 l.base.v0, .int .i64 l.base.v1, .int .i64 l.base.v2, .int .i64 l.base.v3, .slice xa l.base.tab.length xc, .slice ta l.tail.length tc] 28)).alloc (.cells #[.int .i64 s.at_, .int .i64 s.clock, .int .i64 s.v0, .int .i64 s.v1, .int .i64 s.v2, .int .i64 s.v3, .slice ya s.tab.length yc] 25)).alloc (.cells #[.int .i64 0, .int .i64 0, .int .i64 0, .int .i64 0, .int .i64 0, .int .i64 0, .slice none 0 0] 25) := ⟨_, rfl⟩
  have k1 : Keeps w W1 := by rw [hW1]; exact (((Keeps.refl _).alloc _).alloc _).alloc _
  have B1 : LgBox w.heap.size l (.slice xa l.base.tab.length xc) (.slice ta l.tail.length tc) W1 := by rw [hW1]; exact (LgBox.new w l _ _ rfl rfl 28).keep (((Keeps.refl _).alloc _).alloc _)
  have C1 : StBox (w.heap.size + 1) s (.slice ya s.tab.length yc) W1 := by
    rw [hW1]
    have := (StBox.new (w.alloc (.cells #[.int .i64 l.base.at_, .int .i64 l.base.clock, .int .i64 l.base.v0, .int .i64 l.base.v1, .int .i64 l.base.v2, .int .i64 l.base.v3, .slice xa l.base.tab.length xc, .slice ta l.tail.length tc] 28)) s (.slice ya s.tab.length yc) 25).keep ((Keeps.refl _).alloc (.cells #[.int .i64 0, .int .i64 0, .int .i64 0, .int .i64 0, .int .i64 0, .int .i64 0, .slice none 0 0] 25))
    simp only [World.size_alloc] at this
    exact this
  have Z1 : StBox (w.heap.size + 2) zeroSt (.slice none 0 0) W1 := by
    rw [hW1]
    have := StBox.new ((w.alloc (.cells #[.int .i64 l.base.at_, .int .i64 l.base.clock, .int .i64 l.base.v0, .int .i64 l.base.v1, .int .i64 l.base.v2, .int .i64 l.base.v3, .slice xa l.base.tab.length xc, .slice ta l.tail.length tc] 28)).alloc (.cells #[.int .i64 s.at_, .int .i64 s.clock, .int .i64 s.v0, .int .i64 s.v1, .int .i64 s.v2, .int .i64 s.v3, .slice ya s.tab.length yc] 25)) zeroSt (.slice none 0 0) 25
    simp only [World.size_alloc] at this
    exact this
  rw [← hW1]
  clear hW1
  have Z2 : StBox (w.heap.size + 1 + 1) zeroSt (.slice none 0 0) W1 := Z1
  clear Z1
  obtain ⟨zb, hzb⟩ : ∃ zb, zb = w.heap.size + 1 + 1 := ⟨_, rfl⟩
  rw [← hzb] at Z2 ⊢
  have HZB : Hid (zb = w.heap.size + 1 + 1) := hzb
  clear hzb
  refine (node_check_run l s n _ _ ta tc W1 (HT.out.keep k1) (HL.out.keep k1) (HY.out.keep k1) hcap).mono ?_
  rintro e w1 ⟨rfl, hb⟩
  have HK1 : Hid (Keeps w w1) := k1.trans hb
  have HB1 := (show Hid _ from B1.keep hb)
  have HC1 := (show Hid _ from C1.keep hb)
  have HZ1 := (show Hid _ from Z2.keep hb)
  clear k1 B1 C1 Z2 hb
  clear W1
  cases q1 : (runErr l s n == 0) with
  | false =>
    have q1' : (runErr l s n != 0) = true := by simp [bne, q1]
    have H1 := (show Hid _ from HOZ.out q1)
    have z0 := HZ1.out.c0
    have z1 := HZ1.out.c1
    have z2 := HZ1.out.c2
    have z3 := HZ1.out.c3
    have z4 := HZ1.out.c4
    have z5 := HZ1.out.c5
    have z6 := HZ1.out.c6
    have zf := HZ1.out.fz
    have zl := HZ1.out.lt
    have hk := HK1.out
    go_wp2_with fail
    refine bodyPost_ret (v := .tuple #[stV zeroSt (.slice none 0 0), .int .i64 0, .int .i64 (runErr l s n)]) ?_ rfl ?_
    · simp [results, Tryz.results46, go_sem, zeroSt, z0, z1, z2, z3, z4, z5, z6]
    · rw [H1.out.1, H1.out.2, HZT.out]
      have hzz := HZB.out
      refine ⟨none, 0, OwnTab.nil _ _, rfl, ?_⟩
      repeat refine Keeps.set ?_ (by simp <;> omega) _
      exact hk
  | true =>
    have q1' : (runErr l s n != 0) = false := by simp [bne, q1]
    have q0 : runErr l s n = 0 := by simpa using q1
    have hch := run_chk q0
    obtain ⟨m, rfl⟩ : ∃ m : Nat, n = m := ⟨n.toNat, by omega⟩
    have hm50 : m ≤ 50 := by omega
    have HR0 : Hid (runErr l s m = 0) := q0
    obtain ⟨⟨sa0, sa1⟩, _⟩ := stErr_bounds hch.2.1
    obtain ⟨⟨la0, la1⟩, _⟩ := stErr_bounds (fold_right hch.1).1
    clear hch q0
    have b0 := HB1.out.c0
    have b1 := HB1.out.c1
    have b2 := HB1.out.c2
    have b3 := HB1.out.c3
    have b4 := HB1.out.c4
    have b5 := HB1.out.c5
    have b6 := HB1.out.c6
    have b7 := HB1.out.c7
    have bl := HB1.out.lt
    have c0 := HC1.out.c0
    have c1 := HC1.out.c1
    have c2 := HC1.out.c2
    have c3 := HC1.out.c3
    have c4 := HC1.out.c4
    have c5 := HC1.out.c5
    have c6 := HC1.out.c6
    have cl := HC1.out.lt
    go_wp2_with fail
    refine (node_behind l s _ _ _ w1 rfl rfl rfl).mono ?_
    rintro e w2 ⟨rfl, hb⟩
    have HK2 : Hid (Keeps w w2) := HK1.out.trans hb
    have HB2 := (show Hid _ from HB1.out.keep hb)
    have HC2 := (show Hid _ from HC1.out.keep hb)
    have HZ2 := (show Hid _ from HZ1.out.keep hb)
    clear hb HB1 HC1 HZ1 HK1 b0 b1 b2 b3 b4 b5 b6 b7 bl c0 c1 c2 c3 c4 c5 c6 cl
    clear w1
    by_cases h1 : s.at_ < l.base.at_
    · have hd : decide (s.at_ < l.base.at_) = true := by simpa using h1
      have hfrom : runFrom l s = l.base := by unfold runFrom; rw [if_pos h1]
      rw [hd]
      have b0 := HB2.out.c0
      have b1 := HB2.out.c1
      have b2 := HB2.out.c2
      have b3 := HB2.out.c3
      have b4 := HB2.out.c4
      have b5 := HB2.out.c5
      have b6 := HB2.out.c6
      have b7 := HB2.out.c7
      have bl := HB2.out.lt
      have c0 := HC2.out.c0
      have c1 := HC2.out.c1
      have c2 := HC2.out.c2
      have c3 := HC2.out.c3
      have c4 := HC2.out.c4
      have c5 := HC2.out.c5
      have c6 := HC2.out.c6
      have cl := HC2.out.lt
      have cf := HC2.out.fz
      have HD3 := (show Hid _ from HC2.out.put l.base (.slice xa l.base.tab.length xc))
      have HBT := (show Hid _ from But.puts (b := w.heap.size + 1) w2 l.base (.slice xa l.base.tab.length xc))
      have HTT : Hid (TabAt w (.slice xa l.base.tab.length xc) l.base.tab) := HT.out
      obtain ⟨lo, hlo⟩ : ∃ lo : Nat, lo = runLo l s := ⟨_, rfl⟩
      obtain ⟨hf0, hf1, hf2, hf3⟩ := run_fold HR0.out
      have hls : l.base.at_ - l.base.at_ = (lo : Int) := by rw [hlo, ← hf1, hfrom]
      have hll : lo ≤ l.tail.length := by omega
      have hll' : (lo : Int) ≤ (l.tail.length : Int) := by omega
      have hlc : (lo : Int) ≤ (tc : Int) := by omega
      obtain ⟨k, hk'⟩ : ∃ k : Nat, k = min m (l.tail.length - lo) := ⟨_, rfl⟩
      have hkl : k ≤ l.tail.length - lo := by omega
      obtain ⟨r, hr'⟩ : ∃ r, r = runSt l.base ((l.tail.drop lo).take k) := ⟨_, rfl⟩
      obtain ⟨rn, hrn⟩ : ∃ rn, rn = runAns l.base ((l.tail.drop lo).take k) := ⟨_, rfl⟩
      have hcnt : runCnt l s m = k := by unfold runCnt; rw [← hlo, hk']; simp
      have HOUT : Hid (runOut l s m = r) := by
        show _ = _
        rw [HON.out HR0.out]
        unfold runL
        rw [hcnt, ← hlo, hfrom, hr']
      have HNUM : Hid (runNum l s m = k) := by show _ = _; rw [HNN.out HR0.out, hcnt]
      have h0 : foldErr l.base ((l.tail.drop lo).take k) = 0 := by
        have := hf0
        unfold runL at this
        rw [hcnt, ← hlo, hfrom] at this
        exact this
      have HCG : Hid (∀ W, Keeps w W → Calls Tryz.prog 51 #[stV l.base (.slice xa l.base.tab.length xc), .slice (if tc = lo then ta else Option.map (fun x : Addr => x.add (lo * 9)) ta) k (tc - lo)] W fun y w' => ∃ qa qc ra rc, Hid (OwnTab W.heap.size w' (.slice qa r.tab.length qc) r.tab) ∧ Hid (w'.ownsRow W.heap.size 3 1 (.slice ra rn.length rc) rn.length (intCells rn)) ∧ y = .returned (.tuple #[stV r (.slice qa r.tab.length qc), .slice ra rn.length rc, .int .i64 0]) ∧ Keeps W w') := by
        intro W hk
        have h1 := ents_suffix (HL.out.keep hk) hll hcap
        have e1 : l.tail.length - lo = (l.tail.drop lo).length := by simp
        rw [e1] at h1
        rw [hr', hrn]
        exact all_ok h0 _ _ W (HTT.out.keep hk) (ents_prefix h1 (by rw [← e1]; exact hkl))
      have hz9 : ∀ w, (Go.sizeOf 35).run Tryz.prog w = .ok 9 w := fun _ => by kernel_rfl
      have hlo0 : lo = 0 := by omega
      subst hlo0
      have hm3 : min (m : Int) (l.tail.length : Int) = (k : Int) := by omega
      have hkk2 : (k : Int) ≤ (l.tail.length : Int) := by omega
      have hkc1 : (k : Int) ≤ (tc : Int) := by omega
      clear hr' hrn hcnt hf0 hf1 hf2 hf3 hfrom hlo h0 hk' hls hll hll' hlc
      have HC : Hid (∀ W, Keeps w W → Calls Tryz.prog 51 #[stV l.base (.slice xa l.base.tab.length xc), .slice ta k tc] W fun y w' => ∃ qa qc ra rc, Hid (OwnTab W.heap.size w' (.slice qa r.tab.length qc) r.tab) ∧ Hid (w'.ownsRow W.heap.size 3 1 (.slice ra rn.length rc) rn.length (intCells rn)) ∧ y = .returned (.tuple #[stV r (.slice qa r.tab.length qc), .slice ra rn.length rc, .int .i64 0]) ∧ Keeps W w') := by
        have := HCG.out
        have e1 : (if tc = 0 then ta else Option.map (fun x : Addr => x.add (0 * 9)) ta) = ta := by
          split
          · rfl
          · cases ta <;> simp [Addr.add]
        rw [e1, Nat.sub_zero] at this
        exact this
      clear HCG
      go_wp2_with fail
      obtain ⟨W2, hW2⟩ : ∃ z, z = (((((((w2.setCell ⟨w.heap.size + 1, 0, none⟩ (.int .i64 l.base.at_)).setCell ⟨w.heap.size + 1, 1, none⟩ (.int .i64 l.base.clock)).setCell ⟨w.heap.size + 1, 2, none⟩ (.int .i64 l.base.v0)).setCell ⟨w.heap.size + 1, 3, none⟩ (.int .i64 l.base.v1)).setCell ⟨w.heap.size + 1, 4, none⟩ (.int .i64 l.base.v2)).setCell ⟨w.heap.size + 1, 5, none⟩ (.int .i64 l.base.v3)).setCell ⟨w.heap.size + 1, 6, none⟩ (.slice xa l.base.tab.length xc)) := ⟨_, rfl⟩
      have HK3 : Hid (Keeps w W2) := by rw [hW2]; exact But.to HK2.out (by omega) HBT.out
      have HZ3 : Hid (StBox zb zeroSt (.slice none 0 0) W2) := by rw [hW2]; exact HZ2.out.other HBT.out (by have := HZB.out; omega)
      rw [← hW2]
      clear hW2 HBT HD3
      refine (HC.out W2 HK3.out).mono ?_
      rintro y w3 ⟨qa, qc, ra, rc, HO, _, rfl, hb⟩
      have HZ4 : Hid (StBox zb zeroSt (.slice none 0 0) w3) := HZ3.out.keep hb
      have HK4 : Hid (Keeps w w3) := HK3.out.trans hb
      have hsz := HZ3.out.lt
      clear hb HZ3 HC b0 b1 b2 b3 b4 b5 b6 b7 bl c0 c1 c2 c3 c4 c5 c6 cl cf
      have z0 := HZ4.out.c0
      have z1 := HZ4.out.c1
      have z2 := HZ4.out.c2
      have z3 := HZ4.out.c3
      have z4 := HZ4.out.c4
      have z5 := HZ4.out.c5
      have z6 := HZ4.out.c6
      have zf := HZ4.out.fz
      have zl := HZ4.out.lt
      have hzz := HZB.out
      have HBT := (show Hid _ from But.puts (b := zb) w3 r (.slice qa r.tab.length qc))
      have HBF := (show Hid _ from (HZ4.out.put r (.slice qa r.tab.length qc)).keep ((Keeps.refl _).alloc (.cells #[.int .i64 r.at_, .int .i64 r.clock, .int .i64 r.v0, .int .i64 r.v1, .int .i64 r.v2, .int .i64 r.v3, .slice qa r.tab.length qc] 25)))
      have HOF := (show Hid _ from ((HO.out.but (by omega) HBT.out).base (by omega : w.heap.size ≤ _)).keep ((Keeps.refl _).alloc (.cells #[.int .i64 r.at_, .int .i64 r.clock, .int .i64 r.v0, .int .i64 r.v1, .int .i64 r.v2, .int .i64 r.v3, .slice qa r.tab.length qc] 25)))
      have HKF := (show Hid _ from (But.to HK4.out (by omega) HBT.out).alloc (.cells #[.int .i64 r.at_, .int .i64 r.clock, .int .i64 r.v0, .int .i64 r.v1, .int .i64 r.v2, .int .i64 r.v3, .slice qa r.tab.length qc] 25))
      clear hzz hsz
      go_wp2_with fail
      have c0 := HBF.out.c0
      have c1 := HBF.out.c1
      have c2 := HBF.out.c2
      have c3 := HBF.out.c3
      have c4 := HBF.out.c4
      have c5 := HBF.out.c5
      have c6 := HBF.out.c6
      refine bodyPost_ret (v := .tuple #[stV r (.slice qa r.tab.length qc), .int .i64 k, .int .i64 0]) ?_ rfl ?_
      · simp only [results, Tryz.results46, go_sem, c0, c1, c2, c3, c4, c5, c6]
        simp [go_sem, c0, c1, c2, c3, c4, c5, c6]
      · rw [HOUT.out, HNUM.out, HR0.out]
        exact ⟨qa, qc, HOF.out, rfl, HKF.out⟩
    · have hd : decide (s.at_ < l.base.at_) = false := by simpa using h1
      have hfrom : runFrom l s = s := by unfold runFrom; rw [if_neg h1]
      rw [hd]
      have HTT : Hid (TabAt w (.slice ya s.tab.length yc) s.tab) := HY.out
      obtain ⟨W2, hW2⟩ : ∃ z, z = w2 := ⟨_, rfl⟩
      rw [← hW2] at HK2 HB2 HC2 HZ2 ⊢
      clear hW2 w2
      obtain ⟨lo, hlo⟩ : ∃ lo : Nat, lo = runLo l s := ⟨_, rfl⟩
      obtain ⟨hf0, hf1, hf2, hf3⟩ := run_fold HR0.out
      have hls : s.at_ - l.base.at_ = (lo : Int) := by rw [hlo, ← hf1, hfrom]
      have hll : lo ≤ l.tail.length := by omega
      have hll' : (lo : Int) ≤ (l.tail.length : Int) := by omega
      have hlc : (lo : Int) ≤ (tc : Int) := by omega
      obtain ⟨k, hk'⟩ : ∃ k : Nat, k = min m (l.tail.length - lo) := ⟨_, rfl⟩
      have hkl : k ≤ l.tail.length - lo := by omega
      obtain ⟨r, hr'⟩ : ∃ r, r = runSt s ((l.tail.drop lo).take k) := ⟨_, rfl⟩
      obtain ⟨rn, hrn⟩ : ∃ rn, rn = runAns s ((l.tail.drop lo).take k) := ⟨_, rfl⟩
      have hcnt : runCnt l s m = k := by unfold runCnt; rw [← hlo, hk']; simp
      have HOUT : Hid (runOut l s m = r) := by
        show _ = _
        rw [HON.out HR0.out]
        unfold runL
        rw [hcnt, ← hlo, hfrom, hr']
      have HNUM : Hid (runNum l s m = k) := by show _ = _; rw [HNN.out HR0.out, hcnt]
      have h0 : foldErr s ((l.tail.drop lo).take k) = 0 := by
        have := hf0
        unfold runL at this
        rw [hcnt, ← hlo, hfrom] at this
        exact this
      have HCG : Hid (∀ W, Keeps w W → Calls Tryz.prog 51 #[stV s (.slice ya s.tab.length yc), .slice (if tc = lo then ta else Option.map (fun x : Addr => x.add (lo * 9)) ta) k (tc - lo)] W fun y w' => ∃ qa qc ra rc, Hid (OwnTab W.heap.size w' (.slice qa r.tab.length qc) r.tab) ∧ Hid (w'.ownsRow W.heap.size 3 1 (.slice ra rn.length rc) rn.length (intCells rn)) ∧ y = .returned (.tuple #[stV r (.slice qa r.tab.length qc), .slice ra rn.length rc, .int .i64 0]) ∧ Keeps W w') := by
        intro W hk
        have h1 := ents_suffix (HL.out.keep hk) hll hcap
        have e1 : l.tail.length - lo = (l.tail.drop lo).length := by simp
        rw [e1] at h1
        rw [hr', hrn]
        exact all_ok h0 _ _ W (HTT.out.keep hk) (ents_prefix h1 (by rw [← e1]; exact hkl))
      have hz9 : ∀ w, (Go.sizeOf 35).run Tryz.prog w = .ok 9 w := fun _ => by kernel_rfl
      have hm3 : min (m : Int) ((l.tail.length - lo : Nat) : Int) = (k : Int) := by omega
      have hkk2 : (k : Int) ≤ ((l.tail.length - lo : Nat) : Int) := by omega
      have hkc1 : (k : Int) ≤ ((tc - lo : Nat) : Int) := by omega
      clear hr' hrn hcnt hf0 hf1 hf2 hf3 hfrom hlo h0 hk'
      have b0 := HB2.out.c0
      have b7 := HB2.out.c7
      have bl := HB2.out.lt
      have c0 := HC2.out.c0
      have c1 := HC2.out.c1
      have c2 := HC2.out.c2
      have c3 := HC2.out.c3
      have c4 := HC2.out.c4
      have c5 := HC2.out.c5
      have c6 := HC2.out.c6
      have cl := HC2.out.lt
      have HK3 : Hid (Keeps w W2) := HK2.out
      have HZ3 := (show Hid _ from HZ2.out)
      clear HK2 HZ2
      by_cases hcl : tc = lo
      · have hk0 : k = 0 := by omega
        subst hk0
        subst hcl
        have hm4 : min (m : Int) 0 = 0 := by omega
        have HC : Hid (∀ W, Keeps w W → Calls Tryz.prog 51 #[stV s (.slice ya s.tab.length yc), .slice ta 0 0] W fun y w' => ∃ qa qc ra rc, Hid (OwnTab W.heap.size w' (.slice qa r.tab.length qc) r.tab) ∧ Hid (w'.ownsRow W.heap.size 3 1 (.slice ra rn.length rc) rn.length (intCells rn)) ∧ y = .returned (.tuple #[stV r (.slice qa r.tab.length qc), .slice ra rn.length rc, .int .i64 0]) ∧ Keeps W w') := by
          have := HCG.out
          simp only [if_true, Nat.sub_self] at this
          exact this
        clear HCG
        go_wp2_with fail
        refine (HC.out W2 HK3.out).mono ?_
        rintro y w3 ⟨qa, qc, ra, rc, HO, _, rfl, hb⟩
        have HZ4 : Hid (StBox zb zeroSt (.slice none 0 0) w3) := HZ3.out.keep hb
        have HK4 : Hid (Keeps w w3) := HK3.out.trans hb
        have hsz := HZ3.out.lt
        clear hb HZ3 HC b0 b7 bl c0 c1 c2 c3 c4 c5 c6 cl
        have z0 := HZ4.out.c0
        have z1 := HZ4.out.c1
        have z2 := HZ4.out.c2
        have z3 := HZ4.out.c3
        have z4 := HZ4.out.c4
        have z5 := HZ4.out.c5
        have z6 := HZ4.out.c6
        have zf := HZ4.out.fz
        have zl := HZ4.out.lt
        have hzz := HZB.out
        have HBT := (show Hid _ from But.puts (b := zb) w3 r (.slice qa r.tab.length qc))
        have HBF := (show Hid _ from (HZ4.out.put r (.slice qa r.tab.length qc)).keep ((Keeps.refl _).alloc (.cells #[.int .i64 r.at_, .int .i64 r.clock, .int .i64 r.v0, .int .i64 r.v1, .int .i64 r.v2, .int .i64 r.v3, .slice qa r.tab.length qc] 25)))
        have HOF := (show Hid _ from ((HO.out.but (by omega) HBT.out).base (by omega : w.heap.size ≤ _)).keep ((Keeps.refl _).alloc (.cells #[.int .i64 r.at_, .int .i64 r.clock, .int .i64 r.v0, .int .i64 r.v1, .int .i64 r.v2, .int .i64 r.v3, .slice qa r.tab.length qc] 25)))
        have HKF := (show Hid _ from (But.to HK4.out (by omega) HBT.out).alloc (.cells #[.int .i64 r.at_, .int .i64 r.clock, .int .i64 r.v0, .int .i64 r.v1, .int .i64 r.v2, .int .i64 r.v3, .slice qa r.tab.length qc] 25))
        clear hzz hsz
        go_wp2_with fail
        have c0 := HBF.out.c0
        have c1 := HBF.out.c1
        have c2 := HBF.out.c2
        have c3 := HBF.out.c3
        have c4 := HBF.out.c4
        have c5 := HBF.out.c5
        have c6 := HBF.out.c6
        refine bodyPost_ret (v := .tuple #[stV r (.slice qa r.tab.length qc), .int .i64 0, .int .i64 0]) ?_ rfl ?_
        · simp only [results, Tryz.results46, go_sem, c0, c1, c2, c3, c4, c5, c6]
          simp [go_sem, c0, c1, c2, c3, c4, c5, c6]
        · rw [HOUT.out, HNUM.out, HR0.out]
          exact ⟨qa, qc, HOF.out, rfl, HKF.out⟩
      · have hcl2 : ¬ (tc : Int) = (lo : Int) := by omega
        have HC : Hid (∀ W, Keeps w W → Calls Tryz.prog 51 #[stV s (.slice ya s.tab.length yc), .slice (Option.map (fun x : Addr => x.add (lo * 9)) ta) k (tc - lo)] W fun y w' => ∃ qa qc ra rc, Hid (OwnTab W.heap.size w' (.slice qa r.tab.length qc) r.tab) ∧ Hid (w'.ownsRow W.heap.size 3 1 (.slice ra rn.length rc) rn.length (intCells rn)) ∧ y = .returned (.tuple #[stV r (.slice qa r.tab.length qc), .slice ra rn.length rc, .int .i64 0]) ∧ Keeps W w') := by
          have := HCG.out
          simp only [if_neg hcl] at this
          exact this
        clear HCG
        go_wp2_with fail
        refine (HC.out W2 HK3.out).mono ?_
        rintro y w3 ⟨qa, qc, ra, rc, HO, _, rfl, hb⟩
        have HZ4 : Hid (StBox zb zeroSt (.slice none 0 0) w3) := HZ3.out.keep hb
        have HK4 : Hid (Keeps w w3) := HK3.out.trans hb
        have hsz := HZ3.out.lt
        clear hb HZ3 HC b0 b7 bl c0 c1 c2 c3 c4 c5 c6 cl
        have z0 := HZ4.out.c0
        have z1 := HZ4.out.c1
        have z2 := HZ4.out.c2
        have z3 := HZ4.out.c3
        have z4 := HZ4.out.c4
        have z5 := HZ4.out.c5
        have z6 := HZ4.out.c6
        have zf := HZ4.out.fz
        have zl := HZ4.out.lt
        have hzz := HZB.out
        have HBT := (show Hid _ from But.puts (b := zb) w3 r (.slice qa r.tab.length qc))
        have HBF := (show Hid _ from (HZ4.out.put r (.slice qa r.tab.length qc)).keep ((Keeps.refl _).alloc (.cells #[.int .i64 r.at_, .int .i64 r.clock, .int .i64 r.v0, .int .i64 r.v1, .int .i64 r.v2, .int .i64 r.v3, .slice qa r.tab.length qc] 25)))
        have HOF := (show Hid _ from ((HO.out.but (by omega) HBT.out).base (by omega : w.heap.size ≤ _)).keep ((Keeps.refl _).alloc (.cells #[.int .i64 r.at_, .int .i64 r.clock, .int .i64 r.v0, .int .i64 r.v1, .int .i64 r.v2, .int .i64 r.v3, .slice qa r.tab.length qc] 25)))
        have HKF := (show Hid _ from (But.to HK4.out (by omega) HBT.out).alloc (.cells #[.int .i64 r.at_, .int .i64 r.clock, .int .i64 r.v0, .int .i64 r.v1, .int .i64 r.v2, .int .i64 r.v3, .slice qa r.tab.length qc] 25))
        clear hzz hsz
        go_wp2_with fail
        have c0 := HBF.out.c0
        have c1 := HBF.out.c1
        have c2 := HBF.out.c2
        have c3 := HBF.out.c3
        have c4 := HBF.out.c4
        have c5 := HBF.out.c5
        have c6 := HBF.out.c6
        refine bodyPost_ret (v := .tuple #[stV r (.slice qa r.tab.length qc), .int .i64 k, .int .i64 0]) ?_ rfl ?_
        · simp only [results, Tryz.results46, go_sem, c0, c1, c2, c3, c4, c5, c6]
          simp [go_sem, c0, c1, c2, c3, c4, c5, c6]
        · rw [HOUT.out, HNUM.out, HR0.out]
          exact ⟨qa, qc, HOF.out, rfl, HKF.out⟩
end Go.Proofs.YteabfjpajgakiagGreat
