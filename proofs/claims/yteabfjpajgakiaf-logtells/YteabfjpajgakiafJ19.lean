/- LoE, GrD, GrE, PaC. -/
import Derived.Test.YteabfjpajgakiafJ15
import Derived.Test.YteabfjpajgakiafJ18
/- log.readEntry. -/
set_option linter.unusedSimpArgs false
set_option linter.unusedVariables false
set_option maxRecDepth 10000
namespace Go.Proofs.Yteabfjpajgakiaf
open Go.RowKit

def noEnt : Ent := ⟨0, 0, 0, 0, 0, 0, 0, 0, 0⟩
theorem zero35 : (Try.prog.info? 35).map (·.zero) = some (some (.agg (EC noEnt).toArray)) := by kernel_rfl
theorem size33 : (Try.prog.info? 33).map (·.size) = some 4 := by kernel_rfl
theorem But.far {b c : Nat} {x y z : World} (h : But b x y) (hc : x.heap.size ≤ c) (k : But c y z) : But b x z :=
  ⟨k.os.trans h.os, k.tape.trans h.tape, k.output.trans h.output, Nat.le_trans h.size k.size, fun i hi hb => (k.block i (Nat.lt_of_lt_of_le hi h.size) (by omega)).trans (h.block i hi hb)⟩
theorem CBox.one {b : Nat} {cs : List Value} {w : World} (h : CBox b cs w) (i : Nat) (v : Value) : CBox b (cs.set i v) (w.setCell ⟨b, i, none⟩ v) := by
  refine ⟨fun j u hu => ?_, fun j => (World.frozen?_setCell _ _ _ _).trans (h.2 j)⟩
  by_cases hij : i = j
  · subst hij
    rw [List.getElem?_set] at hu
    simp only [if_true] at hu
    split at hu
    · rename_i hl
      have hc := h.1 i _ (List.getElem?_eq_getElem hl)
      rw [World.cell?_setCell_same _ _ _ hc]
      exact hu
    · cases hu
  · rw [List.getElem?_set_ne hij] at hu
    rw [World.cell?_setCell_other _ _ _ _ (by intro e; injection e with _ e _; exact hij e)]
    exact h.1 j u hu
section
variable {ops : Array Oper} {rest : List Oper} {op : Oper} {a : Act} {w : World} {Q : Exit → Act → World → Prop}
theorem alloc35 (hgd : op.guard = none) (ho : op.op = .alloc 35)
    (h : ∀ (w' : World) (b : Nat), CBox b (EC noEnt) w' → Keeps w w' → b < w'.heap.size → w.heap.size ≤ b → wpList Try.prog ops Q rest (a.put op.dst (.pointer (some ⟨b, 0, none⟩))) w') : wpList Try.prog ops Q (op :: rest) a w := wpList_alloc_new hgd _ ho _ _ zero35 rfl h
theorem store35 (hgd : op.guard = none) {x y : Operand} (ho : op.op = .store 35 x y) (b : Nat) (hx : a.eval x = .pointer (some ⟨b, 0, none⟩)) {d : Ent} (e : Ent) (hy : a.eval y = entV e) (hB : CBox b (EC d) w)
    (h : ∀ w', CBox b (EC e) w' → But b w w' → wpList Try.prog ops Q rest (a.put op.dst undef) w') : wpList Try.prog ops Q (op :: rest) a w :=
  wpList_store_box hgd _ x y ho b 0 (EC e) hx hy hB _ rfl (Nat.le_of_ble_eq_true rfl) (info_size size35 rfl) (EC_one e) h
theorem store33 (hgd : op.guard = none) {x y : Operand} (ho : op.op = .store 33 x y) (b : Nat) (hx : a.eval x = .pointer (some ⟨b, 5, none⟩)) {d : Ent} (k p q n : Int) (hy : a.eval y = .agg #[.int .i64 k, .int .i64 p, .int .i64 q, .int .i64 n]) (hB : CBox b (EC d) w)
    (h : ∀ w', CBox b (EC ⟨d.kind, d.time, d.client, d.seq, d.ack, k, p, q, n⟩) w' → But b w w' → wpList Try.prog ops Q rest (a.put op.dst undef) w') : wpList Try.prog ops Q (op :: rest) a w :=
  wpList_store_box hgd _ x y ho b 5 [.int .i64 k, .int .i64 p, .int .i64 q, .int .i64 n] hx hy hB _ rfl (Nat.le_of_ble_eq_true rfl) (info_size size33 rfl) (by kernel_rfl) h
theorem store_one (hgd : op.guard = none) {x y : Operand} (ho : op.op = .store 3 x y) (b i : Nat) (hx : a.eval x = .pointer (some ⟨b, i, none⟩)) {n : Int} (hy : a.eval y = .int .i64 n) {cs : List Value} (es : List Value) (hB : CBox b cs w) (hi : i < cs.length) (hes : cs.set i (.int .i64 n) = es)
    (h : ∀ w', CBox b es w' → But b w w' → wpList Try.prog ops Q rest (a.put op.dst undef) w') : wpList Try.prog ops Q (op :: rest) a w := by
  subst hes
  refine wpList_plain hgd fun K hK => ?_
  have hc := hB.1 i _ (List.getElem?_eq_getElem hi)
  have hz := hB.2 i
  have hn := h _ (hB.one i (.int .i64 n)) ((But.refl _ _).set i _)
  have e0 : (Instr.storeAt 3 (.pointer (some ⟨b, i, none⟩)) (.int .i64 n)).run Try.prog w = .ok () (w.setCell ⟨b, i, none⟩ (.int .i64 n)) := by simp [go_sem, hc, hz]
  have e1 : (execOp a.eval op).run Try.prog w = .ok .skip (w.setCell ⟨b, i, none⟩ (.int .i64 n)) := by
    simp only [execOp, ho, hx, hy, Sem.run_bind, e0, Result.andThen_ok, Sem.run_pure]
  unfold Oper.wp
  rw [e1]
  exact hK _ _ hn
end
theorem read35 {w : World} {b : Nat} {e : Ent} (hB : CBox b (EC e) w) : (loadVar 35 ⟨b, 0, none⟩).run Try.prog w = .ok (entV e) w := by
  obtain ⟨d, h1, h2⟩ := row35
  exact read_box hB _ d h1 h2 (info_size size35 rfl)

set_option maxHeartbeats 2000000 in
theorem rd_other (b : Nat) (bk bt1 bt0 bc : UInt8) (r : List UInt8) (w : World) (hB : RBox b (bk :: bt1 :: bt0 :: bc :: r) w) (hk : (i8 bk == 2) = false) : Calls Try.prog 41 #[.pointer (some ⟨b, 0, none⟩)] w fun y w' => y = .returned (entV (otherE bk bt1 bt0 bc)) ∧ RBox b r w' ∧ But b w w' := by
  have HB0 : Hid (RBox b (bk :: bt1 :: bt0 :: bc :: r) w) := hB
  clear hB
  have bk0 := i8_lo bk
  have bk1 := i8_hi bk
  have bt10 := i8_lo bt1
  have bt11 := i8_hi bt1
  have bt00 := i8_lo bt0
  have bt01 := i8_hi bt0
  have bc0 := i8_lo bc
  have bc1 := i8_hi bc
  go_enter Try.func41, Try.ntmps41
  go_wp2_with (first | (refine alloc35 rfl rfl ?_; intro w0 ob hBo hko hlo hgo))
  have HT0 : Hid (But b w w0) := But.of hko
  have HR0 : Hid (RBox b (bk :: bt1 :: bt0 :: bc :: r) w0) := HB0.out.keep hko
  have HO0 : Hid (CBox ob (EC noEnt) w0) := hBo
  have HOG : Hid (w.heap.size ≤ ob) := hgo
  have HOB : Hid (ob ≠ b) := fun e => by have := HB0.out.lt; omega
  clear hBo hko hlo hgo HB0
  refine (reader_some b bk (bt1 :: bt0 :: bc :: r) w0 HR0.out).mono ?_
  rintro y w1 ⟨rfl, hR, hb⟩
  have HT1 : Hid (But b w w1) := HT0.out.trans hb
  have HR1 : Hid (RBox b (bt1 :: bt0 :: bc :: r) w1) := hR
  have HO1 : Hid (CBox ob (EC noEnt) w1) := HO0.out.other hb HOB.out (Nat.le_of_ble_eq_true rfl)
  clear hR hb HT0 HR0 HO0
  go_wp2_with fail
  refine (readerW_some b bt1 bt0 (bc :: r) w1 HR1.out).mono ?_
  rintro y w2 ⟨rfl, hR, hb⟩
  have HT2 : Hid (But b w w2) := HT1.out.trans hb
  have HR2 : Hid (RBox b (bc :: r) w2) := hR
  have HO2 : Hid (CBox ob (EC noEnt) w2) := HO1.out.other hb HOB.out (Nat.le_of_ble_eq_true rfl)
  clear hR hb HT1 HR1 HO1
  go_wp2_with fail
  refine (reader_some b bc (r) w2 HR2.out).mono ?_
  rintro y w3 ⟨rfl, hR, hb⟩
  have HT3 : Hid (But b w w3) := HT2.out.trans hb
  have HR3 : Hid (RBox b (r) w3) := hR
  have HO3 : Hid (CBox ob (EC noEnt) w3) := HO2.out.other hb HOB.out (Nat.le_of_ble_eq_true rfl)
  clear hR hb HT2 HR2 HO2
  have hsz := HR3.out.lt
  go_wp2_with (first | (refine alloc35 rfl rfl ?_; intro va eb hBe hke hle hge) | (refine store35 rfl rfl eb rfl (⟨i8 bk, i8 bt1 * 256 + i8 bt0, i8 bc, 0, 0, 0, 0, 0, 0⟩) rfl hBe ?_; intro vb hSb hTb; have hc0 : vb.cell? ⟨eb, 0, none⟩ = some (.int .i64 (i8 bk)) := hSb.1 0 _ rfl) | (refine load35 rfl rfl eb rfl (e := ⟨i8 bk, i8 bt1 * 256 + i8 bt0, i8 bc, 0, 0, 0, 0, 0, 0⟩) hSb ?_) | (refine store35 rfl rfl ob rfl (⟨i8 bk, i8 bt1 * 256 + i8 bt0, i8 bc, 0, 0, 0, 0, 0, 0⟩) rfl (HO3.out.keep (But.to hke hge hTb) (Nat.le_of_ble_eq_true rfl)) ?_; intro vc hSc hTc))
  refine bodyPost_ret (results1 Try.results41 rfl (read35 hSc)) rfl ?_
  have kk : Keeps w3 vb := But.to hke hge hTb
  refine ⟨rfl, (HR3.out.keep kk).other hTc (fun e => HOB.out e.symm), But.far (HT3.out.trans (But.of kk)) HOG.out hTc⟩

set_option maxHeartbeats 2000000 in
theorem rd_call (b : Nat) (bk bt1 bt0 bc bs ba bo bp bz bn1 bn0 : UInt8) (r : List UInt8) (w : World) (hB : RBox b (bk :: bt1 :: bt0 :: bc :: bs :: ba :: bo :: bp :: bz :: bn1 :: bn0 :: r) w) (hk : (i8 bk == 2) = true) : Calls Try.prog 41 #[.pointer (some ⟨b, 0, none⟩)] w fun y w' => y = .returned (entV (callE bk bt1 bt0 bc bs ba bo bp bz bn1 bn0)) ∧ RBox b r w' ∧ But b w w' := by
  have HB0 : Hid (RBox b (bk :: bt1 :: bt0 :: bc :: bs :: ba :: bo :: bp :: bz :: bn1 :: bn0 :: r) w) := hB
  clear hB
  have bk0 := i8_lo bk
  have bk1 := i8_hi bk
  have bt10 := i8_lo bt1
  have bt11 := i8_hi bt1
  have bt00 := i8_lo bt0
  have bt01 := i8_hi bt0
  have bc0 := i8_lo bc
  have bc1 := i8_hi bc
  have bs0 := i8_lo bs
  have bs1 := i8_hi bs
  have ba0 := i8_lo ba
  have ba1 := i8_hi ba
  have bo0 := i8_lo bo
  have bo1 := i8_hi bo
  have bp0 := i8_lo bp
  have bp1 := i8_hi bp
  have bz0 := i8_lo bz
  have bz1 := i8_hi bz
  have bn10 := i8_lo bn1
  have bn11 := i8_hi bn1
  have bn00 := i8_lo bn0
  have bn01 := i8_hi bn0
  go_enter Try.func41, Try.ntmps41
  go_wp2_with (first | (refine alloc35 rfl rfl ?_; intro w0 ob hBo hko hlo hgo))
  have HT0 : Hid (But b w w0) := But.of hko
  have HR0 : Hid (RBox b (bk :: bt1 :: bt0 :: bc :: bs :: ba :: bo :: bp :: bz :: bn1 :: bn0 :: r) w0) := HB0.out.keep hko
  have HO0 : Hid (CBox ob (EC noEnt) w0) := hBo
  have HOG : Hid (w.heap.size ≤ ob) := hgo
  have HOB : Hid (ob ≠ b) := fun e => by have := HB0.out.lt; omega
  clear hBo hko hlo hgo HB0
  refine (reader_some b bk (bt1 :: bt0 :: bc :: bs :: ba :: bo :: bp :: bz :: bn1 :: bn0 :: r) w0 HR0.out).mono ?_
  rintro y w1 ⟨rfl, hR, hb⟩
  have HT1 : Hid (But b w w1) := HT0.out.trans hb
  have HR1 : Hid (RBox b (bt1 :: bt0 :: bc :: bs :: ba :: bo :: bp :: bz :: bn1 :: bn0 :: r) w1) := hR
  have HO1 : Hid (CBox ob (EC noEnt) w1) := HO0.out.other hb HOB.out (Nat.le_of_ble_eq_true rfl)
  clear hR hb HT0 HR0 HO0
  go_wp2_with fail
  refine (readerW_some b bt1 bt0 (bc :: bs :: ba :: bo :: bp :: bz :: bn1 :: bn0 :: r) w1 HR1.out).mono ?_
  rintro y w2 ⟨rfl, hR, hb⟩
  have HT2 : Hid (But b w w2) := HT1.out.trans hb
  have HR2 : Hid (RBox b (bc :: bs :: ba :: bo :: bp :: bz :: bn1 :: bn0 :: r) w2) := hR
  have HO2 : Hid (CBox ob (EC noEnt) w2) := HO1.out.other hb HOB.out (Nat.le_of_ble_eq_true rfl)
  clear hR hb HT1 HR1 HO1
  go_wp2_with fail
  refine (reader_some b bc (bs :: ba :: bo :: bp :: bz :: bn1 :: bn0 :: r) w2 HR2.out).mono ?_
  rintro y w3 ⟨rfl, hR, hb⟩
  have HT3 : Hid (But b w w3) := HT2.out.trans hb
  have HR3 : Hid (RBox b (bs :: ba :: bo :: bp :: bz :: bn1 :: bn0 :: r) w3) := hR
  have HO3 : Hid (CBox ob (EC noEnt) w3) := HO2.out.other hb HOB.out (Nat.le_of_ble_eq_true rfl)
  clear hR hb HT2 HR2 HO2
  have hsz := HR3.out.lt
  go_wp2_with (first | (refine alloc35 rfl rfl ?_; intro va eb hBe hke hle hge) | (refine store35 rfl rfl eb rfl (⟨i8 bk, i8 bt1 * 256 + i8 bt0, i8 bc, 0, 0, 0, 0, 0, 0⟩) rfl hBe ?_; intro vb hSb hTb; have hc0 : vb.cell? ⟨eb, 0, none⟩ = some (.int .i64 (i8 bk)) := hSb.1 0 _ rfl))
  have kk : Keeps w3 vb := But.to hke hge hTb
  have HT4 : Hid (But b w vb) := HT3.out.trans (But.of kk)
  have HR4 : Hid (RBox b (bs :: ba :: bo :: bp :: bz :: bn1 :: bn0 :: r) vb) := HR3.out.keep kk
  have HO4 : Hid (CBox ob (EC noEnt) vb) := HO3.out.keep kk (Nat.le_of_ble_eq_true rfl)
  have HE4 : Hid (CBox eb (EC ⟨i8 bk, i8 bt1 * 256 + i8 bt0, i8 bc, 0, 0, 0, 0, 0, 0⟩) vb) := hSb
  have HEG : Hid (w.heap.size ≤ eb) := Nat.le_trans HT3.out.size hge
  have HEB : Hid (eb ≠ b) := fun e => by omega
  have HEO : Hid (ob ≠ eb) := fun e => by have := HO3.out.lt (Nat.le_of_ble_eq_true rfl); omega
  clear kk hBe hke hle hge hSb hTb hc0 hsz HT3 HR3 HO3
  generalize vb = w4 at *
  refine (reader_some b bs (ba :: bo :: bp :: bz :: bn1 :: bn0 :: r) w4 HR4.out).mono ?_
  rintro y w5 ⟨rfl, hR, hb⟩
  have HT5 : Hid (But b w w5) := HT4.out.trans hb
  have HR5 : Hid (RBox b (ba :: bo :: bp :: bz :: bn1 :: bn0 :: r) w5) := hR
  have HO5 : Hid (CBox ob (EC noEnt) w5) := HO4.out.other hb HOB.out (Nat.le_of_ble_eq_true rfl)
  have HE5 : Hid (CBox eb (EC ⟨i8 bk, i8 bt1 * 256 + i8 bt0, i8 bc, 0, 0, 0, 0, 0, 0⟩) w5) := HE4.out.other hb HEB.out (Nat.le_of_ble_eq_true rfl)
  clear hR hb HT4 HR4 HO4 HE4
  go_wp2_with fail
  refine (reader_some b ba (bo :: bp :: bz :: bn1 :: bn0 :: r) w5 HR5.out).mono ?_
  rintro y w6 ⟨rfl, hR, hb⟩
  have HT6 : Hid (But b w w6) := HT5.out.trans hb
  have HR6 : Hid (RBox b (bo :: bp :: bz :: bn1 :: bn0 :: r) w6) := hR
  have HO6 : Hid (CBox ob (EC noEnt) w6) := HO5.out.other hb HOB.out (Nat.le_of_ble_eq_true rfl)
  have HE6 : Hid (CBox eb (EC ⟨i8 bk, i8 bt1 * 256 + i8 bt0, i8 bc, 0, 0, 0, 0, 0, 0⟩) w6) := HE5.out.other hb HEB.out (Nat.le_of_ble_eq_true rfl)
  clear hR hb HT5 HR5 HO5 HE5
  go_wp2_with (first | (have _h := hSa; refine store_one rfl rfl eb 4 rfl rfl (EC ⟨i8 bk, i8 bt1 * 256 + i8 bt0, i8 bc, i8 bs, i8 ba, 0, 0, 0, 0⟩) hSa (Nat.le_of_ble_eq_true rfl) rfl ?_; intro vb hSb hTb) | (refine store_one rfl rfl eb 3 rfl rfl (EC ⟨i8 bk, i8 bt1 * 256 + i8 bt0, i8 bc, i8 bs, 0, 0, 0, 0, 0⟩) HE6.out (Nat.le_of_ble_eq_true rfl) rfl ?_; intro va hSa hTa))
  have HT7 : Hid (But b w vb) := But.far (But.far HT6.out HEG.out hTa) HEG.out hTb
  have HR7 : Hid (RBox b (bo :: bp :: bz :: bn1 :: bn0 :: r) vb) := (HR6.out.other hTa (fun e => HEB.out e.symm)).other hTb (fun e => HEB.out e.symm)
  have HO7 : Hid (CBox ob (EC noEnt) vb) := (HO6.out.other hTa HEO.out (Nat.le_of_ble_eq_true rfl)).other hTb HEO.out (Nat.le_of_ble_eq_true rfl)
  have HE7 : Hid (CBox eb (EC ⟨i8 bk, i8 bt1 * 256 + i8 bt0, i8 bc, i8 bs, i8 ba, 0, 0, 0, 0⟩) vb) := hSb
  clear hSa hTa hSb hTb HT6 HR6 HO6 HE6
  generalize vb = w7 at *
  refine (reader_some b bo (bp :: bz :: bn1 :: bn0 :: r) w7 HR7.out).mono ?_
  rintro y w8 ⟨rfl, hR, hb⟩
  have HT8 : Hid (But b w w8) := HT7.out.trans hb
  have HR8 : Hid (RBox b (bp :: bz :: bn1 :: bn0 :: r) w8) := hR
  have HO8 : Hid (CBox ob (EC noEnt) w8) := HO7.out.other hb HOB.out (Nat.le_of_ble_eq_true rfl)
  have HE8 : Hid (CBox eb (EC ⟨i8 bk, i8 bt1 * 256 + i8 bt0, i8 bc, i8 bs, i8 ba, 0, 0, 0, 0⟩) w8) := HE7.out.other hb HEB.out (Nat.le_of_ble_eq_true rfl)
  clear hR hb HT7 HR7 HO7 HE7
  go_wp2_with fail
  refine (reader_some b bp (bz :: bn1 :: bn0 :: r) w8 HR8.out).mono ?_
  rintro y w9 ⟨rfl, hR, hb⟩
  have HT9 : Hid (But b w w9) := HT8.out.trans hb
  have HR9 : Hid (RBox b (bz :: bn1 :: bn0 :: r) w9) := hR
  have HO9 : Hid (CBox ob (EC noEnt) w9) := HO8.out.other hb HOB.out (Nat.le_of_ble_eq_true rfl)
  have HE9 : Hid (CBox eb (EC ⟨i8 bk, i8 bt1 * 256 + i8 bt0, i8 bc, i8 bs, i8 ba, 0, 0, 0, 0⟩) w9) := HE8.out.other hb HEB.out (Nat.le_of_ble_eq_true rfl)
  clear hR hb HT8 HR8 HO8 HE8
  go_wp2_with fail
  refine (reader_some b bz (bn1 :: bn0 :: r) w9 HR9.out).mono ?_
  rintro y w10 ⟨rfl, hR, hb⟩
  have HT10 : Hid (But b w w10) := HT9.out.trans hb
  have HR10 : Hid (RBox b (bn1 :: bn0 :: r) w10) := hR
  have HO10 : Hid (CBox ob (EC noEnt) w10) := HO9.out.other hb HOB.out (Nat.le_of_ble_eq_true rfl)
  have HE10 : Hid (CBox eb (EC ⟨i8 bk, i8 bt1 * 256 + i8 bt0, i8 bc, i8 bs, i8 ba, 0, 0, 0, 0⟩) w10) := HE9.out.other hb HEB.out (Nat.le_of_ble_eq_true rfl)
  clear hR hb HT9 HR9 HO9 HE9
  go_wp2_with fail
  refine (readerW_some b bn1 bn0 (r) w10 HR10.out).mono ?_
  rintro y w11 ⟨rfl, hR, hb⟩
  have HT11 : Hid (But b w w11) := HT10.out.trans hb
  have HR11 : Hid (RBox b (r) w11) := hR
  have HO11 : Hid (CBox ob (EC noEnt) w11) := HO10.out.other hb HOB.out (Nat.le_of_ble_eq_true rfl)
  have HE11 : Hid (CBox eb (EC ⟨i8 bk, i8 bt1 * 256 + i8 bt0, i8 bc, i8 bs, i8 ba, 0, 0, 0, 0⟩) w11) := HE10.out.other hb HEB.out (Nat.le_of_ble_eq_true rfl)
  clear hR hb HT10 HR10 HO10 HE10
  go_wp2_with (first | (refine store33 rfl rfl eb rfl (i8 bo) (i8 bp) (i8 bz) (i8 bn1 * 256 + i8 bn0 - 999) rfl HE11.out ?_; intro va hSa hTa) | (refine load35 rfl rfl eb rfl (e := (callE bk bt1 bt0 bc bs ba bo bp bz bn1 bn0)) hSa ?_) | (refine store35 rfl rfl ob rfl (callE bk bt1 bt0 bc bs ba bo bp bz bn1 bn0) rfl (HO11.out.other hTa HEO.out (Nat.le_of_ble_eq_true rfl)) ?_; intro vb hSb hTb))
  refine bodyPost_ret (results1 Try.results41 rfl (read35 hSb)) rfl ?_
  exact ⟨rfl, (HR11.out.other hTa (fun e => HEB.out e.symm)).other hTb (fun e => HOB.out e.symm), But.far (But.far HT11.out HEG.out hTa) HOG.out hTb⟩

set_option maxHeartbeats 2000000 in
theorem rd_no0 (b : Nat) (w : World) (hB : RBox b ([]) w) : Calls Try.prog 41 #[.pointer (some ⟨b, 0, none⟩)] w fun y w' => (∃ u pv, y = .panicked [{ v := .iface u pv, recovered := false }]) ∧ But b w w' := by
  have HB0 : Hid (RBox b ([]) w) := hB
  clear hB
  go_enter Try.func41, Try.ntmps41
  go_wp2_with (first | (refine alloc35 rfl rfl ?_; intro w0 ob hBo hko hlo hgo))
  have HT0 : Hid (But b w w0) := But.of hko
  have HR0 : Hid (RBox b ([]) w0) := HB0.out.keep hko
  have HO0 : Hid (CBox ob (EC noEnt) w0) := hBo
  have HOG : Hid (w.heap.size ≤ ob) := hgo
  have HOB : Hid (ob ≠ b) := fun e => by have := HB0.out.lt; omega
  clear hBo hko hlo hgo HB0
  refine (reader_none b w0 HR0.out).mono ?_
  rintro y v ⟨⟨u, pv, rfl⟩, _, hb⟩
  exact ⟨rfl, ⟨_, _, rfl⟩, HT0.out.trans hb⟩

set_option maxHeartbeats 2000000 in
theorem rd_no1 (b : Nat) (bk : UInt8) (w : World) (hB : RBox b (bk :: []) w) : Calls Try.prog 41 #[.pointer (some ⟨b, 0, none⟩)] w fun y w' => (∃ u pv, y = .panicked [{ v := .iface u pv, recovered := false }]) ∧ But b w w' := by
  have HB0 : Hid (RBox b (bk :: []) w) := hB
  clear hB
  have bk0 := i8_lo bk
  have bk1 := i8_hi bk
  go_enter Try.func41, Try.ntmps41
  go_wp2_with (first | (refine alloc35 rfl rfl ?_; intro w0 ob hBo hko hlo hgo))
  have HT0 : Hid (But b w w0) := But.of hko
  have HR0 : Hid (RBox b (bk :: []) w0) := HB0.out.keep hko
  have HO0 : Hid (CBox ob (EC noEnt) w0) := hBo
  have HOG : Hid (w.heap.size ≤ ob) := hgo
  have HOB : Hid (ob ≠ b) := fun e => by have := HB0.out.lt; omega
  clear hBo hko hlo hgo HB0
  refine (reader_some b bk ([]) w0 HR0.out).mono ?_
  rintro y w1 ⟨rfl, hR, hb⟩
  have HT1 : Hid (But b w w1) := HT0.out.trans hb
  have HR1 : Hid (RBox b ([]) w1) := hR
  have HO1 : Hid (CBox ob (EC noEnt) w1) := HO0.out.other hb HOB.out (Nat.le_of_ble_eq_true rfl)
  clear hR hb HT0 HR0 HO0
  go_wp2_with fail
  refine (readerW_none b w1 ([]) (by simp) HR1.out).mono ?_
  rintro y v ⟨⟨u, pv, rfl⟩, hb⟩
  exact ⟨rfl, ⟨_, _, rfl⟩, HT1.out.trans hb⟩

set_option maxHeartbeats 2000000 in
theorem rd_no2 (b : Nat) (bk bt1 : UInt8) (w : World) (hB : RBox b (bk :: bt1 :: []) w) : Calls Try.prog 41 #[.pointer (some ⟨b, 0, none⟩)] w fun y w' => (∃ u pv, y = .panicked [{ v := .iface u pv, recovered := false }]) ∧ But b w w' := by
  have HB0 : Hid (RBox b (bk :: bt1 :: []) w) := hB
  clear hB
  have bk0 := i8_lo bk
  have bk1 := i8_hi bk
  have bt10 := i8_lo bt1
  have bt11 := i8_hi bt1
  go_enter Try.func41, Try.ntmps41
  go_wp2_with (first | (refine alloc35 rfl rfl ?_; intro w0 ob hBo hko hlo hgo))
  have HT0 : Hid (But b w w0) := But.of hko
  have HR0 : Hid (RBox b (bk :: bt1 :: []) w0) := HB0.out.keep hko
  have HO0 : Hid (CBox ob (EC noEnt) w0) := hBo
  have HOG : Hid (w.heap.size ≤ ob) := hgo
  have HOB : Hid (ob ≠ b) := fun e => by have := HB0.out.lt; omega
  clear hBo hko hlo hgo HB0
  refine (reader_some b bk (bt1 :: []) w0 HR0.out).mono ?_
  rintro y w1 ⟨rfl, hR, hb⟩
  have HT1 : Hid (But b w w1) := HT0.out.trans hb
  have HR1 : Hid (RBox b (bt1 :: []) w1) := hR
  have HO1 : Hid (CBox ob (EC noEnt) w1) := HO0.out.other hb HOB.out (Nat.le_of_ble_eq_true rfl)
  clear hR hb HT0 HR0 HO0
  go_wp2_with fail
  refine (readerW_none b w1 (bt1 :: []) (by simp) HR1.out).mono ?_
  rintro y v ⟨⟨u, pv, rfl⟩, hb⟩
  exact ⟨rfl, ⟨_, _, rfl⟩, HT1.out.trans hb⟩

set_option maxHeartbeats 2000000 in
theorem rd_no3 (b : Nat) (bk bt1 bt0 : UInt8) (w : World) (hB : RBox b (bk :: bt1 :: bt0 :: []) w) : Calls Try.prog 41 #[.pointer (some ⟨b, 0, none⟩)] w fun y w' => (∃ u pv, y = .panicked [{ v := .iface u pv, recovered := false }]) ∧ But b w w' := by
  have HB0 : Hid (RBox b (bk :: bt1 :: bt0 :: []) w) := hB
  clear hB
  have bk0 := i8_lo bk
  have bk1 := i8_hi bk
  have bt10 := i8_lo bt1
  have bt11 := i8_hi bt1
  have bt00 := i8_lo bt0
  have bt01 := i8_hi bt0
  go_enter Try.func41, Try.ntmps41
  go_wp2_with (first | (refine alloc35 rfl rfl ?_; intro w0 ob hBo hko hlo hgo))
  have HT0 : Hid (But b w w0) := But.of hko
  have HR0 : Hid (RBox b (bk :: bt1 :: bt0 :: []) w0) := HB0.out.keep hko
  have HO0 : Hid (CBox ob (EC noEnt) w0) := hBo
  have HOG : Hid (w.heap.size ≤ ob) := hgo
  have HOB : Hid (ob ≠ b) := fun e => by have := HB0.out.lt; omega
  clear hBo hko hlo hgo HB0
  refine (reader_some b bk (bt1 :: bt0 :: []) w0 HR0.out).mono ?_
  rintro y w1 ⟨rfl, hR, hb⟩
  have HT1 : Hid (But b w w1) := HT0.out.trans hb
  have HR1 : Hid (RBox b (bt1 :: bt0 :: []) w1) := hR
  have HO1 : Hid (CBox ob (EC noEnt) w1) := HO0.out.other hb HOB.out (Nat.le_of_ble_eq_true rfl)
  clear hR hb HT0 HR0 HO0
  go_wp2_with fail
  refine (readerW_some b bt1 bt0 ([]) w1 HR1.out).mono ?_
  rintro y w2 ⟨rfl, hR, hb⟩
  have HT2 : Hid (But b w w2) := HT1.out.trans hb
  have HR2 : Hid (RBox b ([]) w2) := hR
  have HO2 : Hid (CBox ob (EC noEnt) w2) := HO1.out.other hb HOB.out (Nat.le_of_ble_eq_true rfl)
  clear hR hb HT1 HR1 HO1
  go_wp2_with fail
  refine (reader_none b w2 HR2.out).mono ?_
  rintro y v ⟨⟨u, pv, rfl⟩, _, hb⟩
  exact ⟨rfl, ⟨_, _, rfl⟩, HT2.out.trans hb⟩

set_option maxHeartbeats 2000000 in
theorem rd_no4 (b : Nat) (bk bt1 bt0 bc : UInt8) (w : World) (hB : RBox b (bk :: bt1 :: bt0 :: bc :: []) w) (hk : (i8 bk == 2) = true) : Calls Try.prog 41 #[.pointer (some ⟨b, 0, none⟩)] w fun y w' => (∃ u pv, y = .panicked [{ v := .iface u pv, recovered := false }]) ∧ But b w w' := by
  have HB0 : Hid (RBox b (bk :: bt1 :: bt0 :: bc :: []) w) := hB
  clear hB
  have bk0 := i8_lo bk
  have bk1 := i8_hi bk
  have bt10 := i8_lo bt1
  have bt11 := i8_hi bt1
  have bt00 := i8_lo bt0
  have bt01 := i8_hi bt0
  have bc0 := i8_lo bc
  have bc1 := i8_hi bc
  go_enter Try.func41, Try.ntmps41
  go_wp2_with (first | (refine alloc35 rfl rfl ?_; intro w0 ob hBo hko hlo hgo))
  have HT0 : Hid (But b w w0) := But.of hko
  have HR0 : Hid (RBox b (bk :: bt1 :: bt0 :: bc :: []) w0) := HB0.out.keep hko
  have HO0 : Hid (CBox ob (EC noEnt) w0) := hBo
  have HOG : Hid (w.heap.size ≤ ob) := hgo
  have HOB : Hid (ob ≠ b) := fun e => by have := HB0.out.lt; omega
  clear hBo hko hlo hgo HB0
  refine (reader_some b bk (bt1 :: bt0 :: bc :: []) w0 HR0.out).mono ?_
  rintro y w1 ⟨rfl, hR, hb⟩
  have HT1 : Hid (But b w w1) := HT0.out.trans hb
  have HR1 : Hid (RBox b (bt1 :: bt0 :: bc :: []) w1) := hR
  have HO1 : Hid (CBox ob (EC noEnt) w1) := HO0.out.other hb HOB.out (Nat.le_of_ble_eq_true rfl)
  clear hR hb HT0 HR0 HO0
  go_wp2_with fail
  refine (readerW_some b bt1 bt0 (bc :: []) w1 HR1.out).mono ?_
  rintro y w2 ⟨rfl, hR, hb⟩
  have HT2 : Hid (But b w w2) := HT1.out.trans hb
  have HR2 : Hid (RBox b (bc :: []) w2) := hR
  have HO2 : Hid (CBox ob (EC noEnt) w2) := HO1.out.other hb HOB.out (Nat.le_of_ble_eq_true rfl)
  clear hR hb HT1 HR1 HO1
  go_wp2_with fail
  refine (reader_some b bc ([]) w2 HR2.out).mono ?_
  rintro y w3 ⟨rfl, hR, hb⟩
  have HT3 : Hid (But b w w3) := HT2.out.trans hb
  have HR3 : Hid (RBox b ([]) w3) := hR
  have HO3 : Hid (CBox ob (EC noEnt) w3) := HO2.out.other hb HOB.out (Nat.le_of_ble_eq_true rfl)
  clear hR hb HT2 HR2 HO2
  have hsz := HR3.out.lt
  go_wp2_with (first | (refine alloc35 rfl rfl ?_; intro va eb hBe hke hle hge) | (refine store35 rfl rfl eb rfl (⟨i8 bk, i8 bt1 * 256 + i8 bt0, i8 bc, 0, 0, 0, 0, 0, 0⟩) rfl hBe ?_; intro vb hSb hTb; have hc0 : vb.cell? ⟨eb, 0, none⟩ = some (.int .i64 (i8 bk)) := hSb.1 0 _ rfl))
  have kk : Keeps w3 vb := But.to hke hge hTb
  have HT4 : Hid (But b w vb) := HT3.out.trans (But.of kk)
  have HR4 : Hid (RBox b ([]) vb) := HR3.out.keep kk
  have HO4 : Hid (CBox ob (EC noEnt) vb) := HO3.out.keep kk (Nat.le_of_ble_eq_true rfl)
  have HE4 : Hid (CBox eb (EC ⟨i8 bk, i8 bt1 * 256 + i8 bt0, i8 bc, 0, 0, 0, 0, 0, 0⟩) vb) := hSb
  have HEG : Hid (w.heap.size ≤ eb) := Nat.le_trans HT3.out.size hge
  have HEB : Hid (eb ≠ b) := fun e => by omega
  have HEO : Hid (ob ≠ eb) := fun e => by have := HO3.out.lt (Nat.le_of_ble_eq_true rfl); omega
  clear kk hBe hke hle hge hSb hTb hc0 hsz HT3 HR3 HO3
  generalize vb = w4 at *
  refine (reader_none b w4 HR4.out).mono ?_
  rintro y v ⟨⟨u, pv, rfl⟩, _, hb⟩
  exact ⟨rfl, ⟨_, _, rfl⟩, HT4.out.trans hb⟩

set_option maxHeartbeats 2000000 in
theorem rd_no5 (b : Nat) (bk bt1 bt0 bc bs : UInt8) (w : World) (hB : RBox b (bk :: bt1 :: bt0 :: bc :: bs :: []) w) (hk : (i8 bk == 2) = true) : Calls Try.prog 41 #[.pointer (some ⟨b, 0, none⟩)] w fun y w' => (∃ u pv, y = .panicked [{ v := .iface u pv, recovered := false }]) ∧ But b w w' := by
  have HB0 : Hid (RBox b (bk :: bt1 :: bt0 :: bc :: bs :: []) w) := hB
  clear hB
  have bk0 := i8_lo bk
  have bk1 := i8_hi bk
  have bt10 := i8_lo bt1
  have bt11 := i8_hi bt1
  have bt00 := i8_lo bt0
  have bt01 := i8_hi bt0
  have bc0 := i8_lo bc
  have bc1 := i8_hi bc
  have bs0 := i8_lo bs
  have bs1 := i8_hi bs
  go_enter Try.func41, Try.ntmps41
  go_wp2_with (first | (refine alloc35 rfl rfl ?_; intro w0 ob hBo hko hlo hgo))
  have HT0 : Hid (But b w w0) := But.of hko
  have HR0 : Hid (RBox b (bk :: bt1 :: bt0 :: bc :: bs :: []) w0) := HB0.out.keep hko
  have HO0 : Hid (CBox ob (EC noEnt) w0) := hBo
  have HOG : Hid (w.heap.size ≤ ob) := hgo
  have HOB : Hid (ob ≠ b) := fun e => by have := HB0.out.lt; omega
  clear hBo hko hlo hgo HB0
  refine (reader_some b bk (bt1 :: bt0 :: bc :: bs :: []) w0 HR0.out).mono ?_
  rintro y w1 ⟨rfl, hR, hb⟩
  have HT1 : Hid (But b w w1) := HT0.out.trans hb
  have HR1 : Hid (RBox b (bt1 :: bt0 :: bc :: bs :: []) w1) := hR
  have HO1 : Hid (CBox ob (EC noEnt) w1) := HO0.out.other hb HOB.out (Nat.le_of_ble_eq_true rfl)
  clear hR hb HT0 HR0 HO0
  go_wp2_with fail
  refine (readerW_some b bt1 bt0 (bc :: bs :: []) w1 HR1.out).mono ?_
  rintro y w2 ⟨rfl, hR, hb⟩
  have HT2 : Hid (But b w w2) := HT1.out.trans hb
  have HR2 : Hid (RBox b (bc :: bs :: []) w2) := hR
  have HO2 : Hid (CBox ob (EC noEnt) w2) := HO1.out.other hb HOB.out (Nat.le_of_ble_eq_true rfl)
  clear hR hb HT1 HR1 HO1
  go_wp2_with fail
  refine (reader_some b bc (bs :: []) w2 HR2.out).mono ?_
  rintro y w3 ⟨rfl, hR, hb⟩
  have HT3 : Hid (But b w w3) := HT2.out.trans hb
  have HR3 : Hid (RBox b (bs :: []) w3) := hR
  have HO3 : Hid (CBox ob (EC noEnt) w3) := HO2.out.other hb HOB.out (Nat.le_of_ble_eq_true rfl)
  clear hR hb HT2 HR2 HO2
  have hsz := HR3.out.lt
  go_wp2_with (first | (refine alloc35 rfl rfl ?_; intro va eb hBe hke hle hge) | (refine store35 rfl rfl eb rfl (⟨i8 bk, i8 bt1 * 256 + i8 bt0, i8 bc, 0, 0, 0, 0, 0, 0⟩) rfl hBe ?_; intro vb hSb hTb; have hc0 : vb.cell? ⟨eb, 0, none⟩ = some (.int .i64 (i8 bk)) := hSb.1 0 _ rfl))
  have kk : Keeps w3 vb := But.to hke hge hTb
  have HT4 : Hid (But b w vb) := HT3.out.trans (But.of kk)
  have HR4 : Hid (RBox b (bs :: []) vb) := HR3.out.keep kk
  have HO4 : Hid (CBox ob (EC noEnt) vb) := HO3.out.keep kk (Nat.le_of_ble_eq_true rfl)
  have HE4 : Hid (CBox eb (EC ⟨i8 bk, i8 bt1 * 256 + i8 bt0, i8 bc, 0, 0, 0, 0, 0, 0⟩) vb) := hSb
  have HEG : Hid (w.heap.size ≤ eb) := Nat.le_trans HT3.out.size hge
  have HEB : Hid (eb ≠ b) := fun e => by omega
  have HEO : Hid (ob ≠ eb) := fun e => by have := HO3.out.lt (Nat.le_of_ble_eq_true rfl); omega
  clear kk hBe hke hle hge hSb hTb hc0 hsz HT3 HR3 HO3
  generalize vb = w4 at *
  refine (reader_some b bs ([]) w4 HR4.out).mono ?_
  rintro y w5 ⟨rfl, hR, hb⟩
  have HT5 : Hid (But b w w5) := HT4.out.trans hb
  have HR5 : Hid (RBox b ([]) w5) := hR
  have HO5 : Hid (CBox ob (EC noEnt) w5) := HO4.out.other hb HOB.out (Nat.le_of_ble_eq_true rfl)
  have HE5 : Hid (CBox eb (EC ⟨i8 bk, i8 bt1 * 256 + i8 bt0, i8 bc, 0, 0, 0, 0, 0, 0⟩) w5) := HE4.out.other hb HEB.out (Nat.le_of_ble_eq_true rfl)
  clear hR hb HT4 HR4 HO4 HE4
  go_wp2_with fail
  refine (reader_none b w5 HR5.out).mono ?_
  rintro y v ⟨⟨u, pv, rfl⟩, _, hb⟩
  exact ⟨rfl, ⟨_, _, rfl⟩, HT5.out.trans hb⟩

set_option maxHeartbeats 2000000 in
theorem rd_no6 (b : Nat) (bk bt1 bt0 bc bs ba : UInt8) (w : World) (hB : RBox b (bk :: bt1 :: bt0 :: bc :: bs :: ba :: []) w) (hk : (i8 bk == 2) = true) : Calls Try.prog 41 #[.pointer (some ⟨b, 0, none⟩)] w fun y w' => (∃ u pv, y = .panicked [{ v := .iface u pv, recovered := false }]) ∧ But b w w' := by
  have HB0 : Hid (RBox b (bk :: bt1 :: bt0 :: bc :: bs :: ba :: []) w) := hB
  clear hB
  have bk0 := i8_lo bk
  have bk1 := i8_hi bk
  have bt10 := i8_lo bt1
  have bt11 := i8_hi bt1
  have bt00 := i8_lo bt0
  have bt01 := i8_hi bt0
  have bc0 := i8_lo bc
  have bc1 := i8_hi bc
  have bs0 := i8_lo bs
  have bs1 := i8_hi bs
  have ba0 := i8_lo ba
  have ba1 := i8_hi ba
  go_enter Try.func41, Try.ntmps41
  go_wp2_with (first | (refine alloc35 rfl rfl ?_; intro w0 ob hBo hko hlo hgo))
  have HT0 : Hid (But b w w0) := But.of hko
  have HR0 : Hid (RBox b (bk :: bt1 :: bt0 :: bc :: bs :: ba :: []) w0) := HB0.out.keep hko
  have HO0 : Hid (CBox ob (EC noEnt) w0) := hBo
  have HOG : Hid (w.heap.size ≤ ob) := hgo
  have HOB : Hid (ob ≠ b) := fun e => by have := HB0.out.lt; omega
  clear hBo hko hlo hgo HB0
  refine (reader_some b bk (bt1 :: bt0 :: bc :: bs :: ba :: []) w0 HR0.out).mono ?_
  rintro y w1 ⟨rfl, hR, hb⟩
  have HT1 : Hid (But b w w1) := HT0.out.trans hb
  have HR1 : Hid (RBox b (bt1 :: bt0 :: bc :: bs :: ba :: []) w1) := hR
  have HO1 : Hid (CBox ob (EC noEnt) w1) := HO0.out.other hb HOB.out (Nat.le_of_ble_eq_true rfl)
  clear hR hb HT0 HR0 HO0
  go_wp2_with fail
  refine (readerW_some b bt1 bt0 (bc :: bs :: ba :: []) w1 HR1.out).mono ?_
  rintro y w2 ⟨rfl, hR, hb⟩
  have HT2 : Hid (But b w w2) := HT1.out.trans hb
  have HR2 : Hid (RBox b (bc :: bs :: ba :: []) w2) := hR
  have HO2 : Hid (CBox ob (EC noEnt) w2) := HO1.out.other hb HOB.out (Nat.le_of_ble_eq_true rfl)
  clear hR hb HT1 HR1 HO1
  go_wp2_with fail
  refine (reader_some b bc (bs :: ba :: []) w2 HR2.out).mono ?_
  rintro y w3 ⟨rfl, hR, hb⟩
  have HT3 : Hid (But b w w3) := HT2.out.trans hb
  have HR3 : Hid (RBox b (bs :: ba :: []) w3) := hR
  have HO3 : Hid (CBox ob (EC noEnt) w3) := HO2.out.other hb HOB.out (Nat.le_of_ble_eq_true rfl)
  clear hR hb HT2 HR2 HO2
  have hsz := HR3.out.lt
  go_wp2_with (first | (refine alloc35 rfl rfl ?_; intro va eb hBe hke hle hge) | (refine store35 rfl rfl eb rfl (⟨i8 bk, i8 bt1 * 256 + i8 bt0, i8 bc, 0, 0, 0, 0, 0, 0⟩) rfl hBe ?_; intro vb hSb hTb; have hc0 : vb.cell? ⟨eb, 0, none⟩ = some (.int .i64 (i8 bk)) := hSb.1 0 _ rfl))
  have kk : Keeps w3 vb := But.to hke hge hTb
  have HT4 : Hid (But b w vb) := HT3.out.trans (But.of kk)
  have HR4 : Hid (RBox b (bs :: ba :: []) vb) := HR3.out.keep kk
  have HO4 : Hid (CBox ob (EC noEnt) vb) := HO3.out.keep kk (Nat.le_of_ble_eq_true rfl)
  have HE4 : Hid (CBox eb (EC ⟨i8 bk, i8 bt1 * 256 + i8 bt0, i8 bc, 0, 0, 0, 0, 0, 0⟩) vb) := hSb
  have HEG : Hid (w.heap.size ≤ eb) := Nat.le_trans HT3.out.size hge
  have HEB : Hid (eb ≠ b) := fun e => by omega
  have HEO : Hid (ob ≠ eb) := fun e => by have := HO3.out.lt (Nat.le_of_ble_eq_true rfl); omega
  clear kk hBe hke hle hge hSb hTb hc0 hsz HT3 HR3 HO3
  generalize vb = w4 at *
  refine (reader_some b bs (ba :: []) w4 HR4.out).mono ?_
  rintro y w5 ⟨rfl, hR, hb⟩
  have HT5 : Hid (But b w w5) := HT4.out.trans hb
  have HR5 : Hid (RBox b (ba :: []) w5) := hR
  have HO5 : Hid (CBox ob (EC noEnt) w5) := HO4.out.other hb HOB.out (Nat.le_of_ble_eq_true rfl)
  have HE5 : Hid (CBox eb (EC ⟨i8 bk, i8 bt1 * 256 + i8 bt0, i8 bc, 0, 0, 0, 0, 0, 0⟩) w5) := HE4.out.other hb HEB.out (Nat.le_of_ble_eq_true rfl)
  clear hR hb HT4 HR4 HO4 HE4
  go_wp2_with fail
  refine (reader_some b ba ([]) w5 HR5.out).mono ?_
  rintro y w6 ⟨rfl, hR, hb⟩
  have HT6 : Hid (But b w w6) := HT5.out.trans hb
  have HR6 : Hid (RBox b ([]) w6) := hR
  have HO6 : Hid (CBox ob (EC noEnt) w6) := HO5.out.other hb HOB.out (Nat.le_of_ble_eq_true rfl)
  have HE6 : Hid (CBox eb (EC ⟨i8 bk, i8 bt1 * 256 + i8 bt0, i8 bc, 0, 0, 0, 0, 0, 0⟩) w6) := HE5.out.other hb HEB.out (Nat.le_of_ble_eq_true rfl)
  clear hR hb HT5 HR5 HO5 HE5
  go_wp2_with (first | (have _h := hSa; refine store_one rfl rfl eb 4 rfl rfl (EC ⟨i8 bk, i8 bt1 * 256 + i8 bt0, i8 bc, i8 bs, i8 ba, 0, 0, 0, 0⟩) hSa (Nat.le_of_ble_eq_true rfl) rfl ?_; intro vb hSb hTb) | (refine store_one rfl rfl eb 3 rfl rfl (EC ⟨i8 bk, i8 bt1 * 256 + i8 bt0, i8 bc, i8 bs, 0, 0, 0, 0, 0⟩) HE6.out (Nat.le_of_ble_eq_true rfl) rfl ?_; intro va hSa hTa))
  have HT7 : Hid (But b w vb) := But.far (But.far HT6.out HEG.out hTa) HEG.out hTb
  have HR7 : Hid (RBox b ([]) vb) := (HR6.out.other hTa (fun e => HEB.out e.symm)).other hTb (fun e => HEB.out e.symm)
  have HO7 : Hid (CBox ob (EC noEnt) vb) := (HO6.out.other hTa HEO.out (Nat.le_of_ble_eq_true rfl)).other hTb HEO.out (Nat.le_of_ble_eq_true rfl)
  have HE7 : Hid (CBox eb (EC ⟨i8 bk, i8 bt1 * 256 + i8 bt0, i8 bc, i8 bs, i8 ba, 0, 0, 0, 0⟩) vb) := hSb
  clear hSa hTa hSb hTb HT6 HR6 HO6 HE6
  generalize vb = w7 at *
  refine (reader_none b w7 HR7.out).mono ?_
  rintro y v ⟨⟨u, pv, rfl⟩, _, hb⟩
  exact ⟨rfl, ⟨_, _, rfl⟩, HT7.out.trans hb⟩

set_option maxHeartbeats 2000000 in
theorem rd_no7 (b : Nat) (bk bt1 bt0 bc bs ba bo : UInt8) (w : World) (hB : RBox b (bk :: bt1 :: bt0 :: bc :: bs :: ba :: bo :: []) w) (hk : (i8 bk == 2) = true) : Calls Try.prog 41 #[.pointer (some ⟨b, 0, none⟩)] w fun y w' => (∃ u pv, y = .panicked [{ v := .iface u pv, recovered := false }]) ∧ But b w w' := by
  have HB0 : Hid (RBox b (bk :: bt1 :: bt0 :: bc :: bs :: ba :: bo :: []) w) := hB
  clear hB
  have bk0 := i8_lo bk
  have bk1 := i8_hi bk
  have bt10 := i8_lo bt1
  have bt11 := i8_hi bt1
  have bt00 := i8_lo bt0
  have bt01 := i8_hi bt0
  have bc0 := i8_lo bc
  have bc1 := i8_hi bc
  have bs0 := i8_lo bs
  have bs1 := i8_hi bs
  have ba0 := i8_lo ba
  have ba1 := i8_hi ba
  have bo0 := i8_lo bo
  have bo1 := i8_hi bo
  go_enter Try.func41, Try.ntmps41
  go_wp2_with (first | (refine alloc35 rfl rfl ?_; intro w0 ob hBo hko hlo hgo))
  have HT0 : Hid (But b w w0) := But.of hko
  have HR0 : Hid (RBox b (bk :: bt1 :: bt0 :: bc :: bs :: ba :: bo :: []) w0) := HB0.out.keep hko
  have HO0 : Hid (CBox ob (EC noEnt) w0) := hBo
  have HOG : Hid (w.heap.size ≤ ob) := hgo
  have HOB : Hid (ob ≠ b) := fun e => by have := HB0.out.lt; omega
  clear hBo hko hlo hgo HB0
  refine (reader_some b bk (bt1 :: bt0 :: bc :: bs :: ba :: bo :: []) w0 HR0.out).mono ?_
  rintro y w1 ⟨rfl, hR, hb⟩
  have HT1 : Hid (But b w w1) := HT0.out.trans hb
  have HR1 : Hid (RBox b (bt1 :: bt0 :: bc :: bs :: ba :: bo :: []) w1) := hR
  have HO1 : Hid (CBox ob (EC noEnt) w1) := HO0.out.other hb HOB.out (Nat.le_of_ble_eq_true rfl)
  clear hR hb HT0 HR0 HO0
  go_wp2_with fail
  refine (readerW_some b bt1 bt0 (bc :: bs :: ba :: bo :: []) w1 HR1.out).mono ?_
  rintro y w2 ⟨rfl, hR, hb⟩
  have HT2 : Hid (But b w w2) := HT1.out.trans hb
  have HR2 : Hid (RBox b (bc :: bs :: ba :: bo :: []) w2) := hR
  have HO2 : Hid (CBox ob (EC noEnt) w2) := HO1.out.other hb HOB.out (Nat.le_of_ble_eq_true rfl)
  clear hR hb HT1 HR1 HO1
  go_wp2_with fail
  refine (reader_some b bc (bs :: ba :: bo :: []) w2 HR2.out).mono ?_
  rintro y w3 ⟨rfl, hR, hb⟩
  have HT3 : Hid (But b w w3) := HT2.out.trans hb
  have HR3 : Hid (RBox b (bs :: ba :: bo :: []) w3) := hR
  have HO3 : Hid (CBox ob (EC noEnt) w3) := HO2.out.other hb HOB.out (Nat.le_of_ble_eq_true rfl)
  clear hR hb HT2 HR2 HO2
  have hsz := HR3.out.lt
  go_wp2_with (first | (refine alloc35 rfl rfl ?_; intro va eb hBe hke hle hge) | (refine store35 rfl rfl eb rfl (⟨i8 bk, i8 bt1 * 256 + i8 bt0, i8 bc, 0, 0, 0, 0, 0, 0⟩) rfl hBe ?_; intro vb hSb hTb; have hc0 : vb.cell? ⟨eb, 0, none⟩ = some (.int .i64 (i8 bk)) := hSb.1 0 _ rfl))
  have kk : Keeps w3 vb := But.to hke hge hTb
  have HT4 : Hid (But b w vb) := HT3.out.trans (But.of kk)
  have HR4 : Hid (RBox b (bs :: ba :: bo :: []) vb) := HR3.out.keep kk
  have HO4 : Hid (CBox ob (EC noEnt) vb) := HO3.out.keep kk (Nat.le_of_ble_eq_true rfl)
  have HE4 : Hid (CBox eb (EC ⟨i8 bk, i8 bt1 * 256 + i8 bt0, i8 bc, 0, 0, 0, 0, 0, 0⟩) vb) := hSb
  have HEG : Hid (w.heap.size ≤ eb) := Nat.le_trans HT3.out.size hge
  have HEB : Hid (eb ≠ b) := fun e => by omega
  have HEO : Hid (ob ≠ eb) := fun e => by have := HO3.out.lt (Nat.le_of_ble_eq_true rfl); omega
  clear kk hBe hke hle hge hSb hTb hc0 hsz HT3 HR3 HO3
  generalize vb = w4 at *
  refine (reader_some b bs (ba :: bo :: []) w4 HR4.out).mono ?_
  rintro y w5 ⟨rfl, hR, hb⟩
  have HT5 : Hid (But b w w5) := HT4.out.trans hb
  have HR5 : Hid (RBox b (ba :: bo :: []) w5) := hR
  have HO5 : Hid (CBox ob (EC noEnt) w5) := HO4.out.other hb HOB.out (Nat.le_of_ble_eq_true rfl)
  have HE5 : Hid (CBox eb (EC ⟨i8 bk, i8 bt1 * 256 + i8 bt0, i8 bc, 0, 0, 0, 0, 0, 0⟩) w5) := HE4.out.other hb HEB.out (Nat.le_of_ble_eq_true rfl)
  clear hR hb HT4 HR4 HO4 HE4
  go_wp2_with fail
  refine (reader_some b ba (bo :: []) w5 HR5.out).mono ?_
  rintro y w6 ⟨rfl, hR, hb⟩
  have HT6 : Hid (But b w w6) := HT5.out.trans hb
  have HR6 : Hid (RBox b (bo :: []) w6) := hR
  have HO6 : Hid (CBox ob (EC noEnt) w6) := HO5.out.other hb HOB.out (Nat.le_of_ble_eq_true rfl)
  have HE6 : Hid (CBox eb (EC ⟨i8 bk, i8 bt1 * 256 + i8 bt0, i8 bc, 0, 0, 0, 0, 0, 0⟩) w6) := HE5.out.other hb HEB.out (Nat.le_of_ble_eq_true rfl)
  clear hR hb HT5 HR5 HO5 HE5
  go_wp2_with (first | (have _h := hSa; refine store_one rfl rfl eb 4 rfl rfl (EC ⟨i8 bk, i8 bt1 * 256 + i8 bt0, i8 bc, i8 bs, i8 ba, 0, 0, 0, 0⟩) hSa (Nat.le_of_ble_eq_true rfl) rfl ?_; intro vb hSb hTb) | (refine store_one rfl rfl eb 3 rfl rfl (EC ⟨i8 bk, i8 bt1 * 256 + i8 bt0, i8 bc, i8 bs, 0, 0, 0, 0, 0⟩) HE6.out (Nat.le_of_ble_eq_true rfl) rfl ?_; intro va hSa hTa))
  have HT7 : Hid (But b w vb) := But.far (But.far HT6.out HEG.out hTa) HEG.out hTb
  have HR7 : Hid (RBox b (bo :: []) vb) := (HR6.out.other hTa (fun e => HEB.out e.symm)).other hTb (fun e => HEB.out e.symm)
  have HO7 : Hid (CBox ob (EC noEnt) vb) := (HO6.out.other hTa HEO.out (Nat.le_of_ble_eq_true rfl)).other hTb HEO.out (Nat.le_of_ble_eq_true rfl)
  have HE7 : Hid (CBox eb (EC ⟨i8 bk, i8 bt1 * 256 + i8 bt0, i8 bc, i8 bs, i8 ba, 0, 0, 0, 0⟩) vb) := hSb
  clear hSa hTa hSb hTb HT6 HR6 HO6 HE6
  generalize vb = w7 at *
  refine (reader_some b bo ([]) w7 HR7.out).mono ?_
  rintro y w8 ⟨rfl, hR, hb⟩
  have HT8 : Hid (But b w w8) := HT7.out.trans hb
  have HR8 : Hid (RBox b ([]) w8) := hR
  have HO8 : Hid (CBox ob (EC noEnt) w8) := HO7.out.other hb HOB.out (Nat.le_of_ble_eq_true rfl)
  have HE8 : Hid (CBox eb (EC ⟨i8 bk, i8 bt1 * 256 + i8 bt0, i8 bc, i8 bs, i8 ba, 0, 0, 0, 0⟩) w8) := HE7.out.other hb HEB.out (Nat.le_of_ble_eq_true rfl)
  clear hR hb HT7 HR7 HO7 HE7
  go_wp2_with fail
  refine (reader_none b w8 HR8.out).mono ?_
  rintro y v ⟨⟨u, pv, rfl⟩, _, hb⟩
  exact ⟨rfl, ⟨_, _, rfl⟩, HT8.out.trans hb⟩

set_option maxHeartbeats 2000000 in
theorem rd_no8 (b : Nat) (bk bt1 bt0 bc bs ba bo bp : UInt8) (w : World) (hB : RBox b (bk :: bt1 :: bt0 :: bc :: bs :: ba :: bo :: bp :: []) w) (hk : (i8 bk == 2) = true) : Calls Try.prog 41 #[.pointer (some ⟨b, 0, none⟩)] w fun y w' => (∃ u pv, y = .panicked [{ v := .iface u pv, recovered := false }]) ∧ But b w w' := by
  have HB0 : Hid (RBox b (bk :: bt1 :: bt0 :: bc :: bs :: ba :: bo :: bp :: []) w) := hB
  clear hB
  have bk0 := i8_lo bk
  have bk1 := i8_hi bk
  have bt10 := i8_lo bt1
  have bt11 := i8_hi bt1
  have bt00 := i8_lo bt0
  have bt01 := i8_hi bt0
  have bc0 := i8_lo bc
  have bc1 := i8_hi bc
  have bs0 := i8_lo bs
  have bs1 := i8_hi bs
  have ba0 := i8_lo ba
  have ba1 := i8_hi ba
  have bo0 := i8_lo bo
  have bo1 := i8_hi bo
  have bp0 := i8_lo bp
  have bp1 := i8_hi bp
  go_enter Try.func41, Try.ntmps41
  go_wp2_with (first | (refine alloc35 rfl rfl ?_; intro w0 ob hBo hko hlo hgo))
  have HT0 : Hid (But b w w0) := But.of hko
  have HR0 : Hid (RBox b (bk :: bt1 :: bt0 :: bc :: bs :: ba :: bo :: bp :: []) w0) := HB0.out.keep hko
  have HO0 : Hid (CBox ob (EC noEnt) w0) := hBo
  have HOG : Hid (w.heap.size ≤ ob) := hgo
  have HOB : Hid (ob ≠ b) := fun e => by have := HB0.out.lt; omega
  clear hBo hko hlo hgo HB0
  refine (reader_some b bk (bt1 :: bt0 :: bc :: bs :: ba :: bo :: bp :: []) w0 HR0.out).mono ?_
  rintro y w1 ⟨rfl, hR, hb⟩
  have HT1 : Hid (But b w w1) := HT0.out.trans hb
  have HR1 : Hid (RBox b (bt1 :: bt0 :: bc :: bs :: ba :: bo :: bp :: []) w1) := hR
  have HO1 : Hid (CBox ob (EC noEnt) w1) := HO0.out.other hb HOB.out (Nat.le_of_ble_eq_true rfl)
  clear hR hb HT0 HR0 HO0
  go_wp2_with fail
  refine (readerW_some b bt1 bt0 (bc :: bs :: ba :: bo :: bp :: []) w1 HR1.out).mono ?_
  rintro y w2 ⟨rfl, hR, hb⟩
  have HT2 : Hid (But b w w2) := HT1.out.trans hb
  have HR2 : Hid (RBox b (bc :: bs :: ba :: bo :: bp :: []) w2) := hR
  have HO2 : Hid (CBox ob (EC noEnt) w2) := HO1.out.other hb HOB.out (Nat.le_of_ble_eq_true rfl)
  clear hR hb HT1 HR1 HO1
  go_wp2_with fail
  refine (reader_some b bc (bs :: ba :: bo :: bp :: []) w2 HR2.out).mono ?_
  rintro y w3 ⟨rfl, hR, hb⟩
  have HT3 : Hid (But b w w3) := HT2.out.trans hb
  have HR3 : Hid (RBox b (bs :: ba :: bo :: bp :: []) w3) := hR
  have HO3 : Hid (CBox ob (EC noEnt) w3) := HO2.out.other hb HOB.out (Nat.le_of_ble_eq_true rfl)
  clear hR hb HT2 HR2 HO2
  have hsz := HR3.out.lt
  go_wp2_with (first | (refine alloc35 rfl rfl ?_; intro va eb hBe hke hle hge) | (refine store35 rfl rfl eb rfl (⟨i8 bk, i8 bt1 * 256 + i8 bt0, i8 bc, 0, 0, 0, 0, 0, 0⟩) rfl hBe ?_; intro vb hSb hTb; have hc0 : vb.cell? ⟨eb, 0, none⟩ = some (.int .i64 (i8 bk)) := hSb.1 0 _ rfl))
  have kk : Keeps w3 vb := But.to hke hge hTb
  have HT4 : Hid (But b w vb) := HT3.out.trans (But.of kk)
  have HR4 : Hid (RBox b (bs :: ba :: bo :: bp :: []) vb) := HR3.out.keep kk
  have HO4 : Hid (CBox ob (EC noEnt) vb) := HO3.out.keep kk (Nat.le_of_ble_eq_true rfl)
  have HE4 : Hid (CBox eb (EC ⟨i8 bk, i8 bt1 * 256 + i8 bt0, i8 bc, 0, 0, 0, 0, 0, 0⟩) vb) := hSb
  have HEG : Hid (w.heap.size ≤ eb) := Nat.le_trans HT3.out.size hge
  have HEB : Hid (eb ≠ b) := fun e => by omega
  have HEO : Hid (ob ≠ eb) := fun e => by have := HO3.out.lt (Nat.le_of_ble_eq_true rfl); omega
  clear kk hBe hke hle hge hSb hTb hc0 hsz HT3 HR3 HO3
  generalize vb = w4 at *
  refine (reader_some b bs (ba :: bo :: bp :: []) w4 HR4.out).mono ?_
  rintro y w5 ⟨rfl, hR, hb⟩
  have HT5 : Hid (But b w w5) := HT4.out.trans hb
  have HR5 : Hid (RBox b (ba :: bo :: bp :: []) w5) := hR
  have HO5 : Hid (CBox ob (EC noEnt) w5) := HO4.out.other hb HOB.out (Nat.le_of_ble_eq_true rfl)
  have HE5 : Hid (CBox eb (EC ⟨i8 bk, i8 bt1 * 256 + i8 bt0, i8 bc, 0, 0, 0, 0, 0, 0⟩) w5) := HE4.out.other hb HEB.out (Nat.le_of_ble_eq_true rfl)
  clear hR hb HT4 HR4 HO4 HE4
  go_wp2_with fail
  refine (reader_some b ba (bo :: bp :: []) w5 HR5.out).mono ?_
  rintro y w6 ⟨rfl, hR, hb⟩
  have HT6 : Hid (But b w w6) := HT5.out.trans hb
  have HR6 : Hid (RBox b (bo :: bp :: []) w6) := hR
  have HO6 : Hid (CBox ob (EC noEnt) w6) := HO5.out.other hb HOB.out (Nat.le_of_ble_eq_true rfl)
  have HE6 : Hid (CBox eb (EC ⟨i8 bk, i8 bt1 * 256 + i8 bt0, i8 bc, 0, 0, 0, 0, 0, 0⟩) w6) := HE5.out.other hb HEB.out (Nat.le_of_ble_eq_true rfl)
  clear hR hb HT5 HR5 HO5 HE5
  go_wp2_with (first | (have _h := hSa; refine store_one rfl rfl eb 4 rfl rfl (EC ⟨i8 bk, i8 bt1 * 256 + i8 bt0, i8 bc, i8 bs, i8 ba, 0, 0, 0, 0⟩) hSa (Nat.le_of_ble_eq_true rfl) rfl ?_; intro vb hSb hTb) | (refine store_one rfl rfl eb 3 rfl rfl (EC ⟨i8 bk, i8 bt1 * 256 + i8 bt0, i8 bc, i8 bs, 0, 0, 0, 0, 0⟩) HE6.out (Nat.le_of_ble_eq_true rfl) rfl ?_; intro va hSa hTa))
  have HT7 : Hid (But b w vb) := But.far (But.far HT6.out HEG.out hTa) HEG.out hTb
  have HR7 : Hid (RBox b (bo :: bp :: []) vb) := (HR6.out.other hTa (fun e => HEB.out e.symm)).other hTb (fun e => HEB.out e.symm)
  have HO7 : Hid (CBox ob (EC noEnt) vb) := (HO6.out.other hTa HEO.out (Nat.le_of_ble_eq_true rfl)).other hTb HEO.out (Nat.le_of_ble_eq_true rfl)
  have HE7 : Hid (CBox eb (EC ⟨i8 bk, i8 bt1 * 256 + i8 bt0, i8 bc, i8 bs, i8 ba, 0, 0, 0, 0⟩) vb) := hSb
  clear hSa hTa hSb hTb HT6 HR6 HO6 HE6
  generalize vb = w7 at *
  refine (reader_some b bo (bp :: []) w7 HR7.out).mono ?_
  rintro y w8 ⟨rfl, hR, hb⟩
  have HT8 : Hid (But b w w8) := HT7.out.trans hb
  have HR8 : Hid (RBox b (bp :: []) w8) := hR
  have HO8 : Hid (CBox ob (EC noEnt) w8) := HO7.out.other hb HOB.out (Nat.le_of_ble_eq_true rfl)
  have HE8 : Hid (CBox eb (EC ⟨i8 bk, i8 bt1 * 256 + i8 bt0, i8 bc, i8 bs, i8 ba, 0, 0, 0, 0⟩) w8) := HE7.out.other hb HEB.out (Nat.le_of_ble_eq_true rfl)
  clear hR hb HT7 HR7 HO7 HE7
  go_wp2_with fail
  refine (reader_some b bp ([]) w8 HR8.out).mono ?_
  rintro y w9 ⟨rfl, hR, hb⟩
  have HT9 : Hid (But b w w9) := HT8.out.trans hb
  have HR9 : Hid (RBox b ([]) w9) := hR
  have HO9 : Hid (CBox ob (EC noEnt) w9) := HO8.out.other hb HOB.out (Nat.le_of_ble_eq_true rfl)
  have HE9 : Hid (CBox eb (EC ⟨i8 bk, i8 bt1 * 256 + i8 bt0, i8 bc, i8 bs, i8 ba, 0, 0, 0, 0⟩) w9) := HE8.out.other hb HEB.out (Nat.le_of_ble_eq_true rfl)
  clear hR hb HT8 HR8 HO8 HE8
  go_wp2_with fail
  refine (reader_none b w9 HR9.out).mono ?_
  rintro y v ⟨⟨u, pv, rfl⟩, _, hb⟩
  exact ⟨rfl, ⟨_, _, rfl⟩, HT9.out.trans hb⟩

set_option maxHeartbeats 2000000 in
theorem rd_no9 (b : Nat) (bk bt1 bt0 bc bs ba bo bp bz : UInt8) (w : World) (hB : RBox b (bk :: bt1 :: bt0 :: bc :: bs :: ba :: bo :: bp :: bz :: []) w) (hk : (i8 bk == 2) = true) : Calls Try.prog 41 #[.pointer (some ⟨b, 0, none⟩)] w fun y w' => (∃ u pv, y = .panicked [{ v := .iface u pv, recovered := false }]) ∧ But b w w' := by
  have HB0 : Hid (RBox b (bk :: bt1 :: bt0 :: bc :: bs :: ba :: bo :: bp :: bz :: []) w) := hB
  clear hB
  have bk0 := i8_lo bk
  have bk1 := i8_hi bk
  have bt10 := i8_lo bt1
  have bt11 := i8_hi bt1
  have bt00 := i8_lo bt0
  have bt01 := i8_hi bt0
  have bc0 := i8_lo bc
  have bc1 := i8_hi bc
  have bs0 := i8_lo bs
  have bs1 := i8_hi bs
  have ba0 := i8_lo ba
  have ba1 := i8_hi ba
  have bo0 := i8_lo bo
  have bo1 := i8_hi bo
  have bp0 := i8_lo bp
  have bp1 := i8_hi bp
  have bz0 := i8_lo bz
  have bz1 := i8_hi bz
  go_enter Try.func41, Try.ntmps41
  go_wp2_with (first | (refine alloc35 rfl rfl ?_; intro w0 ob hBo hko hlo hgo))
  have HT0 : Hid (But b w w0) := But.of hko
  have HR0 : Hid (RBox b (bk :: bt1 :: bt0 :: bc :: bs :: ba :: bo :: bp :: bz :: []) w0) := HB0.out.keep hko
  have HO0 : Hid (CBox ob (EC noEnt) w0) := hBo
  have HOG : Hid (w.heap.size ≤ ob) := hgo
  have HOB : Hid (ob ≠ b) := fun e => by have := HB0.out.lt; omega
  clear hBo hko hlo hgo HB0
  refine (reader_some b bk (bt1 :: bt0 :: bc :: bs :: ba :: bo :: bp :: bz :: []) w0 HR0.out).mono ?_
  rintro y w1 ⟨rfl, hR, hb⟩
  have HT1 : Hid (But b w w1) := HT0.out.trans hb
  have HR1 : Hid (RBox b (bt1 :: bt0 :: bc :: bs :: ba :: bo :: bp :: bz :: []) w1) := hR
  have HO1 : Hid (CBox ob (EC noEnt) w1) := HO0.out.other hb HOB.out (Nat.le_of_ble_eq_true rfl)
  clear hR hb HT0 HR0 HO0
  go_wp2_with fail
  refine (readerW_some b bt1 bt0 (bc :: bs :: ba :: bo :: bp :: bz :: []) w1 HR1.out).mono ?_
  rintro y w2 ⟨rfl, hR, hb⟩
  have HT2 : Hid (But b w w2) := HT1.out.trans hb
  have HR2 : Hid (RBox b (bc :: bs :: ba :: bo :: bp :: bz :: []) w2) := hR
  have HO2 : Hid (CBox ob (EC noEnt) w2) := HO1.out.other hb HOB.out (Nat.le_of_ble_eq_true rfl)
  clear hR hb HT1 HR1 HO1
  go_wp2_with fail
  refine (reader_some b bc (bs :: ba :: bo :: bp :: bz :: []) w2 HR2.out).mono ?_
  rintro y w3 ⟨rfl, hR, hb⟩
  have HT3 : Hid (But b w w3) := HT2.out.trans hb
  have HR3 : Hid (RBox b (bs :: ba :: bo :: bp :: bz :: []) w3) := hR
  have HO3 : Hid (CBox ob (EC noEnt) w3) := HO2.out.other hb HOB.out (Nat.le_of_ble_eq_true rfl)
  clear hR hb HT2 HR2 HO2
  have hsz := HR3.out.lt
  go_wp2_with (first | (refine alloc35 rfl rfl ?_; intro va eb hBe hke hle hge) | (refine store35 rfl rfl eb rfl (⟨i8 bk, i8 bt1 * 256 + i8 bt0, i8 bc, 0, 0, 0, 0, 0, 0⟩) rfl hBe ?_; intro vb hSb hTb; have hc0 : vb.cell? ⟨eb, 0, none⟩ = some (.int .i64 (i8 bk)) := hSb.1 0 _ rfl))
  have kk : Keeps w3 vb := But.to hke hge hTb
  have HT4 : Hid (But b w vb) := HT3.out.trans (But.of kk)
  have HR4 : Hid (RBox b (bs :: ba :: bo :: bp :: bz :: []) vb) := HR3.out.keep kk
  have HO4 : Hid (CBox ob (EC noEnt) vb) := HO3.out.keep kk (Nat.le_of_ble_eq_true rfl)
  have HE4 : Hid (CBox eb (EC ⟨i8 bk, i8 bt1 * 256 + i8 bt0, i8 bc, 0, 0, 0, 0, 0, 0⟩) vb) := hSb
  have HEG : Hid (w.heap.size ≤ eb) := Nat.le_trans HT3.out.size hge
  have HEB : Hid (eb ≠ b) := fun e => by omega
  have HEO : Hid (ob ≠ eb) := fun e => by have := HO3.out.lt (Nat.le_of_ble_eq_true rfl); omega
  clear kk hBe hke hle hge hSb hTb hc0 hsz HT3 HR3 HO3
  generalize vb = w4 at *
  refine (reader_some b bs (ba :: bo :: bp :: bz :: []) w4 HR4.out).mono ?_
  rintro y w5 ⟨rfl, hR, hb⟩
  have HT5 : Hid (But b w w5) := HT4.out.trans hb
  have HR5 : Hid (RBox b (ba :: bo :: bp :: bz :: []) w5) := hR
  have HO5 : Hid (CBox ob (EC noEnt) w5) := HO4.out.other hb HOB.out (Nat.le_of_ble_eq_true rfl)
  have HE5 : Hid (CBox eb (EC ⟨i8 bk, i8 bt1 * 256 + i8 bt0, i8 bc, 0, 0, 0, 0, 0, 0⟩) w5) := HE4.out.other hb HEB.out (Nat.le_of_ble_eq_true rfl)
  clear hR hb HT4 HR4 HO4 HE4
  go_wp2_with fail
  refine (reader_some b ba (bo :: bp :: bz :: []) w5 HR5.out).mono ?_
  rintro y w6 ⟨rfl, hR, hb⟩
  have HT6 : Hid (But b w w6) := HT5.out.trans hb
  have HR6 : Hid (RBox b (bo :: bp :: bz :: []) w6) := hR
  have HO6 : Hid (CBox ob (EC noEnt) w6) := HO5.out.other hb HOB.out (Nat.le_of_ble_eq_true rfl)
  have HE6 : Hid (CBox eb (EC ⟨i8 bk, i8 bt1 * 256 + i8 bt0, i8 bc, 0, 0, 0, 0, 0, 0⟩) w6) := HE5.out.other hb HEB.out (Nat.le_of_ble_eq_true rfl)
  clear hR hb HT5 HR5 HO5 HE5
  go_wp2_with (first | (have _h := hSa; refine store_one rfl rfl eb 4 rfl rfl (EC ⟨i8 bk, i8 bt1 * 256 + i8 bt0, i8 bc, i8 bs, i8 ba, 0, 0, 0, 0⟩) hSa (Nat.le_of_ble_eq_true rfl) rfl ?_; intro vb hSb hTb) | (refine store_one rfl rfl eb 3 rfl rfl (EC ⟨i8 bk, i8 bt1 * 256 + i8 bt0, i8 bc, i8 bs, 0, 0, 0, 0, 0⟩) HE6.out (Nat.le_of_ble_eq_true rfl) rfl ?_; intro va hSa hTa))
  have HT7 : Hid (But b w vb) := But.far (But.far HT6.out HEG.out hTa) HEG.out hTb
  have HR7 : Hid (RBox b (bo :: bp :: bz :: []) vb) := (HR6.out.other hTa (fun e => HEB.out e.symm)).other hTb (fun e => HEB.out e.symm)
  have HO7 : Hid (CBox ob (EC noEnt) vb) := (HO6.out.other hTa HEO.out (Nat.le_of_ble_eq_true rfl)).other hTb HEO.out (Nat.le_of_ble_eq_true rfl)
  have HE7 : Hid (CBox eb (EC ⟨i8 bk, i8 bt1 * 256 + i8 bt0, i8 bc, i8 bs, i8 ba, 0, 0, 0, 0⟩) vb) := hSb
  clear hSa hTa hSb hTb HT6 HR6 HO6 HE6
  generalize vb = w7 at *
  refine (reader_some b bo (bp :: bz :: []) w7 HR7.out).mono ?_
  rintro y w8 ⟨rfl, hR, hb⟩
  have HT8 : Hid (But b w w8) := HT7.out.trans hb
  have HR8 : Hid (RBox b (bp :: bz :: []) w8) := hR
  have HO8 : Hid (CBox ob (EC noEnt) w8) := HO7.out.other hb HOB.out (Nat.le_of_ble_eq_true rfl)
  have HE8 : Hid (CBox eb (EC ⟨i8 bk, i8 bt1 * 256 + i8 bt0, i8 bc, i8 bs, i8 ba, 0, 0, 0, 0⟩) w8) := HE7.out.other hb HEB.out (Nat.le_of_ble_eq_true rfl)
  clear hR hb HT7 HR7 HO7 HE7
  go_wp2_with fail
  refine (reader_some b bp (bz :: []) w8 HR8.out).mono ?_
  rintro y w9 ⟨rfl, hR, hb⟩
  have HT9 : Hid (But b w w9) := HT8.out.trans hb
  have HR9 : Hid (RBox b (bz :: []) w9) := hR
  have HO9 : Hid (CBox ob (EC noEnt) w9) := HO8.out.other hb HOB.out (Nat.le_of_ble_eq_true rfl)
  have HE9 : Hid (CBox eb (EC ⟨i8 bk, i8 bt1 * 256 + i8 bt0, i8 bc, i8 bs, i8 ba, 0, 0, 0, 0⟩) w9) := HE8.out.other hb HEB.out (Nat.le_of_ble_eq_true rfl)
  clear hR hb HT8 HR8 HO8 HE8
  go_wp2_with fail
  refine (reader_some b bz ([]) w9 HR9.out).mono ?_
  rintro y w10 ⟨rfl, hR, hb⟩
  have HT10 : Hid (But b w w10) := HT9.out.trans hb
  have HR10 : Hid (RBox b ([]) w10) := hR
  have HO10 : Hid (CBox ob (EC noEnt) w10) := HO9.out.other hb HOB.out (Nat.le_of_ble_eq_true rfl)
  have HE10 : Hid (CBox eb (EC ⟨i8 bk, i8 bt1 * 256 + i8 bt0, i8 bc, i8 bs, i8 ba, 0, 0, 0, 0⟩) w10) := HE9.out.other hb HEB.out (Nat.le_of_ble_eq_true rfl)
  clear hR hb HT9 HR9 HO9 HE9
  go_wp2_with fail
  refine (readerW_none b w10 ([]) (by simp) HR10.out).mono ?_
  rintro y v ⟨⟨u, pv, rfl⟩, hb⟩
  exact ⟨rfl, ⟨_, _, rfl⟩, HT10.out.trans hb⟩

set_option maxHeartbeats 2000000 in
theorem rd_no10 (b : Nat) (bk bt1 bt0 bc bs ba bo bp bz bn1 : UInt8) (w : World) (hB : RBox b (bk :: bt1 :: bt0 :: bc :: bs :: ba :: bo :: bp :: bz :: bn1 :: []) w) (hk : (i8 bk == 2) = true) : Calls Try.prog 41 #[.pointer (some ⟨b, 0, none⟩)] w fun y w' => (∃ u pv, y = .panicked [{ v := .iface u pv, recovered := false }]) ∧ But b w w' := by
  have HB0 : Hid (RBox b (bk :: bt1 :: bt0 :: bc :: bs :: ba :: bo :: bp :: bz :: bn1 :: []) w) := hB
  clear hB
  have bk0 := i8_lo bk
  have bk1 := i8_hi bk
  have bt10 := i8_lo bt1
  have bt11 := i8_hi bt1
  have bt00 := i8_lo bt0
  have bt01 := i8_hi bt0
  have bc0 := i8_lo bc
  have bc1 := i8_hi bc
  have bs0 := i8_lo bs
  have bs1 := i8_hi bs
  have ba0 := i8_lo ba
  have ba1 := i8_hi ba
  have bo0 := i8_lo bo
  have bo1 := i8_hi bo
  have bp0 := i8_lo bp
  have bp1 := i8_hi bp
  have bz0 := i8_lo bz
  have bz1 := i8_hi bz
  have bn10 := i8_lo bn1
  have bn11 := i8_hi bn1
  go_enter Try.func41, Try.ntmps41
  go_wp2_with (first | (refine alloc35 rfl rfl ?_; intro w0 ob hBo hko hlo hgo))
  have HT0 : Hid (But b w w0) := But.of hko
  have HR0 : Hid (RBox b (bk :: bt1 :: bt0 :: bc :: bs :: ba :: bo :: bp :: bz :: bn1 :: []) w0) := HB0.out.keep hko
  have HO0 : Hid (CBox ob (EC noEnt) w0) := hBo
  have HOG : Hid (w.heap.size ≤ ob) := hgo
  have HOB : Hid (ob ≠ b) := fun e => by have := HB0.out.lt; omega
  clear hBo hko hlo hgo HB0
  refine (reader_some b bk (bt1 :: bt0 :: bc :: bs :: ba :: bo :: bp :: bz :: bn1 :: []) w0 HR0.out).mono ?_
  rintro y w1 ⟨rfl, hR, hb⟩
  have HT1 : Hid (But b w w1) := HT0.out.trans hb
  have HR1 : Hid (RBox b (bt1 :: bt0 :: bc :: bs :: ba :: bo :: bp :: bz :: bn1 :: []) w1) := hR
  have HO1 : Hid (CBox ob (EC noEnt) w1) := HO0.out.other hb HOB.out (Nat.le_of_ble_eq_true rfl)
  clear hR hb HT0 HR0 HO0
  go_wp2_with fail
  refine (readerW_some b bt1 bt0 (bc :: bs :: ba :: bo :: bp :: bz :: bn1 :: []) w1 HR1.out).mono ?_
  rintro y w2 ⟨rfl, hR, hb⟩
  have HT2 : Hid (But b w w2) := HT1.out.trans hb
  have HR2 : Hid (RBox b (bc :: bs :: ba :: bo :: bp :: bz :: bn1 :: []) w2) := hR
  have HO2 : Hid (CBox ob (EC noEnt) w2) := HO1.out.other hb HOB.out (Nat.le_of_ble_eq_true rfl)
  clear hR hb HT1 HR1 HO1
  go_wp2_with fail
  refine (reader_some b bc (bs :: ba :: bo :: bp :: bz :: bn1 :: []) w2 HR2.out).mono ?_
  rintro y w3 ⟨rfl, hR, hb⟩
  have HT3 : Hid (But b w w3) := HT2.out.trans hb
  have HR3 : Hid (RBox b (bs :: ba :: bo :: bp :: bz :: bn1 :: []) w3) := hR
  have HO3 : Hid (CBox ob (EC noEnt) w3) := HO2.out.other hb HOB.out (Nat.le_of_ble_eq_true rfl)
  clear hR hb HT2 HR2 HO2
  have hsz := HR3.out.lt
  go_wp2_with (first | (refine alloc35 rfl rfl ?_; intro va eb hBe hke hle hge) | (refine store35 rfl rfl eb rfl (⟨i8 bk, i8 bt1 * 256 + i8 bt0, i8 bc, 0, 0, 0, 0, 0, 0⟩) rfl hBe ?_; intro vb hSb hTb; have hc0 : vb.cell? ⟨eb, 0, none⟩ = some (.int .i64 (i8 bk)) := hSb.1 0 _ rfl))
  have kk : Keeps w3 vb := But.to hke hge hTb
  have HT4 : Hid (But b w vb) := HT3.out.trans (But.of kk)
  have HR4 : Hid (RBox b (bs :: ba :: bo :: bp :: bz :: bn1 :: []) vb) := HR3.out.keep kk
  have HO4 : Hid (CBox ob (EC noEnt) vb) := HO3.out.keep kk (Nat.le_of_ble_eq_true rfl)
  have HE4 : Hid (CBox eb (EC ⟨i8 bk, i8 bt1 * 256 + i8 bt0, i8 bc, 0, 0, 0, 0, 0, 0⟩) vb) := hSb
  have HEG : Hid (w.heap.size ≤ eb) := Nat.le_trans HT3.out.size hge
  have HEB : Hid (eb ≠ b) := fun e => by omega
  have HEO : Hid (ob ≠ eb) := fun e => by have := HO3.out.lt (Nat.le_of_ble_eq_true rfl); omega
  clear kk hBe hke hle hge hSb hTb hc0 hsz HT3 HR3 HO3
  generalize vb = w4 at *
  refine (reader_some b bs (ba :: bo :: bp :: bz :: bn1 :: []) w4 HR4.out).mono ?_
  rintro y w5 ⟨rfl, hR, hb⟩
  have HT5 : Hid (But b w w5) := HT4.out.trans hb
  have HR5 : Hid (RBox b (ba :: bo :: bp :: bz :: bn1 :: []) w5) := hR
  have HO5 : Hid (CBox ob (EC noEnt) w5) := HO4.out.other hb HOB.out (Nat.le_of_ble_eq_true rfl)
  have HE5 : Hid (CBox eb (EC ⟨i8 bk, i8 bt1 * 256 + i8 bt0, i8 bc, 0, 0, 0, 0, 0, 0⟩) w5) := HE4.out.other hb HEB.out (Nat.le_of_ble_eq_true rfl)
  clear hR hb HT4 HR4 HO4 HE4
  go_wp2_with fail
  refine (reader_some b ba (bo :: bp :: bz :: bn1 :: []) w5 HR5.out).mono ?_
  rintro y w6 ⟨rfl, hR, hb⟩
  have HT6 : Hid (But b w w6) := HT5.out.trans hb
  have HR6 : Hid (RBox b (bo :: bp :: bz :: bn1 :: []) w6) := hR
  have HO6 : Hid (CBox ob (EC noEnt) w6) := HO5.out.other hb HOB.out (Nat.le_of_ble_eq_true rfl)
  have HE6 : Hid (CBox eb (EC ⟨i8 bk, i8 bt1 * 256 + i8 bt0, i8 bc, 0, 0, 0, 0, 0, 0⟩) w6) := HE5.out.other hb HEB.out (Nat.le_of_ble_eq_true rfl)
  clear hR hb HT5 HR5 HO5 HE5
  go_wp2_with (first | (have _h := hSa; refine store_one rfl rfl eb 4 rfl rfl (EC ⟨i8 bk, i8 bt1 * 256 + i8 bt0, i8 bc, i8 bs, i8 ba, 0, 0, 0, 0⟩) hSa (Nat.le_of_ble_eq_true rfl) rfl ?_; intro vb hSb hTb) | (refine store_one rfl rfl eb 3 rfl rfl (EC ⟨i8 bk, i8 bt1 * 256 + i8 bt0, i8 bc, i8 bs, 0, 0, 0, 0, 0⟩) HE6.out (Nat.le_of_ble_eq_true rfl) rfl ?_; intro va hSa hTa))
  have HT7 : Hid (But b w vb) := But.far (But.far HT6.out HEG.out hTa) HEG.out hTb
  have HR7 : Hid (RBox b (bo :: bp :: bz :: bn1 :: []) vb) := (HR6.out.other hTa (fun e => HEB.out e.symm)).other hTb (fun e => HEB.out e.symm)
  have HO7 : Hid (CBox ob (EC noEnt) vb) := (HO6.out.other hTa HEO.out (Nat.le_of_ble_eq_true rfl)).other hTb HEO.out (Nat.le_of_ble_eq_true rfl)
  have HE7 : Hid (CBox eb (EC ⟨i8 bk, i8 bt1 * 256 + i8 bt0, i8 bc, i8 bs, i8 ba, 0, 0, 0, 0⟩) vb) := hSb
  clear hSa hTa hSb hTb HT6 HR6 HO6 HE6
  generalize vb = w7 at *
  refine (reader_some b bo (bp :: bz :: bn1 :: []) w7 HR7.out).mono ?_
  rintro y w8 ⟨rfl, hR, hb⟩
  have HT8 : Hid (But b w w8) := HT7.out.trans hb
  have HR8 : Hid (RBox b (bp :: bz :: bn1 :: []) w8) := hR
  have HO8 : Hid (CBox ob (EC noEnt) w8) := HO7.out.other hb HOB.out (Nat.le_of_ble_eq_true rfl)
  have HE8 : Hid (CBox eb (EC ⟨i8 bk, i8 bt1 * 256 + i8 bt0, i8 bc, i8 bs, i8 ba, 0, 0, 0, 0⟩) w8) := HE7.out.other hb HEB.out (Nat.le_of_ble_eq_true rfl)
  clear hR hb HT7 HR7 HO7 HE7
  go_wp2_with fail
  refine (reader_some b bp (bz :: bn1 :: []) w8 HR8.out).mono ?_
  rintro y w9 ⟨rfl, hR, hb⟩
  have HT9 : Hid (But b w w9) := HT8.out.trans hb
  have HR9 : Hid (RBox b (bz :: bn1 :: []) w9) := hR
  have HO9 : Hid (CBox ob (EC noEnt) w9) := HO8.out.other hb HOB.out (Nat.le_of_ble_eq_true rfl)
  have HE9 : Hid (CBox eb (EC ⟨i8 bk, i8 bt1 * 256 + i8 bt0, i8 bc, i8 bs, i8 ba, 0, 0, 0, 0⟩) w9) := HE8.out.other hb HEB.out (Nat.le_of_ble_eq_true rfl)
  clear hR hb HT8 HR8 HO8 HE8
  go_wp2_with fail
  refine (reader_some b bz (bn1 :: []) w9 HR9.out).mono ?_
  rintro y w10 ⟨rfl, hR, hb⟩
  have HT10 : Hid (But b w w10) := HT9.out.trans hb
  have HR10 : Hid (RBox b (bn1 :: []) w10) := hR
  have HO10 : Hid (CBox ob (EC noEnt) w10) := HO9.out.other hb HOB.out (Nat.le_of_ble_eq_true rfl)
  have HE10 : Hid (CBox eb (EC ⟨i8 bk, i8 bt1 * 256 + i8 bt0, i8 bc, i8 bs, i8 ba, 0, 0, 0, 0⟩) w10) := HE9.out.other hb HEB.out (Nat.le_of_ble_eq_true rfl)
  clear hR hb HT9 HR9 HO9 HE9
  go_wp2_with fail
  refine (readerW_none b w10 (bn1 :: []) (by simp) HR10.out).mono ?_
  rintro y v ⟨⟨u, pv, rfl⟩, hb⟩
  exact ⟨rfl, ⟨_, _, rfl⟩, HT10.out.trans hb⟩

theorem read_none (b : Nat) : ∀ (l : List UInt8), readE l = none → ∀ w, RBox b l w → Calls Try.prog 41 #[.pointer (some ⟨b, 0, none⟩)] w fun y w' => (∃ u pv, y = .panicked [{ v := .iface u pv, recovered := false }]) ∧ But b w w'
  | [], _, w, hB => rd_no0 b w hB
  | [bk], _, w, hB => rd_no1 b bk w hB
  | [bk, bt1], _, w, hB => rd_no2 b bk bt1 w hB
  | [bk, bt1, bt0], _, w, hB => rd_no3 b bk bt1 bt0 w hB
  | bk :: bt1 :: bt0 :: bc :: r, h, w, hB => by
    simp only [readE] at h
    cases hk : (i8 bk == 2) with
    | false => rw [hk] at h; cases h
    | true =>
      rw [hk] at h
      simp only [if_true] at h
      match r, h, hB with
      | [], _, hB => exact rd_no4 b bk bt1 bt0 bc w hB hk
      | [bs], _, hB => exact rd_no5 b bk bt1 bt0 bc bs w hB hk
      | [bs, ba], _, hB => exact rd_no6 b bk bt1 bt0 bc bs ba w hB hk
      | [bs, ba, bo], _, hB => exact rd_no7 b bk bt1 bt0 bc bs ba bo w hB hk
      | [bs, ba, bo, by_], _, hB => exact rd_no8 b bk bt1 bt0 bc bs ba bo by_ w hB hk
      | [bs, ba, bo, by_, bz], _, hB => exact rd_no9 b bk bt1 bt0 bc bs ba bo by_ bz w hB hk
      | [bs, ba, bo, by_, bz, bn1], _, hB => exact rd_no10 b bk bt1 bt0 bc bs ba bo by_ bz bn1 w hB hk
      | _ :: _ :: _ :: _ :: _ :: _ :: _ :: _, h, _ => cases h
theorem read_some (b : Nat) : ∀ (l : List UInt8) (e : Ent) (n : Nat), readE l = some (e, n) → ∀ w, RBox b l w → Calls Try.prog 41 #[.pointer (some ⟨b, 0, none⟩)] w fun y w' => y = .returned (entV e) ∧ RBox b (l.drop n) w' ∧ But b w w'
  | [], _, _, h, _, _ => by cases h
  | [_], _, _, h, _, _ => by cases h
  | [_, _], _, _, h, _, _ => by cases h
  | [_, _, _], _, _, h, _, _ => by cases h
  | bk :: bt1 :: bt0 :: bc :: r, e, n, h, w, hB => by
    simp only [readE] at h
    cases hk : (i8 bk == 2) with
    | false =>
      rw [hk] at h
      simp only [Bool.false_eq_true, if_false, Option.some.injEq, Prod.mk.injEq] at h
      obtain ⟨rfl, rfl⟩ := h
      exact rd_other b bk bt1 bt0 bc r w hB hk
    | true =>
      rw [hk] at h
      simp only [if_true] at h
      match r, h, hB with
      | bs :: ba :: bo :: by_ :: bz :: bn1 :: bn0 :: r', h, hB =>
        simp only [readRest, Option.some.injEq, Prod.mk.injEq] at h
        obtain ⟨rfl, rfl⟩ := h
        exact rd_call b bk bt1 bt0 bc bs ba bo by_ bz bn1 bn0 r' w hB hk
end Go.Proofs.Yteabfjpajgakiaf

/- group.Check. -/
set_option linter.unusedSimpArgs false
set_option linter.unusedVariables false
set_option maxRecDepth 10000
namespace Go.Proofs.Yteabfjpajgakiaf
open Go.RowKit

end Go.Proofs.Yteabfjpajgakiaf

/- twin.Group, enter. -/
set_option linter.unusedSimpArgs false
set_option linter.unusedVariables false
set_option maxRecDepth 10000
namespace Go.Proofs.Yteabfjpajgakiaf
open Go.RowKit

end Go.Proofs.Yteabfjpajgakiaf

/- pack.Put. -/
set_option linter.unusedSimpArgs false
set_option linter.unusedVariables false
set_option maxRecDepth 10000
namespace Go.Proofs.Yteabfjpajgakiaf
open Go.RowKit

end Go.Proofs.Yteabfjpajgakiaf
