/- GrPc, GrU. -/
import Derived.Test.YteabfjpajgakiafGreatJ20
import Derived.Test.YteabfjpajgakiafGreatJ21
import Derived.Test.YteabfjpajgakiafGreatJ22
import Derived.Test.YteabfjpajgakiafGreatJ25
/- The reference's GroupCut. -/
set_option linter.unusedSimpArgs false
set_option linter.unusedVariables false
set_option maxRecDepth 10000
namespace Go.Proofs.YteabfjpajgakiafGreat
open Go.RowKit

set_option maxHeartbeats 4000000 in
theorem group_cut_of (g : Grp) (A : Ad) (n : Int) (w : World) (hG : GrAt w g A) : Calls Tryz.prog 14 #[.agg (GL g A).toArray, .int .i64 n] w fun y w' => ∃ B, GrRd w' (cgG g n) B ∧ y = .returned (.tuple #[.agg (GL (cgG g n) B).toArray, .int .i64 (cgErr g n)]) ∧ Keeps w w' := by
  have HG : Hid (GrAt w g A) := hG
  clear hG
  have HGE : Hid (∀ W, Keeps w W → Calls Tryz.prog 9 #[.agg (GL g A).toArray] W fun e w' => e = .returned (.int .i64 (grErr g)) ∧ Keeps W w') := fun W hk => group_error g A W (HG.out.keep hk)
  cases q : (grErr g == 0) with
  | false =>
    have q' : (grErr g != 0) = true := by simp [bne, q]
    have e0 : cgErr g n = grErr g := by unfold cgErr; rw [q]; rfl
    have hne : (cgErr g n == 0) = false := by rw [e0]; exact q
    have e1 : cgG g n = zeroGrp := by unfold cgG; rw [hne]; rfl
    rw [e0, e1]
    clear HG hne e0 e1
    generalize grErr g = er at *
    go_enter Tryz.func14, Tryz.ntmps14
    go_wp2_with (first | (refine box31 rfl rfl rfl ?_; intro w1 bb hBbb hkbb hlbb hgbb) | (refine alloc31 rfl rfl ?_; intro w3 r hBr hkr hlr hgr) | (refine load31 rfl rfl bb rfl (hBbb.keep hkr (by rw [GL_len]; decide)) ?_))
    have hk3 : Keeps w w3 := hkbb.trans hkr
    refine (HGE.out w3 hk3).mono ?_
    rintro y w4 ⟨rfl, hb⟩
    have HR4 : Hid (CBox r (GL zeroGrp zeroAd) w4) := hBr.keep hb (by rw [GL_len]; decide)
    have HRG : Hid (w.heap.size ≤ r) := Nat.le_trans hkbb.size hgr
    have HRL : Hid (r < w4.heap.size) := Nat.lt_of_lt_of_le hlr hb.size
    have HK4 : Hid (Keeps w w4) := hk3.trans hb
    have HBB : Hid (CBox bb (GL g A) w4) := (hBbb.keep hkr (by rw [GL_len]; decide)).keep hb (by rw [GL_len]; decide)
    clear hb hk3 hBbb hkbb hlbb hgbb hBr hkr hlr hgr HGE 
    go_wp2_with (first | (refine build31z rfl rfl ?_) | (refine store31 rfl rfl r rfl rfl HR4.out ?_; intro w5 hSw5 hTw5))
    refine bodyPost_ret (results2 Tryz.results14 rfl rfl (read31 hSw5)) rfl ?_
    exact ⟨zeroAd, (GrOwn.zero 0 _).at.rd, rfl, But.to HK4.out HRG.out hTw5⟩
  | true =>
    have q' : (grErr g != 0) = false := by simp [bne, q]
    have q0 : grErr g = 0 := by simpa using q
    rw [q0] at HGE
    have HOG : Hid (∀ W, Keeps w W → Calls Tryz.prog 18 #[.agg (GL g A).toArray] W fun e w' => ∃ B, GrOwn W.heap.size w' g B ∧ e = .returned (.agg (GL g B).toArray) ∧ Keeps W w') := fun W hk => own_group g A W (HG.out.keep hk) q0
    have HC : Hid (∀ W, Keeps w W → Calls Tryz.prog 33 #[logV g A, .int .i64 n] W fun y w' => ∃ qa qc ea ec, (OwnTab W.heap.size w' (.slice qa (cutLg g.log n).base.tab.length qc) (cutLg g.log n).base.tab ∧ w'.ownsRow W.heap.size 35 9 (.slice ea (cutLg g.log n).tail.length ec) (cutLg g.log n).tail.length (entCells (cutLg g.log n).tail)) ∧ y = .returned (.tuple #[lgV (cutLg g.log n) (.slice qa (cutLg g.log n).base.tab.length qc) (.slice ea (cutLg g.log n).tail.length ec), .int .i64 (cutErr g.log n)]) ∧ Keeps W w') := fun W hk => by
      have hg := HG.out.keep hk
      refine (cut_own g.log n _ A.ta A.tc W hg.base hg.tail hg.cap).mono ?_
      rintro y w' ⟨qa, qc, ea, ec, h1, h2, _, h4, h5⟩
      exact ⟨qa, qc, ea, ec, ⟨h1, h2⟩, h4, h5⟩
    cases q1 : (cutErr g.log n == 0) with
    | false =>
      have q1' : (cutErr g.log n != 0) = true := by simp [bne, q1]
      have e0 : cgErr g n = cutErr g.log n := by unfold cgErr; rw [q]; rfl
      have hne : (cgErr g n == 0) = false := by rw [e0]; exact q1
      have e1 : cgG g n = zeroGrp := by unfold cgG; rw [hne]; rfl
      rw [e0, e1]
      clear hne e0 e1
      generalize cutErr g.log n = er at *
      generalize cutLg g.log n = l' at *
      go_enter Tryz.func14, Tryz.ntmps14
      go_wp2_with (first | (refine box31 rfl rfl rfl ?_; intro w1 bb hBbb hkbb hlbb hgbb) | (refine alloc31 rfl rfl ?_; intro w3 r hBr hkr hlr hgr) | (refine load31 rfl rfl bb rfl (hBbb.keep hkr (by rw [GL_len]; decide)) ?_))
      have hk3 : Keeps w w3 := hkbb.trans hkr
      refine (HGE.out w3 hk3).mono ?_
      rintro y w4 ⟨rfl, hb⟩
      have HR4 : Hid (CBox r (GL zeroGrp zeroAd) w4) := hBr.keep hb (by rw [GL_len]; decide)
      have HRG : Hid (w.heap.size ≤ r) := Nat.le_trans hkbb.size hgr
      have HRL : Hid (r < w4.heap.size) := Nat.lt_of_lt_of_le hlr hb.size
      have HK4 : Hid (Keeps w w4) := hk3.trans hb
      have HBB : Hid (CBox bb (GL g A) w4) := (hBbb.keep hkr (by rw [GL_len]; decide)).keep hb (by rw [GL_len]; decide)
      clear hb hk3 hBbb hkbb hlbb hgbb hBr hkr hlr hgr HGE 
      go_wp2_with (first | (refine load28 rfl rfl bb rfl HBB.out ?_))
      refine (HC.out w4 HK4.out).mono ?_
      rintro y w5 ⟨qa, qc, ea, ec, ho, rfl, hb⟩
      have HR5 : Hid (CBox r (GL zeroGrp zeroAd) w5) := HR4.out.keep hb (by rw [GL_len]; decide)
      have HBB5 : Hid (CBox bb (GL g A) w5) := HBB.out.keep hb (by rw [GL_len]; decide)
      have HO5 : Hid (OwnTab w4.heap.size w5 (.slice qa l'.base.tab.length qc) l'.base.tab ∧ w5.ownsRow w4.heap.size 35 9 (.slice ea l'.tail.length ec) l'.tail.length (entCells l'.tail)) := ho
      have HK5 : Hid (Keeps w w5) := HK4.out.trans hb
      clear ho hb HR4 HBB HC
      go_wp2_with (first | (refine alloc28 rfl rfl ?_; intro w6 lb hBlb hklb hllb hglb) | (refine store28b rfl rfl lb rfl rfl hBlb ?_; intro w7 hSw7 hTw7) | (refine build31z rfl rfl ?_) | (refine store31 rfl rfl r rfl rfl (HR5.out.keep (But.to hklb hglb hTw7) (by rw [GL_len]; decide)) ?_; intro w8 hSw8 hTw8))
      refine bodyPost_ret (results2 Tryz.results14 rfl rfl (read31 hSw8)) rfl ?_
      exact ⟨zeroAd, (GrOwn.zero 0 _).at.rd, rfl, But.to (HK5.out.trans (But.to hklb hglb hTw7)) HRG.out hTw8⟩
    | true =>
      have q1' : (cutErr g.log n != 0) = false := by simp [bne, q1]
      have e0 : cgErr g n = cutErr g.log n := by unfold cgErr; rw [q]; rfl
      have q2 : cutErr g.log n = 0 := by simpa using q1
      have hne : (cgErr g n == 0) = true := by rw [e0]; exact q1
      have e1 : cgG g n = setLog g (cutLg g.log n) := by unfold cgG; rw [hne]; rfl
      rw [e0, e1, q2]
      clear hne e0 e1
      rw [q2] at HC
      generalize cutLg g.log n = l' at *
      go_enter Tryz.func14, Tryz.ntmps14
      go_wp2_with (first | (refine box31 rfl rfl rfl ?_; intro w1 bb hBbb hkbb hlbb hgbb) | (refine alloc31 rfl rfl ?_; intro w3 r hBr hkr hlr hgr) | (refine load31 rfl rfl bb rfl (hBbb.keep hkr (by rw [GL_len]; decide)) ?_))
      have hk3 : Keeps w w3 := hkbb.trans hkr
      refine (HGE.out w3 hk3).mono ?_
      rintro y w4 ⟨rfl, hb⟩
      have HR4 : Hid (CBox r (GL zeroGrp zeroAd) w4) := hBr.keep hb (by rw [GL_len]; decide)
      have HRG : Hid (w.heap.size ≤ r) := Nat.le_trans hkbb.size hgr
      have HRL : Hid (r < w4.heap.size) := Nat.lt_of_lt_of_le hlr hb.size
      have HK4 : Hid (Keeps w w4) := hk3.trans hb
      have HBB : Hid (CBox bb (GL g A) w4) := (hBbb.keep hkr (by rw [GL_len]; decide)).keep hb (by rw [GL_len]; decide)
      clear hb hk3 hBbb hkbb hlbb hgbb hBr hkr hlr hgr HGE 
      go_wp2_with (first | (refine load28 rfl rfl bb rfl HBB.out ?_))
      refine (HC.out w4 HK4.out).mono ?_
      rintro y w5 ⟨qa, qc, ea, ec, ho, rfl, hb⟩
      have HR5 : Hid (CBox r (GL zeroGrp zeroAd) w5) := HR4.out.keep hb (by rw [GL_len]; decide)
      have HBB5 : Hid (CBox bb (GL g A) w5) := HBB.out.keep hb (by rw [GL_len]; decide)
      have HO5 : Hid (OwnTab w4.heap.size w5 (.slice qa l'.base.tab.length qc) l'.base.tab ∧ w5.ownsRow w4.heap.size 35 9 (.slice ea l'.tail.length ec) l'.tail.length (entCells l'.tail)) := ho
      have HK5 : Hid (Keeps w w5) := HK4.out.trans hb
      clear ho hb HR4 HBB HC
      go_wp2_with (first | (refine alloc28 rfl rfl ?_; intro w6 lb hBlb hklb hllb hglb) | (refine store28b rfl rfl lb rfl rfl hBlb ?_; intro w7 hSw7 hTw7) | (refine load31 rfl rfl bb rfl (HBB5.out.keep (But.to hklb hglb hTw7) (by rw [GL_len]; decide)) ?_))
      have HK57 : Hid (Keeps w5 w7) := But.to hklb hglb hTw7
      have HK7 : Hid (Keeps w w7) := HK5.out.trans HK57.out
      have HL7 : Hid (CBox lb (LC l' (.slice qa l'.base.tab.length qc) (.slice ea l'.tail.length ec)) w7) := hSw7
      clear hBlb hklb hllb hglb hSw7 hTw7
      refine (HOG.out w7 HK7.out).mono ?_
      rintro y w8 ⟨B, ho, rfl, hb⟩
      have HK58 : Hid (Keeps w5 w8) := HK57.out.trans hb
      have HG8 : Hid (GrOwn w7.heap.size w8 g B) := ho
      have HL8 : Hid (CBox lb (LC l' (.slice qa l'.base.tab.length qc) (.slice ea l'.tail.length ec)) w8) := HL7.out.keep hb (Nat.le_of_ble_eq_true rfl)
      have HW78 : Hid (w7.heap.size ≤ w8.heap.size) := hb.size
      clear ho hb HL7
      go_wp2_with (first | (refine alloc31 rfl rfl ?_; intro w9 ob hBob hkob hlob hgob) | (refine store31 rfl rfl ob rfl rfl hBob ?_; intro w10 hSw10 hTw10) | (refine load28b rfl rfl lb rfl (HL8.out.keep (But.to hkob hgob hTw10) (Nat.le_of_ble_eq_true rfl)) ?_) | (refine store28 rfl rfl ob rfl rfl hSw10 ?_; intro w11 hSw11 hTw11) | (refine load31 rfl rfl ob rfl hSw11 ?_) | (refine store31 rfl rfl r rfl rfl ((HR5.out.keep HK58.out (by rw [GL_len]; decide)).keep (But.to (But.to hkob hgob hTw10) hgob hTw11) (by rw [GL_len]; decide)) ?_; intro w12 hSw12 hTw12))
      have HK810 : Hid (Keeps w8 w10) := But.to hkob hgob hTw10
      have HK811 : Hid (Keeps w8 w11) := But.to HK810.out hgob hTw11
      have HK511 : Hid (Keeps w5 w11) := HK58.out.trans HK811.out
      have hr7 : r < w7.heap.size := by have h1 := HRL.out; have h2 := HR5.out.lt (by rw [GL_len]; decide); have h3 := HK57.out.size; omega
      refine bodyPost_ret (results2 Tryz.results14 rfl rfl (read31 hSw12)) rfl ?_
      exact ⟨setLogA B qa qc ea ec, ⟨((HO5.out.1.keep HK511.out).but HRL.out hTw12).tab, RowAt.of_owns (owns_far (owns_keep HO5.out.2 HK511.out) HRL.out hTw12), ((HG8.out.t0.keep HK811.out).but hr7 hTw12).tab, ((HG8.out.t1.keep HK811.out).but hr7 hTw12).tab, ((HG8.out.t2.keep HK811.out).but hr7 hTw12).tab⟩, rfl, But.to (HK5.out.trans HK511.out) HRG.out hTw12⟩
end Go.Proofs.YteabfjpajgakiafGreat

/- GroupRuns: the walk. -/
set_option linter.unusedSimpArgs false
set_option linter.unusedVariables false
set_option maxRecDepth 10000
namespace Go.Proofs.YteabfjpajgakiafGreat
open Go.RowKit

set_option maxHeartbeats 4000000 in
theorem group_runs (g : Grp) (A : Ad) (i n : Int) (w : World) (hG : GrAt w g A) : Calls Tryz.prog 4 #[.agg (GL g A).toArray, .int .i64 i, .int .i64 n] w fun y w' => y = .returned (.bool true) ∧ Keeps w w' := by
  have HG : Hid (GrAt w g A) := hG
  clear hG
  have HC1 : Hid (∀ W, Keeps w W → Calls Tryz.prog 11 #[.agg (GL g A).toArray, .int .i64 i, .int .i64 n] W fun y w' => ∃ B, GrOwn W.heap.size w' (rgG g i n) B ∧ y = .returned (.tuple #[.agg (GL (rgG g i n) B).toArray, .int .i64 (rgNum g i n), .int .i64 (rgErr g i n)]) ∧ Keeps W w') := fun W hk => group_run g A i n W (HG.out.keep hk)
  have HC2 : Hid (∀ W, Keeps w W → Calls Tryz.prog 12 #[.agg (GL g A).toArray, .int .i64 n] W fun y w' => ∃ B, GrOwn W.heap.size w' (cgG g n) B ∧ y = .returned (.tuple #[.agg (GL (cgG g n) B).toArray, .int .i64 (cgErr g n)]) ∧ Keeps W w') := fun W hk => group_cut g A n W (HG.out.keep hk)
  have HC3 : Hid (∀ W, Keeps w W → Calls Tryz.prog 13 #[.agg (GL g A).toArray, .int .i64 i, .int .i64 n] W fun y w' => ∃ B, GrRd w' (rgG g i n) B ∧ y = .returned (.tuple #[.agg (GL (rgG g i n) B).toArray, .int .i64 (rgNum g i n), .int .i64 (rgErr g i n)]) ∧ Keeps W w') := fun W hk => group_run_of g A i n W (HG.out.keep hk)
  have HC4 : Hid (∀ W, Keeps w W → Calls Tryz.prog 14 #[.agg (GL g A).toArray, .int .i64 n] W fun y w' => ∃ B, GrRd w' (cgG g n) B ∧ y = .returned (.tuple #[.agg (GL (cgG g n) B).toArray, .int .i64 (cgErr g n)]) ∧ Keeps W w') := fun W hk => group_cut_of g A n W (HG.out.keep hk)
  generalize rgG g i n = GR at *
  generalize cgG g n = GC_ at *
  generalize rgNum g i n = nu at *
  generalize rgErr g i n = er at *
  generalize cgErr g n = ce at *
  go_enter Tryz.func4, Tryz.ntmps4
  go_wp2_with (first | (refine box31 rfl rfl rfl ?_; intro u0 bb hBbb hkbb hlbb hgbb) | (refine load31 rfl rfl bb rfl hBbb ?_))
  have HK0 : Hid (Keeps w u0) := hkbb
  have HB0 : Hid (CBox bb (GL g A) u0) := hBbb
  clear hBbb hkbb hlbb hgbb
  refine (HC1.out u0 HK0.out).mono ?_
  rintro y v1 ⟨B1, ho, rfl, hb⟩
  have HR : Hid (GrRd v1 GR B1) := ho.at.rd
  have hbk := hb
  clear ho hb HC1
  go_wp2_with (first | (refine alloc31 rfl rfl ?_; intro t1 b1 hBb1 hkb1 hlb1 hgb1) | (refine store31 rfl rfl b1 rfl rfl hBb1 ?_; intro u1 hSu1 hTu1) | (refine load31 rfl rfl bb rfl ((HB0.out.keep hbk (by rw [GL_len]; decide)).keep (But.to hkb1 hgb1 hTu1) (by rw [GL_len]; decide)) ?_))
  have k1 : Keeps v1 u1 := But.to hkb1 hgb1 hTu1
  have k2 : Keeps u0 u1 := hbk.trans k1
  have HK1 : Hid (Keeps w u1) := HK0.out.trans k2
  have HB1 : Hid (CBox bb (GL g A) u1) := HB0.out.keep k2 (by rw [GL_len]; decide)
  have HX1_1 : Hid (CBox b1 (GL GR B1) u1) := hSu1
  have HR1_1 : Hid (GrRd u1 GR B1) := HR.out.keep k1
  clear HR hbk k1 k2 hBb1 hkb1 hlb1 hgb1 hSu1 hTu1 HK0 HB0
  refine (HC2.out u1 HK1.out).mono ?_
  rintro y v2 ⟨B2, ho, rfl, hb⟩
  have HR : Hid (GrRd v2 GC_ B2) := ho.at.rd
  have hbk := hb
  clear ho hb HC2
  go_wp2_with (first | (refine alloc31 rfl rfl ?_; intro t2 b2 hBb2 hkb2 hlb2 hgb2) | (refine store31 rfl rfl b2 rfl rfl hBb2 ?_; intro u2 hSu2 hTu2) | (refine load31 rfl rfl bb rfl ((HB1.out.keep hbk (by rw [GL_len]; decide)).keep (But.to hkb2 hgb2 hTu2) (by rw [GL_len]; decide)) ?_))
  have k1 : Keeps v2 u2 := But.to hkb2 hgb2 hTu2
  have k2 : Keeps u1 u2 := hbk.trans k1
  have HK2 : Hid (Keeps w u2) := HK1.out.trans k2
  have HB2 : Hid (CBox bb (GL g A) u2) := HB1.out.keep k2 (by rw [GL_len]; decide)
  have HX1_2 : Hid (CBox b1 (GL GR B1) u2) := HX1_1.out.keep k2 (by rw [GL_len]; decide)
  have HR1_2 : Hid (GrRd u2 GR B1) := HR1_1.out.keep k2
  have HX2_2 : Hid (CBox b2 (GL GC_ B2) u2) := hSu2
  have HR2_2 : Hid (GrRd u2 GC_ B2) := HR.out.keep k1
  clear HR hbk k1 k2 hBb2 hkb2 hlb2 hgb2 hSu2 hTu2 HK1 HB1 HX1_1 HR1_1
  refine (HC3.out u2 HK2.out).mono ?_
  rintro y v3 ⟨B3, ho, rfl, hb⟩
  have HR : Hid (GrRd v3 GR B3) := ho
  have hbk := hb
  clear ho hb HC3
  go_wp2_with (first | (refine alloc31 rfl rfl ?_; intro t3 b3 hBb3 hkb3 hlb3 hgb3) | (refine store31 rfl rfl b3 rfl rfl hBb3 ?_; intro u3 hSu3 hTu3) | (refine load31 rfl rfl bb rfl ((HB2.out.keep hbk (by rw [GL_len]; decide)).keep (But.to hkb3 hgb3 hTu3) (by rw [GL_len]; decide)) ?_))
  have k1 : Keeps v3 u3 := But.to hkb3 hgb3 hTu3
  have k2 : Keeps u2 u3 := hbk.trans k1
  have HK3 : Hid (Keeps w u3) := HK2.out.trans k2
  have HB3 : Hid (CBox bb (GL g A) u3) := HB2.out.keep k2 (by rw [GL_len]; decide)
  have HX1_3 : Hid (CBox b1 (GL GR B1) u3) := HX1_2.out.keep k2 (by rw [GL_len]; decide)
  have HR1_3 : Hid (GrRd u3 GR B1) := HR1_2.out.keep k2
  have HX2_3 : Hid (CBox b2 (GL GC_ B2) u3) := HX2_2.out.keep k2 (by rw [GL_len]; decide)
  have HR2_3 : Hid (GrRd u3 GC_ B2) := HR2_2.out.keep k2
  have HX3_3 : Hid (CBox b3 (GL GR B3) u3) := hSu3
  have HR3_3 : Hid (GrRd u3 GR B3) := HR.out.keep k1
  clear HR hbk k1 k2 hBb3 hkb3 hlb3 hgb3 hSu3 hTu3 HK2 HB2 HX1_2 HR1_2 HX2_2 HR2_2
  refine (HC4.out u3 HK3.out).mono ?_
  rintro y v4 ⟨B4, ho, rfl, hb⟩
  have HR : Hid (GrRd v4 GC_ B4) := ho
  have hbk := hb
  clear ho hb HC4
  go_wp2_with (first | (refine alloc31 rfl rfl ?_; intro t4 b4 hBb4 hkb4 hlb4 hgb4) | (refine store31 rfl rfl b4 rfl rfl hBb4 ?_; intro u4 hSu4 hTu4))
  have k1 : Keeps v4 u4 := But.to hkb4 hgb4 hTu4
  have k2 : Keeps u3 u4 := hbk.trans k1
  have HK4 : Hid (Keeps w u4) := HK3.out.trans k2
  have HB4 : Hid (CBox bb (GL g A) u4) := HB3.out.keep k2 (by rw [GL_len]; decide)
  have HX1_4 : Hid (CBox b1 (GL GR B1) u4) := HX1_3.out.keep k2 (by rw [GL_len]; decide)
  have HR1_4 : Hid (GrRd u4 GR B1) := HR1_3.out.keep k2
  have HX2_4 : Hid (CBox b2 (GL GC_ B2) u4) := HX2_3.out.keep k2 (by rw [GL_len]; decide)
  have HR2_4 : Hid (GrRd u4 GC_ B2) := HR2_3.out.keep k2
  have HX3_4 : Hid (CBox b3 (GL GR B3) u4) := HX3_3.out.keep k2 (by rw [GL_len]; decide)
  have HR3_4 : Hid (GrRd u4 GR B3) := HR3_3.out.keep k2
  have HX4_4 : Hid (CBox b4 (GL GC_ B4) u4) := hSu4
  have HR4_4 : Hid (GrRd u4 GC_ B4) := HR.out.keep k1
  clear HR hbk k1 k2 hBb4 hkb4 hlb4 hgb4 hSu4 hTu4 HK3 HB3 HX1_3 HR1_3 HX2_3 HR2_3 HX3_3 HR3_3
  refine (group_begun u4).mono ?_
  rintro y x1 ⟨rfl, hb1⟩
  go_wp2_with (first | (refine load31w (by rfl) rfl b1 rfl (HX1_4.out.keep hb1 (by rw [GL_len]; decide)) ?_) | (refine load31w (by rfl) rfl b3 rfl (HX3_4.out.keep hb1 (by rw [GL_len]; decide)) ?_))
  refine (same_groups GR B1 B3 x1 (HR1_4.out.keep hb1) (HR3_4.out.keep hb1)).mono ?_
  rintro y x2 ⟨rfl, hb2⟩
  go_wp2_with (first | (refine load31w (by rfl) rfl b2 rfl ((HX2_4.out.keep hb1 (by rw [GL_len]; decide)).keep hb2 (by rw [GL_len]; decide)) ?_) | (refine load31w (by rfl) rfl b4 rfl ((HX4_4.out.keep hb1 (by rw [GL_len]; decide)).keep hb2 (by rw [GL_len]; decide)) ?_))
  refine (same_groups GC_ B2 B4 x2 ((HR2_4.out.keep hb1).keep hb2) ((HR4_4.out.keep hb1).keep hb2)).mono ?_
  rintro y x3 ⟨rfl, hb3⟩
  go_wp2_with fail
  go_ret
  exact ⟨by simp, HK4.out.trans ((hb1.trans hb2).trans hb3)⟩
end Go.Proofs.YteabfjpajgakiafGreat
