/- GrKp, GrKr, GrKc, GrN, GrS0. -/
import Derived.Test.YteabfjpajgakiagGreatJ13
import Derived.Test.YteabfjpajgakiagGreatJ18
import Derived.Test.YteabfjpajgakiagGreatJ20
/- group.Put. -/
set_option linter.unusedSimpArgs false
set_option linter.unusedVariables false
set_option maxRecDepth 10000
namespace Go.Proofs.YteabfjpajgakiagGreat
open Go.RowKit

set_option maxHeartbeats 4000000 in
theorem group_put (g : Grp) (A : Ad) (e : Ent) (w : World) (hG : GrAt w g A) : Calls Tryz.prog 8 #[.agg (GL g A).toArray, entV e] w fun y w' => ∃ B, GrOwn w.heap.size w' (pgG g e) B ∧ y = .returned (.tuple #[.agg (GL (pgG g e) B).toArray, .int .i64 (pgAns g e), .int .i64 (pgErr g e)]) ∧ Keeps w w' := by
  have HG : Hid (GrAt w g A) := hG
  clear hG
  have HEN : Hid (∀ W, Keeps w W → Calls Tryz.prog 25 #[.agg (GL g A).toArray] W fun e w' => ∃ B, GrOwn W.heap.size w' (entG g) B ∧ e = .returned (.tuple #[.agg (GL (entG g) B).toArray, .int .i64 (grErr g)]) ∧ Keeps W w') := fun W hk => enter_c g A W (HG.out.keep hk)
  cases q : (grErr g == 0) with
  | false =>
    have q' : (grErr g != 0) = true := by simp [bne, q]
    have e0 : pgErr g e = grErr g := by unfold pgErr; rw [q]; rfl
    have hne : (pgErr g e == 0) = false := by rw [e0]; exact q
    have e1 : pgG g e = zeroGrp := by unfold pgG; rw [hne]; rfl
    have e2 : pgAns g e = 0 := by unfold pgAns; rw [hne]; rfl
    rw [e0, e1, e2]
    clear HG hne e0 e1 e2
    generalize grErr g = er at *
    generalize entG g = gg at *
    go_enter Tryz.func8, Tryz.ntmps8
    go_wp2_with (first | (refine box31 rfl rfl rfl ?_; intro w1 bb hBbb hkbb hlbb hgbb) | (refine box35 rfl rfl (e := e) rfl ?_; intro w2 eb hBeb hkeb hleb hgeb) | (refine alloc31 rfl rfl ?_; intro w3 r hBr hkr hlr hgr) | (refine load31 rfl rfl bb rfl ((hBbb.keep hkeb (by rw [GL_len]; decide)).keep hkr (by rw [GL_len]; decide)) ?_))
    have hk3 : Keeps w w3 := (hkbb.trans hkeb).trans hkr
    refine (HEN.out w3 hk3).mono ?_
    rintro y w4 ⟨B, ho, rfl, hb⟩
    have hR4 := hBr.keep hb (by rw [GL_len]; decide)
    have HRG : Hid (w.heap.size ≤ r) := Nat.le_trans (hkbb.trans hkeb).size hgr
    have HK4 : Hid (Keeps w w4) := hk3.trans hb
    clear ho hb hk3 hBbb hkbb hlbb hgbb hBr hkr hlr hgr HEN hBeb hkeb hleb hgeb
    go_wp2_with (first | (refine alloc48 rfl rfl ?_; intro w5 nb hBnb hknb hlnb hgnb) | (refine store48 rfl rfl nb rfl rfl hBnb ?_; intro w6 hSw6 hTw6) | (refine build31z rfl rfl ?_) | (refine store31 rfl rfl r rfl rfl (hR4.keep (But.to hknb hgnb hTw6) (by rw [GL_len]; decide)) ?_; intro w7 hSw7 hTw7))
    refine bodyPost_ret (results3 Tryz.results8 rfl rfl rfl (read31 hSw7)) rfl ?_
    exact ⟨zeroAd, GrOwn.zero _ _, rfl, But.to (HK4.out.trans (But.to hknb hgnb hTw6)) HRG.out hTw7⟩
  | true =>
    have q' : (grErr g != 0) = false := by simp [bne, q]
    have q0 : grErr g = 0 := by simpa using q
    have hen : entG g = g := by unfold entG; rw [q]; rfl
    rw [hen, q0] at HEN
    cases q1 : (putLgErr g.log e == 0) with
    | false =>
      have q1' : (putLgErr g.log e != 0) = true := by simp [bne, q1]
      have e0 : pgErr g e = putLgErr g.log e := by unfold pgErr; rw [q]; rfl
      have hne : (pgErr g e == 0) = false := by rw [e0]; exact q1
      have e1 : pgG g e = zeroGrp := by unfold pgG; rw [hne]; rfl
      have e2 : pgAns g e = 0 := by unfold pgAns; rw [hne]; rfl
      rw [e0, e1, e2]
      have HH := (show Hid _ from fun B b W h1 h2 => hall_put g B e b W h1 h2)
      clear hne e0 e1 e2
      generalize putAns g.log e = an at *
      generalize putLgErr g.log e = er at *
      go_enter Tryz.func8, Tryz.ntmps8
      go_wp2_with (first | (refine box31 rfl rfl rfl ?_; intro w1 bb hBbb hkbb hlbb hgbb) | (refine box35 rfl rfl (e := e) rfl ?_; intro w2 eb hBeb hkeb hleb hgeb) | (refine alloc31 rfl rfl ?_; intro w3 r hBr hkr hlr hgr) | (refine load31 rfl rfl bb rfl ((hBbb.keep hkeb (by rw [GL_len]; decide)).keep hkr (by rw [GL_len]; decide)) ?_))
      have hk3 : Keeps w w3 := (hkbb.trans hkeb).trans hkr
      refine (HEN.out w3 hk3).mono ?_
      rintro y w4 ⟨B, ho, rfl, hb⟩
      have HR4 : Hid (CBox r (GL zeroGrp zeroAd) w4) := hBr.keep hb (by rw [GL_len]; decide)
      have HRG : Hid (w.heap.size ≤ r) := Nat.le_trans (hkbb.trans hkeb).size hgr
      have HRL : Hid (r < w3.heap.size) := hlr
      have HW3 : Hid (w.heap.size ≤ w3.heap.size) := hk3.size
      have HK34 : Hid (w3.heap.size ≤ w4.heap.size) := hb.size
      have HK4 : Hid (Keeps w w4) := hk3.trans hb
      have HO4 : Hid (GrOwn w3.heap.size w4 g B) := ho
      have hE4 : CBox eb (EC e) w4 := (hBeb.keep hkr (Nat.le_of_ble_eq_true rfl)).keep hb (Nat.le_of_ble_eq_true rfl)
      clear ho hb hk3 hBbb hkbb hlbb hgbb hBr hkr hlr hgr HEN hBeb hkeb hleb hgeb
      go_wp2_with (first | (refine alloc48 rfl rfl ?_; intro w5 nb hBnb hknb hlnb hgnb) | (refine store48 rfl rfl nb rfl rfl hBnb ?_; intro w6 hSw6 hTw6) | (refine load35 rfl rfl eb rfl (e := e) (hE4.keep (But.to hknb hgnb hTw6) (Nat.le_of_ble_eq_true rfl)) ?_))
      have HK46 : Hid (Keeps w4 w6) := But.to hknb hgnb hTw6
      have HNB : Hid (w4.heap.size ≤ nb) := hgnb
      have hH := HH.out B nb w6 (HO4.out.at.keep HK46.out) hSw6
      refine hH.mono ?_
      rintro y w7 ⟨xa, xc, ta, tc, hq, rfl, hbt⟩
      have HK47 : Hid (Keeps w4 w7) := But.to HK46.out HNB.out hbt
      have hR7 := HR4.out.keep HK47.out (by rw [GL_len]; decide)
      clear hH hq hbt hBnb hknb hlnb hgnb hSw6 hTw6 HH
      go_wp2_with (first | (refine build31z rfl rfl ?_) | (refine store31 rfl rfl r rfl rfl hR7 ?_; intro w8 hSw8 hTw8))
      refine bodyPost_ret (results3 Tryz.results8 rfl rfl rfl (read31 hSw8)) rfl ?_
      exact ⟨zeroAd, GrOwn.zero _ _, rfl, But.to (HK4.out.trans HK47.out) HRG.out hTw8⟩
    | true =>
      have q1' : (putLgErr g.log e != 0) = false := by simp [bne, q1]
      have e0 : pgErr g e = putLgErr g.log e := by unfold pgErr; rw [q]; rfl
      have q2 : putLgErr g.log e = 0 := by simpa using q1
      have hne : (pgErr g e == 0) = true := by rw [e0]; exact q1
      have e1 : pgG g e = setLog g (putLg g.log e) := by unfold pgG; rw [hne]; rfl
      have e2 : pgAns g e = putAns g.log e := by unfold pgAns; rw [hne]; rfl
      rw [e0, e1, e2, q2]
      have HH := (show Hid _ from fun B b W h1 h2 => hall_put g B e b W h1 h2)
      clear hne e0 e1 e2
      rw [q2] at HH
      generalize putAns g.log e = an at *
      go_enter Tryz.func8, Tryz.ntmps8
      go_wp2_with (first | (refine box31 rfl rfl rfl ?_; intro w1 bb hBbb hkbb hlbb hgbb) | (refine box35 rfl rfl (e := e) rfl ?_; intro w2 eb hBeb hkeb hleb hgeb) | (refine alloc31 rfl rfl ?_; intro w3 r hBr hkr hlr hgr) | (refine load31 rfl rfl bb rfl ((hBbb.keep hkeb (by rw [GL_len]; decide)).keep hkr (by rw [GL_len]; decide)) ?_))
      have hk3 : Keeps w w3 := (hkbb.trans hkeb).trans hkr
      refine (HEN.out w3 hk3).mono ?_
      rintro y w4 ⟨B, ho, rfl, hb⟩
      have HR4 : Hid (CBox r (GL zeroGrp zeroAd) w4) := hBr.keep hb (by rw [GL_len]; decide)
      have HRG : Hid (w.heap.size ≤ r) := Nat.le_trans (hkbb.trans hkeb).size hgr
      have HRL : Hid (r < w3.heap.size) := hlr
      have HW3 : Hid (w.heap.size ≤ w3.heap.size) := hk3.size
      have HK34 : Hid (w3.heap.size ≤ w4.heap.size) := hb.size
      have HK4 : Hid (Keeps w w4) := hk3.trans hb
      have HO4 : Hid (GrOwn w3.heap.size w4 g B) := ho
      have hE4 : CBox eb (EC e) w4 := (hBeb.keep hkr (Nat.le_of_ble_eq_true rfl)).keep hb (Nat.le_of_ble_eq_true rfl)
      clear ho hb hk3 hBbb hkbb hlbb hgbb hBr hkr hlr hgr HEN hBeb hkeb hleb hgeb
      go_wp2_with (first | (refine alloc48 rfl rfl ?_; intro w5 nb hBnb hknb hlnb hgnb) | (refine store48 rfl rfl nb rfl rfl hBnb ?_; intro w6 hSw6 hTw6) | (refine load35 rfl rfl eb rfl (e := e) (hE4.keep (But.to hknb hgnb hTw6) (Nat.le_of_ble_eq_true rfl)) ?_))
      have HK46 : Hid (Keeps w4 w6) := But.to hknb hgnb hTw6
      have HNB : Hid (w4.heap.size ≤ nb) := hgnb
      have hH := HH.out B nb w6 (HO4.out.at.keep HK46.out) hSw6
      refine hH.mono ?_
      rintro y w7 ⟨xa, xc, ta, tc, hq, rfl, hbt⟩
      have HK47 : Hid (Keeps w4 w7) := But.to HK46.out HNB.out hbt
      obtain ⟨hlo, hBn⟩ := hq (by trivial)
      have HLO := (show Hid _ from hlo)
      have HBN := (show Hid _ from hBn)
      have hR7 := HR4.out.keep HK47.out (by rw [GL_len]; decide)
      clear hH hq hbt hBnb hknb hlnb hgnb hSw6 hTw6 HH hlo hBn
      go_wp2_with (first | (refine load31 rfl rfl nb rfl HBN.out ?_) | (refine store31 rfl rfl r rfl rfl hR7 ?_; intro w8 hSw8 hTw8))
      refine bodyPost_ret (results3 Tryz.results8 rfl rfl rfl (read31 hSw8)) rfl ?_
      have h1 := HO4.out.keep HK47.out
      have h2 := Nat.le_trans HK34.out HK46.out.size
      exact ⟨_, ((h1.setLog (HLO.out.mono h2)).but HRL.out hTw8).mono HW3.out, rfl, But.to (HK4.out.trans HK47.out) HRG.out hTw8⟩
end Go.Proofs.YteabfjpajgakiagGreat

/- group.Run. -/
set_option linter.unusedSimpArgs false
set_option linter.unusedVariables false
set_option maxRecDepth 10000
namespace Go.Proofs.YteabfjpajgakiagGreat
open Go.RowKit

set_option maxHeartbeats 4000000 in
theorem group_run (g : Grp) (A : Ad) (i n : Int) (w : World) (hG : GrAt w g A) : Calls Tryz.prog 9 #[.agg (GL g A).toArray, .int .i64 i, .int .i64 n] w fun y w' => ∃ B, GrOwn w.heap.size w' (rgG g i n) B ∧ y = .returned (.tuple #[.agg (GL (rgG g i n) B).toArray, .int .i64 (rgNum g i n), .int .i64 (rgErr g i n)]) ∧ Keeps w w' := by
  have HG : Hid (GrAt w g A) := hG
  clear hG
  have HEN : Hid (∀ W, Keeps w W → Calls Tryz.prog 25 #[.agg (GL g A).toArray] W fun e w' => ∃ B, GrOwn W.heap.size w' (entG g) B ∧ e = .returned (.tuple #[.agg (GL (entG g) B).toArray, .int .i64 (grErr g)]) ∧ Keeps W w') := fun W hk => enter_c g A W (HG.out.keep hk)
  cases q : (grErr g == 0) with
  | false =>
    have q' : (grErr g != 0) = true := by simp [bne, q]
    have e0 : rgErr g i n = grErr g := by unfold rgErr; rw [q]; rfl
    have hne : (rgErr g i n == 0) = false := by rw [e0]; exact q
    have e1 : rgG g i n = zeroGrp := by unfold rgG; rw [hne]; rfl
    have e2 : rgNum g i n = 0 := by unfold rgNum; rw [hne]; rfl
    rw [e0, e1, e2]
    clear HG hne e0 e1 e2
    generalize grErr g = er at *
    generalize entG g = gg at *
    go_enter Tryz.func9, Tryz.ntmps9
    go_wp2_with (first | (refine box31 rfl rfl rfl ?_; intro w1 bb hBbb hkbb hlbb hgbb) | (refine alloc31 rfl rfl ?_; intro w3 r hBr hkr hlr hgr) | (refine load31 rfl rfl bb rfl (hBbb.keep hkr (by rw [GL_len]; decide)) ?_))
    have hk3 : Keeps w w3 := hkbb.trans hkr
    refine (HEN.out w3 hk3).mono ?_
    rintro y w4 ⟨B, ho, rfl, hb⟩
    have hR4 := hBr.keep hb (by rw [GL_len]; decide)
    have HRG : Hid (w.heap.size ≤ r) := Nat.le_trans hkbb.size hgr
    have HK4 : Hid (Keeps w w4) := hk3.trans hb
    clear ho hb hk3 hBbb hkbb hlbb hgbb hBr hkr hlr hgr HEN 
    go_wp2_with (first | (refine alloc48 rfl rfl ?_; intro w5 nb hBnb hknb hlnb hgnb) | (refine store48 rfl rfl nb rfl rfl hBnb ?_; intro w6 hSw6 hTw6) | (refine build31z rfl rfl ?_) | (refine store31 rfl rfl r rfl rfl (hR4.keep (But.to hknb hgnb hTw6) (by rw [GL_len]; decide)) ?_; intro w7 hSw7 hTw7))
    refine bodyPost_ret (results3 Tryz.results9 rfl rfl rfl (read31 hSw7)) rfl ?_
    exact ⟨zeroAd, GrOwn.zero _ _, rfl, But.to (HK4.out.trans (But.to hknb hgnb hTw6)) HRG.out hTw7⟩
  | true =>
    have q' : (grErr g != 0) = false := by simp [bne, q]
    have q0 : grErr g = 0 := by simpa using q
    have hen : entG g = g := by unfold entG; rw [q]; rfl
    rw [hen, q0] at HEN
    cases q1 : (rnErr g i n == 0) with
    | false =>
      have q1' : (rnErr g i n != 0) = true := by simp [bne, q1]
      have e0 : rgErr g i n = rnErr g i n := by unfold rgErr; rw [q]; rfl
      have hne : (rgErr g i n == 0) = false := by rw [e0]; exact q1
      have e1 : rgG g i n = zeroGrp := by unfold rgG; rw [hne]; rfl
      have e2 : rgNum g i n = 0 := by unfold rgNum; rw [hne]; rfl
      rw [e0, e1, e2]
      have HH := (show Hid _ from fun B b W h1 h2 => hall_run g B i n b W h1 h2)
      clear hne e0 e1 e2
      generalize rnNum g i n = an at *
      generalize rnErr g i n = er at *
      go_enter Tryz.func9, Tryz.ntmps9
      go_wp2_with (first | (refine box31 rfl rfl rfl ?_; intro w1 bb hBbb hkbb hlbb hgbb) | (refine alloc31 rfl rfl ?_; intro w3 r hBr hkr hlr hgr) | (refine load31 rfl rfl bb rfl (hBbb.keep hkr (by rw [GL_len]; decide)) ?_))
      have hk3 : Keeps w w3 := hkbb.trans hkr
      refine (HEN.out w3 hk3).mono ?_
      rintro y w4 ⟨B, ho, rfl, hb⟩
      have HR4 : Hid (CBox r (GL zeroGrp zeroAd) w4) := hBr.keep hb (by rw [GL_len]; decide)
      have HRG : Hid (w.heap.size ≤ r) := Nat.le_trans hkbb.size hgr
      have HRL : Hid (r < w3.heap.size) := hlr
      have HW3 : Hid (w.heap.size ≤ w3.heap.size) := hk3.size
      have HK34 : Hid (w3.heap.size ≤ w4.heap.size) := hb.size
      have HK4 : Hid (Keeps w w4) := hk3.trans hb
      have HO4 : Hid (GrOwn w3.heap.size w4 g B) := ho
      clear ho hb hk3 hBbb hkbb hlbb hgbb hBr hkr hlr hgr HEN 
      go_wp2_with (first | (refine alloc48 rfl rfl ?_; intro w5 nb hBnb hknb hlnb hgnb) | (refine store48 rfl rfl nb rfl rfl hBnb ?_; intro w6 hSw6 hTw6))
      have HK46 : Hid (Keeps w4 w6) := But.to hknb hgnb hTw6
      have HNB : Hid (w4.heap.size ≤ nb) := hgnb
      have hH := HH.out B nb w6 (HO4.out.at.keep HK46.out) hSw6
      refine hH.mono ?_
      rintro y w7 ⟨xa, xc, hq, rfl, hbt⟩
      have HK47 : Hid (Keeps w4 w7) := But.to HK46.out HNB.out hbt
      have hR7 := HR4.out.keep HK47.out (by rw [GL_len]; decide)
      clear hH hq hbt hBnb hknb hlnb hgnb hSw6 hTw6 HH
      go_wp2_with (first | (refine build31z rfl rfl ?_) | (refine store31 rfl rfl r rfl rfl hR7 ?_; intro w8 hSw8 hTw8))
      refine bodyPost_ret (results3 Tryz.results9 rfl rfl rfl (read31 hSw8)) rfl ?_
      exact ⟨zeroAd, GrOwn.zero _ _, rfl, But.to (HK4.out.trans HK47.out) HRG.out hTw8⟩
    | true =>
      have q1' : (rnErr g i n != 0) = false := by simp [bne, q1]
      have e0 : rgErr g i n = rnErr g i n := by unfold rgErr; rw [q]; rfl
      have q2 : rnErr g i n = 0 := by simpa using q1
      have hne : (rgErr g i n == 0) = true := by rw [e0]; exact q1
      have e1 : rgG g i n = setNode g i.toNat (rnOut g i n) := by unfold rgG; rw [hne]; rfl
      have e2 : rgNum g i n = rnNum g i n := by unfold rgNum; rw [hne]; rfl
      rw [e0, e1, e2, q2]
      have HH := (show Hid _ from fun B b W h1 h2 => hall_run g B i n b W h1 h2)
      clear hne e0 e1 e2
      rw [q2] at HH
      generalize rnNum g i n = an at *
      go_enter Tryz.func9, Tryz.ntmps9
      go_wp2_with (first | (refine box31 rfl rfl rfl ?_; intro w1 bb hBbb hkbb hlbb hgbb) | (refine alloc31 rfl rfl ?_; intro w3 r hBr hkr hlr hgr) | (refine load31 rfl rfl bb rfl (hBbb.keep hkr (by rw [GL_len]; decide)) ?_))
      have hk3 : Keeps w w3 := hkbb.trans hkr
      refine (HEN.out w3 hk3).mono ?_
      rintro y w4 ⟨B, ho, rfl, hb⟩
      have HR4 : Hid (CBox r (GL zeroGrp zeroAd) w4) := hBr.keep hb (by rw [GL_len]; decide)
      have HRG : Hid (w.heap.size ≤ r) := Nat.le_trans hkbb.size hgr
      have HRL : Hid (r < w3.heap.size) := hlr
      have HW3 : Hid (w.heap.size ≤ w3.heap.size) := hk3.size
      have HK34 : Hid (w3.heap.size ≤ w4.heap.size) := hb.size
      have HK4 : Hid (Keeps w w4) := hk3.trans hb
      have HO4 : Hid (GrOwn w3.heap.size w4 g B) := ho
      clear ho hb hk3 hBbb hkbb hlbb hgbb hBr hkr hlr hgr HEN 
      go_wp2_with (first | (refine alloc48 rfl rfl ?_; intro w5 nb hBnb hknb hlnb hgnb) | (refine store48 rfl rfl nb rfl rfl hBnb ?_; intro w6 hSw6 hTw6))
      have HK46 : Hid (Keeps w4 w6) := But.to hknb hgnb hTw6
      have HNB : Hid (w4.heap.size ≤ nb) := hgnb
      have hH := HH.out B nb w6 (HO4.out.at.keep HK46.out) hSw6
      refine hH.mono ?_
      rintro y w7 ⟨xa, xc, hq, rfl, hbt⟩
      have HK47 : Hid (Keeps w4 w7) := But.to HK46.out HNB.out hbt
      obtain ⟨hlo, hBn⟩ := hq (by trivial)
      have HLO := (show Hid _ from hlo)
      have HBN := (show Hid _ from hBn)
      have hR7 := HR4.out.keep HK47.out (by rw [GL_len]; decide)
      clear hH hq hbt hBnb hknb hlnb hgnb hSw6 hTw6 HH hlo hBn
      go_wp2_with (first | (refine load31 rfl rfl nb rfl HBN.out ?_) | (refine store31 rfl rfl r rfl rfl hR7 ?_; intro w8 hSw8 hTw8))
      refine bodyPost_ret (results3 Tryz.results9 rfl rfl rfl (read31 hSw8)) rfl ?_
      have h1 := HO4.out.keep HK47.out
      have h2 := Nat.le_trans HK34.out HK46.out.size
      exact ⟨_, ((h1.setNode (OwnTab.base HLO.out h2) i.toNat).but HRL.out hTw8).mono HW3.out, rfl, But.to (HK4.out.trans HK47.out) HRG.out hTw8⟩
end Go.Proofs.YteabfjpajgakiagGreat

/- group.Cut. -/
set_option linter.unusedSimpArgs false
set_option linter.unusedVariables false
set_option maxRecDepth 10000
namespace Go.Proofs.YteabfjpajgakiagGreat
open Go.RowKit

set_option maxHeartbeats 4000000 in
theorem group_cut (g : Grp) (A : Ad) (n : Int) (w : World) (hG : GrAt w g A) : Calls Tryz.prog 10 #[.agg (GL g A).toArray, .int .i64 n] w fun y w' => ∃ B, GrOwn w.heap.size w' (cgG g n) B ∧ y = .returned (.tuple #[.agg (GL (cgG g n) B).toArray, .int .i64 (cgErr g n)]) ∧ Keeps w w' := by
  have HG : Hid (GrAt w g A) := hG
  clear hG
  have HEN : Hid (∀ W, Keeps w W → Calls Tryz.prog 25 #[.agg (GL g A).toArray] W fun e w' => ∃ B, GrOwn W.heap.size w' (entG g) B ∧ e = .returned (.tuple #[.agg (GL (entG g) B).toArray, .int .i64 (grErr g)]) ∧ Keeps W w') := fun W hk => enter_c g A W (HG.out.keep hk)
  cases q : (grErr g == 0) with
  | false =>
    have q' : (grErr g != 0) = true := by simp [bne, q]
    have e0 : cgErr g n = grErr g := by unfold cgErr; rw [q]; rfl
    have hne : (cgErr g n == 0) = false := by rw [e0]; exact q
    have e1 : cgG g n = zeroGrp := by unfold cgG; rw [hne]; rfl
    rw [e0, e1]
    clear HG hne e0 e1
    generalize grErr g = er at *
    generalize entG g = gg at *
    go_enter Tryz.func10, Tryz.ntmps10
    go_wp2_with (first | (refine box31 rfl rfl rfl ?_; intro w1 bb hBbb hkbb hlbb hgbb) | (refine alloc31 rfl rfl ?_; intro w3 r hBr hkr hlr hgr) | (refine load31 rfl rfl bb rfl (hBbb.keep hkr (by rw [GL_len]; decide)) ?_))
    have hk3 : Keeps w w3 := hkbb.trans hkr
    refine (HEN.out w3 hk3).mono ?_
    rintro y w4 ⟨B, ho, rfl, hb⟩
    have hR4 := hBr.keep hb (by rw [GL_len]; decide)
    have HRG : Hid (w.heap.size ≤ r) := Nat.le_trans hkbb.size hgr
    have HK4 : Hid (Keeps w w4) := hk3.trans hb
    clear ho hb hk3 hBbb hkbb hlbb hgbb hBr hkr hlr hgr HEN 
    go_wp2_with (first | (refine alloc48 rfl rfl ?_; intro w5 nb hBnb hknb hlnb hgnb) | (refine store48 rfl rfl nb rfl rfl hBnb ?_; intro w6 hSw6 hTw6) | (refine build31z rfl rfl ?_) | (refine store31 rfl rfl r rfl rfl (hR4.keep (But.to hknb hgnb hTw6) (by rw [GL_len]; decide)) ?_; intro w7 hSw7 hTw7))
    refine bodyPost_ret (results2 Tryz.results10 rfl rfl (read31 hSw7)) rfl ?_
    exact ⟨zeroAd, GrOwn.zero _ _, rfl, But.to (HK4.out.trans (But.to hknb hgnb hTw6)) HRG.out hTw7⟩
  | true =>
    have q' : (grErr g != 0) = false := by simp [bne, q]
    have q0 : grErr g = 0 := by simpa using q
    have hen : entG g = g := by unfold entG; rw [q]; rfl
    rw [hen, q0] at HEN
    cases q1 : (cutErr g.log n == 0) with
    | false =>
      have q1' : (cutErr g.log n != 0) = true := by simp [bne, q1]
      have e0 : cgErr g n = cutErr g.log n := by unfold cgErr; rw [q]; rfl
      have hne : (cgErr g n == 0) = false := by rw [e0]; exact q1
      have e1 : cgG g n = zeroGrp := by unfold cgG; rw [hne]; rfl
      rw [e0, e1]
      have HH := (show Hid _ from fun B b W h1 h2 => hall_cut g B n b W h1 h2)
      clear hne e0 e1
      generalize cutErr g.log n = er at *
      go_enter Tryz.func10, Tryz.ntmps10
      go_wp2_with (first | (refine box31 rfl rfl rfl ?_; intro w1 bb hBbb hkbb hlbb hgbb) | (refine alloc31 rfl rfl ?_; intro w3 r hBr hkr hlr hgr) | (refine load31 rfl rfl bb rfl (hBbb.keep hkr (by rw [GL_len]; decide)) ?_))
      have hk3 : Keeps w w3 := hkbb.trans hkr
      refine (HEN.out w3 hk3).mono ?_
      rintro y w4 ⟨B, ho, rfl, hb⟩
      have HR4 : Hid (CBox r (GL zeroGrp zeroAd) w4) := hBr.keep hb (by rw [GL_len]; decide)
      have HRG : Hid (w.heap.size ≤ r) := Nat.le_trans hkbb.size hgr
      have HRL : Hid (r < w3.heap.size) := hlr
      have HW3 : Hid (w.heap.size ≤ w3.heap.size) := hk3.size
      have HK34 : Hid (w3.heap.size ≤ w4.heap.size) := hb.size
      have HK4 : Hid (Keeps w w4) := hk3.trans hb
      have HO4 : Hid (GrOwn w3.heap.size w4 g B) := ho
      clear ho hb hk3 hBbb hkbb hlbb hgbb hBr hkr hlr hgr HEN 
      go_wp2_with (first | (refine alloc48 rfl rfl ?_; intro w5 nb hBnb hknb hlnb hgnb) | (refine store48 rfl rfl nb rfl rfl hBnb ?_; intro w6 hSw6 hTw6))
      have HK46 : Hid (Keeps w4 w6) := But.to hknb hgnb hTw6
      have HNB : Hid (w4.heap.size ≤ nb) := hgnb
      have hH := HH.out B nb w6 (HO4.out.at.keep HK46.out) hSw6
      refine hH.mono ?_
      rintro y w7 ⟨xa, xc, ta, tc, hq, rfl, hbt⟩
      have HK47 : Hid (Keeps w4 w7) := But.to HK46.out HNB.out hbt
      have hR7 := HR4.out.keep HK47.out (by rw [GL_len]; decide)
      clear hH hq hbt hBnb hknb hlnb hgnb hSw6 hTw6 HH
      go_wp2_with (first | (refine build31z rfl rfl ?_) | (refine store31 rfl rfl r rfl rfl hR7 ?_; intro w8 hSw8 hTw8))
      refine bodyPost_ret (results2 Tryz.results10 rfl rfl (read31 hSw8)) rfl ?_
      exact ⟨zeroAd, GrOwn.zero _ _, rfl, But.to (HK4.out.trans HK47.out) HRG.out hTw8⟩
    | true =>
      have q1' : (cutErr g.log n != 0) = false := by simp [bne, q1]
      have e0 : cgErr g n = cutErr g.log n := by unfold cgErr; rw [q]; rfl
      have q2 : cutErr g.log n = 0 := by simpa using q1
      have hne : (cgErr g n == 0) = true := by rw [e0]; exact q1
      have e1 : cgG g n = setLog g (cutLg g.log n) := by unfold cgG; rw [hne]; rfl
      rw [e0, e1, q2]
      have HH := (show Hid _ from fun B b W h1 h2 => hall_cut g B n b W h1 h2)
      clear hne e0 e1
      rw [q2] at HH
      go_enter Tryz.func10, Tryz.ntmps10
      go_wp2_with (first | (refine box31 rfl rfl rfl ?_; intro w1 bb hBbb hkbb hlbb hgbb) | (refine alloc31 rfl rfl ?_; intro w3 r hBr hkr hlr hgr) | (refine load31 rfl rfl bb rfl (hBbb.keep hkr (by rw [GL_len]; decide)) ?_))
      have hk3 : Keeps w w3 := hkbb.trans hkr
      refine (HEN.out w3 hk3).mono ?_
      rintro y w4 ⟨B, ho, rfl, hb⟩
      have HR4 : Hid (CBox r (GL zeroGrp zeroAd) w4) := hBr.keep hb (by rw [GL_len]; decide)
      have HRG : Hid (w.heap.size ≤ r) := Nat.le_trans hkbb.size hgr
      have HRL : Hid (r < w3.heap.size) := hlr
      have HW3 : Hid (w.heap.size ≤ w3.heap.size) := hk3.size
      have HK34 : Hid (w3.heap.size ≤ w4.heap.size) := hb.size
      have HK4 : Hid (Keeps w w4) := hk3.trans hb
      have HO4 : Hid (GrOwn w3.heap.size w4 g B) := ho
      clear ho hb hk3 hBbb hkbb hlbb hgbb hBr hkr hlr hgr HEN 
      go_wp2_with (first | (refine alloc48 rfl rfl ?_; intro w5 nb hBnb hknb hlnb hgnb) | (refine store48 rfl rfl nb rfl rfl hBnb ?_; intro w6 hSw6 hTw6))
      have HK46 : Hid (Keeps w4 w6) := But.to hknb hgnb hTw6
      have HNB : Hid (w4.heap.size ≤ nb) := hgnb
      have hH := HH.out B nb w6 (HO4.out.at.keep HK46.out) hSw6
      refine hH.mono ?_
      rintro y w7 ⟨xa, xc, ta, tc, hq, rfl, hbt⟩
      have HK47 : Hid (Keeps w4 w7) := But.to HK46.out HNB.out hbt
      obtain ⟨hlo, hBn⟩ := hq (by trivial)
      have HLO := (show Hid _ from hlo)
      have HBN := (show Hid _ from hBn)
      have hR7 := HR4.out.keep HK47.out (by rw [GL_len]; decide)
      clear hH hq hbt hBnb hknb hlnb hgnb hSw6 hTw6 HH hlo hBn
      go_wp2_with (first | (refine load31 rfl rfl nb rfl HBN.out ?_) | (refine store31 rfl rfl r rfl rfl hR7 ?_; intro w8 hSw8 hTw8))
      refine bodyPost_ret (results2 Tryz.results10 rfl rfl (read31 hSw8)) rfl ?_
      have h1 := HO4.out.keep HK47.out
      have h2 := Nat.le_trans HK34.out HK46.out.size
      exact ⟨_, ((h1.setLog (HLO.out.mono h2)).but HRL.out hTw8).mono HW3.out, rfl, But.to (HK4.out.trans HK47.out) HRG.out hTw8⟩
end Go.Proofs.YteabfjpajgakiagGreat

/- group.Begin. -/
set_option linter.unusedSimpArgs false
set_option linter.unusedVariables false
set_option maxRecDepth 10000
namespace Go.Proofs.YteabfjpajgakiagGreat
open Go.RowKit

theorem store25z {ops : Array Oper} {rest : List Oper} {op : Oper} {a : Act} {w : World} {Q : Exit → Act → World → Prop} (hgd : op.guard = none) {x y : Operand} (ho : op.op = .store 25 x y) (b : Nat) (hx : a.eval x = .pointer (some ⟨b, 0, none⟩)) (hy : a.eval y = stV zeroSt (.slice none 0 0)) (hB : CBox b (GL zeroGrp zeroAd) w)
    (h : ∀ w', CBox b (GL zeroGrp zeroAd) w' → But b w w' → wpList Tryz.prog ops Q rest (a.put op.dst undef) w') : wpList Tryz.prog ops Q (op :: rest) a w :=
  wpList_store_box hgd _ x y ho b 0 (SC zeroSt (.slice none 0 0)) hx hy hB _ rfl (Nat.le_of_ble_eq_true rfl) (info_size size25 rfl) (SC_one _ _ _ _) h

set_option maxHeartbeats 4000000 in
theorem group_begin (w : World) : Calls Tryz.prog 19 #[] w fun e w' => e = .returned (.agg (GL zeroGrp zeroAd).toArray) ∧ Keeps w w' := by
  go_enter Tryz.func19, Tryz.ntmps19
  go_wp2_with (first | (refine alloc31 rfl rfl ?_; intro w1 r hBr hkr hlr hgr) | (refine alloc48 rfl rfl ?_; intro w2 nb hBnb hknb hlnb hgnb))
  refine (begin_c w2).mono ?_
  rintro e w3 ⟨rfl, hb⟩
  have hB3 := hBnb.keep hb (by rw [GL_len]; decide)
  have HR3 : Hid (CBox r (GL zeroGrp zeroAd) w3) := (hBr.keep hknb (by rw [GL_len]; decide)).keep hb (by rw [GL_len]; decide)
  have HNE : Hid (r ≠ nb) := fun e => by omega
  have HNB : Hid (w.heap.size ≤ nb) := Nat.le_trans hkr.size hgnb
  have HRG : Hid (w.heap.size ≤ r) := hgr
  have HK3 : Hid (Keeps w w3) := (hkr.trans hknb).trans hb
  clear hb hBr hkr hlr hgr hBnb hknb hlnb hgnb
  go_wp2_with (first | (refine store25z rfl rfl nb rfl rfl hB3 ?_; intro X0 hSX0 hTX0))
  have HB0 : Hid (CBox nb (GL zeroGrp zeroAd) X0) := hSX0
  have HR0 : Hid (CBox r (GL zeroGrp zeroAd) X0) := HR3.out.other hTX0 HNE.out (by rw [GL_len]; decide)
  have HK0 : Hid (Keeps w X0) := But.to HK3.out HNB.out hTX0
  clear hSX0 hTX0 HR3 HK3 hB3
  refine wp_loop_rounds 4 ?_
  rw [rounds_succ]
  go_wp2_with fail
  refine (begin_c X0).mono ?_
  rintro e Y0 ⟨rfl, hb⟩
  have hBn := HB0.out.keep hb (by rw [GL_len]; decide)
  have hR : Hid (CBox r (GL zeroGrp zeroAd) Y0) := HR0.out.keep hb (by rw [GL_len]; decide)
  have HKy : Hid (Keeps w Y0) := HK0.out.trans hb
  clear hb HB0 HR0 HK0
  go_wp2_with (first | (refine store25 rfl rfl nb 0 (by decide) 8 rfl rfl (s := zeroSt) (xa := none) (xc := 0) rfl hBn ?_; intro X1 hSX1 hTX1))
  have HB1 : Hid (CBox nb (GL zeroGrp zeroAd) X1) := hSX1
  have HR1 : Hid (CBox r (GL zeroGrp zeroAd) X1) := hR.out.other hTX1 HNE.out (by rw [GL_len]; decide)
  have HK1 : Hid (Keeps w X1) := But.to HKy.out HNB.out hTX1
  clear hSX1 hTX1 hBn hR HKy
  rw [rounds_succ]
  go_wp2_with fail
  refine (begin_c X1).mono ?_
  rintro e Y1 ⟨rfl, hb⟩
  have hBn := HB1.out.keep hb (by rw [GL_len]; decide)
  have hR : Hid (CBox r (GL zeroGrp zeroAd) Y1) := HR1.out.keep hb (by rw [GL_len]; decide)
  have HKy : Hid (Keeps w Y1) := HK1.out.trans hb
  clear hb HB1 HR1 HK1
  go_wp2_with (first | (refine store25 rfl rfl nb 1 (by decide) 15 rfl rfl (s := zeroSt) (xa := none) (xc := 0) rfl hBn ?_; intro X2 hSX2 hTX2))
  have HB2 : Hid (CBox nb (GL zeroGrp zeroAd) X2) := hSX2
  have HR2 : Hid (CBox r (GL zeroGrp zeroAd) X2) := hR.out.other hTX2 HNE.out (by rw [GL_len]; decide)
  have HK2 : Hid (Keeps w X2) := But.to HKy.out HNB.out hTX2
  clear hSX2 hTX2 hBn hR HKy
  rw [rounds_succ]
  go_wp2_with fail
  refine (begin_c X2).mono ?_
  rintro e Y2 ⟨rfl, hb⟩
  have hBn := HB2.out.keep hb (by rw [GL_len]; decide)
  have hR : Hid (CBox r (GL zeroGrp zeroAd) Y2) := HR2.out.keep hb (by rw [GL_len]; decide)
  have HKy : Hid (Keeps w Y2) := HK2.out.trans hb
  clear hb HB2 HR2 HK2
  go_wp2_with (first | (refine store25 rfl rfl nb 2 (by decide) 22 rfl rfl (s := zeroSt) (xa := none) (xc := 0) rfl hBn ?_; intro X3 hSX3 hTX3))
  have HB3 : Hid (CBox nb (GL zeroGrp zeroAd) X3) := hSX3
  have HR3 : Hid (CBox r (GL zeroGrp zeroAd) X3) := hR.out.other hTX3 HNE.out (by rw [GL_len]; decide)
  have HK3 : Hid (Keeps w X3) := But.to HKy.out HNB.out hTX3
  clear hSX3 hTX3 hBn hR HKy
  rw [rounds_succ]
  go_wp2_with (first | (refine load31 rfl rfl nb rfl HB3.out ?_) | (refine store31 rfl rfl r rfl rfl HR3.out ?_; intro X4 hSX4 hTX4))
  refine bodyPost_ret (results1 Tryz.results19 rfl (read31 hSX4)) rfl ?_
  exact ⟨rfl, But.to HK3.out HRG.out hTX4⟩
end Go.Proofs.YteabfjpajgakiagGreat

/- groupBegun: what its calls make (plain), and laws. -/
set_option linter.unusedSimpArgs false
set_option linter.unusedVariables false
set_option maxRecDepth 10000
namespace Go.Proofs.YteabfjpajgakiagGreat
open Go.RowKit

def bE1 : Ent := ⟨1, 1, 1, 0, 0, 0, 0, 0, 0⟩
def bE2 : Ent := ⟨2, 2, 1, 1, 0, 2, 0, 0, 5⟩
def bG1 : Grp := pgG zeroGrp bE1
def bG2 : Grp := pgG bG1 bE2
def bH : Grp := rgG bG2 1 9
def bJ : Grp := cgG bH 2
def bP : Grp := rgG bJ 0 0
def setV (g : Grp) : Grp := ⟨g.log, g.n0, ⟨g.n1.at_, g.n1.clock, 4, g.n1.v1, g.n1.v2, g.n1.v3, g.n1.tab⟩, g.n2⟩
theorem gr_runs : (pgErr zeroGrp bE1 = 0 ∧ pgAns zeroGrp bE1 = 0) ∧ (pgErr bG1 bE2 = 0 ∧ pgAns bG1 bE2 = 5) ∧ (rgErr bG2 1 9 = 0 ∧ rgNum bG2 1 9 = 2) ∧ cgErr bH 2 = 0 ∧ (rgErr bJ 0 0 = 0 ∧ rgNum bJ 0 0 = 0) ∧ rgErr bJ 3 0 = 3 ∧ (bH.n1.v0 = 5 ∧ bJ.log.tail.length = 0 ∧ bP.n0.v0 = 5) ∧ grErr zeroGrp = 0 ∧ grErr (setV bH) = 1 := by decide +kernel
/-- One cell of a variable is written. -/
theorem CBox.set {b : Nat} {cs : List Value} {w : World} (h : CBox b cs w) (i : Nat) (v : Value) : CBox b (cs.set i v) (w.setCell ⟨b, i, none⟩ v) := by
  refine ⟨fun j u hu => ?_, fun j => (World.frozen?_setCell _ _ _ _).trans (h.2 j)⟩
  by_cases hij : i = j
  · subst hij
    rw [List.getElem?_set] at hu
    simp only [if_true] at hu
    split at hu
    · rename_i hl
      have hc := h.1 i _ (List.getElem?_eq_getElem hl)
      rw [World.cell?_setCell_same _ _ _ hc]
      exact hu
    · cases hu
  · rw [List.getElem?_set_ne hij] at hu
    rw [World.cell?_setCell_other _ _ _ _ (by intro e; injection e with _ e _; exact hij e)]
    exact h.1 j u hu
theorem GL_setV (g : Grp) (A : Ad) : (GL g A).set 17 (.int .i64 4) = GL (setV g) A := rfl
theorem GrAt.setV {w : World} {g : Grp} {A : Ad} (h : GrAt w g A) : GrAt w (Go.Proofs.YteabfjpajgakiagGreat.setV g) A := ⟨h.base, h.tail, h.cap, h.t0, h.t1, h.t2⟩
theorem load31w {ops : Array Oper} {rest : List Oper} {op : Oper} {a : Act} {w : World} {Q : Exit → Act → World → Prop} (hw : Region.wanted op (yielded ops a.tmps) = true) {x : Operand} (ho : op.op = .load 31 x) (b : Nat) (hx : a.eval x = .pointer (some ⟨b, 0, none⟩)) {g : Grp} {A : Ad} (hB : CBox b (GL g A) w)
    (h : wpList Tryz.prog ops Q rest (a.put op.dst (.agg (GL g A).toArray)) w) : wpList Tryz.prog ops Q (op :: rest) a w := by
  obtain ⟨d, h1, h2⟩ := row31
  refine wpList_step fun K hK => ?_
  rw [if_pos hw]
  exact wp_load_mid _ x ho b 0 hx _ d (range_of hB 0 29 (GL_all g A)) h1 h2 (info_size size31 (GL_len g A)) (hK _ _ h)
theorem store_cell {ops : Array Oper} {rest : List Oper} {op : Oper} {a : Act} {w : World} {Q : Exit → Act → World → Prop} (hgd : op.guard = none) {x y : Operand} (ho : op.op = .store 3 x y) (b i : Nat) (hx : a.eval x = .pointer (some ⟨b, i, none⟩)) {n : Int} (hy : a.eval y = .int .i64 n) {cs es : List Value} (hB : CBox b cs w) (hi : i < cs.length) (hes : cs.set i (.int .i64 n) = es)
    (h : ∀ w', CBox b es w' → But b w w' → wpList Tryz.prog ops Q rest (a.put op.dst undef) w') : wpList Tryz.prog ops Q (op :: rest) a w := by
  subst hes
  refine wpList_plain hgd fun K hK => ?_
  have hc := hB.1 i _ (List.getElem?_eq_getElem hi)
  have hz := hB.2 i
  have hn := h _ (hB.set i (.int .i64 n)) ((But.refl _ _).set i _)
  have e0 : (Instr.storeAt 3 (.pointer (some ⟨b, i, none⟩)) (.int .i64 n)).run Tryz.prog w = .ok () (w.setCell ⟨b, i, none⟩ (.int .i64 n)) := by simp [go_sem, hc, hz]
  have e1 : (execOp a.eval op).run Tryz.prog w = .ok .skip (w.setCell ⟨b, i, none⟩ (.int .i64 n)) := by
    simp only [execOp, ho, hx, hy, Sem.run_bind, e0, Result.andThen_ok, Sem.run_pure]
  unfold Oper.wp
  rw [e1]
  exact hK _ _ hn
theorem load31_run {w : World} {b : Nat} {g : Grp} {A : Ad} (hB : CBox b (GL g A) w) : (Instr.loadAt 31 (.pointer (some ⟨b, 0, none⟩))).run Tryz.prog w = .ok (.agg (GL g A).toArray) w := by
  obtain ⟨d, h1, h2⟩ := row31
  exact run_loadAt_mid w b 0 _ (GL g A) d (range_of hB 0 29 (GL_all g A)) h1 h2 (info_size size31 (GL_len g A))
theorem h_move {P : Program} {o : Oper} {a : Act} {w : World} {K : Act → World → Prop} {Q : Exit → Act → World → Prop} {x : Operand} (ho : o.op = .move x) {v : Value} (hx : a.eval x = v) (hK : K (a.put o.dst v) w) : Wrp (o.wp P a w K Q) := h_run (by simp [execOp, ho, hx]) hK
theorem h_assign {P : Program} {o : Oper} {a : Act} {w : World} {K : Act → World → Prop} {Q : Exit → Act → World → Prop} {x : Operand} (ho : o.op = .assign x) {v : Value} (hx : a.eval x = v) (hK : K (a.put o.dst v) w) : Wrp (o.wp P a w K Q) := h_run (by simp [execOp, ho, hx]) hK
theorem h_extract {P : Program} {o : Oper} {a : Act} {w : World} {K : Act → World → Prop} {Q : Exit → Act → World → Prop} {x : Operand} {i : Nat} (ho : o.op = .extract x i) {vs : Array Value} {v : Value} (hx : a.eval x = .tuple vs) (hv : vs[i]? = some v) (hK : K (a.put o.dst v) w) : Wrp (o.wp P a w K Q) := h_run (by generalize a.eval = f at hx; simp [execOp, ho, hx, hv, go_sem]) hK
end Go.Proofs.YteabfjpajgakiagGreat
