/- GrJ, Grow, GrowI, PkB, GrO0, ReC0, GrH, GrI, GrK. -/
import Derived.Deep.RegionHeld3
import Derived.ArgAppend
import Derived.Great.BuildSlice
import Derived.Deep.MidRow
import Derived.Test.YteabfjpajgakiagGreatJ00
import Derived.Test.YteabfjpajgakiagGreatJ02
import Derived.Test.YteabfjpajgakiagGreatJ13
import Derived.Test.YteabfjpajgakiagGreatJ14
import Derived.Test.YteabfjpajgakiagGreatJ18
import Derived.Test.YteabfjpajgakiagGreatJ19
/- The hall's run. -/
set_option linter.unusedSimpArgs false
set_option linter.unusedVariables false
set_option maxRecDepth 10000
namespace Go.Proofs.YteabfjpajgakiagGreat
open Go.RowKit

theorem idx_addr0 (b : Nat) (w : World) : (Instr.indexAt 29 (.pointer (some ⟨b, 8, none⟩)) (.int .i64 0)).run Tryz.prog w = .ok (.pointer (some ⟨b, 8, none⟩)) w := by kernel_rfl
theorem idx_addr1 (b : Nat) (w : World) : (Instr.indexAt 29 (.pointer (some ⟨b, 8, none⟩)) (.int .i64 1)).run Tryz.prog w = .ok (.pointer (some ⟨b, 15, none⟩)) w := by kernel_rfl
theorem idx_addr2 (b : Nat) (w : World) : (Instr.indexAt 29 (.pointer (some ⟨b, 8, none⟩)) (.int .i64 2)).run Tryz.prog w = .ok (.pointer (some ⟨b, 22, none⟩)) w := by kernel_rfl
theorem idx_addr (b k : Nat) (hk : k < 3) (w : World) : (Instr.indexAt 29 (.pointer (some ⟨b, 8, none⟩)) (.int .i64 (k : Int))).run Tryz.prog w = .ok (.pointer (some ⟨b, 8 + k * 7, none⟩)) w := by
  have : k = 0 ∨ k = 1 ∨ k = 2 := by omega
  rcases this with rfl | rfl | rfl
  · exact idx_addr0 b w
  · exact idx_addr1 b w
  · exact idx_addr2 b w
theorem y_index {ops : Array Oper} {S : World → Prop} {op : Oper} {a : Act} (hw : Region.wanted op (yielded ops a.tmps) = true) {x y : Operand} (ho : op.op = .indexAddr 29 x y) (b k : Nat) (hk : k < 3) (hx : a.eval x = .pointer (some ⟨b, 8, none⟩)) (hy : a.eval y = .int .i64 (k : Int)) : YieldsIf Tryz.prog ops S op (.pointer (some ⟨b, 8 + k * 7, none⟩)) a :=
  .inl ⟨hw, fun w _ => by
    unfold execOp
    simp only [ho, hx, hy, Sem.run_bind, idx_addr b k hk w, Result.andThen_ok, Sem.run_pure]⟩
def rnErr (g : Grp) (i n : Int) : Int := if inB i 0 2 then runErr g.log (nodeAt g i.toNat) n else 3
def rnNum (g : Grp) (i n : Int) : Int := if inB i 0 2 then runNum g.log (nodeAt g i.toNat) n else 0
def rnOut (g : Grp) (i n : Int) : St := runOut g.log (nodeAt g i.toNat) n

set_option maxHeartbeats 4000000 in
theorem hall_run_in (g : Grp) (A : Ad) (k : Nat) (hk3 : k < 3) (n : Int) (b : Nat) (w : World) (hG : GrAt w g A) (hB : CBox b (GL g A) w) : Calls Tryz.prog 27 #[.pointer (some ⟨b, 0, none⟩), .int .i64 k, .int .i64 n] w fun y w' => ∃ qa qc, (runErr g.log (nodeAt g k) n = 0 → OwnTab w.heap.size w' (.slice qa (runOut g.log (nodeAt g k) n).tab.length qc) (runOut g.log (nodeAt g k) n).tab ∧ CBox b (GL (setNode g k (runOut g.log (nodeAt g k) n)) (setNodeA A k qa qc)) w') ∧ y = .returned (.tuple #[.int .i64 (runNum g.log (nodeAt g k) n), .int .i64 (runErr g.log (nodeAt g k) n)]) ∧ But b w w' := by
  have HG : Hid (GrAt w g A) := hG
  have hbl := hB.lt (by rw [GL_len]; decide)
  have HB : Hid (CBox b (GL g A) w) := hB
  clear hG hB
  have HC : Hid (∀ W, Keeps w W → Calls Tryz.prog 46 #[logV g A, nodeV g A k, .int .i64 n] W fun y w' => ∃ qa qc, OwnTab W.heap.size w' (.slice qa (runOut g.log (nodeAt g k) n).tab.length qc) (runOut g.log (nodeAt g k) n).tab ∧ y = .returned (.tuple #[stV (runOut g.log (nodeAt g k) n) (.slice qa (runOut g.log (nodeAt g k) n).tab.length qc), .int .i64 (runNum g.log (nodeAt g k) n), .int .i64 (runErr g.log (nodeAt g k) n)]) ∧ Keeps W w') := fun W hk => by
    have hg := HG.out.keep hk
    exact node_run g.log (nodeAt g k) n _ _ A.ta A.tc W hg.base hg.tail (hg.tab k) hg.cap
  have HQ : Hid (runErr g.log (nodeAt g k) n ≠ 0 → runNum g.log (nodeAt g k) n = 0) := fun h => by unfold runNum; rw [if_neg (by simpa using h)]
  generalize runErr g.log (nodeAt g k) n = er at *
  generalize runNum g.log (nodeAt g k) n = nu at *
  generalize runOut g.log (nodeAt g k) n = s' at *
  have HIn : Hid (inB (k : Int) 0 2 = true) := inB_iff.2 ⟨by omega, by omega⟩
  go_enter Tryz.func27, Tryz.ntmps27
  go_wp2_with (go_at_call 45; refine (bound_in _ _ _ _).mono ?_; rw [HIn.out]; rintro y w' ⟨rfl, rfl⟩)
  go_cut [8, 9, 10] (fun p q r wc => ∃ sb qa qc, p = .pointer (some ⟨sb, 0, none⟩) ∧ q = .int .i64 nu ∧ r = .int .i64 er ∧ CBox sb (SC s' (.slice qa s'.tab.length qc)) wc ∧ Keeps w wc ∧ w.heap.size ≤ sb ∧ OwnTab w.heap.size wc (.slice qa s'.tab.length qc) s'.tab)
  case first =>
    refine wp_region_held_drew (S := fun W => Keeps w W) (by kernel_rfl) (Keeps.refl _).drew (fun hS => ?_)
    obtain ⟨V0, hV0⟩ : ∃ z, z = w.drew := ⟨_, rfl⟩
    rw [← hV0] at hS ⊢
    clear hV0
    refine wpAnyH_take (i := 0) (v := .pointer (some ⟨b, 0, none⟩)) rfl (by kernel_rfl) (by kernel_rfl) (by kernel_rfl) (fun _ _ _ h => h) (Or.inl ⟨by kernel_rfl, fun w _ => by kernel_rfl⟩) hS ?_
    refine wpAnyH_take (i := 1) (v := .pointer (some ⟨b, 0, none⟩)) rfl (by kernel_rfl) (by kernel_rfl) (by kernel_rfl) (fun _ _ _ h => h) (Or.inl ⟨by kernel_rfl, fun w _ => by kernel_rfl⟩) hS ?_
    refine wpAnyH_take (i := 2) (v := .pointer (some ⟨b, 0, none⟩)) rfl (by kernel_rfl) (by kernel_rfl) (by kernel_rfl) (fun _ _ _ h => h) (Or.inl ⟨by kernel_rfl, fun w _ => by kernel_rfl⟩) hS ?_
    refine wpAnyH_take (i := 3) (v := .pointer (some ⟨b, 0, none⟩)) rfl (by kernel_rfl) (by kernel_rfl) (by kernel_rfl) (fun _ _ _ h => h) (Or.inl ⟨by kernel_rfl, fun w _ => by kernel_rfl⟩) hS ?_
    refine wpAnyH_take (i := 4) (v := logV g A) rfl (by kernel_rfl) (by kernel_rfl) (by kernel_rfl) (fun _ _ _ h => h) (y_load28 (by kernel_rfl) rfl b (by kernel_rfl) (fun W h => HB.out.keep h (by rw [GL_len]; decide))) hS ?_
    refine wpAnyH_take (i := 5) (v := .pointer (some ⟨b, 0, none⟩)) rfl (by kernel_rfl) (by kernel_rfl) (by kernel_rfl) (fun _ _ _ h => h) (Or.inl ⟨by kernel_rfl, fun w _ => by kernel_rfl⟩) hS ?_
    refine wpAnyH_take (i := 6) (v := .int .i64 k) rfl (by kernel_rfl) (by kernel_rfl) (by kernel_rfl) (fun _ _ _ h => h) (Or.inl ⟨by kernel_rfl, fun w _ => by kernel_rfl⟩) hS ?_
    refine wpAnyH_take (i := 7) (v := .pointer (some ⟨b, 0, none⟩)) rfl (by kernel_rfl) (by kernel_rfl) (by kernel_rfl) (fun _ _ _ h => h) (Or.inl ⟨by kernel_rfl, fun w _ => by kernel_rfl⟩) hS ?_
    refine wpAnyH_take (i := 8) (v := .pointer (some ⟨b, 0, none⟩)) rfl (by kernel_rfl) (by kernel_rfl) (by kernel_rfl) (fun _ _ _ h => h) (Or.inl ⟨by kernel_rfl, fun w _ => by kernel_rfl⟩) hS ?_
    refine wpAnyH_take (i := 9) (v := .pointer (some ⟨b, 8, none⟩)) rfl (by kernel_rfl) (by kernel_rfl) (by kernel_rfl) (fun _ _ _ h => h) (Or.inl ⟨by kernel_rfl, fun w _ => by kernel_rfl⟩) hS ?_
    refine wpAnyH_take (i := 10) (v := .pointer (some ⟨b, 8 + k * 7, none⟩)) rfl (by kernel_rfl) (by kernel_rfl) (by kernel_rfl) (fun _ _ _ h => h) (y_index (by kernel_rfl) rfl b k hk3 (by kernel_rfl) (by kernel_rfl)) hS ?_
    refine wpAnyH_take (i := 11) (v := nodeV g A k) rfl (by kernel_rfl) (by kernel_rfl) (by kernel_rfl) (fun _ _ _ h => h) (y_load25 (by kernel_rfl) rfl b k hk3 (8 + k * 7) rfl (by kernel_rfl) (fun W h => HB.out.keep h (by rw [GL_len]; decide))) hS ?_
    refine wpAnyH_take (i := 12) (v := .int .i64 n) rfl (by kernel_rfl) (by kernel_rfl) (by kernel_rfl) (fun _ _ _ h => h) (Or.inl ⟨by kernel_rfl, fun w _ => by kernel_rfl⟩) hS ?_
    refine wpAnyH_ready (rs := [13, 18]) (by kernel_rfl) (by simp) ?_
    refine AllReadyH.wrp rfl (by kernel_rfl) (fun K hK => ?_) (AllReadyH.wrp rfl (by kernel_rfl) (fun K hK => ?_) (AllReadyH.nil))
    · have hV := hS.size
      refine h_call ?_
      go_simp
      refine (HC.out _ hS).mono ?_
      rintro y w2 ⟨qa, qc, ho, rfl, hb⟩
      go_simp
      refine hK.out _ _ (hS.trans hb) (fun hS => ?_)
      clear hK K
      refine wpAnyH_take (i := 14) (v := .tuple #[stV s' (.slice qa s'.tab.length qc), .int .i64 nu, .int .i64 er]) rfl (by kernel_rfl) (by kernel_rfl) (by kernel_rfl) (fun _ _ _ h => h) (Or.inl ⟨by kernel_rfl, fun w _ => by kernel_rfl⟩) hS ?_
      refine wpAnyH_take (i := 15) (v := stV s' (.slice qa s'.tab.length qc)) rfl (by kernel_rfl) (by kernel_rfl) (by kernel_rfl) (fun _ _ _ h => h) (Or.inl ⟨by kernel_rfl, fun w _ => by kernel_rfl⟩) hS ?_
      refine wpAnyH_take (i := 16) (v := .int .i64 nu) rfl (by kernel_rfl) (by kernel_rfl) (by kernel_rfl) (fun _ _ _ h => h) (Or.inl ⟨by kernel_rfl, fun w _ => by kernel_rfl⟩) hS ?_
      refine wpAnyH_take (i := 17) (v := .int .i64 er) rfl (by kernel_rfl) (by kernel_rfl) (by kernel_rfl) (fun _ _ _ h => h) (Or.inl ⟨by kernel_rfl, fun w _ => by kernel_rfl⟩) hS ?_
      refine wpAnyH_ready (rs := [18]) (by kernel_rfl) (by simp) ?_
      refine AllReadyH.wrp rfl (by kernel_rfl) (fun K hK => ?_) (AllReadyH.nil)
      have hSS := hS
      refine h_alloc25 rfl ?_
      intro w3 sb hBsb hksb hlsb hgsb
      have hsg : w.heap.size ≤ sb := Nat.le_trans hSS.size hgsb
      refine hK.out _ _ (hS.trans hksb) (fun hS => ?_)
      clear hK K
      refine wpAnyH_ready (rs := [19]) (by kernel_rfl) (by simp) ?_
      refine AllReadyH.wrp rfl (by kernel_rfl) (fun K hK => ?_) (AllReadyH.nil)
      refine h_store25b rfl sb (by kernel_rfl) (s := s') (xa := qa) (xn := s'.tab.length) (xc := qc) (by kernel_rfl) (hBsb) ?_
      intro w4 hSw4 hTw4
      have k24 : Keeps w2 w4 := But.to hksb hgsb hTw4
      refine hK.out _ _ (But.to hS hsg hTw4) (fun hS => ?_)
      clear hK K
      refine wpAnyH_take (i := 20) (v := .int .i64 nu) rfl (by kernel_rfl) (by kernel_rfl) (by kernel_rfl) (fun _ _ _ h => h) (Or.inl ⟨by kernel_rfl, fun w _ => by kernel_rfl⟩) hS ?_
      refine wpAnyH_take (i := 21) (v := .int .i64 er) rfl (by kernel_rfl) (by kernel_rfl) (by kernel_rfl) (fun _ _ _ h => h) (Or.inl ⟨by kernel_rfl, fun w _ => by kernel_rfl⟩) hS ?_
      refine wpAnyH_done (by kernel_rfl) ?_ _
      go_wp2_with fail
      go_meet
      exact ⟨sb, qa, qc, rfl, rfl, rfl, hSw4, hS, hsg, (ho.keep k24).base hV⟩
    · have hV := hS.size
      refine h_alloc25 rfl ?_
      intro w3 sb hBsb hksb hlsb hgsb
      have hV3 := Nat.le_trans hV hksb.size
      have hsg := Nat.le_trans hV hgsb
      refine hK.out _ _ (hS.trans hksb) (fun hS => ?_)
      clear hK K
      refine wpAnyH_ready (rs := [13]) (by kernel_rfl) (by simp) ?_
      refine AllReadyH.wrp rfl (by kernel_rfl) (fun K hK => ?_) (AllReadyH.nil)
      refine h_call ?_
      go_simp
      refine (HC.out _ hS).mono ?_
      rintro y w2 ⟨qa, qc, ho, rfl, hb⟩
      go_simp
      refine hK.out _ _ (hS.trans hb) (fun hS => ?_)
      clear hK K
      refine wpAnyH_take (i := 14) (v := .tuple #[stV s' (.slice qa s'.tab.length qc), .int .i64 nu, .int .i64 er]) rfl (by kernel_rfl) (by kernel_rfl) (by kernel_rfl) (fun _ _ _ h => h) (Or.inl ⟨by kernel_rfl, fun w _ => by kernel_rfl⟩) hS ?_
      refine wpAnyH_take (i := 15) (v := stV s' (.slice qa s'.tab.length qc)) rfl (by kernel_rfl) (by kernel_rfl) (by kernel_rfl) (fun _ _ _ h => h) (Or.inl ⟨by kernel_rfl, fun w _ => by kernel_rfl⟩) hS ?_
      refine wpAnyH_take (i := 16) (v := .int .i64 nu) rfl (by kernel_rfl) (by kernel_rfl) (by kernel_rfl) (fun _ _ _ h => h) (Or.inl ⟨by kernel_rfl, fun w _ => by kernel_rfl⟩) hS ?_
      refine wpAnyH_take (i := 17) (v := .int .i64 er) rfl (by kernel_rfl) (by kernel_rfl) (by kernel_rfl) (fun _ _ _ h => h) (Or.inl ⟨by kernel_rfl, fun w _ => by kernel_rfl⟩) hS ?_
      refine wpAnyH_ready (rs := [19]) (by kernel_rfl) (by simp) ?_
      refine AllReadyH.wrp rfl (by kernel_rfl) (fun K hK => ?_) (AllReadyH.nil)
      refine h_store25b rfl sb (by kernel_rfl) (s := s') (xa := qa) (xn := s'.tab.length) (xc := qc) (by kernel_rfl) (hBsb.keep hb (Nat.le_of_ble_eq_true rfl)) ?_
      intro w4 hSw4 hTw4
      refine hK.out _ _ (But.to hS hsg hTw4) (fun hS => ?_)
      clear hK K
      refine wpAnyH_take (i := 20) (v := .int .i64 nu) rfl (by kernel_rfl) (by kernel_rfl) (by kernel_rfl) (fun _ _ _ h => h) (Or.inl ⟨by kernel_rfl, fun w _ => by kernel_rfl⟩) hS ?_
      refine wpAnyH_take (i := 21) (v := .int .i64 er) rfl (by kernel_rfl) (by kernel_rfl) (by kernel_rfl) (fun _ _ _ h => h) (Or.inl ⟨by kernel_rfl, fun w _ => by kernel_rfl⟩) hS ?_
      refine wpAnyH_done (by kernel_rfl) ?_ _
      go_wp2_with fail
      go_meet
      exact ⟨sb, qa, qc, rfl, rfl, rfl, hSw4, hS, hsg, (ho.but hlsb hTw4).base hV3⟩
  case rest =>
    obtain ⟨sb, qa, qc, rfl, rfl, rfl, hL, hk, hsg, ho⟩ := hcut
    have HK2 : Hid (Keeps w wc) := hk
    have HB2 : Hid (CBox b (GL g A) wc) := HB.out.keep hk (by rw [GL_len]; decide)
    have HO : Hid (OwnTab w.heap.size wc (.slice qa s'.tab.length qc) s'.tab) := ho
    clear hk ho HC HB
    cases q : (er == 0) with
    | false =>
      have q' : (er != 0) = true := by simp [bne, q]
      have q0 : er ≠ 0 := by simpa using q
      have HA : Hid (nu = 0) := HQ.out q0
      clear HQ
      go_wp2_with fail
      go_ret2
      refine ⟨none, 0, fun h => absurd h q0, ?_, But.of HK2.out⟩
      rw [HA.out]
      rfl
    | true =>
      have q' : (er != 0) = false := by simp [bne, q]
      have q0 : er = 0 := by simpa using q
      clear HQ
      go_wp2_with fail
      refine wp_region_held_drew (S := fun W => CBox sb (SC s' (.slice qa s'.tab.length qc)) W) (by kernel_rfl) (hL.keep (Keeps.refl _).drew (Nat.le_of_ble_eq_true rfl)) (fun hS => ?_)
      obtain ⟨V0, hV0⟩ : ∃ z, z = wc.drew := ⟨_, rfl⟩
      have hk0 : Keeps wc V0 := by rw [hV0]; exact (Keeps.refl _).drew
      rw [← hV0] at hS ⊢
      clear hV0
      refine wpAnyH_take (i := 0) (v := .pointer (some ⟨b, 0, none⟩)) rfl (by kernel_rfl) (by kernel_rfl) (by kernel_rfl) (fun _ _ _ h => h) (Or.inl ⟨by kernel_rfl, fun w _ => by kernel_rfl⟩) hS ?_
      refine wpAnyH_take (i := 1) (v := .int .i64 k) rfl (by kernel_rfl) (by kernel_rfl) (by kernel_rfl) (fun _ _ _ h => h) (Or.inl ⟨by kernel_rfl, fun w _ => by kernel_rfl⟩) hS ?_
      refine wpAnyH_take (i := 2) (v := stV s' (.slice qa s'.tab.length qc)) rfl (by kernel_rfl) (by kernel_rfl) (by kernel_rfl) (fun _ _ _ h => h) (y_load25b (by kernel_rfl) rfl sb (by kernel_rfl) (fun W h => h)) hS ?_
      refine wpAnyH_take (i := 3) (v := .pointer (some ⟨b, 0, none⟩)) rfl (by kernel_rfl) (by kernel_rfl) (by kernel_rfl) (fun _ _ _ h => h) (Or.inl ⟨by kernel_rfl, fun w _ => by kernel_rfl⟩) hS ?_
      refine wpAnyH_take (i := 4) (v := .pointer (some ⟨b, 0, none⟩)) rfl (by kernel_rfl) (by kernel_rfl) (by kernel_rfl) (fun _ _ _ h => h) (Or.inl ⟨by kernel_rfl, fun w _ => by kernel_rfl⟩) hS ?_
      refine wpAnyH_take (i := 5) (v := .pointer (some ⟨b, 8, none⟩)) rfl (by kernel_rfl) (by kernel_rfl) (by kernel_rfl) (fun _ _ _ h => h) (Or.inl ⟨by kernel_rfl, fun w _ => by kernel_rfl⟩) hS ?_
      refine wpAnyH_take (i := 6) (v := .pointer (some ⟨b, 8 + k * 7, none⟩)) rfl (by kernel_rfl) (by kernel_rfl) (by kernel_rfl) (fun _ _ _ h => h) (y_index (by kernel_rfl) rfl b k hk3 (by kernel_rfl) (by kernel_rfl)) hS ?_
      refine wpAnyH_ready (rs := [7]) (by kernel_rfl) (by simp) ?_
      refine AllReadyH.wrp rfl (by kernel_rfl) (fun K hK => ?_) (AllReadyH.nil)
      refine h_store25 rfl b k hk3 (8 + k * 7) rfl (by kernel_rfl) (s := s') (xa := qa) (xc := qc) (by kernel_rfl) (HB2.out.keep hk0 (by rw [GL_len]; decide)) ?_
      intro w5 hSw5 hTw5
      refine hK.out _ _ (hS.other hTw5 (by omega) (Nat.le_of_ble_eq_true rfl)) (fun hS => ?_)
      clear hK K
      refine wpAnyH_done (by kernel_rfl) ?_ _
      go_wp2_with fail
      go_ret2
      refine ⟨qa, qc, fun _ => ⟨(HO.out.keep hk0).but hbl hTw5, hSw5⟩, ?_, (But.of (HK2.out.trans hk0)).trans hTw5⟩
      rw [q0]
      rfl

set_option maxHeartbeats 1000000 in
theorem hall_run (g : Grp) (A : Ad) (i n : Int) (b : Nat) (w : World) (hG : GrAt w g A) (hB : CBox b (GL g A) w) : Calls Tryz.prog 27 #[.pointer (some ⟨b, 0, none⟩), .int .i64 i, .int .i64 n] w fun y w' => ∃ qa qc, (rnErr g i n = 0 → OwnTab w.heap.size w' (.slice qa (rnOut g i n).tab.length qc) (rnOut g i n).tab ∧ CBox b (GL (setNode g i.toNat (rnOut g i n)) (setNodeA A i.toNat qa qc)) w') ∧ y = .returned (.tuple #[.int .i64 (rnNum g i n), .int .i64 (rnErr g i n)]) ∧ But b w w' := by
  cases hi : inB i 0 2 with
  | true =>
    have h' := inB_iff.1 hi
    obtain ⟨k, rfl⟩ : ∃ k : Nat, i = k := ⟨i.toNat, by omega⟩
    have := hall_run_in g A k (by omega) n b w hG hB
    unfold rnErr rnNum rnOut
    simp only [hi, if_true, Int.toNat_natCast]
    exact this
  | false =>
    have HIn : Hid (inB i 0 2 = false) := hi
    have e1 : rnErr g i n = 3 := by unfold rnErr; rw [hi]; rfl
    have e2 : rnNum g i n = 0 := by unfold rnNum; rw [hi]; rfl
    rw [e1, e2]
    clear hG hB hi e1 e2
    go_enter Tryz.func27, Tryz.ntmps27
    go_wp2_with (go_at_call 45; refine (bound_in _ _ _ _).mono ?_; rw [HIn.out]; rintro y w' ⟨rfl, rfl⟩)
    go_ret2
    exact ⟨none, 0, fun h => (by cases h), rfl, But.refl _ _⟩
end Go.Proofs.YteabfjpajgakiagGreat

/- A region that draws its order: whatever the order, each operation's value meets a condition of its own; the conditions stand when memory is added, and, where an operation writes (a store, an append in its place: 'special'), as far as that operation's own frame keeps them. -/
set_option linter.unusedSimpArgs false
set_option linter.unusedVariables false
namespace Go.Proofs.YteabfjpajgakiagGreat
open Go.RowKit

/-- A condition on a value that stands when memory is added. -/
structure Pr where
  p : Value → World → Prop
  keep : ∀ v W W', p v W → Keeps W W' → p v W'
def Pr.any : Pr := ⟨fun _ _ => True, fun _ _ _ _ _ => trivial⟩
def Pr.is (x : Value) : Pr := ⟨fun v _ => v = x, fun _ _ _ h _ => h⟩

def prAt : List Pr → Nat → Pr
  | [], _ => Pr.any
  | r :: _, 0 => r
  | _ :: rs, i + 1 => prAt rs i

def fillL : List (Option Tmp) → (Nat → Value) → Nat → Act → Act
  | [], _, _, a => a
  | d :: ds, vs, k, a => fillL ds vs (k + 1) (a.put d (vs k))

theorem put_twice (a : Act) (d : Option Tmp) (x y : Value) : (a.put d x).put d y = a.put d y := by
  cases d <;> simp [Act.put]
theorem put_comm' (a : Act) {d e : Option Tmp} (x y : Value) (h : ∀ t, d = some t → e ≠ some t) : (a.put d x).put e y = (a.put e y).put d x := by
  cases d with
  | none => rfl
  | some d =>
    cases e with
    | none => rfl
    | some e =>
      simp only [Act.put]
      rw [Array.setIfInBounds_comm _ _ (fun q => h d rfl (by rw [q]))]
/-- No slot is written twice. -/
def apartB : List (Option Tmp) → Bool
  | [] => true
  | none :: ds => apartB ds
  | some d :: ds => !ds.contains (some d) && apartB ds
theorem fillL_comm {d : Option Tmp} : ∀ (ds : List (Option Tmp)) (vs : Nat → Value) (k : Nat) (a : Act) (v : Value), (∀ t, d = some t → some t ∉ ds) → (fillL ds vs k a).put d v = fillL ds vs k (a.put d v)
  | [], _, _, _, _, _ => rfl
  | e :: ds, vs, k, a, v, h => by
    simp only [fillL]
    rw [fillL_comm ds vs (k + 1) _ v (fun t ht hm => h t ht (List.mem_cons_of_mem _ hm)), put_comm' a (vs k) v (fun t ht hd => h t hd (by rw [ht]; exact List.mem_cons_self ..))]
theorem fillL_congr : ∀ (ds : List (Option Tmp)) (vs vs' : Nat → Value) (k : Nat) (a : Act), (∀ j, k ≤ j → vs j = vs' j) → fillL ds vs k a = fillL ds vs' k a
  | [], _, _, _, _, _ => rfl
  | d :: ds, vs, vs', k, a, h => by
    simp only [fillL]
    rw [h k (Nat.le_refl _)]
    exact fillL_congr ds vs vs' (k + 1) _ (fun j hj => h j (by omega))
theorem fillL_put {d : Option Tmp} : ∀ (ds : List (Option Tmp)) (vs : Nat → Value) (k i : Nat) (a : Act) (v : Value), apartB ds = true → ds[i]? = some d → (fillL ds vs k a).put d v = fillL ds (fun j => if j = k + i then v else vs j) k a
  | [], _, _, i, _, _, _, h => by simp at h
  | e :: ds, vs, k, 0, a, v, hn, h => by
    obtain rfl : e = d := by simpa using h
    simp only [fillL]
    rw [fillL_comm ds vs (k + 1) _ v (fun t ht hm => by subst ht; simp [apartB] at hn; exact hn.1 hm), put_twice]
    simp only [Nat.add_zero, if_true]
    exact fillL_congr ds _ _ (k + 1) _ (fun j hj => by simp [show j ≠ k by omega])
  | e :: ds, vs, k, i + 1, a, v, hn, h => by
    have hn' : apartB ds = true := by
      cases e with
      | none => exact hn
      | some e => simp [apartB] at hn; exact hn.2
    simp only [fillL]
    rw [fillL_put ds vs (k + 1) i _ v hn' (by simpa using h)]
    simp only [show k ≠ k + (i + 1) by omega, if_false]
    exact fillL_congr ds _ _ (k + 1) _ (fun j hj => by simp [show k + 1 + i = k + (i + 1) by omega])

def cntU (listed : Array Bool) : Nat → Nat
  | 0 => 0
  | n + 1 => cntU listed n + (if listed.getD n false = true then 0 else 1)
theorem getD_set {listed : Array Bool} {i : Nat} (hi : i < listed.size) (j : Nat) : (listed.setIfInBounds i true).getD j false = if j = i then true else listed.getD j false := by
  simp only [Array.getD_eq_getD_getElem?, Array.getElem?_setIfInBounds]
  by_cases h : i = j
  · subst h; simp [hi]
  · rw [if_neg h, if_neg (fun e => h e.symm)]
theorem cnt_ge {listed : Array Bool} {i : Nat} (hi : i < listed.size) : ∀ n, n ≤ i → cntU (listed.setIfInBounds i true) n = cntU listed n
  | 0, _ => rfl
  | n + 1, h => by
    simp only [cntU]
    rw [cnt_ge hi n (by omega), getD_set hi, if_neg (by omega : ¬ n = i)]
theorem cnt_lt {listed : Array Bool} {i : Nat} (hi : i < listed.size) (hu : listed.getD i false = false) : ∀ n, i < n → cntU listed n = cntU (listed.setIfInBounds i true) n + 1
  | 0, h => by omega
  | n + 1, h => by
    simp only [cntU]
    by_cases hn : i = n
    · subst hn
      rw [cnt_ge hi i (Nat.le_refl _), getD_set hi, hu]
      simp
    · rw [cnt_lt hi hu n (by omega), getD_set hi, if_neg (by omega : ¬ n = i)]
      omega
theorem cnt_zero {listed : Array Bool} : ∀ n, cntU listed n = 0 → ∀ i, i < n → listed.getD i false = true
  | 0, _, i, h => by omega
  | n + 1, h, i, hi => by
    simp only [cntU] at h
    by_cases hn : i = n
    · subst hn
      cases q : listed.getD i false with
      | true => rfl
      | false => rw [q] at h; simp at h
    · exact cnt_zero n (by omega) i (by omega)
theorem cnt_pos {listed : Array Bool} : ∀ n, cntU listed n ≠ 0 → ∃ i, i < n ∧ listed.getD i false = false
  | 0, h => absurd rfl h
  | n + 1, h => by
    simp only [cntU] at h
    cases q : listed.getD n false with
    | false => exact ⟨n, by omega, q⟩
    | true =>
      rw [q] at h
      obtain ⟨i, hi, hu⟩ := cnt_pos n (by simpa using h)
      exact ⟨i, by omega, hu⟩

/-- j waits for i. -/
def waitB (ops : Array Oper) (j i : Nat) : Bool := ((ops[j]?).map fun o => o.after.any fun e => Region.binds .any e && e.on == i).getD false
/-- None waits for one behind it. -/
def growB (ops : Array Oper) : Bool := (List.range ops.size).all fun i => ((ops[i]?).map fun o => o.after.all fun e => !Region.binds .any e || decide (e.on < i)).getD false
theorem grow_back {ops : Array Oper} (h : growB ops = true) : ∀ i, i < ops.size → ∃ o, ops[i]? = some o ∧ ∀ e ∈ o.after, Region.binds .any e = true → e.on < i := by
  simp only [growB, List.all_eq_true, List.mem_range] at h
  intro i hi
  have := h i hi
  cases ho : ops[i]? with
  | none => rw [ho] at this; cases this
  | some o =>
    rw [ho] at this
    simp only [Option.map_some, Option.getD_some, Array.all_eq_true', Bool.or_eq_true, Bool.not_eq_true', decide_eq_true_eq] at this
    refine ⟨o, rfl, fun e he hb => ?_⟩
    rcases this e he with h' | h'
    · rw [hb] at h'; cases h'
    · exact h'

structure Listed (ops : Array Oper) (listed : Array Bool) : Prop where
  size : listed.size = ops.size
  down : ∀ j, listed.getD j false = true → ∀ o, ops[j]? = some o → ∀ e ∈ o.after, Region.binds .any e = true → listed.getD e.on false = true

theorem waitB_iff {ops : Array Oper} {j i : Nat} (h : waitB ops j i = true) : ∃ o, ops[j]? = some o ∧ ∃ e ∈ o.after, Region.binds .any e = true ∧ e.on = i := by
  unfold waitB at h
  cases ho : ops[j]? with
  | none => rw [ho] at h; cases h
  | some o =>
    rw [ho] at h
    simp only [Option.map_some, Option.getD_some, Array.any_eq_true', Bool.and_eq_true, beq_iff_eq] at h
    obtain ⟨e, he, hb, hk⟩ := h
    exact ⟨o, rfl, e, he, hb, hk⟩
theorem getD_both {listed : Array Bool} {i : Nat} (hi : i < listed.size) : listed.getD i true = listed.getD i false := by
  simp [Array.getD, hi]
theorem grow_some {ops : Array Oper} (G : ∀ i, i < ops.size → ∃ o, ops[i]? = some o ∧ ∀ e ∈ o.after, Region.binds .any e = true → e.on < i) {listed : Array Bool} (L : Listed ops listed) : ∀ k u, u ≤ k → u < ops.size → listed.getD u false = false → ∃ i, i ∈ Region.ready .any ops listed := by
  intro k
  induction k with
  | zero =>
    intro u hk hu hul
    obtain ⟨o, ho, hb⟩ := G u hu
    exact ⟨u, mem_ready.2 ⟨by rw [getD_both (by rw [L.size]; omega)]; exact hul, o, ho, fun e he hbd => by have := hb e he hbd; omega⟩⟩
  | succ k ih =>
    intro u hk hu hul
    obtain ⟨o, ho, hb⟩ := G u hu
    by_cases hall : ∀ e ∈ o.after, Region.binds .any e = true → listed.getD e.on false = true
    · exact ⟨u, mem_ready.2 ⟨by rw [getD_both (by rw [L.size]; omega)]; exact hul, o, ho, hall⟩⟩
    · have : ∃ e, e ∈ o.after ∧ Region.binds .any e = true ∧ listed.getD e.on false = false := by
        apply Classical.byContradiction
        intro hc
        refine hall (fun e he hbd => ?_)
        cases q : listed.getD e.on false with
        | true => rfl
        | false => exact absurd ⟨e, he, hbd, q⟩ hc
      obtain ⟨e, he, hbd, q⟩ := this
      have := hb e he hbd
      exact ih e.on (by omega) (by omega) q

/-- It comes behind k. -/
def reachB (ops : Array Oper) : Nat → Nat → Nat → Bool
  | 0, _, _ => false
  | f + 1, i, k => waitB ops i k || (List.range i).any fun j => waitB ops i j && reachB ops f j k
theorem reach_listed {ops : Array Oper} {listed : Array Bool} (L : Listed ops listed) : ∀ f i k, reachB ops f i k = true → listed.getD i false = true → listed.getD k false = true
  | 0, _, _, h, _ => by cases h
  | f + 1, i, k, h, hl => by
    have one : ∀ j, waitB ops i j = true → listed.getD j false = true := fun j hw => by
      obtain ⟨o, ho, e, he, hb, rfl⟩ := waitB_iff hw
      exact L.down i hl o ho e he hb
    simp only [reachB, Bool.or_eq_true, List.any_eq_true, Bool.and_eq_true] at h
    rcases h with h | ⟨j, _, h1, h2⟩
    · exact one k h
    · exact reach_listed L f j k h2 (one j h1)

/-- An operation that writes: its number, the numbers whose conditions it ends, its frame. -/
structure Wr where
  num : Nat
  dead : List Nat
  frame : World → World → Prop
def Fr (xs : List Wr) (w0 : World) (i : Nat) (W W' : World) : Prop := ((∀ x ∈ xs, x.num ≠ i) → Keeps W W') ∧ Keeps w0 W' ∧ ∀ x ∈ xs, x.num = i → x.frame W W'
theorem Fr.of {xs : List Wr} {w0 : World} {i : Nat} {W W' : World} (h : ∀ x ∈ xs, x.num ≠ i) (h0 : Keeps w0 W) (hk : Keeps W W') : Fr xs w0 i W W' := ⟨fun _ => hk, h0.trans hk, fun x hx e => absurd e (h x hx)⟩

/-- What i may use of j. -/
def mayB (ops : Array Oper) (xs : List Wr) (i j : Nat) : Bool := waitB ops i j && xs.all fun x => !x.dead.contains j || (x.num == i || reachB ops ops.size x.num i)

theorem rep_false (N k : Nat) : (Array.replicate N false).getD k false = false := by
  by_cases h : k < N <;> simp [Array.getD, h]

end Go.Proofs.YteabfjpajgakiagGreat

/- The rule for drawn regions, with an invariant of one's own. -/
set_option linter.unusedSimpArgs false
set_option linter.unusedVariables false
namespace Go.Proofs.YteabfjpajgakiagGreat
open Go.RowKit

def FrI (xs : List Wr) (I : World → Prop) (i : Nat) (W W' : World) : Prop := ((∀ x ∈ xs, x.num ≠ i) → Keeps W W') ∧ I W' ∧ ∀ x ∈ xs, x.num = i → x.frame W W'
theorem FrI.of {xs : List Wr} {I : World → Prop} {i : Nat} {W W' : World} (h : ∀ x ∈ xs, x.num ≠ i) (h0 : I W') (hk : Keeps W W') : FrI xs I i W W' := ⟨fun _ => hk, h0, fun x hx e => absurd e (h x hx)⟩

/-- What one operation is to do. -/
structure GrowStepI (P : Program) (l : List Oper) (Q : Exit → Act → World → Prop) (a0 : Act) (I : World → Prop) (J : Pr) (ds : List (Option Tmp)) (R : List Pr) (xs : List Wr) (i : Nat) : Prop where
  out : ∀ (vs : Nat → Value) (W : World), I W → ((xs.all fun x => x.num == i || reachB l.toArray l.toArray.size x.num i) = true → J.p undef W) → (∀ j, mayB l.toArray xs i j = true → (prAt R j).p (vs j) W) →
    ∀ K : Act → World → Prop, Shut (∀ a' v W', a' = (fillL ds vs 0 a0).put (ds.getD i none) v → FrI xs I i W W' → (prAt R i).p v W' → K a' W') →
      match l[i]? with
      | none => False
      | some o => if Region.wanted o (yielded l.toArray (fillL ds vs 0 a0).tmps) = true then o.wp P (fillL ds vs 0 a0) W K Q else K ((fillL ds vs 0 a0).put o.dst undef) W

theorem growI_all {P : Program} {l : List Oper} {Q : Exit → Act → World → Prop} {a0 : Act} {I : World → Prop} {J : Pr} {ds : List (Option Tmp)} {R : List Pr} {xs : List Wr} (hds : l.map (·.dst) = ds) (hnd : apartB ds = true) (hG : growB l.toArray = true)
    (hstep : ∀ i, i < l.length → GrowStepI P l Q a0 I J ds R xs i)
    (hF : ∀ x ∈ xs, ∀ j, j < l.length → j ∉ x.dead → j ≠ x.num → reachB l.toArray l.toArray.size j x.num = false → ∀ v W W', (prAt R j).p v W → x.frame W W' → (prAt R j).p v W')
    (hend : ∀ vs W, I W → (∀ i, i < l.length → (∀ x ∈ xs, i ∉ x.dead) → (prAt R i).p (vs i) W) → Q .normal (fillL ds vs 0 a0) W) :
    ∀ c (listed : Array Bool) (vs : Nat → Value) (W : World), cntU listed l.length = c → Listed l.toArray listed → I W → ((∀ x ∈ xs, listed.getD x.num false = false) → J.p undef W) → (∀ i, i < l.length → listed.getD i false = true → (∀ x ∈ xs, listed.getD x.num false = true → i ∉ x.dead) → (prAt R i).p (vs i) W) →
      wpAny P .any l.toArray Q c listed (fillL ds vs 0 a0) W := by
  have G := grow_back hG
  have hN : l.toArray.size = l.length := by simp
  intro c
  induction c with
  | zero =>
    intro listed vs W hc L hk hJ hR
    have hall := cnt_zero l.length hc
    refine ⟨?_, hend vs W hk (fun i hi hd => hR i hi (hall i hi) (fun x hx _ => hd x hx))⟩
    apply List.eq_nil_iff_forall_not_mem.2
    intro i hi
    obtain ⟨h1, o, ho, _⟩ := mem_ready.1 hi
    have hil : i < l.length := by have := size_of ho; omega
    rw [getD_both (by rw [L.size]; omega), hall i hil] at h1
    cases h1
  | succ c ih =>
    intro listed vs W hc L hk hJ hR
    obtain ⟨u, hu, hul⟩ := cnt_pos l.length (by omega : cntU listed l.length ≠ 0)
    refine ⟨fun h0 => ?_, fun i hi => ?_⟩
    · obtain ⟨i, hi⟩ := grow_some G L u u (Nat.le_refl _) (by omega) hul
      rw [h0] at hi
      cases hi
    · obtain ⟨h1, o, ho, ha⟩ := mem_ready.1 hi
      have hin : i < l.length := by have := size_of ho; omega
      have his : i < listed.size := by rw [L.size]; omega
      have hiu : listed.getD i false = false := by rw [← getD_both his]; exact h1
      have hlo : l[i]? = some o := by simpa using ho
      have hdst : o.dst = ds.getD i none ∧ ds[i]? = some (ds.getD i none) := by
        have e1 : (l.map (·.dst))[i]? = some o.dst := by simp [hlo]
        rw [hds] at e1
        have e2 : ds.getD i none = o.dst := by simp [List.getD, e1]
        exact ⟨e2.symm, by rw [e2]; exact e1⟩
      have hs := (hstep i hin).out vs W hk (fun hall => hJ (fun x hx => by
        simp only [List.all_eq_true, Bool.or_eq_true, beq_iff_eq] at hall
        rcases hall x hx with h' | h'
        · rw [h']; exact hiu
        · cases q : listed.getD x.num false with
          | false => rfl
          | true =>
            have := reach_listed L _ x.num i h' q
            rw [hiu] at this
            cases this)) (fun j hw => by
        simp only [mayB, Bool.and_eq_true, List.all_eq_true, Bool.or_eq_true, Bool.not_eq_true', beq_iff_eq] at hw
        obtain ⟨o', ho', e, he, hb, rfl⟩ := waitB_iff hw.1
        rw [ho] at ho'
        cases ho'
        obtain ⟨o2, ho2, hb2⟩ := G i (by omega)
        rw [ho] at ho2
        cases ho2
        refine hR e.on (by have := hb2 e he hb; omega) (ha e he hb) (fun x hx hxl => ?_)
        rcases hw.2 x hx with h' | h' | h'
        · intro hm
          rw [List.contains_iff_mem.2 hm] at h'
          cases h'
        · rw [h', hiu] at hxl; cases hxl
        · have := reach_listed L _ x.num i h' hxl
          rw [hiu] at this
          cases this)
      refine wpOp_step ho (fun K hK => ?_)
      have hs' := hs K (fun a' v W' ha' hfr hv => by
        subst ha'
        refine hK _ _ ?_
        rw [fillL_put ds vs 0 i a0 v hnd hdst.2, Nat.zero_add]
        refine ih (listed.setIfInBounds i true) _ W' (by have := cnt_lt his hiu l.length hin; omega) ⟨by rw [Array.size_setIfInBounds]; exact L.size, ?_⟩ hfr.2.1 ?_ ?_
        · intro j hj o' ho' e he hb
          rw [getD_set his] at hj ⊢
          by_cases hje : j = i
          · subst hje
            rw [ho] at ho'
            cases ho'
            rw [ha e he hb]
            simp
          · rw [if_neg hje] at hj
            rw [L.down j hj o' ho' e he hb]
            simp
        · intro hno
          have hni : ∀ x ∈ xs, x.num ≠ i := fun x hx e => by
            have := hno x hx
            rw [getD_set his, if_pos e] at this
            cases this
          refine J.keep _ _ _ (hJ (fun x hx => ?_)) (hfr.1 hni)
          have := hno x hx
          rw [getD_set his, if_neg (hni x hx)] at this
          exact this
        · intro j hj hjl hjd
          rw [getD_set his] at hjl
          by_cases hje : j = i
          · subst hje
            simp only [if_true]
            exact hv
          · rw [if_neg hje] at hjl
            simp only [if_neg hje]
            have hold : (prAt R j).p (vs j) W := hR j hj hjl (fun x hx hxl => hjd x hx (by rw [getD_set his, hxl, ite_self]))
            by_cases hix : ∃ x, x ∈ xs ∧ x.num = i
            · obtain ⟨x, hx, rfl⟩ := hix
              refine hF x hx j hj (hjd x hx (by rw [getD_set his, if_pos rfl])) hje ?_ _ W W' hold (hfr.2.2 x hx rfl)
              cases q : reachB l.toArray l.toArray.size j x.num with
              | false => rfl
              | true =>
                have := reach_listed L _ j x.num q hjl
                rw [hiu] at this
                cases this
            · exact (prAt R j).keep _ _ _ hold (hfr.1 (fun x hx e => hix ⟨x, hx, e⟩)))
      rw [hlo] at hs'
      simp only at hs'
      exact hs'

/-- THE RULE. -/
theorem wp_region_growI {P : Program} {id : Nat} {Q : Exit → Act → World → Prop} {a0 : Act} {w : World} {l : List Oper} (I : World → Prop) (hI : I w.drew) (J : Pr) (hJ : J.p undef w.drew) (ds : List (Option Tmp)) (R : List Pr) (xs : List Wr) (hm : P.follows .mixedOrders = true) (hds : l.map (·.dst) = ds) (hnd : apartB ds = true) (hG : growB l.toArray = true)
    (hstep : ∀ i, i < l.length → GrowStepI P l Q a0 I J ds R xs i)
    (hF : ∀ x ∈ xs, ∀ j, j < l.length → j ∉ x.dead → j ≠ x.num → reachB l.toArray l.toArray.size j x.num = false → ∀ v W W', (prAt R j).p v W → x.frame W W' → (prAt R j).p v W')
    (hend : ∀ vs W, I W → (∀ i, i < l.length → (∀ x ∈ xs, i ∉ x.dead) → (prAt R i).p (vs i) W) → Q .normal (fillL ds vs 0 a0) W) : (Code.region id l.toArray true).wp P Q a0 w := by
  refine wp_region_any hm ?_
  obtain ⟨vs, hvs⟩ : ∃ vs : Nat → Value, vs = fun i => match ds.getD i none with | some d => a0.tmps.getD d undef | none => undef := ⟨_, rfl⟩
  have key := growI_all hds hnd hG hstep hF hend l.length (Array.replicate l.toArray.size false) vs w.drew
  have hcnt : ∀ k, k ≤ l.toArray.size → cntU (Array.replicate l.toArray.size false) k = k := by
    intro k
    induction k with
    | zero => intro _; rfl
    | succ k ih =>
      intro hk
      simp only [cntU]
      rw [ih (by omega), rep_false]
      simp
  have hfill : ∀ (ds' : List (Option Tmp)) (k : Nat) (vs : Nat → Value), (∀ i d, ds'[i]? = some (some d) → vs (k + i) = a0.tmps.getD d undef) → fillL ds' vs k a0 = a0 := by
    intro ds'
    induction ds' with
    | nil => intro _ _ _; rfl
    | cons d ds' ih =>
      intro k vs h
      simp only [fillL]
      have : a0.put d (vs k) = a0 := by
        cases d with
        | none => rfl
        | some d =>
          have h0 := h 0 d rfl
          rw [Nat.add_zero] at h0
          rw [h0]
          simp only [Act.put]
          congr 1
          apply Array.ext
          · simp
          · intro i h1 h2
            rw [Array.getElem_setIfInBounds]
            split
            · rename_i hdi
              subst hdi
              simp [Array.getD, h2]
            · rfl
      rw [this]
      exact ih (k + 1) vs (fun i d' hd => by rw [← h (i + 1) d' (by simpa using hd)]; congr 1; omega)
  have hf := hfill ds 0 vs (fun i d hd => by rw [hvs]; simp [List.getD, hd])
  rw [hf] at key
  have hsz : l.length = l.toArray.size := by simp
  rw [hsz] at key
  exact key (hcnt _ (Nat.le_refl _)) ⟨by simp, fun j hj => (by rw [rep_false] at hj; cases hj)⟩ hI (fun _ => hJ) (fun i hi hj _ => (by rw [rep_false] at hj; cases hj))
end Go.Proofs.YteabfjpajgakiagGreat

/- Behind an empty slice that was built: an append only adds memory. -/
set_option linter.unusedSimpArgs false
set_option linter.unusedVariables false
namespace Go.Proofs.YteabfjpajgakiagGreat
open Go.RowKit

theorem run_append_bare (w : World) (base b : Nat) (hown : w.ownsRow base 35 9 (.slice (some ⟨b, 0, none⟩) 0 0) 0 []) (x : Value) (n : Nat) (xs : List Value) (hx : RowAt w 9 x n xs) (h1 : ∀ u ∈ xs, u.oneCell' = true) (h63 : n ≤ maxLen) (hbytes : n * 72 ≤ 140737488355328) (hbase : base ≤ w.heap.size) (ty : TypeId) :
    ∃ v' w', (Builtin.append_ #[26, 26] ty #[.slice (some ⟨b, 0, none⟩) 0 0, x]).run Tryz.prog w = .ok v' w' ∧ w'.ownsRow base 35 9 v' n xs ∧ Keeps w w' := by
  obtain ⟨i, hi, hz, hs, hb⟩ := info_parts infoEnt
  rcases hx.2.2 with ⟨rfl, rfl⟩ | ⟨a, cap, rfl, hc⟩
  · have hx0 : xs = [] := List.eq_nil_of_length_eq_zero (by simpa using hx.1)
    subst hx0
    exact ⟨_, w, run_append_owned_none (P := Tryz.prog) w base 26 ty 35 i 9 Tryz.underlying26 hi _ 0 [] hown, hown, Keeps.refl _⟩
  · by_cases hn : n = 0
    · subst hn
      have hx0 : xs = [] := List.eq_nil_of_length_eq_zero (by simpa using hx.1)
      subst hx0
      have hr := run_append_room_cells (P := Tryz.prog) w 26 ty 35 i Tryz.underlying26 hi b 0 0 0 a 0 cap [] (by simp) (by simp) (by simp) (by simp) (by simp) (by simp)
      refine ⟨_, _, hr, ?_, ?_⟩
      · simpa [World.setCells] using hown
      · simpa [World.setCells] using Keeps.refl w
    · obtain ⟨v', w', hr, ho, hg⟩ := run_append_arg_grows (P := Tryz.prog) w 26 ty 35 i _ 9 72 Tryz.underlying26 hi hz hs hb rfl (by decide) ⟨b, 0, none⟩ 0 0 [] (by simp) (by simp) a n cap xs hx.1 hc (by omega) (by omega) (by omega)
      rw [Nat.zero_add, List.nil_append] at ho
      exact ⟨v', w', hr, owns_base ho hbase, keeps_grown (v := .slice none 0 0) (Keeps.refl _) hg (fun k h => by cases h)⟩
end Go.Proofs.YteabfjpajgakiagGreat

/- Steps of a drawn region, one law an operation. -/
set_option linter.unusedSimpArgs false
set_option linter.unusedVariables false
set_option maxRecDepth 10000
namespace Go.Proofs.YteabfjpajgakiagGreat
open Go.RowKit

theorem GrowStepI.wrp {P : Program} {l : List Oper} {Q : Exit → Act → World → Prop} {a0 : Act} {I : World → Prop} {J : Pr} {ds : List (Option Tmp)} {R : List Pr} {xs : List Wr} {i : Nat} {o : Oper} (ho : l[i]? = some o) (hg : o.guard = none)
    (h : ∀ (vs : Nat → Value) (W : World), I W → ((xs.all fun x => x.num == i || reachB l.toArray l.toArray.size x.num i) = true → J.p undef W) → (∀ j, mayB l.toArray xs i j = true → (prAt R j).p (vs j) W) → ∀ K : Act → World → Prop, Shut (∀ a' v W', a' = (fillL ds vs 0 a0).put (ds.getD i none) v → FrI xs I i W W' → (prAt R i).p v W' → K a' W') → Wrp (o.wp P (fillL ds vs 0 a0) W K Q)) : GrowStepI P l Q a0 I J ds R xs i := ⟨by
  intro vs W hI hJ hR K hK
  rw [ho]
  have hw : Region.wanted o (yielded l.toArray (fillL ds vs 0 a0).tmps) = true := by simp [Region.wanted, hg]
  simp only [hw, if_true]
  exact (h vs W hI hJ hR K hK).out⟩
theorem h_run {P : Program} {o : Oper} {a : Act} {w w' : World} {K : Act → World → Prop} {Q : Exit → Act → World → Prop} {v : Value} (hr : (execOp a.eval o).run P w = .ok (.value v) w') (hK : K (a.put o.dst v) w') : Wrp (o.wp P a w K Q) := ⟨by
  unfold Oper.wp
  rw [hr]
  exact hK⟩
theorem h_field {P : Program} {o : Oper} {a : Act} {w : World} {K : Act → World → Prop} {Q : Exit → Act → World → Prop} {t : TypeId} {x : Operand} {f : Nat} (ho : o.op = .fieldAddr t x f) {p q : Value} (hx : a.eval x = p) (hr : (Instr.fieldAt t p f).run P w = .ok q w) (hK : K (a.put o.dst q) w) : Wrp (o.wp P a w K Q) :=
  h_run (by simp only [execOp, ho, hx, Sem.run_bind, hr, Result.andThen_ok, Sem.run_pure]) hK
theorem h_load {P : Program} {o : Oper} {a : Act} {w : World} {K : Act → World → Prop} {Q : Exit → Act → World → Prop} {t : TypeId} {x : Operand} (ho : o.op = .load t x) {p q : Value} (hx : a.eval x = p) (hr : (Instr.loadAt t p).run P w = .ok q w) (hK : K (a.put o.dst q) w) : Wrp (o.wp P a w K Q) :=
  h_run (by simp only [execOp, ho, hx, Sem.run_bind, hr, Result.andThen_ok, Sem.run_pure]) hK
theorem h_append {P : Program} {o : Oper} {a : Act} {w w' : World} {K : Act → World → Prop} {Q : Exit → Act → World → Prop} {v x v' : Value} (s y : Operand) (t : TypeId) (ho : o.op = .call { callee := .builtin .append, args := #[s, y], argTypes := #[t, t] }) (hs : a.eval s = v) (hx : a.eval y = x)
    (hr : (Builtin.append_ #[t, t] o.type #[v, x]).run P w = .ok v' w') (hK : K (a.put o.dst v') w') : Wrp (o.wp P a w K Q) := ⟨by
  unfold Oper.wp
  simp [execOp, ho, resolve, invoke, builtin, hs, hx, hr, Result.andThen]
  exact hK⟩
theorem empty_ents (w : World) : (Instr.buildSlice 26 0 #[]).run Tryz.prog w = .ok (.slice (some ⟨w.heap.size, 0, none⟩) 0 0) (w.alloc (.cells #[] 35)) := by kernel_rfl
theorem h_empty {o : Oper} {a : Act} {w : World} {K : Act → World → Prop} {Q : Exit → Act → World → Prop} (base : Nat) (hb : base ≤ w.heap.size) (ho : o.op = .buildSlice 26 0 #[])
    (h : ∀ w' b, w'.ownsRow base 35 9 (.slice (some ⟨b, 0, none⟩) 0 0) 0 [] → Keeps w w' → K (a.put o.dst (.slice (some ⟨b, 0, none⟩) 0 0)) w') : Wrp (o.wp Tryz.prog a w K Q) :=
  h_run (w' := w.alloc (.cells #[] 35)) (v := .slice (some ⟨w.heap.size, 0, none⟩) 0 0) (by
    have e := empty_ents w
    simp only [execOp, ho, Sem.run_bind, Array.map_empty, e, Result.andThen_ok, Sem.run_pure])
    (h _ w.heap.size (World.ownsRow_made (base := base) (e := 35) (size := 9) w #[] 0 hb (by unfold maxLen; omega) rfl) ((Keeps.refl _).alloc _))
theorem log_built (l : Lg) (xa ta : Option Addr) (xn xc tn tc : Nat) (w : World) : (Instr.build 28 #[(0, stV l.base (.slice xa xn xc)), (1, .slice ta tn tc)]).run Tryz.prog w = .ok (lgV l (.slice xa xn xc) (.slice ta tn tc)) w := by kernel_rfl
theorem h_build28 {o : Oper} {a : Act} {w : World} {K : Act → World → Prop} {Q : Exit → Act → World → Prop} {x y : Operand} (ho : o.op = .build 28 #[(0, x), (1, y)]) (l : Lg) (xa ta : Option Addr) (xn xc tn tc : Nat) (hx : a.eval x = stV l.base (.slice xa xn xc)) (hy : a.eval y = .slice ta tn tc) (hK : K (a.put o.dst (lgV l (.slice xa xn xc) (.slice ta tn tc))) w) : Wrp (o.wp Tryz.prog a w K Q) :=
  h_run (by
    have e := log_built l xa ta xn xc tn tc w
    simp only [execOp, ho]
    rw [show (#[(0, x), (1, y)].map fun (i, x) => (i, a.eval x)) = #[(0, stV l.base (.slice xa xn xc)), (1, .slice ta tn tc)] by simp [hx, hy]]
    simp only [Sem.run_bind, e, Result.andThen_ok, Sem.run_pure]) hK
theorem loadAt_cell {P : Program} {w : World} {b i : Nat} {t : TypeId} {v : Value} (hc : w.cell? ⟨b, i, none⟩ = some v) (ha : (isAgg t).run P w = .ok false w) : (Instr.loadAt t (.pointer (some ⟨b, i, none⟩))).run P w = .ok v w := by
  simp [Instr.loadAt, Instr.sureAddr, loadVar, ha, go_sem, hc]
theorem base_run {w : World} {b : Nat} {g : Grp} {A : Ad} (hB : CBox b (GL g A) w) : (Instr.loadAt 25 (.pointer (some ⟨b, 0, none⟩))).run Tryz.prog w = .ok (stV g.log.base (.slice A.xa g.log.base.tab.length A.xc)) w := by
  obtain ⟨d, h1, h2⟩ := row25
  exact run_loadAt_mid w b 0 _ (SC g.log.base (.slice A.xa g.log.base.tab.length A.xc)) d (range_of hB 0 7 rfl) h1 h2 (info_size size25 rfl)
theorem tail_run {w : World} {b : Nat} {g : Grp} {A : Ad} (hB : CBox b (GL g A) w) : (Instr.loadAt 26 (.pointer (some ⟨b, 7, none⟩))).run Tryz.prog w = .ok (.slice A.ta g.log.tail.length A.tc) w :=
  loadAt_cell (hB.1 7 _ rfl) (by kernel_rfl)
end Go.Proofs.YteabfjpajgakiagGreat

/- RestGroups: laws for three groups in a row, and what is written into them. -/
set_option linter.unusedSimpArgs false
set_option linter.unusedVariables false
set_option maxRecDepth 10000
namespace Go.Proofs.YteabfjpajgakiagGreat
open Go.RowKit

set_option maxRecDepth 100000 in
theorem groups_built (g0 g1 g2 : Grp) (A0 A1 A2 : Ad) (w : World) : (Instr.buildSlice 48 3 #[(0, .agg (GL g0 A0).toArray), (1, .agg (GL g1 A1).toArray), (2, .agg (GL g2 A2).toArray)]).run Tryz.prog w = .ok (.slice (some ⟨w.heap.size, 0, none⟩) 3 3) (w.alloc (.cells (GL g0 A0 ++ GL g1 A1 ++ GL g2 A2).toArray 31)) := by kernel_rfl
/-- Three groups, one behind the other, in block lb. -/
def L3 (lb : Nat) (GG : Nat → Grp) (AA : Nat → Ad) (w : World) : Prop := ∀ x, x < 3 → w.rangeAt lb (x * 29) (GL (GG x) (AA x))
theorem range_same {w w' : World} {b o : Nat} {cs : List Value} (h : w.rangeAt b o cs) (he : w'.heap[b]? = w.heap[b]?) : w'.rangeAt b o cs := fun j v hv => (World.cell?_of_block he).trans (h j v hv)
theorem range_sub {w : World} {b o k n : Nat} {cs ds : List Value} (h : w.rangeAt b o cs) (hd : (cs.drop k).take n = ds) : w.rangeAt b (o + k) ds := fun j v hv => by
  rw [Nat.add_assoc]
  refine h (k + j) v ?_
  rw [← hd, List.getElem?_take] at hv
  split at hv
  · rw [List.getElem?_drop] at hv
    exact hv
  · cases hv
theorem L3.cell {lb : Nat} {GG : Nat → Grp} {AA : Nat → Ad} {w : World} (h : L3 lb GG AA w) {x : Nat} (hx : x < 3) : w.cell? ⟨lb, x * 29 + 7, none⟩ = some (.slice (AA x).ta (GG x).log.tail.length (AA x).tc) := h x hx 7 _ rfl
theorem L3.lt {lb : Nat} {GG : Nat → Grp} {AA : Nat → Ad} {w : World} (h : L3 lb GG AA w) : lb < w.heap.size := World.block_lt_of_cell? _ _ (h.cell (x := 0) (by decide))
theorem L3.go {base top lb : Nat} {GG : Nat → Grp} {AA : Nat → Ad} {w w' : World} (h : L3 lb GG AA w) (ht : top ≤ lb) (k : Spoil base top w w') : L3 lb GG AA w' := fun x hx => range_same (h x hx) (k.out lb h.lt (.inr ht))
theorem three_range {w : World} {b : Nat} {p q r : List Value} (h : CBox b (p ++ q ++ r) w) (hp : p.length = 29) (hq : q.length = 29) : w.rangeAt b (0 * 29) p ∧ w.rangeAt b (1 * 29) q ∧ w.rangeAt b (2 * 29) r := by
  refine ⟨fun j v hv => ?_, fun j v hv => ?_, fun j v hv => ?_⟩
  · have hj := (List.getElem?_eq_some_iff.1 hv).1
    rw [Nat.zero_mul, Nat.zero_add]
    exact h.1 j v (by rw [List.append_assoc, List.getElem?_append_left hj]; exact hv)
  · have hj := (List.getElem?_eq_some_iff.1 hv).1
    refine h.1 (1 * 29 + j) v ?_
    rw [List.append_assoc, List.getElem?_append_right (by omega), List.getElem?_append_left (by omega), hp]
    rw [show 1 * 29 + j - 29 = j by omega]
    exact hv
  · refine h.1 (2 * 29 + j) v ?_
    rw [List.getElem?_append_right (by simp; omega), List.length_append, hp, hq]
    rw [show 2 * 29 + j - (29 + 29) = j by omega]
    exact hv
def pick3 {α : Type} (a b c : α) : Nat → α
  | 0 => a
  | 1 => b
  | _ => c
section
variable {ops : Array Oper} {rest : List Oper} {op : Oper} {a : Act} {w : World} {Q : Exit → Act → World → Prop}
theorem build3 (hgd : op.guard = none) {x y z : Operand} (ho : op.op = .buildSlice 48 3 #[(0, x), (1, y), (2, z)]) {g0 g1 g2 : Grp} {A0 A1 A2 : Ad} (hx : a.eval x = .agg (GL g0 A0).toArray) (hy : a.eval y = .agg (GL g1 A1).toArray) (hz : a.eval z = .agg (GL g2 A2).toArray)
    (h : ∀ (w' : World) (b : Nat), L3 b (pick3 g0 g1 g2) (pick3 A0 A1 A2) w' → Keeps w w' → w.heap.size ≤ b → wpList Tryz.prog ops Q rest (a.put op.dst (.slice (some ⟨b, 0, none⟩) 3 3)) w') : wpList Tryz.prog ops Q (op :: rest) a w := by
  refine wpList_plain hgd fun K hK => ?_
  have e := groups_built g0 g1 g2 A0 A1 A2 w
  have e1 : (execOp a.eval op).run Tryz.prog w = .ok (.value (.slice (some ⟨w.heap.size, 0, none⟩) 3 3)) (w.alloc (.cells (GL g0 A0 ++ GL g1 A1 ++ GL g2 A2).toArray 31)) := by
    generalize a.eval = f at hx hy hz
    simp only [execOp, ho]
    rw [show (#[(0, x), (1, y), (2, z)].map fun (i, x) => (i, f x)) = #[(0, .agg (GL g0 A0).toArray), (1, .agg (GL g1 A1).toArray), (2, .agg (GL g2 A2).toArray)] by simp [hx, hy, hz]]
    simp only [Sem.run_bind, e, Result.andThen_ok, Sem.run_pure]
  have hB := CBox.new w (GL g0 A0 ++ GL g1 A1 ++ GL g2 A2) 31
  have hn := h _ w.heap.size (fun x hx => by
    obtain ⟨r0, r1, r2⟩ := three_range hB (GL_len _ _) (GL_len _ _)
    have : x = 0 ∨ x = 1 ∨ x = 2 := by omega
    rcases this with rfl | rfl | rfl
    · exact r0
    · exact r1
    · exact r2) ((Keeps.refl _).alloc _) (Nat.le_refl _)
  unfold Oper.wp
  rw [e1]
  exact hK _ _ hn
theorem load_base3 (hgd : op.guard = none) {x : Operand} (ho : op.op = .load 25 x) {lb : Nat} {GG : Nat → Grp} {AA : Nat → Ad} (hL : L3 lb GG AA w) (i : Nat) (hi : i < 3) (hx : a.eval x = .pointer (some ⟨lb, i * 29, none⟩))
    (h : wpList Tryz.prog ops Q rest (a.put op.dst (stV (GG i).log.base (.slice (AA i).xa (GG i).log.base.tab.length (AA i).xc))) w) : wpList Tryz.prog ops Q (op :: rest) a w := by
  obtain ⟨d, h1, h2⟩ := row25
  have hr : w.rangeAt lb (i * 29) (SC (GG i).log.base (.slice (AA i).xa (GG i).log.base.tab.length (AA i).xc)) := range_sub (k := 0) (n := 7) (hL i hi) rfl
  exact wpList_load_mid hgd _ x ho lb (i * 29) hx _ d hr h1 h2 (info_size size25 rfl) h
theorem load_node3 (hgd : op.guard = none) {x : Operand} (ho : op.op = .load 25 x) {lb : Nat} {GG : Nat → Grp} {AA : Nat → Ad} (hL : L3 lb GG AA w) (i : Nat) (hi : i < 3) (k : Nat) (hk : k < 3) (hx : a.eval x = .pointer (some ⟨lb, i * 29 + (8 + k * 7), none⟩))
    (h : wpList Tryz.prog ops Q rest (a.put op.dst (nodeV (GG i) (AA i) k)) w) : wpList Tryz.prog ops Q (op :: rest) a w := by
  obtain ⟨d, h1, h2⟩ := row25
  have hr : w.rangeAt lb (i * 29 + (8 + k * 7)) (SC (nodeAt (GG i) k) (tabV (GG i) (AA i) k)) := range_sub (n := 7) (hL i hi) (GL_node _ _ k hk)
  exact wpList_load_mid hgd _ x ho lb _ hx _ d hr h1 h2 (info_size size25 rfl) h
theorem idx3_at (b o : Nat) (w : World) : ∀ (k : Nat), k < 3 → (Instr.indexAt 29 (.pointer (some ⟨b, o + 8, none⟩)) (.int .i64 (k : Int))).run Tryz.prog w = .ok (.pointer (some ⟨b, o + (8 + k * 7), none⟩)) w
  | 0, _ => by kernel_rfl
  | 1, _ => by kernel_rfl
  | 2, _ => by kernel_rfl
  | _ + 3, h => absurd h (by omega)
theorem index3 (hgd : op.guard = none) {x y : Operand} (ho : op.op = .indexAddr 29 x y) (b o k : Nat) (hk : k < 3) (hx : a.eval x = .pointer (some ⟨b, o + 8, none⟩)) (hy : a.eval y = .int .i64 (k : Int))
    (h : wpList Tryz.prog ops Q rest (a.put op.dst (.pointer (some ⟨b, o + (8 + k * 7), none⟩))) w) : wpList Tryz.prog ops Q (op :: rest) a w := by
  refine wpList_plain hgd fun K hK => ?_
  have e1 : (execOp a.eval op).run Tryz.prog w = .ok (.value (.pointer (some ⟨b, o + (8 + k * 7), none⟩))) w := by
    simp only [execOp, ho, hx, hy, Sem.run_bind, idx3_at b o w k hk, Result.andThen_ok, Sem.run_pure]
  unfold Oper.wp
  rw [e1]
  exact hK _ _ h
end
theorem Spoil.cellsAt {base top g : Nat} {t : TypeId} (h1 : base ≤ g) (h2 : g < top) (ht : t ≠ 71) : ∀ (vs : List Value) (o : Nat) (w : World) (cur : Array Value), w.heap[g]? = some (Obj.cells cur t (0, 0)) → Spoil base top w (w.setCells g o vs)
  | [], _, _, _, _ => Spoil.refl _ _ _
  | v :: r, o, w, cur, hg => by
    have s1 : Spoil base top w (w.setCell ⟨g, o, none⟩ v) := Spoil.set v hg h1 h2 (fun e => absurd e ht)
    obtain ⟨cur', hg', _⟩ := s1.cells g cur t hg
    exact s1.trans (Spoil.cellsAt h1 h2 ht r (o + 1) _ cur' hg')
theorem spoil_ent {ops : Array Oper} {rest : List Oper} {op : Oper} {a : Act} {w : World} {Q : Exit → Act → World → Prop} (hgd : op.guard = none) {x y : Operand} (ho : op.op = .store 35 x y) (base top g o : Nat) (hx : a.eval x = .pointer (some ⟨g, o, none⟩)) (e : Ent) (hy : a.eval y = entV e) {cur : Array Value} (hg : w.heap[g]? = some (Obj.cells cur 35 (0, 0))) (h1 : base ≤ g) (h2 : g < top) (hs : o + 9 ≤ cur.size)
    (h : ∀ w', Spoil base top w w' → wpList Tryz.prog ops Q rest (a.put op.dst undef) w') : wpList Tryz.prog ops Q (op :: rest) a w := by
  refine wpList_store_mid hgd _ x y ho g o _ hx hy (fun j hj => ⟨?_, open_of hg _⟩) (by kernel_rfl) (by kernel_rfl) (h _ (Spoil.cellsAt h1 h2 (by decide) _ _ _ _ hg))
  have hj9 : j < 9 := hj
  obtain ⟨v, hv⟩ := there_of hg (i := o + j) (by omega)
  rw [hv]
  rfl
theorem SpGr.node {base top : Nat} {w : World} {g : Grp} {A : Ad} (h : SpGr base top w g A) : ∀ k, ∃ ad n c, tabV g A k = .slice ad n c ∧ SpTab base top w ad n
  | 0 => ⟨_, _, _, rfl, h.t0⟩
  | 1 => ⟨_, _, _, rfl, h.t1⟩
  | _ + 2 => ⟨_, _, _, rfl, h.t2⟩
end Go.Proofs.YteabfjpajgakiagGreat

/- The hall's put. -/
set_option linter.unusedSimpArgs false
set_option linter.unusedVariables false
set_option maxRecDepth 10000
namespace Go.Proofs.YteabfjpajgakiagGreat
open Go.RowKit

set_option maxHeartbeats 4000000 in
theorem hall_put (g : Grp) (A : Ad) (e : Ent) (b : Nat) (w : World) (hG : GrAt w g A) (hB : CBox b (GL g A) w) : Calls Tryz.prog 26 #[.pointer (some ⟨b, 0, none⟩), entV e] w fun y w' => ∃ xa xc ta tc, (putLgErr g.log e = 0 → LogOwn w.heap.size w' (setLog g (putLg g.log e)) (setLogA A xa xc ta tc) ∧ CBox b (GL (setLog g (putLg g.log e)) (setLogA A xa xc ta tc)) w') ∧ y = .returned (.tuple #[.int .i64 (putAns g.log e), .int .i64 (putLgErr g.log e)]) ∧ But b w w' := by
  have HG : Hid (GrAt w g A) := hG
  have hbl := hB.lt (by rw [GL_len]; decide)
  have HB : Hid (CBox b (GL g A) w) := hB
  clear hG hB
  have HC : Hid (∀ W, Keeps w W → Calls Tryz.prog 44 #[logV g A, entV e] W fun y w' => ∃ qa qc ea ec, (OwnTab W.heap.size w' (.slice qa (putLg g.log e).base.tab.length qc) (putLg g.log e).base.tab ∧ w'.ownsRow W.heap.size 35 9 (.slice ea (putLg g.log e).tail.length ec) (putLg g.log e).tail.length (entCells (putLg g.log e).tail) ∧ (putLg g.log e).tail.length ≤ ec) ∧
      y = .returned (.tuple #[lgV (putLg g.log e) (.slice qa (putLg g.log e).base.tab.length qc) (.slice ea (putLg g.log e).tail.length ec), .int .i64 (putAns g.log e), .int .i64 (putLgErr g.log e)]) ∧ Keeps W w') := fun W hk => by
    have hg := HG.out.keep hk
    refine (pack_put g.log e _ A.ta A.tc W hg.base hg.tail hg.cap).mono ?_
    rintro y w' ⟨qa, qc, ea, ec, h1, h2, h3, h4, h5⟩
    exact ⟨qa, qc, ea, ec, ⟨h1, h2, h3⟩, h4, h5⟩
  have HQ : Hid (putLgErr g.log e ≠ 0 → putAns g.log e = 0) := fun h => by unfold putAns; rw [if_neg (by simpa using h)]
  generalize putAns g.log e = an at *
  generalize putLgErr g.log e = er at *
  generalize putLg g.log e = l' at *
  go_enter Tryz.func26, Tryz.ntmps26
  go_wp2_with (first | (refine box35 rfl rfl (e := e) rfl ?_; intro w1 eb hBeb hkeb hleb hgeb))
  have HK1 : Hid (Keeps w w1) := hkeb
  have HB1 : Hid (CBox b (GL g A) w1) := HB.out.keep hkeb (by rw [GL_len]; decide)
  have HE1 : Hid (CBox eb (EC e) w1) := hBeb
  clear hBeb hkeb hleb hgeb HB
  go_cut [6, 7, 8] (fun p q r wc => ∃ lb qa qc ea ec, p = .pointer (some ⟨lb, 0, none⟩) ∧ q = .int .i64 an ∧ r = .int .i64 er ∧ CBox lb (LC l' (.slice qa l'.base.tab.length qc) (.slice ea l'.tail.length ec)) wc ∧ Keeps w1 wc ∧ (OwnTab w1.heap.size wc (.slice qa l'.base.tab.length qc) l'.base.tab ∧ wc.ownsRow w1.heap.size 35 9 (.slice ea l'.tail.length ec) l'.tail.length (entCells l'.tail) ∧ l'.tail.length ≤ ec))
  case first =>
    refine wp_region_held_drew (S := fun W => Keeps w1 W) (by kernel_rfl) (Keeps.refl _).drew (fun hS => ?_)
    obtain ⟨V0, hV0⟩ : ∃ z, z = w1.drew := ⟨_, rfl⟩
    rw [← hV0] at hS ⊢
    clear hV0
    refine wpAnyH_take (i := 0) (v := .pointer (some ⟨b, 0, none⟩)) rfl (by kernel_rfl) (by kernel_rfl) (by kernel_rfl) (fun _ _ _ h => h) (Or.inl ⟨by kernel_rfl, fun w _ => by kernel_rfl⟩) hS ?_
    refine wpAnyH_take (i := 1) (v := .pointer (some ⟨b, 0, none⟩)) rfl (by kernel_rfl) (by kernel_rfl) (by kernel_rfl) (fun _ _ _ h => h) (Or.inl ⟨by kernel_rfl, fun w _ => by kernel_rfl⟩) hS ?_
    refine wpAnyH_take (i := 2) (v := .pointer (some ⟨b, 0, none⟩)) rfl (by kernel_rfl) (by kernel_rfl) (by kernel_rfl) (fun _ _ _ h => h) (Or.inl ⟨by kernel_rfl, fun w _ => by kernel_rfl⟩) hS ?_
    refine wpAnyH_take (i := 3) (v := .pointer (some ⟨b, 0, none⟩)) rfl (by kernel_rfl) (by kernel_rfl) (by kernel_rfl) (fun _ _ _ h => h) (Or.inl ⟨by kernel_rfl, fun w _ => by kernel_rfl⟩) hS ?_
    refine wpAnyH_take (i := 4) (v := logV g A) rfl (by kernel_rfl) (by kernel_rfl) (by kernel_rfl) (fun _ _ _ h => h) (y_load28 (by kernel_rfl) rfl b rfl (fun W h => HB1.out.keep h (by rw [GL_len]; decide))) hS ?_
    refine wpAnyH_take (i := 5) (v := entV e) rfl (by kernel_rfl) (by kernel_rfl) (by kernel_rfl) (fun _ _ _ h => h) (y_load35 (by kernel_rfl) rfl eb rfl (fun W h => HE1.out.keep h (Nat.le_of_ble_eq_true rfl))) hS ?_
    refine wpAnyH_ready (rs := [6, 11]) (by kernel_rfl) (by simp) ?_
    refine AllReadyH.wrp rfl (by kernel_rfl) (fun K hK => ?_) (AllReadyH.wrp rfl (by kernel_rfl) (fun K hK => ?_) (AllReadyH.nil))
    · have hV := hS.size
      refine h_call ?_
      go_simp
      refine (HC.out _ (HK1.out.trans hS)).mono ?_
      rintro y w2 ⟨qa, qc, ea, ec, ho, rfl, hb⟩
      go_simp
      refine hK.out _ _ (hS.trans hb) (fun hS => ?_)
      clear hK K
      refine wpAnyH_take (i := 7) (v := .tuple #[lgV l' (.slice qa l'.base.tab.length qc) (.slice ea l'.tail.length ec), .int .i64 an, .int .i64 er]) rfl (by kernel_rfl) (by kernel_rfl) (by kernel_rfl) (fun _ _ _ h => h) (Or.inl ⟨by kernel_rfl, fun w _ => by kernel_rfl⟩) hS ?_
      refine wpAnyH_take (i := 8) (v := lgV l' (.slice qa l'.base.tab.length qc) (.slice ea l'.tail.length ec)) rfl (by kernel_rfl) (by kernel_rfl) (by kernel_rfl) (fun _ _ _ h => h) (Or.inl ⟨by kernel_rfl, fun w _ => by kernel_rfl⟩) hS ?_
      refine wpAnyH_take (i := 9) (v := .int .i64 an) rfl (by kernel_rfl) (by kernel_rfl) (by kernel_rfl) (fun _ _ _ h => h) (Or.inl ⟨by kernel_rfl, fun w _ => by kernel_rfl⟩) hS ?_
      refine wpAnyH_take (i := 10) (v := .int .i64 er) rfl (by kernel_rfl) (by kernel_rfl) (by kernel_rfl) (fun _ _ _ h => h) (Or.inl ⟨by kernel_rfl, fun w _ => by kernel_rfl⟩) hS ?_
      refine wpAnyH_ready (rs := [11]) (by kernel_rfl) (by simp) ?_
      refine AllReadyH.wrp rfl (by kernel_rfl) (fun K hK => ?_) (AllReadyH.nil)
      have hSS := hS
      refine h_alloc28 rfl ?_
      intro w3 lb hBlb hklb hllb hglb
      refine hK.out _ _ (hS.trans hklb) (fun hS => ?_)
      clear hK K
      refine wpAnyH_ready (rs := [12]) (by kernel_rfl) (by simp) ?_
      refine AllReadyH.wrp rfl (by kernel_rfl) (fun K hK => ?_) (AllReadyH.nil)
      refine h_store28b rfl lb (by kernel_rfl) (l := l') (xa := qa) (xn := l'.base.tab.length) (xc := qc) (ta := ea) (tn := l'.tail.length) (tc := ec) (by kernel_rfl) (hBlb) ?_
      intro w4 hSw4 hTw4
      have k24 : Keeps w2 w4 := But.to hklb hglb hTw4
      refine hK.out _ _ (But.to hS (Nat.le_trans hSS.size hglb) hTw4) (fun hS => ?_)
      clear hK K
      refine wpAnyH_take (i := 13) (v := .int .i64 an) rfl (by kernel_rfl) (by kernel_rfl) (by kernel_rfl) (fun _ _ _ h => h) (Or.inl ⟨by kernel_rfl, fun w _ => by kernel_rfl⟩) hS ?_
      refine wpAnyH_take (i := 14) (v := .int .i64 er) rfl (by kernel_rfl) (by kernel_rfl) (by kernel_rfl) (fun _ _ _ h => h) (Or.inl ⟨by kernel_rfl, fun w _ => by kernel_rfl⟩) hS ?_
      refine wpAnyH_done (by kernel_rfl) ?_ _
      go_wp2_with fail
      go_meet
      exact ⟨lb, qa, qc, ea, ec, rfl, rfl, rfl, hSw4, hS, ⟨(ho.1.keep k24).base hV, owns_keep (owns_base ho.2.1 hV) k24, ho.2.2⟩⟩
    · have hV := hS.size
      refine h_alloc28 rfl ?_
      intro w3 lb hBlb hklb hllb hglb
      have hV3 := Nat.le_trans hV hklb.size
      have hlg := Nat.le_trans hV hglb
      refine hK.out _ _ (hS.trans hklb) (fun hS => ?_)
      clear hK K
      refine wpAnyH_ready (rs := [6]) (by kernel_rfl) (by simp) ?_
      refine AllReadyH.wrp rfl (by kernel_rfl) (fun K hK => ?_) (AllReadyH.nil)
      refine h_call ?_
      go_simp
      refine (HC.out _ (HK1.out.trans hS)).mono ?_
      rintro y w2 ⟨qa, qc, ea, ec, ho, rfl, hb⟩
      go_simp
      refine hK.out _ _ (hS.trans hb) (fun hS => ?_)
      clear hK K
      refine wpAnyH_take (i := 7) (v := .tuple #[lgV l' (.slice qa l'.base.tab.length qc) (.slice ea l'.tail.length ec), .int .i64 an, .int .i64 er]) rfl (by kernel_rfl) (by kernel_rfl) (by kernel_rfl) (fun _ _ _ h => h) (Or.inl ⟨by kernel_rfl, fun w _ => by kernel_rfl⟩) hS ?_
      refine wpAnyH_take (i := 8) (v := lgV l' (.slice qa l'.base.tab.length qc) (.slice ea l'.tail.length ec)) rfl (by kernel_rfl) (by kernel_rfl) (by kernel_rfl) (fun _ _ _ h => h) (Or.inl ⟨by kernel_rfl, fun w _ => by kernel_rfl⟩) hS ?_
      refine wpAnyH_take (i := 9) (v := .int .i64 an) rfl (by kernel_rfl) (by kernel_rfl) (by kernel_rfl) (fun _ _ _ h => h) (Or.inl ⟨by kernel_rfl, fun w _ => by kernel_rfl⟩) hS ?_
      refine wpAnyH_take (i := 10) (v := .int .i64 er) rfl (by kernel_rfl) (by kernel_rfl) (by kernel_rfl) (fun _ _ _ h => h) (Or.inl ⟨by kernel_rfl, fun w _ => by kernel_rfl⟩) hS ?_
      refine wpAnyH_ready (rs := [12]) (by kernel_rfl) (by simp) ?_
      refine AllReadyH.wrp rfl (by kernel_rfl) (fun K hK => ?_) (AllReadyH.nil)
      refine h_store28b rfl lb (by kernel_rfl) (l := l') (xa := qa) (xn := l'.base.tab.length) (xc := qc) (ta := ea) (tn := l'.tail.length) (tc := ec) (by kernel_rfl) (hBlb.keep hb (Nat.le_of_ble_eq_true rfl)) ?_
      intro w4 hSw4 hTw4
      refine hK.out _ _ (But.to hS hlg hTw4) (fun hS => ?_)
      clear hK K
      refine wpAnyH_take (i := 13) (v := .int .i64 an) rfl (by kernel_rfl) (by kernel_rfl) (by kernel_rfl) (fun _ _ _ h => h) (Or.inl ⟨by kernel_rfl, fun w _ => by kernel_rfl⟩) hS ?_
      refine wpAnyH_take (i := 14) (v := .int .i64 er) rfl (by kernel_rfl) (by kernel_rfl) (by kernel_rfl) (fun _ _ _ h => h) (Or.inl ⟨by kernel_rfl, fun w _ => by kernel_rfl⟩) hS ?_
      refine wpAnyH_done (by kernel_rfl) ?_ _
      go_wp2_with fail
      go_meet
      exact ⟨lb, qa, qc, ea, ec, rfl, rfl, rfl, hSw4, hS, ⟨(ho.1.but hllb hTw4).base hV3, owns_base (owns_far ho.2.1 hllb hTw4) hV3, ho.2.2⟩⟩
  case rest =>
    obtain ⟨lb, qa, qc, ea, ec, rfl, rfl, rfl, hL, hk, ho⟩ := hcut
    have HK2 : Hid (Keeps w wc) := HK1.out.trans hk
    have HB2 : Hid (CBox b (GL g A) wc) := HB1.out.keep hk (by rw [GL_len]; decide)
    have HO : Hid (OwnTab w.heap.size wc (.slice qa l'.base.tab.length qc) l'.base.tab ∧ wc.ownsRow w.heap.size 35 9 (.slice ea l'.tail.length ec) l'.tail.length (entCells l'.tail) ∧ l'.tail.length ≤ ec) := ⟨ho.1.base HK1.out.size, owns_base ho.2.1 HK1.out.size, ho.2.2⟩
    clear hk ho HC HE1 HB1
    cases q : (er == 0) with
    | false =>
      have q' : (er != 0) = true := by simp [bne, q]
      have q0 : er ≠ 0 := by simpa using q
      have HA : Hid (an = 0) := HQ.out q0
      clear HQ
      go_wp2_with fail
      go_ret2
      refine ⟨none, 0, none, 0, fun h => absurd h q0, ?_, But.of HK2.out⟩
      rw [HA.out]
      rfl
    | true =>
      have q' : (er != 0) = false := by simp [bne, q]
      have q0 : er = 0 := by simpa using q
      clear HQ
      go_wp2_with (first | (refine load28b rfl rfl lb rfl hL ?_) | (refine store28 rfl rfl b rfl rfl HB2.out ?_; intro w5 hSw5 hTw5))
      go_ret2
      refine ⟨qa, qc, ea, ec, fun _ => ⟨⟨HO.out.1.but hbl hTw5, owns_far HO.out.2.1 hbl hTw5, HO.out.2.2⟩, hSw5⟩, ?_, (But.of HK2.out).trans hTw5⟩
      rw [q0]
      rfl
end Go.Proofs.YteabfjpajgakiagGreat

/- The hall's cut. -/
set_option linter.unusedSimpArgs false
set_option linter.unusedVariables false
set_option maxRecDepth 10000
namespace Go.Proofs.YteabfjpajgakiagGreat
open Go.RowKit

set_option maxHeartbeats 4000000 in
theorem hall_cut (g : Grp) (A : Ad) (m : Int) (b : Nat) (w : World) (hG : GrAt w g A) (hB : CBox b (GL g A) w) : Calls Tryz.prog 28 #[.pointer (some ⟨b, 0, none⟩), .int .i64 m] w fun y w' => ∃ xa xc ta tc, (cutErr g.log m = 0 → LogOwn w.heap.size w' (setLog g (cutLg g.log m)) (setLogA A xa xc ta tc) ∧ CBox b (GL (setLog g (cutLg g.log m)) (setLogA A xa xc ta tc)) w') ∧ y = .returned (.int .i64 (cutErr g.log m)) ∧ But b w w' := by
  have HG : Hid (GrAt w g A) := hG
  have hbl := hB.lt (by rw [GL_len]; decide)
  have HB : Hid (CBox b (GL g A) w) := hB
  clear hG hB
  have HC : Hid (∀ W, Keeps w W → Calls Tryz.prog 47 #[logV g A, .int .i64 m] W fun y w' => ∃ qa qc ea ec, (OwnTab W.heap.size w' (.slice qa (cutLg g.log m).base.tab.length qc) (cutLg g.log m).base.tab ∧ w'.ownsRow W.heap.size 35 9 (.slice ea (cutLg g.log m).tail.length ec) (cutLg g.log m).tail.length (entCells (cutLg g.log m).tail) ∧ (cutLg g.log m).tail.length ≤ ec) ∧
      y = .returned (.tuple #[lgV (cutLg g.log m) (.slice qa (cutLg g.log m).base.tab.length qc) (.slice ea (cutLg g.log m).tail.length ec), .int .i64 (cutErr g.log m)]) ∧ Keeps W w') := fun W hk => by
    have hg := HG.out.keep hk
    refine (pack_cut g.log m _ A.ta A.tc W hg.base hg.tail hg.cap).mono ?_
    rintro y w' ⟨qa, qc, ea, ec, h1, h2, h3, h4, h5⟩
    exact ⟨qa, qc, ea, ec, ⟨h1, h2, h3⟩, h4, h5⟩
  generalize cutErr g.log m = er at *
  generalize cutLg g.log m = l' at *
  go_enter Tryz.func28, Tryz.ntmps28
  go_wp2_with (first | (refine load28 rfl rfl b rfl HB.out ?_))
  refine (HC.out w (Keeps.refl _)).mono ?_
  rintro y w2 ⟨qa, qc, ea, ec, ho, rfl, hb⟩
  have HO : Hid (OwnTab w.heap.size w2 (.slice qa l'.base.tab.length qc) l'.base.tab ∧ w2.ownsRow w.heap.size 35 9 (.slice ea l'.tail.length ec) l'.tail.length (entCells l'.tail) ∧ l'.tail.length ≤ ec) := ho
  have HK2 : Hid (Keeps w w2) := hb
  clear ho hb HC
  cases q : (er == 0) with
  | false =>
    have q' : (er != 0) = true := by simp [bne, q]
    have q0 : er ≠ 0 := by simpa using q
    go_wp2_with (first | (refine alloc28 rfl rfl ?_; intro w3 lb hBlb hklb hllb hglb) | (refine store28b rfl rfl lb rfl rfl hBlb ?_; intro w4 hSw4 hTw4))
    go_ret
    exact ⟨none, 0, none, 0, fun h => absurd h q0, rfl, But.of (HK2.out.trans (But.to hklb hglb hTw4))⟩
  | true =>
    have q' : (er != 0) = false := by simp [bne, q]
    have q0 : er = 0 := by simpa using q
    go_wp2_with (first | (refine alloc28 rfl rfl ?_; intro w3 lb hBlb hklb hllb hglb) | (refine store28b rfl rfl lb rfl rfl hBlb ?_; intro w4 hSw4 hTw4) | (refine load28b rfl rfl lb rfl hSw4 ?_) | (refine store28 rfl rfl b rfl rfl ((HB.out.keep HK2.out (by rw [GL_len]; decide)).keep (But.to hklb hglb hTw4) (by rw [GL_len]; decide)) ?_; intro w5 hSw5 hTw5))
    have k24 : Keeps w2 w4 := But.to hklb hglb hTw4
    go_ret
    refine ⟨qa, qc, ea, ec, fun _ => ⟨⟨(HO.out.1.keep k24).but hbl hTw5, owns_far (owns_keep HO.out.2.1 k24) hbl hTw5, HO.out.2.2⟩, hSw5⟩, ?_, (But.of (HK2.out.trans k24)).trans hTw5⟩
    rw [q0]
    rfl
end Go.Proofs.YteabfjpajgakiagGreat

/- group.Put, Run, Cut: what they answer. -/
set_option linter.unusedSimpArgs false
set_option linter.unusedVariables false
set_option maxRecDepth 10000
namespace Go.Proofs.YteabfjpajgakiagGreat
open Go.RowKit

def pgErr (g : Grp) (e : Ent) : Int := if grErr g == 0 then putLgErr g.log e else grErr g
def pgAns (g : Grp) (e : Ent) : Int := if pgErr g e == 0 then putAns g.log e else 0
def pgG (g : Grp) (e : Ent) : Grp := if pgErr g e == 0 then setLog g (putLg g.log e) else zeroGrp
def rgErr (g : Grp) (i n : Int) : Int := if grErr g == 0 then rnErr g i n else grErr g
def rgNum (g : Grp) (i n : Int) : Int := if rgErr g i n == 0 then rnNum g i n else 0
def rgG (g : Grp) (i n : Int) : Grp := if rgErr g i n == 0 then setNode g i.toNat (rnOut g i n) else zeroGrp
def cgErr (g : Grp) (n : Int) : Int := if grErr g == 0 then cutErr g.log n else grErr g
def cgG (g : Grp) (n : Int) : Grp := if cgErr g n == 0 then setLog g (cutLg g.log n) else zeroGrp
theorem GrOwn.setLog {base : Nat} {w : World} {g : Grp} {A : Ad} (h : GrOwn base w g A) {l : Lg} {xa ta : Option Addr} {xc tc : Nat} (hl : LogOwn base w (setLog g l) (setLogA A xa xc ta tc)) : GrOwn base w (Go.Proofs.YteabfjpajgakiagGreat.setLog g l) (setLogA A xa xc ta tc) :=
  ⟨hl.b, hl.tail, hl.cap, h.t0, h.t1, h.t2⟩
theorem GrOwn.setNode {base : Nat} {w : World} {g : Grp} {A : Ad} (h : GrOwn base w g A) {s : St} {a : Option Addr} {c : Nat} (hs : OwnTab base w (.slice a s.tab.length c) s.tab) : ∀ k, GrOwn base w (Go.Proofs.YteabfjpajgakiagGreat.setNode g k s) (setNodeA A k a c)
  | 0 => ⟨h.b, h.tail, h.cap, hs, h.t1, h.t2⟩
  | 1 => ⟨h.b, h.tail, h.cap, h.t0, hs, h.t2⟩
  | _ + 2 => ⟨h.b, h.tail, h.cap, h.t0, h.t1, hs⟩
theorem LogOwn.mono {base base' : Nat} {w : World} {g : Grp} {A : Ad} (h : LogOwn base w g A) (hb : base' ≤ base) : LogOwn base' w g A := ⟨h.b.base hb, owns_base h.tail hb, h.cap⟩
end Go.Proofs.YteabfjpajgakiagGreat
