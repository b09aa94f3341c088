/- GrJ, GrK, GrKp, GrKr, GrKc, GrN, Grow, GrowI. -/
import Derived.Deep.RegionHeld3
import Derived.Test.YteabfjpajgakiafJ00
import Derived.Test.YteabfjpajgakiafJ13
import Derived.Test.YteabfjpajgakiafJ18
import Derived.Test.YteabfjpajgakiafJ19
/- The hall's run. -/
set_option linter.unusedSimpArgs false
set_option linter.unusedVariables false
set_option maxRecDepth 10000
namespace Go.Proofs.Yteabfjpajgakiaf
open Go.RowKit

theorem idx_addr0 (b : Nat) (w : World) : (Instr.indexAt 29 (.pointer (some ⟨b, 8, none⟩)) (.int .i64 0)).run Try.prog w = .ok (.pointer (some ⟨b, 8, none⟩)) w := by kernel_rfl
theorem idx_addr1 (b : Nat) (w : World) : (Instr.indexAt 29 (.pointer (some ⟨b, 8, none⟩)) (.int .i64 1)).run Try.prog w = .ok (.pointer (some ⟨b, 15, none⟩)) w := by kernel_rfl
theorem idx_addr2 (b : Nat) (w : World) : (Instr.indexAt 29 (.pointer (some ⟨b, 8, none⟩)) (.int .i64 2)).run Try.prog w = .ok (.pointer (some ⟨b, 22, none⟩)) w := by kernel_rfl
theorem idx_addr (b k : Nat) (hk : k < 3) (w : World) : (Instr.indexAt 29 (.pointer (some ⟨b, 8, none⟩)) (.int .i64 (k : Int))).run Try.prog w = .ok (.pointer (some ⟨b, 8 + k * 7, none⟩)) w := by
  have : k = 0 ∨ k = 1 ∨ k = 2 := by omega
  rcases this with rfl | rfl | rfl
  · exact idx_addr0 b w
  · exact idx_addr1 b w
  · exact idx_addr2 b w
theorem y_index {ops : Array Oper} {S : World → Prop} {op : Oper} {a : Act} (hw : Region.wanted op (yielded ops a.tmps) = true) {x y : Operand} (ho : op.op = .indexAddr 29 x y) (b k : Nat) (hk : k < 3) (hx : a.eval x = .pointer (some ⟨b, 8, none⟩)) (hy : a.eval y = .int .i64 (k : Int)) : YieldsIf Try.prog ops S op (.pointer (some ⟨b, 8 + k * 7, none⟩)) a :=
  .inl ⟨hw, fun w _ => by
    unfold execOp
    simp only [ho, hx, hy, Sem.run_bind, idx_addr b k hk w, Result.andThen_ok, Sem.run_pure]⟩
def rnErr (g : Grp) (i n : Int) : Int := if inB i 0 2 then runErr g.log (nodeAt g i.toNat) n else 3
def rnNum (g : Grp) (i n : Int) : Int := if inB i 0 2 then runNum g.log (nodeAt g i.toNat) n else 0
def rnOut (g : Grp) (i n : Int) : St := runOut g.log (nodeAt g i.toNat) n

set_option maxHeartbeats 4000000 in
theorem hall_run_in (g : Grp) (A : Ad) (k : Nat) (hk3 : k < 3) (n : Int) (b : Nat) (w : World) (hG : GrAt w g A) (hB : CBox b (GL g A) w) : Calls Try.prog 30 #[.pointer (some ⟨b, 0, none⟩), .int .i64 k, .int .i64 n] w fun y w' => ∃ qa qc, (runErr g.log (nodeAt g k) n = 0 → OwnTab w.heap.size w' (.slice qa (runOut g.log (nodeAt g k) n).tab.length qc) (runOut g.log (nodeAt g k) n).tab ∧ CBox b (GL (setNode g k (runOut g.log (nodeAt g k) n)) (setNodeA A k qa qc)) w') ∧ y = .returned (.tuple #[.int .i64 (runNum g.log (nodeAt g k) n), .int .i64 (runErr g.log (nodeAt g k) n)]) ∧ But b w w' := by
  have HG : Hid (GrAt w g A) := hG
  have hbl := hB.lt (by rw [GL_len]; decide)
  have HB : Hid (CBox b (GL g A) w) := hB
  clear hG hB
  have HC : Hid (∀ W, Keeps w W → Calls Try.prog 50 #[logV g A, nodeV g A k, .int .i64 n] W fun y w' => ∃ qa qc, OwnTab W.heap.size w' (.slice qa (runOut g.log (nodeAt g k) n).tab.length qc) (runOut g.log (nodeAt g k) n).tab ∧ y = .returned (.tuple #[stV (runOut g.log (nodeAt g k) n) (.slice qa (runOut g.log (nodeAt g k) n).tab.length qc), .int .i64 (runNum g.log (nodeAt g k) n), .int .i64 (runErr g.log (nodeAt g k) n)]) ∧ Keeps W w') := fun W hk => by
    have hg := HG.out.keep hk
    exact node_run g.log (nodeAt g k) n _ _ A.ta A.tc W hg.base hg.tail (hg.tab k) hg.cap
  have HQ : Hid (runErr g.log (nodeAt g k) n ≠ 0 → runNum g.log (nodeAt g k) n = 0) := fun h => by unfold runNum; rw [if_neg (by simpa using h)]
  generalize runErr g.log (nodeAt g k) n = er at *
  generalize runNum g.log (nodeAt g k) n = nu at *
  generalize runOut g.log (nodeAt g k) n = s' at *
  have HIn : Hid (inB (k : Int) 0 2 = true) := inB_iff.2 ⟨by omega, by omega⟩
  go_enter Try.func30, Try.ntmps30
  go_wp2_with (go_at_call 49; refine (bound_in _ _ _ _).mono ?_; rw [HIn.out]; rintro y w' ⟨rfl, rfl⟩)
  go_cut [8, 9, 10] (fun p q r wc => ∃ sb qa qc, p = .pointer (some ⟨sb, 0, none⟩) ∧ q = .int .i64 nu ∧ r = .int .i64 er ∧ CBox sb (SC s' (.slice qa s'.tab.length qc)) wc ∧ Keeps w wc ∧ w.heap.size ≤ sb ∧ OwnTab w.heap.size wc (.slice qa s'.tab.length qc) s'.tab)
  case first =>
    refine wp_region_held_drew (S := fun W => Keeps w W) (by kernel_rfl) (Keeps.refl _).drew (fun hS => ?_)
    obtain ⟨V0, hV0⟩ : ∃ z, z = w.drew := ⟨_, rfl⟩
    rw [← hV0] at hS ⊢
    clear hV0
    refine wpAnyH_take (i := 0) (v := .pointer (some ⟨b, 0, none⟩)) rfl (by kernel_rfl) (by kernel_rfl) (by kernel_rfl) (fun _ _ _ h => h) (Or.inl ⟨by kernel_rfl, fun w _ => by kernel_rfl⟩) hS ?_
    refine wpAnyH_take (i := 1) (v := .pointer (some ⟨b, 0, none⟩)) rfl (by kernel_rfl) (by kernel_rfl) (by kernel_rfl) (fun _ _ _ h => h) (Or.inl ⟨by kernel_rfl, fun w _ => by kernel_rfl⟩) hS ?_
    refine wpAnyH_take (i := 2) (v := .pointer (some ⟨b, 0, none⟩)) rfl (by kernel_rfl) (by kernel_rfl) (by kernel_rfl) (fun _ _ _ h => h) (Or.inl ⟨by kernel_rfl, fun w _ => by kernel_rfl⟩) hS ?_
    refine wpAnyH_take (i := 3) (v := .pointer (some ⟨b, 0, none⟩)) rfl (by kernel_rfl) (by kernel_rfl) (by kernel_rfl) (fun _ _ _ h => h) (Or.inl ⟨by kernel_rfl, fun w _ => by kernel_rfl⟩) hS ?_
    refine wpAnyH_take (i := 4) (v := logV g A) rfl (by kernel_rfl) (by kernel_rfl) (by kernel_rfl) (fun _ _ _ h => h) (y_load28 (by kernel_rfl) rfl b (by kernel_rfl) (fun W h => HB.out.keep h (by rw [GL_len]; decide))) hS ?_
    refine wpAnyH_take (i := 5) (v := .pointer (some ⟨b, 0, none⟩)) rfl (by kernel_rfl) (by kernel_rfl) (by kernel_rfl) (fun _ _ _ h => h) (Or.inl ⟨by kernel_rfl, fun w _ => by kernel_rfl⟩) hS ?_
    refine wpAnyH_take (i := 6) (v := .int .i64 k) rfl (by kernel_rfl) (by kernel_rfl) (by kernel_rfl) (fun _ _ _ h => h) (Or.inl ⟨by kernel_rfl, fun w _ => by kernel_rfl⟩) hS ?_
    refine wpAnyH_take (i := 7) (v := .pointer (some ⟨b, 0, none⟩)) rfl (by kernel_rfl) (by kernel_rfl) (by kernel_rfl) (fun _ _ _ h => h) (Or.inl ⟨by kernel_rfl, fun w _ => by kernel_rfl⟩) hS ?_
    refine wpAnyH_take (i := 8) (v := .pointer (some ⟨b, 0, none⟩)) rfl (by kernel_rfl) (by kernel_rfl) (by kernel_rfl) (fun _ _ _ h => h) (Or.inl ⟨by kernel_rfl, fun w _ => by kernel_rfl⟩) hS ?_
    refine wpAnyH_take (i := 9) (v := .pointer (some ⟨b, 8, none⟩)) rfl (by kernel_rfl) (by kernel_rfl) (by kernel_rfl) (fun _ _ _ h => h) (Or.inl ⟨by kernel_rfl, fun w _ => by kernel_rfl⟩) hS ?_
    refine wpAnyH_take (i := 10) (v := .pointer (some ⟨b, 8 + k * 7, none⟩)) rfl (by kernel_rfl) (by kernel_rfl) (by kernel_rfl) (fun _ _ _ h => h) (y_index (by kernel_rfl) rfl b k hk3 (by kernel_rfl) (by kernel_rfl)) hS ?_
    refine wpAnyH_take (i := 11) (v := nodeV g A k) rfl (by kernel_rfl) (by kernel_rfl) (by kernel_rfl) (fun _ _ _ h => h) (y_load25 (by kernel_rfl) rfl b k hk3 (8 + k * 7) rfl (by kernel_rfl) (fun W h => HB.out.keep h (by rw [GL_len]; decide))) hS ?_
    refine wpAnyH_take (i := 12) (v := .int .i64 n) rfl (by kernel_rfl) (by kernel_rfl) (by kernel_rfl) (fun _ _ _ h => h) (Or.inl ⟨by kernel_rfl, fun w _ => by kernel_rfl⟩) hS ?_
    refine wpAnyH_ready (rs := [13, 18]) (by kernel_rfl) (by simp) ?_
    refine AllReadyH.wrp rfl (by kernel_rfl) (fun K hK => ?_) (AllReadyH.wrp rfl (by kernel_rfl) (fun K hK => ?_) (AllReadyH.nil))
    · have hV := hS.size
      refine h_call ?_
      go_simp
      refine (HC.out _ hS).mono ?_
      rintro y w2 ⟨qa, qc, ho, rfl, hb⟩
      go_simp
      refine hK.out _ _ (hS.trans hb) (fun hS => ?_)
      clear hK K
      refine wpAnyH_take (i := 14) (v := .tuple #[stV s' (.slice qa s'.tab.length qc), .int .i64 nu, .int .i64 er]) rfl (by kernel_rfl) (by kernel_rfl) (by kernel_rfl) (fun _ _ _ h => h) (Or.inl ⟨by kernel_rfl, fun w _ => by kernel_rfl⟩) hS ?_
      refine wpAnyH_take (i := 15) (v := stV s' (.slice qa s'.tab.length qc)) rfl (by kernel_rfl) (by kernel_rfl) (by kernel_rfl) (fun _ _ _ h => h) (Or.inl ⟨by kernel_rfl, fun w _ => by kernel_rfl⟩) hS ?_
      refine wpAnyH_take (i := 16) (v := .int .i64 nu) rfl (by kernel_rfl) (by kernel_rfl) (by kernel_rfl) (fun _ _ _ h => h) (Or.inl ⟨by kernel_rfl, fun w _ => by kernel_rfl⟩) hS ?_
      refine wpAnyH_take (i := 17) (v := .int .i64 er) rfl (by kernel_rfl) (by kernel_rfl) (by kernel_rfl) (fun _ _ _ h => h) (Or.inl ⟨by kernel_rfl, fun w _ => by kernel_rfl⟩) hS ?_
      refine wpAnyH_ready (rs := [18]) (by kernel_rfl) (by simp) ?_
      refine AllReadyH.wrp rfl (by kernel_rfl) (fun K hK => ?_) (AllReadyH.nil)
      have hSS := hS
      refine h_alloc25 rfl ?_
      intro w3 sb hBsb hksb hlsb hgsb
      have hsg : w.heap.size ≤ sb := Nat.le_trans hSS.size hgsb
      refine hK.out _ _ (hS.trans hksb) (fun hS => ?_)
      clear hK K
      refine wpAnyH_ready (rs := [19]) (by kernel_rfl) (by simp) ?_
      refine AllReadyH.wrp rfl (by kernel_rfl) (fun K hK => ?_) (AllReadyH.nil)
      refine h_store25b rfl sb (by kernel_rfl) (s := s') (xa := qa) (xn := s'.tab.length) (xc := qc) (by kernel_rfl) (hBsb) ?_
      intro w4 hSw4 hTw4
      have k24 : Keeps w2 w4 := But.to hksb hgsb hTw4
      refine hK.out _ _ (But.to hS hsg hTw4) (fun hS => ?_)
      clear hK K
      refine wpAnyH_take (i := 20) (v := .int .i64 nu) rfl (by kernel_rfl) (by kernel_rfl) (by kernel_rfl) (fun _ _ _ h => h) (Or.inl ⟨by kernel_rfl, fun w _ => by kernel_rfl⟩) hS ?_
      refine wpAnyH_take (i := 21) (v := .int .i64 er) rfl (by kernel_rfl) (by kernel_rfl) (by kernel_rfl) (fun _ _ _ h => h) (Or.inl ⟨by kernel_rfl, fun w _ => by kernel_rfl⟩) hS ?_
      refine wpAnyH_done (by kernel_rfl) ?_ _
      go_wp2_with fail
      go_meet
      exact ⟨sb, qa, qc, rfl, rfl, rfl, hSw4, hS, hsg, (ho.keep k24).base hV⟩
    · have hV := hS.size
      refine h_alloc25 rfl ?_
      intro w3 sb hBsb hksb hlsb hgsb
      have hV3 := Nat.le_trans hV hksb.size
      have hsg := Nat.le_trans hV hgsb
      refine hK.out _ _ (hS.trans hksb) (fun hS => ?_)
      clear hK K
      refine wpAnyH_ready (rs := [13]) (by kernel_rfl) (by simp) ?_
      refine AllReadyH.wrp rfl (by kernel_rfl) (fun K hK => ?_) (AllReadyH.nil)
      refine h_call ?_
      go_simp
      refine (HC.out _ hS).mono ?_
      rintro y w2 ⟨qa, qc, ho, rfl, hb⟩
      go_simp
      refine hK.out _ _ (hS.trans hb) (fun hS => ?_)
      clear hK K
      refine wpAnyH_take (i := 14) (v := .tuple #[stV s' (.slice qa s'.tab.length qc), .int .i64 nu, .int .i64 er]) rfl (by kernel_rfl) (by kernel_rfl) (by kernel_rfl) (fun _ _ _ h => h) (Or.inl ⟨by kernel_rfl, fun w _ => by kernel_rfl⟩) hS ?_
      refine wpAnyH_take (i := 15) (v := stV s' (.slice qa s'.tab.length qc)) rfl (by kernel_rfl) (by kernel_rfl) (by kernel_rfl) (fun _ _ _ h => h) (Or.inl ⟨by kernel_rfl, fun w _ => by kernel_rfl⟩) hS ?_
      refine wpAnyH_take (i := 16) (v := .int .i64 nu) rfl (by kernel_rfl) (by kernel_rfl) (by kernel_rfl) (fun _ _ _ h => h) (Or.inl ⟨by kernel_rfl, fun w _ => by kernel_rfl⟩) hS ?_
      refine wpAnyH_take (i := 17) (v := .int .i64 er) rfl (by kernel_rfl) (by kernel_rfl) (by kernel_rfl) (fun _ _ _ h => h) (Or.inl ⟨by kernel_rfl, fun w _ => by kernel_rfl⟩) hS ?_
      refine wpAnyH_ready (rs := [19]) (by kernel_rfl) (by simp) ?_
      refine AllReadyH.wrp rfl (by kernel_rfl) (fun K hK => ?_) (AllReadyH.nil)
      refine h_store25b rfl sb (by kernel_rfl) (s := s') (xa := qa) (xn := s'.tab.length) (xc := qc) (by kernel_rfl) (hBsb.keep hb (Nat.le_of_ble_eq_true rfl)) ?_
      intro w4 hSw4 hTw4
      refine hK.out _ _ (But.to hS hsg hTw4) (fun hS => ?_)
      clear hK K
      refine wpAnyH_take (i := 20) (v := .int .i64 nu) rfl (by kernel_rfl) (by kernel_rfl) (by kernel_rfl) (fun _ _ _ h => h) (Or.inl ⟨by kernel_rfl, fun w _ => by kernel_rfl⟩) hS ?_
      refine wpAnyH_take (i := 21) (v := .int .i64 er) rfl (by kernel_rfl) (by kernel_rfl) (by kernel_rfl) (fun _ _ _ h => h) (Or.inl ⟨by kernel_rfl, fun w _ => by kernel_rfl⟩) hS ?_
      refine wpAnyH_done (by kernel_rfl) ?_ _
      go_wp2_with fail
      go_meet
      exact ⟨sb, qa, qc, rfl, rfl, rfl, hSw4, hS, hsg, (ho.but hlsb hTw4).base hV3⟩
  case rest =>
    obtain ⟨sb, qa, qc, rfl, rfl, rfl, hL, hk, hsg, ho⟩ := hcut
    have HK2 : Hid (Keeps w wc) := hk
    have HB2 : Hid (CBox b (GL g A) wc) := HB.out.keep hk (by rw [GL_len]; decide)
    have HO : Hid (OwnTab w.heap.size wc (.slice qa s'.tab.length qc) s'.tab) := ho
    clear hk ho HC HB
    cases q : (er == 0) with
    | false =>
      have q' : (er != 0) = true := by simp [bne, q]
      have q0 : er ≠ 0 := by simpa using q
      have HA : Hid (nu = 0) := HQ.out q0
      clear HQ
      go_wp2_with fail
      go_ret2
      refine ⟨none, 0, fun h => absurd h q0, ?_, But.of HK2.out⟩
      rw [HA.out]
      rfl
    | true =>
      have q' : (er != 0) = false := by simp [bne, q]
      have q0 : er = 0 := by simpa using q
      clear HQ
      go_wp2_with fail
      refine wp_region_held_drew (S := fun W => CBox sb (SC s' (.slice qa s'.tab.length qc)) W) (by kernel_rfl) (hL.keep (Keeps.refl _).drew (Nat.le_of_ble_eq_true rfl)) (fun hS => ?_)
      obtain ⟨V0, hV0⟩ : ∃ z, z = wc.drew := ⟨_, rfl⟩
      have hk0 : Keeps wc V0 := by rw [hV0]; exact (Keeps.refl _).drew
      rw [← hV0] at hS ⊢
      clear hV0
      refine wpAnyH_take (i := 0) (v := .pointer (some ⟨b, 0, none⟩)) rfl (by kernel_rfl) (by kernel_rfl) (by kernel_rfl) (fun _ _ _ h => h) (Or.inl ⟨by kernel_rfl, fun w _ => by kernel_rfl⟩) hS ?_
      refine wpAnyH_take (i := 1) (v := .int .i64 k) rfl (by kernel_rfl) (by kernel_rfl) (by kernel_rfl) (fun _ _ _ h => h) (Or.inl ⟨by kernel_rfl, fun w _ => by kernel_rfl⟩) hS ?_
      refine wpAnyH_take (i := 2) (v := stV s' (.slice qa s'.tab.length qc)) rfl (by kernel_rfl) (by kernel_rfl) (by kernel_rfl) (fun _ _ _ h => h) (y_load25b (by kernel_rfl) rfl sb (by kernel_rfl) (fun W h => h)) hS ?_
      refine wpAnyH_take (i := 3) (v := .pointer (some ⟨b, 0, none⟩)) rfl (by kernel_rfl) (by kernel_rfl) (by kernel_rfl) (fun _ _ _ h => h) (Or.inl ⟨by kernel_rfl, fun w _ => by kernel_rfl⟩) hS ?_
      refine wpAnyH_take (i := 4) (v := .pointer (some ⟨b, 0, none⟩)) rfl (by kernel_rfl) (by kernel_rfl) (by kernel_rfl) (fun _ _ _ h => h) (Or.inl ⟨by kernel_rfl, fun w _ => by kernel_rfl⟩) hS ?_
      refine wpAnyH_take (i := 5) (v := .pointer (some ⟨b, 8, none⟩)) rfl (by kernel_rfl) (by kernel_rfl) (by kernel_rfl) (fun _ _ _ h => h) (Or.inl ⟨by kernel_rfl, fun w _ => by kernel_rfl⟩) hS ?_
      refine wpAnyH_take (i := 6) (v := .pointer (some ⟨b, 8 + k * 7, none⟩)) rfl (by kernel_rfl) (by kernel_rfl) (by kernel_rfl) (fun _ _ _ h => h) (y_index (by kernel_rfl) rfl b k hk3 (by kernel_rfl) (by kernel_rfl)) hS ?_
      refine wpAnyH_ready (rs := [7]) (by kernel_rfl) (by simp) ?_
      refine AllReadyH.wrp rfl (by kernel_rfl) (fun K hK => ?_) (AllReadyH.nil)
      refine h_store25 rfl b k hk3 (8 + k * 7) rfl (by kernel_rfl) (s := s') (xa := qa) (xc := qc) (by kernel_rfl) (HB2.out.keep hk0 (by rw [GL_len]; decide)) ?_
      intro w5 hSw5 hTw5
      refine hK.out _ _ (hS.other hTw5 (by omega) (Nat.le_of_ble_eq_true rfl)) (fun hS => ?_)
      clear hK K
      refine wpAnyH_done (by kernel_rfl) ?_ _
      go_wp2_with fail
      go_ret2
      refine ⟨qa, qc, fun _ => ⟨(HO.out.keep hk0).but hbl hTw5, hSw5⟩, ?_, (But.of (HK2.out.trans hk0)).trans hTw5⟩
      rw [q0]
      rfl

set_option maxHeartbeats 1000000 in
theorem hall_run (g : Grp) (A : Ad) (i n : Int) (b : Nat) (w : World) (hG : GrAt w g A) (hB : CBox b (GL g A) w) : Calls Try.prog 30 #[.pointer (some ⟨b, 0, none⟩), .int .i64 i, .int .i64 n] w fun y w' => ∃ qa qc, (rnErr g i n = 0 → OwnTab w.heap.size w' (.slice qa (rnOut g i n).tab.length qc) (rnOut g i n).tab ∧ CBox b (GL (setNode g i.toNat (rnOut g i n)) (setNodeA A i.toNat qa qc)) w') ∧ y = .returned (.tuple #[.int .i64 (rnNum g i n), .int .i64 (rnErr g i n)]) ∧ But b w w' := by
  cases hi : inB i 0 2 with
  | true =>
    have h' := inB_iff.1 hi
    obtain ⟨k, rfl⟩ : ∃ k : Nat, i = k := ⟨i.toNat, by omega⟩
    have := hall_run_in g A k (by omega) n b w hG hB
    unfold rnErr rnNum rnOut
    simp only [hi, if_true, Int.toNat_natCast]
    exact this
  | false =>
    have HIn : Hid (inB i 0 2 = false) := hi
    have e1 : rnErr g i n = 3 := by unfold rnErr; rw [hi]; rfl
    have e2 : rnNum g i n = 0 := by unfold rnNum; rw [hi]; rfl
    rw [e1, e2]
    clear hG hB hi e1 e2
    go_enter Try.func30, Try.ntmps30
    go_wp2_with (go_at_call 49; refine (bound_in _ _ _ _).mono ?_; rw [HIn.out]; rintro y w' ⟨rfl, rfl⟩)
    go_ret2
    exact ⟨none, 0, fun h => (by cases h), rfl, But.refl _ _⟩
end Go.Proofs.Yteabfjpajgakiaf

/- group.Put, Run, Cut: what they answer. -/
set_option linter.unusedSimpArgs false
set_option linter.unusedVariables false
set_option maxRecDepth 10000
namespace Go.Proofs.Yteabfjpajgakiaf
open Go.RowKit

def pgErr (g : Grp) (e : Ent) : Int := if grErr g == 0 then putLgErr g.log e else grErr g
def pgAns (g : Grp) (e : Ent) : Int := if pgErr g e == 0 then putAns g.log e else 0
def pgG (g : Grp) (e : Ent) : Grp := if pgErr g e == 0 then setLog g (putLg g.log e) else zeroGrp
def rgErr (g : Grp) (i n : Int) : Int := if grErr g == 0 then rnErr g i n else grErr g
def rgNum (g : Grp) (i n : Int) : Int := if rgErr g i n == 0 then rnNum g i n else 0
def rgG (g : Grp) (i n : Int) : Grp := if rgErr g i n == 0 then setNode g i.toNat (rnOut g i n) else zeroGrp
def cgErr (g : Grp) (n : Int) : Int := if grErr g == 0 then cutErr g.log n else grErr g
def cgG (g : Grp) (n : Int) : Grp := if cgErr g n == 0 then setLog g (cutLg g.log n) else zeroGrp
theorem GrOwn.setLog {base : Nat} {w : World} {g : Grp} {A : Ad} (h : GrOwn base w g A) {l : Lg} {xa ta : Option Addr} {xc tc : Nat} (hl : LogOwn base w (setLog g l) (setLogA A xa xc ta tc)) : GrOwn base w (Go.Proofs.Yteabfjpajgakiaf.setLog g l) (setLogA A xa xc ta tc) :=
  ⟨hl.b, hl.tail, hl.cap, h.t0, h.t1, h.t2⟩
theorem GrOwn.setNode {base : Nat} {w : World} {g : Grp} {A : Ad} (h : GrOwn base w g A) {s : St} {a : Option Addr} {c : Nat} (hs : OwnTab base w (.slice a s.tab.length c) s.tab) : ∀ k, GrOwn base w (Go.Proofs.Yteabfjpajgakiaf.setNode g k s) (setNodeA A k a c)
  | 0 => ⟨h.b, h.tail, h.cap, hs, h.t1, h.t2⟩
  | 1 => ⟨h.b, h.tail, h.cap, h.t0, hs, h.t2⟩
  | _ + 2 => ⟨h.b, h.tail, h.cap, h.t0, h.t1, hs⟩
theorem LogOwn.mono {base base' : Nat} {w : World} {g : Grp} {A : Ad} (h : LogOwn base w g A) (hb : base' ≤ base) : LogOwn base' w g A := ⟨h.b.base hb, owns_base h.tail hb, h.cap⟩
end Go.Proofs.Yteabfjpajgakiaf

/- group.Put. -/
set_option linter.unusedSimpArgs false
set_option linter.unusedVariables false
set_option maxRecDepth 10000
namespace Go.Proofs.Yteabfjpajgakiaf
open Go.RowKit

set_option maxHeartbeats 4000000 in
theorem group_put (g : Grp) (A : Ad) (e : Ent) (w : World) (hG : GrAt w g A) : Calls Try.prog 10 #[.agg (GL g A).toArray, entV e] w fun y w' => ∃ B, GrOwn w.heap.size w' (pgG g e) B ∧ y = .returned (.tuple #[.agg (GL (pgG g e) B).toArray, .int .i64 (pgAns g e), .int .i64 (pgErr g e)]) ∧ Keeps w w' := by
  have HG : Hid (GrAt w g A) := hG
  clear hG
  have HEN : Hid (∀ W, Keeps w W → Calls Try.prog 28 #[.agg (GL g A).toArray] W fun e w' => ∃ B, GrOwn W.heap.size w' (entG g) B ∧ e = .returned (.tuple #[.agg (GL (entG g) B).toArray, .int .i64 (grErr g)]) ∧ Keeps W w') := fun W hk => enter_c g A W (HG.out.keep hk)
  cases q : (grErr g == 0) with
  | false =>
    have q' : (grErr g != 0) = true := by simp [bne, q]
    have e0 : pgErr g e = grErr g := by unfold pgErr; rw [q]; rfl
    have hne : (pgErr g e == 0) = false := by rw [e0]; exact q
    have e1 : pgG g e = zeroGrp := by unfold pgG; rw [hne]; rfl
    have e2 : pgAns g e = 0 := by unfold pgAns; rw [hne]; rfl
    rw [e0, e1, e2]
    clear HG hne e0 e1 e2
    generalize grErr g = er at *
    generalize entG g = gg at *
    go_enter Try.func10, Try.ntmps10
    go_wp2_with (first | (refine box31 rfl rfl rfl ?_; intro w1 bb hBbb hkbb hlbb hgbb) | (refine box35 rfl rfl (e := e) rfl ?_; intro w2 eb hBeb hkeb hleb hgeb) | (refine alloc31 rfl rfl ?_; intro w3 r hBr hkr hlr hgr) | (refine load31 rfl rfl bb rfl ((hBbb.keep hkeb (by rw [GL_len]; decide)).keep hkr (by rw [GL_len]; decide)) ?_))
    have hk3 : Keeps w w3 := (hkbb.trans hkeb).trans hkr
    refine (HEN.out w3 hk3).mono ?_
    rintro y w4 ⟨B, ho, rfl, hb⟩
    have hR4 := hBr.keep hb (by rw [GL_len]; decide)
    have HRG : Hid (w.heap.size ≤ r) := Nat.le_trans (hkbb.trans hkeb).size hgr
    have HK4 : Hid (Keeps w w4) := hk3.trans hb
    clear ho hb hk3 hBbb hkbb hlbb hgbb hBr hkr hlr hgr HEN hBeb hkeb hleb hgeb
    go_wp2_with (first | (refine alloc48 rfl rfl ?_; intro w5 nb hBnb hknb hlnb hgnb) | (refine store48 rfl rfl nb rfl rfl hBnb ?_; intro w6 hSw6 hTw6) | (refine build31z rfl rfl ?_) | (refine store31 rfl rfl r rfl rfl (hR4.keep (But.to hknb hgnb hTw6) (by rw [GL_len]; decide)) ?_; intro w7 hSw7 hTw7))
    refine bodyPost_ret (results3 Try.results10 rfl rfl rfl (read31 hSw7)) rfl ?_
    exact ⟨zeroAd, GrOwn.zero _ _, rfl, But.to (HK4.out.trans (But.to hknb hgnb hTw6)) HRG.out hTw7⟩
  | true =>
    have q' : (grErr g != 0) = false := by simp [bne, q]
    have q0 : grErr g = 0 := by simpa using q
    have hen : entG g = g := by unfold entG; rw [q]; rfl
    rw [hen, q0] at HEN
    cases q1 : (putLgErr g.log e == 0) with
    | false =>
      have q1' : (putLgErr g.log e != 0) = true := by simp [bne, q1]
      have e0 : pgErr g e = putLgErr g.log e := by unfold pgErr; rw [q]; rfl
      have hne : (pgErr g e == 0) = false := by rw [e0]; exact q1
      have e1 : pgG g e = zeroGrp := by unfold pgG; rw [hne]; rfl
      have e2 : pgAns g e = 0 := by unfold pgAns; rw [hne]; rfl
      rw [e0, e1, e2]
      have HH := (show Hid _ from fun B b W h1 h2 => hall_put g B e b W h1 h2)
      clear hne e0 e1 e2
      generalize putAns g.log e = an at *
      generalize putLgErr g.log e = er at *
      go_enter Try.func10, Try.ntmps10
      go_wp2_with (first | (refine box31 rfl rfl rfl ?_; intro w1 bb hBbb hkbb hlbb hgbb) | (refine box35 rfl rfl (e := e) rfl ?_; intro w2 eb hBeb hkeb hleb hgeb) | (refine alloc31 rfl rfl ?_; intro w3 r hBr hkr hlr hgr) | (refine load31 rfl rfl bb rfl ((hBbb.keep hkeb (by rw [GL_len]; decide)).keep hkr (by rw [GL_len]; decide)) ?_))
      have hk3 : Keeps w w3 := (hkbb.trans hkeb).trans hkr
      refine (HEN.out w3 hk3).mono ?_
      rintro y w4 ⟨B, ho, rfl, hb⟩
      have HR4 : Hid (CBox r (GL zeroGrp zeroAd) w4) := hBr.keep hb (by rw [GL_len]; decide)
      have HRG : Hid (w.heap.size ≤ r) := Nat.le_trans (hkbb.trans hkeb).size hgr
      have HRL : Hid (r < w3.heap.size) := hlr
      have HW3 : Hid (w.heap.size ≤ w3.heap.size) := hk3.size
      have HK34 : Hid (w3.heap.size ≤ w4.heap.size) := hb.size
      have HK4 : Hid (Keeps w w4) := hk3.trans hb
      have HO4 : Hid (GrOwn w3.heap.size w4 g B) := ho
      have hE4 : CBox eb (EC e) w4 := (hBeb.keep hkr (Nat.le_of_ble_eq_true rfl)).keep hb (Nat.le_of_ble_eq_true rfl)
      clear ho hb hk3 hBbb hkbb hlbb hgbb hBr hkr hlr hgr HEN hBeb hkeb hleb hgeb
      go_wp2_with (first | (refine alloc48 rfl rfl ?_; intro w5 nb hBnb hknb hlnb hgnb) | (refine store48 rfl rfl nb rfl rfl hBnb ?_; intro w6 hSw6 hTw6) | (refine load35 rfl rfl eb rfl (e := e) (hE4.keep (But.to hknb hgnb hTw6) (Nat.le_of_ble_eq_true rfl)) ?_))
      have HK46 : Hid (Keeps w4 w6) := But.to hknb hgnb hTw6
      have HNB : Hid (w4.heap.size ≤ nb) := hgnb
      have hH := HH.out B nb w6 (HO4.out.at.keep HK46.out) hSw6
      refine hH.mono ?_
      rintro y w7 ⟨xa, xc, ta, tc, hq, rfl, hbt⟩
      have HK47 : Hid (Keeps w4 w7) := But.to HK46.out HNB.out hbt
      have hR7 := HR4.out.keep HK47.out (by rw [GL_len]; decide)
      clear hH hq hbt hBnb hknb hlnb hgnb hSw6 hTw6 HH
      go_wp2_with (first | (refine build31z rfl rfl ?_) | (refine store31 rfl rfl r rfl rfl hR7 ?_; intro w8 hSw8 hTw8))
      refine bodyPost_ret (results3 Try.results10 rfl rfl rfl (read31 hSw8)) rfl ?_
      exact ⟨zeroAd, GrOwn.zero _ _, rfl, But.to (HK4.out.trans HK47.out) HRG.out hTw8⟩
    | true =>
      have q1' : (putLgErr g.log e != 0) = false := by simp [bne, q1]
      have e0 : pgErr g e = putLgErr g.log e := by unfold pgErr; rw [q]; rfl
      have q2 : putLgErr g.log e = 0 := by simpa using q1
      have hne : (pgErr g e == 0) = true := by rw [e0]; exact q1
      have e1 : pgG g e = setLog g (putLg g.log e) := by unfold pgG; rw [hne]; rfl
      have e2 : pgAns g e = putAns g.log e := by unfold pgAns; rw [hne]; rfl
      rw [e0, e1, e2, q2]
      have HH := (show Hid _ from fun B b W h1 h2 => hall_put g B e b W h1 h2)
      clear hne e0 e1 e2
      rw [q2] at HH
      generalize putAns g.log e = an at *
      go_enter Try.func10, Try.ntmps10
      go_wp2_with (first | (refine box31 rfl rfl rfl ?_; intro w1 bb hBbb hkbb hlbb hgbb) | (refine box35 rfl rfl (e := e) rfl ?_; intro w2 eb hBeb hkeb hleb hgeb) | (refine alloc31 rfl rfl ?_; intro w3 r hBr hkr hlr hgr) | (refine load31 rfl rfl bb rfl ((hBbb.keep hkeb (by rw [GL_len]; decide)).keep hkr (by rw [GL_len]; decide)) ?_))
      have hk3 : Keeps w w3 := (hkbb.trans hkeb).trans hkr
      refine (HEN.out w3 hk3).mono ?_
      rintro y w4 ⟨B, ho, rfl, hb⟩
      have HR4 : Hid (CBox r (GL zeroGrp zeroAd) w4) := hBr.keep hb (by rw [GL_len]; decide)
      have HRG : Hid (w.heap.size ≤ r) := Nat.le_trans (hkbb.trans hkeb).size hgr
      have HRL : Hid (r < w3.heap.size) := hlr
      have HW3 : Hid (w.heap.size ≤ w3.heap.size) := hk3.size
      have HK34 : Hid (w3.heap.size ≤ w4.heap.size) := hb.size
      have HK4 : Hid (Keeps w w4) := hk3.trans hb
      have HO4 : Hid (GrOwn w3.heap.size w4 g B) := ho
      have hE4 : CBox eb (EC e) w4 := (hBeb.keep hkr (Nat.le_of_ble_eq_true rfl)).keep hb (Nat.le_of_ble_eq_true rfl)
      clear ho hb hk3 hBbb hkbb hlbb hgbb hBr hkr hlr hgr HEN hBeb hkeb hleb hgeb
      go_wp2_with (first | (refine alloc48 rfl rfl ?_; intro w5 nb hBnb hknb hlnb hgnb) | (refine store48 rfl rfl nb rfl rfl hBnb ?_; intro w6 hSw6 hTw6) | (refine load35 rfl rfl eb rfl (e := e) (hE4.keep (But.to hknb hgnb hTw6) (Nat.le_of_ble_eq_true rfl)) ?_))
      have HK46 : Hid (Keeps w4 w6) := But.to hknb hgnb hTw6
      have HNB : Hid (w4.heap.size ≤ nb) := hgnb
      have hH := HH.out B nb w6 (HO4.out.at.keep HK46.out) hSw6
      refine hH.mono ?_
      rintro y w7 ⟨xa, xc, ta, tc, hq, rfl, hbt⟩
      have HK47 : Hid (Keeps w4 w7) := But.to HK46.out HNB.out hbt
      obtain ⟨hlo, hBn⟩ := hq (by trivial)
      have HLO := (show Hid _ from hlo)
      have HBN := (show Hid _ from hBn)
      have hR7 := HR4.out.keep HK47.out (by rw [GL_len]; decide)
      clear hH hq hbt hBnb hknb hlnb hgnb hSw6 hTw6 HH hlo hBn
      go_wp2_with (first | (refine load31 rfl rfl nb rfl HBN.out ?_) | (refine store31 rfl rfl r rfl rfl hR7 ?_; intro w8 hSw8 hTw8))
      refine bodyPost_ret (results3 Try.results10 rfl rfl rfl (read31 hSw8)) rfl ?_
      have h1 := HO4.out.keep HK47.out
      have h2 := Nat.le_trans HK34.out HK46.out.size
      exact ⟨_, ((h1.setLog (HLO.out.mono h2)).but HRL.out hTw8).mono HW3.out, rfl, But.to (HK4.out.trans HK47.out) HRG.out hTw8⟩
end Go.Proofs.Yteabfjpajgakiaf

/- group.Run. -/
set_option linter.unusedSimpArgs false
set_option linter.unusedVariables false
set_option maxRecDepth 10000
namespace Go.Proofs.Yteabfjpajgakiaf
open Go.RowKit

set_option maxHeartbeats 4000000 in
theorem group_run (g : Grp) (A : Ad) (i n : Int) (w : World) (hG : GrAt w g A) : Calls Try.prog 11 #[.agg (GL g A).toArray, .int .i64 i, .int .i64 n] w fun y w' => ∃ B, GrOwn w.heap.size w' (rgG g i n) B ∧ y = .returned (.tuple #[.agg (GL (rgG g i n) B).toArray, .int .i64 (rgNum g i n), .int .i64 (rgErr g i n)]) ∧ Keeps w w' := by
  have HG : Hid (GrAt w g A) := hG
  clear hG
  have HEN : Hid (∀ W, Keeps w W → Calls Try.prog 28 #[.agg (GL g A).toArray] W fun e w' => ∃ B, GrOwn W.heap.size w' (entG g) B ∧ e = .returned (.tuple #[.agg (GL (entG g) B).toArray, .int .i64 (grErr g)]) ∧ Keeps W w') := fun W hk => enter_c g A W (HG.out.keep hk)
  cases q : (grErr g == 0) with
  | false =>
    have q' : (grErr g != 0) = true := by simp [bne, q]
    have e0 : rgErr g i n = grErr g := by unfold rgErr; rw [q]; rfl
    have hne : (rgErr g i n == 0) = false := by rw [e0]; exact q
    have e1 : rgG g i n = zeroGrp := by unfold rgG; rw [hne]; rfl
    have e2 : rgNum g i n = 0 := by unfold rgNum; rw [hne]; rfl
    rw [e0, e1, e2]
    clear HG hne e0 e1 e2
    generalize grErr g = er at *
    generalize entG g = gg at *
    go_enter Try.func11, Try.ntmps11
    go_wp2_with (first | (refine box31 rfl rfl rfl ?_; intro w1 bb hBbb hkbb hlbb hgbb) | (refine alloc31 rfl rfl ?_; intro w3 r hBr hkr hlr hgr) | (refine load31 rfl rfl bb rfl (hBbb.keep hkr (by rw [GL_len]; decide)) ?_))
    have hk3 : Keeps w w3 := hkbb.trans hkr
    refine (HEN.out w3 hk3).mono ?_
    rintro y w4 ⟨B, ho, rfl, hb⟩
    have hR4 := hBr.keep hb (by rw [GL_len]; decide)
    have HRG : Hid (w.heap.size ≤ r) := Nat.le_trans hkbb.size hgr
    have HK4 : Hid (Keeps w w4) := hk3.trans hb
    clear ho hb hk3 hBbb hkbb hlbb hgbb hBr hkr hlr hgr HEN 
    go_wp2_with (first | (refine alloc48 rfl rfl ?_; intro w5 nb hBnb hknb hlnb hgnb) | (refine store48 rfl rfl nb rfl rfl hBnb ?_; intro w6 hSw6 hTw6) | (refine build31z rfl rfl ?_) | (refine store31 rfl rfl r rfl rfl (hR4.keep (But.to hknb hgnb hTw6) (by rw [GL_len]; decide)) ?_; intro w7 hSw7 hTw7))
    refine bodyPost_ret (results3 Try.results11 rfl rfl rfl (read31 hSw7)) rfl ?_
    exact ⟨zeroAd, GrOwn.zero _ _, rfl, But.to (HK4.out.trans (But.to hknb hgnb hTw6)) HRG.out hTw7⟩
  | true =>
    have q' : (grErr g != 0) = false := by simp [bne, q]
    have q0 : grErr g = 0 := by simpa using q
    have hen : entG g = g := by unfold entG; rw [q]; rfl
    rw [hen, q0] at HEN
    cases q1 : (rnErr g i n == 0) with
    | false =>
      have q1' : (rnErr g i n != 0) = true := by simp [bne, q1]
      have e0 : rgErr g i n = rnErr g i n := by unfold rgErr; rw [q]; rfl
      have hne : (rgErr g i n == 0) = false := by rw [e0]; exact q1
      have e1 : rgG g i n = zeroGrp := by unfold rgG; rw [hne]; rfl
      have e2 : rgNum g i n = 0 := by unfold rgNum; rw [hne]; rfl
      rw [e0, e1, e2]
      have HH := (show Hid _ from fun B b W h1 h2 => hall_run g B i n b W h1 h2)
      clear hne e0 e1 e2
      generalize rnNum g i n = an at *
      generalize rnErr g i n = er at *
      go_enter Try.func11, Try.ntmps11
      go_wp2_with (first | (refine box31 rfl rfl rfl ?_; intro w1 bb hBbb hkbb hlbb hgbb) | (refine alloc31 rfl rfl ?_; intro w3 r hBr hkr hlr hgr) | (refine load31 rfl rfl bb rfl (hBbb.keep hkr (by rw [GL_len]; decide)) ?_))
      have hk3 : Keeps w w3 := hkbb.trans hkr
      refine (HEN.out w3 hk3).mono ?_
      rintro y w4 ⟨B, ho, rfl, hb⟩
      have HR4 : Hid (CBox r (GL zeroGrp zeroAd) w4) := hBr.keep hb (by rw [GL_len]; decide)
      have HRG : Hid (w.heap.size ≤ r) := Nat.le_trans hkbb.size hgr
      have HRL : Hid (r < w3.heap.size) := hlr
      have HW3 : Hid (w.heap.size ≤ w3.heap.size) := hk3.size
      have HK34 : Hid (w3.heap.size ≤ w4.heap.size) := hb.size
      have HK4 : Hid (Keeps w w4) := hk3.trans hb
      have HO4 : Hid (GrOwn w3.heap.size w4 g B) := ho
      clear ho hb hk3 hBbb hkbb hlbb hgbb hBr hkr hlr hgr HEN 
      go_wp2_with (first | (refine alloc48 rfl rfl ?_; intro w5 nb hBnb hknb hlnb hgnb) | (refine store48 rfl rfl nb rfl rfl hBnb ?_; intro w6 hSw6 hTw6))
      have HK46 : Hid (Keeps w4 w6) := But.to hknb hgnb hTw6
      have HNB : Hid (w4.heap.size ≤ nb) := hgnb
      have hH := HH.out B nb w6 (HO4.out.at.keep HK46.out) hSw6
      refine hH.mono ?_
      rintro y w7 ⟨xa, xc, hq, rfl, hbt⟩
      have HK47 : Hid (Keeps w4 w7) := But.to HK46.out HNB.out hbt
      have hR7 := HR4.out.keep HK47.out (by rw [GL_len]; decide)
      clear hH hq hbt hBnb hknb hlnb hgnb hSw6 hTw6 HH
      go_wp2_with (first | (refine build31z rfl rfl ?_) | (refine store31 rfl rfl r rfl rfl hR7 ?_; intro w8 hSw8 hTw8))
      refine bodyPost_ret (results3 Try.results11 rfl rfl rfl (read31 hSw8)) rfl ?_
      exact ⟨zeroAd, GrOwn.zero _ _, rfl, But.to (HK4.out.trans HK47.out) HRG.out hTw8⟩
    | true =>
      have q1' : (rnErr g i n != 0) = false := by simp [bne, q1]
      have e0 : rgErr g i n = rnErr g i n := by unfold rgErr; rw [q]; rfl
      have q2 : rnErr g i n = 0 := by simpa using q1
      have hne : (rgErr g i n == 0) = true := by rw [e0]; exact q1
      have e1 : rgG g i n = setNode g i.toNat (rnOut g i n) := by unfold rgG; rw [hne]; rfl
      have e2 : rgNum g i n = rnNum g i n := by unfold rgNum; rw [hne]; rfl
      rw [e0, e1, e2, q2]
      have HH := (show Hid _ from fun B b W h1 h2 => hall_run g B i n b W h1 h2)
      clear hne e0 e1 e2
      rw [q2] at HH
      generalize rnNum g i n = an at *
      go_enter Try.func11, Try.ntmps11
      go_wp2_with (first | (refine box31 rfl rfl rfl ?_; intro w1 bb hBbb hkbb hlbb hgbb) | (refine alloc31 rfl rfl ?_; intro w3 r hBr hkr hlr hgr) | (refine load31 rfl rfl bb rfl (hBbb.keep hkr (by rw [GL_len]; decide)) ?_))
      have hk3 : Keeps w w3 := hkbb.trans hkr
      refine (HEN.out w3 hk3).mono ?_
      rintro y w4 ⟨B, ho, rfl, hb⟩
      have HR4 : Hid (CBox r (GL zeroGrp zeroAd) w4) := hBr.keep hb (by rw [GL_len]; decide)
      have HRG : Hid (w.heap.size ≤ r) := Nat.le_trans hkbb.size hgr
      have HRL : Hid (r < w3.heap.size) := hlr
      have HW3 : Hid (w.heap.size ≤ w3.heap.size) := hk3.size
      have HK34 : Hid (w3.heap.size ≤ w4.heap.size) := hb.size
      have HK4 : Hid (Keeps w w4) := hk3.trans hb
      have HO4 : Hid (GrOwn w3.heap.size w4 g B) := ho
      clear ho hb hk3 hBbb hkbb hlbb hgbb hBr hkr hlr hgr HEN 
      go_wp2_with (first | (refine alloc48 rfl rfl ?_; intro w5 nb hBnb hknb hlnb hgnb) | (refine store48 rfl rfl nb rfl rfl hBnb ?_; intro w6 hSw6 hTw6))
      have HK46 : Hid (Keeps w4 w6) := But.to hknb hgnb hTw6
      have HNB : Hid (w4.heap.size ≤ nb) := hgnb
      have hH := HH.out B nb w6 (HO4.out.at.keep HK46.out) hSw6
      refine hH.mono ?_
      rintro y w7 ⟨xa, xc, hq, rfl, hbt⟩
      have HK47 : Hid (Keeps w4 w7) := But.to HK46.out HNB.out hbt
      obtain ⟨hlo, hBn⟩ := hq (by trivial)
      have HLO := (show Hid _ from hlo)
      have HBN := (show Hid _ from hBn)
      have hR7 := HR4.out.keep HK47.out (by rw [GL_len]; decide)
      clear hH hq hbt hBnb hknb hlnb hgnb hSw6 hTw6 HH hlo hBn
      go_wp2_with (first | (refine load31 rfl rfl nb rfl HBN.out ?_) | (refine store31 rfl rfl r rfl rfl hR7 ?_; intro w8 hSw8 hTw8))
      refine bodyPost_ret (results3 Try.results11 rfl rfl rfl (read31 hSw8)) rfl ?_
      have h1 := HO4.out.keep HK47.out
      have h2 := Nat.le_trans HK34.out HK46.out.size
      exact ⟨_, ((h1.setNode (OwnTab.base HLO.out h2) i.toNat).but HRL.out hTw8).mono HW3.out, rfl, But.to (HK4.out.trans HK47.out) HRG.out hTw8⟩
end Go.Proofs.Yteabfjpajgakiaf

/- group.Cut. -/
set_option linter.unusedSimpArgs false
set_option linter.unusedVariables false
set_option maxRecDepth 10000
namespace Go.Proofs.Yteabfjpajgakiaf
open Go.RowKit

set_option maxHeartbeats 4000000 in
theorem group_cut (g : Grp) (A : Ad) (n : Int) (w : World) (hG : GrAt w g A) : Calls Try.prog 13 #[.agg (GL g A).toArray, .int .i64 n] w fun y w' => ∃ B, GrOwn w.heap.size w' (cgG g n) B ∧ y = .returned (.tuple #[.agg (GL (cgG g n) B).toArray, .int .i64 (cgErr g n)]) ∧ Keeps w w' := by
  have HG : Hid (GrAt w g A) := hG
  clear hG
  have HEN : Hid (∀ W, Keeps w W → Calls Try.prog 28 #[.agg (GL g A).toArray] W fun e w' => ∃ B, GrOwn W.heap.size w' (entG g) B ∧ e = .returned (.tuple #[.agg (GL (entG g) B).toArray, .int .i64 (grErr g)]) ∧ Keeps W w') := fun W hk => enter_c g A W (HG.out.keep hk)
  cases q : (grErr g == 0) with
  | false =>
    have q' : (grErr g != 0) = true := by simp [bne, q]
    have e0 : cgErr g n = grErr g := by unfold cgErr; rw [q]; rfl
    have hne : (cgErr g n == 0) = false := by rw [e0]; exact q
    have e1 : cgG g n = zeroGrp := by unfold cgG; rw [hne]; rfl
    rw [e0, e1]
    clear HG hne e0 e1
    generalize grErr g = er at *
    generalize entG g = gg at *
    go_enter Try.func13, Try.ntmps13
    go_wp2_with (first | (refine box31 rfl rfl rfl ?_; intro w1 bb hBbb hkbb hlbb hgbb) | (refine alloc31 rfl rfl ?_; intro w3 r hBr hkr hlr hgr) | (refine load31 rfl rfl bb rfl (hBbb.keep hkr (by rw [GL_len]; decide)) ?_))
    have hk3 : Keeps w w3 := hkbb.trans hkr
    refine (HEN.out w3 hk3).mono ?_
    rintro y w4 ⟨B, ho, rfl, hb⟩
    have hR4 := hBr.keep hb (by rw [GL_len]; decide)
    have HRG : Hid (w.heap.size ≤ r) := Nat.le_trans hkbb.size hgr
    have HK4 : Hid (Keeps w w4) := hk3.trans hb
    clear ho hb hk3 hBbb hkbb hlbb hgbb hBr hkr hlr hgr HEN 
    go_wp2_with (first | (refine alloc48 rfl rfl ?_; intro w5 nb hBnb hknb hlnb hgnb) | (refine store48 rfl rfl nb rfl rfl hBnb ?_; intro w6 hSw6 hTw6) | (refine build31z rfl rfl ?_) | (refine store31 rfl rfl r rfl rfl (hR4.keep (But.to hknb hgnb hTw6) (by rw [GL_len]; decide)) ?_; intro w7 hSw7 hTw7))
    refine bodyPost_ret (results2 Try.results13 rfl rfl (read31 hSw7)) rfl ?_
    exact ⟨zeroAd, GrOwn.zero _ _, rfl, But.to (HK4.out.trans (But.to hknb hgnb hTw6)) HRG.out hTw7⟩
  | true =>
    have q' : (grErr g != 0) = false := by simp [bne, q]
    have q0 : grErr g = 0 := by simpa using q
    have hen : entG g = g := by unfold entG; rw [q]; rfl
    rw [hen, q0] at HEN
    cases q1 : (cutErr g.log n == 0) with
    | false =>
      have q1' : (cutErr g.log n != 0) = true := by simp [bne, q1]
      have e0 : cgErr g n = cutErr g.log n := by unfold cgErr; rw [q]; rfl
      have hne : (cgErr g n == 0) = false := by rw [e0]; exact q1
      have e1 : cgG g n = zeroGrp := by unfold cgG; rw [hne]; rfl
      rw [e0, e1]
      have HH := (show Hid _ from fun B b W h1 h2 => hall_cut g B n b W h1 h2)
      clear hne e0 e1
      generalize cutErr g.log n = er at *
      go_enter Try.func13, Try.ntmps13
      go_wp2_with (first | (refine box31 rfl rfl rfl ?_; intro w1 bb hBbb hkbb hlbb hgbb) | (refine alloc31 rfl rfl ?_; intro w3 r hBr hkr hlr hgr) | (refine load31 rfl rfl bb rfl (hBbb.keep hkr (by rw [GL_len]; decide)) ?_))
      have hk3 : Keeps w w3 := hkbb.trans hkr
      refine (HEN.out w3 hk3).mono ?_
      rintro y w4 ⟨B, ho, rfl, hb⟩
      have HR4 : Hid (CBox r (GL zeroGrp zeroAd) w4) := hBr.keep hb (by rw [GL_len]; decide)
      have HRG : Hid (w.heap.size ≤ r) := Nat.le_trans hkbb.size hgr
      have HRL : Hid (r < w3.heap.size) := hlr
      have HW3 : Hid (w.heap.size ≤ w3.heap.size) := hk3.size
      have HK34 : Hid (w3.heap.size ≤ w4.heap.size) := hb.size
      have HK4 : Hid (Keeps w w4) := hk3.trans hb
      have HO4 : Hid (GrOwn w3.heap.size w4 g B) := ho
      clear ho hb hk3 hBbb hkbb hlbb hgbb hBr hkr hlr hgr HEN 
      go_wp2_with (first | (refine alloc48 rfl rfl ?_; intro w5 nb hBnb hknb hlnb hgnb) | (refine store48 rfl rfl nb rfl rfl hBnb ?_; intro w6 hSw6 hTw6))
      have HK46 : Hid (Keeps w4 w6) := But.to hknb hgnb hTw6
      have HNB : Hid (w4.heap.size ≤ nb) := hgnb
      have hH := HH.out B nb w6 (HO4.out.at.keep HK46.out) hSw6
      refine hH.mono ?_
      rintro y w7 ⟨xa, xc, ta, tc, hq, rfl, hbt⟩
      have HK47 : Hid (Keeps w4 w7) := But.to HK46.out HNB.out hbt
      have hR7 := HR4.out.keep HK47.out (by rw [GL_len]; decide)
      clear hH hq hbt hBnb hknb hlnb hgnb hSw6 hTw6 HH
      go_wp2_with (first | (refine build31z rfl rfl ?_) | (refine store31 rfl rfl r rfl rfl hR7 ?_; intro w8 hSw8 hTw8))
      refine bodyPost_ret (results2 Try.results13 rfl rfl (read31 hSw8)) rfl ?_
      exact ⟨zeroAd, GrOwn.zero _ _, rfl, But.to (HK4.out.trans HK47.out) HRG.out hTw8⟩
    | true =>
      have q1' : (cutErr g.log n != 0) = false := by simp [bne, q1]
      have e0 : cgErr g n = cutErr g.log n := by unfold cgErr; rw [q]; rfl
      have q2 : cutErr g.log n = 0 := by simpa using q1
      have hne : (cgErr g n == 0) = true := by rw [e0]; exact q1
      have e1 : cgG g n = setLog g (cutLg g.log n) := by unfold cgG; rw [hne]; rfl
      rw [e0, e1, q2]
      have HH := (show Hid _ from fun B b W h1 h2 => hall_cut g B n b W h1 h2)
      clear hne e0 e1
      rw [q2] at HH
      go_enter Try.func13, Try.ntmps13
      go_wp2_with (first | (refine box31 rfl rfl rfl ?_; intro w1 bb hBbb hkbb hlbb hgbb) | (refine alloc31 rfl rfl ?_; intro w3 r hBr hkr hlr hgr) | (refine load31 rfl rfl bb rfl (hBbb.keep hkr (by rw [GL_len]; decide)) ?_))
      have hk3 : Keeps w w3 := hkbb.trans hkr
      refine (HEN.out w3 hk3).mono ?_
      rintro y w4 ⟨B, ho, rfl, hb⟩
      have HR4 : Hid (CBox r (GL zeroGrp zeroAd) w4) := hBr.keep hb (by rw [GL_len]; decide)
      have HRG : Hid (w.heap.size ≤ r) := Nat.le_trans hkbb.size hgr
      have HRL : Hid (r < w3.heap.size) := hlr
      have HW3 : Hid (w.heap.size ≤ w3.heap.size) := hk3.size
      have HK34 : Hid (w3.heap.size ≤ w4.heap.size) := hb.size
      have HK4 : Hid (Keeps w w4) := hk3.trans hb
      have HO4 : Hid (GrOwn w3.heap.size w4 g B) := ho
      clear ho hb hk3 hBbb hkbb hlbb hgbb hBr hkr hlr hgr HEN 
      go_wp2_with (first | (refine alloc48 rfl rfl ?_; intro w5 nb hBnb hknb hlnb hgnb) | (refine store48 rfl rfl nb rfl rfl hBnb ?_; intro w6 hSw6 hTw6))
      have HK46 : Hid (Keeps w4 w6) := But.to hknb hgnb hTw6
      have HNB : Hid (w4.heap.size ≤ nb) := hgnb
      have hH := HH.out B nb w6 (HO4.out.at.keep HK46.out) hSw6
      refine hH.mono ?_
      rintro y w7 ⟨xa, xc, ta, tc, hq, rfl, hbt⟩
      have HK47 : Hid (Keeps w4 w7) := But.to HK46.out HNB.out hbt
      obtain ⟨hlo, hBn⟩ := hq (by trivial)
      have HLO := (show Hid _ from hlo)
      have HBN := (show Hid _ from hBn)
      have hR7 := HR4.out.keep HK47.out (by rw [GL_len]; decide)
      clear hH hq hbt hBnb hknb hlnb hgnb hSw6 hTw6 HH hlo hBn
      go_wp2_with (first | (refine load31 rfl rfl nb rfl HBN.out ?_) | (refine store31 rfl rfl r rfl rfl hR7 ?_; intro w8 hSw8 hTw8))
      refine bodyPost_ret (results2 Try.results13 rfl rfl (read31 hSw8)) rfl ?_
      have h1 := HO4.out.keep HK47.out
      have h2 := Nat.le_trans HK34.out HK46.out.size
      exact ⟨_, ((h1.setLog (HLO.out.mono h2)).but HRL.out hTw8).mono HW3.out, rfl, But.to (HK4.out.trans HK47.out) HRG.out hTw8⟩
end Go.Proofs.Yteabfjpajgakiaf

/- group.Begin. -/
set_option linter.unusedSimpArgs false
set_option linter.unusedVariables false
set_option maxRecDepth 10000
namespace Go.Proofs.Yteabfjpajgakiaf
open Go.RowKit

theorem store25z {ops : Array Oper} {rest : List Oper} {op : Oper} {a : Act} {w : World} {Q : Exit → Act → World → Prop} (hgd : op.guard = none) {x y : Operand} (ho : op.op = .store 25 x y) (b : Nat) (hx : a.eval x = .pointer (some ⟨b, 0, none⟩)) (hy : a.eval y = stV zeroSt (.slice none 0 0)) (hB : CBox b (GL zeroGrp zeroAd) w)
    (h : ∀ w', CBox b (GL zeroGrp zeroAd) w' → But b w w' → wpList Try.prog ops Q rest (a.put op.dst undef) w') : wpList Try.prog ops Q (op :: rest) a w :=
  wpList_store_box hgd _ x y ho b 0 (SC zeroSt (.slice none 0 0)) hx hy hB _ rfl (Nat.le_of_ble_eq_true rfl) (info_size size25 rfl) (SC_one _ _ _ _) h

set_option maxHeartbeats 4000000 in
theorem group_begin (w : World) : Calls Try.prog 23 #[] w fun e w' => e = .returned (.agg (GL zeroGrp zeroAd).toArray) ∧ Keeps w w' := by
  go_enter Try.func23, Try.ntmps23
  go_wp2_with (first | (refine alloc31 rfl rfl ?_; intro w1 r hBr hkr hlr hgr) | (refine alloc48 rfl rfl ?_; intro w2 nb hBnb hknb hlnb hgnb))
  refine (begin_c w2).mono ?_
  rintro e w3 ⟨rfl, hb⟩
  have hB3 := hBnb.keep hb (by rw [GL_len]; decide)
  have HR3 : Hid (CBox r (GL zeroGrp zeroAd) w3) := (hBr.keep hknb (by rw [GL_len]; decide)).keep hb (by rw [GL_len]; decide)
  have HNE : Hid (r ≠ nb) := fun e => by omega
  have HNB : Hid (w.heap.size ≤ nb) := Nat.le_trans hkr.size hgnb
  have HRG : Hid (w.heap.size ≤ r) := hgr
  have HK3 : Hid (Keeps w w3) := (hkr.trans hknb).trans hb
  clear hb hBr hkr hlr hgr hBnb hknb hlnb hgnb
  go_wp2_with (first | (refine store25z rfl rfl nb rfl rfl hB3 ?_; intro X0 hSX0 hTX0))
  have HB0 : Hid (CBox nb (GL zeroGrp zeroAd) X0) := hSX0
  have HR0 : Hid (CBox r (GL zeroGrp zeroAd) X0) := HR3.out.other hTX0 HNE.out (by rw [GL_len]; decide)
  have HK0 : Hid (Keeps w X0) := But.to HK3.out HNB.out hTX0
  clear hSX0 hTX0 HR3 HK3 hB3
  refine wp_loop_rounds 4 ?_
  rw [rounds_succ]
  go_wp2_with fail
  refine (begin_c X0).mono ?_
  rintro e Y0 ⟨rfl, hb⟩
  have hBn := HB0.out.keep hb (by rw [GL_len]; decide)
  have hR : Hid (CBox r (GL zeroGrp zeroAd) Y0) := HR0.out.keep hb (by rw [GL_len]; decide)
  have HKy : Hid (Keeps w Y0) := HK0.out.trans hb
  clear hb HB0 HR0 HK0
  go_wp2_with (first | (refine store25 rfl rfl nb 0 (by decide) 8 rfl rfl (s := zeroSt) (xa := none) (xc := 0) rfl hBn ?_; intro X1 hSX1 hTX1))
  have HB1 : Hid (CBox nb (GL zeroGrp zeroAd) X1) := hSX1
  have HR1 : Hid (CBox r (GL zeroGrp zeroAd) X1) := hR.out.other hTX1 HNE.out (by rw [GL_len]; decide)
  have HK1 : Hid (Keeps w X1) := But.to HKy.out HNB.out hTX1
  clear hSX1 hTX1 hBn hR HKy
  rw [rounds_succ]
  go_wp2_with fail
  refine (begin_c X1).mono ?_
  rintro e Y1 ⟨rfl, hb⟩
  have hBn := HB1.out.keep hb (by rw [GL_len]; decide)
  have hR : Hid (CBox r (GL zeroGrp zeroAd) Y1) := HR1.out.keep hb (by rw [GL_len]; decide)
  have HKy : Hid (Keeps w Y1) := HK1.out.trans hb
  clear hb HB1 HR1 HK1
  go_wp2_with (first | (refine store25 rfl rfl nb 1 (by decide) 15 rfl rfl (s := zeroSt) (xa := none) (xc := 0) rfl hBn ?_; intro X2 hSX2 hTX2))
  have HB2 : Hid (CBox nb (GL zeroGrp zeroAd) X2) := hSX2
  have HR2 : Hid (CBox r (GL zeroGrp zeroAd) X2) := hR.out.other hTX2 HNE.out (by rw [GL_len]; decide)
  have HK2 : Hid (Keeps w X2) := But.to HKy.out HNB.out hTX2
  clear hSX2 hTX2 hBn hR HKy
  rw [rounds_succ]
  go_wp2_with fail
  refine (begin_c X2).mono ?_
  rintro e Y2 ⟨rfl, hb⟩
  have hBn := HB2.out.keep hb (by rw [GL_len]; decide)
  have hR : Hid (CBox r (GL zeroGrp zeroAd) Y2) := HR2.out.keep hb (by rw [GL_len]; decide)
  have HKy : Hid (Keeps w Y2) := HK2.out.trans hb
  clear hb HB2 HR2 HK2
  go_wp2_with (first | (refine store25 rfl rfl nb 2 (by decide) 22 rfl rfl (s := zeroSt) (xa := none) (xc := 0) rfl hBn ?_; intro X3 hSX3 hTX3))
  have HB3 : Hid (CBox nb (GL zeroGrp zeroAd) X3) := hSX3
  have HR3 : Hid (CBox r (GL zeroGrp zeroAd) X3) := hR.out.other hTX3 HNE.out (by rw [GL_len]; decide)
  have HK3 : Hid (Keeps w X3) := But.to HKy.out HNB.out hTX3
  clear hSX3 hTX3 hBn hR HKy
  rw [rounds_succ]
  go_wp2_with (first | (refine load31 rfl rfl nb rfl HB3.out ?_) | (refine store31 rfl rfl r rfl rfl HR3.out ?_; intro X4 hSX4 hTX4))
  refine bodyPost_ret (results1 Try.results23 rfl (read31 hSX4)) rfl ?_
  exact ⟨rfl, But.to HK3.out HRG.out hTX4⟩
end Go.Proofs.Yteabfjpajgakiaf

/- A region that draws its order: whatever the order, each operation's value meets a condition of its own; the conditions stand when memory is added, and, where an operation writes (a store, an append in its place: 'special'), as far as that operation's own frame keeps them. -/
set_option linter.unusedSimpArgs false
set_option linter.unusedVariables false
namespace Go.Proofs.Yteabfjpajgakiaf
open Go.RowKit

/-- A condition on a value that stands when memory is added. -/
structure Pr where
  p : Value → World → Prop
  keep : ∀ v W W', p v W → Keeps W W' → p v W'
def Pr.any : Pr := ⟨fun _ _ => True, fun _ _ _ _ _ => trivial⟩
def Pr.is (x : Value) : Pr := ⟨fun v _ => v = x, fun _ _ _ h _ => h⟩

def prAt : List Pr → Nat → Pr
  | [], _ => Pr.any
  | r :: _, 0 => r
  | _ :: rs, i + 1 => prAt rs i

def fillL : List (Option Tmp) → (Nat → Value) → Nat → Act → Act
  | [], _, _, a => a
  | d :: ds, vs, k, a => fillL ds vs (k + 1) (a.put d (vs k))

theorem put_twice (a : Act) (d : Option Tmp) (x y : Value) : (a.put d x).put d y = a.put d y := by
  cases d <;> simp [Act.put]
theorem put_comm' (a : Act) {d e : Option Tmp} (x y : Value) (h : ∀ t, d = some t → e ≠ some t) : (a.put d x).put e y = (a.put e y).put d x := by
  cases d with
  | none => rfl
  | some d =>
    cases e with
    | none => rfl
    | some e =>
      simp only [Act.put]
      rw [Array.setIfInBounds_comm _ _ (fun q => h d rfl (by rw [q]))]
/-- No slot is written twice. -/
def apartB : List (Option Tmp) → Bool
  | [] => true
  | none :: ds => apartB ds
  | some d :: ds => !ds.contains (some d) && apartB ds
theorem fillL_comm {d : Option Tmp} : ∀ (ds : List (Option Tmp)) (vs : Nat → Value) (k : Nat) (a : Act) (v : Value), (∀ t, d = some t → some t ∉ ds) → (fillL ds vs k a).put d v = fillL ds vs k (a.put d v)
  | [], _, _, _, _, _ => rfl
  | e :: ds, vs, k, a, v, h => by
    simp only [fillL]
    rw [fillL_comm ds vs (k + 1) _ v (fun t ht hm => h t ht (List.mem_cons_of_mem _ hm)), put_comm' a (vs k) v (fun t ht hd => h t hd (by rw [ht]; exact List.mem_cons_self ..))]
theorem fillL_congr : ∀ (ds : List (Option Tmp)) (vs vs' : Nat → Value) (k : Nat) (a : Act), (∀ j, k ≤ j → vs j = vs' j) → fillL ds vs k a = fillL ds vs' k a
  | [], _, _, _, _, _ => rfl
  | d :: ds, vs, vs', k, a, h => by
    simp only [fillL]
    rw [h k (Nat.le_refl _)]
    exact fillL_congr ds vs vs' (k + 1) _ (fun j hj => h j (by omega))
theorem fillL_put {d : Option Tmp} : ∀ (ds : List (Option Tmp)) (vs : Nat → Value) (k i : Nat) (a : Act) (v : Value), apartB ds = true → ds[i]? = some d → (fillL ds vs k a).put d v = fillL ds (fun j => if j = k + i then v else vs j) k a
  | [], _, _, i, _, _, _, h => by simp at h
  | e :: ds, vs, k, 0, a, v, hn, h => by
    obtain rfl : e = d := by simpa using h
    simp only [fillL]
    rw [fillL_comm ds vs (k + 1) _ v (fun t ht hm => by subst ht; simp [apartB] at hn; exact hn.1 hm), put_twice]
    simp only [Nat.add_zero, if_true]
    exact fillL_congr ds _ _ (k + 1) _ (fun j hj => by simp [show j ≠ k by omega])
  | e :: ds, vs, k, i + 1, a, v, hn, h => by
    have hn' : apartB ds = true := by
      cases e with
      | none => exact hn
      | some e => simp [apartB] at hn; exact hn.2
    simp only [fillL]
    rw [fillL_put ds vs (k + 1) i _ v hn' (by simpa using h)]
    simp only [show k ≠ k + (i + 1) by omega, if_false]
    exact fillL_congr ds _ _ (k + 1) _ (fun j hj => by simp [show k + 1 + i = k + (i + 1) by omega])

def cntU (listed : Array Bool) : Nat → Nat
  | 0 => 0
  | n + 1 => cntU listed n + (if listed.getD n false = true then 0 else 1)
theorem getD_set {listed : Array Bool} {i : Nat} (hi : i < listed.size) (j : Nat) : (listed.setIfInBounds i true).getD j false = if j = i then true else listed.getD j false := by
  simp only [Array.getD_eq_getD_getElem?, Array.getElem?_setIfInBounds]
  by_cases h : i = j
  · subst h; simp [hi]
  · rw [if_neg h, if_neg (fun e => h e.symm)]
theorem cnt_ge {listed : Array Bool} {i : Nat} (hi : i < listed.size) : ∀ n, n ≤ i → cntU (listed.setIfInBounds i true) n = cntU listed n
  | 0, _ => rfl
  | n + 1, h => by
    simp only [cntU]
    rw [cnt_ge hi n (by omega), getD_set hi, if_neg (by omega : ¬ n = i)]
theorem cnt_lt {listed : Array Bool} {i : Nat} (hi : i < listed.size) (hu : listed.getD i false = false) : ∀ n, i < n → cntU listed n = cntU (listed.setIfInBounds i true) n + 1
  | 0, h => by omega
  | n + 1, h => by
    simp only [cntU]
    by_cases hn : i = n
    · subst hn
      rw [cnt_ge hi i (Nat.le_refl _), getD_set hi, hu]
      simp
    · rw [cnt_lt hi hu n (by omega), getD_set hi, if_neg (by omega : ¬ n = i)]
      omega
theorem cnt_zero {listed : Array Bool} : ∀ n, cntU listed n = 0 → ∀ i, i < n → listed.getD i false = true
  | 0, _, i, h => by omega
  | n + 1, h, i, hi => by
    simp only [cntU] at h
    by_cases hn : i = n
    · subst hn
      cases q : listed.getD i false with
      | true => rfl
      | false => rw [q] at h; simp at h
    · exact cnt_zero n (by omega) i (by omega)
theorem cnt_pos {listed : Array Bool} : ∀ n, cntU listed n ≠ 0 → ∃ i, i < n ∧ listed.getD i false = false
  | 0, h => absurd rfl h
  | n + 1, h => by
    simp only [cntU] at h
    cases q : listed.getD n false with
    | false => exact ⟨n, by omega, q⟩
    | true =>
      rw [q] at h
      obtain ⟨i, hi, hu⟩ := cnt_pos n (by simpa using h)
      exact ⟨i, by omega, hu⟩

/-- j waits for i. -/
def waitB (ops : Array Oper) (j i : Nat) : Bool := ((ops[j]?).map fun o => o.after.any fun e => Region.binds .any e && e.on == i).getD false
/-- None waits for one behind it. -/
def growB (ops : Array Oper) : Bool := (List.range ops.size).all fun i => ((ops[i]?).map fun o => o.after.all fun e => !Region.binds .any e || decide (e.on < i)).getD false
theorem grow_back {ops : Array Oper} (h : growB ops = true) : ∀ i, i < ops.size → ∃ o, ops[i]? = some o ∧ ∀ e ∈ o.after, Region.binds .any e = true → e.on < i := by
  simp only [growB, List.all_eq_true, List.mem_range] at h
  intro i hi
  have := h i hi
  cases ho : ops[i]? with
  | none => rw [ho] at this; cases this
  | some o =>
    rw [ho] at this
    simp only [Option.map_some, Option.getD_some, Array.all_eq_true', Bool.or_eq_true, Bool.not_eq_true', decide_eq_true_eq] at this
    refine ⟨o, rfl, fun e he hb => ?_⟩
    rcases this e he with h' | h'
    · rw [hb] at h'; cases h'
    · exact h'

structure Listed (ops : Array Oper) (listed : Array Bool) : Prop where
  size : listed.size = ops.size
  down : ∀ j, listed.getD j false = true → ∀ o, ops[j]? = some o → ∀ e ∈ o.after, Region.binds .any e = true → listed.getD e.on false = true

theorem waitB_iff {ops : Array Oper} {j i : Nat} (h : waitB ops j i = true) : ∃ o, ops[j]? = some o ∧ ∃ e ∈ o.after, Region.binds .any e = true ∧ e.on = i := by
  unfold waitB at h
  cases ho : ops[j]? with
  | none => rw [ho] at h; cases h
  | some o =>
    rw [ho] at h
    simp only [Option.map_some, Option.getD_some, Array.any_eq_true', Bool.and_eq_true, beq_iff_eq] at h
    obtain ⟨e, he, hb, hk⟩ := h
    exact ⟨o, rfl, e, he, hb, hk⟩
theorem getD_both {listed : Array Bool} {i : Nat} (hi : i < listed.size) : listed.getD i true = listed.getD i false := by
  simp [Array.getD, hi]
theorem grow_some {ops : Array Oper} (G : ∀ i, i < ops.size → ∃ o, ops[i]? = some o ∧ ∀ e ∈ o.after, Region.binds .any e = true → e.on < i) {listed : Array Bool} (L : Listed ops listed) : ∀ k u, u ≤ k → u < ops.size → listed.getD u false = false → ∃ i, i ∈ Region.ready .any ops listed := by
  intro k
  induction k with
  | zero =>
    intro u hk hu hul
    obtain ⟨o, ho, hb⟩ := G u hu
    exact ⟨u, mem_ready.2 ⟨by rw [getD_both (by rw [L.size]; omega)]; exact hul, o, ho, fun e he hbd => by have := hb e he hbd; omega⟩⟩
  | succ k ih =>
    intro u hk hu hul
    obtain ⟨o, ho, hb⟩ := G u hu
    by_cases hall : ∀ e ∈ o.after, Region.binds .any e = true → listed.getD e.on false = true
    · exact ⟨u, mem_ready.2 ⟨by rw [getD_both (by rw [L.size]; omega)]; exact hul, o, ho, hall⟩⟩
    · have : ∃ e, e ∈ o.after ∧ Region.binds .any e = true ∧ listed.getD e.on false = false := by
        apply Classical.byContradiction
        intro hc
        refine hall (fun e he hbd => ?_)
        cases q : listed.getD e.on false with
        | true => rfl
        | false => exact absurd ⟨e, he, hbd, q⟩ hc
      obtain ⟨e, he, hbd, q⟩ := this
      have := hb e he hbd
      exact ih e.on (by omega) (by omega) q

/-- It comes behind k. -/
def reachB (ops : Array Oper) : Nat → Nat → Nat → Bool
  | 0, _, _ => false
  | f + 1, i, k => waitB ops i k || (List.range i).any fun j => waitB ops i j && reachB ops f j k
theorem reach_listed {ops : Array Oper} {listed : Array Bool} (L : Listed ops listed) : ∀ f i k, reachB ops f i k = true → listed.getD i false = true → listed.getD k false = true
  | 0, _, _, h, _ => by cases h
  | f + 1, i, k, h, hl => by
    have one : ∀ j, waitB ops i j = true → listed.getD j false = true := fun j hw => by
      obtain ⟨o, ho, e, he, hb, rfl⟩ := waitB_iff hw
      exact L.down i hl o ho e he hb
    simp only [reachB, Bool.or_eq_true, List.any_eq_true, Bool.and_eq_true] at h
    rcases h with h | ⟨j, _, h1, h2⟩
    · exact one k h
    · exact reach_listed L f j k h2 (one j h1)

/-- An operation that writes: its number, the numbers whose conditions it ends, its frame. -/
structure Wr where
  num : Nat
  dead : List Nat
  frame : World → World → Prop
def Fr (xs : List Wr) (w0 : World) (i : Nat) (W W' : World) : Prop := ((∀ x ∈ xs, x.num ≠ i) → Keeps W W') ∧ Keeps w0 W' ∧ ∀ x ∈ xs, x.num = i → x.frame W W'
theorem Fr.of {xs : List Wr} {w0 : World} {i : Nat} {W W' : World} (h : ∀ x ∈ xs, x.num ≠ i) (h0 : Keeps w0 W) (hk : Keeps W W') : Fr xs w0 i W W' := ⟨fun _ => hk, h0.trans hk, fun x hx e => absurd e (h x hx)⟩

/-- What i may use of j. -/
def mayB (ops : Array Oper) (xs : List Wr) (i j : Nat) : Bool := waitB ops i j && xs.all fun x => !x.dead.contains j || (x.num == i || reachB ops ops.size x.num i)

theorem rep_false (N k : Nat) : (Array.replicate N false).getD k false = false := by
  by_cases h : k < N <;> simp [Array.getD, h]

end Go.Proofs.Yteabfjpajgakiaf

/- The rule for drawn regions, with an invariant of one's own. -/
set_option linter.unusedSimpArgs false
set_option linter.unusedVariables false
namespace Go.Proofs.Yteabfjpajgakiaf
open Go.RowKit

def FrI (xs : List Wr) (I : World → Prop) (i : Nat) (W W' : World) : Prop := ((∀ x ∈ xs, x.num ≠ i) → Keeps W W') ∧ I W' ∧ ∀ x ∈ xs, x.num = i → x.frame W W'
theorem FrI.of {xs : List Wr} {I : World → Prop} {i : Nat} {W W' : World} (h : ∀ x ∈ xs, x.num ≠ i) (h0 : I W') (hk : Keeps W W') : FrI xs I i W W' := ⟨fun _ => hk, h0, fun x hx e => absurd e (h x hx)⟩

/-- What one operation is to do. -/
structure GrowStepI (P : Program) (l : List Oper) (Q : Exit → Act → World → Prop) (a0 : Act) (I : World → Prop) (J : Pr) (ds : List (Option Tmp)) (R : List Pr) (xs : List Wr) (i : Nat) : Prop where
  out : ∀ (vs : Nat → Value) (W : World), I W → ((xs.all fun x => x.num == i || reachB l.toArray l.toArray.size x.num i) = true → J.p undef W) → (∀ j, mayB l.toArray xs i j = true → (prAt R j).p (vs j) W) →
    ∀ K : Act → World → Prop, Shut (∀ a' v W', a' = (fillL ds vs 0 a0).put (ds.getD i none) v → FrI xs I i W W' → (prAt R i).p v W' → K a' W') →
      match l[i]? with
      | none => False
      | some o => if Region.wanted o (yielded l.toArray (fillL ds vs 0 a0).tmps) = true then o.wp P (fillL ds vs 0 a0) W K Q else K ((fillL ds vs 0 a0).put o.dst undef) W

theorem growI_all {P : Program} {l : List Oper} {Q : Exit → Act → World → Prop} {a0 : Act} {I : World → Prop} {J : Pr} {ds : List (Option Tmp)} {R : List Pr} {xs : List Wr} (hds : l.map (·.dst) = ds) (hnd : apartB ds = true) (hG : growB l.toArray = true)
    (hstep : ∀ i, i < l.length → GrowStepI P l Q a0 I J ds R xs i)
    (hF : ∀ x ∈ xs, ∀ j, j < l.length → j ∉ x.dead → j ≠ x.num → reachB l.toArray l.toArray.size j x.num = false → ∀ v W W', (prAt R j).p v W → x.frame W W' → (prAt R j).p v W')
    (hend : ∀ vs W, I W → (∀ i, i < l.length → (∀ x ∈ xs, i ∉ x.dead) → (prAt R i).p (vs i) W) → Q .normal (fillL ds vs 0 a0) W) :
    ∀ c (listed : Array Bool) (vs : Nat → Value) (W : World), cntU listed l.length = c → Listed l.toArray listed → I W → ((∀ x ∈ xs, listed.getD x.num false = false) → J.p undef W) → (∀ i, i < l.length → listed.getD i false = true → (∀ x ∈ xs, listed.getD x.num false = true → i ∉ x.dead) → (prAt R i).p (vs i) W) →
      wpAny P .any l.toArray Q c listed (fillL ds vs 0 a0) W := by
  have G := grow_back hG
  have hN : l.toArray.size = l.length := by simp
  intro c
  induction c with
  | zero =>
    intro listed vs W hc L hk hJ hR
    have hall := cnt_zero l.length hc
    refine ⟨?_, hend vs W hk (fun i hi hd => hR i hi (hall i hi) (fun x hx _ => hd x hx))⟩
    apply List.eq_nil_iff_forall_not_mem.2
    intro i hi
    obtain ⟨h1, o, ho, _⟩ := mem_ready.1 hi
    have hil : i < l.length := by have := size_of ho; omega
    rw [getD_both (by rw [L.size]; omega), hall i hil] at h1
    cases h1
  | succ c ih =>
    intro listed vs W hc L hk hJ hR
    obtain ⟨u, hu, hul⟩ := cnt_pos l.length (by omega : cntU listed l.length ≠ 0)
    refine ⟨fun h0 => ?_, fun i hi => ?_⟩
    · obtain ⟨i, hi⟩ := grow_some G L u u (Nat.le_refl _) (by omega) hul
      rw [h0] at hi
      cases hi
    · obtain ⟨h1, o, ho, ha⟩ := mem_ready.1 hi
      have hin : i < l.length := by have := size_of ho; omega
      have his : i < listed.size := by rw [L.size]; omega
      have hiu : listed.getD i false = false := by rw [← getD_both his]; exact h1
      have hlo : l[i]? = some o := by simpa using ho
      have hdst : o.dst = ds.getD i none ∧ ds[i]? = some (ds.getD i none) := by
        have e1 : (l.map (·.dst))[i]? = some o.dst := by simp [hlo]
        rw [hds] at e1
        have e2 : ds.getD i none = o.dst := by simp [List.getD, e1]
        exact ⟨e2.symm, by rw [e2]; exact e1⟩
      have hs := (hstep i hin).out vs W hk (fun hall => hJ (fun x hx => by
        simp only [List.all_eq_true, Bool.or_eq_true, beq_iff_eq] at hall
        rcases hall x hx with h' | h'
        · rw [h']; exact hiu
        · cases q : listed.getD x.num false with
          | false => rfl
          | true =>
            have := reach_listed L _ x.num i h' q
            rw [hiu] at this
            cases this)) (fun j hw => by
        simp only [mayB, Bool.and_eq_true, List.all_eq_true, Bool.or_eq_true, Bool.not_eq_true', beq_iff_eq] at hw
        obtain ⟨o', ho', e, he, hb, rfl⟩ := waitB_iff hw.1
        rw [ho] at ho'
        cases ho'
        obtain ⟨o2, ho2, hb2⟩ := G i (by omega)
        rw [ho] at ho2
        cases ho2
        refine hR e.on (by have := hb2 e he hb; omega) (ha e he hb) (fun x hx hxl => ?_)
        rcases hw.2 x hx with h' | h' | h'
        · intro hm
          rw [List.contains_iff_mem.2 hm] at h'
          cases h'
        · rw [h', hiu] at hxl; cases hxl
        · have := reach_listed L _ x.num i h' hxl
          rw [hiu] at this
          cases this)
      refine wpOp_step ho (fun K hK => ?_)
      have hs' := hs K (fun a' v W' ha' hfr hv => by
        subst ha'
        refine hK _ _ ?_
        rw [fillL_put ds vs 0 i a0 v hnd hdst.2, Nat.zero_add]
        refine ih (listed.setIfInBounds i true) _ W' (by have := cnt_lt his hiu l.length hin; omega) ⟨by rw [Array.size_setIfInBounds]; exact L.size, ?_⟩ hfr.2.1 ?_ ?_
        · intro j hj o' ho' e he hb
          rw [getD_set his] at hj ⊢
          by_cases hje : j = i
          · subst hje
            rw [ho] at ho'
            cases ho'
            rw [ha e he hb]
            simp
          · rw [if_neg hje] at hj
            rw [L.down j hj o' ho' e he hb]
            simp
        · intro hno
          have hni : ∀ x ∈ xs, x.num ≠ i := fun x hx e => by
            have := hno x hx
            rw [getD_set his, if_pos e] at this
            cases this
          refine J.keep _ _ _ (hJ (fun x hx => ?_)) (hfr.1 hni)
          have := hno x hx
          rw [getD_set his, if_neg (hni x hx)] at this
          exact this
        · intro j hj hjl hjd
          rw [getD_set his] at hjl
          by_cases hje : j = i
          · subst hje
            simp only [if_true]
            exact hv
          · rw [if_neg hje] at hjl
            simp only [if_neg hje]
            have hold : (prAt R j).p (vs j) W := hR j hj hjl (fun x hx hxl => hjd x hx (by rw [getD_set his, hxl, ite_self]))
            by_cases hix : ∃ x, x ∈ xs ∧ x.num = i
            · obtain ⟨x, hx, rfl⟩ := hix
              refine hF x hx j hj (hjd x hx (by rw [getD_set his, if_pos rfl])) hje ?_ _ W W' hold (hfr.2.2 x hx rfl)
              cases q : reachB l.toArray l.toArray.size j x.num with
              | false => rfl
              | true =>
                have := reach_listed L _ j x.num q hjl
                rw [hiu] at this
                cases this
            · exact (prAt R j).keep _ _ _ hold (hfr.1 (fun x hx e => hix ⟨x, hx, e⟩)))
      rw [hlo] at hs'
      simp only at hs'
      exact hs'

/-- THE RULE. -/
theorem wp_region_growI {P : Program} {id : Nat} {Q : Exit → Act → World → Prop} {a0 : Act} {w : World} {l : List Oper} (I : World → Prop) (hI : I w.drew) (J : Pr) (hJ : J.p undef w.drew) (ds : List (Option Tmp)) (R : List Pr) (xs : List Wr) (hm : P.follows .mixedOrders = true) (hds : l.map (·.dst) = ds) (hnd : apartB ds = true) (hG : growB l.toArray = true)
    (hstep : ∀ i, i < l.length → GrowStepI P l Q a0 I J ds R xs i)
    (hF : ∀ x ∈ xs, ∀ j, j < l.length → j ∉ x.dead → j ≠ x.num → reachB l.toArray l.toArray.size j x.num = false → ∀ v W W', (prAt R j).p v W → x.frame W W' → (prAt R j).p v W')
    (hend : ∀ vs W, I W → (∀ i, i < l.length → (∀ x ∈ xs, i ∉ x.dead) → (prAt R i).p (vs i) W) → Q .normal (fillL ds vs 0 a0) W) : (Code.region id l.toArray true).wp P Q a0 w := by
  refine wp_region_any hm ?_
  obtain ⟨vs, hvs⟩ : ∃ vs : Nat → Value, vs = fun i => match ds.getD i none with | some d => a0.tmps.getD d undef | none => undef := ⟨_, rfl⟩
  have key := growI_all hds hnd hG hstep hF hend l.length (Array.replicate l.toArray.size false) vs w.drew
  have hcnt : ∀ k, k ≤ l.toArray.size → cntU (Array.replicate l.toArray.size false) k = k := by
    intro k
    induction k with
    | zero => intro _; rfl
    | succ k ih =>
      intro hk
      simp only [cntU]
      rw [ih (by omega), rep_false]
      simp
  have hfill : ∀ (ds' : List (Option Tmp)) (k : Nat) (vs : Nat → Value), (∀ i d, ds'[i]? = some (some d) → vs (k + i) = a0.tmps.getD d undef) → fillL ds' vs k a0 = a0 := by
    intro ds'
    induction ds' with
    | nil => intro _ _ _; rfl
    | cons d ds' ih =>
      intro k vs h
      simp only [fillL]
      have : a0.put d (vs k) = a0 := by
        cases d with
        | none => rfl
        | some d =>
          have h0 := h 0 d rfl
          rw [Nat.add_zero] at h0
          rw [h0]
          simp only [Act.put]
          congr 1
          apply Array.ext
          · simp
          · intro i h1 h2
            rw [Array.getElem_setIfInBounds]
            split
            · rename_i hdi
              subst hdi
              simp [Array.getD, h2]
            · rfl
      rw [this]
      exact ih (k + 1) vs (fun i d' hd => by rw [← h (i + 1) d' (by simpa using hd)]; congr 1; omega)
  have hf := hfill ds 0 vs (fun i d hd => by rw [hvs]; simp [List.getD, hd])
  rw [hf] at key
  have hsz : l.length = l.toArray.size := by simp
  rw [hsz] at key
  exact key (hcnt _ (Nat.le_refl _)) ⟨by simp, fun j hj => (by rw [rep_false] at hj; cases hj)⟩ hI (fun _ => hJ) (fun i hi hj _ => (by rw [rep_false] at hj; cases hj))
end Go.Proofs.Yteabfjpajgakiaf
