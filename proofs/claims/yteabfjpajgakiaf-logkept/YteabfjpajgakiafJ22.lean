/- LoI, LoJ, LoK, LoL, OpenSes. -/
import Derived.Deep.DeepCutAuto
import Derived.Laws.Concat
import Derived.Deep.SlicePairs
import Derived.Test.YteabfjpajgakiafJ00
import Derived.Test.YteabfjpajgakiafJ01
import Derived.Test.YteabfjpajgakiafJ13
import Derived.Test.YteabfjpajgakiafJ17
import Derived.Test.YteabfjpajgakiafJ21
/- The reference's EntryBytes. -/
set_option linter.unusedSimpArgs false
set_option linter.unusedVariables false
set_option maxRecDepth 10000
namespace Go.Proofs.Yteabfjpajgakiaf
open Go.RowKit

theorem y_cell {ops : Array Oper} {S : World → Prop} {op : Oper} {a : Act} (hw : Region.wanted op (yielded ops a.tmps) = true) {x : Operand} (ho : op.op = .load 3 x) (b o : Nat) (hx : a.eval x = .pointer (some ⟨b, o, none⟩)) {v : Value} {cs : List Value} (hv : cs[o]? = some v) (hS : ∀ w, S w → CBox b cs w) : YieldsIf Try.prog ops S op v a :=
  .inl ⟨hw, fun w h => by
    have e := load_cell (P := Try.prog) (t := 3) ((hS w h).1 o v hv) (by kernel_rfl)
    unfold execOp
    simp only [ho, hx, Sem.run_bind, e, Result.andThen_ok, Sem.run_pure]⟩
theorem byte_built (n : Int) (w : World) : (Instr.buildSlice 76 1 #[(0, .int .u8 n)]).run Try.prog w = .ok (.slice (some ⟨w.heap.size, 0, none⟩) 1 1) (w.alloc (.cells #[.int .u8 n] 5)) := by kernel_rfl
theorem h_byte {o : Oper} {a : Act} {w : World} {K : Act → World → Prop} {Q : Exit → Act → World → Prop} {x : Operand} (base : Nat) (hb : base ≤ w.heap.size) (ho : o.op = .buildSlice 76 1 #[(0, x)]) {c : UInt8} (hx : a.eval x = .int .u8 (i8 c))
    (h : ∀ w' b, BOwn base w' (.slice (some ⟨b, 0, none⟩) 1 1) [c] → Keeps w w' → b < w'.heap.size → w.heap.size ≤ b → K (a.put o.dst (.slice (some ⟨b, 0, none⟩) 1 1)) w') : Wrp (o.wp Try.prog a w K Q) :=
  h_run (w' := w.alloc (.cells #[.int .u8 (i8 c)] 5)) (v := .slice (some ⟨w.heap.size, 0, none⟩) 1 1) (by
    have e := byte_built (i8 c) w
    simp only [execOp, ho]
    rw [show (#[(0, x)].map fun (i, x) => (i, a.eval x)) = #[(0, .int .u8 (i8 c))] by simp [hx]]
    simp only [Sem.run_bind, e, Result.andThen_ok, Sem.run_pure])
    (h _ w.heap.size ⟨rfl, .inr ⟨w.heap.size, 1, #[.int .u8 (i8 c)], rfl, hb, by simp only [World.alloc, Array.getElem?_push_size], Nat.le_refl _, by unfold maxLen; omega, rfl, rfl⟩⟩ ((Keeps.refl _).alloc _) (by simp) (Nat.le_refl _))
theorem BOwn.src {base : Nat} {w : World} {b n c : Nat} {N : List UInt8} (h : BOwn base w (.slice (some ⟨b, 0, none⟩) n c) N) : ∀ j u, (byCells N)[j]? = some u → w.cell? ((⟨b, 0, none⟩ : Addr).add j) = some u := by
  intro j u hu
  have hj : j < N.length := by
    have := (List.getElem?_eq_some_iff.1 hu).1
    rwa [byCells_len] at this
  obtain ⟨g, c', h1, h2⟩ := h.cells (by omega)
  injection h1 with h1 _ _
  injection h1 with h1
  injection h1 with h1 _ _
  subst h1
  rw [h2 j hj]
  rw [byCells_at hj] at hu
  exact hu
theorem BOwn.far {base : Nat} {w w' : World} {g n c : Nat} {N : List UInt8} (h : BOwn base w (.slice (some ⟨g, 0, none⟩) n c) N) (he : w'.heap[g]? = w.heap[g]?) : BOwn base w' (.slice (some ⟨g, 0, none⟩) n c) N := by
  rcases h.2 with ⟨h0, _⟩ | ⟨g', cap, cur, hv, hb, hg, h1⟩
  · cases h0
  · cases hv
    exact ⟨h.1, .inr ⟨g, _, cur, rfl, hb, by rw [he]; exact hg, h1⟩⟩
theorem grow_keep2 {w1 w2 w3 : World} {v v' : Value} {B : List UInt8} (hk : Keeps w1 w2) (hv : BOwn w1.heap.size w2 v B) (hg : GrowsTo w2 w3 v v') : Keeps w1 w3 := Below.trans hk (hg.below hv hk.size)
theorem h_appb {o : Oper} {a : Act} {w : World} {K : Act → World → Prop} {Q : Exit → Act → World → Prop} (s x : Operand) (ho : o.op = .call { callee := .builtin .append, args := #[s, x], argTypes := #[76, 76] }) (base : Nat) (hb : base ≤ w.heap.size) (v : Value) (B : List UInt8) (hs : a.eval s = v) (hown : BOwn base w v B) (b c n : Nat) (N : List UInt8) (hn : n = N.length) (hx : a.eval x = .slice (some ⟨b, 0, none⟩) n c) (hN : ∀ j u, (byCells N)[j]? = some u → w.cell? ((⟨b, 0, none⟩ : Addr).add j) = some u) (hm : 0 < N.length) (hlen : B.length + N.length ≤ 100000)
    (h : ∀ v' w', BOwn base w' v' (B ++ N) → GrowsTo w w' v v' → K (a.put o.dst v') w') : Wrp (o.wp Try.prog a w K Q) := by
  subst hn
  obtain ⟨g, cap, w', hr, h2, h3⟩ := run_append_bytes w base hb o.type v B hown ⟨b, 0, none⟩ c N hN hm hlen
  exact h_append s x 76 ho hs hx hr (h _ w' h2 h3)

theorem src_keep {w w' : World} {b : Nat} {N : List UInt8} (h : ∀ j u, (byCells N)[j]? = some u → w.cell? ((⟨b, 0, none⟩ : Addr).add j) = some u) (hb : b < w.heap.size) (hk : Keeps w w') : ∀ j u, (byCells N)[j]? = some u → w'.cell? ((⟨b, 0, none⟩ : Addr).add j) = some u := fun j u hu => by
  rw [← h j u hu]
  have e : (⟨b, 0, none⟩ : Addr).add j = ⟨b, j, none⟩ := by unfold Addr.add; split <;> simp_all
  rw [e]
  exact World.cell?_of_block (hk.block b hb)

set_option maxHeartbeats 4000000 in
theorem entry_bytes (e : Ent) (he : entErr e = 0) (w : World) : Calls Try.prog 17 #[entV e] w fun y w' => y = .returned (.string (bt (entBs e))) ∧ Keeps w w' := by
  obtain ⟨_, ht, _⟩ := ent_fits he
  have HTB : Hid (∀ W, Calls Try.prog 39 #[.int .i64 e.time] W fun y w' => ∃ b, y = .returned (.slice (some ⟨b, 0, none⟩) 2 2) ∧ (b < w'.heap.size ∧ ∀ j u, (byCells (wide e.time))[j]? = some u → w'.cell? ((⟨b, 0, none⟩ : Addr).add j) = some u) ∧ Keeps W w' ∧ W.heap.size ≤ b) := fun W => two_bytes e.time ht.1 (by omega) W
  have HTN : Hid (e.kind = 2 → (-999 ≤ e.on ∧ e.on ≤ 999) ∧ ∀ W, Calls Try.prog 39 #[.int .i64 (e.on + 999)] W fun y w' => ∃ b, y = .returned (.slice (some ⟨b, 0, none⟩) 2 2) ∧ (b < w'.heap.size ∧ ∀ j u, (byCells (wide (e.on + 999)))[j]? = some u → w'.cell? ((⟨b, 0, none⟩ : Addr).add j) = some u) ∧ Keeps W w' ∧ W.heap.size ≤ b) := fun hk => by
    have h := (ent_call he hk).2.2.2.2.2
    exact ⟨h, fun W => two_bytes (e.on + 999) (by omega) (by omega) W⟩
  clear he ht
  go_enter Try.func17, Try.ntmps17
  go_wp2_with (first | (refine box35 rfl rfl (e := e) rfl ?_; intro w1 eb hBeb hkeb hleb hgeb))
  have HE1 : Hid (CBox eb (EC e) w1) := hBeb
  have HK1 : Hid (Keeps w w1) := hkeb
  clear hBeb hkeb hleb hgeb
  go_cut [3] (fun p wc => BOwn w1.heap.size wc p ([b8 e.kind] ++ wide e.time ++ [b8 e.client]) ∧ Keeps w1 wc)
  case first =>
    refine wp_region_held_drew (S := fun W => Keeps w1 W) (by kernel_rfl) (Keeps.refl _).drew (fun hS => ?_)
    obtain ⟨W0, hV0⟩ : ∃ z, z = w1.drew := ⟨_, rfl⟩
    rw [← hV0] at hS ⊢
    clear hV0
    refine wpAnyH_take (i := 0) (v := .pointer (some ⟨eb, 0, none⟩)) rfl (by kernel_rfl) (by kernel_rfl) (by kernel_rfl) (fun _ _ _ h => h) (Or.inl ⟨by kernel_rfl, fun w _ => by kernel_rfl⟩) hS ?_
    refine wpAnyH_take (i := 1) (v := .int .i64 e.kind) rfl (by kernel_rfl) (by kernel_rfl) (by kernel_rfl) (fun _ _ _ h => h) (y_cell (by kernel_rfl) rfl eb 0 (by kernel_rfl) (cs := EC e) rfl (fun W h => HE1.out.keep h (Nat.le_of_ble_eq_true rfl))) hS ?_
    refine wpAnyH_take (i := 2) (v := .int .u8 (i8 (b8 e.kind))) rfl (by kernel_rfl) (by kernel_rfl) (by kernel_rfl) (fun _ _ _ h => h) (Or.inl ⟨by kernel_rfl, fun w _ => Eq.trans (b := .ok (.value (.int .u8 (IntKind.u8.wrap e.kind))) w) (by kernel_rfl) (by rw [wrap_b8])⟩) hS ?_
    refine wpAnyH_take (i := 4) (v := .pointer (some ⟨eb, 1, none⟩)) rfl (by kernel_rfl) (by kernel_rfl) (by kernel_rfl) (fun _ _ _ h => h) (Or.inl ⟨by kernel_rfl, fun w _ => by kernel_rfl⟩) hS ?_
    refine wpAnyH_take (i := 5) (v := .int .i64 e.time) rfl (by kernel_rfl) (by kernel_rfl) (by kernel_rfl) (fun _ _ _ h => h) (y_cell (by kernel_rfl) rfl eb 1 (by kernel_rfl) (cs := EC e) rfl (fun W h => HE1.out.keep h (Nat.le_of_ble_eq_true rfl))) hS ?_
    refine wpAnyH_take (i := 8) (v := .pointer (some ⟨eb, 2, none⟩)) rfl (by kernel_rfl) (by kernel_rfl) (by kernel_rfl) (fun _ _ _ h => h) (Or.inl ⟨by kernel_rfl, fun w _ => by kernel_rfl⟩) hS ?_
    refine wpAnyH_take (i := 9) (v := .int .i64 e.client) rfl (by kernel_rfl) (by kernel_rfl) (by kernel_rfl) (fun _ _ _ h => h) (y_cell (by kernel_rfl) rfl eb 2 (by kernel_rfl) (cs := EC e) rfl (fun W h => HE1.out.keep h (Nat.le_of_ble_eq_true rfl))) hS ?_
    refine wpAnyH_take (i := 10) (v := .int .u8 (i8 (b8 e.client))) rfl (by kernel_rfl) (by kernel_rfl) (by kernel_rfl) (fun _ _ _ h => h) (Or.inl ⟨by kernel_rfl, fun w _ => Eq.trans (b := .ok (.value (.int .u8 (IntKind.u8.wrap e.client))) w) (by kernel_rfl) (by rw [wrap_b8])⟩) hS ?_
    refine wpAnyH_ready (rs := [3, 6, 11]) (by kernel_rfl) (by simp) ?_
    refine AllReadyH.wrp rfl (by kernel_rfl) (fun K hK => ?_) (AllReadyH.wrp rfl (by kernel_rfl) (fun K hK => ?_) (AllReadyH.wrp rfl (by kernel_rfl) (fun K hK => ?_) (AllReadyH.nil)))
    · refine h_byte w1.heap.size hS.size rfl (c := b8 e.kind) (by kernel_rfl) ?_
      intro W1 ga HA1 hk hAl hAg
      refine hK.out _ _ (hS.trans hk) (fun hS => ?_)
      clear hK K
      clear hk
      refine wpAnyH_ready (rs := [6, 11]) (by kernel_rfl) (by simp) ?_
      refine AllReadyH.wrp rfl (by kernel_rfl) (fun K hK => ?_) (AllReadyH.wrp rfl (by kernel_rfl) (fun K hK => ?_) (AllReadyH.nil))
      · refine h_call ?_
        go_simp
        refine (HTB.out _).mono ?_
        rintro y W2 ⟨gt, rfl, ⟨hTl, HT2⟩, hk, hTg⟩
        have HA2 := HA1.keep hk
        have hAl := Nat.lt_of_lt_of_le hAl hk.size
        go_simp
        refine hK.out _ _ (hS.trans hk) (fun hS => ?_)
        clear hK K
        clear hk
        refine wpAnyH_ready (rs := [7, 11]) (by kernel_rfl) (by simp) ?_
        refine AllReadyH.wrp rfl (by kernel_rfl) (fun K hK => ?_) (AllReadyH.wrp rfl (by kernel_rfl) (fun K hK => ?_) (AllReadyH.nil))
        · refine h_appb _ _ rfl w1.heap.size hS.size (.slice (some ⟨ga, 0, none⟩) 1 1) [b8 e.kind] (by kernel_rfl) HA2 gt 2 2 (wide e.time) rfl (by kernel_rfl) HT2 (Nat.le_of_ble_eq_true rfl) (Nat.le_of_ble_eq_true rfl) ?_
          intro v7 W3 HV3 hG
          have hS7 := grow_keep2 hS HA2 hG
          refine hK.out _ _ hS7 (fun hS => ?_)
          clear hK K
          clear hS7 hG
          refine wpAnyH_ready (rs := [11]) (by kernel_rfl) (by simp) ?_
          refine AllReadyH.wrp rfl (by kernel_rfl) (fun K hK => ?_) (AllReadyH.nil)
          refine h_byte w1.heap.size hS.size rfl (c := b8 e.client) (by kernel_rfl) ?_
          intro W4 gc HC4 hk hCl hCg
          have HV4 := HV3.keep hk
          refine hK.out _ _ (hS.trans hk) (fun hS => ?_)
          clear hK K
          clear hk
          refine wpAnyH_ready (rs := [12]) (by kernel_rfl) (by simp) ?_
          refine AllReadyH.wrp rfl (by kernel_rfl) (fun K hK => ?_) (AllReadyH.nil)
          refine h_appb _ _ rfl w1.heap.size hS.size v7 ([b8 e.kind] ++ wide e.time) (by kernel_rfl) HV4 gc 1 1 [b8 e.client] rfl (by kernel_rfl) HC4.src (Nat.le_of_ble_eq_true rfl) (Nat.le_of_ble_eq_true rfl) ?_
          intro v12 W5 HZ hG
          have hS7 := grow_keep2 hS HV4 hG
          refine hK.out _ _ hS7 (fun hS => ?_)
          clear hK K
          clear hS7 hG
          refine wpAnyH_take (i := 13) (v := v12) rfl (by kernel_rfl) (by kernel_rfl) (by kernel_rfl) (fun _ _ _ h => h) (Or.inl ⟨by kernel_rfl, fun w _ => by kernel_rfl⟩) hS ?_
          refine wpAnyH_done (by kernel_rfl) ?_ _
          go_wp2_with fail
          go_meet
          exact ⟨HZ, hS⟩
        · refine h_byte w1.heap.size hS.size rfl (c := b8 e.client) (by kernel_rfl) ?_
          intro W3 gc HC3 hk hCl hCg
          have HA3 := HA2.keep hk
          have HT3 : (∀ j u, (byCells (wide e.time))[j]? = some u → W3.cell? ((⟨gt, 0, none⟩ : Addr).add j) = some u) := src_keep HT2 hTl hk
          have hne : gc ≠ ga := by omega
          have hAl := Nat.lt_of_lt_of_le hAl hk.size
          have hTl := Nat.lt_of_lt_of_le hTl hk.size
          refine hK.out _ _ (hS.trans hk) (fun hS => ?_)
          clear hK K
          clear hk
          refine wpAnyH_ready (rs := [7]) (by kernel_rfl) (by simp) ?_
          refine AllReadyH.wrp rfl (by kernel_rfl) (fun K hK => ?_) (AllReadyH.nil)
          refine h_appb _ _ rfl w1.heap.size hS.size (.slice (some ⟨ga, 0, none⟩) 1 1) [b8 e.kind] (by kernel_rfl) HA3 gt 2 2 (wide e.time) rfl (by kernel_rfl) HT3 (Nat.le_of_ble_eq_true rfl) (Nat.le_of_ble_eq_true rfl) ?_
          intro v7 W4 HV4 hG
          have hS7 := grow_keep2 hS HA3 hG
          have HC4 := HC3.far (hG.grown.block gc hCl (fun h => hne (by simpa [Value.ownBlock] using h)))
          have hCl := Nat.lt_of_lt_of_le hCl hG.grown.size
          refine hK.out _ _ hS7 (fun hS => ?_)
          clear hK K
          clear hS7 hG
          refine wpAnyH_ready (rs := [12]) (by kernel_rfl) (by simp) ?_
          refine AllReadyH.wrp rfl (by kernel_rfl) (fun K hK => ?_) (AllReadyH.nil)
          refine h_appb _ _ rfl w1.heap.size hS.size v7 ([b8 e.kind] ++ wide e.time) (by kernel_rfl) HV4 gc 1 1 [b8 e.client] rfl (by kernel_rfl) HC4.src (Nat.le_of_ble_eq_true rfl) (Nat.le_of_ble_eq_true rfl) ?_
          intro v12 W5 HZ hG
          have hS7 := grow_keep2 hS HV4 hG
          refine hK.out _ _ hS7 (fun hS => ?_)
          clear hK K
          clear hS7 hG
          refine wpAnyH_take (i := 13) (v := v12) rfl (by kernel_rfl) (by kernel_rfl) (by kernel_rfl) (fun _ _ _ h => h) (Or.inl ⟨by kernel_rfl, fun w _ => by kernel_rfl⟩) hS ?_
          refine wpAnyH_done (by kernel_rfl) ?_ _
          go_wp2_with fail
          go_meet
          exact ⟨HZ, hS⟩
      · refine h_byte w1.heap.size hS.size rfl (c := b8 e.client) (by kernel_rfl) ?_
        intro W2 gc HC2 hk hCl hCg
        have HA2 := HA1.keep hk
        have hne : gc ≠ ga := by omega
        have hAl := Nat.lt_of_lt_of_le hAl hk.size
        refine hK.out _ _ (hS.trans hk) (fun hS => ?_)
        clear hK K
        clear hk
        refine wpAnyH_ready (rs := [6]) (by kernel_rfl) (by simp) ?_
        refine AllReadyH.wrp rfl (by kernel_rfl) (fun K hK => ?_) (AllReadyH.nil)
        refine h_call ?_
        go_simp
        refine (HTB.out _).mono ?_
        rintro y W3 ⟨gt, rfl, ⟨hTl, HT3⟩, hk, hTg⟩
        have HA3 := HA2.keep hk
        have HC3 := HC2.keep hk
        have hAl := Nat.lt_of_lt_of_le hAl hk.size
        have hCl := Nat.lt_of_lt_of_le hCl hk.size
        go_simp
        refine hK.out _ _ (hS.trans hk) (fun hS => ?_)
        clear hK K
        clear hk
        refine wpAnyH_ready (rs := [7]) (by kernel_rfl) (by simp) ?_
        refine AllReadyH.wrp rfl (by kernel_rfl) (fun K hK => ?_) (AllReadyH.nil)
        refine h_appb _ _ rfl w1.heap.size hS.size (.slice (some ⟨ga, 0, none⟩) 1 1) [b8 e.kind] (by kernel_rfl) HA3 gt 2 2 (wide e.time) rfl (by kernel_rfl) HT3 (Nat.le_of_ble_eq_true rfl) (Nat.le_of_ble_eq_true rfl) ?_
        intro v7 W4 HV4 hG
        have hS7 := grow_keep2 hS HA3 hG
        have HC4 := HC3.far (hG.grown.block gc hCl (fun h => hne (by simpa [Value.ownBlock] using h)))
        have hCl := Nat.lt_of_lt_of_le hCl hG.grown.size
        refine hK.out _ _ hS7 (fun hS => ?_)
        clear hK K
        clear hS7 hG
        refine wpAnyH_ready (rs := [12]) (by kernel_rfl) (by simp) ?_
        refine AllReadyH.wrp rfl (by kernel_rfl) (fun K hK => ?_) (AllReadyH.nil)
        refine h_appb _ _ rfl w1.heap.size hS.size v7 ([b8 e.kind] ++ wide e.time) (by kernel_rfl) HV4 gc 1 1 [b8 e.client] rfl (by kernel_rfl) HC4.src (Nat.le_of_ble_eq_true rfl) (Nat.le_of_ble_eq_true rfl) ?_
        intro v12 W5 HZ hG
        have hS7 := grow_keep2 hS HV4 hG
        refine hK.out _ _ hS7 (fun hS => ?_)
        clear hK K
        clear hS7 hG
        refine wpAnyH_take (i := 13) (v := v12) rfl (by kernel_rfl) (by kernel_rfl) (by kernel_rfl) (fun _ _ _ h => h) (Or.inl ⟨by kernel_rfl, fun w _ => by kernel_rfl⟩) hS ?_
        refine wpAnyH_done (by kernel_rfl) ?_ _
        go_wp2_with fail
        go_meet
        exact ⟨HZ, hS⟩
    · refine h_call ?_
      go_simp
      refine (HTB.out _).mono ?_
      rintro y W1 ⟨gt, rfl, ⟨hTl, HT1⟩, hk, hTg⟩
      go_simp
      refine hK.out _ _ (hS.trans hk) (fun hS => ?_)
      clear hK K
      clear hk
      refine wpAnyH_ready (rs := [3, 11]) (by kernel_rfl) (by simp) ?_
      refine AllReadyH.wrp rfl (by kernel_rfl) (fun K hK => ?_) (AllReadyH.wrp rfl (by kernel_rfl) (fun K hK => ?_) (AllReadyH.nil))
      · refine h_byte w1.heap.size hS.size rfl (c := b8 e.kind) (by kernel_rfl) ?_
        intro W2 ga HA2 hk hAl hAg
        have HT2 : (∀ j u, (byCells (wide e.time))[j]? = some u → W2.cell? ((⟨gt, 0, none⟩ : Addr).add j) = some u) := src_keep HT1 hTl hk
        have hTl := Nat.lt_of_lt_of_le hTl hk.size
        refine hK.out _ _ (hS.trans hk) (fun hS => ?_)
        clear hK K
        clear hk
        refine wpAnyH_ready (rs := [7, 11]) (by kernel_rfl) (by simp) ?_
        refine AllReadyH.wrp rfl (by kernel_rfl) (fun K hK => ?_) (AllReadyH.wrp rfl (by kernel_rfl) (fun K hK => ?_) (AllReadyH.nil))
        · refine h_appb _ _ rfl w1.heap.size hS.size (.slice (some ⟨ga, 0, none⟩) 1 1) [b8 e.kind] (by kernel_rfl) HA2 gt 2 2 (wide e.time) rfl (by kernel_rfl) HT2 (Nat.le_of_ble_eq_true rfl) (Nat.le_of_ble_eq_true rfl) ?_
          intro v7 W3 HV3 hG
          have hS7 := grow_keep2 hS HA2 hG
          refine hK.out _ _ hS7 (fun hS => ?_)
          clear hK K
          clear hS7 hG
          refine wpAnyH_ready (rs := [11]) (by kernel_rfl) (by simp) ?_
          refine AllReadyH.wrp rfl (by kernel_rfl) (fun K hK => ?_) (AllReadyH.nil)
          refine h_byte w1.heap.size hS.size rfl (c := b8 e.client) (by kernel_rfl) ?_
          intro W4 gc HC4 hk hCl hCg
          have HV4 := HV3.keep hk
          refine hK.out _ _ (hS.trans hk) (fun hS => ?_)
          clear hK K
          clear hk
          refine wpAnyH_ready (rs := [12]) (by kernel_rfl) (by simp) ?_
          refine AllReadyH.wrp rfl (by kernel_rfl) (fun K hK => ?_) (AllReadyH.nil)
          refine h_appb _ _ rfl w1.heap.size hS.size v7 ([b8 e.kind] ++ wide e.time) (by kernel_rfl) HV4 gc 1 1 [b8 e.client] rfl (by kernel_rfl) HC4.src (Nat.le_of_ble_eq_true rfl) (Nat.le_of_ble_eq_true rfl) ?_
          intro v12 W5 HZ hG
          have hS7 := grow_keep2 hS HV4 hG
          refine hK.out _ _ hS7 (fun hS => ?_)
          clear hK K
          clear hS7 hG
          refine wpAnyH_take (i := 13) (v := v12) rfl (by kernel_rfl) (by kernel_rfl) (by kernel_rfl) (fun _ _ _ h => h) (Or.inl ⟨by kernel_rfl, fun w _ => by kernel_rfl⟩) hS ?_
          refine wpAnyH_done (by kernel_rfl) ?_ _
          go_wp2_with fail
          go_meet
          exact ⟨HZ, hS⟩
        · refine h_byte w1.heap.size hS.size rfl (c := b8 e.client) (by kernel_rfl) ?_
          intro W3 gc HC3 hk hCl hCg
          have HA3 := HA2.keep hk
          have HT3 : (∀ j u, (byCells (wide e.time))[j]? = some u → W3.cell? ((⟨gt, 0, none⟩ : Addr).add j) = some u) := src_keep HT2 hTl hk
          have hne : gc ≠ ga := by omega
          have hAl := Nat.lt_of_lt_of_le hAl hk.size
          have hTl := Nat.lt_of_lt_of_le hTl hk.size
          refine hK.out _ _ (hS.trans hk) (fun hS => ?_)
          clear hK K
          clear hk
          refine wpAnyH_ready (rs := [7]) (by kernel_rfl) (by simp) ?_
          refine AllReadyH.wrp rfl (by kernel_rfl) (fun K hK => ?_) (AllReadyH.nil)
          refine h_appb _ _ rfl w1.heap.size hS.size (.slice (some ⟨ga, 0, none⟩) 1 1) [b8 e.kind] (by kernel_rfl) HA3 gt 2 2 (wide e.time) rfl (by kernel_rfl) HT3 (Nat.le_of_ble_eq_true rfl) (Nat.le_of_ble_eq_true rfl) ?_
          intro v7 W4 HV4 hG
          have hS7 := grow_keep2 hS HA3 hG
          have HC4 := HC3.far (hG.grown.block gc hCl (fun h => hne (by simpa [Value.ownBlock] using h)))
          have hCl := Nat.lt_of_lt_of_le hCl hG.grown.size
          refine hK.out _ _ hS7 (fun hS => ?_)
          clear hK K
          clear hS7 hG
          refine wpAnyH_ready (rs := [12]) (by kernel_rfl) (by simp) ?_
          refine AllReadyH.wrp rfl (by kernel_rfl) (fun K hK => ?_) (AllReadyH.nil)
          refine h_appb _ _ rfl w1.heap.size hS.size v7 ([b8 e.kind] ++ wide e.time) (by kernel_rfl) HV4 gc 1 1 [b8 e.client] rfl (by kernel_rfl) HC4.src (Nat.le_of_ble_eq_true rfl) (Nat.le_of_ble_eq_true rfl) ?_
          intro v12 W5 HZ hG
          have hS7 := grow_keep2 hS HV4 hG
          refine hK.out _ _ hS7 (fun hS => ?_)
          clear hK K
          clear hS7 hG
          refine wpAnyH_take (i := 13) (v := v12) rfl (by kernel_rfl) (by kernel_rfl) (by kernel_rfl) (fun _ _ _ h => h) (Or.inl ⟨by kernel_rfl, fun w _ => by kernel_rfl⟩) hS ?_
          refine wpAnyH_done (by kernel_rfl) ?_ _
          go_wp2_with fail
          go_meet
          exact ⟨HZ, hS⟩
      · refine h_byte w1.heap.size hS.size rfl (c := b8 e.client) (by kernel_rfl) ?_
        intro W2 gc HC2 hk hCl hCg
        have HT2 : (∀ j u, (byCells (wide e.time))[j]? = some u → W2.cell? ((⟨gt, 0, none⟩ : Addr).add j) = some u) := src_keep HT1 hTl hk
        have hTl := Nat.lt_of_lt_of_le hTl hk.size
        refine hK.out _ _ (hS.trans hk) (fun hS => ?_)
        clear hK K
        clear hk
        refine wpAnyH_ready (rs := [3]) (by kernel_rfl) (by simp) ?_
        refine AllReadyH.wrp rfl (by kernel_rfl) (fun K hK => ?_) (AllReadyH.nil)
        refine h_byte w1.heap.size hS.size rfl (c := b8 e.kind) (by kernel_rfl) ?_
        intro W3 ga HA3 hk hAl hAg
        have HT3 : (∀ j u, (byCells (wide e.time))[j]? = some u → W3.cell? ((⟨gt, 0, none⟩ : Addr).add j) = some u) := src_keep HT2 hTl hk
        have HC3 := HC2.keep hk
        have hne : gc ≠ ga := by omega
        have hTl := Nat.lt_of_lt_of_le hTl hk.size
        have hCl := Nat.lt_of_lt_of_le hCl hk.size
        refine hK.out _ _ (hS.trans hk) (fun hS => ?_)
        clear hK K
        clear hk
        refine wpAnyH_ready (rs := [7]) (by kernel_rfl) (by simp) ?_
        refine AllReadyH.wrp rfl (by kernel_rfl) (fun K hK => ?_) (AllReadyH.nil)
        refine h_appb _ _ rfl w1.heap.size hS.size (.slice (some ⟨ga, 0, none⟩) 1 1) [b8 e.kind] (by kernel_rfl) HA3 gt 2 2 (wide e.time) rfl (by kernel_rfl) HT3 (Nat.le_of_ble_eq_true rfl) (Nat.le_of_ble_eq_true rfl) ?_
        intro v7 W4 HV4 hG
        have hS7 := grow_keep2 hS HA3 hG
        have HC4 := HC3.far (hG.grown.block gc hCl (fun h => hne (by simpa [Value.ownBlock] using h)))
        have hCl := Nat.lt_of_lt_of_le hCl hG.grown.size
        refine hK.out _ _ hS7 (fun hS => ?_)
        clear hK K
        clear hS7 hG
        refine wpAnyH_ready (rs := [12]) (by kernel_rfl) (by simp) ?_
        refine AllReadyH.wrp rfl (by kernel_rfl) (fun K hK => ?_) (AllReadyH.nil)
        refine h_appb _ _ rfl w1.heap.size hS.size v7 ([b8 e.kind] ++ wide e.time) (by kernel_rfl) HV4 gc 1 1 [b8 e.client] rfl (by kernel_rfl) HC4.src (Nat.le_of_ble_eq_true rfl) (Nat.le_of_ble_eq_true rfl) ?_
        intro v12 W5 HZ hG
        have hS7 := grow_keep2 hS HV4 hG
        refine hK.out _ _ hS7 (fun hS => ?_)
        clear hK K
        clear hS7 hG
        refine wpAnyH_take (i := 13) (v := v12) rfl (by kernel_rfl) (by kernel_rfl) (by kernel_rfl) (fun _ _ _ h => h) (Or.inl ⟨by kernel_rfl, fun w _ => by kernel_rfl⟩) hS ?_
        refine wpAnyH_done (by kernel_rfl) ?_ _
        go_wp2_with fail
        go_meet
        exact ⟨HZ, hS⟩
    · refine h_byte w1.heap.size hS.size rfl (c := b8 e.client) (by kernel_rfl) ?_
      intro W1 gc HC1 hk hCl hCg
      refine hK.out _ _ (hS.trans hk) (fun hS => ?_)
      clear hK K
      clear hk
      refine wpAnyH_ready (rs := [3, 6]) (by kernel_rfl) (by simp) ?_
      refine AllReadyH.wrp rfl (by kernel_rfl) (fun K hK => ?_) (AllReadyH.wrp rfl (by kernel_rfl) (fun K hK => ?_) (AllReadyH.nil))
      · refine h_byte w1.heap.size hS.size rfl (c := b8 e.kind) (by kernel_rfl) ?_
        intro W2 ga HA2 hk hAl hAg
        have HC2 := HC1.keep hk
        have hne : gc ≠ ga := by omega
        have hCl := Nat.lt_of_lt_of_le hCl hk.size
        refine hK.out _ _ (hS.trans hk) (fun hS => ?_)
        clear hK K
        clear hk
        refine wpAnyH_ready (rs := [6]) (by kernel_rfl) (by simp) ?_
        refine AllReadyH.wrp rfl (by kernel_rfl) (fun K hK => ?_) (AllReadyH.nil)
        refine h_call ?_
        go_simp
        refine (HTB.out _).mono ?_
        rintro y W3 ⟨gt, rfl, ⟨hTl, HT3⟩, hk, hTg⟩
        have HA3 := HA2.keep hk
        have HC3 := HC2.keep hk
        have hAl := Nat.lt_of_lt_of_le hAl hk.size
        have hCl := Nat.lt_of_lt_of_le hCl hk.size
        go_simp
        refine hK.out _ _ (hS.trans hk) (fun hS => ?_)
        clear hK K
        clear hk
        refine wpAnyH_ready (rs := [7]) (by kernel_rfl) (by simp) ?_
        refine AllReadyH.wrp rfl (by kernel_rfl) (fun K hK => ?_) (AllReadyH.nil)
        refine h_appb _ _ rfl w1.heap.size hS.size (.slice (some ⟨ga, 0, none⟩) 1 1) [b8 e.kind] (by kernel_rfl) HA3 gt 2 2 (wide e.time) rfl (by kernel_rfl) HT3 (Nat.le_of_ble_eq_true rfl) (Nat.le_of_ble_eq_true rfl) ?_
        intro v7 W4 HV4 hG
        have hS7 := grow_keep2 hS HA3 hG
        have HC4 := HC3.far (hG.grown.block gc hCl (fun h => hne (by simpa [Value.ownBlock] using h)))
        have hCl := Nat.lt_of_lt_of_le hCl hG.grown.size
        refine hK.out _ _ hS7 (fun hS => ?_)
        clear hK K
        clear hS7 hG
        refine wpAnyH_ready (rs := [12]) (by kernel_rfl) (by simp) ?_
        refine AllReadyH.wrp rfl (by kernel_rfl) (fun K hK => ?_) (AllReadyH.nil)
        refine h_appb _ _ rfl w1.heap.size hS.size v7 ([b8 e.kind] ++ wide e.time) (by kernel_rfl) HV4 gc 1 1 [b8 e.client] rfl (by kernel_rfl) HC4.src (Nat.le_of_ble_eq_true rfl) (Nat.le_of_ble_eq_true rfl) ?_
        intro v12 W5 HZ hG
        have hS7 := grow_keep2 hS HV4 hG
        refine hK.out _ _ hS7 (fun hS => ?_)
        clear hK K
        clear hS7 hG
        refine wpAnyH_take (i := 13) (v := v12) rfl (by kernel_rfl) (by kernel_rfl) (by kernel_rfl) (fun _ _ _ h => h) (Or.inl ⟨by kernel_rfl, fun w _ => by kernel_rfl⟩) hS ?_
        refine wpAnyH_done (by kernel_rfl) ?_ _
        go_wp2_with fail
        go_meet
        exact ⟨HZ, hS⟩
      · refine h_call ?_
        go_simp
        refine (HTB.out _).mono ?_
        rintro y W2 ⟨gt, rfl, ⟨hTl, HT2⟩, hk, hTg⟩
        have HC2 := HC1.keep hk
        have hCl := Nat.lt_of_lt_of_le hCl hk.size
        go_simp
        refine hK.out _ _ (hS.trans hk) (fun hS => ?_)
        clear hK K
        clear hk
        refine wpAnyH_ready (rs := [3]) (by kernel_rfl) (by simp) ?_
        refine AllReadyH.wrp rfl (by kernel_rfl) (fun K hK => ?_) (AllReadyH.nil)
        refine h_byte w1.heap.size hS.size rfl (c := b8 e.kind) (by kernel_rfl) ?_
        intro W3 ga HA3 hk hAl hAg
        have HT3 : (∀ j u, (byCells (wide e.time))[j]? = some u → W3.cell? ((⟨gt, 0, none⟩ : Addr).add j) = some u) := src_keep HT2 hTl hk
        have HC3 := HC2.keep hk
        have hne : gc ≠ ga := by omega
        have hTl := Nat.lt_of_lt_of_le hTl hk.size
        have hCl := Nat.lt_of_lt_of_le hCl hk.size
        refine hK.out _ _ (hS.trans hk) (fun hS => ?_)
        clear hK K
        clear hk
        refine wpAnyH_ready (rs := [7]) (by kernel_rfl) (by simp) ?_
        refine AllReadyH.wrp rfl (by kernel_rfl) (fun K hK => ?_) (AllReadyH.nil)
        refine h_appb _ _ rfl w1.heap.size hS.size (.slice (some ⟨ga, 0, none⟩) 1 1) [b8 e.kind] (by kernel_rfl) HA3 gt 2 2 (wide e.time) rfl (by kernel_rfl) HT3 (Nat.le_of_ble_eq_true rfl) (Nat.le_of_ble_eq_true rfl) ?_
        intro v7 W4 HV4 hG
        have hS7 := grow_keep2 hS HA3 hG
        have HC4 := HC3.far (hG.grown.block gc hCl (fun h => hne (by simpa [Value.ownBlock] using h)))
        have hCl := Nat.lt_of_lt_of_le hCl hG.grown.size
        refine hK.out _ _ hS7 (fun hS => ?_)
        clear hK K
        clear hS7 hG
        refine wpAnyH_ready (rs := [12]) (by kernel_rfl) (by simp) ?_
        refine AllReadyH.wrp rfl (by kernel_rfl) (fun K hK => ?_) (AllReadyH.nil)
        refine h_appb _ _ rfl w1.heap.size hS.size v7 ([b8 e.kind] ++ wide e.time) (by kernel_rfl) HV4 gc 1 1 [b8 e.client] rfl (by kernel_rfl) HC4.src (Nat.le_of_ble_eq_true rfl) (Nat.le_of_ble_eq_true rfl) ?_
        intro v12 W5 HZ hG
        have hS7 := grow_keep2 hS HV4 hG
        refine hK.out _ _ hS7 (fun hS => ?_)
        clear hK K
        clear hS7 hG
        refine wpAnyH_take (i := 13) (v := v12) rfl (by kernel_rfl) (by kernel_rfl) (by kernel_rfl) (fun _ _ _ h => h) (Or.inl ⟨by kernel_rfl, fun w _ => by kernel_rfl⟩) hS ?_
        refine wpAnyH_done (by kernel_rfl) ?_ _
        go_wp2_with fail
        go_meet
        exact ⟨HZ, hS⟩
  case rest =>
    obtain ⟨hO, hk⟩ := hcut
    have HO : Hid (BOwn w1.heap.size wc u3 [b8 e.kind, b8 (e.time / 256), b8 e.time, b8 e.client]) := hO
    have HK2 : Hid (Keeps w1 wc) := hk
    have HE2 := HE1.out.keep hk (Nat.le_of_ble_eq_true rfl)
    clear hO hk
    have c0 := HE2.1 0 _ rfl
    have c1 := HE2.1 1 _ rfl
    have c2 := HE2.1 2 _ rfl
    have c3 := HE2.1 3 _ rfl
    have c4 := HE2.1 4 _ rfl
    have c5 := HE2.1 5 _ rfl
    have c6 := HE2.1 6 _ rfl
    have c7 := HE2.1 7 _ rfl
    have c8 := HE2.1 8 _ rfl
    clear HE2
    by_cases hk : e.kind = 2
    · obtain ⟨⟨hon0, hon1⟩, htn⟩ := HTN.out hk
      have HTN2 : Hid (∀ W, Calls Try.prog 39 #[.int .i64 (e.on + 999)] W fun y w' => ∃ b, y = .returned (.slice (some ⟨b, 0, none⟩) 2 2) ∧ (b < w'.heap.size ∧ ∀ j u, (byCells (wide (e.on + 999)))[j]? = some u → w'.cell? ((⟨b, 0, none⟩ : Addr).add j) = some u) ∧ Keeps W w' ∧ W.heap.size ≤ b) := htn
      have hk' : (e.kind == 2) = true := by simpa using hk
      have HW : Hid (entBs e = [b8 2, b8 (e.time / 256), b8 e.time, b8 e.client, b8 e.seq, b8 e.ack, b8 e.ok, b8 e.okey, b8 e.oto, b8 ((e.on + 999) / 256), b8 (e.on + 999)]) := by show _ = _; rw [entBs_call hk, hk]
      clear htn HTN
      have x0 := wrap_b8 e.seq
      have x1 := wrap_b8 e.ack
      have x2 := wrap_b8 e.ok
      have x3 := wrap_b8 e.okey
      have x4 := wrap_b8 e.oto
      go_wp2_with (first | (refine app_bytes _ rfl _ _ rfl w1.heap.size (Nat.le_trans HK2.out.size (by simp)) u3 [b8 e.kind, b8 (e.time / 256), b8 e.time, b8 e.client] rfl (HO.out.keep ((Keeps.refl _).alloc _)) ⟨wc.heap.size, 0, none⟩ 5 [b8 e.seq, b8 e.ack, b8 e.ok, b8 e.okey, b8 e.oto] rfl (new_bytes wc [b8 e.seq, b8 e.ack, b8 e.ok, b8 e.okey, b8 e.oto] _) (Nat.le_of_ble_eq_true rfl) (Nat.le_of_ble_eq_true rfl) ?_; intro v4 w4 hO4 hG4; have c8 : w4.cell? ⟨eb, 8, none⟩ = some (.int .i64 e.on) := (HE1.out.keep (grow_keep HK2.out HO.out hG4) (Nat.le_of_ble_eq_true rfl)).1 8 _ rfl))
      have HO4 : Hid (BOwn w1.heap.size w4 v4 [b8 e.kind, b8 (e.time / 256), b8 e.time, b8 e.client, b8 e.seq, b8 e.ack, b8 e.ok, b8 e.okey, b8 e.oto]) := hO4
      have HK4 : Hid (Keeps w1 w4) := grow_keep HK2.out HO.out hG4
      clear hO4 hG4 HO HK2 x0 x1 x2 x3 x4
      refine (HTN2.out w4).mono ?_
      rintro y w5 ⟨gb, rfl, ⟨hgl, hgc⟩, hb, hgg⟩
      have HO5 : Hid (BOwn w1.heap.size w5 v4 [b8 e.kind, b8 (e.time / 256), b8 e.time, b8 e.client, b8 e.seq, b8 e.ack, b8 e.ok, b8 e.okey, b8 e.oto]) := HO4.out.keep hb
      have HK5 : Hid (Keeps w1 w5) := HK4.out.trans hb
      have HS5 : Hid (∀ j u, (byCells (wide (e.on + 999)))[j]? = some u → w5.cell? ((⟨gb, 0, none⟩ : Addr).add j) = some u) := hgc
      clear hb hgc hgg hgl HO4 HK4 c8
      go_wp2_with (first | (refine app_bytes _ rfl _ _ rfl w1.heap.size HK5.out.size v4 [b8 e.kind, b8 (e.time / 256), b8 e.time, b8 e.client, b8 e.seq, b8 e.ack, b8 e.ok, b8 e.okey, b8 e.oto] rfl HO5.out ⟨gb, 0, none⟩ 2 (wide (e.on + 999)) rfl HS5.out (Nat.le_of_ble_eq_true rfl) (Nat.le_of_ble_eq_true rfl) ?_; intro v6 w6 hO6 hG6; obtain ⟨g, cp, rfl, hcv0⟩ := BOwn.conv (B := [b8 e.kind, b8 (e.time / 256), b8 e.time, b8 e.client, b8 e.seq, b8 e.ack, b8 e.ok, b8 e.okey, b8 e.oto, b8 ((e.on + 999) / 256), b8 (e.on + 999)]) hO6 (by simp); have hcv : (convert 76 9 (.slice (some ⟨g, 0, none⟩) 11 cp)).run Try.prog w6 = .ok (.string (bt [b8 e.kind, b8 (e.time / 256), b8 e.time, b8 e.client, b8 e.seq, b8 e.ack, b8 e.ok, b8 e.okey, b8 e.oto, b8 ((e.on + 999) / 256), b8 (e.on + 999)])) w6 := hcv0))
      have HK6 : Hid (Keeps w1 w6) := grow_keep2 HK5.out HO5.out hG6
      go_ret
      rw [HW.out]
      exact ⟨rfl, HK1.out.trans HK6.out⟩
    · have hk' : (e.kind == 2) = false := by simpa using hk
      have HW : Hid (entBs e = [b8 e.kind, b8 (e.time / 256), b8 e.time, b8 e.client]) := entBs_other hk
      obtain ⟨g, cp, rfl, hcv⟩ := HO.out.conv (by simp)
      have hcv : (convert 76 9 (.slice (some ⟨g, 0, none⟩) 4 cp)).run Try.prog wc = .ok (.string (bt [b8 e.kind, b8 (e.time / 256), b8 e.time, b8 e.client])) wc := hcv
      go_wp2_with fail
      go_ret
      rw [HW.out]
      exact ⟨rfl, HK1.out.trans HK2.out⟩
end Go.Proofs.Yteabfjpajgakiaf

/- The reference's ReplayOf. -/
set_option linter.unusedSimpArgs false
set_option linter.unusedVariables false
set_option maxRecDepth 10000
namespace Go.Proofs.Yteabfjpajgakiaf
open Go.RowKit

theorem ear_at (b : Nat) (d : List UInt8) (j : Nat) (w : World) (hB : RBox b (d.drop j) w) : Calls Try.prog 42 #[.pointer (some ⟨b, 0, none⟩)] w fun y w' => y = .returned (.int .i64 (i8 (nth d j))) ∧ RBox b (d.drop (j + 1)) w' ∧ But b w w' := by
  have := ear_byte b w (d.drop j) hB
  rw [nth_drop, List.drop_drop] at this
  exact this
theorem ear_two_at (b : Nat) (d : List UInt8) (j : Nat) (w : World) (hB : RBox b (d.drop j) w) : Calls Try.prog 43 #[.pointer (some ⟨b, 0, none⟩)] w fun y w' => y = .returned (.int .i64 (i8 (nth d j) * 256 + i8 (nth d (j + 1)))) ∧ RBox b (d.drop (j + 2)) w' ∧ But b w w' := by
  have := ear_two b (d.drop j) w hB
  rw [nth_drop, nth_drop, List.drop_drop] at this
  exact this
theorem bt_mid (l : List UInt8) (k n : Nat) : (bt l).extract k (k + n) = bt ((l.drop k).take n) := by
  unfold bt
  rw [ByteArray.extract_mk]
  congr 1
  apply Array.ext'
  simp
set_option maxHeartbeats 8000000 in
theorem replay_of (l : List UInt8) (w : World) : Calls Try.prog 19 #[.string (bt l)] w fun y w' => ∃ v, EOwn w.heap.size w' v (rpL l) ∧ y = .returned (.tuple #[v, .int .i64 (rpN l : Int), .int .i64 (rpE l)]) ∧ Keeps w w' := by
  have hs := bt_size l
  by_cases h4 : l.length ≤ 4096
  · have HL : Hid (rpL l = repl 50 l ∧ rpE l = 0 ∧ rpN l = (allBs (rpL l)).length) := ⟨if_pos h4, if_pos h4, rfl⟩
    generalize rpL l = RL at *
    generalize rpE l = RE at *
    generalize rpN l = RN at *
    go_enter Try.func19, Try.ntmps19
    go_wp2_with fail
    have e12 : decide ((4096 : Int) < (l.length : Int)) = false := by simp; omega
    simp only [e12]
    clear e12
    go_loopw [5, 6] (fun o p wr => ∃ (L : List Ent) (k : Nat) (oa : Option Addr) (oc : Nat), o = .slice oa L.length oc ∧ p = .int .i64 k ∧ L.length ≤ 50 ∧ k ≤ l.length ∧ Hid (EOwn w.heap.size wr o L ∧ repl 50 l = L ++ repl (50 - L.length) (l.drop k) ∧ k = (allBs L).length) ∧ Hid (Keeps w wr)) (fun _ p _ => l.length - (intOf p).toNat)
    case atStart => exact ⟨[], 0, none, 0, rfl, rfl, by simp, by omega, ⟨EOwn.nil, rfl, rfl⟩, Keeps.refl _⟩
    case round =>
      obtain ⟨L, k, oa, oc, rfl, rfl, hL, hk, HI, HK⟩ := hrel
      by_cases hlt : L.length < 50
      · have HX : Hid ((bt l).extract k l.length = bt (l.drop k)) := bt_drop l k
        have HM : Hid (∀ n, (bt l).extract k (k + n) = bt ((l.drop k).take n)) := bt_mid l k
        have HF : Hid (50 - L.length = (50 - (L.length + 1)) + 1) := by show _ = _; omega
        have HE : Hid (∀ W, EOwn w.heap.size W (.slice oa L.length oc) L → repl (50 - L.length) (l.drop k) = [] → EOwn w.heap.size W (.slice oa L.length oc) RL ∧ (RN : Int) = k ∧ RE = 0) := fun W hW hnil => by
          obtain ⟨h1, h2, h3⟩ := HL.out
          have e1 : RL = L := by rw [h1, HI.out.2.1, hnil, List.append_nil]
          exact ⟨by rw [e1]; exact hW, by rw [h3, e1, HI.out.2.2], h2⟩
        have hdl : (l.drop k).length = l.length - k := List.length_drop
        have HDD : Hid (∀ n, (l.drop k).drop n = l.drop (k + n)) := fun n => List.drop_drop
        go_wp2_with fail
        rw [HX.out]
        obtain ⟨rb, hrb⟩ : ∃ z, z = wr.heap.size := ⟨_, rfl⟩
        generalize l.drop k = d at *
        obtain ⟨w1, hw1⟩ : ∃ z, z = wr.alloc (.cells #[.string (bt d)] 86) := ⟨_, rfl⟩
        have HR1 : Hid (RBox rb (d.drop 0) w1) := by
          have h := CBox.new wr [Value.string (bt d)] 86
          rw [hrb, hw1]
          exact ⟨h.1 0 _ rfl, h.2 0⟩
        have HK1 : Hid (Keeps wr w1) := by rw [hw1]; exact (Keeps.refl _).alloc _
        have HRG : Hid (wr.heap.size ≤ rb) := by rw [hrb]; exact Nat.le_refl _
        rw [← hrb, ← hw1]
        clear hrb hw1 HX
        have x0 := i8_lo (nth d 0)
        have y0 := i8_hi (nth d 0)
        have x1 := i8_lo (nth d 1)
        have y1 := i8_hi (nth d 1)
        have x2 := i8_lo (nth d 2)
        have y2 := i8_hi (nth d 2)
        have x3 := i8_lo (nth d 3)
        have y3 := i8_hi (nth d 3)
        have x4 := i8_lo (nth d 4)
        have y4 := i8_hi (nth d 4)
        have x5 := i8_lo (nth d 5)
        have y5 := i8_hi (nth d 5)
        have x6 := i8_lo (nth d 6)
        have y6 := i8_hi (nth d 6)
        have x7 := i8_lo (nth d 7)
        have y7 := i8_hi (nth d 7)
        have x8 := i8_lo (nth d 8)
        have y8 := i8_hi (nth d 8)
        have x9 := i8_lo (nth d 9)
        have y9 := i8_hi (nth d 9)
        have x10 := i8_lo (nth d 10)
        have y10 := i8_hi (nth d 10)
        refine (ear_at rb d 0 w1 HR1.out).mono ?_
        rintro y w2 ⟨rfl, hR, hb⟩
        have HR2 : Hid (RBox rb (d.drop 1) w2) := hR
        have HK2 : Hid (Keeps wr w2) := But.to HK1.out HRG.out hb
        clear hR hb HR1 HK1
        go_wp2_with (first | (refine alloc35 rfl rfl ?_; intro w3 eb hBe hke hle hge) | (refine store35 rfl rfl eb rfl (⟨i8 (nth d 0), 0, 0, 0, 0, 0, 0, 0, 0⟩) rfl hBe ?_; intro w4 hSe hTe))
        have k24 : Keeps w2 w4 := But.to hke hge hTe
        have HR4 : Hid (RBox rb (d.drop 1) w4) := HR2.out.keep k24
        have HK4 : Hid (Keeps wr w4) := HK2.out.trans k24
        have HB4 : Hid (CBox eb (EC ⟨i8 (nth d 0), 0, 0, 0, 0, 0, 0, 0, 0⟩) w4) := hSe
        have HEG : Hid (wr.heap.size ≤ eb) := Nat.le_trans HK2.out.size hge
        have HER : Hid (eb ≠ rb) := fun h => by have := HR2.out.lt; omega
        clear k24 hBe hke hle hge hSe hTe HR2 HK2
        refine (ear_two_at rb d 1 w4 HR4.out).mono ?_
        rintro y w5 ⟨rfl, hR, hb⟩
        have HR5 : Hid (RBox rb (d.drop 3) w5) := hR
        have HK5 : Hid (Keeps wr w5) := But.to HK4.out HRG.out hb
        have HB5 : Hid (CBox eb (EC ⟨i8 (nth d 0), 0, 0, 0, 0, 0, 0, 0, 0⟩) w5) := HB4.out.other hb HER.out (Nat.le_of_ble_eq_true rfl)
        clear hR hb HR4 HK4 HB4
        go_wp2_with (first | (refine store_one rfl rfl eb 1 rfl rfl (EC ⟨i8 (nth d 0), i8 (nth d 1) * 256 + i8 (nth d 2), 0, 0, 0, 0, 0, 0, 0⟩) HB5.out (Nat.le_of_ble_eq_true rfl) rfl ?_; intro w6 hSS hTT))
        have HR6 : Hid (RBox rb (d.drop 3) w6) := HR5.out.other hTT (fun h => HER.out h.symm)
        have HK6 : Hid (Keeps wr w6) := But.to HK5.out HEG.out hTT
        have HB6 : Hid (CBox eb (EC ⟨i8 (nth d 0), i8 (nth d 1) * 256 + i8 (nth d 2), 0, 0, 0, 0, 0, 0, 0⟩) w6) := hSS
        clear hSS hTT HR5 HK5 HB5
        refine (ear_at rb d 3 w6 HR6.out).mono ?_
        rintro y w7 ⟨rfl, hR, hb⟩
        have HR7 : Hid (RBox rb (d.drop 4) w7) := hR
        have HK7 : Hid (Keeps wr w7) := But.to HK6.out HRG.out hb
        have HB7 : Hid (CBox eb (EC ⟨i8 (nth d 0), i8 (nth d 1) * 256 + i8 (nth d 2), 0, 0, 0, 0, 0, 0, 0⟩) w7) := HB6.out.other hb HER.out (Nat.le_of_ble_eq_true rfl)
        clear hR hb HR6 HK6 HB6
        have HOK : Hid (okRead d = if entErr (earE d) == 0 && (decide ((entBs (earE d)).length ≤ d.length) && (d.take (entBs (earE d)).length == entBs (earE d))) then some (earE d, (entBs (earE d)).length) else none) := ear_ok d
        have HEC : Hid (∀ W, Calls Try.prog 16 #[entV (earE d)] W fun x w' => x = .returned (.int .i64 (entErr (earE d))) ∧ Keeps W w') := fun W => entry_error (earE d) W
        have HEB : Hid (entErr (earE d) = 0 → ∀ W, Calls Try.prog 17 #[entV (earE d)] W fun y w' => y = .returned (.string (bt (entBs (earE d)))) ∧ Keeps W w') := fun h W => entry_bytes (earE d) h W
        have h4b := (entBs_pos (earE d)).1
        have h11 := (entBs_pos (earE d)).2
        have hbs := bt_size (entBs (earE d))
        by_cases hk2 : i8 (nth d 0) = 2
        · have hk' : (i8 (nth d 0) == 2) = true := by simpa using hk2
          have HEQ : Hid (earE d = ⟨i8 (nth d 0), i8 (nth d 1) * 256 + i8 (nth d 2), i8 (nth d 3), i8 (nth d 4), i8 (nth d 5), i8 (nth d 6), i8 (nth d 7), i8 (nth d 8), i8 (nth d 9) * 256 + i8 (nth d 10) - 999⟩) := by show _ = _; unfold earE; rw [hk']; rfl
          clear hk2
          go_wp2_with (first | (refine store_one rfl rfl eb 2 rfl rfl (EC ⟨i8 (nth d 0), i8 (nth d 1) * 256 + i8 (nth d 2), i8 (nth d 3), 0, 0, 0, 0, 0, 0⟩) HB7.out (Nat.le_of_ble_eq_true rfl) rfl ?_; intro w8 hSS hTT; have hc0 : w8.cell? ⟨eb, 0, none⟩ = some (.int .i64 (i8 (nth d 0))) := hSS.1 0 _ rfl))
          have HR8 : Hid (RBox rb (d.drop 4) w8) := HR7.out.other hTT (fun h => HER.out h.symm)
          have HK8 : Hid (Keeps wr w8) := But.to HK7.out HEG.out hTT
          have HB8 : Hid (CBox eb (EC ⟨i8 (nth d 0), i8 (nth d 1) * 256 + i8 (nth d 2), i8 (nth d 3), 0, 0, 0, 0, 0, 0⟩) w8) := hSS
          clear hSS hTT HR7 HK7 HB7
          clear hc0
          refine (ear_at rb d 4 w8 HR8.out).mono ?_
          rintro y w9 ⟨rfl, hR, hb⟩
          have HR9 : Hid (RBox rb (d.drop 5) w9) := hR
          have HK9 : Hid (Keeps wr w9) := But.to HK8.out HRG.out hb
          have HB9 : Hid (CBox eb (EC ⟨i8 (nth d 0), i8 (nth d 1) * 256 + i8 (nth d 2), i8 (nth d 3), 0, 0, 0, 0, 0, 0⟩) w9) := HB8.out.other hb HER.out (Nat.le_of_ble_eq_true rfl)
          clear hR hb HR8 HK8 HB8
          go_wp2_with (first | (refine store_one rfl rfl eb 3 rfl rfl (EC ⟨i8 (nth d 0), i8 (nth d 1) * 256 + i8 (nth d 2), i8 (nth d 3), i8 (nth d 4), 0, 0, 0, 0, 0⟩) HB9.out (Nat.le_of_ble_eq_true rfl) rfl ?_; intro w10 hSS hTT))
          have HR10 : Hid (RBox rb (d.drop 5) w10) := HR9.out.other hTT (fun h => HER.out h.symm)
          have HK10 : Hid (Keeps wr w10) := But.to HK9.out HEG.out hTT
          have HB10 : Hid (CBox eb (EC ⟨i8 (nth d 0), i8 (nth d 1) * 256 + i8 (nth d 2), i8 (nth d 3), i8 (nth d 4), 0, 0, 0, 0, 0⟩) w10) := hSS
          clear hSS hTT HR9 HK9 HB9
          refine (ear_at rb d 5 w10 HR10.out).mono ?_
          rintro y w11 ⟨rfl, hR, hb⟩
          have HR11 : Hid (RBox rb (d.drop 6) w11) := hR
          have HK11 : Hid (Keeps wr w11) := But.to HK10.out HRG.out hb
          have HB11 : Hid (CBox eb (EC ⟨i8 (nth d 0), i8 (nth d 1) * 256 + i8 (nth d 2), i8 (nth d 3), i8 (nth d 4), 0, 0, 0, 0, 0⟩) w11) := HB10.out.other hb HER.out (Nat.le_of_ble_eq_true rfl)
          clear hR hb HR10 HK10 HB10
          go_wp2_with (first | (refine store_one rfl rfl eb 4 rfl rfl (EC ⟨i8 (nth d 0), i8 (nth d 1) * 256 + i8 (nth d 2), i8 (nth d 3), i8 (nth d 4), i8 (nth d 5), 0, 0, 0, 0⟩) HB11.out (Nat.le_of_ble_eq_true rfl) rfl ?_; intro w12 hSS hTT))
          have HR12 : Hid (RBox rb (d.drop 6) w12) := HR11.out.other hTT (fun h => HER.out h.symm)
          have HK12 : Hid (Keeps wr w12) := But.to HK11.out HEG.out hTT
          have HB12 : Hid (CBox eb (EC ⟨i8 (nth d 0), i8 (nth d 1) * 256 + i8 (nth d 2), i8 (nth d 3), i8 (nth d 4), i8 (nth d 5), 0, 0, 0, 0⟩) w12) := hSS
          clear hSS hTT HR11 HK11 HB11
          refine (ear_at rb d 6 w12 HR12.out).mono ?_
          rintro y w13 ⟨rfl, hR, hb⟩
          have HR13 : Hid (RBox rb (d.drop 7) w13) := hR
          have HK13 : Hid (Keeps wr w13) := But.to HK12.out HRG.out hb
          have HB13 : Hid (CBox eb (EC ⟨i8 (nth d 0), i8 (nth d 1) * 256 + i8 (nth d 2), i8 (nth d 3), i8 (nth d 4), i8 (nth d 5), 0, 0, 0, 0⟩) w13) := HB12.out.other hb HER.out (Nat.le_of_ble_eq_true rfl)
          clear hR hb HR12 HK12 HB12
          go_wp2_with (first | (refine store_one rfl rfl eb 5 rfl rfl (EC ⟨i8 (nth d 0), i8 (nth d 1) * 256 + i8 (nth d 2), i8 (nth d 3), i8 (nth d 4), i8 (nth d 5), i8 (nth d 6), 0, 0, 0⟩) HB13.out (Nat.le_of_ble_eq_true rfl) rfl ?_; intro w14 hSS hTT))
          have HR14 : Hid (RBox rb (d.drop 7) w14) := HR13.out.other hTT (fun h => HER.out h.symm)
          have HK14 : Hid (Keeps wr w14) := But.to HK13.out HEG.out hTT
          have HB14 : Hid (CBox eb (EC ⟨i8 (nth d 0), i8 (nth d 1) * 256 + i8 (nth d 2), i8 (nth d 3), i8 (nth d 4), i8 (nth d 5), i8 (nth d 6), 0, 0, 0⟩) w14) := hSS
          clear hSS hTT HR13 HK13 HB13
          refine (ear_at rb d 7 w14 HR14.out).mono ?_
          rintro y w15 ⟨rfl, hR, hb⟩
          have HR15 : Hid (RBox rb (d.drop 8) w15) := hR
          have HK15 : Hid (Keeps wr w15) := But.to HK14.out HRG.out hb
          have HB15 : Hid (CBox eb (EC ⟨i8 (nth d 0), i8 (nth d 1) * 256 + i8 (nth d 2), i8 (nth d 3), i8 (nth d 4), i8 (nth d 5), i8 (nth d 6), 0, 0, 0⟩) w15) := HB14.out.other hb HER.out (Nat.le_of_ble_eq_true rfl)
          clear hR hb HR14 HK14 HB14
          go_wp2_with (first | (refine store_one rfl rfl eb 6 rfl rfl (EC ⟨i8 (nth d 0), i8 (nth d 1) * 256 + i8 (nth d 2), i8 (nth d 3), i8 (nth d 4), i8 (nth d 5), i8 (nth d 6), i8 (nth d 7), 0, 0⟩) HB15.out (Nat.le_of_ble_eq_true rfl) rfl ?_; intro w16 hSS hTT))
          have HR16 : Hid (RBox rb (d.drop 8) w16) := HR15.out.other hTT (fun h => HER.out h.symm)
          have HK16 : Hid (Keeps wr w16) := But.to HK15.out HEG.out hTT
          have HB16 : Hid (CBox eb (EC ⟨i8 (nth d 0), i8 (nth d 1) * 256 + i8 (nth d 2), i8 (nth d 3), i8 (nth d 4), i8 (nth d 5), i8 (nth d 6), i8 (nth d 7), 0, 0⟩) w16) := hSS
          clear hSS hTT HR15 HK15 HB15
          refine (ear_at rb d 8 w16 HR16.out).mono ?_
          rintro y w17 ⟨rfl, hR, hb⟩
          have HR17 : Hid (RBox rb (d.drop 9) w17) := hR
          have HK17 : Hid (Keeps wr w17) := But.to HK16.out HRG.out hb
          have HB17 : Hid (CBox eb (EC ⟨i8 (nth d 0), i8 (nth d 1) * 256 + i8 (nth d 2), i8 (nth d 3), i8 (nth d 4), i8 (nth d 5), i8 (nth d 6), i8 (nth d 7), 0, 0⟩) w17) := HB16.out.other hb HER.out (Nat.le_of_ble_eq_true rfl)
          clear hR hb HR16 HK16 HB16
          go_wp2_with (first | (refine store_one rfl rfl eb 7 rfl rfl (EC ⟨i8 (nth d 0), i8 (nth d 1) * 256 + i8 (nth d 2), i8 (nth d 3), i8 (nth d 4), i8 (nth d 5), i8 (nth d 6), i8 (nth d 7), i8 (nth d 8), 0⟩) HB17.out (Nat.le_of_ble_eq_true rfl) rfl ?_; intro w18 hSS hTT))
          have HR18 : Hid (RBox rb (d.drop 9) w18) := HR17.out.other hTT (fun h => HER.out h.symm)
          have HK18 : Hid (Keeps wr w18) := But.to HK17.out HEG.out hTT
          have HB18 : Hid (CBox eb (EC ⟨i8 (nth d 0), i8 (nth d 1) * 256 + i8 (nth d 2), i8 (nth d 3), i8 (nth d 4), i8 (nth d 5), i8 (nth d 6), i8 (nth d 7), i8 (nth d 8), 0⟩) w18) := hSS
          clear hSS hTT HR17 HK17 HB17
          refine (ear_two_at rb d 9 w18 HR18.out).mono ?_
          rintro y w19 ⟨rfl, hR, hb⟩
          have HR19 : Hid (RBox rb (d.drop 11) w19) := hR
          have HK19 : Hid (Keeps wr w19) := But.to HK18.out HRG.out hb
          have HB19 : Hid (CBox eb (EC ⟨i8 (nth d 0), i8 (nth d 1) * 256 + i8 (nth d 2), i8 (nth d 3), i8 (nth d 4), i8 (nth d 5), i8 (nth d 6), i8 (nth d 7), i8 (nth d 8), 0⟩) w19) := HB18.out.other hb HER.out (Nat.le_of_ble_eq_true rfl)
          clear hR hb HR18 HK18 HB18
          go_wp2_with (first | (refine store_one rfl rfl eb 8 rfl rfl (EC ⟨i8 (nth d 0), i8 (nth d 1) * 256 + i8 (nth d 2), i8 (nth d 3), i8 (nth d 4), i8 (nth d 5), i8 (nth d 6), i8 (nth d 7), i8 (nth d 8), i8 (nth d 9) * 256 + i8 (nth d 10) - 999⟩) HB19.out (Nat.le_of_ble_eq_true rfl) rfl ?_; intro w20 hSS hTT) | (refine load35 rfl rfl eb rfl (e := earE d) (by rw [HEQ.out]; exact hSS) ?_))
          have HR20 : Hid (RBox rb (d.drop 11) w20) := HR19.out.other hTT (fun h => HER.out h.symm)
          have HK20 : Hid (Keeps wr w20) := But.to HK19.out HEG.out hTT
          have HB20 : Hid (CBox eb (EC ⟨i8 (nth d 0), i8 (nth d 1) * 256 + i8 (nth d 2), i8 (nth d 3), i8 (nth d 4), i8 (nth d 5), i8 (nth d 6), i8 (nth d 7), i8 (nth d 8), i8 (nth d 9) * 256 + i8 (nth d 10) - 999⟩) w20) := hSS
          clear hSS hTT HR19 HK19 HB19
          have HZ : Hid (CBox eb (EC (earE d)) w20) := by rw [HEQ.out]; exact HB20.out
          generalize w20 = v0 at *
          have HKv : Hid (Keeps wr v0) := HK20.out
          clear HB20 HR20 HK20 HEQ
          clear x0 y0
          clear x1 y1
          clear x2 y2
          clear x3 y3
          clear x4 y4
          clear x5 y5
          clear x6 y6
          clear x7 y7
          clear x8 y8
          clear x9 y9
          clear x10 y10
          generalize earE d = e at *
          refine (HEC.out v0).mono ?_
          rintro y v1 ⟨rfl, hb⟩
          have HK1v : Hid (Keeps wr v1) := HKv.out.trans hb
          have HZ1 : Hid (CBox eb (EC e) v1) := HZ.out.keep hb (Nat.le_of_ble_eq_true rfl)
          clear hb HKv HZ HEC
          generalize entErr e = er at *
          cases q : (er == 0) with
          | false =>
            have q' : (er != 0) = true := by simp [bne, q]
            have hnil : repl (50 - L.length) d = [] := by
              rw [HF.out]
              exact repl_none (by rw [HOK.out, q]; rfl)
            have HQ : Hid (EOwn w.heap.size v1 (.slice oa L.length oc) RL ∧ (RN : Int) = k ∧ RE = 0) := HE.out v1 (HI.out.1.keep HK1v.out) hnil
            have HKq : Hid (Keeps w v1) := HK.out.trans HK1v.out
            go_wp2_with fail
            go_ret3
            rw [HQ.out.2.1, HQ.out.2.2]
            exact ⟨_, HQ.out.1, rfl, HKq.out⟩
          | true =>
            have q' : (er != 0) = false := by simp [bne, q]
            have q0 : er = 0 := by simpa using q
            have HEB2 := HEB.out q0
            have HEBn : Hid (∀ W, Calls Try.prog 17 #[entV e] W fun y w' => y = .returned (.string (bt (entBs e))) ∧ Keeps W w') := HEB2
            clear HEB HEB2
            rw [q] at HOK
            subst q0
            clear q q'
            go_wp2_with (first | (refine load35 rfl rfl eb rfl (e := e) HZ1.out ?_))
            refine (HEBn.out v1).mono ?_
            rintro y v2 ⟨rfl, hb⟩
            have HK2v : Hid (Keeps wr v2) := HK1v.out.trans hb
            have HZ2 : Hid (CBox eb (EC e) v2) := HZ1.out.keep hb (Nat.le_of_ble_eq_true rfl)
            have HBE : Hid (allBs [e] = entBs e) := by show entBs e ++ [] = _; rw [List.append_nil]
            clear hb HK1v HZ1 HEBn
            generalize entBs e = bs at *
            by_cases hc : bs.length ≤ d.length
            · have hsl0 : ∀ W, (Instr.slice 9 (.string (bt l)) (some (.int .i64 (k : Int))) (some (.int .i64 ((k : Int) + (bs.length : Int)))) none).run Try.prog W = .ok (.string (bt (d.take bs.length))) W := fun W => by
                rw [run_slice_string W 9 (bt l) .i64 .i64 (k : Int) ((k : Int) + (bs.length : Int)) Try.underlying9 (by omega) (by omega) (by rw [hs]; omega), ← HM.out]
                rfl
              by_cases ht : d.take bs.length = bs
              · have hsl := hsl0 v2
                rw [ht] at hsl
                clear hsl0
                have HRP : Hid (repl 50 l = (L ++ [e]) ++ repl (50 - (L ++ [e]).length) (l.drop (k + bs.length))) := by
                  show _ = _
                  rw [HI.out.2.1, HF.out, repl_some (e := e) (n := bs.length) (by rw [HOK.out]; simp [hc, ht]), List.append_assoc, HDD.out, List.length_append]
                  rfl
                have HLB : Hid (k + bs.length = (allBs (L ++ [e])).length) := by
                  show _ = _
                  rw [allBs_append, List.length_append, ← HI.out.2.2, HBE.out]
                have HOv : Hid (EOwn w.heap.size v2 (.slice oa L.length oc) L) := HI.out.1.keep HK2v.out
                have HKw : Hid (Keeps w v2) := HK.out.trans HK2v.out
                clear ht HOK HF HM HDD HI HE HBE HK2v
                go_wp2_with (first | (refine load35 rfl rfl eb rfl (e := e) HZ2.out ?_) | (refine app_ent (HKw.out.alloc _) rfl _ _ rfl (.slice oa L.length oc) L rfl (HOv.out.keep ((Keeps.refl _).alloc _)) e _ rfl (ent_new v2 e 1) (by omega) ?_; intro v6 w6 hO6 hK6))
                obtain ⟨oa6, oc6, hv6, _⟩ := hO6.at.len
                go_roundw
                case rel => exact ⟨L ++ [e], k + bs.length, oa6, oc6, hv6, by go_num, by simp; omega, by omega, ⟨hO6, HRP.out, HLB.out⟩, hK6⟩
                case measure => simp [intOf]; omega
              · have hsl := hsl0 v2
                have hne : ((bt (d.take bs.length)).toList == (bt bs).toList) = false := by rw [bt_list, bt_list]; simpa using ht
                clear hsl0
                have hnil : repl (50 - L.length) d = [] := by
                  rw [HF.out]
                  refine repl_none ?_
                  rw [HOK.out]
                  simp [ht]
                have HQ : Hid (EOwn w.heap.size v2 (.slice oa L.length oc) RL ∧ (RN : Int) = k ∧ RE = 0) := HE.out v2 (HI.out.1.keep HK2v.out) hnil
                have HKq : Hid (Keeps w v2) := HK.out.trans HK2v.out
                clear hnil
                go_wp2_with fail
                go_ret3
                rw [HQ.out.2.1, HQ.out.2.2]
                exact ⟨_, HQ.out.1, rfl, HKq.out⟩
            · have hnil : repl (50 - L.length) d = [] := by
                rw [HF.out]
                refine repl_none ?_
                rw [HOK.out]
                simp [hc]
              have HQ : Hid (EOwn w.heap.size v2 (.slice oa L.length oc) RL ∧ (RN : Int) = k ∧ RE = 0) := HE.out v2 (HI.out.1.keep HK2v.out) hnil
              have HKq : Hid (Keeps w v2) := HK.out.trans HK2v.out
              go_wp2_with fail
              go_ret3
              rw [HQ.out.2.1, HQ.out.2.2]
              exact ⟨_, HQ.out.1, rfl, HKq.out⟩
        · have hk' : (i8 (nth d 0) == 2) = false := by simpa using hk2
          have HEQ : Hid (earE d = ⟨i8 (nth d 0), i8 (nth d 1) * 256 + i8 (nth d 2), i8 (nth d 3), 0, 0, 0, 0, 0, 0⟩) := by show _ = _; unfold earE; rw [hk']; rfl
          clear hk2
          go_wp2_with (first | (refine store_one rfl rfl eb 2 rfl rfl (EC ⟨i8 (nth d 0), i8 (nth d 1) * 256 + i8 (nth d 2), i8 (nth d 3), 0, 0, 0, 0, 0, 0⟩) HB7.out (Nat.le_of_ble_eq_true rfl) rfl ?_; intro w8 hSS hTT; have hc0 : w8.cell? ⟨eb, 0, none⟩ = some (.int .i64 (i8 (nth d 0))) := hSS.1 0 _ rfl) | (refine load35 rfl rfl eb rfl (e := earE d) (by rw [HEQ.out]; exact hSS) ?_))
          have HR8 : Hid (RBox rb (d.drop 4) w8) := HR7.out.other hTT (fun h => HER.out h.symm)
          have HK8 : Hid (Keeps wr w8) := But.to HK7.out HEG.out hTT
          have HB8 : Hid (CBox eb (EC ⟨i8 (nth d 0), i8 (nth d 1) * 256 + i8 (nth d 2), i8 (nth d 3), 0, 0, 0, 0, 0, 0⟩) w8) := hSS
          clear hSS hTT HR7 HK7 HB7
          clear hc0
          have HZ : Hid (CBox eb (EC (earE d)) w8) := by rw [HEQ.out]; exact HB8.out
          generalize w8 = v0 at *
          have HKv : Hid (Keeps wr v0) := HK8.out
          clear HB8 HR8 HK8 HEQ
          clear x0 y0
          clear x1 y1
          clear x2 y2
          clear x3 y3
          clear x4 y4
          clear x5 y5
          clear x6 y6
          clear x7 y7
          clear x8 y8
          clear x9 y9
          clear x10 y10
          generalize earE d = e at *
          refine (HEC.out v0).mono ?_
          rintro y v1 ⟨rfl, hb⟩
          have HK1v : Hid (Keeps wr v1) := HKv.out.trans hb
          have HZ1 : Hid (CBox eb (EC e) v1) := HZ.out.keep hb (Nat.le_of_ble_eq_true rfl)
          clear hb HKv HZ HEC
          generalize entErr e = er at *
          cases q : (er == 0) with
          | false =>
            have q' : (er != 0) = true := by simp [bne, q]
            have hnil : repl (50 - L.length) d = [] := by
              rw [HF.out]
              exact repl_none (by rw [HOK.out, q]; rfl)
            have HQ : Hid (EOwn w.heap.size v1 (.slice oa L.length oc) RL ∧ (RN : Int) = k ∧ RE = 0) := HE.out v1 (HI.out.1.keep HK1v.out) hnil
            have HKq : Hid (Keeps w v1) := HK.out.trans HK1v.out
            go_wp2_with fail
            go_ret3
            rw [HQ.out.2.1, HQ.out.2.2]
            exact ⟨_, HQ.out.1, rfl, HKq.out⟩
          | true =>
            have q' : (er != 0) = false := by simp [bne, q]
            have q0 : er = 0 := by simpa using q
            have HEB2 := HEB.out q0
            have HEBn : Hid (∀ W, Calls Try.prog 17 #[entV e] W fun y w' => y = .returned (.string (bt (entBs e))) ∧ Keeps W w') := HEB2
            clear HEB HEB2
            rw [q] at HOK
            subst q0
            clear q q'
            go_wp2_with (first | (refine load35 rfl rfl eb rfl (e := e) HZ1.out ?_))
            refine (HEBn.out v1).mono ?_
            rintro y v2 ⟨rfl, hb⟩
            have HK2v : Hid (Keeps wr v2) := HK1v.out.trans hb
            have HZ2 : Hid (CBox eb (EC e) v2) := HZ1.out.keep hb (Nat.le_of_ble_eq_true rfl)
            have HBE : Hid (allBs [e] = entBs e) := by show entBs e ++ [] = _; rw [List.append_nil]
            clear hb HK1v HZ1 HEBn
            generalize entBs e = bs at *
            by_cases hc : bs.length ≤ d.length
            · have hsl0 : ∀ W, (Instr.slice 9 (.string (bt l)) (some (.int .i64 (k : Int))) (some (.int .i64 ((k : Int) + (bs.length : Int)))) none).run Try.prog W = .ok (.string (bt (d.take bs.length))) W := fun W => by
                rw [run_slice_string W 9 (bt l) .i64 .i64 (k : Int) ((k : Int) + (bs.length : Int)) Try.underlying9 (by omega) (by omega) (by rw [hs]; omega), ← HM.out]
                rfl
              by_cases ht : d.take bs.length = bs
              · have hsl := hsl0 v2
                rw [ht] at hsl
                clear hsl0
                have HRP : Hid (repl 50 l = (L ++ [e]) ++ repl (50 - (L ++ [e]).length) (l.drop (k + bs.length))) := by
                  show _ = _
                  rw [HI.out.2.1, HF.out, repl_some (e := e) (n := bs.length) (by rw [HOK.out]; simp [hc, ht]), List.append_assoc, HDD.out, List.length_append]
                  rfl
                have HLB : Hid (k + bs.length = (allBs (L ++ [e])).length) := by
                  show _ = _
                  rw [allBs_append, List.length_append, ← HI.out.2.2, HBE.out]
                have HOv : Hid (EOwn w.heap.size v2 (.slice oa L.length oc) L) := HI.out.1.keep HK2v.out
                have HKw : Hid (Keeps w v2) := HK.out.trans HK2v.out
                clear ht HOK HF HM HDD HI HE HBE HK2v
                go_wp2_with (first | (refine load35 rfl rfl eb rfl (e := e) HZ2.out ?_) | (refine app_ent (HKw.out.alloc _) rfl _ _ rfl (.slice oa L.length oc) L rfl (HOv.out.keep ((Keeps.refl _).alloc _)) e _ rfl (ent_new v2 e 1) (by omega) ?_; intro v6 w6 hO6 hK6))
                obtain ⟨oa6, oc6, hv6, _⟩ := hO6.at.len
                go_roundw
                case rel => exact ⟨L ++ [e], k + bs.length, oa6, oc6, hv6, by go_num, by simp; omega, by omega, ⟨hO6, HRP.out, HLB.out⟩, hK6⟩
                case measure => simp [intOf]; omega
              · have hsl := hsl0 v2
                have hne : ((bt (d.take bs.length)).toList == (bt bs).toList) = false := by rw [bt_list, bt_list]; simpa using ht
                clear hsl0
                have hnil : repl (50 - L.length) d = [] := by
                  rw [HF.out]
                  refine repl_none ?_
                  rw [HOK.out]
                  simp [ht]
                have HQ : Hid (EOwn w.heap.size v2 (.slice oa L.length oc) RL ∧ (RN : Int) = k ∧ RE = 0) := HE.out v2 (HI.out.1.keep HK2v.out) hnil
                have HKq : Hid (Keeps w v2) := HK.out.trans HK2v.out
                clear hnil
                go_wp2_with fail
                go_ret3
                rw [HQ.out.2.1, HQ.out.2.2]
                exact ⟨_, HQ.out.1, rfl, HKq.out⟩
            · have hnil : repl (50 - L.length) d = [] := by
                rw [HF.out]
                refine repl_none ?_
                rw [HOK.out]
                simp [hc]
              have HQ : Hid (EOwn w.heap.size v2 (.slice oa L.length oc) RL ∧ (RN : Int) = k ∧ RE = 0) := HE.out v2 (HI.out.1.keep HK2v.out) hnil
              have HKq : Hid (Keeps w v2) := HK.out.trans HK2v.out
              go_wp2_with fail
              go_ret3
              rw [HQ.out.2.1, HQ.out.2.2]
              exact ⟨_, HQ.out.1, rfl, HKq.out⟩
      · have HE : Hid (EOwn w.heap.size wr (.slice oa L.length oc) RL ∧ (RN : Int) = k ∧ RE = 0) := by
          obtain ⟨h1, h2, h3⟩ := HL.out
          have e1 : RL = L := by
            have : 50 - L.length = 0 := by omega
            rw [h1, HI.out.2.1, this]
            simp [repl]
          exact ⟨by rw [e1]; exact HI.out.1, by rw [h3, e1, HI.out.2.2], h2⟩
        go_wp2_with fail
        go_ret3
        rw [HE.out.2.1, HE.out.2.2]
        exact ⟨_, HE.out.1, rfl, HK.out⟩
  · have HL : Hid (rpL l = [] ∧ rpE l = 2 ∧ rpN l = (allBs (rpL l)).length) := ⟨if_neg h4, if_neg h4, rfl⟩
    generalize rpL l = RL at *
    generalize rpE l = RE at *
    generalize rpN l = RN at *
    go_enter Try.func19, Try.ntmps19
    go_wp2_with fail
    go_ret3
    obtain ⟨h1, h2, h3⟩ := HL.out
    subst h1 h2
    rw [h3]
    exact ⟨_, EOwn.nil, rfl, Keeps.refl _⟩
end Go.Proofs.Yteabfjpajgakiaf

/- logBegun. -/
set_option linter.unusedSimpArgs false
set_option linter.unusedVariables false
set_option maxRecDepth 10000
namespace Go.Proofs.Yteabfjpajgakiaf
open Go.RowKit

def lE1 : Ent := ⟨1, 300, 1, 0, 0, 0, 0, 0, 0⟩
def lE2 : Ent := ⟨2, 2, 1, 1, 0, 2, 0, 0, -5⟩
def l16 : List UInt8 := [1, 1, 44, 1, 2, 0, 2, 1, 1, 0, 2, 0, 0, 3, 226, 1]
theorem log_runs : (entErr lE1 = 0 ∧ wrBs lE1 = [1, 1, 44, 1]) ∧ (entErr lE2 = 0 ∧ wrBs lE2 = [2, 0, 2, 1, 1, 0, 2, 0, 0, 3, 226]) ∧ entErr noEnt = 4 ∧ rpE l16 = 0 ∧ rpN l16 = 15 := by decide +kernel
theorem log_list : rpL l16 = [lE1, lE2] := rfl
def zeroL : List UInt8 := List.replicate 4097 0
def zeroC : Array Value := madeCells (Value.int .u8 0).cells 4097
theorem make_zeros (w : World) : (Instr.makeSlice 76 (.int .i64 4097) (.int .i64 4097)).run Try.prog w = .ok (.slice (some ⟨w.heap.size, 0, none⟩) 4097 4097) (w.alloc (.cells zeroC 5)) := by
  obtain ⟨i, hi, hz, hs, hb⟩ := infoByte
  have := run_makeSlice (P := Try.prog) w 76 5 i _ Try.underlying76 hi hz .i64 .i64 4097 4097 (by decide) (by decide) (by rw [hs]; decide) (by rw [hb]; decide) (by decide)
  rw [this, hs]
  rfl
theorem zeros_string (w : World) : (convert 76 9 (.slice (some ⟨w.heap.size, 0, none⟩) 4097 4097)).run Try.prog (w.alloc (.cells zeroC 5)) = .ok (.string (bt zeroL)) (w.alloc (.cells zeroC 5)) := by
  have hl : zeroL.length = 4097 := List.length_replicate
  have := run_convert_bytes_back (w.alloc (.cells zeroC 5)) 76 9 5 ⟨w.heap.size, 0, none⟩ 4097 zeroL Try.underlying76 Try.underlying5 Try.underlying9 (fun j hj => by
    refine World.news_of_block (w := w.alloc (.cells zeroC 5)) (cs := zeroC) (t := 5) (fr := (0, 0)) (by simp only [World.alloc, Array.getElem?_push_size]) j _ ?_
    have e : zeroL[j] = 0 := List.getElem_replicate ..
    rw [e]
    have hj' : j < 4097 := by rwa [hl] at hj
    have hm : j % 1 = 0 := Nat.mod_one j
    simp [zeroC, madeCells, Value.cells, hj', hm])
  rw [hl] at this
  exact this
theorem zeros_err : rpE zeroL = 2 := if_neg (by rw [show zeroL.length = 4097 from List.length_replicate]; decide)

set_option maxHeartbeats 4000000 in
theorem log_begun (w : World) : Calls Try.prog 20 #[] w fun y w' => y = .returned (.bool true) ∧ Keeps w w' := by
  obtain ⟨⟨p1, p2⟩, ⟨p3, p4⟩, p5, p6, p7⟩ := log_runs
  obtain ⟨s1, hs1⟩ : ∃ s, s = bt (wrBs lE1) := ⟨_, rfl⟩
  obtain ⟨s2, hs2⟩ : ∃ s, s = bt (wrBs lE2) := ⟨_, rfl⟩
  have HW1 : Hid (∀ W, Calls Try.prog 15 #[entV lE1] W fun y w' => y = .returned (.tuple #[.string s1, .int .i64 0]) ∧ Keeps W w') := fun W => by
    have := log_write lE1 W
    rw [p1, ← hs1] at this
    exact this
  have HW2 : Hid (∀ W, Calls Try.prog 15 #[entV lE2] W fun y w' => y = .returned (.tuple #[.string s2, .int .i64 0]) ∧ Keeps W w') := fun W => by
    have := log_write lE2 W
    rw [p3, ← hs2] at this
    exact this
  have HW3 : Hid (∀ W, ∃ z, Calls Try.prog 15 #[entV noEnt] W fun y w' => y = .returned (.tuple #[.string z, .int .i64 4]) ∧ Keeps W w') := fun W => by
    have := log_write noEnt W
    rw [p5] at this
    exact ⟨_, this⟩
  have HR1 : Hid (∀ W, Calls Try.prog 18 #[.string (bt l16)] W fun y w' => ∃ a c, EntsAt w' (.slice a 2 c) [lE1, lE2] ∧ y = .returned (.tuple #[.slice a 2 c, .int .i64 15, .int .i64 0]) ∧ Keeps W w') := fun W => by
    refine (log_replay l16 W).mono ?_
    rintro y w' ⟨v, h1, rfl, h3⟩
    rw [log_list] at h1
    obtain ⟨a, c, rfl, _⟩ := h1.at.len
    rw [p6, p7]
    exact ⟨a, c, h1.at, rfl, h3⟩
  have HR2 : Hid (∀ W, Calls Try.prog 18 #[.string (bt zeroL)] W fun y w' => ∃ v n, y = .returned (.tuple #[v, .int .i64 n, .int .i64 2]) ∧ Keeps W w') := fun W => by
    refine (log_replay zeroL W).mono ?_
    rintro y w' ⟨v, h1, rfl, h3⟩
    rw [zeros_err]
    exact ⟨v, _, rfl, h3⟩
  have HADD : Hid (s1 ++ s2 ++ (ByteArray.mk #[1]) = bt l16) := by show _ = _; rw [hs1, hs2, p2, p4]; rfl
  have hq1 : s1.toList = [1, 1, 44, 1] := by rw [hs1, p2, bt_list]
  have hq2 : s2.size = 11 := by rw [hs2, p4]; rfl
  have hq0 : s1.size = 4 := by rw [hs1, p2]; rfl
  have hq3 : (s1 ++ s2).size = 15 := by rw [ByteArray.size_append, hq0, hq2]
  have HMO : Hid (∀ W, Calls Try.prog 24 #[.int .i64 300, .int .i64 1] W fun y w' => y = .returned (entV lE1) ∧ Keeps W w') := fun W => mk_open 300 1 W
  have HMC : Hid (∀ W, Calls Try.prog 25 #[.int .i64 2, .int .i64 1, .int .i64 1, .int .i64 0, .agg #[.int .i64 2, .int .i64 0, .int .i64 0, .int .i64 (-5)]] W fun y w' => y = .returned (entV lE2) ∧ Keeps W w') := fun W => mk_call 2 1 1 0 2 0 0 (-5) W
  clear p1 p2 p3 p4 p5 p6 p7 hs1 hs2
  go_enter Try.func20, Try.ntmps20
  go_wp2_with fail
  refine (HMO.out w).mono ?_
  rintro y w1 ⟨rfl, hb⟩
  have HK1 : Hid (Keeps w w1) := hb
  clear hb
  go_wp2_with fail
  refine (HW1.out w1).mono ?_
  rintro y w2 ⟨rfl, hb⟩
  have HK2 : Hid (Keeps w w2) := HK1.out.trans hb
  clear hb HK1 HW1
  go_wp2_with fail
  refine (mk_add (-5) w2).mono ?_
  rintro y w3 ⟨rfl, hb⟩
  have HK3 : Hid (Keeps w w3) := HK2.out.trans hb
  clear hb HK2
  go_wp2_with fail
  refine (HMC.out w3).mono ?_
  rintro y w4 ⟨rfl, hb⟩
  have HK4 : Hid (Keeps w w4) := HK3.out.trans hb
  clear hb HK3
  go_wp2_with fail
  refine (HW2.out w4).mono ?_
  rintro y w5 ⟨rfl, hb⟩
  have HK5 : Hid (Keeps w w5) := HK4.out.trans hb
  clear hb HK4 HW2
  go_wp2_with fail
  rw [HADD.out]
  refine (HR1.out w5).mono ?_
  rintro y w6 ⟨la, lc, hL, rfl, hb⟩
  have HK6 : Hid (Keeps w w6) := HK5.out.trans hb
  have HL6 : Hid (EntsAt w6 (.slice la 2 lc) [lE1, lE2]) := hL
  clear hb hL HK5 HR1
  go_wp2_with fail
  obtain ⟨z3, h3⟩ := HW3.out w6
  refine h3.mono ?_
  rintro y w7 ⟨rfl, hb⟩
  have HK7 : Hid (Keeps w w7) := HK6.out.trans hb
  have HL7 : Hid (EntsAt w7 (.slice la 2 lc) [lE1, lE2]) := HL6.out.keep hb
  clear hb h3 HW3 HK6 HL6
  have hmk := make_zeros w7
  have hcv := zeros_string w7
  go_wp2_with fail
  refine (HR2.out _).mono ?_
  rintro y w8 ⟨v8, n8, rfl, hb⟩
  have HK8 : Hid (Keeps w w8) := (HK7.out.alloc _).trans hb
  have HL8 : Hid (EntsAt w8 (.slice la 2 lc) [lE1, lE2]) := (HL7.out.keep ((Keeps.refl _).alloc _)).keep hb
  clear hb HK7 HL7 HR2 hmk hcv
  go_wp2_with fail
  refine (HMO.out w8).mono ?_
  rintro y w9 ⟨rfl, hb⟩
  have HK9 : Hid (Keeps w8 w9) := hb
  clear hb
  go_wp2_with fail
  refine (mk_add (-5) w9).mono ?_
  rintro y w10 ⟨rfl, hb⟩
  have HK10 : Hid (Keeps w8 w10) := HK9.out.trans hb
  clear hb HK9
  go_wp2_with fail
  refine (HMC.out w10).mono ?_
  rintro y w11 ⟨rfl, hb⟩
  have HK11 : Hid (Keeps w8 w11) := HK10.out.trans hb
  clear hb HK10
  go_wp2_with fail
  have hN : EntsAt (w11.alloc (.cells (entCells [lE1, lE2]).toArray 35)) (.slice (some ⟨w11.heap.size, 0, none⟩) 2 2) [lE1, lE2] := EntsAt.new w11 [lE1, lE2] (by decide) 2
  refine (sameEnts_c [lE1, lE2] [lE1, lE2] _ _ _ (HL8.out.keep (HK11.out.alloc _)) hN).mono ?_
  rintro y w12 ⟨rfl, hb⟩
  rw [sameEnts_self]
  have HK12 : Hid (Keeps w w12) := HK8.out.trans ((HK11.out.alloc _).trans hb)
  clear hb hN
  go_wp2_with fail
  go_ret
  exact ⟨rfl, HK12.out⟩
end Go.Proofs.Yteabfjpajgakiaf

/- LogTells: the walk. -/
set_option linter.unusedSimpArgs false
set_option linter.unusedVariables false
set_option maxRecDepth 10000
namespace Go.Proofs.Yteabfjpajgakiaf
open Go.RowKit

set_option maxHeartbeats 4000000 in
theorem log_tells (e : Ent) (l : List UInt8) (w : World) : Calls Try.prog 5 #[entV e, .string (bt l)] w fun y w' => y = .returned (.bool true) ∧ Keeps w w' := by
  have HW : Hid (∀ W, Calls Try.prog 15 #[entV e] W fun y w' => y = .returned (.tuple #[.string (bt (wrBs e)), .int .i64 (entErr e)]) ∧ Keeps W w') := fun W => log_write e W
  have HX : Hid (∀ W, Calls Try.prog 16 #[entV e] W fun y w' => y = .returned (.int .i64 (entErr e)) ∧ Keeps W w') := fun W => entry_error e W
  have HB : Hid (entErr e = 0 → ∀ W, Calls Try.prog 17 #[entV e] W fun y w' => y = .returned (.string (bt (wrBs e))) ∧ Keeps W w') := fun h W => by
    have := entry_bytes e h W
    rw [show wrBs e = entBs e from if_pos (by rw [h]; rfl)]
    exact this
  have HN : Hid (¬ entErr e = 0 → wrBs e = []) := fun h => if_neg (by simpa using h)
  have HP : Hid (∀ W, Calls Try.prog 18 #[.string (bt l)] W fun y w' => ∃ v, EntsAt w' v (rpL l) ∧ y = .returned (.tuple #[v, .int .i64 (rpN l : Int), .int .i64 (rpE l)]) ∧ Keeps W w') := fun W => by
    refine (log_replay l W).mono ?_
    rintro y w' ⟨v, h1, h2, h3⟩
    exact ⟨v, h1.at, h2, h3⟩
  have HQ : Hid (∀ W, Calls Try.prog 19 #[.string (bt l)] W fun y w' => ∃ v, EntsAt w' v (rpL l) ∧ y = .returned (.tuple #[v, .int .i64 (rpN l : Int), .int .i64 (rpE l)]) ∧ Keeps W w') := fun W => by
    refine (replay_of l W).mono ?_
    rintro y w' ⟨v, h1, h2, h3⟩
    exact ⟨v, h1.at, h2, h3⟩
  generalize wrBs e = bs at *
  generalize entErr e = er at *
  generalize rpL l = RL at *
  generalize (rpN l : Int) = RN at *
  generalize rpE l = RE at *
  cases q : (er == 0) with
  | true =>
    have q0 : er = 0 := by simpa using q
    have HB2 := HB.out q0
    have HBn : Hid (∀ W, Calls Try.prog 17 #[entV e] W fun y w' => y = .returned (.string (bt bs)) ∧ Keeps W w') := HB2
    clear HB HB2 HN q
    subst q0
    go_enter Try.func5, Try.ntmps5
    go_wp2_with (first | (refine box35 rfl rfl (e := e) rfl ?_; intro w1 eb hBe hke hle hge) | (refine load35 rfl rfl eb rfl (e := e) hBe ?_))
    have HE1 : Hid (CBox eb (EC e) w1) := hBe
    have HK1 : Hid (Keeps w w1) := hke
    clear hBe hke hle hge
    refine (HW.out w1).mono ?_
    rintro y w2 ⟨rfl, hb⟩
    have HK2 : Hid (Keeps w w2) := HK1.out.trans hb
    have HE2 : Hid (CBox eb (EC e) w2) := HE1.out.keep hb (Nat.le_of_ble_eq_true rfl)
    clear hb HK1 HE1 HW
    go_wp2_with (first | (refine load35 rfl rfl eb rfl (e := e) HE2.out ?_))
    refine (HX.out w2).mono ?_
    rintro y w3 ⟨rfl, hb⟩
    have HK3 : Hid (Keeps w w3) := HK2.out.trans hb
    have HE3 : Hid (CBox eb (EC e) w3) := HE2.out.keep hb (Nat.le_of_ble_eq_true rfl)
    clear hb HK2 HE2 HX
    go_wp2_with (first | (refine load35 rfl rfl eb rfl (e := e) HE3.out ?_))
    refine (HBn.out w3).mono ?_
    rintro y w4 ⟨rfl, hb⟩
    have HK4 : Hid (Keeps w w4) := HK3.out.trans hb
    clear hb HK3 HE3 HBn
    go_wp2_with fail
    refine (HP.out w4).mono ?_
    rintro y w5 ⟨v5, h5, rfl, hb⟩
    have HK5 : Hid (Keeps w w5) := HK4.out.trans hb
    have HL5 : Hid (EntsAt w5 v5 RL) := h5
    clear hb h5 HK4 HP
    go_wp2_with fail
    refine (HQ.out w5).mono ?_
    rintro y w6 ⟨v6, h6, rfl, hb⟩
    have HK6 : Hid (Keeps w w6) := HK5.out.trans hb
    have HL6 : Hid (EntsAt w6 v5 RL ∧ EntsAt w6 v6 RL) := ⟨HL5.out.keep hb, h6⟩
    clear hb h6 HK5 HL5 HQ
    go_wp2_with fail
    refine (log_begun w6).mono ?_
    rintro y w7 ⟨rfl, hb⟩
    have HK7 : Hid (Keeps w w7) := HK6.out.trans hb
    have HL7 : Hid (EntsAt w7 v5 RL ∧ EntsAt w7 v6 RL) := ⟨HL6.out.1.keep hb, HL6.out.2.keep hb⟩
    clear hb HK6 HL6
    go_wp2_with fail
    refine (sameEnts_c RL RL v5 v6 w7 HL7.out.1 HL7.out.2).mono ?_
    rintro y w8 ⟨rfl, hb⟩
    rw [sameEnts_self]
    have HK8 : Hid (Keeps w w8) := HK7.out.trans hb
    clear hb HK7 HL7
    go_wp2_with fail
    go_ret
    exact ⟨rfl, HK8.out⟩
  | false =>
    have q0 : ¬ er = 0 := by simpa using q
    have hbs := HN.out q0
    clear HB HN q0
    subst hbs
    have hnil : (bt []).toList = [] := bt_list []
    go_enter Try.func5, Try.ntmps5
    go_wp2_with (first | (refine box35 rfl rfl (e := e) rfl ?_; intro w1 eb hBe hke hle hge) | (refine load35 rfl rfl eb rfl (e := e) hBe ?_))
    have HE1 : Hid (CBox eb (EC e) w1) := hBe
    have HK1 : Hid (Keeps w w1) := hke
    clear hBe hke hle hge
    refine (HW.out w1).mono ?_
    rintro y w2 ⟨rfl, hb⟩
    have HK2 : Hid (Keeps w w2) := HK1.out.trans hb
    have HE2 : Hid (CBox eb (EC e) w2) := HE1.out.keep hb (Nat.le_of_ble_eq_true rfl)
    clear hb HK1 HE1 HW
    go_wp2_with (first | (refine load35 rfl rfl eb rfl (e := e) HE2.out ?_))
    refine (HX.out w2).mono ?_
    rintro y w4 ⟨rfl, hb⟩
    have HK4 : Hid (Keeps w w4) := HK2.out.trans hb
    clear hb HK2 HE2 HX
    go_wp2_with fail
    refine (HP.out w4).mono ?_
    rintro y w5 ⟨v5, h5, rfl, hb⟩
    have HK5 : Hid (Keeps w w5) := HK4.out.trans hb
    have HL5 : Hid (EntsAt w5 v5 RL) := h5
    clear hb h5 HK4 HP
    go_wp2_with fail
    refine (HQ.out w5).mono ?_
    rintro y w6 ⟨v6, h6, rfl, hb⟩
    have HK6 : Hid (Keeps w w6) := HK5.out.trans hb
    have HL6 : Hid (EntsAt w6 v5 RL ∧ EntsAt w6 v6 RL) := ⟨HL5.out.keep hb, h6⟩
    clear hb h6 HK5 HL5 HQ
    go_wp2_with fail
    refine (log_begun w6).mono ?_
    rintro y w7 ⟨rfl, hb⟩
    have HK7 : Hid (Keeps w w7) := HK6.out.trans hb
    have HL7 : Hid (EntsAt w7 v5 RL ∧ EntsAt w7 v6 RL) := ⟨HL6.out.1.keep hb, HL6.out.2.keep hb⟩
    clear hb HK6 HL6
    go_wp2_with fail
    refine (sameEnts_c RL RL v5 v6 w7 HL7.out.1 HL7.out.2).mono ?_
    rintro y w8 ⟨rfl, hb⟩
    rw [sameEnts_self]
    have HK8 : Hid (Keeps w w8) := HK7.out.trans hb
    clear hb HK7 HL7
    go_wp2_with fail
    go_ret
    exact ⟨rfl, HK8.out⟩
end Go.Proofs.Yteabfjpajgakiaf

/- The arguments of a law: a table of sessions, a session. -/
set_option linter.unusedSimpArgs false
set_option linter.unusedVariables false
set_option maxRecDepth 100000
namespace Go.Proofs.Yteabfjpajgakiaf
open Go.ChangeShapes Go.WideShapes Go.ChangeAt Go.RowKit Go.Joins Go.Deep

section
variable {H : Type} {enc : TypeId × Value → H} {w : World} {base : Nat} {spare : Nat → Bool} {held : Bool}

instance : Inhabited Ses := ⟨⟨0, 0, 0, []⟩⟩

end

end Go.Proofs.Yteabfjpajgakiaf
