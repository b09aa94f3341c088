/- ChN, StS, FoI, PaA, OpenLg, Apart, PaB, Bools, ApQ1, OpF. -/
import Derived.Test.YteabfjpajgakiagGreatJ00
import Derived.Test.YteabfjpajgakiagGreatJ01
import Derived.Test.YteabfjpajgakiagGreatJ04
import Derived.Test.YteabfjpajgakiagGreatJ10
import Derived.Test.YteabfjpajgakiagGreatJ12
import Derived.Test.YteabfjpajgakiagGreatJ14
/- choose: which of n things a raw number speaks of. -/
set_option linter.unusedSimpArgs false
set_option linter.unusedVariables false
set_option maxRecDepth 10000
namespace Go.Proofs.YteabfjpajgakiagGreat
open Go.RowKit

end Go.Proofs.YteabfjpajgakiagGreat

/- Two states are the same just if they are one. -/
namespace Go.Proofs.YteabfjpajgakiagGreat
open Go.RowKit

theorem same_kept_iff : ∀ {l m : List (Int × Int)}, sameKept l m = true ↔ l = m
  | [], [] => by simp [sameKept]
  | [], _ :: _ => by simp [sameKept]
  | _ :: _, [] => by simp [sameKept]
  | (q, v) :: r, (q', v') :: r' => by simp [sameKept, same_kept_iff (l := r) (m := r')]
theorem same_ses_iff {s t : Ses} : sameSes s t = true ↔ s = t := by
  obtain ⟨a, b, c, d⟩ := s
  obtain ⟨a', b', c', d'⟩ := t
  simp [sameSes, same_kept_iff]
theorem same_tab_iff : ∀ {L M : List Ses}, sameTab L M = true ↔ L = M
  | [], [] => by simp [sameTab]
  | [], _ :: _ => by simp [sameTab]
  | _ :: _, [] => by simp [sameTab]
  | s :: r, t :: r' => by simp [sameTab, same_ses_iff, same_tab_iff (L := r) (M := r')]
theorem same_st_iff {s t : St} : sameSt s t = true ↔ s = t := by
  obtain ⟨a, b, c, d, e, f, g⟩ := s
  obtain ⟨a', b', c', d', e', f', g'⟩ := t
  simp [sameSt, sameVals, same_tab_iff, and_assoc]
theorem same_self (t : St) : sameSt t t = true := same_st_iff.2 rfl
end Go.Proofs.YteabfjpajgakiagGreat

/- FoldSplit: the walk. -/
set_option linter.unusedSimpArgs false
set_option linter.unusedVariables false
set_option maxRecDepth 10000
namespace Go.Proofs.YteabfjpajgakiagGreat
open Go.RowKit

theorem addr_add (a : Addr) (n i : Nat) : (a.add n).add i = a.add (n + i) := by
  obtain ⟨b, o, sp⟩ := a
  rcases Nat.eq_zero_or_pos n with h0 | h0
  · subst h0
    rw [Nat.zero_add]
    rfl
  · have h2 : n ≠ 0 := by omega
    have h3 : n + i ≠ 0 := by omega
    rcases Nat.eq_zero_or_pos i with h4 | h4
    · subst h4
      rfl
    · have h5 : i ≠ 0 := by omega
      simp only [Addr.add, h2, h3, h5, if_false, Nat.add_assoc]

theorem ents_prefix {w : World} {oa : Option Addr} {oc j : Nat} {l : List Ent} (h : EntsAt w (.slice oa l.length oc) l) (hj : j ≤ l.length) : EntsAt w (.slice oa j oc) (l.take j) := by
  obtain ⟨h1, h2, h3⟩ := h
  have hl : (l.take j).length = j := by simp; omega
  refine ⟨by rw [entCells_len], by rw [hl]; omega, ?_⟩
  rcases h3 with ⟨e, hn⟩ | ⟨a, cap, e, h3⟩
  · injection e with e1 e2 e3
    subst e1 e3
    left
    have : j = 0 := by omega
    subst this
    exact ⟨rfl, by simp⟩
  · injection e with e1 e2 e3
    subst e1
    right
    refine ⟨a, oc, by rw [hl], fun i u hu => ?_⟩
    rw [← entCells_take, List.getElem?_take] at hu
    split at hu
    · exact h3 i u hu
    · cases hu
theorem ents_suffix {w : World} {oa : Option Addr} {oc j : Nat} {l : List Ent} (h : EntsAt w (.slice oa l.length oc) l) (hj : j ≤ l.length) (hc : l.length ≤ oc) : EntsAt w (.slice (if oc = j then oa else oa.map (·.add (j * 9))) (l.length - j) (oc - j)) (l.drop j) := by
  obtain ⟨h1, h2, h3⟩ := h
  have hl : (l.drop j).length = l.length - j := by simp
  refine ⟨by rw [entCells_len], by rw [hl]; omega, ?_⟩
  rcases h3 with ⟨e, hn⟩ | ⟨a, cap, e, h3⟩
  · injection e with e1 e2 e3
    subst e1 e3
    left
    have : j = 0 := by omega
    subst this
    rw [hl, hn]
    exact ⟨rfl, rfl⟩
  · injection e with e1 e2 e3
    subst e1
    right
    by_cases hcj : oc = j
    · refine ⟨a, oc - j, by rw [if_pos hcj, hl], fun i u hu => ?_⟩
      rw [List.drop_of_length_le (by omega)] at hu
      simp [entCells] at hu
    · refine ⟨a.add (j * 9), oc - j, by rw [if_neg hcj, hl]; rfl, fun i u hu => ?_⟩
      rw [← entCells_drop, List.getElem?_drop] at hu
      rw [addr_add]
      exact h3 _ u hu

/-- In how many goes entries are applied. -/
theorem split_right {s : St} {L : List Ent} (h : foldErr s L = 0) (k : Nat) : foldErr s (L.take k) = 0 ∧ foldErr (runSt s (L.take k)) (L.drop k) = 0 ∧ stErr (runSt s L) = 0 := by
  obtain ⟨h1, h2, h3⟩ := fold_right h
  have hb := (stErr_bounds h1).1
  have ht : ∀ e ∈ L.take k, entErr e = 0 := fun e he => h2 e (List.mem_of_mem_take he)
  have hd : ∀ e ∈ L.drop k, entErr e = 0 := fun e he => h2 e (List.mem_of_mem_drop he)
  have lt : (L.take k).length ≤ L.length := by simp; omega
  have ld : (L.take k).length + (L.drop k).length = L.length := by simp; omega
  have r1 := run_right h1 ht (by omega)
  have mk : ∀ {t : St} {M : List Ent}, stErr t = 0 → (∀ e ∈ M, entErr e = 0) → t.at_ + M.length ≤ 50 → foldErr t M = 0 := by
    intro t M a b c
    have hb := (stErr_bounds a).1
    have hl : listErr M = 0 := by unfold listErr; rw [if_neg (by omega)]; exact fent_zero.2 b
    simp only [foldErr, a, hl, beq_self_eq_true, if_true]
    rw [if_neg (by omega)]
  exact ⟨mk h1 ht (by omega), mk r1.1 hd (by rw [r1.2]; omega), (run_right h1 h2 h3).1⟩
end Go.Proofs.YteabfjpajgakiagGreat

/- Logs in memory; pack.all, Check, behind, End. -/
set_option linter.unusedSimpArgs false
set_option linter.unusedVariables false
set_option maxRecDepth 10000
namespace Go.Proofs.YteabfjpajgakiagGreat
open Go.RowKit

structure Lg where
  base : St
  tail : List Ent

abbrev lgV (l : Lg) (x t : Value) : Value := .agg #[.int .i64 l.base.at_, .int .i64 l.base.clock, .int .i64 l.base.v0, .int .i64 l.base.v1, .int .i64 l.base.v2, .int .i64 l.base.v3, x, t]
def zeroLg : Lg := ⟨zeroSt, []⟩
def lgErr (l : Lg) : Int := foldErr l.base l.tail

/-- A log's variable. -/
structure LgBox (b : Nat) (l : Lg) (x t : Value) (w : World) : Prop where
  c0 : w.cell? ⟨b, 0, none⟩ = some (.int .i64 l.base.at_)
  c1 : w.cell? ⟨b, 1, none⟩ = some (.int .i64 l.base.clock)
  c2 : w.cell? ⟨b, 2, none⟩ = some (.int .i64 l.base.v0)
  c3 : w.cell? ⟨b, 3, none⟩ = some (.int .i64 l.base.v1)
  c4 : w.cell? ⟨b, 4, none⟩ = some (.int .i64 l.base.v2)
  c5 : w.cell? ⟨b, 5, none⟩ = some (.int .i64 l.base.v3)
  c6 : w.cell? ⟨b, 6, none⟩ = some x
  c7 : w.cell? ⟨b, 7, none⟩ = some t
  fz : ∀ i, w.frozen? ⟨b, i, none⟩ = false
theorem LgBox.lt {b : Nat} {l : Lg} {x t : Value} {w : World} (h : LgBox b l x t w) : b < w.heap.size := World.block_lt_of_cell? _ _ h.c0
theorem LgBox.same {b : Nat} {l : Lg} {x t : Value} {w w' : World} (h : LgBox b l x t w) (hb : w'.heap[b]? = w.heap[b]?) : LgBox b l x t w' := by
  have hc : ∀ i, w'.cell? ⟨b, i, none⟩ = w.cell? ⟨b, i, none⟩ := fun i => World.cell?_of_block hb
  exact ⟨(hc _).trans h.c0, (hc _).trans h.c1, (hc _).trans h.c2, (hc _).trans h.c3, (hc _).trans h.c4, (hc _).trans h.c5, (hc _).trans h.c6, (hc _).trans h.c7, fun i => (World.frozen?_of_block hb).trans (h.fz i)⟩
theorem LgBox.keep {b : Nat} {l : Lg} {x t : Value} {w w' : World} (h : LgBox b l x t w) (hk : Keeps w w') : LgBox b l x t w' := h.same (hk.block b h.lt)
theorem LgBox.other {b b' : Nat} {l : Lg} {x t : Value} {w w' : World} (h : LgBox b l x t w) (hk : But b' w w') (hb : b ≠ b') : LgBox b l x t w' := h.same (hk.block b h.lt hb)
theorem LgBox.new (w : World) (l : Lg) (x t : Value) (hx : x.cells = #[x]) (ht : t.cells = #[t]) (ty : TypeId) : LgBox w.heap.size l x t (w.alloc (.cells #[.int .i64 l.base.at_, .int .i64 l.base.clock, .int .i64 l.base.v0, .int .i64 l.base.v1, .int .i64 l.base.v2, .int .i64 l.base.v3, x, t] ty)) :=
  ⟨by simp [go_sem], by simp [go_sem], by simp [go_sem], by simp [go_sem], by simp [go_sem], by simp [go_sem], by simp [go_sem], by simp [go_sem], fun i => by simp [go_sem]⟩
theorem But.lgputs (b : Nat) (w : World) (l : Lg) (x t : Value) : But b w ((((((((w.setCell ⟨b, 0, none⟩ (.int .i64 l.base.at_)).setCell ⟨b, 1, none⟩ (.int .i64 l.base.clock)).setCell ⟨b, 2, none⟩ (.int .i64 l.base.v0)).setCell ⟨b, 3, none⟩ (.int .i64 l.base.v1)).setCell ⟨b, 4, none⟩ (.int .i64 l.base.v2)).setCell ⟨b, 5, none⟩ (.int .i64 l.base.v3)).setCell ⟨b, 6, none⟩ (x)).setCell ⟨b, 7, none⟩ (t)) := ((((((((But.refl _ _).set 0 _).set 1 _).set 2 _).set 3 _).set 4 _).set 5 _).set 6 _).set 7 _
theorem LgBox.put {b : Nat} {k : Lg} {y u : Value} {w : World} (h : LgBox b k y u w) (l : Lg) (x t : Value) : LgBox b l x t ((((((((w.setCell ⟨b, 0, none⟩ (.int .i64 l.base.at_)).setCell ⟨b, 1, none⟩ (.int .i64 l.base.clock)).setCell ⟨b, 2, none⟩ (.int .i64 l.base.v0)).setCell ⟨b, 3, none⟩ (.int .i64 l.base.v1)).setCell ⟨b, 4, none⟩ (.int .i64 l.base.v2)).setCell ⟨b, 5, none⟩ (.int .i64 l.base.v3)).setCell ⟨b, 6, none⟩ (x)).setCell ⟨b, 7, none⟩ (t)) := by
  have c0 := h.c0
  have c1 := h.c1
  have c2 := h.c2
  have c3 := h.c3
  have c4 := h.c4
  have c5 := h.c5
  have c6 := h.c6
  have c7 := h.c7
  have fz := h.fz
  refine ⟨?_, ?_, ?_, ?_, ?_, ?_, ?_, ?_, fun i => by simp [go_sem, fz]⟩ <;> simp [go_sem, c0, c1, c2, c3, c4, c5, c6, c7]

theorem pack_all (l : Lg) (x : Value) (ta : Option Addr) (tc : Nat) (w : World) (h0 : 0 ≤ l.base.at_) (h1 : l.base.at_ ≤ 50) (h2 : l.tail.length ≤ 50) : Calls Tryz.prog 50 #[lgV l x (.slice ta l.tail.length tc)] w fun y w' => y = .returned (.int .i64 (l.base.at_ + l.tail.length)) ∧ Keeps w w' := by
  go_enter Tryz.func50, Tryz.ntmps50
  go_wp2_with fail
  go_ret
  exact ⟨rfl, (Keeps.refl _).alloc _⟩

set_option maxHeartbeats 2000000 in
theorem pack_check (l : Lg) (x t : Value) (w : World) (hT : TabAt w x l.base.tab) (hL : EntsAt w t l.tail) : Calls Tryz.prog 29 #[lgV l x t] w fun y w' => y = .returned (.int .i64 (lgErr l)) ∧ Keeps w w' := by
  obtain ⟨xa, xc, rfl, _⟩ := hT.len
  obtain ⟨ta, tc, rfl, hlen⟩ := hL.len
  unfold maxLen at hlen
  have HE : Hid (lgErr l = if stErr l.base == 0 then (if listErr l.tail == 0 then (if 50 < l.base.at_ + l.tail.length then 2 else 0) else listErr l.tail) else stErr l.base) := rfl
  have HT : Hid (TabAt w (.slice xa l.base.tab.length xc) l.base.tab) := hT
  have HL : Hid (EntsAt w (.slice ta l.tail.length tc) l.tail) := hL
  have HB : Hid (stErr l.base = 0 → (0 ≤ l.base.at_ ∧ l.base.at_ ≤ 50) ∧ (0 ≤ l.base.clock ∧ l.base.clock ≤ 999)) := stErr_bounds
  have HC : Hid (listErr l.tail = 0 → l.tail.length ≤ 50) := by
    intro h
    unfold listErr at h
    split at h
    · cases h
    · omega
  clear hT hL
  go_enter Tryz.func29, Tryz.ntmps29
  go_wp2_with fail
  obtain ⟨W1, hW1⟩ : ∃ W1, W1 = w.alloc (.cells #[.int .i64 l.base.at_, .int .i64 l.base.clock, .int .i64 l.base.v0, .int .i64 l.base.v1, .int .i64 l.base.v2, .int .i64 l.base.v3, .slice xa l.base.tab.length xc, .slice ta l.tail.length tc] 28) := ⟨_, rfl⟩
  have k1 : Keeps w W1 := by rw [hW1]; exact (Keeps.refl _).alloc _
  have B1 : LgBox w.heap.size l (.slice xa l.base.tab.length xc) (.slice ta l.tail.length tc) W1 := by rw [hW1]; exact LgBox.new w l _ _ rfl rfl 28
  rw [← hW1]
  clear hW1
  refine (state_check l.base _ W1 (HT.out.keep k1)).mono ?_
  rintro y w1 ⟨rfl, hb⟩
  have HK1 : Hid (Keeps w w1) := k1.trans hb
  have B2 := B1.keep hb
  have HB2 := (show Hid _ from B2)
  have b0 := B2.c0
  have b1 := B2.c1
  have b2 := B2.c2
  have b3 := B2.c3
  have b4 := B2.c4
  have b5 := B2.c5
  have b6 := B2.c6
  have b7 := B2.c7
  have bl := B2.lt
  clear hb k1 B1 B2
  cases q1 : (stErr l.base == 0) with
  | false =>
    have q1' : (stErr l.base != 0) = true := by simp [bne, q1]
    have HE2 : Hid (lgErr l = stErr l.base) := by show _ = _; rw [HE.out, q1]; rfl
    go_wp2_with fail
    go_ret
    exact ⟨ret_int HE2.out.symm, HK1.out⟩
  | true =>
    have q1' : (stErr l.base != 0) = false := by simp [bne, q1]
    obtain ⟨⟨ba0, ba1⟩, _, _⟩ := HB.out (by simpa using q1)
    go_wp2_with fail
    refine (fold_check l.tail _ w1 (HL.out.keep HK1.out)).mono ?_
    rintro y w2 ⟨rfl, hb⟩
    have HK2 : Hid (Keeps w w2) := HK1.out.trans hb
    have B3 := HB2.out.keep hb
    clear hb b0 b1 b2 b3 b4 b5 b6 b7 bl
    have b0 := B3.c0
    have b1 := B3.c1
    have b2 := B3.c2
    have b3 := B3.c3
    have b4 := B3.c4
    have b5 := B3.c5
    have b6 := B3.c6
    have b7 := B3.c7
    have bl := B3.lt
    clear B3
    cases q2 : (listErr l.tail == 0) with
    | false =>
      have q2' : (listErr l.tail != 0) = true := by simp [bne, q2]
      have HE2 : Hid (lgErr l = listErr l.tail) := by show _ = _; rw [HE.out, q1, q2]; rfl
      go_wp2_with fail
      go_ret
      exact ⟨ret_int HE2.out.symm, HK2.out⟩
    | true =>
      have q2' : (listErr l.tail != 0) = false := by simp [bne, q2]
      have hl50 := HC.out (by simpa using q2)
      go_wp2_with fail
      refine (pack_all l _ ta tc w2 ba0 ba1 hl50).mono ?_
      rintro y w3 ⟨rfl, hb⟩
      have HK3 : Hid (Keeps w w3) := HK2.out.trans hb
      clear hb b0 b1 b2 b3 b4 b5 b6 b7 bl
      by_cases h : 50 < l.base.at_ + l.tail.length
      · have HE2 : Hid (lgErr l = 2) := by show _ = _; rw [HE.out, q1, q2]; simp [h]
        go_wp2_with fail
        go_ret
        exact ⟨ret_int HE2.out.symm, HK3.out⟩
      · have HE2 : Hid (lgErr l = 0) := by show _ = _; rw [HE.out, q1, q2]; simp [h]
        go_wp2_with fail
        go_ret
        exact ⟨ret_int HE2.out.symm, HK3.out⟩

/-- All, of right ones. -/
theorem all_ok {s : St} {L : List Ent} (h : foldErr s L = 0) (x v : Value) (w : World) (hT : TabAt w x s.tab) (hL : EntsAt w v L) :
    Calls Tryz.prog 51 #[stV s x, v] w fun y w' => ∃ qa qc ra rc, Hid (OwnTab w.heap.size w' (.slice qa (runSt s L).tab.length qc) (runSt s L).tab) ∧ Hid (w'.ownsRow w.heap.size 3 1 (.slice ra (runAns s L).length rc) (runAns s L).length (intCells (runAns s L))) ∧ y = .returned (.tuple #[stV (runSt s L) (.slice qa (runSt s L).tab.length qc), .slice ra (runAns s L).length rc, .int .i64 0]) ∧ Keeps w w' := by
  refine (fold_all s L x v w hT hL).mono ?_
  rintro y w' ⟨x', av, ho, hr, rfl, hb⟩
  have e1 : allSt s L = runSt s L := by simp [allSt, h]
  have e2 : allAns s L = runAns s L := by simp [allAns, h]
  rw [e1] at ho
  rw [e2] at hr
  obtain ⟨qa, qc, rfl, _⟩ := ho.tab.len
  obtain ⟨ra, rc, hra, _⟩ := (RowAt.of_owns hr).len
  subst hra
  rw [e1, h]
  exact ⟨qa, qc, ra, rc, ho, hr, rfl, hb⟩

set_option maxHeartbeats 4000000 in
theorem pack_behind (l : Lg) (n : Nat) (x : Value) (ta : Option Addr) (tc : Nat) (w : World) (hT : TabAt w x l.base.tab) (hL : EntsAt w (.slice ta l.tail.length tc) l.tail) (hr : lgErr l = 0) (hn : n ≤ l.tail.length) (hcap : l.tail.length ≤ tc) :
    Calls Tryz.prog 30 #[lgV l x (.slice ta l.tail.length tc), .int .i64 n] w fun y w' => ∃ qa qc, OwnTab w.heap.size w' (.slice qa (runSt l.base (l.tail.take n)).tab.length qc) (runSt l.base (l.tail.take n)).tab ∧ y = .returned (stV (runSt l.base (l.tail.take n)) (.slice qa (runSt l.base (l.tail.take n)).tab.length qc)) ∧ Keeps w w' := by
  obtain ⟨xa, xc, rfl, _⟩ := hT.len
  have HT : Hid (TabAt w (.slice xa l.base.tab.length xc) l.base.tab) := hT
  have HL : Hid (EntsAt w (.slice ta l.tail.length tc) l.tail) := hL
  have hlen := hL.2.1
  unfold maxLen at hlen
  have hnl : (n : Int) ≤ (l.tail.length : Int) := by omega
  have hnc : (n : Int) ≤ (tc : Int) := by omega
  have HF : Hid (foldErr l.base (l.tail.take n) = 0) := (split_right hr n).1
  have hz9 : ∀ w, (Go.sizeOf 35).run Tryz.prog w = .ok 9 w := fun _ => by kernel_rfl
  obtain ⟨r, hr'⟩ : ∃ r, r = runSt l.base (l.tail.take n) := ⟨_, rfl⟩
  obtain ⟨rn, hrn⟩ : ∃ rn, rn = runAns l.base (l.tail.take n) := ⟨_, rfl⟩
  rw [← hr']
  have HR : Hid (r = runSt l.base (l.tail.take n)) := hr'
  have HRN : Hid (rn = runAns l.base (l.tail.take n)) := hrn
  clear hT hL hr hr' hrn
  go_enter Tryz.func30, Tryz.ntmps30
  go_wp2_with fail
  obtain ⟨W1, hW1⟩ : ∃ W1, W1 = (w.alloc (.cells #[.int .i64 l.base.at_, .int .i64 l.base.clock, .int .i64 l.base.v0, .int .i64 l.base.v1, .int .i64 l.base.v2, .int .i64 l.base.v3, .slice xa l.base.tab.length xc, .slice ta l.tail.length tc] 28)).alloc (.cells #[.int .i64 0, .int .i64 0, .int .i64 0, .int .i64 0, .int .i64 0, .int .i64 0, .slice none 0 0] 25) := ⟨_, rfl⟩
  have k1 : Keeps w W1 := by rw [hW1]; exact ((Keeps.refl _).alloc _).alloc _
  have HB1 : Hid (LgBox w.heap.size l (.slice xa l.base.tab.length xc) (.slice ta l.tail.length tc) W1) := by rw [hW1]; exact (LgBox.new w l _ _ rfl rfl 28).keep ((Keeps.refl _).alloc _)
  have HZ1 : Hid (StBox (w.heap.size + 1) zeroSt (.slice none 0 0) W1) := by
    rw [hW1]
    have := StBox.new (w.alloc (.cells #[.int .i64 l.base.at_, .int .i64 l.base.clock, .int .i64 l.base.v0, .int .i64 l.base.v1, .int .i64 l.base.v2, .int .i64 l.base.v3, .slice xa l.base.tab.length xc, .slice ta l.tail.length tc] 28)) zeroSt (.slice none 0 0) 25
    simp only [World.size_alloc] at this
    exact this
  have HK1 : Hid (Keeps w W1) := k1
  have hz1 : W1.heap.size = w.heap.size + 2 := by rw [hW1]; simp
  have HZ5 : Hid (W1.heap.size = w.heap.size + 2) := hz1
  rw [← hW1]
  clear hW1 k1 hz1
  have HSA : Hid (∀ W, Keeps W1 W → W.cell? ⟨w.heap.size, 0, none⟩ = some (.int .i64 l.base.at_) ∧ W.cell? ⟨w.heap.size, 1, none⟩ = some (.int .i64 l.base.clock) ∧ W.cell? ⟨w.heap.size, 2, none⟩ = some (.int .i64 l.base.v0) ∧ W.cell? ⟨w.heap.size, 3, none⟩ = some (.int .i64 l.base.v1) ∧ W.cell? ⟨w.heap.size, 4, none⟩ = some (.int .i64 l.base.v2) ∧ W.cell? ⟨w.heap.size, 5, none⟩ = some (.int .i64 l.base.v3) ∧ W.cell? ⟨w.heap.size, 6, none⟩ = some (.slice xa l.base.tab.length xc) ∧ W.cell? ⟨w.heap.size, 7, none⟩ = some (.slice ta l.tail.length tc)) := fun W hk => have B := HB1.out.keep hk; ⟨B.c0, B.c1, B.c2, B.c3, B.c4, B.c5, B.c6, B.c7⟩
  have HC : Hid (∀ W, Keeps W1 W → Calls Tryz.prog 51 #[stV l.base (.slice xa l.base.tab.length xc), .slice ta n tc] W fun y w' => ∃ qa qc ra rc, Hid (OwnTab W.heap.size w' (.slice qa r.tab.length qc) r.tab) ∧ Hid (w'.ownsRow W.heap.size 3 1 (.slice ra rn.length rc) rn.length (intCells rn)) ∧ y = .returned (.tuple #[stV r (.slice qa r.tab.length qc), .slice ra rn.length rc, .int .i64 0]) ∧ Keeps W w') := by
    intro W hk
    rw [HR.out, HRN.out]
    exact all_ok HF.out _ _ W (HT.out.keep (HK1.out.trans hk)) (ents_prefix (HL.out.keep (HK1.out.trans hk)) hn)
  clear HF HR HRN HT HL
  go_cut [5] (fun p wc => ∃ qb qa qc, p = .pointer (some ⟨qb, 0, none⟩) ∧ StBox qb r (.slice qa r.tab.length qc) wc ∧ OwnTab W1.heap.size wc (.slice qa r.tab.length qc) r.tab ∧ Keeps W1 wc)
  case first =>
    obtain ⟨V0, hV0⟩ : ∃ z, z = W1.drew := ⟨_, rfl⟩
    have k0 : Keeps W1 V0 := by rw [hV0]; exact (Keeps.refl _).drew
    refine wp_region_held_drew (S := fun W => W.cell? ⟨w.heap.size, 0, none⟩ = some (.int .i64 l.base.at_) ∧ W.cell? ⟨w.heap.size, 1, none⟩ = some (.int .i64 l.base.clock) ∧ W.cell? ⟨w.heap.size, 2, none⟩ = some (.int .i64 l.base.v0) ∧ W.cell? ⟨w.heap.size, 3, none⟩ = some (.int .i64 l.base.v1) ∧ W.cell? ⟨w.heap.size, 4, none⟩ = some (.int .i64 l.base.v2) ∧ W.cell? ⟨w.heap.size, 5, none⟩ = some (.int .i64 l.base.v3) ∧ W.cell? ⟨w.heap.size, 6, none⟩ = some (.slice xa l.base.tab.length xc) ∧ W.cell? ⟨w.heap.size, 7, none⟩ = some (.slice ta l.tail.length tc)) (by kernel_rfl) (HSA.out _ (Keeps.refl _).drew) (fun hS => ?_)
    rw [← hV0] at hS ⊢
    clear hV0
    refine wpAnyH_take (i := 0) (v := .pointer (some ⟨w.heap.size, 0, none⟩)) rfl (by kernel_rfl) (by kernel_rfl) (by kernel_rfl) (fun _ _ _ h => h) (Or.inl ⟨by rfl, ?_⟩) hS ?_
    · intro w hS; go_simp
    refine wpAnyH_take (i := 1) (v := stV l.base (.slice xa l.base.tab.length xc)) rfl (by kernel_rfl) (by kernel_rfl) (by kernel_rfl) (fun _ _ _ h => h) (Or.inl ⟨by rfl, ?_⟩) hS ?_
    · intro w hS; go_simp
    refine wpAnyH_take (i := 2) (v := .pointer (some ⟨w.heap.size, 7, none⟩)) rfl (by kernel_rfl) (by kernel_rfl) (by kernel_rfl) (fun _ _ _ h => h) (Or.inl ⟨by rfl, ?_⟩) hS ?_
    · intro w hS; go_simp
    refine wpAnyH_take (i := 3) (v := .slice ta l.tail.length tc) rfl (by kernel_rfl) (by kernel_rfl) (by kernel_rfl) (fun _ _ _ h => h) (Or.inl ⟨by rfl, ?_⟩) hS ?_
    · intro w hS; go_simp
    refine wpAnyH_take (i := 4) (v := .int .i64 n) rfl (by kernel_rfl) (by kernel_rfl) (by kernel_rfl) (fun _ _ _ h => h) (Or.inl ⟨by rfl, ?_⟩) hS ?_
    · intro w hS; go_simp
    refine wpAnyH_take (i := 5) (v := .slice (if tc = 0 then ta else Option.map (fun x : Addr => x.add 0) ta) n tc) rfl (by kernel_rfl) (by kernel_rfl) (by kernel_rfl) (fun _ _ _ h => h) (Or.inl ⟨by rfl, ?_⟩) hS ?_
    · intro w hS; go_simp
    refine wpAnyH_ready (rs := [6, 11]) (by kernel_rfl) (by simp) ?_
    refine AllReadyH.cons rfl (fun K hK => ?_) (AllReadyH.cons rfl (fun K hK => ?_) (AllReadyH.nil))
    · go_simp
      refine (HC.out V0 k0).mono ?_
      rintro y V1 ⟨qa, qc, ra, rc, HO1, HN1, rfl, hb⟩
      have k1 := k0.trans hb
      go_simp
      refine hK.out _ _ (HSA.out _ k1) (fun hS => ?_)
      clear hK K
      clear hb
      refine wpAnyH_take (i := 7) (v := .tuple #[stV r (.slice qa r.tab.length qc), .slice ra rn.length rc, .int .i64 0]) rfl (by kernel_rfl) (by kernel_rfl) (by kernel_rfl) (fun _ _ _ h => h) (Or.inl ⟨by rfl, ?_⟩) hS ?_
      · intro w hS; go_simp
      refine wpAnyH_take (i := 8) (v := stV r (.slice qa r.tab.length qc)) rfl (by kernel_rfl) (by kernel_rfl) (by kernel_rfl) (fun _ _ _ h => h) (Or.inl ⟨by rfl, ?_⟩) hS ?_
      · intro w hS; go_simp
      refine wpAnyH_take (i := 9) (v := .slice ra rn.length rc) rfl (by kernel_rfl) (by kernel_rfl) (by kernel_rfl) (fun _ _ _ h => h) (Or.inl ⟨by rfl, ?_⟩) hS ?_
      · intro w hS; go_simp
      refine wpAnyH_take (i := 10) (v := .int .i64 0) rfl (by kernel_rfl) (by kernel_rfl) (by kernel_rfl) (fun _ _ _ h => h) (Or.inl ⟨by rfl, ?_⟩) hS ?_
      · intro w hS; go_simp
      refine wpAnyH_ready (rs := [11]) (by kernel_rfl) (by simp) ?_
      refine AllReadyH.cons rfl (fun K hK => ?_) (AllReadyH.nil)
      go_simp
      have hb : Keeps V1 (V1.alloc (.cells #[.int .i64 0, .int .i64 0, .int .i64 0, .int .i64 0, .int .i64 0, .int .i64 0, .slice none 0 0] 25)) := (Keeps.refl _).alloc _
      have HQ2 : Hid (StBox V1.heap.size zeroSt (.slice none 0 0) (V1.alloc (.cells #[.int .i64 0, .int .i64 0, .int .i64 0, .int .i64 0, .int .i64 0, .int .i64 0, .slice none 0 0] 25))) := StBox.new V1 zeroSt (.slice none 0 0) 25
      generalize V1.alloc (.cells #[.int .i64 0, .int .i64 0, .int .i64 0, .int .i64 0, .int .i64 0, .int .i64 0, .slice none 0 0] 25) = V2 at *
      have k2 := k1.trans hb
      refine hK.out _ _ (HSA.out _ k2) (fun hS => ?_)
      clear hK K
      have HTF : Hid (∀ WF, But V1.heap.size V2 WF → OwnTab W1.heap.size WF (.slice qa r.tab.length qc) r.tab) := fun WF hF => (HO1.out.keep (But.to hb (Nat.le_refl _) hF)).base k0.size
      clear hb
      refine wpAnyH_ready (rs := [12]) (by kernel_rfl) (by simp) ?_
      refine AllReadyH.cons rfl (fun K hK => ?_) (AllReadyH.nil)
      have z0 := HQ2.out.c0
      have z1 := HQ2.out.c1
      have z2 := HQ2.out.c2
      have z3 := HQ2.out.c3
      have z4 := HQ2.out.c4
      have z5 := HQ2.out.c5
      have z6 := HQ2.out.c6
      have zf := HQ2.out.fz
      have zl := HQ2.out.lt
      go_simp
      have BP := HQ2.out.put r (.slice qa r.tab.length qc)
      have BT := But.puts (b := V1.heap.size) V2 r (.slice qa r.tab.length qc)
      have KF := But.to k2 k1.size BT
      have HTE := HTF.out _ BT
      obtain ⟨WF, hWF⟩ : ∃ z, z = (((((((V2.setCell ⟨V1.heap.size, 0, none⟩ (.int .i64 r.at_)).setCell ⟨V1.heap.size, 1, none⟩ (.int .i64 r.clock)).setCell ⟨V1.heap.size, 2, none⟩ (.int .i64 r.v0)).setCell ⟨V1.heap.size, 3, none⟩ (.int .i64 r.v1)).setCell ⟨V1.heap.size, 4, none⟩ (.int .i64 r.v2)).setCell ⟨V1.heap.size, 5, none⟩ (.int .i64 r.v3)).setCell ⟨V1.heap.size, 6, none⟩ (.slice qa r.tab.length qc)) := ⟨_, rfl⟩
      rw [← hWF] at BP BT KF HTE ⊢
      clear hWF z0 z1 z2 z3 z4 z5 z6 zf zl
      refine hK.out _ _ (HSA.out _ KF) (fun hS => ?_)
      clear hK K
      refine wpAnyH_take (i := 13) (v := .slice ra rn.length rc) rfl (by kernel_rfl) (by kernel_rfl) (by kernel_rfl) (fun _ _ _ h => h) (Or.inl ⟨by rfl, ?_⟩) hS ?_
      · intro w hS; go_simp
      refine wpAnyH_take (i := 14) (v := .int .i64 0) rfl (by kernel_rfl) (by kernel_rfl) (by kernel_rfl) (fun _ _ _ h => h) (Or.inl ⟨by rfl, ?_⟩) hS ?_
      · intro w hS; go_simp
      refine wpAnyH_done (by kernel_rfl) ?_ _
      go_wp2_with fail
      go_meet
      exact ⟨_, _, _, rfl, BP, HTE, KF⟩
    · go_simp
      have hb : Keeps V0 (V0.alloc (.cells #[.int .i64 0, .int .i64 0, .int .i64 0, .int .i64 0, .int .i64 0, .int .i64 0, .slice none 0 0] 25)) := (Keeps.refl _).alloc _
      have HQ1 : Hid (StBox V0.heap.size zeroSt (.slice none 0 0) (V0.alloc (.cells #[.int .i64 0, .int .i64 0, .int .i64 0, .int .i64 0, .int .i64 0, .int .i64 0, .slice none 0 0] 25))) := StBox.new V0 zeroSt (.slice none 0 0) 25
      generalize V0.alloc (.cells #[.int .i64 0, .int .i64 0, .int .i64 0, .int .i64 0, .int .i64 0, .int .i64 0, .slice none 0 0] 25) = V1 at *
      have k1 := k0.trans hb
      refine hK.out _ _ (HSA.out _ k1) (fun hS => ?_)
      clear hK K
      clear hb
      refine wpAnyH_ready (rs := [6]) (by kernel_rfl) (by simp) ?_
      refine AllReadyH.cons rfl (fun K hK => ?_) (AllReadyH.nil)
      go_simp
      refine (HC.out V1 k1).mono ?_
      rintro y V2 ⟨qa, qc, ra, rc, HO2, HN2, rfl, hb⟩
      have k2 := k1.trans hb
      go_simp
      refine hK.out _ _ (HSA.out _ k2) (fun hS => ?_)
      clear hK K
      have HQ2 : Hid (StBox V0.heap.size zeroSt (.slice none 0 0) V2) := HQ1.out.keep hb
      have HTF : Hid (∀ WF, But V0.heap.size V2 WF → OwnTab W1.heap.size WF (.slice qa r.tab.length qc) r.tab) := fun WF hF => (HO2.out.but (by have := HQ1.out.lt; omega) hF).base (by have := k1.size; omega)
      clear hb
      refine wpAnyH_take (i := 7) (v := .tuple #[stV r (.slice qa r.tab.length qc), .slice ra rn.length rc, .int .i64 0]) rfl (by kernel_rfl) (by kernel_rfl) (by kernel_rfl) (fun _ _ _ h => h) (Or.inl ⟨by rfl, ?_⟩) hS ?_
      · intro w hS; go_simp
      refine wpAnyH_take (i := 8) (v := stV r (.slice qa r.tab.length qc)) rfl (by kernel_rfl) (by kernel_rfl) (by kernel_rfl) (fun _ _ _ h => h) (Or.inl ⟨by rfl, ?_⟩) hS ?_
      · intro w hS; go_simp
      refine wpAnyH_take (i := 9) (v := .slice ra rn.length rc) rfl (by kernel_rfl) (by kernel_rfl) (by kernel_rfl) (fun _ _ _ h => h) (Or.inl ⟨by rfl, ?_⟩) hS ?_
      · intro w hS; go_simp
      refine wpAnyH_take (i := 10) (v := .int .i64 0) rfl (by kernel_rfl) (by kernel_rfl) (by kernel_rfl) (fun _ _ _ h => h) (Or.inl ⟨by rfl, ?_⟩) hS ?_
      · intro w hS; go_simp
      refine wpAnyH_ready (rs := [12]) (by kernel_rfl) (by simp) ?_
      refine AllReadyH.cons rfl (fun K hK => ?_) (AllReadyH.nil)
      have z0 := HQ2.out.c0
      have z1 := HQ2.out.c1
      have z2 := HQ2.out.c2
      have z3 := HQ2.out.c3
      have z4 := HQ2.out.c4
      have z5 := HQ2.out.c5
      have z6 := HQ2.out.c6
      have zf := HQ2.out.fz
      have zl := HQ2.out.lt
      go_simp
      have BP := HQ2.out.put r (.slice qa r.tab.length qc)
      have BT := But.puts (b := V0.heap.size) V2 r (.slice qa r.tab.length qc)
      have KF := But.to k2 k0.size BT
      have HTE := HTF.out _ BT
      obtain ⟨WF, hWF⟩ : ∃ z, z = (((((((V2.setCell ⟨V0.heap.size, 0, none⟩ (.int .i64 r.at_)).setCell ⟨V0.heap.size, 1, none⟩ (.int .i64 r.clock)).setCell ⟨V0.heap.size, 2, none⟩ (.int .i64 r.v0)).setCell ⟨V0.heap.size, 3, none⟩ (.int .i64 r.v1)).setCell ⟨V0.heap.size, 4, none⟩ (.int .i64 r.v2)).setCell ⟨V0.heap.size, 5, none⟩ (.int .i64 r.v3)).setCell ⟨V0.heap.size, 6, none⟩ (.slice qa r.tab.length qc)) := ⟨_, rfl⟩
      rw [← hWF] at BP BT KF HTE ⊢
      clear hWF z0 z1 z2 z3 z4 z5 z6 zf zl
      refine hK.out _ _ (HSA.out _ KF) (fun hS => ?_)
      clear hK K
      refine wpAnyH_take (i := 13) (v := .slice ra rn.length rc) rfl (by kernel_rfl) (by kernel_rfl) (by kernel_rfl) (fun _ _ _ h => h) (Or.inl ⟨by rfl, ?_⟩) hS ?_
      · intro w hS; go_simp
      refine wpAnyH_take (i := 14) (v := .int .i64 0) rfl (by kernel_rfl) (by kernel_rfl) (by kernel_rfl) (fun _ _ _ h => h) (Or.inl ⟨by rfl, ?_⟩) hS ?_
      · intro w hS; go_simp
      refine wpAnyH_done (by kernel_rfl) ?_ _
      go_wp2_with fail
      go_meet
      exact ⟨_, _, _, rfl, BP, HTE, KF⟩
  case rest =>
    obtain ⟨qb, qa, qc, rfl, hQ, hO, hkc⟩ := hcut
    have hZ := HZ1.out.keep hkc
    have HO : Hid (OwnTab W1.heap.size wc (.slice qa r.tab.length qc) r.tab) := hO
    have HKc : Hid (Keeps w wc) := HK1.out.trans hkc
    have q0 := hQ.c0
    have q1 := hQ.c1
    have q2 := hQ.c2
    have q3 := hQ.c3
    have q4 := hQ.c4
    have q5 := hQ.c5
    have q6 := hQ.c6
    have ql := hQ.lt
    have z0 := hZ.c0
    have z1 := hZ.c1
    have z2 := hZ.c2
    have z3 := hZ.c3
    have z4 := hZ.c4
    have z5 := hZ.c5
    have z6 := hZ.c6
    have zf := hZ.fz
    have zl := hZ.lt
    have BT := But.puts (b := w.heap.size + 1) wc r (.slice qa r.tab.length qc)
    have HBT := (show Hid _ from BT)
    clear hQ hO hZ hkc HSA HC BT
    go_wp2_with fail
    refine bodyPost_ret (v := stV r (.slice qa r.tab.length qc)) ?_ rfl ?_
    · simp [results, Tryz.results30, go_sem, z0, z1, z2, z3, z4, z5, z6]
    · have hz5 := HZ5.out
      exact ⟨qa, qc, (HO.out.but (by omega) HBT.out).base (by omega), rfl, But.to HKc.out (by omega) HBT.out⟩
end Go.Proofs.YteabfjpajgakiagGreat

/- The arguments of a law: a log. -/
set_option linter.unusedSimpArgs false
set_option linter.unusedVariables false
set_option maxRecDepth 100000
namespace Go.Proofs.YteabfjpajgakiagGreat
open Go.ChangeShapes Go.WideShapes Go.ChangeAt Go.RowKit Go.Joins Go.Deep

section
variable {H : Type} {enc : TypeId × Value → H} {w : World} {base : Nat} {spare : Nat → Bool} {held : Bool}

/-- The cells of a state. -/
theorem st_cells {n : Nat} {c0 c1 c2 c3 c4 c5 c6 : Value} {y : DataW H × List MemPlace} (h : DataW.trod enc Tryz.prog w base spare held n 25 [c0, c1, c2, c3, c4, c5, c6] = some y) :
    ∃ s : St, c0 = .int .i64 s.at_ ∧ c1 = .int .i64 s.clock ∧ c2 = .int .i64 s.v0 ∧ c3 = .int .i64 s.v1 ∧ c4 = .int .i64 s.v2 ∧ c5 = .int .i64 s.v3 ∧ TabAt w c6 s.tab := by
  obtain ⟨y0, y1, y2, y3, n', _, _, g0, g1, g2, g3⟩ := trod_struct4 Tryz.underlying25 h
  simp only [cells3, cellsArr, cellsTab, Value.cells, List.drop_zero, List.drop_succ_cons, List.take_succ_cons, List.take_zero] at g0 g1 g2 g3
  obtain ⟨a0, rfl⟩ := one_int g0
  obtain ⟨a1, rfl⟩ := one_int g1
  obtain ⟨xs, m, _, _, _, hlen, hi⟩ := DataW.trod_array Tryz.underlying22 g2
  simp only [cells3] at hi
  have e : ∀ i (hi' : i < 4), ∃ y, xs[i]? = some y := fun i h' => ⟨xs[i]'(by omega), by rw [List.getElem?_eq_getElem]⟩
  obtain ⟨z0, e0⟩ := e 0 (by decide)
  obtain ⟨z1, e1⟩ := e 1 (by decide)
  obtain ⟨z2, e2⟩ := e 2 (by decide)
  obtain ⟨z3, e3⟩ := e 3 (by decide)
  obtain ⟨b0, rfl⟩ := one_int ((hi 0 (by decide)).trans e0)
  obtain ⟨b1, rfl⟩ := one_int ((hi 1 (by decide)).trans e1)
  obtain ⟨b2, rfl⟩ := one_int ((hi 2 (by decide)).trans e2)
  obtain ⟨b3, rfl⟩ := one_int ((hi 3 (by decide)).trans e3)
  obtain ⟨L, hL⟩ := open_tabc g3
  exact ⟨⟨a0, a1, b0, b1, b2, b3, L⟩, rfl, rfl, rfl, rfl, rfl, rfl, hL⟩

/-- A list of entries in a cell. -/
theorem ents_cell {n : Nat} {v : Value} {y : DataW H × List MemPlace} (h : DataW.trod enc Tryz.prog w base spare held n 26 [v] = some y) : ∃ L a c, v = .slice a L.length c ∧ EntsAt w v L ∧ L.length ≤ c := by
  rcases open_slice Tryz.underlying26 h with ⟨h0, _⟩ | ⟨a, vl, vc, m, k, D, Pl, hv', hcp, hl, hm, hmm, _, hx⟩
  · obtain rfl : v = .slice none 0 0 := by simpa using h0
    exact ⟨[], none, 0, rfl, ⟨rfl, by unfold maxLen; simp, .inl ⟨rfl, rfl⟩⟩, Nat.le_refl _⟩
  · obtain rfl : v = .slice (some a) vl vc := by simpa using hv'
    have hlm : vl ≤ m := by rw [hmm]; split <;> omega
    have each : ∀ i, i < vl → ∃ e : Ent, ∀ c, c < 9 → w.cell? (a.add (i * 9 + c)) = [Value.int .i64 e.kind, .int .i64 e.time, .int .i64 e.client, .int .i64 e.seq, .int .i64 e.ack, .int .i64 e.ok, .int .i64 e.okey, .int .i64 e.oto, .int .i64 e.on][c]? := by
      intro i hi
      obtain ⟨cs', h1, h2⟩ := hx i (by omega)
      rw [cellsEnt] at h1
      obtain ⟨_, hlen, hcell⟩ := World.cells?_some h1
      match cs', hlen with
      | [v0, v1, v2, v3, v4, v5, v6, v7, v8], _ =>
        obtain ⟨e, rfl, rfl, rfl, rfl, rfl, rfl, rfl, rfl, rfl⟩ := ent_cells h2
        refine ⟨e, fun c hc => ?_⟩
        have := hcell c (by omega)
        rw [add_add] at this
        simpa using this
    obtain ⟨q, hq⟩ := choose_lt each
    refine ⟨(List.range vl).map q, some a, vc, by simp, ⟨entCells_len _, by simp; omega, .inr ⟨a, vc, by simp, fun j u hu => ?_⟩⟩, by simp; omega⟩
    have hj : j < vl * 9 := by
      have := (List.getElem?_eq_some_iff.1 hu).1
      rw [entCells_len] at this
      simpa using this
    have hi : j / 9 < vl := by omega
    have e9 := entCells_nine (L := (List.range vl).map q) (i := j / 9) (c := j % 9) (by simpa using hi) (by omega)
    rw [show j / 9 * 9 + j % 9 = j by omega, hu] at e9
    have c9 := hq (j / 9) hi (j % 9) (by omega)
    rw [show j / 9 * 9 + j % 9 = j by omega] at c9
    rw [c9]
    simpa using e9.symm

theorem cellsLg : Tryz.prog.cellsOf 28 = 8 := by kernel_rfl
theorem cellsEs : Tryz.prog.cellsOf 26 = 1 := by kernel_rfl

/-- The cells of a log. -/
theorem lg_cells {n : Nat} {c0 c1 c2 c3 c4 c5 c6 c7 : Value} {y : DataW H × List MemPlace} (h : DataW.trod enc Tryz.prog w base spare held n 28 [c0, c1, c2, c3, c4, c5, c6, c7] = some y) :
    ∃ (l : Lg) (ta : Option Addr) (tc : Nat), c0 = .int .i64 l.base.at_ ∧ c1 = .int .i64 l.base.clock ∧ c2 = .int .i64 l.base.v0 ∧ c3 = .int .i64 l.base.v1 ∧ c4 = .int .i64 l.base.v2 ∧ c5 = .int .i64 l.base.v3 ∧ TabAt w c6 l.base.tab ∧ c7 = .slice ta l.tail.length tc ∧ EntsAt w (.slice ta l.tail.length tc) l.tail ∧ l.tail.length ≤ tc := by
  obtain ⟨xs, m, _, _, _, hlen, hf⟩ := DataW.trod_struct Tryz.underlying28 h
  match xs, hlen with
  | [y0, y1], _ =>
    have g0 := hf 0 _ rfl
    have g1 := hf 1 _ rfl
    simp only [cellsSt, cellsEs, List.drop_zero, List.drop_succ_cons, List.take_succ_cons, List.take_zero, List.getElem?_cons_zero, List.getElem?_cons_succ] at g0 g1
    obtain ⟨s, rfl, rfl, rfl, rfl, rfl, rfl, hT⟩ := st_cells g0
    obtain ⟨L, ta, tc, rfl, hL, hc⟩ := ents_cell g1
    exact ⟨⟨s, L⟩, ta, tc, rfl, rfl, rfl, rfl, rfl, rfl, hT, rfl, hL, hc⟩

end
end Go.Proofs.YteabfjpajgakiagGreat

/- Rows of two types lie in two blocks. -/
set_option linter.unusedSimpArgs false
set_option linter.unusedVariables false
set_option maxRecDepth 10000
namespace Go.Proofs.YteabfjpajgakiagGreat
open Go.RowKit

theorem owns_spared_at {p : Nat → Prop} {m : Nat} {w w' : World} {e : TypeId} {size : Nat} {v : Value} {n : Nat} {xs : List Value} (h : w.ownsRow m e size v n xs) (hs : Spares p w w') (hp : ∀ g, v.ownBlock = some g → p g) : w'.ownsRow m e size v n xs := by
  refine ⟨h.1, ?_⟩
  rcases h.2 with h2 | ⟨g, cap, cur, hv, hg, hc, r⟩
  · exact .inl h2
  · exact .inr ⟨g, cap, cur, hv, hg, (hs.block g (Array.getElem?_eq_some_iff.1 hc).1 (hp g (by rw [hv]; rfl))).trans hc, r⟩

theorem owns_types {w : World} {m m' : Nat} {e e' : TypeId} {size size' : Nat} {v v' : Value} {n n' : Nat} {xs xs' : List Value} (h : w.ownsRow m e size v n xs) (h' : w.ownsRow m' e' size' v' n' xs') (hne : e ≠ e') (g : Nat) (h1 : v.ownBlock = some g) (h2 : v'.ownBlock = some g) : False := by
  rcases h.2 with ⟨hv, _⟩ | ⟨a, cap, cur, hv, _, hc, _⟩
  · rw [hv] at h1; cases h1
  · rcases h'.2 with ⟨hv', _⟩ | ⟨a', cap', cur', hv', _, hc', _⟩
    · rw [hv'] at h2; cases h2
    · rw [hv] at h1
      rw [hv'] at h2
      simp only [Value.ownBlock, Option.some.injEq] at h1 h2
      subst h1
      subst h2
      rw [hc] at hc'
      simp only [Option.some.injEq, Obj.cells.injEq] at hc'
      exact hne hc'.2.1

theorem owns_not {w : World} {m : Nat} {e e' : TypeId} {size : Nat} {v : Value} {n : Nat} {xs : List Value} {g : Nat} {c : Array Value} {f : Nat × Nat} (h : w.ownsRow m e size v n xs) (hb : w.heap[g]? = some (.cells c e' f)) (hne : e ≠ e') : v.ownBlock ≠ some g := by
  intro h1
  rcases h.2 with ⟨hv, _⟩ | ⟨a, cap, cur, hv, _, hc, _⟩
  · rw [hv] at h1; cases h1
  · rw [hv] at h1
    simp only [Value.ownBlock, Option.some.injEq] at h1
    subst h1
    rw [hc] at hb
    simp only [Option.some.injEq, Obj.cells.injEq] at hb
    exact hne hb.2.1

theorem kepts_apart {m m' n size : Nat} {w w' : World} {t : Value} {e : TypeId} {xs : List Value} (ht : w.ownsRow m' e size t n xs) (hne : 73 ≠ e) (hs : Spares (fun g => m ≤ g ∧ g < w.heap.size ∧ ∀ h, t.ownBlock = some h → g ≠ h) w w') : ∀ {L : List Ses} {ks : List Value}, KeptsOwn m w L ks → KeptsOwn m w' L ks
  | [], [], _ => trivial
  | _ :: _, _ :: _, h => ⟨owns_spared_at h.1 hs (fun g hg => ⟨(h.1.lt g hg).1, (h.1.lt g hg).2, fun h' hh e => owns_types h.1 ht hne g hg (e ▸ hh)⟩), kepts_apart ht hne hs h.2⟩

/-- A table of its own, beside a row of another type of its own that is turned. -/
theorem owns_tab_apart {m m' n size : Nat} {w : World} {v t : Value} {L : List Ses} {e : TypeId} {xs : List Value} (h : OwnTab m w v L) (ht : w.ownsRow m' e size t n xs) (h1 : 73 ≠ e) (h2 : 71 ≠ e) (w' : World) (hs : Spares (fun g => m ≤ g ∧ g < w.heap.size ∧ ∀ h, t.ownBlock = some h → g ≠ h) w w') : OwnTab m w' v L := by
  obtain ⟨ks, a, b⟩ := h
  exact ⟨ks, kepts_apart ht h1 hs a, owns_spared_at b hs (fun g hg => ⟨(b.lt g hg).1, (b.lt g hg).2, fun h' hh e => owns_types b ht h2 g hg (e ▸ hh)⟩)⟩
end Go.Proofs.YteabfjpajgakiagGreat

/- twin.Entries, twin.Log; pack.End, Cut, checkBoth, Put. -/
set_option linter.unusedSimpArgs false
set_option linter.unusedVariables false
set_option maxRecDepth 10000
namespace Go.Proofs.YteabfjpajgakiagGreat
open Go.RowKit

theorem twin_entries (L : List Ent) (t : Value) (w : World) (hL : EntsAt w t L) (h50 : L.length ≤ 1000) :
    Calls Tryz.prog 66 #[t] w fun y w' => ∃ ea ec, Hid (w'.ownsRow w.heap.size 35 9 (.slice ea L.length ec) L.length (entCells L)) ∧ L.length ≤ ec ∧ y = .returned (.slice ea L.length ec) ∧ Keeps w w' := by
  obtain ⟨v', w', hr, ho, hg⟩ := run_append_read w w.heap.size 26 26 35 9 72 _ infoEnt Tryz.underlying26 rfl (by decide) (.slice none 0 0) 0 [] (World.ownsRow_nil _ _ _ _) t L.length (entCells L) hL (entCells_one L) (by unfold maxLen; omega) (by omega) (Nat.le_refl _)
  have hk : Keeps w w' := keeps_grown (Keeps.refl _) hg (fun k h => by simp [Value.ownBlock] at h)
  rw [Nat.zero_add, List.nil_append] at ho
  obtain ⟨ea, ec, rfl, _⟩ := (RowAt.of_owns ho).len
  have hec : L.length ≤ ec := by
    rcases ho.2 with ⟨h1, h2⟩ | ⟨g, cap, cur, h1, _, _, h2, _⟩
    · injection h1 with a1 a2 a3
      omega
    · injection h1 with a1 a2 a3
      omega
  have Hr := (show Hid (_ = _) from hr)
  have HO := (show Hid _ from ho)
  have HK : Hid (Keeps w w') := hk
  clear hr ho hg hk hL
  go_enter Tryz.func66, Tryz.ntmps66
  go_wp2_with (at_builtin; refine wpList_append_run rfl _ _ _ rfl rfl rfl Hr.out ?_)
  go_ret
  exact ⟨ea, ec, HO, hec, rfl, HK.out⟩

set_option maxHeartbeats 2000000 in
theorem pack_end (l : Lg) (x : Value) (ta : Option Addr) (tc : Nat) (w : World) (hT : TabAt w x l.base.tab) (hL : EntsAt w (.slice ta l.tail.length tc) l.tail) (hcap : l.tail.length ≤ tc) :
    Calls Tryz.prog 11 #[lgV l x (.slice ta l.tail.length tc)] w fun y w' => ∃ qa qc, OwnTab w.heap.size w' (.slice qa (allSt l.base l.tail).tab.length qc) (allSt l.base l.tail).tab ∧ y = .returned (.tuple #[stV (allSt l.base l.tail) (.slice qa (allSt l.base l.tail).tab.length qc), .int .i64 (lgErr l)]) ∧ Keeps w w' := by
  obtain ⟨xa, xc, rfl, _⟩ := hT.len
  have HT : Hid (TabAt w (.slice xa l.base.tab.length xc) l.base.tab) := hT
  have HL : Hid (EntsAt w (.slice ta l.tail.length tc) l.tail) := hL
  have hlen := hL.2.1
  unfold maxLen at hlen
  clear hT hL
  have HZ : Hid ((lgErr l == 0) = false → allSt l.base l.tail = zeroSt) := fun h => by unfold allSt; unfold lgErr at h; rw [h]; rfl
  have HN : Hid (lgErr l = 0 → allSt l.base l.tail = runSt l.base l.tail) := fun h => by unfold allSt; unfold lgErr at h; rw [h]; rfl
  have HZT : Hid (zeroSt.tab = []) := rfl
  go_enter Tryz.func11, Tryz.ntmps11
  go_wp2_with fail
  obtain ⟨W1, hW1⟩ : ∃ W1, W1 = (w.alloc (.cells #[.int .i64 l.base.at_, .int .i64 l.base.clock, .int .i64 l.base.v0, .int .i64 l.base.v1, .int .i64 l.base.v2, .int .i64 l.base.v3, .slice xa l.base.tab.length xc, .slice ta l.tail.length tc] 28)).alloc (.cells #[.int .i64 0, .int .i64 0, .int .i64 0, .int .i64 0, .int .i64 0, .int .i64 0, .slice none 0 0] 25) := ⟨_, rfl⟩
  have k1 : Keeps w W1 := by rw [hW1]; exact ((Keeps.refl _).alloc _).alloc _
  have B1 : LgBox w.heap.size l (.slice xa l.base.tab.length xc) (.slice ta l.tail.length tc) W1 := by rw [hW1]; exact (LgBox.new w l _ _ rfl rfl 28).keep ((Keeps.refl _).alloc _)
  have Z1 : StBox (w.heap.size + 1) zeroSt (.slice none 0 0) W1 := by
    rw [hW1]
    have := StBox.new (w.alloc (.cells #[.int .i64 l.base.at_, .int .i64 l.base.clock, .int .i64 l.base.v0, .int .i64 l.base.v1, .int .i64 l.base.v2, .int .i64 l.base.v3, .slice xa l.base.tab.length xc, .slice ta l.tail.length tc] 28)) zeroSt (.slice none 0 0) 25
    simp only [World.size_alloc] at this
    exact this
  rw [← hW1]
  clear hW1
  refine (pack_check l _ _ W1 (HT.out.keep k1) (HL.out.keep k1)).mono ?_
  rintro y w1 ⟨rfl, hb⟩
  have HK1 : Hid (Keeps w w1) := k1.trans hb
  have B2 := B1.keep hb
  have HZ1 : Hid (StBox (w.heap.size + 1) zeroSt (.slice none 0 0) w1) := Z1.keep hb
  clear k1 B1 Z1 hb
  clear W1
  cases q1 : (lgErr l == 0) with
  | false =>
    have q1' : (lgErr l != 0) = true := by simp [bne, q1]
    have H1 := (show Hid _ from HZ.out q1)
    have z0 := HZ1.out.c0
    have z1 := HZ1.out.c1
    have z2 := HZ1.out.c2
    have z3 := HZ1.out.c3
    have z4 := HZ1.out.c4
    have z5 := HZ1.out.c5
    have z6 := HZ1.out.c6
    have zf := HZ1.out.fz
    have zl := HZ1.out.lt
    have hk := HK1.out
    go_wp2_with fail
    refine bodyPost_ret (v := .tuple #[stV zeroSt (.slice none 0 0), .int .i64 (lgErr l)]) ?_ rfl ?_
    · simp [results, Tryz.results11, go_sem, zeroSt, z0, z1, z2, z3, z4, z5, z6]
    · rw [H1.out, HZT.out]
      refine ⟨none, 0, OwnTab.nil _ _, rfl, ?_⟩
      repeat refine Keeps.set ?_ (by simp <;> omega) _
      exact hk
  | true =>
    have q1' : (lgErr l != 0) = false := by simp [bne, q1]
    have q0 : lgErr l = 0 := by simpa using q1
    have H1 := (show Hid _ from HN.out q0)
    have HC : Hid (Calls Tryz.prog 30 #[lgV l (.slice xa l.base.tab.length xc) (.slice ta l.tail.length tc), .int .i64 l.tail.length] w1 fun y w' => ∃ qa qc, OwnTab w1.heap.size w' (.slice qa (runSt l.base l.tail).tab.length qc) (runSt l.base l.tail).tab ∧ y = .returned (stV (runSt l.base l.tail) (.slice qa (runSt l.base l.tail).tab.length qc)) ∧ Keeps w1 w') := by
      have := pack_behind l l.tail.length _ ta tc w1 (HT.out.keep HK1.out) (HL.out.keep HK1.out) q0 (Nat.le_refl _) hcap
      rw [List.take_length] at this
      exact this
    have b0 := B2.c0
    have b1 := B2.c1
    have b2 := B2.c2
    have b3 := B2.c3
    have b4 := B2.c4
    have b5 := B2.c5
    have b6 := B2.c6
    have b7 := B2.c7
    have bl := B2.lt
    clear B2
    go_wp2_with fail
    refine HC.out.mono ?_
    rintro y w2 ⟨qa, qc, hO, rfl, hb⟩
    have HO : Hid (OwnTab w1.heap.size w2 (.slice qa (runSt l.base l.tail).tab.length qc) (runSt l.base l.tail).tab) := hO
    have HZ2 : Hid (StBox (w.heap.size + 1) zeroSt (.slice none 0 0) w2) := HZ1.out.keep hb
    have HK2 : Hid (Keeps w w2) := HK1.out.trans hb
    have hz1 := HZ1.out.lt
    clear hO hb HC b0 b1 b2 b3 b4 b5 b6 b7 bl
    have z0 := HZ2.out.c0
    have z1 := HZ2.out.c1
    have z2 := HZ2.out.c2
    have z3 := HZ2.out.c3
    have z4 := HZ2.out.c4
    have z5 := HZ2.out.c5
    have z6 := HZ2.out.c6
    have zf := HZ2.out.fz
    have zl := HZ2.out.lt
    have HBT := (show Hid _ from But.puts (b := w.heap.size + 1) w2 (runSt l.base l.tail) (.slice qa (runSt l.base l.tail).tab.length qc))
    have HBF := (show Hid _ from HZ2.out.put (runSt l.base l.tail) (.slice qa (runSt l.base l.tail).tab.length qc))
    go_wp2_with fail
    have c0 := HBF.out.c0
    have c1 := HBF.out.c1
    have c2 := HBF.out.c2
    have c3 := HBF.out.c3
    have c4 := HBF.out.c4
    have c5 := HBF.out.c5
    have c6 := HBF.out.c6
    refine bodyPost_ret (v := .tuple #[stV (runSt l.base l.tail) (.slice qa (runSt l.base l.tail).tab.length qc), .int .i64 0]) ?_ rfl ?_
    · simp only [results, Tryz.results11, go_sem, c0, c1, c2, c3, c4, c5, c6]
      simp [go_sem, c0, c1, c2, c3, c4, c5, c6]
    · rw [H1.out, q0]
      exact ⟨qa, qc, (HO.out.but (by omega) HBT.out).base (by omega), rfl, But.to HK2.out (by omega) HBT.out⟩

def cutErr (l : Lg) (n : Int) : Int := if lgErr l == 0 then (if inB n 0 l.tail.length then 0 else 3) else lgErr l
def cutLg (l : Lg) (n : Int) : Lg := if cutErr l n == 0 then ⟨runSt l.base (l.tail.take n.toNat), l.tail.drop n.toNat⟩ else zeroLg

set_option maxHeartbeats 4000000 in
theorem pack_cut (l : Lg) (m : Int) (x : Value) (ta : Option Addr) (tc : Nat) (w : World) (hT : TabAt w x l.base.tab) (hL : EntsAt w (.slice ta l.tail.length tc) l.tail) (hcap : l.tail.length ≤ tc) :
    Calls Tryz.prog 47 #[lgV l x (.slice ta l.tail.length tc), .int .i64 m] w fun y w' => ∃ qa qc ea ec, OwnTab w.heap.size w' (.slice qa (cutLg l m).base.tab.length qc) (cutLg l m).base.tab ∧ w'.ownsRow w.heap.size 35 9 (.slice ea (cutLg l m).tail.length ec) (cutLg l m).tail.length (entCells (cutLg l m).tail) ∧ (cutLg l m).tail.length ≤ ec ∧
      y = .returned (.tuple #[lgV (cutLg l m) (.slice qa (cutLg l m).base.tab.length qc) (.slice ea (cutLg l m).tail.length ec), .int .i64 (cutErr l m)]) ∧ Keeps w w' := by
  obtain ⟨xa, xc, rfl, _⟩ := hT.len
  have HT : Hid (TabAt w (.slice xa l.base.tab.length xc) l.base.tab) := hT
  have HL : Hid (EntsAt w (.slice ta l.tail.length tc) l.tail) := hL
  have hlen := hL.2.1
  unfold maxLen at hlen
  clear hT hL
  have HE : Hid (cutErr l m = if lgErr l == 0 then (if inB m 0 l.tail.length then 0 else 3) else lgErr l) := rfl
  have HCZ : Hid ((cutErr l m == 0) = false → cutLg l m = zeroLg) := fun h => by unfold cutLg; rw [h]; rfl
  have HCN : Hid (cutErr l m = 0 → cutLg l m = ⟨runSt l.base (l.tail.take m.toNat), l.tail.drop m.toNat⟩) := fun h => by unfold cutLg; rw [h]; rfl
  have hz9 : ∀ w, (Go.sizeOf 35).run Tryz.prog w = .ok 9 w := fun _ => by kernel_rfl
  go_enter Tryz.func47, Tryz.ntmps47
  go_wp2_with fail
  obtain ⟨W1, hW1⟩ : ∃ W1, W1 = (w.alloc (.cells #[.int .i64 l.base.at_, .int .i64 l.base.clock, .int .i64 l.base.v0, .int .i64 l.base.v1, .int .i64 l.base.v2, .int .i64 l.base.v3, .slice xa l.base.tab.length xc, .slice ta l.tail.length tc] 28)).alloc (.cells #[.int .i64 0, .int .i64 0, .int .i64 0, .int .i64 0, .int .i64 0, .int .i64 0, .slice none 0 0, .slice none 0 0] 28) := ⟨_, rfl⟩
  have k1 : Keeps w W1 := by rw [hW1]; exact ((Keeps.refl _).alloc _).alloc _
  have B1 : LgBox w.heap.size l (.slice xa l.base.tab.length xc) (.slice ta l.tail.length tc) W1 := by rw [hW1]; exact (LgBox.new w l _ _ rfl rfl 28).keep ((Keeps.refl _).alloc _)
  have Z1 : LgBox (w.heap.size + 1) zeroLg (.slice none 0 0) (.slice none 0 0) W1 := by
    rw [hW1]
    have := LgBox.new (w.alloc (.cells #[.int .i64 l.base.at_, .int .i64 l.base.clock, .int .i64 l.base.v0, .int .i64 l.base.v1, .int .i64 l.base.v2, .int .i64 l.base.v3, .slice xa l.base.tab.length xc, .slice ta l.tail.length tc] 28)) zeroLg (.slice none 0 0) (.slice none 0 0) rfl rfl 28
    simp only [World.size_alloc] at this
    exact this
  rw [← hW1]
  clear hW1
  refine (pack_check l _ _ W1 (HT.out.keep k1) (HL.out.keep k1)).mono ?_
  rintro y w1 ⟨rfl, hb⟩
  have HK1 : Hid (Keeps w w1) := k1.trans hb
  have HB1 : Hid (LgBox w.heap.size l (.slice xa l.base.tab.length xc) (.slice ta l.tail.length tc) w1) := B1.keep hb
  have HZ1 : Hid (LgBox (w.heap.size + 1) zeroLg (.slice none 0 0) (.slice none 0 0) w1) := Z1.keep hb
  have HZ5 : Hid (w.heap.size + 1 < w1.heap.size) := HZ1.out.lt
  clear k1 B1 Z1 hb
  clear W1
  cases q1 : (lgErr l == 0) with
  | false =>
    have q1' : (lgErr l != 0) = true := by simp [bne, q1]
    have HE2 : Hid (cutErr l m = lgErr l) := by show _ = _; rw [HE.out, q1]; rfl
    have H1 := (show Hid _ from HCZ.out (by rw [HE2.out]; exact q1))
    have z0 := HZ1.out.c0
    have z1 := HZ1.out.c1
    have z2 := HZ1.out.c2
    have z3 := HZ1.out.c3
    have z4 := HZ1.out.c4
    have z5 := HZ1.out.c5
    have z6 := HZ1.out.c6
    have z7 := HZ1.out.c7
    have zf := HZ1.out.fz
    have zl := HZ1.out.lt
    have hk := HK1.out
    go_wp2_with fail
    refine bodyPost_ret (v := .tuple #[lgV zeroLg (.slice none 0 0) (.slice none 0 0), .int .i64 (lgErr l)]) ?_ rfl ?_
    · simp [results, Tryz.results47, go_sem, zeroLg, zeroSt, z0, z1, z2, z3, z4, z5, z6, z7]
    · rw [HE2.out, H1.out]
      refine ⟨none, 0, none, 0, OwnTab.nil _ _, World.ownsRow_nil _ _ _ _, Nat.le_refl _, rfl, ?_⟩
      repeat refine Keeps.set ?_ (by simp <;> omega) _
      exact hk
  | true =>
    have q1' : (lgErr l != 0) = false := by simp [bne, q1]
    have q0 : lgErr l = 0 := by simpa using q1
    have h50 : l.tail.length ≤ 50 := by have := fold_right q0; have := (stErr_bounds this.1).1; omega
    have b0 := HB1.out.c0
    have b1 := HB1.out.c1
    have b2 := HB1.out.c2
    have b3 := HB1.out.c3
    have b4 := HB1.out.c4
    have b5 := HB1.out.c5
    have b6 := HB1.out.c6
    have b7 := HB1.out.c7
    have bl := HB1.out.lt
    cases q2 : inB m 0 l.tail.length with
    | false =>
      have HE2 : Hid (cutErr l m = 3) := by show _ = _; rw [HE.out, q1, q2]; rfl
      have H1 := (show Hid _ from HCZ.out (by rw [HE2.out]; rfl))
      have z0 := HZ1.out.c0
      have z1 := HZ1.out.c1
      have z2 := HZ1.out.c2
      have z3 := HZ1.out.c3
      have z4 := HZ1.out.c4
      have z5 := HZ1.out.c5
      have z6 := HZ1.out.c6
      have z7 := HZ1.out.c7
      have zf := HZ1.out.fz
      have zl := HZ1.out.lt
      have hk := HK1.out
      go_wp2_with (first | (go_at_call 45; refine (bound_in _ _ _ _).mono ?_; rintro e w' ⟨rfl, rfl⟩))
      refine bodyPost_ret (v := .tuple #[lgV zeroLg (.slice none 0 0) (.slice none 0 0), .int .i64 3]) ?_ rfl ?_
      · simp [results, Tryz.results47, go_sem, zeroLg, zeroSt, z0, z1, z2, z3, z4, z5, z6, z7]
      · rw [HE2.out, H1.out]
        refine ⟨none, 0, none, 0, OwnTab.nil _ _, World.ownsRow_nil _ _ _ _, Nat.le_refl _, rfl, ?_⟩
        repeat refine Keeps.set ?_ (by simp <;> omega) _
        exact hk
    | true =>
      have hm := inB_iff.1 q2
      obtain ⟨n, rfl⟩ : ∃ n : Nat, m = n := ⟨m.toNat, by omega⟩
      have hn : n ≤ l.tail.length := by omega
      have hnl : (n : Int) ≤ (l.tail.length : Int) := by omega
      have hnc : (n : Int) ≤ (tc : Int) := by omega
      have HCE : Hid (cutErr l n = 0) := by show _ = _; rw [HE.out, q1, q2]; rfl
      obtain ⟨r, hr'⟩ : ∃ r, r = runSt l.base (l.tail.take n) := ⟨_, rfl⟩
      have HCL : Hid (cutLg l n = ⟨r, l.tail.drop n⟩) := by
        show _ = _
        rw [HCN.out HCE.out, hr']
        simp
      obtain ⟨sv, hsv⟩ : ∃ sv, sv = (if tc = n then ta else Option.map (fun x : Addr => x.add (n * 9)) ta) := ⟨_, rfl⟩
      have HSV : Hid (sv = (if tc = n then ta else Option.map (fun x : Addr => x.add (n * 9)) ta)) := hsv
      have HC1 : Hid (∀ W, Keeps w1 W → Calls Tryz.prog 30 #[lgV l (.slice xa l.base.tab.length xc) (.slice ta l.tail.length tc), .int .i64 n] W fun y w' => ∃ qa qc, Hid (OwnTab W.heap.size w' (.slice qa r.tab.length qc) r.tab) ∧ y = .returned (stV r (.slice qa r.tab.length qc)) ∧ Keeps W w') := by
        intro W hk
        rw [hr']
        exact pack_behind l n _ ta tc W (HT.out.keep (HK1.out.trans hk)) (HL.out.keep (HK1.out.trans hk)) q0 hn hcap
      have HC2 : Hid (∀ W, Keeps w1 W → Calls Tryz.prog 66 #[.slice sv (l.tail.length - n) (tc - n)] W fun y w' => ∃ ea ec, Hid (w'.ownsRow W.heap.size 35 9 (.slice ea (l.tail.length - n) ec) (l.tail.length - n) (entCells (l.tail.drop n))) ∧ l.tail.length - n ≤ ec ∧ y = .returned (.slice ea (l.tail.length - n) ec) ∧ Keeps W w') := by
        intro W hk
        rw [hsv]
        have := twin_entries (l.tail.drop n) _ W (ents_suffix (HL.out.keep (HK1.out.trans hk)) hn hcap) (by simp; omega)
        simp only [List.length_drop] at this
        exact this
      have HSA : Hid (∀ W, Keeps w1 W → W.cell? ⟨w.heap.size, 0, none⟩ = some (.int .i64 l.base.at_) ∧ W.cell? ⟨w.heap.size, 1, none⟩ = some (.int .i64 l.base.clock) ∧ W.cell? ⟨w.heap.size, 2, none⟩ = some (.int .i64 l.base.v0) ∧ W.cell? ⟨w.heap.size, 3, none⟩ = some (.int .i64 l.base.v1) ∧ W.cell? ⟨w.heap.size, 4, none⟩ = some (.int .i64 l.base.v2) ∧ W.cell? ⟨w.heap.size, 5, none⟩ = some (.int .i64 l.base.v3) ∧ W.cell? ⟨w.heap.size, 6, none⟩ = some (.slice xa l.base.tab.length xc) ∧ W.cell? ⟨w.heap.size, 7, none⟩ = some (.slice ta l.tail.length tc)) := fun W hk => have B := HB1.out.keep hk; ⟨B.c0, B.c1, B.c2, B.c3, B.c4, B.c5, B.c6, B.c7⟩
      have HSB : Hid (∀ W, But (w.heap.size + 1) w1 W → W.cell? ⟨w.heap.size, 0, none⟩ = some (.int .i64 l.base.at_) ∧ W.cell? ⟨w.heap.size, 1, none⟩ = some (.int .i64 l.base.clock) ∧ W.cell? ⟨w.heap.size, 2, none⟩ = some (.int .i64 l.base.v0) ∧ W.cell? ⟨w.heap.size, 3, none⟩ = some (.int .i64 l.base.v1) ∧ W.cell? ⟨w.heap.size, 4, none⟩ = some (.int .i64 l.base.v2) ∧ W.cell? ⟨w.heap.size, 5, none⟩ = some (.int .i64 l.base.v3) ∧ W.cell? ⟨w.heap.size, 6, none⟩ = some (.slice xa l.base.tab.length xc) ∧ W.cell? ⟨w.heap.size, 7, none⟩ = some (.slice ta l.tail.length tc)) := fun W hk => have B := HB1.out.other hk (by omega); ⟨B.c0, B.c1, B.c2, B.c3, B.c4, B.c5, B.c6, B.c7⟩
      clear hr' hsv q0 HT HL
      go_wp2_with (first | (go_at_call 45; refine (bound_in _ _ _ _).mono ?_; rintro e w' ⟨rfl, rfl⟩))
      obtain ⟨V0, hV0⟩ : ∃ z, z = w1.drew := ⟨_, rfl⟩
      have k0 : Keeps w1 V0 := by rw [hV0]; exact (Keeps.refl _).drew
      refine wp_region_held_drew (S := fun W => W.cell? ⟨w.heap.size, 0, none⟩ = some (.int .i64 l.base.at_) ∧ W.cell? ⟨w.heap.size, 1, none⟩ = some (.int .i64 l.base.clock) ∧ W.cell? ⟨w.heap.size, 2, none⟩ = some (.int .i64 l.base.v0) ∧ W.cell? ⟨w.heap.size, 3, none⟩ = some (.int .i64 l.base.v1) ∧ W.cell? ⟨w.heap.size, 4, none⟩ = some (.int .i64 l.base.v2) ∧ W.cell? ⟨w.heap.size, 5, none⟩ = some (.int .i64 l.base.v3) ∧ W.cell? ⟨w.heap.size, 6, none⟩ = some (.slice xa l.base.tab.length xc) ∧ W.cell? ⟨w.heap.size, 7, none⟩ = some (.slice ta l.tail.length tc)) (by kernel_rfl) (HSA.out _ (Keeps.refl _).drew) (fun hS => ?_)
      rw [← hV0] at hS ⊢
      clear hV0
      refine wpAnyH_take (i := 0) (v := lgV l (.slice xa l.base.tab.length xc) (.slice ta l.tail.length tc)) rfl (by kernel_rfl) (by kernel_rfl) (by kernel_rfl) (fun _ _ _ h => h) (Or.inl ⟨by rfl, ?_⟩) hS ?_
      · intro w hS; go_simp
      refine wpAnyH_take (i := 1) (v := .int .i64 n) rfl (by kernel_rfl) (by kernel_rfl) (by kernel_rfl) (fun _ _ _ h => h) (Or.inl ⟨by rfl, ?_⟩) hS ?_
      · intro w hS; go_simp
      refine wpAnyH_take (i := 3) (v := .pointer (some ⟨w.heap.size, 7, none⟩)) rfl (by kernel_rfl) (by kernel_rfl) (by kernel_rfl) (fun _ _ _ h => h) (Or.inl ⟨by rfl, ?_⟩) hS ?_
      · intro w hS; go_simp
      refine wpAnyH_take (i := 4) (v := .slice ta l.tail.length tc) rfl (by kernel_rfl) (by kernel_rfl) (by kernel_rfl) (fun _ _ _ h => h) (Or.inl ⟨by rfl, ?_⟩) hS ?_
      · intro w hS; go_simp
      refine wpAnyH_take (i := 5) (v := .int .i64 n) rfl (by kernel_rfl) (by kernel_rfl) (by kernel_rfl) (fun _ _ _ h => h) (Or.inl ⟨by rfl, ?_⟩) hS ?_
      · intro w hS; go_simp
      refine wpAnyH_take (i := 6) (v := .slice sv (l.tail.length - n) (tc - n)) rfl (by kernel_rfl) (by kernel_rfl) (by kernel_rfl) (fun _ _ _ h => h) (Or.inl ⟨by rfl, ?_⟩) hS ?_
      · intro w hS
        go_simp
        exact HSV.out.symm
      refine wpAnyH_ready (rs := [2]) (by kernel_rfl) (by simp) ?_
      refine AllReadyH.cons rfl (fun K hK => ?_) (AllReadyH.nil)
      go_simp
      refine (HC1.out V0 k0).mono ?_
      rintro y V1 ⟨qa, qc, HO1, rfl, hb⟩
      have k1 := k0.trans hb
      clear hb
      go_simp
      refine hK.out _ _ (HSA.out _ k1) (fun hS => ?_)
      clear hK K
      refine wpAnyH_ready (rs := [7]) (by kernel_rfl) (by simp) ?_
      refine AllReadyH.cons rfl (fun K hK => ?_) (AllReadyH.nil)
      go_simp
      refine (HC2.out V1 k1).mono ?_
      rintro y V2 ⟨ea, ec, HE2, hec, rfl, hb⟩
      have k2 := k1.trans hb
      have HO2 : Hid (OwnTab w1.heap.size V2 (.slice qa r.tab.length qc) r.tab) := (HO1.out.keep hb).base k0.size
      have HE3 := (show Hid _ from owns_base HE2.out k1.size)
      clear hb HO1 HE2
      go_simp
      refine hK.out _ _ (HSA.out _ k2) (fun hS => ?_)
      clear hK K
      refine wpAnyH_take (i := 8) (v := .agg #[.int .i64 r.at_, .int .i64 r.clock, .int .i64 r.v0, .int .i64 r.v1, .int .i64 r.v2, .int .i64 r.v3, .slice qa r.tab.length qc, .slice ea (l.tail.length - n) ec]) rfl (by kernel_rfl) (by kernel_rfl) (by kernel_rfl) (fun _ _ _ h => h) (Or.inl ⟨by rfl, ?_⟩) hS ?_
      · intro w hS; go_simp
      refine wpAnyH_ready (rs := [9]) (by kernel_rfl) (by simp) ?_
      refine AllReadyH.cons rfl (fun K hK => ?_) (AllReadyH.nil)
      have z0 := (HZ1.out.keep k2).c0
      have z1 := (HZ1.out.keep k2).c1
      have z2 := (HZ1.out.keep k2).c2
      have z3 := (HZ1.out.keep k2).c3
      have z4 := (HZ1.out.keep k2).c4
      have z5 := (HZ1.out.keep k2).c5
      have z6 := (HZ1.out.keep k2).c6
      have z7 := (HZ1.out.keep k2).c7
      have zf := (HZ1.out.keep k2).fz
      have zl := (HZ1.out.keep k2).lt
      go_simp
      have BP := (HZ1.out.keep k2).put ⟨r, l.tail.drop n⟩ (.slice qa r.tab.length qc) (.slice ea (l.tail.length - n) ec)
      have BT := But.lgputs (w.heap.size + 1) V2 ⟨r, l.tail.drop n⟩ (.slice qa r.tab.length qc) (.slice ea (l.tail.length - n) ec)
      obtain ⟨WF, hWF⟩ : ∃ z, z = ((((((((V2.setCell ⟨w.heap.size + 1, 0, none⟩ (.int .i64 r.at_)).setCell ⟨w.heap.size + 1, 1, none⟩ (.int .i64 r.clock)).setCell ⟨w.heap.size + 1, 2, none⟩ (.int .i64 r.v0)).setCell ⟨w.heap.size + 1, 3, none⟩ (.int .i64 r.v1)).setCell ⟨w.heap.size + 1, 4, none⟩ (.int .i64 r.v2)).setCell ⟨w.heap.size + 1, 5, none⟩ (.int .i64 r.v3)).setCell ⟨w.heap.size + 1, 6, none⟩ (.slice qa r.tab.length qc)).setCell ⟨w.heap.size + 1, 7, none⟩ (.slice ea (l.tail.length - n) ec)) := ⟨_, rfl⟩
      rw [← hWF] at BP BT ⊢
      clear hWF z0 z1 z2 z3 z4 z5 z6 z7 zf zl
      have hz1 := HZ5.out
      refine hK.out _ _ (HSB.out _ ((But.of k2).trans BT)) (fun hS => ?_)
      clear hK K
      refine wpAnyH_take (i := 10) (v := .int .i64 0) rfl (by kernel_rfl) (by kernel_rfl) (by kernel_rfl) (fun _ _ _ h => h) (Or.inl ⟨by rfl, ?_⟩) hS ?_
      · intro w hS; go_simp
      refine wpAnyH_done (by kernel_rfl) ?_ _
      go_wp2_with fail
      have c0 := BP.c0
      have c1 := BP.c1
      have c2 := BP.c2
      have c3 := BP.c3
      have c4 := BP.c4
      have c5 := BP.c5
      have c6 := BP.c6
      have c7 := BP.c7
      refine bodyPost_ret (v := .tuple #[lgV ⟨r, l.tail.drop n⟩ (.slice qa r.tab.length qc) (.slice ea (l.tail.length - n) ec), .int .i64 0]) ?_ rfl ?_
      · simp only [results, Tryz.results47, go_sem, c0, c1, c2, c3, c4, c5, c6, c7]
        simp [go_sem, c0, c1, c2, c3, c4, c5, c6, c7]
      · rw [HCE.out, HCL.out]
        refine ⟨qa, qc, ea, ec, (HO2.out.but (by omega) BT).base (by omega), ?_, ?_, ?_, But.to (HK1.out.trans k2) (by omega) BT⟩
        · have := owns_base (owns_far HE3.out (by omega) BT) (show w.heap.size ≤ w1.heap.size by omega)
          simpa using this
        · simpa using hec
        · simp

set_option maxHeartbeats 4000000 in
theorem twin_log (l : Lg) (x : Value) (ta : Option Addr) (tc : Nat) (w : World) (hT : TabAt w x l.base.tab) (hL : EntsAt w (.slice ta l.tail.length tc) l.tail) (hr : stErr l.base = 0) (h50 : l.tail.length ≤ 1000) :
    Calls Tryz.prog 60 #[lgV l x (.slice ta l.tail.length tc)] w fun y w' => ∃ qa qc ea ec, OwnTab w.heap.size w' (.slice qa l.base.tab.length qc) l.base.tab ∧ w'.ownsRow w.heap.size 35 9 (.slice ea l.tail.length ec) l.tail.length (entCells l.tail) ∧ l.tail.length ≤ ec ∧
      y = .returned (lgV l (.slice qa l.base.tab.length qc) (.slice ea l.tail.length ec)) ∧ Keeps w w' := by
  obtain ⟨xa, xc, rfl, _⟩ := hT.len
  have HT : Hid (TabAt w (.slice xa l.base.tab.length xc) l.base.tab) := hT
  have HL : Hid (EntsAt w (.slice ta l.tail.length tc) l.tail) := hL
  have hlen := hL.2.1
  unfold maxLen at hlen
  clear hT hL
  go_enter Tryz.func60, Tryz.ntmps60
  go_wp2_with fail
  obtain ⟨W1, hW1⟩ : ∃ W1, W1 = (w.alloc (.cells #[.int .i64 l.base.at_, .int .i64 l.base.clock, .int .i64 l.base.v0, .int .i64 l.base.v1, .int .i64 l.base.v2, .int .i64 l.base.v3, .slice xa l.base.tab.length xc, .slice ta l.tail.length tc] 28)).alloc (.cells #[.int .i64 0, .int .i64 0, .int .i64 0, .int .i64 0, .int .i64 0, .int .i64 0, .slice none 0 0, .slice none 0 0] 28) := ⟨_, rfl⟩
  have k1 : Keeps w W1 := by rw [hW1]; exact ((Keeps.refl _).alloc _).alloc _
  have HK1 : Hid (Keeps w W1) := k1
  have HB1 : Hid (LgBox w.heap.size l (.slice xa l.base.tab.length xc) (.slice ta l.tail.length tc) W1) := by rw [hW1]; exact (LgBox.new w l _ _ rfl rfl 28).keep ((Keeps.refl _).alloc _)
  have HZ1 : Hid (LgBox (w.heap.size + 1) zeroLg (.slice none 0 0) (.slice none 0 0) W1) := by
    rw [hW1]
    have := LgBox.new (w.alloc (.cells #[.int .i64 l.base.at_, .int .i64 l.base.clock, .int .i64 l.base.v0, .int .i64 l.base.v1, .int .i64 l.base.v2, .int .i64 l.base.v3, .slice xa l.base.tab.length xc, .slice ta l.tail.length tc] 28)) zeroLg (.slice none 0 0) (.slice none 0 0) rfl rfl 28
    simp only [World.size_alloc] at this
    exact this
  have HZ5 : Hid (w.heap.size + 1 < W1.heap.size) := HZ1.out.lt
  rw [← hW1]
  clear hW1 k1
  have HC1 : Hid (∀ W, Keeps W1 W → Calls Tryz.prog 61 #[stV l.base (.slice xa l.base.tab.length xc)] W fun y w' => ∃ qa qc, Hid (OwnTab W.heap.size w' (.slice qa l.base.tab.length qc) l.base.tab) ∧ y = .returned (stV l.base (.slice qa l.base.tab.length qc)) ∧ Keeps W w') := by
    intro W hk
    refine (twin_right _ W (HT.out.keep (HK1.out.trans hk)) hr).mono ?_
    rintro y w' ⟨x', ho, rfl, hb⟩
    obtain ⟨qa, qc, rfl, _⟩ := ho.tab.len
    exact ⟨qa, qc, ho, rfl, hb⟩
  have HC2 : Hid (∀ W, Keeps W1 W → Calls Tryz.prog 66 #[.slice ta l.tail.length tc] W fun y w' => ∃ ea ec, Hid (w'.ownsRow W.heap.size 35 9 (.slice ea l.tail.length ec) l.tail.length (entCells l.tail)) ∧ l.tail.length ≤ ec ∧ y = .returned (.slice ea l.tail.length ec) ∧ Keeps W w') := fun W hk => twin_entries l.tail _ W (HL.out.keep (HK1.out.trans hk)) h50
  have HSA : Hid (∀ W, Keeps W1 W → W.cell? ⟨w.heap.size, 0, none⟩ = some (.int .i64 l.base.at_) ∧ W.cell? ⟨w.heap.size, 1, none⟩ = some (.int .i64 l.base.clock) ∧ W.cell? ⟨w.heap.size, 2, none⟩ = some (.int .i64 l.base.v0) ∧ W.cell? ⟨w.heap.size, 3, none⟩ = some (.int .i64 l.base.v1) ∧ W.cell? ⟨w.heap.size, 4, none⟩ = some (.int .i64 l.base.v2) ∧ W.cell? ⟨w.heap.size, 5, none⟩ = some (.int .i64 l.base.v3) ∧ W.cell? ⟨w.heap.size, 6, none⟩ = some (.slice xa l.base.tab.length xc) ∧ W.cell? ⟨w.heap.size, 7, none⟩ = some (.slice ta l.tail.length tc)) := fun W hk => have B := HB1.out.keep hk; ⟨B.c0, B.c1, B.c2, B.c3, B.c4, B.c5, B.c6, B.c7⟩
  have HSB : Hid (∀ W, But (w.heap.size + 1) W1 W → W.cell? ⟨w.heap.size, 0, none⟩ = some (.int .i64 l.base.at_) ∧ W.cell? ⟨w.heap.size, 1, none⟩ = some (.int .i64 l.base.clock) ∧ W.cell? ⟨w.heap.size, 2, none⟩ = some (.int .i64 l.base.v0) ∧ W.cell? ⟨w.heap.size, 3, none⟩ = some (.int .i64 l.base.v1) ∧ W.cell? ⟨w.heap.size, 4, none⟩ = some (.int .i64 l.base.v2) ∧ W.cell? ⟨w.heap.size, 5, none⟩ = some (.int .i64 l.base.v3) ∧ W.cell? ⟨w.heap.size, 6, none⟩ = some (.slice xa l.base.tab.length xc) ∧ W.cell? ⟨w.heap.size, 7, none⟩ = some (.slice ta l.tail.length tc)) := fun W hk => have B := HB1.out.other hk (by omega); ⟨B.c0, B.c1, B.c2, B.c3, B.c4, B.c5, B.c6, B.c7⟩
  clear HT HL
  obtain ⟨V0, hV0⟩ : ∃ z, z = W1.drew := ⟨_, rfl⟩
  have k0 : Keeps W1 V0 := by rw [hV0]; exact (Keeps.refl _).drew
  refine wp_region_held_drew (S := fun W => W.cell? ⟨w.heap.size, 0, none⟩ = some (.int .i64 l.base.at_) ∧ W.cell? ⟨w.heap.size, 1, none⟩ = some (.int .i64 l.base.clock) ∧ W.cell? ⟨w.heap.size, 2, none⟩ = some (.int .i64 l.base.v0) ∧ W.cell? ⟨w.heap.size, 3, none⟩ = some (.int .i64 l.base.v1) ∧ W.cell? ⟨w.heap.size, 4, none⟩ = some (.int .i64 l.base.v2) ∧ W.cell? ⟨w.heap.size, 5, none⟩ = some (.int .i64 l.base.v3) ∧ W.cell? ⟨w.heap.size, 6, none⟩ = some (.slice xa l.base.tab.length xc) ∧ W.cell? ⟨w.heap.size, 7, none⟩ = some (.slice ta l.tail.length tc)) (by kernel_rfl) (HSA.out _ (Keeps.refl _).drew) (fun hS => ?_)
  rw [← hV0] at hS ⊢
  clear hV0
  refine wpAnyH_take (i := 0) (v := .pointer (some ⟨w.heap.size, 0, none⟩)) rfl (by kernel_rfl) (by kernel_rfl) (by kernel_rfl) (fun _ _ _ h => h) (Or.inl ⟨by rfl, ?_⟩) hS ?_
  · intro w hS; go_simp
  refine wpAnyH_take (i := 1) (v := stV l.base (.slice xa l.base.tab.length xc)) rfl (by kernel_rfl) (by kernel_rfl) (by kernel_rfl) (fun _ _ _ h => h) (Or.inl ⟨by rfl, ?_⟩) hS ?_
  · intro w hS; go_simp
  refine wpAnyH_take (i := 3) (v := .pointer (some ⟨w.heap.size, 7, none⟩)) rfl (by kernel_rfl) (by kernel_rfl) (by kernel_rfl) (fun _ _ _ h => h) (Or.inl ⟨by rfl, ?_⟩) hS ?_
  · intro w hS; go_simp
  refine wpAnyH_take (i := 4) (v := .slice ta l.tail.length tc) rfl (by kernel_rfl) (by kernel_rfl) (by kernel_rfl) (fun _ _ _ h => h) (Or.inl ⟨by rfl, ?_⟩) hS ?_
  · intro w hS; go_simp
  refine wpAnyH_ready (rs := [2]) (by kernel_rfl) (by simp) ?_
  refine AllReadyH.cons rfl (fun K hK => ?_) (AllReadyH.nil)
  go_simp
  refine (HC1.out V0 k0).mono ?_
  rintro y V1 ⟨qa, qc, HO1, rfl, hb⟩
  have k1 := k0.trans hb
  clear hb
  go_simp
  refine hK.out _ _ (HSA.out _ k1) (fun hS => ?_)
  clear hK K
  refine wpAnyH_ready (rs := [5]) (by kernel_rfl) (by simp) ?_
  refine AllReadyH.cons rfl (fun K hK => ?_) (AllReadyH.nil)
  go_simp
  refine (HC2.out V1 k1).mono ?_
  rintro y V2 ⟨ea, ec, HE2, hec, rfl, hb⟩
  have k2 := k1.trans hb
  have HO2 : Hid (OwnTab W1.heap.size V2 (.slice qa l.base.tab.length qc) l.base.tab) := (HO1.out.keep hb).base k0.size
  have HE3 := (show Hid _ from owns_base HE2.out k1.size)
  clear hb HO1 HE2
  go_simp
  refine hK.out _ _ (HSA.out _ k2) (fun hS => ?_)
  clear hK K
  refine wpAnyH_take (i := 6) (v := lgV l (.slice qa l.base.tab.length qc) (.slice ea l.tail.length ec)) rfl (by kernel_rfl) (by kernel_rfl) (by kernel_rfl) (fun _ _ _ h => h) (Or.inl ⟨by rfl, ?_⟩) hS ?_
  · intro w hS; go_simp
  refine wpAnyH_ready (rs := [7]) (by kernel_rfl) (by simp) ?_
  refine AllReadyH.cons rfl (fun K hK => ?_) (AllReadyH.nil)
  have z0 := (HZ1.out.keep k2).c0
  have z1 := (HZ1.out.keep k2).c1
  have z2 := (HZ1.out.keep k2).c2
  have z3 := (HZ1.out.keep k2).c3
  have z4 := (HZ1.out.keep k2).c4
  have z5 := (HZ1.out.keep k2).c5
  have z6 := (HZ1.out.keep k2).c6
  have z7 := (HZ1.out.keep k2).c7
  have zf := (HZ1.out.keep k2).fz
  have zl := (HZ1.out.keep k2).lt
  go_simp
  have BP := (HZ1.out.keep k2).put l (.slice qa l.base.tab.length qc) (.slice ea l.tail.length ec)
  have BT := But.lgputs (w.heap.size + 1) V2 l (.slice qa l.base.tab.length qc) (.slice ea l.tail.length ec)
  obtain ⟨WF, hWF⟩ : ∃ z, z = ((((((((V2.setCell ⟨w.heap.size + 1, 0, none⟩ (.int .i64 l.base.at_)).setCell ⟨w.heap.size + 1, 1, none⟩ (.int .i64 l.base.clock)).setCell ⟨w.heap.size + 1, 2, none⟩ (.int .i64 l.base.v0)).setCell ⟨w.heap.size + 1, 3, none⟩ (.int .i64 l.base.v1)).setCell ⟨w.heap.size + 1, 4, none⟩ (.int .i64 l.base.v2)).setCell ⟨w.heap.size + 1, 5, none⟩ (.int .i64 l.base.v3)).setCell ⟨w.heap.size + 1, 6, none⟩ (.slice qa l.base.tab.length qc)).setCell ⟨w.heap.size + 1, 7, none⟩ (.slice ea l.tail.length ec)) := ⟨_, rfl⟩
  rw [← hWF] at BP BT ⊢
  clear hWF z0 z1 z2 z3 z4 z5 z6 z7 zf zl
  have hz1 := HZ5.out
  refine hK.out _ _ (HSB.out _ ((But.of k2).trans BT)) (fun hS => ?_)
  clear hK K
  refine wpAnyH_done (by kernel_rfl) ?_ _
  go_wp2_with fail
  have c0 := BP.c0
  have c1 := BP.c1
  have c2 := BP.c2
  have c3 := BP.c3
  have c4 := BP.c4
  have c5 := BP.c5
  have c6 := BP.c6
  have c7 := BP.c7
  refine bodyPost_ret (v := lgV l (.slice qa l.base.tab.length qc) (.slice ea l.tail.length ec)) ?_ rfl ?_
  · simp only [results, Tryz.results60, go_sem, c0, c1, c2, c3, c4, c5, c6, c7]
    simp [go_sem, c0, c1, c2, c3, c4, c5, c6, c7]
  · exact ⟨qa, qc, ea, ec, (HO2.out.but (by omega) BT).base (by omega), owns_base (owns_far HE3.out (by omega) BT) (by omega), hec, rfl, But.to (HK1.out.trans k2) (by omega) BT⟩

def putLgErr (l : Lg) (e : Ent) : Int := if lgErr l == 0 then (if entErr e == 0 then (if l.base.at_ + l.tail.length == 50 then 2 else 0) else entErr e) else lgErr l
def putLg (l : Lg) (e : Ent) : Lg := if putLgErr l e == 0 then ⟨l.base, l.tail ++ [e]⟩ else zeroLg
def putAns (l : Lg) (e : Ent) : Int := if putLgErr l e == 0 then oneAns (runSt l.base l.tail) e else 0

set_option maxHeartbeats 2000000 in
theorem pack_both (l : Lg) (e : Ent) (x t : Value) (w : World) (hT : TabAt w x l.base.tab) (hL0 : EntsAt w t l.tail) : Calls Tryz.prog 62 #[lgV l x t, entV e] w fun y w' => y = .returned (.int .i64 (putLgErr l e)) ∧ Keeps w w' := by
  obtain ⟨xa, xc, rfl, _⟩ := hT.len
  obtain ⟨ta, tc, rfl, hlen⟩ := hL0.len
  unfold maxLen at hlen
  have HT : Hid (TabAt w (.slice xa l.base.tab.length xc) l.base.tab) := hT
  have HL : Hid (EntsAt w (.slice ta l.tail.length tc) l.tail) := hL0
  have HE : Hid (putLgErr l e = if lgErr l == 0 then (if entErr e == 0 then (if l.base.at_ + l.tail.length == 50 then 2 else 0) else entErr e) else lgErr l) := rfl
  have HBD : Hid (lgErr l = 0 → (0 ≤ l.base.at_ ∧ l.base.at_ ≤ 50) ∧ l.tail.length ≤ 50) := fun h => by
    have h1 := fold_right h
    have h2 := (stErr_bounds h1.1).1
    exact ⟨h2, by omega⟩
  clear hT hL0
  go_enter Tryz.func62, Tryz.ntmps62
  go_wp2_with fail
  obtain ⟨W1, hW1⟩ : ∃ W1, W1 = (w.alloc (.cells #[.int .i64 l.base.at_, .int .i64 l.base.clock, .int .i64 l.base.v0, .int .i64 l.base.v1, .int .i64 l.base.v2, .int .i64 l.base.v3, .slice xa l.base.tab.length xc, .slice ta l.tail.length tc] 28)).alloc (.cells #[.int .i64 e.kind, .int .i64 e.time, .int .i64 e.client, .int .i64 e.seq, .int .i64 e.ack, .int .i64 e.ok, .int .i64 e.okey, .int .i64 e.oto, .int .i64 e.on] 35) := ⟨_, rfl⟩
  have k1 : Keeps w W1 := by rw [hW1]; exact ((Keeps.refl _).alloc _).alloc _
  have B1 : LgBox w.heap.size l (.slice xa l.base.tab.length xc) (.slice ta l.tail.length tc) W1 := by rw [hW1]; exact (LgBox.new w l _ _ rfl rfl 28).keep ((Keeps.refl _).alloc _)
  have E1 : EntBox (w.heap.size + 1) e W1 := by
    rw [hW1]
    have := EntBox.new (w.alloc (.cells #[.int .i64 l.base.at_, .int .i64 l.base.clock, .int .i64 l.base.v0, .int .i64 l.base.v1, .int .i64 l.base.v2, .int .i64 l.base.v3, .slice xa l.base.tab.length xc, .slice ta l.tail.length tc] 28)) e 35
    simp only [World.size_alloc] at this
    exact this
  rw [← hW1]
  clear hW1
  refine (pack_check l _ _ W1 (HT.out.keep k1) (HL.out.keep k1)).mono ?_
  rintro y w1 ⟨rfl, hb⟩
  have HK1 : Hid (Keeps w w1) := k1.trans hb
  have HB1 := (show Hid _ from B1.keep hb)
  have E2 := E1.keep hb
  have e0 := E2.c0
  have e1 := E2.c1
  have e2 := E2.c2
  have e3 := E2.c3
  have e4 := E2.c4
  have e5 := E2.c5
  have e6 := E2.c6
  have e7 := E2.c7
  have e8 := E2.c8
  have el := E2.lt
  clear hb k1 B1 E1 E2
  cases q1 : (lgErr l == 0) with
  | false =>
    have q1' : (lgErr l != 0) = true := by simp [bne, q1]
    have HE2 : Hid (putLgErr l e = lgErr l) := by show _ = _; rw [HE.out, q1]; rfl
    go_wp2_with fail
    go_ret
    exact ⟨ret_int HE2.out.symm, HK1.out⟩
  | true =>
    have q1' : (lgErr l != 0) = false := by simp [bne, q1]
    obtain ⟨⟨ba0, ba1⟩, hl50⟩ := HBD.out (by simpa using q1)
    go_wp2_with fail
    refine (ent_check e w1).mono ?_
    rintro y w2 ⟨rfl, hb⟩
    have HK2 : Hid (Keeps w w2) := HK1.out.trans hb
    have B3 := HB1.out.keep hb
    clear hb e0 e1 e2 e3 e4 e5 e6 e7 e8 el
    have b0 := B3.c0
    have b1 := B3.c1
    have b2 := B3.c2
    have b3 := B3.c3
    have b4 := B3.c4
    have b5 := B3.c5
    have b6 := B3.c6
    have b7 := B3.c7
    have bl := B3.lt
    clear B3
    cases q2 : (entErr e == 0) with
    | false =>
      have q2' : (entErr e != 0) = true := by simp [bne, q2]
      have HE2 : Hid (putLgErr l e = entErr e) := by show _ = _; rw [HE.out, q1, q2]; rfl
      go_wp2_with fail
      go_ret
      exact ⟨ret_int HE2.out.symm, HK2.out⟩
    | true =>
      have q2' : (entErr e != 0) = false := by simp [bne, q2]
      go_wp2_with fail
      refine (pack_all l _ ta tc w2 ba0 ba1 hl50).mono ?_
      rintro y w3 ⟨rfl, hb⟩
      have HK3 : Hid (Keeps w w3) := HK2.out.trans hb
      clear hb b0 b1 b2 b3 b4 b5 b6 b7 bl
      cases q3 : (l.base.at_ + l.tail.length == 50) with
      | true =>
        have HE2 : Hid (putLgErr l e = 2) := by show _ = _; rw [HE.out, q1, q2, q3]; rfl
        go_wp2_with fail
        go_ret
        exact ⟨ret_int HE2.out.symm, HK3.out⟩
      | false =>
        have HE2 : Hid (putLgErr l e = 0) := by show _ = _; rw [HE.out, q1, q2, q3]; rfl
        go_wp2_with fail
        go_ret
        exact ⟨ret_int HE2.out.symm, HK3.out⟩

theorem putLg_right {l : Lg} {e : Ent} (h : putLgErr l e = 0) : lgErr l = 0 ∧ entErr e = 0 ∧ l.base.at_ + l.tail.length < 50 ∧ bothErr (runSt l.base l.tail) e = 0 := by
  unfold putLgErr at h
  split at h
  · rename_i h1
    split at h
    · rename_i h2
      split at h
      · cases h
      · rename_i h3
        have h1' : lgErr l = 0 := by simpa using h1
        have h2' : entErr e = 0 := by simpa using h2
        have h4 := fold_right h1'
        have h5 := run_right h4.1 h4.2.1 h4.2.2
        have h3' : ¬ l.base.at_ + l.tail.length = 50 := by simpa using h3
        exact ⟨h1', h2', by omega, both_zero h5.1 h2' (by rw [h5.2]; exact h3')⟩
    · rename_i h2
      simp [h] at h2
  · rename_i h1
    simp [h] at h1

end Go.Proofs.YteabfjpajgakiagGreat

/- Rows of truths. -/
set_option linter.unusedSimpArgs false
set_option linter.unusedVariables false
set_option maxRecDepth 10000
namespace Go.Proofs.YteabfjpajgakiagGreat
open Go.RowKit

def boolCells (l : List Bool) : List Value := l.map (fun n => .bool n)
def BoolsAt (w : World) (v : Value) (l : List Bool) : Prop := RowAt w 1 v l.length (boolCells l)
theorem BoolsAt.keep {w w' : World} {v : Value} {l : List Bool} (h : BoolsAt w v l) (hk : Keeps w w') : BoolsAt w' v l := RowAt.keep h hk
theorem BoolsAt.of {w : World} {base : Nat} {v : Value} {l : List Bool} (h : w.ownsRow base 4 1 v l.length (boolCells l)) : BoolsAt w v l := RowAt.of_owns h
theorem BoolsAt.at {w : World} {v : Value} {l : List Bool} (h : BoolsAt w v l) {k : Nat} (hk : k < l.length) : ∃ b off cap, v = .slice (some ⟨b, off, none⟩) l.length cap ∧ w.cell? ⟨b, off + k, none⟩ = some (.bool (l[k])) := by
  obtain ⟨b, off, cap, rfl, h3⟩ := RowAt.plain h (by simp [boolCells]; omega)
  exact ⟨b, off, cap, rfl, h3 k _ (by simp [boolCells, List.getElem?_eq_getElem hk])⟩
theorem infoBool : (Tryz.prog.info? 4).map (fun i => (i.zero, i.size, i.bytes)) = some (some (.bool false), 1, 1) := by kernel_rfl
end Go.Proofs.YteabfjpajgakiagGreat

/- Three appends in one statement, and parts of a row of answers. -/
set_option linter.unusedSimpArgs false
set_option linter.unusedVariables false
namespace Go.Proofs.YteabfjpajgakiagGreat
open Go.RowKit

/-- An append whose run is known, as a step of a region that draws. -/
theorem step_append_run {P : Program} {ops : Array Oper} {o : Oper} {a : Act} {w w' : World} {K : Act → World → Prop} {Q : Exit → Act → World → Prop} {E : Prop} {v x v' : Value} (hgd : o.guard = none) (s y : Operand) (t : TypeId)
    (ho : o.op = .call { callee := .builtin .append, args := #[s, y], argTypes := #[t, t] }) (hs : a.eval s = v) (hx : a.eval y = x)
    (hr : (Builtin.append_ #[t, t] o.type #[v, x]).run P w = .ok v' w') (hK : K (a.put o.dst v') w') : if Region.wanted o (yielded ops a.tmps) = true then Oper.wp P o a w K Q else E := by
  have hw : Region.wanted o (yielded ops a.tmps) = true := by simp [Region.wanted, hgd]
  rw [if_pos hw]
  unfold Oper.wp
  simp [execOp, ho, resolve, invoke, builtin, hs, hx, hr, Result.andThen]
  exact hK

theorem kept_prefix {w : World} {oa : Option Addr} {oc j : Nat} {l : List (Int × Int)} (h : KeptAt w (.slice oa l.length oc) l) (hj : j ≤ l.length) : KeptAt w (.slice (if oc = 0 then oa else oa.map (·.add (0 * 2))) j oc) (l.take j) := by
  obtain ⟨h1, h2, h3⟩ := h
  have hl : (l.take j).length = j := by simp; omega
  refine ⟨by rw [repCells_len], by rw [hl]; omega, ?_⟩
  rcases h3 with ⟨e, hn⟩ | ⟨a, cap, e, h3⟩
  · injection e with e1 e2 e3
    subst e1 e3
    left
    have : j = 0 := by omega
    subst this
    exact ⟨rfl, by simp⟩
  · injection e with e1 e2 e3
    subst e1
    right
    refine ⟨a, oc, ?_, fun i u hu => ?_⟩
    · rw [hl]
      have : a.add (0 * 2) = a := rfl
      simp only [Option.map_some, this, ite_self]
    · rw [← repCells_take] at hu
      rw [List.getElem?_take] at hu
      split at hu
      · exact h3 i u hu
      · cases hu

theorem kept_suffix {w : World} {oa : Option Addr} {oc j : Nat} {l : List (Int × Int)} (h : KeptAt w (.slice oa l.length oc) l) (hj : j ≤ l.length) (hc : l.length ≤ oc) : KeptAt w (.slice (if oc = j then oa else oa.map (·.add (j * 2))) (l.length - j) (oc - j)) (l.drop j) := by
  obtain ⟨h1, h2, h3⟩ := h
  have hl : (l.drop j).length = l.length - j := by simp
  refine ⟨by rw [repCells_len], by rw [hl]; omega, ?_⟩
  rcases h3 with ⟨e, hn⟩ | ⟨a, cap, e, h3⟩
  · injection e with e1 e2 e3
    subst e1 e3
    left
    have : j = 0 := by omega
    subst this
    rw [hl, hn]
    exact ⟨rfl, rfl⟩
  · injection e with e1 e2 e3
    subst e1
    right
    by_cases hcj : oc = j
    · refine ⟨a, oc - j, by rw [if_pos hcj, hl], fun i u hu => ?_⟩
      rw [List.drop_of_length_le (by omega)] at hu
      simp [repCells] at hu
    · refine ⟨a.add (j * 2), oc - j, by rw [if_neg hcj, hl]; rfl, fun i u hu => ?_⟩
      rw [← repCells_drop, List.getElem?_drop] at hu
      have := h3 _ u hu
      have e : (a.add (j * 2)).add i = a.add (j * 2 + i) := by
        obtain ⟨b, o, sp⟩ := a
        rcases Nat.eq_zero_or_pos j with h0 | h0
        · subst h0
          rw [Nat.zero_mul, Nat.zero_add]
          rfl
        · have h2 : j * 2 ≠ 0 := by omega
          have h3 : j * 2 + i ≠ 0 := by omega
          rcases Nat.eq_zero_or_pos i with h4 | h4
          · subst h4
            rfl
          · have h5 : i ≠ 0 := by omega
            simp only [Addr.add, h2, h3, h5, if_false, Nat.add_assoc]
      rw [e]
      exact this

/-- 'append(v, x...)' of answers, v the call's own from base on. -/
theorem app_rep (w : World) (base : Nat) (v : Value) (A : List (Int × Int)) (hown : w.ownsRow base 73 2 v A.length (repCells A)) (x : Value) (B : List (Int × Int)) (hx : KeptAt w x B) (hl : A.length + B.length ≤ 100) (hbase : base ≤ w.heap.size) :
    ∃ va vc w', (Builtin.append_ #[69, 69] 69 #[v, x]).run Tryz.prog w = .ok (.slice va (A ++ B).length vc) w' ∧ w'.ownsRow base 73 2 (.slice va (A ++ B).length vc) (A ++ B).length (repCells (A ++ B)) ∧ (∀ w0, w0.heap.size = base → Keeps w0 w → Keeps w0 w') ∧ ∀ b, some b ≠ v.ownBlock → b < w.heap.size → w'.heap[b]? = w.heap[b]? := by
  obtain ⟨v', w', hr, ho, hg⟩ := run_append_read w base 69 69 73 2 16 _ infoRep Tryz.underlying69 rfl (by decide) v A.length (repCells A) hown x B.length (repCells B) hx (repCells_one _) (by unfold maxLen; omega) (by omega) hbase
  rw [← List.length_append, ← repCells_append] at ho
  obtain ⟨va, vc, hv, _⟩ := (RowAt.of_owns ho).len
  subst hv
  refine ⟨va, vc, w', hr, ho, fun w0 h0 hk => keeps_grown hk hg (fun k hk' => ?_), fun b hb hl => hg.block b hl hb⟩
  rw [h0]
  exact (hown.lt k hk').1

theorem owns_cap {w : World} {base n m oc size : Nat} {e : TypeId} {oa : Option Addr} {xs : List Value} (h : w.ownsRow base e size (.slice oa n oc) m xs) : m ≤ oc := by
  rcases h.2 with ⟨e, h⟩ | ⟨g, cap, cur, e, _, _, h, _⟩
  · omega
  · injection e with _ _ e
    subst e
    exact h
theorem kept_far {w w' : World} {b n c : Nat} {l : List (Int × Int)} (h : KeptAt w (.slice (some ⟨b, 0, none⟩) n c) l) (he : w'.heap[b]? = w.heap[b]?) : KeptAt w' (.slice (some ⟨b, 0, none⟩) n c) l := by
  obtain ⟨h1, h2, h3⟩ := h
  refine ⟨h1, h2, ?_⟩
  rcases h3 with h3 | ⟨a, cap, e, h3⟩
  · exact .inl h3
  · injection e with e1 e2 e3
    injection e1 with e1
    subst e1 e2 e3
    exact .inr ⟨_, _, rfl, fun j u hu => by rw [← h3 j u hu]; exact World.cell?_of_block (by rw [Addr.add_lit]; exact he)⟩

theorem cell_three {w : World} {g cap k : Nat} {L : List Ses} (h : TabAt w (.slice (some ⟨g, 0, none⟩) L.length cap) L) (hk : k < L.length) : ∃ u, w.cell? ⟨g, k * 4 + 3, none⟩ = some u := by
  have hc := (h.cells k hk _ rfl).2.2.2
  obtain ⟨ka, kc, hc, _⟩ := hc
  rw [Nat.zero_add] at hc
  exact ⟨_, hc⟩

/-- A row without an element, just laid. -/
theorem owns_bare (w : World) (base : Nat) (hb : base ≤ w.heap.size) : (w.alloc (.cells #[] 73)).ownsRow base 73 2 (.slice (some ⟨w.heap.size, 0, none⟩) 0 0) ([] : List (Int × Int)).length (repCells []) := by
  have := World.ownsRow_made (base := base) (e := 73) (size := 2) w #[] 0 hb (by unfold maxLen; omega) rfl
  exact this
end Go.Proofs.YteabfjpajgakiagGreat

/- What the reference's DoOf answers. -/
set_option linter.unusedSimpArgs false
set_option linter.unusedVariables false
set_option maxRecDepth 10000
namespace Go.Proofs.YteabfjpajgakiagGreat
open Go.RowKit

theorem did_move (g : Nat → Int) (key tk n : Int) (w : World) (hk0 : 0 ≤ key) (hk3 : key ≤ 3) (ht0 : 0 ≤ tk) (ht3 : tk ≤ 3) (hn0 : 0 ≤ n) (hn1 : n ≤ 999) (hv : valsOk g = true) :
    Calls Tryz.prog 77 #[arrV g, opV 3 key tk n] w fun e w' => e = .returned (.tuple #[arrV (if stepOk 3 g key tk n then stepTo 3 g key tk n else g), .int .i64 (if stepOk 3 g key tk n then stepTo 3 g key tk n key.toNat else -1)]) ∧ Keeps w w' := by
  have hg := vals_at hv
  have e : ∀ a b : Int, a + -b = a - b := fun a b => rfl
  rcases four hk0 hk3 with rfl | rfl | rfl | rfl
  · cases hi : inB (g 0 - n) 0 999 with
    | false =>
      have := did_move0_no g tk n w hn0 hn1 hv hi
      simpa [stepOk, stepTo, e, hi] using this
    | true =>
      rcases four ht0 ht3 with rfl | rfl | rfl | rfl
      · have := did_move00_yes g n w hn0 hn1 hv hi
        have hq : inB (g 0) 0 999 = true := by simp [inB]; exact hg 0 (by decide)
        simpa [stepOk, stepTo, e, hi, hq, upd] using this
      · cases hi2 : inB (g 1 + n) 0 999 with
        | true =>
          have := did_move01_yes g n w hn0 hn1 hv hi hi2
          simpa [stepOk, stepTo, e, hi, hi2, upd] using this
        | false =>
          have := did_move01_far g n w hn0 hn1 hv hi hi2
          simpa [stepOk, stepTo, e, hi, hi2, upd] using this
      · cases hi2 : inB (g 2 + n) 0 999 with
        | true =>
          have := did_move02_yes g n w hn0 hn1 hv hi hi2
          simpa [stepOk, stepTo, e, hi, hi2, upd] using this
        | false =>
          have := did_move02_far g n w hn0 hn1 hv hi hi2
          simpa [stepOk, stepTo, e, hi, hi2, upd] using this
      · cases hi2 : inB (g 3 + n) 0 999 with
        | true =>
          have := did_move03_yes g n w hn0 hn1 hv hi hi2
          simpa [stepOk, stepTo, e, hi, hi2, upd] using this
        | false =>
          have := did_move03_far g n w hn0 hn1 hv hi hi2
          simpa [stepOk, stepTo, e, hi, hi2, upd] using this
  · cases hi : inB (g 1 - n) 0 999 with
    | false =>
      have := did_move1_no g tk n w hn0 hn1 hv hi
      simpa [stepOk, stepTo, e, hi] using this
    | true =>
      rcases four ht0 ht3 with rfl | rfl | rfl | rfl
      · cases hi2 : inB (g 0 + n) 0 999 with
        | true =>
          have := did_move10_yes g n w hn0 hn1 hv hi hi2
          simpa [stepOk, stepTo, e, hi, hi2, upd] using this
        | false =>
          have := did_move10_far g n w hn0 hn1 hv hi hi2
          simpa [stepOk, stepTo, e, hi, hi2, upd] using this
      · have := did_move11_yes g n w hn0 hn1 hv hi
        have hq : inB (g 1) 0 999 = true := by simp [inB]; exact hg 1 (by decide)
        simpa [stepOk, stepTo, e, hi, hq, upd] using this
      · cases hi2 : inB (g 2 + n) 0 999 with
        | true =>
          have := did_move12_yes g n w hn0 hn1 hv hi hi2
          simpa [stepOk, stepTo, e, hi, hi2, upd] using this
        | false =>
          have := did_move12_far g n w hn0 hn1 hv hi hi2
          simpa [stepOk, stepTo, e, hi, hi2, upd] using this
      · cases hi2 : inB (g 3 + n) 0 999 with
        | true =>
          have := did_move13_yes g n w hn0 hn1 hv hi hi2
          simpa [stepOk, stepTo, e, hi, hi2, upd] using this
        | false =>
          have := did_move13_far g n w hn0 hn1 hv hi hi2
          simpa [stepOk, stepTo, e, hi, hi2, upd] using this
  · cases hi : inB (g 2 - n) 0 999 with
    | false =>
      have := did_move2_no g tk n w hn0 hn1 hv hi
      simpa [stepOk, stepTo, e, hi] using this
    | true =>
      rcases four ht0 ht3 with rfl | rfl | rfl | rfl
      · cases hi2 : inB (g 0 + n) 0 999 with
        | true =>
          have := did_move20_yes g n w hn0 hn1 hv hi hi2
          simpa [stepOk, stepTo, e, hi, hi2, upd] using this
        | false =>
          have := did_move20_far g n w hn0 hn1 hv hi hi2
          simpa [stepOk, stepTo, e, hi, hi2, upd] using this
      · cases hi2 : inB (g 1 + n) 0 999 with
        | true =>
          have := did_move21_yes g n w hn0 hn1 hv hi hi2
          simpa [stepOk, stepTo, e, hi, hi2, upd] using this
        | false =>
          have := did_move21_far g n w hn0 hn1 hv hi hi2
          simpa [stepOk, stepTo, e, hi, hi2, upd] using this
      · have := did_move22_yes g n w hn0 hn1 hv hi
        have hq : inB (g 2) 0 999 = true := by simp [inB]; exact hg 2 (by decide)
        simpa [stepOk, stepTo, e, hi, hq, upd] using this
      · cases hi2 : inB (g 3 + n) 0 999 with
        | true =>
          have := did_move23_yes g n w hn0 hn1 hv hi hi2
          simpa [stepOk, stepTo, e, hi, hi2, upd] using this
        | false =>
          have := did_move23_far g n w hn0 hn1 hv hi hi2
          simpa [stepOk, stepTo, e, hi, hi2, upd] using this
  · cases hi : inB (g 3 - n) 0 999 with
    | false =>
      have := did_move3_no g tk n w hn0 hn1 hv hi
      simpa [stepOk, stepTo, e, hi] using this
    | true =>
      rcases four ht0 ht3 with rfl | rfl | rfl | rfl
      · cases hi2 : inB (g 0 + n) 0 999 with
        | true =>
          have := did_move30_yes g n w hn0 hn1 hv hi hi2
          simpa [stepOk, stepTo, e, hi, hi2, upd] using this
        | false =>
          have := did_move30_far g n w hn0 hn1 hv hi hi2
          simpa [stepOk, stepTo, e, hi, hi2, upd] using this
      · cases hi2 : inB (g 1 + n) 0 999 with
        | true =>
          have := did_move31_yes g n w hn0 hn1 hv hi hi2
          simpa [stepOk, stepTo, e, hi, hi2, upd] using this
        | false =>
          have := did_move31_far g n w hn0 hn1 hv hi hi2
          simpa [stepOk, stepTo, e, hi, hi2, upd] using this
      · cases hi2 : inB (g 2 + n) 0 999 with
        | true =>
          have := did_move32_yes g n w hn0 hn1 hv hi hi2
          simpa [stepOk, stepTo, e, hi, hi2, upd] using this
        | false =>
          have := did_move32_far g n w hn0 hn1 hv hi hi2
          simpa [stepOk, stepTo, e, hi, hi2, upd] using this
      · have := did_move33_yes g n w hn0 hn1 hv hi
        have hq : inB (g 3) 0 999 = true := by simp [inB]; exact hg 3 (by decide)
        simpa [stepOk, stepTo, e, hi, hq, upd] using this

theorem did_c (g : Nat → Int) (k key tk n : Int) (w : World) (h0 : opErr k key tk n = 0) (hv : valsOk g = true) :
    Calls Tryz.prog 77 #[arrV g, opV k key tk n] w fun e w' => e = .returned (.tuple #[arrV (if stepOk k g key tk n then stepTo k g key tk n else g), .int .i64 (if stepOk k g key tk n then stepTo k g key tk n key.toNat else -1)]) ∧ Keeps w w' := by
  obtain ⟨⟨hk0, hk3⟩, hk⟩ := op_right h0
  rcases hk with ⟨rfl, _, hn0, hn1⟩ | ⟨rfl, _, hn0, hn1⟩ | ⟨rfl, ⟨ht0, ht3⟩, hn0, hn1⟩ | ⟨rfl, _, hn⟩
  · have := did_set g key tk n w hk0 hk3 (by simp [inB]; exact ⟨hn0, hn1⟩) hv
    simpa [stepOk, stepTo, upd] using this
  · have := did_add g key tk n w hk0 hk3 hn0 hn1 hv
    have e : upd g key.toNat (g key.toNat + n) key.toNat = g key.toNat + n := by simp [upd]
    simpa [stepOk, stepTo, e] using this
  · exact did_move g key tk n w hk0 hk3 ht0 ht3 hn0 hn1 hv
  · have := did_get g key tk n w hk0 hk3 hv
    simpa [stepOk, stepTo] using this
end Go.Proofs.YteabfjpajgakiagGreat
