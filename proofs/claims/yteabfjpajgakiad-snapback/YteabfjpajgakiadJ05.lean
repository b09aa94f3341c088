/- StG, StS, SnK, StF, SnL, OpenStr. -/
import Derived.Laws.Concat
import Derived.Test.YteabfjpajgakiadJ00
import Derived.Test.YteabfjpajgakiadJ01
import Derived.Test.YteabfjpajgakiadJ02
import Derived.Test.YteabfjpajgakiadJ03
import Derived.Test.YteabfjpajgakiadJ04
/- States: the law's shop, Begin. -/
set_option linter.unusedSimpArgs false
set_option linter.unusedVariables false
set_option maxRecDepth 10000
namespace Go.Proofs.Yteabfjpajgakiad
open Go.RowKit

/-- A row of the law, and where its answers lie. -/
theorem row_at (c : Int) (w : World) : Calls Try.prog 64 #[.int .i64 c] w fun e w' => ∃ g, w.heap.size ≤ g ∧ g < w'.heap.size ∧ KeptAt w' (.slice (some ⟨g, 0, none⟩) 2 2) [(3, 7), (5, -1)] ∧ e = .returned (sesV (rowS c) (.slice (some ⟨g, 0, none⟩) 2 2)) ∧ Keeps w w' := by
  go_enter Try.func64, Try.ntmps64
  go_wp2_with fail
  refine bodyPost_ret (v := sesV (rowS c) (.slice (some ⟨w.heap.size + 1, 0, none⟩) 2 2)) ?_ rfl ?_
  · simp [results, Try.results64, go_sem]
  · refine ⟨w.heap.size + 1, by omega, by simp, ?_, rfl, ?_⟩
    · refine ⟨rfl, by unfold maxLen; simp, .inr ⟨_, _, rfl, fun j u hu => ?_⟩⟩
      rw [Addr.add_lit, Nat.zero_add]
      match j, hu with
      | 0, hu => simp [repCells] at hu; subst hu; simp [go_sem]
      | 1, hu => simp [repCells] at hu; subst hu; simp [go_sem]
      | 2, hu => simp [repCells] at hu; subst hu; simp [go_sem]
      | 3, hu => simp [repCells] at hu; subst hu; simp [go_sem]
    · exact ((Keeps.refl _).alloc _).alloc _

abbrev shopS : St := ⟨6, 10, 7, 0, 0, 1, [rowS 2, rowS 4]⟩

/-- Where the shop's table lies. -/
structure ShopAt (w : World) (b : Nat) (ka : Option Addr) (kc : Nat) (la : Option Addr) (lc : Nat) : Prop where
  c0 : w.cell? ⟨b, 0, none⟩ = some (.int .i64 2)
  c1 : w.cell? ⟨b, 1, none⟩ = some (.int .i64 2)
  c2 : w.cell? ⟨b, 2, none⟩ = some (.int .i64 9)
  c3 : w.cell? ⟨b, 3, none⟩ = some (.slice ka 2 kc)
  c4 : w.cell? ⟨b, 4, none⟩ = some (.int .i64 4)
  c5 : w.cell? ⟨b, 5, none⟩ = some (.int .i64 2)
  c6 : w.cell? ⟨b, 6, none⟩ = some (.int .i64 9)
  c7 : w.cell? ⟨b, 7, none⟩ = some (.slice la 2 lc)
  fz : w.frozen? ⟨b, 3, none⟩ = false
  k1 : KeptAt w (.slice ka 2 kc) [(3, 7), (5, -1)]
  k2 : KeptAt w (.slice la 2 lc) [(3, 7), (5, -1)]

theorem ShopAt.keep {w w' : World} {b : Nat} {ka : Option Addr} {kc : Nat} {la : Option Addr} {lc : Nat} (h : ShopAt w b ka kc la lc) (hk : Keeps w w') : ShopAt w' b ka kc la lc :=
  ⟨cell_kept h.c0 hk, cell_kept h.c1 hk, cell_kept h.c2 hk, cell_kept h.c3 hk, cell_kept h.c4 hk, cell_kept h.c5 hk, cell_kept h.c6 hk, cell_kept h.c7 hk,
    (Below.frozen hk (p := ⟨b, 3, none⟩) (World.block_lt_of_cell? _ _ h.c3)).trans h.fz, h.k1.keep hk, h.k2.keep hk⟩

theorem tab_cells {w : World} {b : Nat} {s t : Ses} {k l : Value} (c0 : w.cell? ⟨b, 0, none⟩ = some (.int .i64 s.client)) (c1 : w.cell? ⟨b, 1, none⟩ = some (.int .i64 s.acked)) (c2 : w.cell? ⟨b, 2, none⟩ = some (.int .i64 s.seen)) (c3 : w.cell? ⟨b, 3, none⟩ = some k)
    (c4 : w.cell? ⟨b, 4, none⟩ = some (.int .i64 t.client)) (c5 : w.cell? ⟨b, 5, none⟩ = some (.int .i64 t.acked)) (c6 : w.cell? ⟨b, 6, none⟩ = some (.int .i64 t.seen)) (c7 : w.cell? ⟨b, 7, none⟩ = some l) (hk : KeptAt w k s.kept) (hl : KeptAt w l t.kept) :
    TabAt w (.slice (some ⟨b, 0, none⟩) 2 2) [s, t] := by
  refine ⟨[k, l], ⟨hk, hl, trivial⟩, rfl, by unfold maxLen; simp, .inr ⟨_, _, rfl, fun j u hu => ?_⟩⟩
  rw [Addr.add_lit, Nat.zero_add]
  match j, hu with
  | 0, hu => simp [sesCells] at hu; subst hu; exact c0
  | 1, hu => simp [sesCells] at hu; subst hu; exact c1
  | 2, hu => simp [sesCells] at hu; subst hu; exact c2
  | 3, hu => simp [sesCells] at hu; subst hu; exact c3
  | 4, hu => simp [sesCells] at hu; subst hu; exact c4
  | 5, hu => simp [sesCells] at hu; subst hu; exact c5
  | 6, hu => simp [sesCells] at hu; subst hu; exact c6
  | 7, hu => simp [sesCells] at hu; subst hu; exact c7

theorem ShopAt.tab {w : World} {b : Nat} {ka : Option Addr} {kc : Nat} {la : Option Addr} {lc : Nat} (h : ShopAt w b ka kc la lc) : TabAt w (.slice (some ⟨b, 0, none⟩) 2 2) [rowS 2, rowS 4] :=
  tab_cells h.c0 h.c1 h.c2 h.c3 h.c4 h.c5 h.c6 h.c7 h.k1 h.k2

set_option maxHeartbeats 2000000 in
theorem shop_c (w : World) : Calls Try.prog 38 #[] w fun e w' => ∃ b ka kc la lc, w.heap.size ≤ b ∧ ShopAt w' b ka kc la lc ∧ (KeptFar b w' (.slice la 2 lc) [(3, 7), (5, -1)]) ∧ e = .returned (stV shopS (.slice (some ⟨b, 0, none⟩) 2 2)) ∧ Keeps w w' := by
  go_enter Try.func38, Try.ntmps38
  go_wp2_with fail
  refine (row_at 2 _).mono ?_
  rintro e w1 ⟨g1, hg1, hl1, k1, rfl, hb⟩
  go_wp2_with fail
  refine (row_at 4 _).mono ?_
  rintro e w2 ⟨g2, hg2, hl2, k2, rfl, hb2⟩
  have hB := hb.trans hb2
  have k1 := k1.keep hb2
  have hg1' : g1 ≠ w.heap.size := by simp at hg1; omega
  have hg2' : g2 ≠ w.heap.size := by have := hb.size; simp at this; omega
  have hl1' : g1 < w2.heap.size := Nat.lt_of_lt_of_le hl1 hb2.size
  have hk2 : Keeps w w2 := ((Keeps.refl _).alloc _).trans hB
  have x0 : w2.cell? ⟨w.heap.size, 0, none⟩ = some (.int .i64 0) := cell_kept (by simp [go_sem]) hB
  have x1 : w2.cell? ⟨w.heap.size, 1, none⟩ = some (.int .i64 0) := cell_kept (by simp [go_sem]) hB
  have x2 : w2.cell? ⟨w.heap.size, 2, none⟩ = some (.int .i64 0) := cell_kept (by simp [go_sem]) hB
  have x3 : w2.cell? ⟨w.heap.size, 3, none⟩ = some (.int .i64 0) := cell_kept (by simp [go_sem]) hB
  have x4 : w2.cell? ⟨w.heap.size, 4, none⟩ = some (.int .i64 0) := cell_kept (by simp [go_sem]) hB
  have x5 : w2.cell? ⟨w.heap.size, 5, none⟩ = some (.int .i64 0) := cell_kept (by simp [go_sem]) hB
  have x6 : w2.cell? ⟨w.heap.size, 6, none⟩ = some (.slice none 0 0) := cell_kept (by simp [go_sem]) hB
  have xf : ∀ i, w2.frozen? ⟨w.heap.size, i, none⟩ = false := fun i => (Below.frozen hB (p := ⟨w.heap.size, i, none⟩) (by simp)).trans (by simp [go_sem])
  have hlt := World.block_lt_of_cell? _ _ x6
  simp only [] at hlt
  clear hb hb2 hB
  have K1 : Hid (KeptFar w.heap.size w2 (.slice (some ⟨g1, 0, none⟩) 2 2) [(3, 7), (5, -1)]) := kept_far_at k1 hg1' hl1'
  have K2 : Hid (KeptFar w.heap.size w2 (.slice (some ⟨g2, 0, none⟩) 2 2) [(3, 7), (5, -1)]) := kept_far_at k2 hg2' hl2
  clear k1 k2
  go_wp2_with fail
  refine bodyPost_ret (v := stV shopS (.slice (some ⟨w2.heap.size, 0, none⟩) 2 2)) ?_ rfl ?_
  · simp [results, Try.results38, go_sem, x0, x1, x2, x3, x4, x5, x6, hlt]
  · have hbt : But w.heap.size w2 ((((((((w2.setCell ⟨w.heap.size, 0, none⟩ (.int .i64 6)).setCell ⟨w.heap.size, 1, none⟩ (.int .i64 10)).setCell ⟨w.heap.size, 2, none⟩ (.int .i64 7)).setCell ⟨w.heap.size, 3, none⟩ (.int .i64 0)).setCell ⟨w.heap.size, 4, none⟩ (.int .i64 0)).setCell ⟨w.heap.size, 5, none⟩ (.int .i64 1)).setCell ⟨w.heap.size, 6, none⟩ (.slice (some ⟨w2.heap.size, 0, none⟩) 2 2))) :=
      (((((((But.refl _ _).set 0 _).set 1 _).set 2 _).set 3 _).set 4 _).set 5 _).set 6 _
    have hbu := hbt.keeps ((Keeps.refl _).alloc (.cells #[.int .i64 2, .int .i64 2, .int .i64 9, .slice (some ⟨g1, 0, none⟩) 2 2, .int .i64 4, .int .i64 2, .int .i64 9, .slice (some ⟨g2, 0, none⟩) 2 2] 59))
    have kk2 := K2.out _ hbu
    refine ⟨w2.heap.size, _, _, _, _, hk2.size, ⟨?_, ?_, ?_, ?_, ?_, ?_, ?_, ?_, ?_, K1.out _ hbu, kk2⟩, kept_far_at kk2 (by omega) (by simp; omega), rfl, But.to hk2 (Nat.le_refl _) hbu⟩
    all_goals simp [go_sem]
end Go.Proofs.Yteabfjpajgakiad

/- Two states are the same just if they are one. -/
namespace Go.Proofs.Yteabfjpajgakiad
open Go.RowKit

theorem same_kept_iff : ∀ {l m : List (Int × Int)}, sameKept l m = true ↔ l = m
  | [], [] => by simp [sameKept]
  | [], _ :: _ => by simp [sameKept]
  | _ :: _, [] => by simp [sameKept]
  | (q, v) :: r, (q', v') :: r' => by simp [sameKept, same_kept_iff (l := r) (m := r')]
theorem same_ses_iff {s t : Ses} : sameSes s t = true ↔ s = t := by
  obtain ⟨a, b, c, d⟩ := s
  obtain ⟨a', b', c', d'⟩ := t
  simp [sameSes, same_kept_iff]
theorem same_tab_iff : ∀ {L M : List Ses}, sameTab L M = true ↔ L = M
  | [], [] => by simp [sameTab]
  | [], _ :: _ => by simp [sameTab]
  | _ :: _, [] => by simp [sameTab]
  | s :: r, t :: r' => by simp [sameTab, same_ses_iff, same_tab_iff (L := r) (M := r')]
theorem same_st_iff {s t : St} : sameSt s t = true ↔ s = t := by
  obtain ⟨a, b, c, d, e, f, g⟩ := s
  obtain ⟨a', b', c', d', e', f', g'⟩ := t
  simp [sameSt, sameVals, same_tab_iff, and_assoc]
theorem same_self (t : St) : sameSt t t = true := same_st_iff.2 rfl
end Go.Proofs.Yteabfjpajgakiad

/- snapBegun. -/
set_option linter.unusedSimpArgs false
set_option linter.unusedVariables false
set_option maxRecDepth 10000
namespace Go.Proofs.Yteabfjpajgakiad
open Go.RowKit

theorem y_load25 {ops : Array Oper} {S : World → Prop} {op : Oper} {a : Act} (hw : Region.wanted op (yielded ops a.tmps) = true) {x : Operand} (ho : op.op = .load 25 x) (b : Nat) (hx : a.eval x = .pointer (some ⟨b, 0, none⟩)) {s : St} {p : Value} (hS : ∀ w, S w → CBox b (C7 s p) w) : YieldsIf Try.prog ops S op (stV s p) a := by
  obtain ⟨d, h1, h2⟩ := row25
  exact yieldsIf_load_mid hw _ x ho b _ hx _ d (fun w hs => range_of (hS w hs) 0 7 (ds := C7 s p) rfl) h1 h2 (info_size size25 rfl)
def badS : St := ⟨-1, 0, 0, 0, 0, 0, []⟩
theorem snap_runs : stErr shopS = 0 ∧ (stBs shopS).length = 34 ∧ stErr badS = 3 := by decide +kernel
theorem rd_of {s : St} (h : stErr s = 0) : rdS (stBs s) = s ∧ rdE (stBs s) = 0 := by
  have h1 := stBs_len h
  unfold rdS rdE
  rw [if_pos (by omega), if_pos (by omega), snOf_of h]
  exact ⟨rfl, rfl⟩
theorem rd_more {s : St} (h : stErr s = 0) (x : UInt8) : rdE (stBs s ++ [x]) = 1 := by
  have h1 := stBs_len h
  have h2 : snOf (stBs s ++ [x]) = none := by
    unfold snOf
    rw [rdSt_of s [x] (st_fit h).1]
  unfold rdE
  rw [if_pos (by rw [List.length_append]; simp; omega), h2]
  rfl
theorem shop_at (W : World) : Calls Try.prog 38 #[] W fun y w' => ∃ a c, TabAt w' (.slice a shopS.tab.length c) shopS.tab ∧ y = .returned (stV shopS (.slice a shopS.tab.length c)) ∧ Keeps W w' := by
  refine (shop_c W).mono ?_
  rintro y w' ⟨b, ka, kc, la, lc, h1, h2, h3, h4, h5⟩
  exact ⟨some ⟨b, 0, none⟩, 2, h2.tab, h4, h5⟩

set_option maxHeartbeats 4000000 in
theorem snap_begun (w : World) : Calls Try.prog 13 #[] w fun y w' => y = .returned (.bool true) ∧ Keeps w w' := by
  obtain ⟨p1, p2, p3⟩ := snap_runs
  obtain ⟨s1, hs1⟩ : ∃ z, z = bt (stBs shopS) := ⟨_, rfl⟩
  have hsz : s1.size = 34 := by rw [hs1, bt_size, p2]
  have HADD : Hid (s1 ++ ByteArray.mk #[120] = bt (stBs shopS ++ [120])) := by show _ = _; rw [hs1]; exact bt_append _ [120]
  have HW1 : Hid (∀ v W, TabAt W v shopS.tab → Calls Try.prog 9 #[stV shopS v] W fun y w' => y = .returned (.tuple #[.string s1, .int .i64 0]) ∧ Keeps W w') := fun v W h => by
    have := snap_write shopS v W h
    rw [show snBs shopS = stBs shopS from if_pos (by rw [p1]; rfl), p1, ← hs1] at this
    exact this
  have HW2 : Hid (∀ W, ∃ z, Calls Try.prog 9 #[stV badS (.slice none 0 0)] W fun y w' => y = .returned (.tuple #[.string z, .int .i64 3]) ∧ Keeps W w') := fun W => by
    have := snap_write badS (.slice none 0 0) W (OwnTab.nil 0 W).tab
    rw [p3] at this
    exact ⟨_, this⟩
  have HR1 : Hid (∀ W, Calls Try.prog 12 #[.string s1] W fun y w' => ∃ a c, TabAt w' (.slice a shopS.tab.length c) shopS.tab ∧ y = .returned (.tuple #[stV shopS (.slice a shopS.tab.length c), .int .i64 0]) ∧ Keeps W w') := fun W => by
    rw [hs1]
    refine (snap_read (stBs shopS) W).mono ?_
    obtain ⟨r1, r2⟩ := rd_of p1
    rw [r1, r2]
    rintro y w' ⟨a, c, h1, h2, h3⟩
    exact ⟨a, c, h1.tab, h2, h3⟩
  have HR2 : Hid (∀ W, Calls Try.prog 12 #[.string (bt (stBs shopS ++ [120]))] W fun y w' => ∃ z a c, y = .returned (.tuple #[stV z (.slice a z.tab.length c), .int .i64 1]) ∧ Keeps W w') := fun W => by
    refine (snap_read (stBs shopS ++ [120]) W).mono ?_
    rw [rd_more p1]
    rintro y w' ⟨a, c, h1, h2, h3⟩
    exact ⟨_, a, c, h2, h3⟩
  have HSM : Hid (∀ v v' W, TabAt W v shopS.tab → TabAt W v' shopS.tab → Calls Try.prog 14 #[stV shopS v, stV shopS v'] W fun e w' => e = .returned (.bool true) ∧ Keeps W w') := fun v v' W h h' => by
    have := same_of shopS shopS v v' W h h'
    rw [same_self] at this
    exact this
  have HSH : Hid (∀ W, Calls Try.prog 38 #[] W fun y w' => ∃ a c, TabAt w' (.slice a shopS.tab.length c) shopS.tab ∧ y = .returned (stV shopS (.slice a shopS.tab.length c)) ∧ Keeps W w') := fun W => shop_at W
  have HBS : Hid (badS = ⟨-1, 0, 0, 0, 0, 0, []⟩) := rfl
  clear p1 p2 p3 hs1
  generalize hsh : shopS = sh at *
  clear hsh
  go_enter Try.func13, Try.ntmps13
  go_wp2_with fail
  refine (HSH.out w).mono ?_
  rintro y w1 ⟨a1, c1, h1, rfl, hb⟩
  have HK1 : Hid (Keeps w w1) := hb
  have HT1 : Hid (TabAt w1 (.slice a1 sh.tab.length c1) sh.tab) := h1
  clear hb h1
  go_wp2_with fail
  refine (HW1.out _ w1 HT1.out).mono ?_
  rintro y w2 ⟨rfl, hb⟩
  have HK2 : Hid (Keeps w w2) := HK1.out.trans hb
  clear hb HK1 HT1 HW1
  go_wp2_with fail
  refine (HR1.out w2).mono ?_
  rintro y w3 ⟨a3, c3, h3, rfl, hb⟩
  have HK3 : Hid (Keeps w w3) := HK2.out.trans hb
  have HT3 : Hid (TabAt w3 (.slice a3 sh.tab.length c3) sh.tab) := h3
  clear hb h3 HK2 HR1
  go_wp2_with (first | (refine alloc25 rfl rfl ?_; intro w4 sb hBs hks hls hgs) | (refine store25 rfl rfl sb rfl sh a3 sh.tab.length c3 rfl hBs ?_; intro w5 hS5 hT5))
  have k35 : Keeps w3 w5 := But.to hks hgs hT5
  have HK5 : Hid (Keeps w w5) := HK3.out.trans k35
  have HT5 : Hid (TabAt w5 (.slice a3 sh.tab.length c3) sh.tab) := HT3.out.keep k35
  have HS5 : Hid (CBox sb (C7 sh (.slice a3 sh.tab.length c3)) w5) := hS5
  clear k35 hBs hks hls hgs hS5 hT5 HK3 HT3
  rw [HADD.out]
  refine (HR2.out w5).mono ?_
  rintro y w6 ⟨z, a6, c6, rfl, hb⟩
  have HK6 : Hid (Keeps w w6) := HK5.out.trans hb
  have HT6 : Hid (TabAt w6 (.slice a3 sh.tab.length c3) sh.tab) := HT5.out.keep hb
  have HS6 : Hid (CBox sb (C7 sh (.slice a3 sh.tab.length c3)) w6) := HS5.out.keep hb (Nat.le_of_ble_eq_true rfl)
  clear hb HK5 HT5 HS5 HR2
  go_wp2_with (first | (refine alloc25 rfl rfl ?_; intro w7 xb hBx hkx hlx hgx) | (refine store25 rfl rfl xb rfl z a6 z.tab.length c6 rfl hBx ?_; intro w8 hS8 hT8))
  have k68 : Keeps w6 w8 := But.to hkx hgx hT8
  have HK8 : Hid (Keeps w w8) := HK6.out.trans k68
  have HT8 : Hid (TabAt w8 (.slice a3 sh.tab.length c3) sh.tab) := HT6.out.keep k68
  have HS8 : Hid (CBox sb (C7 sh (.slice a3 sh.tab.length c3)) w8) := HS6.out.keep k68 (Nat.le_of_ble_eq_true rfl)
  clear k68 hBx hkx hlx hgx hS8 hT8 HK6 HT6 HS6
  obtain ⟨z9, h9⟩ := HW2.out w8
  rw [HBS.out] at h9
  refine h9.mono ?_
  rintro y w9 ⟨rfl, hb⟩
  have HK9 : Hid (Keeps w w9) := HK8.out.trans hb
  have HT9 : Hid (TabAt w9 (.slice a3 sh.tab.length c3) sh.tab) := HT8.out.keep hb
  have HS9 : Hid (CBox sb (C7 sh (.slice a3 sh.tab.length c3)) w9) := HS8.out.keep hb (Nat.le_of_ble_eq_true rfl)
  clear hb h9 HK8 HT8 HS8 HW2
  have hq : ((s1.size : Int) == 34) = true := by rw [hsz]; rfl
  clear hsz
  go_wp2_with fail
  refine wp_region_held_drew (S := fun W => Keeps w9 W) (by kernel_rfl) (Keeps.refl _).drew (fun hS => ?_)
  obtain ⟨V0, hV0⟩ : ∃ z, z = w9.drew := ⟨_, rfl⟩
  rw [← hV0] at hS ⊢
  clear hV0
  refine wpAnyH_take (i := 0) (v := .int .i64 0) rfl (by kernel_rfl) (by kernel_rfl) (by kernel_rfl) (fun _ _ _ h => h) (Or.inl ⟨by kernel_rfl, fun w _ => by kernel_rfl⟩) hS ?_
  refine wpAnyH_take (i := 1) (v := .bool true) rfl (by kernel_rfl) (by kernel_rfl) (by kernel_rfl) (fun _ _ _ h => h) (Or.inl ⟨by kernel_rfl, fun w _ => by kernel_rfl⟩) hS ?_
  refine wpAnyH_take (i := 2) (v := .bool true) rfl (by kernel_rfl) (by kernel_rfl) (by kernel_rfl) (fun _ _ _ h => h) (Or.inl ⟨by kernel_rfl, fun w _ => by kernel_rfl⟩) hS ?_
  refine wpAnyH_take (i := 3) (v := .int .i64 0) rfl (by kernel_rfl) (by kernel_rfl) (by kernel_rfl) (fun _ _ _ h => h) (Or.inl ⟨by kernel_rfl, fun w _ => by kernel_rfl⟩) hS ?_
  refine wpAnyH_take (i := 4) (v := .bool true) rfl (by kernel_rfl) (by kernel_rfl) (by kernel_rfl) (fun _ _ _ h => h) (Or.inl ⟨by kernel_rfl, fun w _ => by kernel_rfl⟩) hS ?_
  refine wpAnyH_take (i := 5) (v := .bool true) rfl (by kernel_rfl) (by kernel_rfl) (by kernel_rfl) (fun _ _ _ h => h) (Or.inl ⟨by kernel_rfl, fun w _ => by kernel_rfl⟩) hS ?_
  refine wpAnyH_take (i := 6) (v := .bool true) rfl (by kernel_rfl) (by kernel_rfl) (by kernel_rfl) (fun _ _ _ h => h) (Or.inl ⟨by kernel_rfl, fun w _ => by kernel_rfl⟩) hS ?_
  refine wpAnyH_take (i := 7) (v := .int .i64 1) rfl (by kernel_rfl) (by kernel_rfl) (by kernel_rfl) (fun _ _ _ h => h) (Or.inl ⟨by kernel_rfl, fun w _ => by kernel_rfl⟩) hS ?_
  refine wpAnyH_take (i := 8) (v := .bool true) rfl (by kernel_rfl) (by kernel_rfl) (by kernel_rfl) (fun _ _ _ h => h) (Or.inl ⟨by kernel_rfl, fun w _ => by kernel_rfl⟩) hS ?_
  refine wpAnyH_take (i := 9) (v := .bool true) rfl (by kernel_rfl) (by kernel_rfl) (by kernel_rfl) (fun _ _ _ h => h) (Or.inl ⟨by kernel_rfl, fun w _ => by kernel_rfl⟩) hS ?_
  refine wpAnyH_take (i := 10) (v := .bool true) rfl (by kernel_rfl) (by kernel_rfl) (by kernel_rfl) (fun _ _ _ h => h) (Or.inl ⟨by kernel_rfl, fun w _ => by kernel_rfl⟩) hS ?_
  refine wpAnyH_take (i := 11) (v := .int .i64 3) rfl (by kernel_rfl) (by kernel_rfl) (by kernel_rfl) (fun _ _ _ h => h) (Or.inl ⟨by kernel_rfl, fun w _ => by kernel_rfl⟩) hS ?_
  refine wpAnyH_take (i := 12) (v := .bool true) rfl (by kernel_rfl) (by kernel_rfl) (by kernel_rfl) (fun _ _ _ h => h) (Or.inl ⟨by kernel_rfl, fun w _ => by kernel_rfl⟩) hS ?_
  refine wpAnyH_take (i := 13) (v := .bool true) rfl (by kernel_rfl) (by kernel_rfl) (by kernel_rfl) (fun _ _ _ h => h) (Or.inl ⟨by kernel_rfl, fun w _ => by kernel_rfl⟩) hS ?_
  refine wpAnyH_take (i := 14) (v := .bool true) rfl (by kernel_rfl) (by kernel_rfl) (by kernel_rfl) (fun _ _ _ h => h) (Or.inl ⟨by kernel_rfl, fun w _ => by kernel_rfl⟩) hS ?_
  refine wpAnyH_take (i := 15) (v := .string s1) rfl (by kernel_rfl) (by kernel_rfl) (by kernel_rfl) (fun _ _ _ h => h) (Or.inl ⟨by kernel_rfl, fun w _ => by kernel_rfl⟩) hS ?_
  refine wpAnyH_take (i := 16) (v := .int .i64 (s1.size : Int)) rfl (by kernel_rfl) (by kernel_rfl) (by kernel_rfl) (fun _ _ _ h => h) (Or.inl ⟨by kernel_rfl, fun w _ => by kernel_rfl⟩) hS ?_
  refine wpAnyH_take (i := 17) (v := .bool true) rfl (by kernel_rfl) (by kernel_rfl) (by kernel_rfl) (fun _ _ _ h => h) (Or.inl ⟨by kernel_rfl, fun w _ => Eq.trans (b := .ok (.value (.bool ((s1.size : Int) == 34))) w) (by kernel_rfl) (by rw [hq])⟩) hS ?_
  refine wpAnyH_take (i := 18) (v := .bool true) rfl (by kernel_rfl) (by kernel_rfl) (by kernel_rfl) (fun _ _ _ h => h) (Or.inl ⟨by kernel_rfl, fun w _ => by kernel_rfl⟩) hS ?_
  refine wpAnyH_take (i := 19) (v := .bool true) rfl (by kernel_rfl) (by kernel_rfl) (by kernel_rfl) (fun _ _ _ h => h) (Or.inl ⟨by kernel_rfl, fun w _ => by kernel_rfl⟩) hS ?_
  refine wpAnyH_take (i := 20) (v := stV sh (.slice a3 sh.tab.length c3)) rfl (by kernel_rfl) (by kernel_rfl) (by kernel_rfl) (fun _ _ _ h => h) (y_load25 (by kernel_rfl) rfl sb (by kernel_rfl) (fun W h => HS9.out.keep h (Nat.le_of_ble_eq_true rfl))) hS ?_
  refine wpAnyH_ready (rs := [21]) (by kernel_rfl) (by simp) ?_
  refine AllReadyH.wrp rfl (by kernel_rfl) (fun K hK => ?_) (AllReadyH.nil)
  refine h_call ?_
  go_simp
  refine (HSH.out _).mono ?_
  rintro y x1 ⟨a5, c5, h5, rfl, hb⟩
  go_simp
  refine hK.out _ _ (hS.trans hb) (fun hS => ?_)
  clear hK K
  clear hb
  refine wpAnyH_ready (rs := [22]) (by kernel_rfl) (by simp) ?_
  refine AllReadyH.wrp rfl (by kernel_rfl) (fun K hK => ?_) (AllReadyH.nil)
  refine h_call ?_
  go_simp
  refine (HSM.out _ _ _ (HT9.out.keep hS) h5).mono ?_
  rintro y x2 ⟨rfl, hb⟩
  go_simp
  refine hK.out _ _ (hS.trans hb) (fun hS => ?_)
  clear hK K
  clear hb
  refine wpAnyH_ready (rs := [23]) (by kernel_rfl) (by simp) ?_
  refine AllReadyH.wrp rfl (by kernel_rfl) (fun K hK => ?_) (AllReadyH.nil)
  refine h_call ?_
  go_simp
  refine hK.out _ _ hS (fun hS => ?_)
  clear hK K
  refine wpAnyH_take (i := 24) (v := .bool true) rfl (by kernel_rfl) (by kernel_rfl) (by kernel_rfl) (fun _ _ _ h => h) (Or.inl ⟨by kernel_rfl, fun w _ => by kernel_rfl⟩) hS ?_
  refine wpAnyH_done (by kernel_rfl) ?_ _
  go_wp2_with fail
  go_ret
  exact ⟨rfl, HK9.out.trans hS⟩
end Go.Proofs.Yteabfjpajgakiad

/- States: Same, with slices.Equal and slices.EqualFunc. -/
set_option linter.unusedSimpArgs false
set_option linter.unusedVariables false
set_option maxRecDepth 10000
namespace Go.Proofs.Yteabfjpajgakiad
open Go.RowKit

set_option maxHeartbeats 2000000 in
theorem eq_reps (l m : List (Int × Int)) (v v' : Value) (w : World) (h1 : KeptAt w v l) (h2 : KeptAt w v' m) :
    Calls Try.prog 66 #[v, v'] w fun e w' => e = .returned (.bool (sameKept l m)) ∧ Keeps w w' := by
  obtain ⟨a, cap, rfl, hlen⟩ := h1.len
  obtain ⟨a', cap', rfl, hlen'⟩ := h2.len
  unfold maxLen at hlen hlen'
  have H1 : Hid (KeptAt w (.slice a l.length cap) l) := h1
  have H2 : Hid (KeptAt w (.slice a' m.length cap') m) := h2
  clear h1 h2
  by_cases hl : l.length = m.length
  case neg =>
    have q : ((l.length : Int) != (m.length : Int)) = true := by simp; omega
    have HE : Hid (sameKept l m = false) := sameKept_len hl
    clear hl
    go_enter Try.func66, Try.ntmps66
    go_wp2_with fail
    go_ret
    exact ⟨by rw [HE.out]; rfl, Keeps.refl _⟩
  case pos =>
    have q : ((l.length : Int) != (m.length : Int)) = false := by simp [hl]
    have HL : Hid (l.length = m.length) := hl
    clear hl
    go_enter Try.func66, Try.ntmps66
    go_wp2_with fail
    go_loopw [13] (fun i wr => ∃ (k : Nat), k ≤ l.length ∧ i = .int .i64 k ∧ Keeps w wr ∧ Hid (sameKept l m = sameKept (l.drop k) (m.drop k))) (fun i _ => l.length - (intOf i).toNat)
    case atStart => exact ⟨0, Nat.zero_le _, rfl, Keeps.refl _, rfl⟩
    case round =>
      obtain ⟨k, hk, rfl, hkw, HQ⟩ := hrel
      by_cases hlt : k < l.length
      · have hlt' : k < m.length := by rw [← HL.out]; exact hlt
        obtain ⟨b, off, cp, hv, _, hcell⟩ := (H1.out.keep hkw).at hlt
        injection hv with hv1 hv2 hv3
        subst hv1
        clear hv2 hv3
        obtain ⟨b', off', cp', hv, _, hcell'⟩ := (H2.out.keep hkw).at hlt'
        injection hv with hv1 hv2 hv3
        subst hv1
        clear hv2 hv3
        obtain ⟨c0, c1⟩ := hcell k hlt
        obtain ⟨d0, d1⟩ := hcell' k hlt'
        clear hcell hcell'
        have HR : Hid (sameKept l m = (((l[k]).1 == (m[k]).1 && (l[k]).2 == (m[k]).2) && sameKept (l.drop (k + 1)) (m.drop (k + 1)))) := HQ.out.trans (sameKept_at hlt hlt')
        clear HQ
        generalize (l[k]).1 = q at *
        generalize (l[k]).2 = v at *
        generalize (m[k]).1 = q' at *
        generalize (m[k]).2 = v' at *
        have hn := neq61
        cases hb : (q == q' && v == v') with
        | false =>
          have HE : Hid (sameKept l m = false) := by show _ = _; rw [HR.out, hb]; rfl
          have hb' : (!(q == q' && v == v')) = true := by rw [hb]; rfl
          go_wp2_with fail
          go_quiet (fail)
          go_wp2_with fail
          all_goals go_ret
          all_goals exact ⟨by rw [HE.out]; rfl, hkw.drewN _⟩
        | true =>
          have HN : Hid (sameKept l m = sameKept (l.drop (k + 1)) (m.drop (k + 1))) := by show _ = _; rw [HR.out, hb]; rfl
          have hb' : (!(q == q' && v == v')) = false := by rw [hb]; rfl
          go_wp2_with fail
          go_quiet (fail)
          go_wp2_with fail
          go_roundw
          case rel => exact ⟨k + 1, by omega, by go_num, hkw.drewN _, HN⟩
          case measure => simp [intOf]; omega
      · have HE : Hid (sameKept l m = true) := HQ.out.trans (by rw [List.drop_of_length_le (by omega), List.drop_of_length_le (by rw [← HL.out]; omega)]; rfl)
        go_wp2_with fail
        go_ret
        exact ⟨by rw [HE.out]; rfl, hkw⟩

set_option maxHeartbeats 2000000 in
theorem st_same_session (s t : Ses) (kv kv' : Value) (w : World) (h1 : KeptAt w kv s.kept) (h2 : KeptAt w kv' t.kept) :
    Calls Try.prog 43 #[sesV s kv, sesV t kv'] w fun e w' => e = .returned (.bool (sameSes s t)) ∧ Keeps w w' := by
  obtain ⟨a, cap, rfl, hlen⟩ := h1.len
  obtain ⟨a', cap', rfl, hlen'⟩ := h2.len
  have HP : Hid (∀ W, Keeps w W → Calls Try.prog 66 #[.slice a s.kept.length cap, .slice a' t.kept.length cap'] W fun e w' => e = .returned (.bool (sameKept s.kept t.kept)) ∧ Keeps W w') := fun W hk => eq_reps _ _ _ _ W (h1.keep hk) (h2.keep hk)
  clear h1 h2 hlen hlen'
  have HS : Hid (sameSes s t = (s.client == t.client && (s.acked == t.acked && (s.seen == t.seen && sameKept s.kept t.kept)))) := rfl
  generalize sameSes s t = R at *
  generalize sameKept s.kept t.kept = r at *
  generalize s.kept.length = n1 at *
  generalize t.kept.length = n2 at *
  cases q1 : (s.client == t.client) with
  | false =>
    have HE : R = false := by rw [HS.out, q1]; rfl
    subst HE
    clear HS
    go_enter Try.func43, Try.ntmps43
    go_wp2_with fail
    go_ret
    exact ⟨rfl, ((Keeps.refl _).alloc _).alloc _⟩
  | true =>
    cases q2 : (s.acked == t.acked) with
    | false =>
      have HE : R = false := by rw [HS.out, q1, q2]; rfl
      subst HE
      clear HS
      go_enter Try.func43, Try.ntmps43
      go_wp2_with fail
      go_ret
      exact ⟨rfl, ((Keeps.refl _).alloc _).alloc _⟩
    | true =>
      cases q3 : (s.seen == t.seen) with
      | false =>
        have HE : R = false := by rw [HS.out, q1, q2, q3]; rfl
        subst HE
        clear HS
        go_enter Try.func43, Try.ntmps43
        go_wp2_with fail
        go_ret
        exact ⟨rfl, ((Keeps.refl _).alloc _).alloc _⟩
      | true =>
        have HE : R = r := by rw [HS.out, q1, q2, q3]; rfl
        subst HE
        clear HS
        go_enter Try.func43, Try.ntmps43
        go_wp2_with fail
        refine (HP.out _ (((Keeps.refl _).alloc _).alloc _)).mono ?_
        rintro e w1 ⟨rfl, hb⟩
        have hk1 : Keeps w w1 := (((Keeps.refl _).alloc _).alloc _).trans hb
        clear hb HP
        go_wp2_with fail
        go_ret
        exact ⟨rfl, hk1⟩

theorem fnc31 (args : Array Value) (W : World) : (callFunc 43 args).run Try.prog W = .ok (.enter 43 args) W := by kernel_rfl

set_option maxHeartbeats 2000000 in
theorem eq_func (L M : List Ses) (v v' : Value) (w : World) (h1 : TabAt w v L) (h2 : TabAt w v' M) :
    Calls Try.prog 42 #[v, v', .func (.func 43) #[] #[]] w fun e w' => e = .returned (.bool (sameTab L M)) ∧ Keeps w w' := by
  obtain ⟨a, cap, rfl, hlen⟩ := h1.len
  obtain ⟨a', cap', rfl, hlen'⟩ := h2.len
  unfold maxLen at hlen hlen'
  have H1 : Hid (TabAt w (.slice a L.length cap) L) := h1
  have H2 : Hid (TabAt w (.slice a' M.length cap') M) := h2
  clear h1 h2
  have hf := fnc31
  by_cases hl : L.length = M.length
  case neg =>
    have q : ((L.length : Int) != (M.length : Int)) = true := by simp; omega
    have HE : Hid (sameTab L M = false) := sameTab_len hl
    clear hl
    go_enter Try.func42, Try.ntmps42
    go_wp2_with fail
    go_ret
    exact ⟨by rw [HE.out]; rfl, Keeps.refl _⟩
  case pos =>
    have q : ((L.length : Int) != (M.length : Int)) = false := by simp [hl]
    have HL : Hid (L.length = M.length) := hl
    clear hl
    go_enter Try.func42, Try.ntmps42
    go_wp2_with fail
    go_loopw [17] (fun i wr => ∃ (k : Nat), k ≤ L.length ∧ i = .int .i64 k ∧ Keeps w wr ∧ Hid (sameTab L M = sameTab (L.drop k) (M.drop k))) (fun i _ => L.length - (intOf i).toNat)
    case atStart => exact ⟨0, Nat.zero_le _, rfl, Keeps.refl _, rfl⟩
    case round =>
      obtain ⟨k, hk, rfl, hkw, HQ⟩ := hrel
      by_cases hlt : k < L.length
      · have hlt' : k < M.length := by rw [← HL.out]; exact hlt
        obtain ⟨b, off, cp, hv, hcell⟩ := (H1.out.keep hkw).at hlt
        injection hv with hv1 hv2 hv3
        subst hv1
        clear hv2 hv3
        obtain ⟨b', off', cp', hv, hcell'⟩ := (H2.out.keep hkw).at hlt'
        injection hv with hv1 hv2 hv3
        subst hv1
        clear hv2 hv3
        obtain ⟨c0, c1, c2, ka, kc, c3, hkv⟩ := hcell k hlt
        obtain ⟨d0, d1, d2, ka', kc', d3, hkv'⟩ := hcell' k hlt'
        clear hcell hcell'
        have hB := World.block_lt_of_cell? _ _ c0
        have hB' := World.block_lt_of_cell? _ _ d0
        simp only [] at hB hB'
        have HK1 : Hid (KeptAt wr (.slice ka (L[k]).kept.length kc) (L[k]).kept) := hkv
        have HK2 : Hid (KeptAt wr (.slice ka' (M[k]).kept.length kc') (M[k]).kept) := hkv'
        clear hkv hkv'
        have HR : Hid (sameTab L M = (sameSes (L[k]) (M[k]) && sameTab (L.drop (k + 1)) (M.drop (k + 1)))) := HQ.out.trans (sameTab_at hlt hlt')
        clear HQ
        generalize L[k] = s at *
        generalize M[k] = t at *
        go_wp2_with fail
        refine (st_same_session s t _ _ _ (HK1.out.keep (((Keeps.refl _).alloc _).alloc _)) (HK2.out.keep (((Keeps.refl _).alloc _).alloc _))).mono ?_
        rintro e w1 ⟨rfl, hb0⟩
        have hk1 : Keeps w w1 := ((hkw.alloc _).alloc _).trans hb0
        clear hb0 HK1 HK2
        cases hb : sameSes s t with
        | false =>
          have HE : Hid (sameTab L M = false) := by show _ = _; rw [HR.out, hb]; rfl
          go_wp2_with fail
          go_ret
          exact ⟨by rw [HE.out]; rfl, hk1⟩
        | true =>
          have HN : Hid (sameTab L M = sameTab (L.drop (k + 1)) (M.drop (k + 1))) := by show _ = _; rw [HR.out, hb]; rfl
          go_wp2_with fail
          go_roundw
          case rel => exact ⟨k + 1, by omega, by go_num, hk1, HN⟩
          case measure => simp [intOf]; omega
      · have HE : Hid (sameTab L M = true) := HQ.out.trans (by rw [List.drop_of_length_le (by omega), List.drop_of_length_le (by rw [← HL.out]; omega)]; rfl)
        go_wp2_with fail
        go_ret
        exact ⟨by rw [HE.out]; rfl, hkw⟩

set_option maxHeartbeats 2000000 in
theorem state_same (s t : St) (x y : Value) (w : World) (h1 : TabAt w x s.tab) (h2 : TabAt w y t.tab) :
    Calls Try.prog 16 #[stV s x, stV t y] w fun e w' => e = .returned (.bool (sameSt s t)) ∧ Keeps w w' := by
  obtain ⟨a, c, rfl, _⟩ := h1.len
  obtain ⟨a', c', rfl, _⟩ := h2.len
  have HP : Hid (∀ W, Keeps w W → Calls Try.prog 42 #[.slice a s.tab.length c, .slice a' t.tab.length c', .func (.func 43) #[] #[]] W fun e w' => e = .returned (.bool (sameTab s.tab t.tab)) ∧ Keeps W w') := fun W hk => eq_func _ _ _ _ W (h1.keep hk) (h2.keep hk)
  clear h1 h2
  have HS : Hid (sameSt s t = (s.at_ == t.at_ && (s.clock == t.clock && ((s.v0 == t.v0 && (s.v1 == t.v1 && (s.v2 == t.v2 && s.v3 == t.v3))) && sameTab s.tab t.tab)))) := rfl
  generalize sameSt s t = R at *
  generalize sameTab s.tab t.tab = r at *
  generalize s.tab.length = n1 at *
  generalize t.tab.length = n2 at *
  have he := eql22
  cases q1 : (s.at_ == t.at_) with
  | false =>
    have HE : R = false := by rw [HS.out, q1]; rfl
    subst HE
    clear HS
    go_enter Try.func16, Try.ntmps16
    go_wp2_with fail
    go_ret
    exact ⟨rfl, ((Keeps.refl _).alloc _).alloc _⟩
  | true =>
    cases q2 : (s.clock == t.clock) with
    | false =>
      have HE : R = false := by rw [HS.out, q1, q2]; rfl
      subst HE
      clear HS
      go_enter Try.func16, Try.ntmps16
      go_wp2_with fail
      go_ret
      exact ⟨rfl, ((Keeps.refl _).alloc _).alloc _⟩
    | true =>
      cases q3 : (s.v0 == t.v0 && (s.v1 == t.v1 && (s.v2 == t.v2 && s.v3 == t.v3))) with
      | false =>
        have HE : R = false := by rw [HS.out, q1, q2, q3]; rfl
        subst HE
        clear HS
        go_enter Try.func16, Try.ntmps16
        go_wp2_with fail
        go_ret
        exact ⟨rfl, ((Keeps.refl _).alloc _).alloc _⟩
      | true =>
        have HE : R = r := by rw [HS.out, q1, q2, q3]; rfl
        subst HE
        clear HS
        go_enter Try.func16, Try.ntmps16
        go_wp2_with fail
        refine (HP.out _ (((Keeps.refl _).alloc _).alloc _)).mono ?_
        rintro e w1 ⟨rfl, hb⟩
        have hk1 : Keeps w w1 := (((Keeps.refl _).alloc _).alloc _).trans hb
        clear hb HP
        go_wp2_with fail
        go_ret
        exact ⟨rfl, hk1⟩
end Go.Proofs.Yteabfjpajgakiad

/- SnapOne, SnapBack: the walks. -/
set_option linter.unusedSimpArgs false
set_option linter.unusedVariables false
set_option maxRecDepth 10000
namespace Go.Proofs.Yteabfjpajgakiad
open Go.RowKit

set_option maxHeartbeats 4000000 in
theorem snap_one (s t : St) (x y : Value) (w : World) (hX : TabAt w x s.tab) (hY : TabAt w y t.tab) : Calls Try.prog 5 #[stV s x, stV t y] w fun e w' => e = .returned (.bool true) ∧ Keeps w w' := by
  obtain ⟨xa, xc, rfl, _⟩ := hX.len
  obtain ⟨ya, yc, rfl, _⟩ := hY.len
  have HX : Hid (TabAt w (.slice xa s.tab.length xc) s.tab) := hX
  have HY : Hid (TabAt w (.slice ya t.tab.length yc) t.tab) := hY
  clear hX hY
  have HW1 : Hid (∀ W, Keeps w W → Calls Try.prog 9 #[stV s (.slice xa s.tab.length xc)] W fun y w' => y = .returned (.tuple #[.string (bt (snBs s)), .int .i64 (stErr s)]) ∧ Keeps W w') := fun W hk => snap_write s _ W (HX.out.keep hk)
  have HW2 : Hid (∀ W, Keeps w W → Calls Try.prog 9 #[stV t (.slice ya t.tab.length yc)] W fun y w' => y = .returned (.tuple #[.string (bt (snBs t)), .int .i64 (stErr t)]) ∧ Keeps W w') := fun W hk => snap_write t _ W (HY.out.keep hk)
  have HQ : Hid (stErr s = 0 → stErr t = 0 → ((bt (snBs s)).toList == (bt (snBs t)).toList) = sameSt s t) := fun h1 h2 => by
    rw [bt_list, bt_list, show snBs s = stBs s from if_pos (by rw [h1]; rfl), show snBs t = stBs t from if_pos (by rw [h2]; rfl)]
    cases q : sameSt s t with
    | true =>
      rw [same_st_iff.1 q]
      exact beq_self_eq_true _
    | false =>
      have hne : ¬ s = t := fun e => by rw [e, same_self] at q; cases q
      exact beq_false_of_ne (fun e => hne (stBs_inj h1 h2 e))
  have HS1 : Hid (∀ W, Keeps w W → Calls Try.prog 16 #[stV s (.slice xa s.tab.length xc), stV t (.slice ya t.tab.length yc)] W fun e w' => e = .returned (.bool (sameSt s t)) ∧ Keeps W w') := fun W hk => state_same s t _ _ W (HX.out.keep hk) (HY.out.keep hk)
  have HS2 : Hid (∀ W, Keeps w W → Calls Try.prog 14 #[stV s (.slice xa s.tab.length xc), stV t (.slice ya t.tab.length yc)] W fun e w' => e = .returned (.bool (sameSt s t)) ∧ Keeps W w') := fun W hk => same_of s t _ _ W (HX.out.keep hk) (HY.out.keep hk)
  generalize bt (snBs s) = bs at *
  generalize bt (snBs t) = bt' at *
  generalize sameSt s t = qq at *
  generalize stErr s = es at *
  generalize stErr t = et at *
  go_enter Try.func5, Try.ntmps5
  go_wp2_with (first | (have _h := hBx; refine box25 rfl rfl (s := t) (p := .slice ya t.tab.length yc) rfl ?_; intro w2 yb hBy hky hly hgy) | (refine box25 rfl rfl (s := s) (p := .slice xa s.tab.length xc) rfl ?_; intro w1 xb hBx hkx hlx hgx) | (refine load25 rfl rfl xb rfl (hBx.keep hky (Nat.le_of_ble_eq_true rfl)) ?_))
  have HK2 : Hid (Keeps w w2) := hkx.trans hky
  have HB2 : Hid (CBox xb (C7 s (.slice xa s.tab.length xc)) w2 ∧ CBox yb (C7 t (.slice ya t.tab.length yc)) w2) := ⟨hBx.keep hky (Nat.le_of_ble_eq_true rfl), hBy⟩
  clear hBx hkx hlx hgx hBy hky hly hgy
  refine (HW1.out w2 HK2.out).mono ?_
  rintro e w3 ⟨rfl, hb⟩
  have HK3 : Hid (Keeps w w3) := HK2.out.trans hb
  have HB3 : Hid (CBox xb (C7 s (.slice xa s.tab.length xc)) w3 ∧ CBox yb (C7 t (.slice ya t.tab.length yc)) w3) := ⟨HB2.out.1.keep hb (Nat.le_of_ble_eq_true rfl), HB2.out.2.keep hb (Nat.le_of_ble_eq_true rfl)⟩
  clear hb HK2 HB2 HW1
  go_wp2_with (first | (refine load25 rfl rfl yb rfl HB3.out.2 ?_))
  refine (HW2.out w3 HK3.out).mono ?_
  rintro e w4 ⟨rfl, hb⟩
  have HK4 : Hid (Keeps w w4) := HK3.out.trans hb
  have HB4 : Hid (CBox xb (C7 s (.slice xa s.tab.length xc)) w4 ∧ CBox yb (C7 t (.slice ya t.tab.length yc)) w4) := ⟨HB3.out.1.keep hb (Nat.le_of_ble_eq_true rfl), HB3.out.2.keep hb (Nat.le_of_ble_eq_true rfl)⟩
  clear hb HK3 HB3 HW2
  cases qs : (es == 0) with
  | false =>
    have qs' : (es != 0) = true := by simp [bne, qs]
    go_wp2_with fail
    refine (snap_begun w4).mono ?_
    rintro y wz ⟨rfl, hb⟩
    go_wp2_with fail
    go_ret
    exact ⟨rfl, HK4.out.trans hb⟩
  | true =>
    have qs' : (es != 0) = false := by simp [bne, qs]
    have s0 : es = 0 := by simpa using qs
    cases qt : (et == 0) with
    | false =>
      have qt' : (et != 0) = true := by simp [bne, qt]
      go_wp2_with fail
      refine (snap_begun w4).mono ?_
      rintro y wz ⟨rfl, hb⟩
      go_wp2_with fail
      go_ret
      exact ⟨rfl, HK4.out.trans hb⟩
    | true =>
      have qt' : (et != 0) = false := by simp [bne, qt]
      have t0 : et = 0 := by simpa using qt
      have hq := HQ.out s0 t0
      go_wp2_with fail
      refine (snap_begun w4).mono ?_
      rintro e w5 ⟨rfl, hb⟩
      have HK5 : Hid (Keeps w w5) := HK4.out.trans hb
      have HB5 : Hid (CBox xb (C7 s (.slice xa s.tab.length xc)) w5 ∧ CBox yb (C7 t (.slice ya t.tab.length yc)) w5) := ⟨HB4.out.1.keep hb (Nat.le_of_ble_eq_true rfl), HB4.out.2.keep hb (Nat.le_of_ble_eq_true rfl)⟩
      clear hb HK4 HB4
      go_wp2_with (first | (refine load25w (by kernel_rfl) rfl xb rfl HB5.out.1 ?_) | (refine load25w (by kernel_rfl) rfl yb rfl HB5.out.2 ?_))
      refine (HS1.out w5 HK5.out).mono ?_
      rintro e w6 ⟨rfl, hb⟩
      have HK6 : Hid (Keeps w w6) := HK5.out.trans hb
      have HB6 : Hid (CBox xb (C7 s (.slice xa s.tab.length xc)) w6 ∧ CBox yb (C7 t (.slice ya t.tab.length yc)) w6) := ⟨HB5.out.1.keep hb (Nat.le_of_ble_eq_true rfl), HB5.out.2.keep hb (Nat.le_of_ble_eq_true rfl)⟩
      clear hb HK5 HB5 HS1
      go_wp2_with (first | (refine load25w (by kernel_rfl) rfl xb rfl HB6.out.1 ?_) | (refine load25w (by kernel_rfl) rfl yb rfl HB6.out.2 ?_))
      refine (HS2.out w6 HK6.out).mono ?_
      rintro e w7 ⟨rfl, hb⟩
      have HK7 : Hid (Keeps w w7) := HK6.out.trans hb
      clear hb HK6 HB6 HS2
      go_wp2_with fail
      go_ret
      exact ⟨by first | rfl | simp, HK7.out⟩

set_option maxHeartbeats 4000000 in
theorem snap_back (s : St) (l : List UInt8) (x : Value) (w : World) (hX : TabAt w x s.tab) : Calls Try.prog 4 #[stV s x, .string (bt l)] w fun e w' => e = .returned (.bool true) ∧ Keeps w w' := by
  obtain ⟨xa, xc, rfl, _⟩ := hX.len
  have HX : Hid (TabAt w (.slice xa s.tab.length xc) s.tab) := hX
  clear hX
  have HW1 : Hid (∀ W, Keeps w W → Calls Try.prog 9 #[stV s (.slice xa s.tab.length xc)] W fun y w' => y = .returned (.tuple #[.string (bt (snBs s)), .int .i64 (stErr s)]) ∧ Keeps W w') := fun W hk => snap_write s _ W (HX.out.keep hk)
  have HR1 : Hid (stErr s = 0 → ∀ W, Calls Try.prog 12 #[.string (bt (snBs s))] W fun y w' => ∃ a c, TabAt w' (.slice a s.tab.length c) s.tab ∧ y = .returned (.tuple #[stV s (.slice a s.tab.length c), .int .i64 0]) ∧ Keeps W w') := fun h W => by
    rw [show snBs s = stBs s from if_pos (by rw [h]; rfl)]
    refine (snap_read (stBs s) W).mono ?_
    obtain ⟨r1, r2⟩ := rd_of h
    rw [r1, r2]
    rintro y w' ⟨a, c, h1, h2, h3⟩
    exact ⟨a, c, h1.tab, h2, h3⟩
  have HSM : Hid (∀ v W, Keeps w W → TabAt W v s.tab → Calls Try.prog 14 #[stV s v, stV s (.slice xa s.tab.length xc)] W fun e w' => e = .returned (.bool true) ∧ Keeps W w') := fun v W hk h => by
    have := same_of s s v (.slice xa s.tab.length xc) W h (HX.out.keep hk)
    rw [same_self] at this
    exact this
  have HR2 : Hid (∀ W, Calls Try.prog 12 #[.string (bt l)] W fun y w' => ∃ a c, TabAt w' (.slice a (rdS l).tab.length c) (rdS l).tab ∧ y = .returned (.tuple #[stV (rdS l) (.slice a (rdS l).tab.length c), .int .i64 (rdE l)]) ∧ Keeps W w') := fun W => by
    refine (snap_read l W).mono ?_
    rintro y w' ⟨a, c, h1, h2, h3⟩
    exact ⟨a, c, h1.tab, h2, h3⟩
  have HW2 : Hid (rdE l = 0 → ∀ v W, TabAt W v (rdS l).tab → Calls Try.prog 9 #[stV (rdS l) v] W fun y w' => y = .returned (.tuple #[.string (bt l), .int .i64 0]) ∧ Keeps W w') := fun h v W hT => by
    obtain ⟨h1, h2⟩ : stErr (rdS l) = 0 ∧ l = stBs (rdS l) := by
      unfold rdE at h
      unfold rdS
      split at h
      · rename_i h4
        rw [if_pos h4]
        split at h
        · rename_i hsn
          obtain ⟨t, ht⟩ := Option.isSome_iff_exists.1 hsn
          rw [ht]
          exact snOf_some ht
        · cases h
      · cases h
    have := snap_write (rdS l) v W hT
    rw [show snBs (rdS l) = stBs (rdS l) from if_pos (by rw [h1]; rfl), h1, ← h2] at this
    exact this
  generalize snBs s = bs at *
  generalize stErr s = es at *
  generalize rdS l = t at *
  generalize rdE l = re at *
  go_enter Try.func4, Try.ntmps4
  go_wp2_with (first | (refine box25 rfl rfl (s := s) (p := .slice xa s.tab.length xc) rfl ?_; intro w1 xb hBx hkx hlx hgx) | (refine load25 rfl rfl xb rfl hBx ?_))
  refine (HW1.out w1 hkx).mono ?_
  rintro e w2 ⟨rfl, hb⟩
  have HK2 : Hid (Keeps w w2) := hkx.trans hb
  have HB2 : Hid (CBox xb (C7 s (.slice xa s.tab.length xc)) w2) := hBx.keep hb (Nat.le_of_ble_eq_true rfl)
  clear hb hBx hkx hlx hgx HW1
  cases qs : (es == 0) with
  | false =>
    go_wp2_with fail
    refine (HR2.out w2).mono ?_
    rintro e u3 ⟨ya, yc, hT, rfl, hb⟩
    have HK3 : Hid (Keeps w u3) := HK2.out.trans hb
    have HT3 : Hid (TabAt u3 (.slice ya t.tab.length yc) t.tab) := hT
    clear hb hT HR2
    cases qr : (re == 0) with
    | false =>
      have qr' : (re != 0) = true := by simp [bne, qr]
      go_wp2_with (first | (refine alloc25 rfl rfl ?_; intro u4 yb hBy hky hly hgy) | (refine store25 rfl rfl yb rfl t ya t.tab.length yc rfl hBy ?_; intro u5 hS5 hT5))
      have HK5 : Hid (Keeps w u5) := HK3.out.trans (But.to hky hgy hT5)
      refine (snap_begun u5).mono ?_
      rintro y wz ⟨rfl, hb⟩
      go_wp2_with fail
      go_ret
      exact ⟨rfl, HK5.out.trans hb⟩
    | true =>
      have qr' : (re != 0) = false := by simp [bne, qr]
      have r0 : re = 0 := by simpa using qr
      have HW3 := HW2.out r0
      have HWn : Hid (∀ v W, TabAt W v t.tab → Calls Try.prog 9 #[stV t v] W fun y w' => y = .returned (.tuple #[.string (bt l), .int .i64 0]) ∧ Keeps W w') := HW3
      clear HW2 HW3
      go_wp2_with (first | (refine alloc25 rfl rfl ?_; intro u4 yb hBy hky hly hgy) | (refine store25 rfl rfl yb rfl t ya t.tab.length yc rfl hBy ?_; intro u5 hS5 hT5) | (refine load25 rfl rfl yb rfl hS5 ?_))
      have k35 : Keeps u3 u5 := But.to hky hgy hT5
      refine (HWn.out _ u5 (HT3.out.keep k35)).mono ?_
      rintro e u6 ⟨rfl, hb⟩
      have HK6 : Hid (Keeps w u6) := (HK3.out.trans k35).trans hb
      clear hb k35 hBy hky hly hgy hS5 hT5 HK3 HT3 HWn
      go_wp2_with fail
      refine (snap_begun u6).mono ?_
      rintro y wz ⟨rfl, hb⟩
      go_wp2_with fail
      go_ret
      exact ⟨rfl, HK6.out.trans hb⟩
  | true =>
    have s0 : es = 0 := by simpa using qs
    have HR3 := HR1.out s0
    have HRn : Hid (∀ W, Calls Try.prog 12 #[.string (bt bs)] W fun y w' => ∃ a c, TabAt w' (.slice a s.tab.length c) s.tab ∧ y = .returned (.tuple #[stV s (.slice a s.tab.length c), .int .i64 0]) ∧ Keeps W w') := HR3
    clear HR1 HR3
    go_wp2_with fail
    refine (HRn.out w2).mono ?_
    rintro e w3 ⟨za, zc, hT, rfl, hb⟩
    have HK3' : Hid (Keeps w w3) := HK2.out.trans hb
    have HT3' : Hid (TabAt w3 (.slice za s.tab.length zc) s.tab) := hT
    have HB3 : Hid (CBox xb (C7 s (.slice xa s.tab.length xc)) w3) := HB2.out.keep hb (Nat.le_of_ble_eq_true rfl)
    clear hb hT HK2 HB2 HRn
    go_wp2_with (first | (refine alloc25 rfl rfl ?_; intro w4 zb hBz hkz hlz hgz) | (refine store25 rfl rfl zb rfl s za s.tab.length zc rfl hBz ?_; intro w5 hS5 hT5) | (refine load25w (by kernel_rfl) rfl zb rfl hS5 ?_) | (refine load25w (by kernel_rfl) rfl xb rfl (HB3.out.keep (But.to hkz hgz hT5) (Nat.le_of_ble_eq_true rfl)) ?_))
    have k35 : Keeps w3 w5 := But.to hkz hgz hT5
    refine (HSM.out _ w5 (HK3'.out.trans k35) (HT3'.out.keep k35)).mono ?_
    rintro e w6 ⟨rfl, hb⟩
    have HK7 : Hid (Keeps w w6) := (HK3'.out.trans k35).trans hb
    clear hb k35 hBz hkz hlz hgz hS5 hT5 HK3' HT3' HB3 HSM
    go_wp2_with fail
    refine (HR2.out w6).mono ?_
    rintro e u3 ⟨ya, yc, hT, rfl, hb⟩
    have HK3 : Hid (Keeps w u3) := HK7.out.trans hb
    have HT3 : Hid (TabAt u3 (.slice ya t.tab.length yc) t.tab) := hT
    clear hb hT HR2
    cases qr : (re == 0) with
    | false =>
      have qr' : (re != 0) = true := by simp [bne, qr]
      go_wp2_with (first | (refine alloc25 rfl rfl ?_; intro u4 yb hBy hky hly hgy) | (refine store25 rfl rfl yb rfl t ya t.tab.length yc rfl hBy ?_; intro u5 hS5 hT5))
      have HK5 : Hid (Keeps w u5) := HK3.out.trans (But.to hky hgy hT5)
      refine (snap_begun u5).mono ?_
      rintro y wz ⟨rfl, hb⟩
      go_wp2_with fail
      go_ret
      exact ⟨rfl, HK5.out.trans hb⟩
    | true =>
      have qr' : (re != 0) = false := by simp [bne, qr]
      have r0 : re = 0 := by simpa using qr
      have HW3 := HW2.out r0
      have HWn : Hid (∀ v W, TabAt W v t.tab → Calls Try.prog 9 #[stV t v] W fun y w' => y = .returned (.tuple #[.string (bt l), .int .i64 0]) ∧ Keeps W w') := HW3
      clear HW2 HW3
      go_wp2_with (first | (refine alloc25 rfl rfl ?_; intro u4 yb hBy hky hly hgy) | (refine store25 rfl rfl yb rfl t ya t.tab.length yc rfl hBy ?_; intro u5 hS5 hT5) | (refine load25 rfl rfl yb rfl hS5 ?_))
      have k35 : Keeps u3 u5 := But.to hky hgy hT5
      refine (HWn.out _ u5 (HT3.out.keep k35)).mono ?_
      rintro e u6 ⟨rfl, hb⟩
      have HK6 : Hid (Keeps w u6) := (HK3.out.trans k35).trans hb
      clear hb k35 hBy hky hly hgy hS5 hT5 HK3 HT3 HWn
      go_wp2_with fail
      refine (snap_begun u6).mono ?_
      rintro y wz ⟨rfl, hb⟩
      go_wp2_with fail
      go_ret
      exact ⟨rfl, HK6.out.trans hb⟩
end Go.Proofs.Yteabfjpajgakiad

/- An argument that is a string. -/
set_option linter.unusedSimpArgs false
set_option linter.unusedVariables false
set_option maxRecDepth 100000
namespace Go.Proofs.Yteabfjpajgakiad
open Go.ChangeShapes Go.WideShapes Go.ChangeAt Go.RowKit Go.Joins

theorem open_str {w : World} {r : Reach} {b0 : Nat} {v : Value} (hv : Value.okWide Try.prog w r b0 9 v) : ∃ l, v = .string (bt l) := by
  obtain ⟨s, rfl⟩ := okWide_string Try.underlying9 hv
  exact ⟨s.data.toList, by cases s; simp [bt]⟩
end Go.Proofs.Yteabfjpajgakiad
