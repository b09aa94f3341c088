/- States: the law's shop, Begin. -/
import Derived.Test.YthjcnbimapgdnabStF
import Derived.Test.YthjcnbimapgdnabStD
import Derived.Test.YthjcnbimapgdnabPre
import Derived.Test.YthjcnbimapgdnabBut
set_option linter.unusedSimpArgs false
set_option linter.unusedVariables false
set_option maxRecDepth 10000
namespace Go.Proofs.Ythjcnbimapgdnab
open Go.RowKit

/-- A row of the law, and where its answers lie. -/
theorem row_at (c : Int) (w : World) : Calls Try.prog 46 #[.int .i64 c] w fun e w' => ∃ g, w.heap.size ≤ g ∧ g < w'.heap.size ∧ KeptAt w' (.slice (some ⟨g, 0, none⟩) 2 2) [(3, 7), (5, -1)] ∧ e = .returned (sesV (rowS c) (.slice (some ⟨g, 0, none⟩) 2 2)) ∧ Keeps w w' := by
  go_enter Try.func46, Try.ntmps46
  go_wp2_with fail
  refine bodyPost_ret (v := sesV (rowS c) (.slice (some ⟨w.heap.size + 1, 0, none⟩) 2 2)) ?_ rfl ?_
  · simp [results, Try.results46, go_sem]
  · refine ⟨w.heap.size + 1, by omega, by simp, ?_, rfl, ?_⟩
    · refine ⟨rfl, by unfold maxLen; simp, .inr ⟨_, _, rfl, fun j u hu => ?_⟩⟩
      rw [Addr.add_lit, Nat.zero_add]
      match j, hu with
      | 0, hu => simp [repCells] at hu; subst hu; simp [go_sem]
      | 1, hu => simp [repCells] at hu; subst hu; simp [go_sem]
      | 2, hu => simp [repCells] at hu; subst hu; simp [go_sem]
      | 3, hu => simp [repCells] at hu; subst hu; simp [go_sem]
    · exact ((Keeps.refl _).alloc _).alloc _

abbrev shopS : St := ⟨6, 10, 7, 0, 0, 1, [rowS 2, rowS 4]⟩

/-- Where the shop's table lies. -/
structure ShopAt (w : World) (b : Nat) (ka : Option Addr) (kc : Nat) (la : Option Addr) (lc : Nat) : Prop where
  c0 : w.cell? ⟨b, 0, none⟩ = some (.int .i64 2)
  c1 : w.cell? ⟨b, 1, none⟩ = some (.int .i64 2)
  c2 : w.cell? ⟨b, 2, none⟩ = some (.int .i64 9)
  c3 : w.cell? ⟨b, 3, none⟩ = some (.slice ka 2 kc)
  c4 : w.cell? ⟨b, 4, none⟩ = some (.int .i64 4)
  c5 : w.cell? ⟨b, 5, none⟩ = some (.int .i64 2)
  c6 : w.cell? ⟨b, 6, none⟩ = some (.int .i64 9)
  c7 : w.cell? ⟨b, 7, none⟩ = some (.slice la 2 lc)
  fz : w.frozen? ⟨b, 3, none⟩ = false
  k1 : KeptAt w (.slice ka 2 kc) [(3, 7), (5, -1)]
  k2 : KeptAt w (.slice la 2 lc) [(3, 7), (5, -1)]

theorem ShopAt.keep {w w' : World} {b : Nat} {ka : Option Addr} {kc : Nat} {la : Option Addr} {lc : Nat} (h : ShopAt w b ka kc la lc) (hk : Keeps w w') : ShopAt w' b ka kc la lc :=
  ⟨cell_kept h.c0 hk, cell_kept h.c1 hk, cell_kept h.c2 hk, cell_kept h.c3 hk, cell_kept h.c4 hk, cell_kept h.c5 hk, cell_kept h.c6 hk, cell_kept h.c7 hk,
    (Below.frozen hk (p := ⟨b, 3, none⟩) (World.block_lt_of_cell? _ _ h.c3)).trans h.fz, h.k1.keep hk, h.k2.keep hk⟩

theorem tab_cells {w : World} {b : Nat} {s t : Ses} {k l : Value} (c0 : w.cell? ⟨b, 0, none⟩ = some (.int .i64 s.client)) (c1 : w.cell? ⟨b, 1, none⟩ = some (.int .i64 s.acked)) (c2 : w.cell? ⟨b, 2, none⟩ = some (.int .i64 s.seen)) (c3 : w.cell? ⟨b, 3, none⟩ = some k)
    (c4 : w.cell? ⟨b, 4, none⟩ = some (.int .i64 t.client)) (c5 : w.cell? ⟨b, 5, none⟩ = some (.int .i64 t.acked)) (c6 : w.cell? ⟨b, 6, none⟩ = some (.int .i64 t.seen)) (c7 : w.cell? ⟨b, 7, none⟩ = some l) (hk : KeptAt w k s.kept) (hl : KeptAt w l t.kept) :
    TabAt w (.slice (some ⟨b, 0, none⟩) 2 2) [s, t] := by
  refine ⟨[k, l], ⟨hk, hl, trivial⟩, rfl, by unfold maxLen; simp, .inr ⟨_, _, rfl, fun j u hu => ?_⟩⟩
  rw [Addr.add_lit, Nat.zero_add]
  match j, hu with
  | 0, hu => simp [sesCells] at hu; subst hu; exact c0
  | 1, hu => simp [sesCells] at hu; subst hu; exact c1
  | 2, hu => simp [sesCells] at hu; subst hu; exact c2
  | 3, hu => simp [sesCells] at hu; subst hu; exact c3
  | 4, hu => simp [sesCells] at hu; subst hu; exact c4
  | 5, hu => simp [sesCells] at hu; subst hu; exact c5
  | 6, hu => simp [sesCells] at hu; subst hu; exact c6
  | 7, hu => simp [sesCells] at hu; subst hu; exact c7

theorem ShopAt.tab {w : World} {b : Nat} {ka : Option Addr} {kc : Nat} {la : Option Addr} {lc : Nat} (h : ShopAt w b ka kc la lc) : TabAt w (.slice (some ⟨b, 0, none⟩) 2 2) [rowS 2, rowS 4] :=
  tab_cells h.c0 h.c1 h.c2 h.c3 h.c4 h.c5 h.c6 h.c7 h.k1 h.k2

theorem begin_c (w : World) : Calls Try.prog 23 #[] w fun e w' => e = .returned (stV ⟨0, 0, 0, 0, 0, 0, []⟩ (.slice none 0 0)) ∧ Keeps w w' := by
  go_enter Try.func23, Try.ntmps23
  go_wp2_with fail
  refine bodyPost_ret (v := stV ⟨0, 0, 0, 0, 0, 0, []⟩ (.slice none 0 0)) ?_ rfl ?_
  · simp [results, Try.results23, go_sem]
  · exact ⟨rfl, (Keeps.refl _).alloc _⟩

set_option maxHeartbeats 2000000 in
theorem shop_c (w : World) : Calls Try.prog 22 #[] w fun e w' => ∃ b ka kc la lc, w.heap.size ≤ b ∧ ShopAt w' b ka kc la lc ∧ (KeptFar b w' (.slice la 2 lc) [(3, 7), (5, -1)]) ∧ e = .returned (stV shopS (.slice (some ⟨b, 0, none⟩) 2 2)) ∧ Keeps w w' := by
  go_enter Try.func22, Try.ntmps22
  go_wp2_with fail
  refine (row_at 2 _).mono ?_
  rintro e w1 ⟨g1, hg1, hl1, k1, rfl, hb⟩
  go_wp2_with fail
  refine (row_at 4 _).mono ?_
  rintro e w2 ⟨g2, hg2, hl2, k2, rfl, hb2⟩
  have hB := hb.trans hb2
  have k1 := k1.keep hb2
  have hg1' : g1 ≠ w.heap.size := by simp at hg1; omega
  have hg2' : g2 ≠ w.heap.size := by have := hb.size; simp at this; omega
  have hl1' : g1 < w2.heap.size := Nat.lt_of_lt_of_le hl1 hb2.size
  have hk2 : Keeps w w2 := ((Keeps.refl _).alloc _).trans hB
  have x0 : w2.cell? ⟨w.heap.size, 0, none⟩ = some (.int .i64 0) := cell_kept (by simp [go_sem]) hB
  have x1 : w2.cell? ⟨w.heap.size, 1, none⟩ = some (.int .i64 0) := cell_kept (by simp [go_sem]) hB
  have x2 : w2.cell? ⟨w.heap.size, 2, none⟩ = some (.int .i64 0) := cell_kept (by simp [go_sem]) hB
  have x3 : w2.cell? ⟨w.heap.size, 3, none⟩ = some (.int .i64 0) := cell_kept (by simp [go_sem]) hB
  have x4 : w2.cell? ⟨w.heap.size, 4, none⟩ = some (.int .i64 0) := cell_kept (by simp [go_sem]) hB
  have x5 : w2.cell? ⟨w.heap.size, 5, none⟩ = some (.int .i64 0) := cell_kept (by simp [go_sem]) hB
  have x6 : w2.cell? ⟨w.heap.size, 6, none⟩ = some (.slice none 0 0) := cell_kept (by simp [go_sem]) hB
  have xf : ∀ i, w2.frozen? ⟨w.heap.size, i, none⟩ = false := fun i => (Below.frozen hB (p := ⟨w.heap.size, i, none⟩) (by simp)).trans (by simp [go_sem])
  have hlt := World.block_lt_of_cell? _ _ x6
  simp only [] at hlt
  clear hb hb2 hB
  have K1 : Hid (KeptFar w.heap.size w2 (.slice (some ⟨g1, 0, none⟩) 2 2) [(3, 7), (5, -1)]) := kept_far_at k1 hg1' hl1'
  have K2 : Hid (KeptFar w.heap.size w2 (.slice (some ⟨g2, 0, none⟩) 2 2) [(3, 7), (5, -1)]) := kept_far_at k2 hg2' hl2
  clear k1 k2
  go_wp2_with fail
  refine bodyPost_ret (v := stV shopS (.slice (some ⟨w2.heap.size, 0, none⟩) 2 2)) ?_ rfl ?_
  · simp [results, Try.results22, go_sem, x0, x1, x2, x3, x4, x5, x6, hlt]
  · have hbt : But w.heap.size w2 ((((((((w2.setCell ⟨w.heap.size, 0, none⟩ (.int .i64 6)).setCell ⟨w.heap.size, 1, none⟩ (.int .i64 10)).setCell ⟨w.heap.size, 2, none⟩ (.int .i64 7)).setCell ⟨w.heap.size, 3, none⟩ (.int .i64 0)).setCell ⟨w.heap.size, 4, none⟩ (.int .i64 0)).setCell ⟨w.heap.size, 5, none⟩ (.int .i64 1)).setCell ⟨w.heap.size, 6, none⟩ (.slice (some ⟨w2.heap.size, 0, none⟩) 2 2))) :=
      (((((((But.refl _ _).set 0 _).set 1 _).set 2 _).set 3 _).set 4 _).set 5 _).set 6 _
    have hbu := hbt.keeps ((Keeps.refl _).alloc (.cells #[.int .i64 2, .int .i64 2, .int .i64 9, .slice (some ⟨g1, 0, none⟩) 2 2, .int .i64 4, .int .i64 2, .int .i64 9, .slice (some ⟨g2, 0, none⟩) 2 2] 48))
    have kk2 := K2.out _ hbu
    refine ⟨w2.heap.size, _, _, _, _, hk2.size, ⟨?_, ?_, ?_, ?_, ?_, ?_, ?_, ?_, ?_, K1.out _ hbu, kk2⟩, kept_far_at kk2 (by omega) (by simp; omega), rfl, But.to hk2 (Nat.le_refl _) hbu⟩
    all_goals simp [go_sem]
end Go.Proofs.Ythjcnbimapgdnab
