/- A table just laid; the law's row. -/
import Derived.Test.YteabfjpajgakiaaSesC
set_option linter.unusedSimpArgs false
set_option linter.unusedVariables false
namespace Go.Proofs.Yteabfjpajgakiaa
open Go.RowKit

/-- A table in a row that has just been laid. -/
theorem tab_new (w : World) (L : List Ses) (ks : List Value) (h : KeptsAt w L ks) (hl : L.length ≤ 100) (cs : Array Value) (hcs : cs = (sesCells L ks).toArray) (hlen : (sesCells L ks).length = L.length * 4) :
    TabAt (w.alloc (.cells cs 34)) (.slice (some ⟨w.heap.size, 0, none⟩) L.length L.length) L := by
  subst hcs
  refine ⟨ks, h.keep ((Keeps.refl _).alloc _), hlen, by unfold maxLen; omega, .inr ⟨_, _, rfl, fun j u hu => ?_⟩⟩
  rw [Addr.add_lit, Nat.zero_add, World.cell?_alloc_new]
  simpa using hu

theorem kept_one (w : World) (q v : Int) : KeptAt (w.alloc (.cells #[.int .i64 q, .int .i64 v] 61)) (.slice (some ⟨w.heap.size, 0, none⟩) 1 1) [(q, v)] := by
  refine ⟨rfl, by unfold maxLen; simp, .inr ⟨_, _, rfl, fun j u hu => ?_⟩⟩
  rw [Addr.add_lit, Nat.zero_add]
  match j, hu with
  | 0, hu => simp [repCells] at hu; subst hu; simp [go_sem]
  | 1, hu => simp [repCells] at hu; subst hu; simp [go_sem]

abbrev rowS (c : Int) : Ses := ⟨c, 2, 9, [(3, 7), (5, -1)]⟩

theorem row_c (c : Int) (w : World) : Calls Try.prog 39 #[.int .i64 c] w fun e w' => ∃ ka kc, KeptAt w' (.slice ka 2 kc) [(3, 7), (5, -1)] ∧ e = .returned (sesV (rowS c) (.slice ka 2 kc)) ∧ Keeps w w' := by
  go_enter Try.func39, Try.ntmps39
  go_wp2_with fail
  refine bodyPost_ret (v := sesV (rowS c) (.slice (some ⟨w.heap.size + 1, 0, none⟩) 2 2)) ?_ rfl ?_
  · simp [results, Try.results39, go_sem]
  · refine ⟨some ⟨w.heap.size + 1, 0, none⟩, 2, ?_, rfl, ?_⟩
    · refine ⟨rfl, by unfold maxLen; simp, .inr ⟨_, _, rfl, fun j u hu => ?_⟩⟩
      rw [Addr.add_lit, Nat.zero_add]
      match j, hu with
      | 0, hu => simp [repCells] at hu; subst hu; simp [go_sem]
      | 1, hu => simp [repCells] at hu; subst hu; simp [go_sem]
      | 2, hu => simp [repCells] at hu; subst hu; simp [go_sem]
      | 3, hu => simp [repCells] at hu; subst hu; simp [go_sem]
    · exact ((Keeps.refl _).alloc _).alloc _

end Go.Proofs.Yteabfjpajgakiaa
