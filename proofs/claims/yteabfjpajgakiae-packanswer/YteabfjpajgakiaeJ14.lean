/- FoH. -/
import Derived.Laws.MakeOwn
import Derived.Test.YteabfjpajgakiaeJ13
/- foldBegun. -/
set_option linter.unusedSimpArgs false
set_option linter.unusedVariables false
set_option maxRecDepth 10000
namespace Go.Proofs.Yteabfjpajgakiae
open Go.RowKit

theorem tab_none (w : World) : TabAt w (.slice none 0 0) [] := ⟨[], trivial, rfl, by unfold maxLen; simp, .inl ⟨rfl, rfl⟩⟩
theorem some_runs : foldErr zeroSt someL = 0 ∧ (allSt zeroSt someL).at_ = 10 ∧ (allSt zeroSt someL).clock = 42 ∧ (allSt zeroSt someL).v0 = 12 ∧ (allSt zeroSt someL).v1 = 2 ∧ (allSt zeroSt someL).v2 = 0 ∧ (allSt zeroSt someL).v3 = 0 ∧ allAns zeroSt someL = [0, 5, 5, -3, 0, 3, -4, -3, 0, 12] ∧ listErr someL = 0 := by
  decide +kernel

def zeroEnt : Ent := ⟨0, 0, 0, 0, 0, 0, 0, 0, 0⟩
def manyL : List Ent := List.replicate 51 zeroEnt
def manyC : Array Value := (entCells manyL).toArray
def oneL : List Ent := [zeroEnt]
def oneC : Array Value := (entCells oneL).toArray
theorem infoEnt : (Try.prog.info? 32).map (fun i => (i.zero, i.size, i.bytes)) = some (some (entV zeroEnt), 9, 72) := by kernel_rfl
theorem make_many (w : World) : (Instr.makeSlice 26 (.int .i64 51) (.int .i64 51)).run Try.prog w = .ok (.slice (some ⟨w.heap.size, 0, none⟩) 51 51) (w.alloc (.cells manyC 32)) := by
  obtain ⟨i, hi, hz, hs, hb⟩ := info_parts infoEnt
  have := run_makeSlice (P := Try.prog) w 26 32 i _ Try.underlying26 hi hz .i64 .i64 51 51 (by decide) (by decide) (by rw [hs]; decide) (by rw [hb]; decide) (by decide)
  rw [this, hs]
  have e : madeCells (entV zeroEnt).cells ((51 : Int).toNat * 9) = manyC := by kernel_rfl
  rw [e]
  rfl
theorem make_one (w : World) : (Instr.makeSlice 26 (.int .i64 1) (.int .i64 1)).run Try.prog w = .ok (.slice (some ⟨w.heap.size, 0, none⟩) 1 1) (w.alloc (.cells oneC 32)) := by
  obtain ⟨i, hi, hz, hs, hb⟩ := info_parts infoEnt
  have := run_makeSlice (P := Try.prog) w 26 32 i _ Try.underlying26 hi hz .i64 .i64 1 1 (by decide) (by decide) (by rw [hs]; decide) (by rw [hb]; decide) (by decide)
  rw [this, hs]
  have e : madeCells (entV zeroEnt).cells ((1 : Int).toNat * 9) = oneC := by kernel_rfl
  rw [e]
  rfl
theorem many_err : foldErr zeroSt manyL = 2 ∧ listErr oneL = 4 := by decide +kernel
def lateS : St := ⟨45, 10, 7, 0, 0, 1, [rowS 2, rowS 4]⟩
theorem late_err : foldErr lateS someL = 2 := by decide +kernel
theorem IntsAt.new (w : World) (l : List Int) (hl : l.length ≤ 1000) (c : Nat) : IntsAt (w.alloc (.cells (intCells l).toArray 3)) (.slice (some ⟨w.heap.size, 0, none⟩) l.length c) l := by
  refine ⟨by simp [intCells], by unfold maxLen; omega, .inr ⟨_, _, rfl, fun j u hu => ?_⟩⟩
  rw [Addr.add_lit, Nat.zero_add]
  unfold World.cell?
  rw [World.alloc_heap_new]
  simpa using hu


end Go.Proofs.Yteabfjpajgakiae
