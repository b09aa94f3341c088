/- The arguments of a law: an entry. -/
import Derived.Test.YthjcnbimapgdnabOpenInt
import Derived.Test.YthjcnbimapgdnabApA
set_option linter.unusedSimpArgs false
set_option linter.unusedVariables false
set_option maxRecDepth 100000
namespace Go.Proofs.Ythjcnbimapgdnab
open Go.ChangeShapes Go.WideShapes Go.ChangeAt Go.RowKit Go.Joins

section
variable {H : Type} {enc : TypeId × Value → H} {w : World} {base : Nat} {spare : Nat → Bool} {held : Bool}

theorem cellsOp : Try.prog.cellsOf 31 = 4 := by kernel_rfl
theorem cellsEnt : Try.prog.cellsOf 33 = 9 := by kernel_rfl

/-- The cells of an entry. -/
theorem ent_cells {n : Nat} {c0 c1 c2 c3 c4 c5 c6 c7 c8 : Value} {y : DataW H × List MemPlace} (h : DataW.trod enc Try.prog w base spare held n 33 [c0, c1, c2, c3, c4, c5, c6, c7, c8] = some y) :
    ∃ e : Ent, c0 = .int .i64 e.kind ∧ c1 = .int .i64 e.time ∧ c2 = .int .i64 e.client ∧ c3 = .int .i64 e.seq ∧ c4 = .int .i64 e.ack ∧ c5 = .int .i64 e.ok ∧ c6 = .int .i64 e.okey ∧ c7 = .int .i64 e.oto ∧ c8 = .int .i64 e.on := by
  obtain ⟨xs, m, _, _, _, hlen, hf⟩ := DataW.trod_struct Try.underlying33 h
  match xs, hlen with
  | [y0, y1, y2, y3, y4, y5], _ =>
    have g0 := hf 0 _ rfl
    have g1 := hf 1 _ rfl
    have g2 := hf 2 _ rfl
    have g3 := hf 3 _ rfl
    have g4 := hf 4 _ rfl
    have g5 := hf 5 _ rfl
    simp only [cells3, cellsOp, List.drop_zero, List.drop_succ_cons, List.take_succ_cons, List.take_zero, List.getElem?_cons_zero, List.getElem?_cons_succ] at g0 g1 g2 g3 g4 g5
    obtain ⟨a0, rfl⟩ := one_int g0
    obtain ⟨a1, rfl⟩ := one_int g1
    obtain ⟨a2, rfl⟩ := one_int g2
    obtain ⟨a3, rfl⟩ := one_int g3
    obtain ⟨a4, rfl⟩ := one_int g4
    obtain ⟨z0, z1, z2, z3, m', _, _, k0, k1, k2, k3⟩ := trod_struct4 Try.underlying31 g5
    simp only [cells3, List.drop_zero, List.drop_succ_cons, List.take_succ_cons, List.take_zero] at k0 k1 k2 k3
    obtain ⟨a5, rfl⟩ := one_int k0
    obtain ⟨a6, rfl⟩ := one_int k1
    obtain ⟨a7, rfl⟩ := one_int k2
    obtain ⟨a8, rfl⟩ := one_int k3
    exact ⟨⟨a0, a1, a2, a3, a4, a5, a6, a7, a8⟩, rfl, rfl, rfl, rfl, rfl, rfl, rfl, rfl, rfl⟩

/-- An entry. -/
theorem open_ent {r : Reach} {b0 : Nat} {v : Value} {d : DataW H} {p : List MemPlace} (hv : Value.okWide Try.prog w r b0 33 v) (h : DataW.Trod enc Try.prog w base spare held 33 v d p) :
    ∃ e : Ent, v = entV e := by
  obtain ⟨cs, rfl, hsz⟩ := okWide_struct Try.underlying33 hv
  rw [cellsEnt] at hsz
  obtain ⟨fuel, hf⟩ := h
  obtain ⟨cl⟩ := cs
  match cl, hsz with
  | [c0, c1, c2, c3, c4, c5, c6, c7, c8], _ =>
    obtain ⟨e, rfl, rfl, rfl, rfl, rfl, rfl, rfl, rfl, rfl⟩ := ent_cells hf
    exact ⟨e, rfl⟩
end
end Go.Proofs.Ythjcnbimapgdnab
