/- The arguments of a law: an array of four, an op. -/
import Derived.Test.YteabfjpajgakiaaOpenInt
import Derived.Test.YteabfjpajgakiaaRefA
set_option linter.unusedSimpArgs false
set_option linter.unusedVariables false
set_option maxRecDepth 100000
namespace Go.Proofs.Yteabfjpajgakiaa
open Go.ChangeShapes Go.WideShapes Go.ChangeAt Go.RowKit Go.Joins

section
variable {H : Type} {enc : TypeId × Value → H} {w : World} {base : Nat} {spare : Nat → Bool} {held : Bool}

theorem cells22 : Try.prog.cellsOf 22 = 4 := by kernel_rfl
theorem cells24 : Try.prog.cellsOf 24 = 4 := by kernel_rfl

/-- An array of four. -/
theorem open_arr {r : Reach} {b0 : Nat} {v : Value} {d : DataW H} {p : List MemPlace} (hv : Value.okWide Try.prog w r b0 22 v) (h : DataW.Trod enc Try.prog w base spare held 22 v d p) :
    ∃ g : Nat → Int, v = arrV g := by
  unfold Value.okWide at hv
  rw [Try.underlying22] at hv
  obtain ⟨cs, rfl, hsz, _⟩ := hv
  rw [cells22] at hsz
  obtain ⟨c0, c1, c2, c3, rfl⟩ := array4 hsz
  obtain ⟨fuel, hf⟩ := h
  obtain ⟨xs, m, _, _, _, hlen, hi⟩ := DataW.trod_array Try.underlying22 hf
  simp only [cells3, Value.cells] at hi
  have e : ∀ i (hi' : i < 4), ∃ y, xs[i]? = some y := fun i h' => ⟨xs[i]'(by omega), by rw [List.getElem?_eq_getElem]⟩
  obtain ⟨y0, e0⟩ := e 0 (by decide)
  obtain ⟨y1, e1⟩ := e 1 (by decide)
  obtain ⟨y2, e2⟩ := e 2 (by decide)
  obtain ⟨y3, e3⟩ := e 3 (by decide)
  obtain ⟨a0, rfl⟩ := one_int ((hi 0 (by decide)).trans e0)
  obtain ⟨a1, rfl⟩ := one_int ((hi 1 (by decide)).trans e1)
  obtain ⟨a2, rfl⟩ := one_int ((hi 2 (by decide)).trans e2)
  obtain ⟨a3, rfl⟩ := one_int ((hi 3 (by decide)).trans e3)
  exact ⟨g4 a0 a1 a2 a3, rfl⟩

/-- An op. -/
theorem open_op {r : Reach} {b0 : Nat} {v : Value} {d : DataW H} {p : List MemPlace} (hv : Value.okWide Try.prog w r b0 24 v) (h : DataW.Trod enc Try.prog w base spare held 24 v d p) :
    ∃ k key tk n : Int, v = opV k key tk n := by
  obtain ⟨v0, v1, v2, v3, y0, y1, y2, y3, m, rfl, _, _, h0, h1, h2, h3⟩ := open_agg4 Try.underlying24 (by kernel_rfl) cells24 hv h
  obtain ⟨a0, rfl⟩ := one_int h0
  obtain ⟨a1, rfl⟩ := one_int h1
  obtain ⟨a2, rfl⟩ := one_int h2
  obtain ⟨a3, rfl⟩ := one_int h3
  exact ⟨a0, a1, a2, a3, rfl⟩
end

end Go.Proofs.Yteabfjpajgakiaa
