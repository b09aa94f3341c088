/- SoC0. -/
import Derived.Deep.DeepCutAuto
import Derived.Test.YteabfjpajgakiagJ12
import Derived.Test.YteabfjpajgakiagJ13
import Derived.Test.YteabfjpajgakiagJ15
import Derived.Test.YteabfjpajgakiagJ18
import Derived.Test.YteabfjpajgakiagJ19
/- StubOnce: plain, and laws of the region. -/
set_option linter.unusedSimpArgs false
set_option linter.unusedVariables false
set_option maxRecDepth 10000
namespace Go.Proofs.Yteabfjpajgakiag
open Go.RowKit

/-- A goal that is not looked into. -/
structure Bx (p : Prop) : Prop where
  out : p
theorem owns_typed {m n size b : Nat} {e e' : TypeId} {w w' : World} {v : Value} {xs : List Value} {c : Array Value} {f : Nat × Nat} (h : w.ownsRow m e size v n xs) (hb : w.heap[b]? = some (.cells c e' f)) (hne : e ≠ e') (hk : But b w w') : w'.ownsRow m e size v n xs := by
  refine h.kept (row := some b) ⟨hk.os, hk.tape, hk.output, hk.size, fun k hk' hn => hk.block k hk' (fun e => hn (by rw [e]))⟩ ?_
  exact .inr (owns_not h hb hne)
theorem stbox_of {b : Nat} {W : World} (h : W.heap[b]? = some (.cells #[.int .i64 0, .int .i64 0, .int .i64 0, .int .i64 0, .int .i64 0, .int .i64 0, .slice none 0 0] 47 (0, 0))) : StBox b zeroSt (.slice none 0 0) W := by
  refine ⟨?_, ?_, ?_, ?_, ?_, ?_, ?_, fun i => ?_⟩ <;> simp [World.cell?, World.frozen?, h, zeroSt]
theorem ent_row (w : World) (e : Ent) : EntsAt (w.alloc (.cells #[.int .i64 e.kind, .int .i64 e.time, .int .i64 e.client, .int .i64 e.seq, .int .i64 e.ack, .int .i64 e.ok, .int .i64 e.okey, .int .i64 e.oto, .int .i64 e.on] 28)) (.slice (some ⟨w.heap.size, 0, none⟩) 1 1) [e] := EntsAt.new w [e] (by simp) 1
theorem y_at {ops : Array Oper} {S : World → Prop} {op : Oper} {a : Act} (hw : Region.wanted op (yielded ops a.tmps) = true) {x : Operand} (ho : op.op = .load 3 x) (b o : Nat) (hx : a.eval x = .pointer (some ⟨b, o, none⟩)) {n : Int} (hS : ∀ w, S w → w.cell? ⟨b, o, none⟩ = some (.int .i64 n)) : YieldsIf Try.prog ops S op (.int .i64 n) a :=
  .inl ⟨hw, fun w h => by
    have e := load_cell (P := Try.prog) (t := 3) (hS w h) (by kernel_rfl)
    unfold execOp
    simp only [ho, hx, Sem.run_bind, e, Result.andThen_ok, Sem.run_pure]⟩
theorem last_at {base : Nat} {w : World} {a : Option Addr} {c : Nat} {L : List Ent} {A : List Int} {x : Int} (h : w.ownsRow base 3 1 (.slice a (L.length + 1) c) (L.length + 1) (intCells A)) (hA : A = runAns zeroSt L ++ [x]) : ∃ b off cap, Value.slice a (L.length + 1) c = .slice (some ⟨b, off, none⟩) (L.length + 1) cap ∧ w.cell? ⟨b, off + L.length, none⟩ = some (.int .i64 x) := by
  have hl : A.length = L.length + 1 := by rw [hA]; simp [runAns_len]
  have h2 : IntsAt w (.slice a (L.length + 1) c) A := by
    have := RowAt.of_owns h
    rw [← hl] at this ⊢
    exact this
  obtain ⟨b, off, cap, hv, hc⟩ := h2.at (k := L.length) (by omega)
  rw [hl] at hv
  refine ⟨b, off, cap, hv, ?_⟩
  have e : A[L.length]'(by omega) = x := by
    subst hA
    simp [List.getElem_append_right, runAns_len]
  rw [e] at hc
  exact hc
theorem wrap_in {n : Int} (h : -9223372036854775808 ≤ n ∧ n ≤ 9223372036854775807) : IntKind.i64.wrap n = n := by
  simp [IntKind.wrap, IntKind.bits, IntKind.signed]
  omega
theorem tdiv4 {x : Int} (h : -9223372036854775808 ≤ x ∧ x ≤ 9223372036854775807) : -9223372036854775808 ≤ x.tdiv 4 ∧ x.tdiv 4 ≤ 9223372036854775807 := by
  rcases Int.le_total 0 x with h0 | h0
  · rw [Int.tdiv_eq_ediv_of_nonneg h0]
    omega
  · obtain ⟨y, rfl⟩ : ∃ y, x = -y := ⟨-x, by omega⟩
    rw [Int.neg_tdiv, Int.tdiv_eq_ediv_of_nonneg (by omega)]
    omega
/-- One more of those that were sent: all that is to be known of it. -/
theorem once_put {L : List Ent} {S : Stu} {T : List Ent} {e : Ent} (h : Onced L S T) (he : e ∈ T) (hl : L.length ≤ 49) : Onced (L ++ [e]) S T ∧ foldErr zeroSt (L ++ [e]) = 0 ∧ allAns zeroSt (L ++ [e]) = runAns zeroSt L ++ [oneAns (runSt zeroSt L) e] ∧ (-1 ≤ oneAns (runSt zeroSt L) e → cameErr S e.seq = 0 ∧ Onced (L ++ [e]) (cameS S e.seq) T) := by
  obtain ⟨h1, h2, h3⟩ := lives_put h (h.sent e he) hl
  have h4 := once_end h1 (by simp; omega)
  refine ⟨h1, h4.1, ?_, fun ha => ?_⟩
  · unfold allAns
    rw [h4.1, runAns_append]
    rfl
  · obtain ⟨c1, c2, _⟩ := lives_came h1 (h1.sent e he) (h3 ha)
    exact ⟨c1, c2⟩
end Go.Proofs.Yteabfjpajgakiag
