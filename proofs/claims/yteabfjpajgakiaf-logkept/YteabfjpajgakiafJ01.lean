/- SesB, SesC, SesD, SesE, SesF0. -/
import Derived.Laws.AppendOwnNone
import Derived.Test.YteabfjpajgakiafJ00
/- The reference's oneError. -/
set_option linter.unusedSimpArgs false
set_option linter.unusedVariables false
namespace Go.Proofs.Yteabfjpajgakiaf
open Go.RowKit

end Go.Proofs.Yteabfjpajgakiaf

/- sess.Check and the reference's TableError. -/
set_option linter.unusedSimpArgs false
set_option linter.unusedVariables false
namespace Go.Proofs.Yteabfjpajgakiaf
open Go.RowKit

theorem KeptsAt.len {w : World} : ∀ {L : List Ses} {ks : List Value}, KeptsAt w L ks → ks.length = L.length
  | [], [], _ => rfl
  | _ :: r, _ :: ks, h => by simp [KeptsAt.len h.2]

theorem KeptsAt.at {w : World} : ∀ {L : List Ses} {ks : List Value} (h : KeptsAt w L ks) (i : Nat) (hi : i < L.length) (hi' : i < ks.length), KeptAt w (ks[i]) (L[i]).kept
  | _ :: _, _ :: _, h, 0, _, _ => h.1
  | _ :: _, _ :: _, h, i + 1, hi, hi' => KeptsAt.at h.2 i (by simpa using hi) (by simpa using hi')

theorem sesCells_at : ∀ (L : List Ses) (ks : List Value) (i : Nat) (h : i < L.length) (h' : i < ks.length),
    (sesCells L ks)[4 * i]? = some (.int .i64 (L[i]).client) ∧ (sesCells L ks)[4 * i + 1]? = some (.int .i64 (L[i]).acked) ∧ (sesCells L ks)[4 * i + 2]? = some (.int .i64 (L[i]).seen) ∧ (sesCells L ks)[4 * i + 3]? = some (ks[i])
  | s :: r, k :: ks, 0, _, _ => ⟨rfl, rfl, rfl, rfl⟩
  | s :: r, k :: ks, i + 1, h, h' => by
    have := sesCells_at r ks i (by simpa using h) (by simpa using h')
    rw [show 4 * (i + 1) = 4 * i + 1 + 1 + 1 + 1 from by omega]
    exact ⟨by simpa [sesCells] using this.1, by simpa [sesCells] using this.2.1, by simpa [sesCells] using this.2.2.1, by simpa [sesCells] using this.2.2.2⟩

/-- The sessions of a table, in memory. -/
theorem TabAt.at {w : World} {v : Value} {L : List Ses} (h : TabAt w v L) {k : Nat} (hk : k < L.length) :
    ∃ b off cap, v = .slice (some ⟨b, off, none⟩) L.length cap ∧
      ∀ i (hi : i < L.length), w.cell? ⟨b, off + i * 4, none⟩ = some (.int .i64 (L[i]).client) ∧ w.cell? ⟨b, off + i * 4 + 1, none⟩ = some (.int .i64 (L[i]).acked) ∧
        w.cell? ⟨b, off + i * 4 + 2, none⟩ = some (.int .i64 (L[i]).seen) ∧ ∃ ka kc, w.cell? ⟨b, off + i * 4 + 3, none⟩ = some (.slice ka (L[i]).kept.length kc) ∧ KeptAt w (.slice ka (L[i]).kept.length kc) (L[i]).kept := by
  obtain ⟨ks, hks, hrow⟩ := h
  have hlen := hks.len
  obtain ⟨b, off, cap, rfl, h3⟩ := hrow.plain (by rw [hrow.1]; omega)
  refine ⟨b, off, cap, rfl, fun i hi => ?_⟩
  have hi' : i < ks.length := by rw [hlen]; exact hi
  have e := sesCells_at L ks i hi hi'
  rw [Nat.mul_comm i 4]
  have hk := hks.at i hi hi'
  obtain ⟨ka, kc, hkv, _⟩ := hk.len
  exact ⟨h3 _ _ e.1, h3 _ _ e.2.1, h3 _ _ e.2.2.1, ka, kc, hkv ▸ h3 _ _ e.2.2.2, hkv ▸ hk⟩

theorem TabAt.len {w : World} {v : Value} {L : List Ses} (h : TabAt w v L) : ∃ a cap, v = .slice a L.length cap ∧ L.length ≤ maxLen := by
  obtain ⟨ks, _, h⟩ := h
  exact h.len

def firstErr : List Ses → Int
  | [] => 0
  | s :: r => if sesErr s == 0 then firstErr r else sesErr s
def rising : List Ses → Bool
  | a :: b :: r => decide (a.client < b.client) && rising (b :: r)
  | _ => true
def tabErr (L : List Ses) : Int := if 3 < L.length then 2 else if firstErr L == 0 then (if rising L then 0 else 1) else firstErr L

end Go.Proofs.Yteabfjpajgakiaf

/- A session of its own memory: sess.twin, the reference's ownSession. -/
set_option linter.unusedSimpArgs false
set_option linter.unusedVariables false
namespace Go.Proofs.Yteabfjpajgakiaf
open Go.RowKit

theorem RowAt.of_owns {w : World} {base : Nat} {e : TypeId} {size : Nat} {v : Value} {n : Nat} {xs : List Value} (h : w.ownsRow base e size v n xs) : RowAt w size v n xs := by
  have hc := fun g => h.cells (g := g)
  obtain ⟨h1, h2⟩ := h
  rcases h2 with ⟨rfl, rfl⟩ | ⟨g, cap, cur, rfl, _, _, hnc, hcm, _, _⟩
  · exact ⟨h1, by unfold maxLen; omega, .inl ⟨rfl, rfl⟩⟩
  · exact ⟨h1, Nat.le_trans hnc hcm, .inr ⟨_, cap, rfl, fun j u hu => hc g rfl j u hu⟩⟩

theorem owns_base {w : World} {base base' : Nat} {e : TypeId} {size : Nat} {v : Value} {n : Nat} {xs : List Value} (h : w.ownsRow base e size v n xs) (hb : base' ≤ base) : w.ownsRow base' e size v n xs := by
  obtain ⟨h1, h2⟩ := h
  refine ⟨h1, ?_⟩
  rcases h2 with h2 | ⟨g, cap, cur, hv, hg, r⟩
  · exact .inl h2
  · exact .inr ⟨g, cap, cur, hv, Nat.le_trans hb hg, r⟩

theorem keeps_grown {w w' : World} {v : Value} {a : World} (ha : Keeps a w) (hg : w.grownBy w' v.ownBlock) (hb : ∀ k, v.ownBlock = some k → a.heap.size ≤ k) : Keeps a w' :=
  Below.grown ha hg ha.size hb

/-- 'append(v, x...)', v the call's own, x whatever is read. -/
theorem run_append_read (w : World) (base : Nat) (t ty e : TypeId) (size bytes : Nat) (z : Value) (hinfo : (Try.prog.info? e).map (fun i => (i.zero, i.size, i.bytes)) = some (some z, size, bytes))
    (ht : Try.prog.underlying t = some (.slice e)) (hzs : z.cells.size = size) (hsz : 0 < size)
    (v : Value) (m : Nat) (ys : List Value) (hown : w.ownsRow base e size v m ys) (x : Value) (n : Nat) (xs : List Value) (hx : RowAt w size x n xs) (h1 : ∀ u ∈ xs, u.oneCell' = true)
    (h63 : m + n ≤ maxLen) (hbytes : (m + n) * bytes ≤ 140737488355328) (hbase : base ≤ w.heap.size) :
    ∃ v' w', (Builtin.append_ #[t, t] ty #[v, x]).run Try.prog w = .ok v' w' ∧ w'.ownsRow base e size v' (m + n) (ys ++ xs) ∧ w.grownBy w' v.ownBlock := by
  obtain ⟨i, hi, hz, hs, hb⟩ := info_parts hinfo
  rcases hx.2.2 with ⟨rfl, rfl⟩ | ⟨a, cap, rfl, hc⟩
  · have hx0 : xs = [] := List.eq_nil_of_length_eq_zero (by simpa using hx.1)
    subst hx0
    refine ⟨v, w, run_append_owned_none (P := Try.prog) w base t ty e i size ht hi v m ys hown, by simpa using hown, ⟨rfl, rfl, rfl, Nat.le_refl _, fun _ _ _ => rfl⟩⟩
  · obtain ⟨v', w', hr, ho, hg, _⟩ := run_append_own (P := Try.prog) w base t ty e i z size bytes ht hi hz hs hb hzs hsz v m ys hown a n cap xs hx.1 hc h1 h63 hbytes hbase
    exact ⟨v', w', hr, ho, hg⟩

/-- An append whose run is known. -/
theorem wpList_append_run {P : Program} {w w' : World} {ops : Array Oper} {rest : List Oper} {o : Oper} {a : Act} {Q : Exit → Act → World → Prop} {v x v' : Value} (hgd : o.guard = none) (s y : Operand) (t : TypeId)
    (ho : o.op = .call { callee := .builtin .append, args := #[s, y], argTypes := #[t, t] }) (hs : a.eval s = v) (hx : a.eval y = x)
    (hr : (Builtin.append_ #[t, t] o.type #[v, x]).run P w = .ok v' w') (h : wpList P ops Q rest (a.put o.dst v') w') : wpList P ops Q (o :: rest) a w := by
  refine wpList_plain hgd fun K hK => ?_
  unfold Oper.wp
  simp [execOp, ho, resolve, invoke, builtin, hs, hx, hr, Result.andThen]
  exact hK _ _ h

end Go.Proofs.Yteabfjpajgakiaf

/- sess.Find and the reference's FindOf. -/
set_option linter.unusedSimpArgs false
set_option linter.unusedVariables false
namespace Go.Proofs.Yteabfjpajgakiaf
open Go.RowKit

def zeroSes : Ses := ⟨0, 0, 0, []⟩
def findSes (L : List Ses) (c : Int) : Option Ses := L.find? (fun s => s.client == c)
end Go.Proofs.Yteabfjpajgakiaf

/- The reference's find and FindOf. -/
set_option linter.unusedSimpArgs false
set_option linter.unusedVariables false
namespace Go.Proofs.Yteabfjpajgakiaf
open Go.RowKit

end Go.Proofs.Yteabfjpajgakiaf
