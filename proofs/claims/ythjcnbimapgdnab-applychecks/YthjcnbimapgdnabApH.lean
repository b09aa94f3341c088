/- Applying: the machine's call. -/
import Derived.Test.YthjcnbimapgdnabApG
set_option linter.unusedSimpArgs false
set_option linter.unusedVariables false
set_option maxRecDepth 10000
namespace Go.Proofs.Ythjcnbimapgdnab
open Go.RowKit

/-- The session that a Call finds, seen and acknowledged. -/
def calledSes (s : St) (f : Ses) (e : Ent) : Ses := { f with acked := max f.acked e.ack, seen := s.clock, kept := keptAfter (max f.acked e.ack) f.kept }
def callSes (s : St) (f : Ses) (e : Ent) : Ses := { calledSes s f e with kept := ansKept s (calledSes s f e) e }
def callSt (s : St) (e : Ent) : St := match findSes s.tab e.client with
  | none => s
  | some f => { ansSt s (calledSes s f e) e with tab := putTab s.tab (callSes s f e) }
def callAns (s : St) (e : Ent) : Int := match findSes s.tab e.client with
  | none => -3
  | some f => ansOf s (calledSes s f e) e
def callDone (s : St) (e : Ent) : Bool := match findSes s.tab e.client with
  | none => false
  | some f => ansDone (calledSes s f e) e

/-- An entry in its box. -/
structure EntBox (b : Nat) (e : Ent) (w : World) : Prop where
  c0 : w.cell? ⟨b, 0, none⟩ = some (.int .i64 e.kind)
  c1 : w.cell? ⟨b, 1, none⟩ = some (.int .i64 e.time)
  c2 : w.cell? ⟨b, 2, none⟩ = some (.int .i64 e.client)
  c3 : w.cell? ⟨b, 3, none⟩ = some (.int .i64 e.seq)
  c4 : w.cell? ⟨b, 4, none⟩ = some (.int .i64 e.ack)
  c5 : w.cell? ⟨b, 5, none⟩ = some (.int .i64 e.ok)
  c6 : w.cell? ⟨b, 6, none⟩ = some (.int .i64 e.okey)
  c7 : w.cell? ⟨b, 7, none⟩ = some (.int .i64 e.oto)
  c8 : w.cell? ⟨b, 8, none⟩ = some (.int .i64 e.on)
theorem EntBox.lt {b : Nat} {e : Ent} {w : World} (h : EntBox b e w) : b < w.heap.size := World.block_lt_of_cell? _ _ h.c0
theorem EntBox.keep {b : Nat} {e : Ent} {w w' : World} (h : EntBox b e w) (hk : Keeps w w') : EntBox b e w' :=
  ⟨cell_kept h.c0 hk, cell_kept h.c1 hk, cell_kept h.c2 hk, cell_kept h.c3 hk, cell_kept h.c4 hk, cell_kept h.c5 hk, cell_kept h.c6 hk, cell_kept h.c7 hk, cell_kept h.c8 hk⟩
theorem EntBox.but {b c : Nat} {e : Ent} {w w' : World} (h : EntBox b e w) (hk : But c w w') (hb : b ≠ c) : EntBox b e w' :=
  ⟨hk.at h.c0 hb, hk.at h.c1 hb, hk.at h.c2 hb, hk.at h.c3 hb, hk.at h.c4 hb, hk.at h.c5 hb, hk.at h.c6 hb, hk.at h.c7 hb, hk.at h.c8 hb⟩
theorem EntBox.new (w : World) (e : Ent) (t : TypeId) : EntBox w.heap.size e (w.alloc (.cells #[.int .i64 e.kind, .int .i64 e.time, .int .i64 e.client, .int .i64 e.seq, .int .i64 e.ack, .int .i64 e.ok, .int .i64 e.okey, .int .i64 e.oto, .int .i64 e.on] t)) :=
  ⟨by simp [go_sem], by simp [go_sem], by simp [go_sem], by simp [go_sem], by simp [go_sem], by simp [go_sem], by simp [go_sem], by simp [go_sem], by simp [go_sem]⟩

/-- Where there is no row, any block that is not there yet serves. -/
theorem KeptOn.again {g : Nat} {w : World} {kv : Value} {l : List (Int × Int)} (h : KeptOn g w kv l) : ∃ g', KeptOn g' w kv l ∧ ((g' = g ∧ g < w.heap.size) ∨ (g' = w.heap.size ∧ kv = .slice none 0 0)) := by
  rcases h with ⟨e1, e2⟩ | ⟨cap, e, hr⟩
  · exact ⟨_, .inl ⟨e1, e2⟩, .inr ⟨rfl, e1⟩⟩
  · exact ⟨g, .inr ⟨cap, e, hr⟩, .inl ⟨rfl, hr.lt⟩⟩

theorem But3.at {b c d : Nat} {x y : World} (h : But3 b c d x y) {p : Addr} {u : Value} (hu : x.cell? p = some u) (h1 : p.block ≠ b) (h2 : p.block ≠ c) (h3 : p.block ≠ d) : y.cell? p = some u :=
  (World.cell?_of_block (w := x) (h.block p.block (World.block_lt_of_cell? _ _ hu) h1 h2 h3)).trans hu

/-- Answers of a right session. -/
theorem keptOk_low : ∀ {hi lo : Int} {l : List (Int × Int)}, keptOk hi lo l = true → ∀ r ∈ l, lo ≤ r.1 ∧ r.1 ≤ hi
  | _, _, [], _, r, hr => by cases hr
  | hi, lo, (q, v) :: t, h, r, hr => by
    simp only [keptOk, Bool.and_eq_true] at h
    have hq := inB_iff.1 h.1.1
    rcases List.mem_cons.1 hr with rfl | hr
    · exact hq
    · have := keptOk_low h.2 r hr
      omega
theorem keptOk_rises : ∀ {hi lo : Int} {l : List (Int × Int)}, keptOk hi lo l = true → Rises l
  | _, _, [], _ => by intro i j hi; simp at hi
  | hi, lo, (q, v) :: t, h => by
    simp only [keptOk, Bool.and_eq_true] at h
    have ih := keptOk_rises h.2
    have hl := keptOk_low h.2
    intro i j hi' hj' hij
    cases j with
    | zero => omega
    | succ j =>
      cases i with
      | zero =>
        simp only [List.getElem_cons_zero, List.getElem_cons_succ]
        have := hl _ (List.getElem_mem (by simpa using hj'))
        omega
      | succ i =>
        simp only [List.getElem_cons_succ]
        exact ih i j (by simpa using hi') (by simpa using hj') (by omega)
theorem Rises.filter {l : List (Int × Int)} (h : Rises l) (p : Int × Int → Bool) : Rises (l.filter p) := by
  have hp : l.Pairwise (fun a b => a.1 < b.1) := by
    rw [List.pairwise_iff_getElem]
    exact fun i j hi hj hij => h i j hi hj hij
  have := hp.filter p
  rw [List.pairwise_iff_getElem] at this
  exact fun i j hi hj hij => this i j hi hj hij
theorem Rises.head {l : List (Int × Int)} (h : Rises l) : ∀ r ∈ l, (l.headD r).1 ≤ r.1 := by
  intro r hr
  obtain ⟨i, hi, rfl⟩ := List.getElem_of_mem hr
  cases l with
  | nil => simp at hi
  | cons a t =>
    cases i with
    | zero => simp
    | succ i =>
      have := h 0 (i + 1) (by simp) hi (by omega)
      simp at this ⊢
      omega
theorem findSes_mem {L : List Ses} {c : Int} {f : Ses} (h : findSes L c = some f) : f ∈ L ∧ f.client = c :=
  ⟨List.mem_of_find?_eq_some h, by simpa using List.find?_some h⟩
end Go.Proofs.Ythjcnbimapgdnab
