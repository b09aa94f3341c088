/- A session of its own memory: sess.twin, the reference's ownSession. -/
import Derived.Test.YteabfjpajgakiaaSesC
import Derived.Laws.AppendOwnNone
set_option linter.unusedSimpArgs false
set_option linter.unusedVariables false
namespace Go.Proofs.Yteabfjpajgakiaa
open Go.RowKit

theorem infoRep : (Try.prog.info? 61).map (fun i => (i.zero, i.size, i.bytes)) = some (some (.agg #[.int .i64 0, .int .i64 0]), 2, 16) := by kernel_rfl
theorem infoSes : (Try.prog.info? 34).map (fun i => (i.zero, i.size, i.bytes)) = some (some (.agg #[.int .i64 0, .int .i64 0, .int .i64 0, .slice none 0 0]), 4, 48) := by kernel_rfl

theorem RowAt.of_owns {w : World} {base : Nat} {e : TypeId} {size : Nat} {v : Value} {n : Nat} {xs : List Value} (h : w.ownsRow base e size v n xs) : RowAt w size v n xs := by
  have hc := fun g => h.cells (g := g)
  obtain ⟨h1, h2⟩ := h
  rcases h2 with ⟨rfl, rfl⟩ | ⟨g, cap, cur, rfl, _, _, hnc, hcm, _, _⟩
  · exact ⟨h1, by unfold maxLen; omega, .inl ⟨rfl, rfl⟩⟩
  · exact ⟨h1, Nat.le_trans hnc hcm, .inr ⟨_, cap, rfl, fun j u hu => hc g rfl j u hu⟩⟩

theorem owns_base {w : World} {base base' : Nat} {e : TypeId} {size : Nat} {v : Value} {n : Nat} {xs : List Value} (h : w.ownsRow base e size v n xs) (hb : base' ≤ base) : w.ownsRow base' e size v n xs := by
  obtain ⟨h1, h2⟩ := h
  refine ⟨h1, ?_⟩
  rcases h2 with h2 | ⟨g, cap, cur, hv, hg, r⟩
  · exact .inl h2
  · exact .inr ⟨g, cap, cur, hv, Nat.le_trans hb hg, r⟩

theorem keeps_grown {w w' : World} {v : Value} {a : World} (ha : Keeps a w) (hg : w.grownBy w' v.ownBlock) (hb : ∀ k, v.ownBlock = some k → a.heap.size ≤ k) : Keeps a w' :=
  Below.grown ha hg ha.size hb

/-- 'append(v, x...)', v the call's own, x whatever is read. -/
theorem run_append_read (w : World) (base : Nat) (t ty e : TypeId) (size bytes : Nat) (z : Value) (hinfo : (Try.prog.info? e).map (fun i => (i.zero, i.size, i.bytes)) = some (some z, size, bytes))
    (ht : Try.prog.underlying t = some (.slice e)) (hzs : z.cells.size = size) (hsz : 0 < size)
    (v : Value) (m : Nat) (ys : List Value) (hown : w.ownsRow base e size v m ys) (x : Value) (n : Nat) (xs : List Value) (hx : RowAt w size x n xs) (h1 : ∀ u ∈ xs, u.oneCell' = true)
    (h63 : m + n ≤ maxLen) (hbytes : (m + n) * bytes ≤ 140737488355328) (hbase : base ≤ w.heap.size) :
    ∃ v' w', (Builtin.append_ #[t, t] ty #[v, x]).run Try.prog w = .ok v' w' ∧ w'.ownsRow base e size v' (m + n) (ys ++ xs) ∧ w.grownBy w' v.ownBlock := by
  obtain ⟨i, hi, hz, hs, hb⟩ := info_parts hinfo
  rcases hx.2.2 with ⟨rfl, rfl⟩ | ⟨a, cap, rfl, hc⟩
  · have hx0 : xs = [] := List.eq_nil_of_length_eq_zero (by simpa using hx.1)
    subst hx0
    refine ⟨v, w, run_append_owned_none (P := Try.prog) w base t ty e i size ht hi v m ys hown, by simpa using hown, ⟨rfl, rfl, rfl, Nat.le_refl _, fun _ _ _ => rfl⟩⟩
  · obtain ⟨v', w', hr, ho, hg, _⟩ := run_append_own (P := Try.prog) w base t ty e i z size bytes ht hi hz hs hb hzs hsz v m ys hown a n cap xs hx.1 hc h1 h63 hbytes hbase
    exact ⟨v', w', hr, ho, hg⟩

/-- An append whose run is known. -/
theorem wpList_append_run {P : Program} {w w' : World} {ops : Array Oper} {rest : List Oper} {o : Oper} {a : Act} {Q : Exit → Act → World → Prop} {v x v' : Value} (hgd : o.guard = none) (s y : Operand) (t : TypeId)
    (ho : o.op = .call { callee := .builtin .append, args := #[s, y], argTypes := #[t, t] }) (hs : a.eval s = v) (hx : a.eval y = x)
    (hr : (Builtin.append_ #[t, t] o.type #[v, x]).run P w = .ok v' w') (h : wpList P ops Q rest (a.put o.dst v') w') : wpList P ops Q (o :: rest) a w := by
  refine wpList_plain hgd fun K hK => ?_
  unfold Oper.wp
  simp [execOp, ho, resolve, invoke, builtin, hs, hx, hr, Result.andThen]
  exact hK _ _ h

theorem repCells_one : ∀ (l : List (Int × Int)), ∀ u ∈ repCells l, u.oneCell' = true
  | [], u, h => by simp [repCells] at h
  | (q, v) :: r, u, h => by
    simp only [repCells, List.mem_cons] at h
    rcases h with rfl | rfl | h
    · rfl
    · rfl
    · exact repCells_one r u h

set_option maxHeartbeats 1000000 in
theorem twin_c (s : Ses) (kv : Value) (w : World) (hk : KeptAt w kv s.kept) (hn : s.kept.length ≤ 3) :
    Calls Try.prog 36 #[sesV s kv] w fun e w' => ∃ kv', w'.ownsRow w.heap.size 61 2 kv' s.kept.length (repCells s.kept) ∧ e = .returned (sesV s kv') ∧ Keeps w w' := by
  obtain ⟨ka, kc, rfl, hlen⟩ := hk.len
  have hkW : KeptAt ((w.alloc (.cells #[.int .i64 s.client, .int .i64 s.acked, .int .i64 s.seen, .slice ka s.kept.length kc] 34)).alloc (.cells #[.int .i64 0, .int .i64 0, .int .i64 0, .slice none 0 0] 34)) (.slice ka s.kept.length kc) s.kept := hk.keep (((Keeps.refl _).alloc _).alloc _)
  obtain ⟨v', w', hr, ho, hg⟩ := run_append_read ((w.alloc (.cells #[.int .i64 s.client, .int .i64 s.acked, .int .i64 s.seen, .slice ka s.kept.length kc] 34)).alloc (.cells #[.int .i64 0, .int .i64 0, .int .i64 0, .slice none 0 0] 34)) (w.heap.size + 2) 32 32 61 2 16 _ infoRep Try.underlying32 rfl (by decide) (.slice none 0 0) 0 [] (World.ownsRow_nil _ _ _ _) _ _ _ hkW (repCells_one _) (by unfold maxLen; omega) (by omega) (by simp)
  simp only [Nat.zero_add, List.nil_append] at ho
  clear hkW hk
  obtain ⟨va, vc, rfl⟩ : ∃ va vc, v' = .slice va s.kept.length vc := by obtain ⟨x, y, h, _⟩ := (RowAt.of_owns ho).len; exact ⟨x, y, h⟩
  have hkp : Keeps ((w.alloc (.cells #[.int .i64 s.client, .int .i64 s.acked, .int .i64 s.seen, .slice ka s.kept.length kc] 34)).alloc (.cells #[.int .i64 0, .int .i64 0, .int .i64 0, .slice none 0 0] 34)) w' := keeps_grown (Keeps.refl _) hg (fun k h => by cases h)
  have Hr := (show Hid (_ = _) from hr)
  clear hr hg
  obtain ⟨hc, hf⟩ := hkp.cells
  have hz := hkp.size
  simp only [World.size_alloc] at hc hf hz
  have hz1 : w.heap.size < w'.heap.size := by omega
  have hz2 : w.heap.size + 1 < w'.heap.size := by omega
  have hk' : Keeps w w' := (((Keeps.refl _).alloc _).alloc _).trans hkp
  have hq : w'.cell? ⟨w.heap.size, 3, none⟩ = some (.slice ka s.kept.length kc) := by rw [hc _ _ (by omega)]; simp [go_sem]
  have hs := World.cell?_setCell_same w' ⟨w.heap.size, 3, none⟩ (.slice va s.kept.length vc) hq
  clear hq
  go_enter Try.func36, Try.ntmps36
  go_wp2_with (at_builtin; refine wpList_append_run rfl _ _ _ rfl rfl rfl Hr.out ?_)
  refine bodyPost_ret (v := sesV s (.slice va s.kept.length vc)) ?_ rfl ?_
  · simp [results, Try.results36, go_sem, hc]
  · refine ⟨.slice va s.kept.length vc, ?_, rfl, ?_⟩
    · refine owns_base (base := w.heap.size + 2) ?_ (by omega)
      repeat refine ownsRow_setCell_below ?_ (by simp <;> omega) _
      exact ho
    · repeat refine Keeps.set ?_ (by simp <;> omega) _
      exact hk'

set_option maxHeartbeats 1000000 in
theorem own_c (s : Ses) (kv : Value) (w : World) (hk : KeptAt w kv s.kept) (hn : s.kept.length ≤ 3) :
    Calls Try.prog 38 #[sesV s kv] w fun e w' => ∃ kv', w'.ownsRow w.heap.size 61 2 kv' s.kept.length (repCells s.kept) ∧ e = .returned (sesV s kv') ∧ Keeps w w' := by
  obtain ⟨ka, kc, rfl, hlen⟩ := hk.len
  have hsz2 : ((w.alloc (.cells #[.int .i64 s.client, .int .i64 s.acked, .int .i64 s.seen, .slice ka s.kept.length kc] 34)).alloc (.cells #[.int .i64 0, .int .i64 0, .int .i64 0, .slice none 0 0] 34)).heap.size = w.heap.size + 1 + 1 := by simp
  have hmade := World.ownsRow_made (base := w.heap.size + 2) (e := 61) (size := 2) ((w.alloc (.cells #[.int .i64 s.client, .int .i64 s.acked, .int .i64 s.seen, .slice ka s.kept.length kc] 34)).alloc (.cells #[.int .i64 0, .int .i64 0, .int .i64 0, .slice none 0 0] 34)) #[] 0 (by simp) (by unfold maxLen; omega) rfl
  rw [hsz2] at hmade
  have hkW := hk.keep ((((Keeps.refl w).alloc (.cells #[.int .i64 s.client, .int .i64 s.acked, .int .i64 s.seen, .slice ka s.kept.length kc] 34)).alloc (.cells #[.int .i64 0, .int .i64 0, .int .i64 0, .slice none 0 0] 34)).alloc (.cells #[] 61))
  obtain ⟨v', w', hr, ho, hg⟩ := run_append_read _ (w.heap.size + 2) 32 32 61 2 16 _ infoRep Try.underlying32 rfl (by decide) _ 0 [] hmade _ _ _ hkW (repCells_one _) (by unfold maxLen; omega) (by omega) (by simp)
  simp only [Nat.zero_add, List.nil_append] at ho
  clear hkW hk hmade
  obtain ⟨va, vc, rfl⟩ : ∃ va vc, v' = .slice va s.kept.length vc := by obtain ⟨x, y, h, _⟩ := (RowAt.of_owns ho).len; exact ⟨x, y, h⟩
  have hkp : Keeps ((w.alloc (.cells #[.int .i64 s.client, .int .i64 s.acked, .int .i64 s.seen, .slice ka s.kept.length kc] 34)).alloc (.cells #[.int .i64 0, .int .i64 0, .int .i64 0, .slice none 0 0] 34)) w' :=
    keeps_grown ((Keeps.refl _).alloc _) hg (fun k h => by simp [Value.ownBlock] at h; simp; omega)
  have Hr := (show Hid (_ = _) from hr)
  clear hr hg hsz2
  obtain ⟨hc, hf⟩ := hkp.cells
  have hz := hkp.size
  simp only [World.size_alloc] at hc hf hz
  have hz1 : w.heap.size < w'.heap.size := by omega
  have hz2 : w.heap.size + 1 < w'.heap.size := by omega
  have hk' : Keeps w w' := (((Keeps.refl _).alloc _).alloc _).trans hkp
  have hq : w'.cell? ⟨w.heap.size, 3, none⟩ = some (.slice ka s.kept.length kc) := by rw [hc _ _ (by omega)]; simp [go_sem]
  have hs := World.cell?_setCell_same w' ⟨w.heap.size, 3, none⟩ (.slice va s.kept.length vc) hq
  clear hq
  go_enter Try.func38, Try.ntmps38
  go_wp2_with (at_builtin; refine wpList_append_run rfl _ _ _ rfl rfl rfl Hr.out ?_)
  refine bodyPost_ret (v := sesV s (.slice va s.kept.length vc)) ?_ rfl ?_
  · simp [results, Try.results38, go_sem, hc]
  · refine ⟨.slice va s.kept.length vc, ?_, rfl, ?_⟩
    · refine owns_base (base := w.heap.size + 2) ?_ (by omega)
      repeat refine ownsRow_setCell_below ?_ (by simp <;> omega) _
      exact ho
    · repeat refine Keeps.set ?_ (by simp <;> omega) _
      exact hk'
end Go.Proofs.Yteabfjpajgakiaa
