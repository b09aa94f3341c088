/- StP, ApP, ApQ0, ApQ1, OpF. -/
import Derived.Test.YteabfjpajgakiabJ05
import Derived.Test.YteabfjpajgakiabJ12
import Derived.Test.YteabfjpajgakiabJ15
/- A state laid into its box. -/
namespace Go.Proofs.Yteabfjpajgakiab
open Go.RowKit

/-- A state laid into its box. -/
theorem StBox.put {b : Nat} {s : St} {t : Value} {w : World} (h : StBox b s t w) (s' : St) (t' : Value) : StBox b s' t' (((((((w.setCell ⟨b, 0, none⟩ (.int .i64 s'.at_)).setCell ⟨b, 1, none⟩ (.int .i64 s'.clock)).setCell ⟨b, 2, none⟩ (.int .i64 s'.v0)).setCell ⟨b, 3, none⟩ (.int .i64 s'.v1)).setCell ⟨b, 4, none⟩ (.int .i64 s'.v2)).setCell ⟨b, 5, none⟩ (.int .i64 s'.v3)).setCell ⟨b, 6, none⟩ t') :=
  ((((((h.set (s' := { s with at_ := s'.at_ }) (t' := t) 0 (.int .i64 s'.at_) rfl rfl rfl rfl rfl rfl rfl).set (s' := { s with at_ := s'.at_, clock := s'.clock }) (t' := t) 1 (.int .i64 s'.clock) rfl rfl rfl rfl rfl rfl rfl).set (s' := { s with at_ := s'.at_, clock := s'.clock, v0 := s'.v0 }) (t' := t) 2 (.int .i64 s'.v0) rfl rfl rfl rfl rfl rfl rfl).set (s' := { s with at_ := s'.at_, clock := s'.clock, v0 := s'.v0, v1 := s'.v1 }) (t' := t) 3 (.int .i64 s'.v1) rfl rfl rfl rfl rfl rfl rfl).set (s' := { s with at_ := s'.at_, clock := s'.clock, v0 := s'.v0, v1 := s'.v1, v2 := s'.v2 }) (t' := t) 4 (.int .i64 s'.v2) rfl rfl rfl rfl rfl rfl rfl).set (s' := { s with at_ := s'.at_, clock := s'.clock, v0 := s'.v0, v1 := s'.v1, v2 := s'.v2, v3 := s'.v3 }) (t' := t) 5 (.int .i64 s'.v3) rfl rfl rfl rfl rfl rfl rfl).set (s' := s') (t' := t') 6 t' rfl rfl rfl rfl rfl rfl rfl
theorem But.puts {b : Nat} (w : World) (s' : St) (t' : Value) : But b w (((((((w.setCell ⟨b, 0, none⟩ (.int .i64 s'.at_)).setCell ⟨b, 1, none⟩ (.int .i64 s'.clock)).setCell ⟨b, 2, none⟩ (.int .i64 s'.v0)).setCell ⟨b, 3, none⟩ (.int .i64 s'.v1)).setCell ⟨b, 4, none⟩ (.int .i64 s'.v2)).setCell ⟨b, 5, none⟩ (.int .i64 s'.v3)).setCell ⟨b, 6, none⟩ t') :=
  (((((((But.refl _ _).set 0 _).set 1 _).set 2 _).set 3 _).set 4 _).set 5 _).set 6 _
end Go.Proofs.Yteabfjpajgakiab

/- A table of its own, one of whose sessions is turned in its place. -/
set_option linter.unusedSimpArgs false
set_option linter.unusedVariables false
set_option maxRecDepth 10000
namespace Go.Proofs.Yteabfjpajgakiab
open Go.RowKit

/-- A row of sessions in block g. -/
def SesRow (w : World) (g cap : Nat) (xs : List Value) : Prop := ∃ cur : Array Value, w.heap[g]? = some (.cells cur 48 (0, 0)) ∧ cur.size = cap * 4 ∧ cap ≤ maxLen ∧ xs.length ≤ cap * 4 ∧ cur.toList.take xs.length = xs
theorem SesRow.lt {w : World} {g cap : Nat} {xs : List Value} (h : SesRow w g cap xs) : g < w.heap.size := by
  obtain ⟨cur, h1, _⟩ := h
  exact (Array.getElem?_eq_some_iff.1 h1).1
theorem SesRow.set {w : World} {g cap : Nat} {xs : List Value} (h : SesRow w g cap xs) (i : Nat) (u : Value) : SesRow (w.setCell ⟨g, i, none⟩ u) g cap (xs.set i u) := by
  obtain ⟨cur, h1, h2, h3, h4, h5⟩ := h
  refine ⟨cur.setIfInBounds i u, ?_, by simpa using h2, h3, by simpa using h4, ?_⟩
  · simp [World.setCell, Array.getElem?_modify, h1]
  · simp only [List.length_set, Array.toList_setIfInBounds]
    rw [List.take_set, h5]
theorem SesRow.frozen {w : World} {g cap : Nat} {xs : List Value} (h : SesRow w g cap xs) (i : Nat) : w.frozen? ⟨g, i, none⟩ = false := by
  obtain ⟨cur, h1, _⟩ := h
  simp [World.frozen?, h1]

theorem sesCells_set : ∀ (L : List Ses) (ks : List Value) (k : Nat) (s : Ses) (kv : Value), ks.length = L.length → k < L.length →
    sesCells (L.set k s) (ks.set k kv) = ((((sesCells L ks).set (k * 4) (.int .i64 s.client)).set (k * 4 + 1) (.int .i64 s.acked)).set (k * 4 + 2) (.int .i64 s.seen)).set (k * 4 + 3) kv
  | [], ks, k, s, kv, _, h => by simp at h
  | a :: L, [], k, s, kv, h, _ => by simp at h
  | a :: L, b :: ks, 0, s, kv, _, _ => by simp [sesCells]
  | a :: L, b :: ks, k + 1, s, kv, h, hk => by
    have ih := sesCells_set L ks k s kv (by simpa using h) (by simpa using hk)
    rw [List.set_cons_succ, List.set_cons_succ, show (k + 1) * 4 = k * 4 + 1 + 1 + 1 + 1 from by omega]
    simp only [sesCells, List.set_cons_succ, ih]
theorem sesCells_seen : ∀ (L : List Ses) (ks : List Value) (k : Nat) (c : Int), ks.length = L.length → (hk : k < L.length) →
    sesCells (L.set k { L[k] with seen := c }) ks = (sesCells L ks).set (k * 4 + 2) (.int .i64 c)
  | [], ks, k, c, _, h => by simp at h
  | a :: L, [], k, c, h, _ => by simp at h
  | a :: L, b :: ks, 0, c, _, _ => by simp [sesCells]
  | a :: L, b :: ks, k + 1, c, h, hk => by
    have ih := sesCells_seen L ks k c (by simpa using h) (by simpa using hk)
    rw [show (k + 1) * 4 + 2 = k * 4 + 2 + 1 + 1 + 1 + 1 from by omega]
    simp only [List.set_cons_succ, List.getElem_cons_succ, sesCells, ih]
theorem sesCells_kept : ∀ (L : List Ses) (ks : List Value) (k : Nat) (l : List (Int × Int)) (kv : Value), ks.length = L.length → (hk : k < L.length) →
    sesCells (L.set k { L[k] with kept := l }) (ks.set k kv) = (sesCells L ks).set (k * 4 + 3) kv
  | [], ks, k, l, kv, _, h => by simp at h
  | a :: L, [], k, l, kv, h, _ => by simp at h
  | a :: L, b :: ks, 0, l, kv, _, _ => by simp [sesCells]
  | a :: L, b :: ks, k + 1, l, kv, h, hk => by
    have ih := sesCells_kept L ks k l kv (by simpa using h) (by simpa using hk)
    rw [show (k + 1) * 4 + 3 = k * 4 + 3 + 1 + 1 + 1 + 1 from by omega]
    simp only [List.set_cons_succ, List.getElem_cons_succ, sesCells, ih]

theorem KeptsOwn.set {base : Nat} {w : World} : ∀ {L : List Ses} {ks : List Value} (k : Nat) (s : Ses) (kv : Value), KeptsOwn base w L ks → w.ownsRow base 78 2 kv s.kept.length (repCells s.kept) → KeptsOwn base w (L.set k s) (ks.set k kv)
  | [], [], _, _, _, _, _ => trivial
  | _ :: _, _ :: _, 0, _, _, h, h' => ⟨h', h.2⟩
  | _ :: _, _ :: _, k + 1, s, kv, h, h' => ⟨h.1, KeptsOwn.set k s kv h.2 h'⟩
theorem KeptsOwn.seen {base : Nat} {w : World} : ∀ {L : List Ses} {ks : List Value} (k : Nat) (c : Int) (hk : k < L.length), KeptsOwn base w L ks → KeptsOwn base w (L.set k { L[k] with seen := c }) ks
  | [], [], _, _, hk, _ => by simp at hk
  | _ :: _, _ :: _, 0, _, _, h => ⟨h.1, h.2⟩
  | _ :: L, _ :: _, k + 1, c, hk, h => ⟨h.1, by have := KeptsOwn.seen k c (by simpa using hk) h.2; simpa using this⟩

/-- A table of its own whose row lies in block g. -/
structure TabOn (g base : Nat) (w : World) (v : Value) (L : List Ses) (ks : List Value) (cap : Nat) : Prop where
  le : base ≤ g
  val : v = .slice (some ⟨g, 0, none⟩) L.length cap
  row : SesRow w g cap (sesCells L ks)
  kept : KeptsOwn base w L ks
  fit : L.length ≤ cap

theorem TabOn.own {g base cap : Nat} {w : World} {v : Value} {L : List Ses} {ks : List Value} (h : TabOn g base w v L ks cap) : OwnTab base w v L := by
  obtain ⟨cur, h1, h2, h3, h4, h5⟩ := h.row
  have hl : (sesCells L ks).length = L.length * 4 := by
    have hk := h.kept.len
    clear h h1 h2 h3 h4 h5
    induction L generalizing ks with
    | nil => simp [sesCells]
    | cons a L ih =>
      cases ks with
      | nil => simp at hk
      | cons b ks => simp only [sesCells, List.length_cons, ih (by simpa using hk)]; omega
  rw [hl] at h5
  exact ⟨ks, h.kept, hl, .inr ⟨g, cap, cur, h.val, h.le, h1, h.fit, h3, h2, h5⟩⟩
theorem OwnTab.on {base : Nat} {w : World} {v : Value} {L : List Ses} (h : OwnTab base w v L) (h0 : 0 < L.length) : ∃ g ks cap, TabOn g base w v L ks cap := by
  obtain ⟨ks, h1, h2, h3⟩ := h
  rcases h3 with ⟨_, h3⟩ | ⟨g, cap, cur, hv, hg, hh, hn, hm, hs, ht⟩
  · omega
  · exact ⟨g, ks, cap, hg, hv, ⟨cur, hh, hs, hm, by rw [h2]; omega, by rw [h2]; exact ht⟩, h1, hn⟩
theorem TabOn.grown {g base cap : Nat} {w w' : World} {v : Value} {L : List Ses} {ks : List Value} (h : TabOn g base w v L ks cap) (hb : But g w w') : KeptsOwn base w' L ks := by
  have ho := h.own
  have hrow : ∃ row m ys, w.ownsRow base 48 4 row m ys ∧ row.ownBlock = some g := by
    obtain ⟨cur, h1, h2, h3, h4, h5⟩ := h.row
    have ⟨ks', hk', hr'⟩ := ho
    refine ⟨v, _, _, hr', ?_⟩
    rw [h.val]
    rfl
  obtain ⟨row, m, ys, hr, hg⟩ := hrow
  exact KeptsOwn.kept hr (by rw [hg]; exact ⟨hb.os, hb.tape, hb.output, hb.size, fun k hk hne => hb.block k hk (fun e => hne (by rw [e]))⟩) h.kept

/-- Its session number k is turned whole. -/
theorem TabOn.put {g base cap : Nat} {w : World} {v : Value} {L : List Ses} {ks : List Value} (h : TabOn g base w v L ks cap) {k : Nat} (hk : k < L.length) (s : Ses) (kv : Value) (hs : w.ownsRow base 78 2 kv s.kept.length (repCells s.kept)) :
    TabOn g base ((((w.setCell ⟨g, k * 4, none⟩ (.int .i64 s.client)).setCell ⟨g, k * 4 + 1, none⟩ (.int .i64 s.acked)).setCell ⟨g, k * 4 + 2, none⟩ (.int .i64 s.seen)).setCell ⟨g, k * 4 + 3, none⟩ kv) v (L.set k s) (ks.set k kv) cap := by
  have hb : But g w ((((w.setCell ⟨g, k * 4, none⟩ (.int .i64 s.client)).setCell ⟨g, k * 4 + 1, none⟩ (.int .i64 s.acked)).setCell ⟨g, k * 4 + 2, none⟩ (.int .i64 s.seen)).setCell ⟨g, k * 4 + 3, none⟩ kv) := ((((But.refl _ _).set _ _).set _ _).set _ _).set _ _
  have hl := h.kept.len
  have h2 : TabOn g base w v (L.set k s) (ks.set k kv) cap → True := fun _ => trivial
  refine ⟨h.le, by rw [h.val]; simp, ?_, ?_, by simpa using h.fit⟩
  · rw [sesCells_set L ks k s kv hl hk]
    exact (((h.row.set _ _).set _ _).set _ _).set _ _
  · have ho := h.own
    obtain ⟨ks', hk', hr'⟩ := ho
    have hgb : v.ownBlock = some g := by rw [h.val]; rfl
    exact KeptsOwn.kept hr' (by rw [hgb]; exact ⟨hb.os, hb.tape, hb.output, hb.size, fun k hk hne => hb.block k hk (fun e => hne (by rw [e]))⟩) (h.kept.set k s kv hs)
/-- .. when it was seen. -/
theorem TabOn.seen {g base cap : Nat} {w : World} {v : Value} {L : List Ses} {ks : List Value} (h : TabOn g base w v L ks cap) {k : Nat} (hk : k < L.length) (c : Int) :
    TabOn g base (w.setCell ⟨g, k * 4 + 2, none⟩ (.int .i64 c)) v (L.set k { L[k] with seen := c }) ks cap := by
  refine ⟨h.le, by rw [h.val]; simp, ?_, ?_, by simpa using h.fit⟩
  · rw [sesCells_seen L ks k c h.kept.len hk]
    exact h.row.set _ _
  · exact (h.grown ((But.refl _ _).set _ _)).seen k c hk
/-- .. what it keeps. -/
theorem TabOn.keptSet {g base cap : Nat} {w : World} {v : Value} {L : List Ses} {ks : List Value} (h : TabOn g base w v L ks cap) {k : Nat} (hk : k < L.length) (l : List (Int × Int)) (kv : Value) (hs : w.ownsRow base 78 2 kv l.length (repCells l)) :
    TabOn g base (w.setCell ⟨g, k * 4 + 3, none⟩ kv) v (L.set k { L[k] with kept := l }) (ks.set k kv) cap := by
  have hb : But g w (w.setCell ⟨g, k * 4 + 3, none⟩ kv) := (But.refl _ _).set _ _
  have hgb : v.ownBlock = some g := by rw [h.val]; rfl
  refine ⟨h.le, by rw [h.val]; simp, ?_, ?_, by simpa using h.fit⟩
  · rw [sesCells_kept L ks k l kv h.kept.len hk]
    exact h.row.set _ _
  · have ho := h.own
    obtain ⟨ks', hk', hr'⟩ := ho
    exact KeptsOwn.kept hr' (by rw [hgb]; exact ⟨hb.os, hb.tape, hb.output, hb.size, fun k hk hne => hb.block k hk (fun e => hne (by rw [e]))⟩) (h.kept.set k _ kv hs)
theorem TabOn.keep {g base cap : Nat} {w w' : World} {v : Value} {L : List Ses} {ks : List Value} (h : TabOn g base w v L ks cap) (hk : Keeps w w') : TabOn g base w' v L ks cap := by
  refine ⟨h.le, h.val, ?_, h.kept.keep hk, h.fit⟩
  have hl := h.row.lt
  obtain ⟨cur, h1, r⟩ := h.row
  exact ⟨cur, (hk.block g hl).trans h1, r⟩
theorem TabOn.but {g b base cap : Nat} {w w' : World} {v : Value} {L : List Ses} {ks : List Value} (h : TabOn g base w v L ks cap) (hb : b < base) (hk : But b w w') : TabOn g base w' v L ks cap := by
  refine ⟨h.le, h.val, ?_, h.kept.far hb hk, h.fit⟩
  have hl := h.row.lt
  have hle := h.le
  obtain ⟨cur, h1, r⟩ := h.row
  exact ⟨cur, (hk.block g hl (by omega)).trans h1, r⟩

/-- A session in the place of its client's, by its place. -/
theorem put_set : ∀ {L : List Ses} {k : Nat} (s : Ses), L.Pairwise (fun a b => a.client < b.client) → (hk : k < L.length) → (L[k]).client = s.client → putList L s = L.set k s
  | [], k, s, _, h, _ => by simp at h
  | a :: t, 0, s, hp, _, hc => by
    rw [List.pairwise_cons] at hp
    simp only [List.getElem_cons_zero] at hc
    unfold putList
    rw [List.filter_eq_nil_iff.2, List.filter_cons_of_neg (by simp; omega), List.filter_eq_self.2]
    · simp
    · intro o ho
      have := hp.1 o ho
      simp
      omega
    · intro o ho
      rcases List.mem_cons.1 ho with rfl | ho
      · simp; omega
      · have := hp.1 o ho
        simp
        omega
  | a :: t, k + 1, s, hp, hk, hc => by
    rw [List.pairwise_cons] at hp
    simp only [List.getElem_cons_succ] at hc
    have hk' : k < t.length := by simpa using hk
    have hac := hp.1 _ (List.getElem_mem hk')
    have ih := put_set s hp.2 hk' hc
    unfold putList at ih ⊢
    rw [List.filter_cons_of_pos (by simp; omega), List.filter_cons_of_neg (by simp; omega), List.set_cons_succ, ← ih]
    rfl
end Go.Proofs.Yteabfjpajgakiab

/- What the reference's applied makes, said by places: plain mathematics. -/
set_option linter.unusedSimpArgs false
set_option linter.unusedVariables false
namespace Go.Proofs.Yteabfjpajgakiab
open Go.RowKit

theorem put_len_new {L : List Ses} {s : Ses} (h : findSes L s.client = none) : (putList L s).length = L.length + 1 := by
  have hne : ∀ x ∈ L, x.client ≠ s.client := by
    intro x hx hc
    unfold findSes at h
    rw [List.find?_eq_none] at h
    exact h x hx (by simpa using hc)
  have key : ∀ M : List Ses, (∀ x ∈ M, x.client ≠ s.client) → (M.filter (fun o => decide (o.client < s.client))).length + (M.filter (fun o => decide (s.client < o.client))).length = M.length := by
    intro M
    induction M with
    | nil => intro _; rfl
    | cons a t ih =>
      intro hM
      have ha := hM a (List.mem_cons_self ..)
      have iht := ih (fun x hx => hM x (List.mem_cons_of_mem _ hx))
      by_cases hlt : a.client < s.client
      · rw [List.filter_cons_of_pos (by simpa using hlt), List.filter_cons_of_neg (by simp; omega)]
        simp only [List.length_cons]
        omega
      · rw [List.filter_cons_of_neg (by simpa using hlt), List.filter_cons_of_pos (by simp; omega)]
        simp only [List.length_cons]
        omega
  have := key L hne
  unfold putList
  simp only [List.length_append, List.length_cons, List.length_nil]
  omega

/-- A right table's sessions. -/
theorem tab_ses {s : St} (h : stErr s = 0) {k : Nat} (hk : k < s.tab.length) : sesErr (s.tab[k]) = 0 := (tab_right (stErr_in h).2.1).2.1 _ (List.getElem_mem hk)
theorem tab_pair {s : St} (h : stErr s = 0) : s.tab.Pairwise (fun a b => a.client < b.client) := rising_iff.1 (tab_right (stErr_in h).2.1).2.2
theorem tab_three {s : St} (h : stErr s = 0) : s.tab.length ≤ 3 := (tab_right (stErr_in h).2.1).1

theorem opened_found {s : St} {c : Int} {k : Nat} (h : stErr s = 0) (hk : k < s.tab.length) (hf : findSes s.tab c = some (s.tab[k])) :
    openedSt s c = { s with tab := s.tab.set k { s.tab[k] with seen := s.clock } } ∧ openedAns s c = 0 := by
  have hc := (findSes_mem hf).2
  have e1 : openSes s c = { s.tab[k] with seen := s.clock } := by
    unfold openSes
    rw [hf]
    show (⟨c, (s.tab[k]).acked, s.clock, (s.tab[k]).kept⟩ : Ses) = _
    rw [← hc]
  have hcl := (stErr_bounds h).2
  obtain ⟨r1, r2, r3, r4⟩ := ses_right (tab_ses h hk)
  have hse : sesErr { s.tab[k] with seen := s.clock } = 0 := ses_zero (inB_iff.1 r1) (inB_iff.1 r2) hcl r4
  have hp : putErr s.tab (openSes s c) = 0 := by
    rw [e1]
    exact put_zero (stErr_in h).2.1 hse (by rw [put_len (f := s.tab[k]) { s.tab[k] with seen := s.clock } (tab_pair h) (List.getElem_mem hk) rfl]; exact tab_three h)
  refine ⟨?_, by simp [openedAns, hp]⟩
  unfold openedSt
  rw [if_pos (by simpa using hp), putTab_ok hp, e1, put_set (k := k) { s.tab[k] with seen := s.clock } (tab_pair h) hk rfl]

theorem opened_none {s : St} {c : Int} (h : stErr s = 0) (hc : 1 ≤ c ∧ c ≤ 5) (hf : findSes s.tab c = none) :
    (s.tab.length = 3 → openedSt s c = s ∧ openedAns s c = -2) ∧ (s.tab.length ≠ 3 → openedSt s c = { s with tab := putTab s.tab ⟨c, 0, s.clock, []⟩ } ∧ openedAns s c = 0 ∧ putErr s.tab ⟨c, 0, s.clock, []⟩ = 0) := by
  have e1 : openSes s c = ⟨c, 0, s.clock, []⟩ := by unfold openSes; rw [hf]; rfl
  have hcl := (stErr_bounds h).2
  have hse : sesErr ⟨c, 0, s.clock, []⟩ = 0 := ses_zero hc (show (0 : Int) ≤ 0 ∧ (0 : Int) ≤ 60 from by decide) hcl rfl
  have hl := put_len_new (L := s.tab) (s := ⟨c, 0, s.clock, []⟩) hf
  have h3 := tab_three h
  refine ⟨fun h' => ?_, fun h' => ?_⟩
  · have hp : putErr s.tab (openSes s c) = 2 := by
      rw [e1]
      simp [putErr, (stErr_in h).2.1, hse]
      omega
    exact ⟨by simp [openedSt, hp], by simp [openedAns, hp]⟩
  · have hp : putErr s.tab ⟨c, 0, s.clock, []⟩ = 0 := put_zero (stErr_in h).2.1 hse (by omega)
    exact ⟨by simp [openedSt, e1, hp], by simp [openedAns, e1, hp], hp⟩

theorem closed_found {s : St} {c : Int} (h : stErr s = 0) {f : Ses} (hf : findSes s.tab c = some f) : closedSt s c = { s with tab := s.tab.filter (fun x => x.client != c) } ∧ closedAns s c = 0 := by
  have hn : (s.tab.filter (fun x => x.client != c)).length ≠ s.tab.length := by
    intro e
    have := drop_none.2 e
    rw [hf] at this
    cases this
  have hd : dropErr s.tab c = 0 := by
    simp only [dropErr, (stErr_in h).2.1, beq_self_eq_true, if_true]
    rw [if_neg (by rw [beq_iff_eq]; exact hn)]
  exact ⟨by simp [closedSt, hd, dropTab], by simp [closedAns, hd]⟩
theorem closed_none {s : St} {c : Int} (h : stErr s = 0) (hf : findSes s.tab c = none) : closedSt s c = s ∧ closedAns s c = -3 := by
  have hd : dropErr s.tab c = 5 := by
    simp only [dropErr, (stErr_in h).2.1, beq_self_eq_true, if_true]
    rw [if_pos (by simpa using drop_none.1 hf)]
  exact ⟨by simp [closedSt, hd], by simp [closedAns, hd]⟩

theorem call_found {s : St} {e : Ent} {k : Nat} (h : stErr s = 0) (he : entErr e = 0) (hkd : e.kind = 2) (hk : k < s.tab.length) (hf : findSes s.tab e.client = some (s.tab[k])) :
    callSt s e = { ansSt s (calledSes s (s.tab[k]) e) e with tab := s.tab.set k (callSes s (s.tab[k]) e) } ∧ callAns s e = ansOf s (calledSes s (s.tab[k]) e) e ∧ callDone s e = ansDone (calledSes s (s.tab[k]) e) e := by
  obtain ⟨hp, _, _, _⟩ := call_put h he hkd hf
  unfold callSt callAns callDone
  rw [hf]
  refine ⟨?_, rfl, rfl⟩
  show ({ ansSt s (calledSes s (s.tab[k]) e) e with tab := putTab s.tab (callSes s (s.tab[k]) e) } : St) = _
  rw [putTab_ok hp, put_set (k := k) (callSes s (s.tab[k]) e) (tab_pair h) hk rfl]
theorem call_none {s : St} {e : Ent} (hf : findSes s.tab e.client = none) : callSt s e = s ∧ callAns s e = -3 ∧ callDone s e = false := by
  unfold callSt callAns callDone
  rw [hf]
  exact ⟨rfl, rfl, rfl⟩
end Go.Proofs.Yteabfjpajgakiab

/- Three appends in one statement, and parts of a row of answers. -/
set_option linter.unusedSimpArgs false
set_option linter.unusedVariables false
namespace Go.Proofs.Yteabfjpajgakiab
open Go.RowKit

/-- An append whose run is known, as a step of a region that draws. -/
theorem step_append_run {P : Program} {ops : Array Oper} {o : Oper} {a : Act} {w w' : World} {K : Act → World → Prop} {Q : Exit → Act → World → Prop} {E : Prop} {v x v' : Value} (hgd : o.guard = none) (s y : Operand) (t : TypeId)
    (ho : o.op = .call { callee := .builtin .append, args := #[s, y], argTypes := #[t, t] }) (hs : a.eval s = v) (hx : a.eval y = x)
    (hr : (Builtin.append_ #[t, t] o.type #[v, x]).run P w = .ok v' w') (hK : K (a.put o.dst v') w') : if Region.wanted o (yielded ops a.tmps) = true then Oper.wp P o a w K Q else E := by
  have hw : Region.wanted o (yielded ops a.tmps) = true := by simp [Region.wanted, hgd]
  rw [if_pos hw]
  unfold Oper.wp
  simp [execOp, ho, resolve, invoke, builtin, hs, hx, hr, Result.andThen]
  exact hK

theorem kept_prefix {w : World} {oa : Option Addr} {oc j : Nat} {l : List (Int × Int)} (h : KeptAt w (.slice oa l.length oc) l) (hj : j ≤ l.length) : KeptAt w (.slice (if oc = 0 then oa else oa.map (·.add (0 * 2))) j oc) (l.take j) := by
  obtain ⟨h1, h2, h3⟩ := h
  have hl : (l.take j).length = j := by simp; omega
  refine ⟨by rw [repCells_len], by rw [hl]; omega, ?_⟩
  rcases h3 with ⟨e, hn⟩ | ⟨a, cap, e, h3⟩
  · injection e with e1 e2 e3
    subst e1 e3
    left
    have : j = 0 := by omega
    subst this
    exact ⟨rfl, by simp⟩
  · injection e with e1 e2 e3
    subst e1
    right
    refine ⟨a, oc, ?_, fun i u hu => ?_⟩
    · rw [hl]
      have : a.add (0 * 2) = a := rfl
      simp only [Option.map_some, this, ite_self]
    · rw [← repCells_take] at hu
      rw [List.getElem?_take] at hu
      split at hu
      · exact h3 i u hu
      · cases hu

theorem kept_suffix {w : World} {oa : Option Addr} {oc j : Nat} {l : List (Int × Int)} (h : KeptAt w (.slice oa l.length oc) l) (hj : j ≤ l.length) (hc : l.length ≤ oc) : KeptAt w (.slice (if oc = j then oa else oa.map (·.add (j * 2))) (l.length - j) (oc - j)) (l.drop j) := by
  obtain ⟨h1, h2, h3⟩ := h
  have hl : (l.drop j).length = l.length - j := by simp
  refine ⟨by rw [repCells_len], by rw [hl]; omega, ?_⟩
  rcases h3 with ⟨e, hn⟩ | ⟨a, cap, e, h3⟩
  · injection e with e1 e2 e3
    subst e1 e3
    left
    have : j = 0 := by omega
    subst this
    rw [hl, hn]
    exact ⟨rfl, rfl⟩
  · injection e with e1 e2 e3
    subst e1
    right
    by_cases hcj : oc = j
    · refine ⟨a, oc - j, by rw [if_pos hcj, hl], fun i u hu => ?_⟩
      rw [List.drop_of_length_le (by omega)] at hu
      simp [repCells] at hu
    · refine ⟨a.add (j * 2), oc - j, by rw [if_neg hcj, hl]; rfl, fun i u hu => ?_⟩
      rw [← repCells_drop, List.getElem?_drop] at hu
      have := h3 _ u hu
      have e : (a.add (j * 2)).add i = a.add (j * 2 + i) := by
        obtain ⟨b, o, sp⟩ := a
        rcases Nat.eq_zero_or_pos j with h0 | h0
        · subst h0
          rw [Nat.zero_mul, Nat.zero_add]
          rfl
        · have h2 : j * 2 ≠ 0 := by omega
          have h3 : j * 2 + i ≠ 0 := by omega
          rcases Nat.eq_zero_or_pos i with h4 | h4
          · subst h4
            rfl
          · have h5 : i ≠ 0 := by omega
            simp only [Addr.add, h2, h3, h5, if_false, Nat.add_assoc]
      rw [e]
      exact this

/-- 'append(v, x...)' of answers, v the call's own from base on. -/
theorem app_rep (w : World) (base : Nat) (v : Value) (A : List (Int × Int)) (hown : w.ownsRow base 78 2 v A.length (repCells A)) (x : Value) (B : List (Int × Int)) (hx : KeptAt w x B) (hl : A.length + B.length ≤ 100) (hbase : base ≤ w.heap.size) :
    ∃ va vc w', (Builtin.append_ #[46, 46] 46 #[v, x]).run Try.prog w = .ok (.slice va (A ++ B).length vc) w' ∧ w'.ownsRow base 78 2 (.slice va (A ++ B).length vc) (A ++ B).length (repCells (A ++ B)) ∧ (∀ w0, w0.heap.size = base → Keeps w0 w → Keeps w0 w') ∧ ∀ b, some b ≠ v.ownBlock → b < w.heap.size → w'.heap[b]? = w.heap[b]? := by
  obtain ⟨v', w', hr, ho, hg⟩ := run_append_read w base 46 46 78 2 16 _ infoRep Try.underlying46 rfl (by decide) v A.length (repCells A) hown x B.length (repCells B) hx (repCells_one _) (by unfold maxLen; omega) (by omega) hbase
  rw [← List.length_append, ← repCells_append] at ho
  obtain ⟨va, vc, hv, _⟩ := (RowAt.of_owns ho).len
  subst hv
  refine ⟨va, vc, w', hr, ho, fun w0 h0 hk => keeps_grown hk hg (fun k hk' => ?_), fun b hb hl => hg.block b hl hb⟩
  rw [h0]
  exact (hown.lt k hk').1

theorem owns_cap {w : World} {base n m oc size : Nat} {e : TypeId} {oa : Option Addr} {xs : List Value} (h : w.ownsRow base e size (.slice oa n oc) m xs) : m ≤ oc := by
  rcases h.2 with ⟨e, h⟩ | ⟨g, cap, cur, e, _, _, h, _⟩
  · omega
  · injection e with _ _ e
    subst e
    exact h
theorem kept_far {w w' : World} {b n c : Nat} {l : List (Int × Int)} (h : KeptAt w (.slice (some ⟨b, 0, none⟩) n c) l) (he : w'.heap[b]? = w.heap[b]?) : KeptAt w' (.slice (some ⟨b, 0, none⟩) n c) l := by
  obtain ⟨h1, h2, h3⟩ := h
  refine ⟨h1, h2, ?_⟩
  rcases h3 with h3 | ⟨a, cap, e, h3⟩
  · exact .inl h3
  · injection e with e1 e2 e3
    injection e1 with e1
    subst e1 e2 e3
    exact .inr ⟨_, _, rfl, fun j u hu => by rw [← h3 j u hu]; exact World.cell?_of_block (by rw [Addr.add_lit]; exact he)⟩

theorem cell_three {w : World} {g cap k : Nat} {L : List Ses} (h : TabAt w (.slice (some ⟨g, 0, none⟩) L.length cap) L) (hk : k < L.length) : ∃ u, w.cell? ⟨g, k * 4 + 3, none⟩ = some u := by
  have hc := (h.cells k hk _ rfl).2.2.2
  obtain ⟨ka, kc, hc, _⟩ := hc
  rw [Nat.zero_add] at hc
  exact ⟨_, hc⟩

/-- A row without an element, just laid. -/
theorem owns_bare (w : World) (base : Nat) (hb : base ≤ w.heap.size) : (w.alloc (.cells #[] 78)).ownsRow base 78 2 (.slice (some ⟨w.heap.size, 0, none⟩) 0 0) ([] : List (Int × Int)).length (repCells []) := by
  have := World.ownsRow_made (base := base) (e := 78) (size := 2) w #[] 0 hb (by unfold maxLen; omega) rfl
  exact this
end Go.Proofs.Yteabfjpajgakiab

/- What the reference's DoOf answers. -/
set_option linter.unusedSimpArgs false
set_option linter.unusedVariables false
set_option maxRecDepth 10000
namespace Go.Proofs.Yteabfjpajgakiab
open Go.RowKit

theorem did_move (g : Nat → Int) (key tk n : Int) (w : World) (hk0 : 0 ≤ key) (hk3 : key ≤ 3) (ht0 : 0 ≤ tk) (ht3 : tk ≤ 3) (hn0 : 0 ≤ n) (hn1 : n ≤ 999) (hv : valsOk g = true) :
    Calls Try.prog 61 #[arrV g, opV 3 key tk n] w fun e w' => e = .returned (.tuple #[arrV (if stepOk 3 g key tk n then stepTo 3 g key tk n else g), .int .i64 (if stepOk 3 g key tk n then stepTo 3 g key tk n key.toNat else -1)]) ∧ Keeps w w' := by
  have hg := vals_at hv
  have e : ∀ a b : Int, a + -b = a - b := fun a b => rfl
  rcases four hk0 hk3 with rfl | rfl | rfl | rfl
  · cases hi : inB (g 0 - n) 0 999 with
    | false =>
      have := did_move0_no g tk n w hn0 hn1 hv hi
      simpa [stepOk, stepTo, e, hi] using this
    | true =>
      rcases four ht0 ht3 with rfl | rfl | rfl | rfl
      · have := did_move00_yes g n w hn0 hn1 hv hi
        have hq : inB (g 0) 0 999 = true := by simp [inB]; exact hg 0 (by decide)
        simpa [stepOk, stepTo, e, hi, hq, upd] using this
      · cases hi2 : inB (g 1 + n) 0 999 with
        | true =>
          have := did_move01_yes g n w hn0 hn1 hv hi hi2
          simpa [stepOk, stepTo, e, hi, hi2, upd] using this
        | false =>
          have := did_move01_far g n w hn0 hn1 hv hi hi2
          simpa [stepOk, stepTo, e, hi, hi2, upd] using this
      · cases hi2 : inB (g 2 + n) 0 999 with
        | true =>
          have := did_move02_yes g n w hn0 hn1 hv hi hi2
          simpa [stepOk, stepTo, e, hi, hi2, upd] using this
        | false =>
          have := did_move02_far g n w hn0 hn1 hv hi hi2
          simpa [stepOk, stepTo, e, hi, hi2, upd] using this
      · cases hi2 : inB (g 3 + n) 0 999 with
        | true =>
          have := did_move03_yes g n w hn0 hn1 hv hi hi2
          simpa [stepOk, stepTo, e, hi, hi2, upd] using this
        | false =>
          have := did_move03_far g n w hn0 hn1 hv hi hi2
          simpa [stepOk, stepTo, e, hi, hi2, upd] using this
  · cases hi : inB (g 1 - n) 0 999 with
    | false =>
      have := did_move1_no g tk n w hn0 hn1 hv hi
      simpa [stepOk, stepTo, e, hi] using this
    | true =>
      rcases four ht0 ht3 with rfl | rfl | rfl | rfl
      · cases hi2 : inB (g 0 + n) 0 999 with
        | true =>
          have := did_move10_yes g n w hn0 hn1 hv hi hi2
          simpa [stepOk, stepTo, e, hi, hi2, upd] using this
        | false =>
          have := did_move10_far g n w hn0 hn1 hv hi hi2
          simpa [stepOk, stepTo, e, hi, hi2, upd] using this
      · have := did_move11_yes g n w hn0 hn1 hv hi
        have hq : inB (g 1) 0 999 = true := by simp [inB]; exact hg 1 (by decide)
        simpa [stepOk, stepTo, e, hi, hq, upd] using this
      · cases hi2 : inB (g 2 + n) 0 999 with
        | true =>
          have := did_move12_yes g n w hn0 hn1 hv hi hi2
          simpa [stepOk, stepTo, e, hi, hi2, upd] using this
        | false =>
          have := did_move12_far g n w hn0 hn1 hv hi hi2
          simpa [stepOk, stepTo, e, hi, hi2, upd] using this
      · cases hi2 : inB (g 3 + n) 0 999 with
        | true =>
          have := did_move13_yes g n w hn0 hn1 hv hi hi2
          simpa [stepOk, stepTo, e, hi, hi2, upd] using this
        | false =>
          have := did_move13_far g n w hn0 hn1 hv hi hi2
          simpa [stepOk, stepTo, e, hi, hi2, upd] using this
  · cases hi : inB (g 2 - n) 0 999 with
    | false =>
      have := did_move2_no g tk n w hn0 hn1 hv hi
      simpa [stepOk, stepTo, e, hi] using this
    | true =>
      rcases four ht0 ht3 with rfl | rfl | rfl | rfl
      · cases hi2 : inB (g 0 + n) 0 999 with
        | true =>
          have := did_move20_yes g n w hn0 hn1 hv hi hi2
          simpa [stepOk, stepTo, e, hi, hi2, upd] using this
        | false =>
          have := did_move20_far g n w hn0 hn1 hv hi hi2
          simpa [stepOk, stepTo, e, hi, hi2, upd] using this
      · cases hi2 : inB (g 1 + n) 0 999 with
        | true =>
          have := did_move21_yes g n w hn0 hn1 hv hi hi2
          simpa [stepOk, stepTo, e, hi, hi2, upd] using this
        | false =>
          have := did_move21_far g n w hn0 hn1 hv hi hi2
          simpa [stepOk, stepTo, e, hi, hi2, upd] using this
      · have := did_move22_yes g n w hn0 hn1 hv hi
        have hq : inB (g 2) 0 999 = true := by simp [inB]; exact hg 2 (by decide)
        simpa [stepOk, stepTo, e, hi, hq, upd] using this
      · cases hi2 : inB (g 3 + n) 0 999 with
        | true =>
          have := did_move23_yes g n w hn0 hn1 hv hi hi2
          simpa [stepOk, stepTo, e, hi, hi2, upd] using this
        | false =>
          have := did_move23_far g n w hn0 hn1 hv hi hi2
          simpa [stepOk, stepTo, e, hi, hi2, upd] using this
  · cases hi : inB (g 3 - n) 0 999 with
    | false =>
      have := did_move3_no g tk n w hn0 hn1 hv hi
      simpa [stepOk, stepTo, e, hi] using this
    | true =>
      rcases four ht0 ht3 with rfl | rfl | rfl | rfl
      · cases hi2 : inB (g 0 + n) 0 999 with
        | true =>
          have := did_move30_yes g n w hn0 hn1 hv hi hi2
          simpa [stepOk, stepTo, e, hi, hi2, upd] using this
        | false =>
          have := did_move30_far g n w hn0 hn1 hv hi hi2
          simpa [stepOk, stepTo, e, hi, hi2, upd] using this
      · cases hi2 : inB (g 1 + n) 0 999 with
        | true =>
          have := did_move31_yes g n w hn0 hn1 hv hi hi2
          simpa [stepOk, stepTo, e, hi, hi2, upd] using this
        | false =>
          have := did_move31_far g n w hn0 hn1 hv hi hi2
          simpa [stepOk, stepTo, e, hi, hi2, upd] using this
      · cases hi2 : inB (g 2 + n) 0 999 with
        | true =>
          have := did_move32_yes g n w hn0 hn1 hv hi hi2
          simpa [stepOk, stepTo, e, hi, hi2, upd] using this
        | false =>
          have := did_move32_far g n w hn0 hn1 hv hi hi2
          simpa [stepOk, stepTo, e, hi, hi2, upd] using this
      · have := did_move33_yes g n w hn0 hn1 hv hi
        have hq : inB (g 3) 0 999 = true := by simp [inB]; exact hg 3 (by decide)
        simpa [stepOk, stepTo, e, hi, hq, upd] using this

theorem did_c (g : Nat → Int) (k key tk n : Int) (w : World) (h0 : opErr k key tk n = 0) (hv : valsOk g = true) :
    Calls Try.prog 61 #[arrV g, opV k key tk n] w fun e w' => e = .returned (.tuple #[arrV (if stepOk k g key tk n then stepTo k g key tk n else g), .int .i64 (if stepOk k g key tk n then stepTo k g key tk n key.toNat else -1)]) ∧ Keeps w w' := by
  obtain ⟨⟨hk0, hk3⟩, hk⟩ := op_right h0
  rcases hk with ⟨rfl, _, hn0, hn1⟩ | ⟨rfl, _, hn0, hn1⟩ | ⟨rfl, ⟨ht0, ht3⟩, hn0, hn1⟩ | ⟨rfl, _, hn⟩
  · have := did_set g key tk n w hk0 hk3 (by simp [inB]; exact ⟨hn0, hn1⟩) hv
    simpa [stepOk, stepTo, upd] using this
  · have := did_add g key tk n w hk0 hk3 hn0 hn1 hv
    have e : upd g key.toNat (g key.toNat + n) key.toNat = g key.toNat + n := by simp [upd]
    simpa [stepOk, stepTo, e] using this
  · exact did_move g key tk n w hk0 hk3 ht0 ht3 hn0 hn1 hv
  · have := did_get g key tk n w hk0 hk3 hv
    simpa [stepOk, stepTo] using this
end Go.Proofs.Yteabfjpajgakiab
