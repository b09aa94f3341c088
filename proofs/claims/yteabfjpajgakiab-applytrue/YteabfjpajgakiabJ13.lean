/- ApG, ApH, ApI, SesP. -/
import Derived.Test.YteabfjpajgakiabJ04
import Derived.Test.YteabfjpajgakiabJ05
import Derived.Test.YteabfjpajgakiabJ06
import Derived.Test.YteabfjpajgakiabJ12
/- Applying: the machine's answer. -/
set_option linter.unusedSimpArgs false
set_option linter.unusedVariables false
set_option maxRecDepth 10000
namespace Go.Proofs.Yteabfjpajgakiab
open Go.RowKit

/-- Where a number is, or belongs. -/
def posOf (l : List (Int × Int)) (seq : Int) : Nat := (l.takeWhile fun r => decide (r.1 < seq)).length
theorem Place.pos : ∀ {l : List (Int × Int)} {seq : Int} {p : Nat}, Place l seq p → posOf l seq = p
  | [], seq, p, h => by have := h.le; simp at this; subst this; rfl
  | r :: t, seq, 0, h => by
    have := h.high 0 (by simp) (Nat.le_refl _)
    simp only [List.getElem_cons_zero] at this
    simp [posOf, List.takeWhile_cons, show ¬ r.1 < seq from by omega]
  | r :: t, seq, p + 1, h => by
    have h0 := h.low 0 (by simp) (by omega)
    simp only [List.getElem_cons_zero] at h0
    have ht : Place t seq p := ⟨by have := h.le; simp at this; omega, fun k hk hp => by have := h.low (k + 1) (by simp; omega) (by omega); simpa using this, fun k hk hp => by have := h.high (k + 1) (by simp; omega) (by omega); simpa using this⟩
    have := Place.pos ht
    simp only [posOf] at this ⊢
    rw [List.takeWhile_cons, if_pos (by simpa using h0), List.length_cons, this]
theorem posOf_le (l : List (Int × Int)) (seq : Int) : posOf l seq ≤ l.length := List.Sublist.length_le (List.takeWhile_sublist _)

/-- Is there an answer by that number, and which? -/
def keptHas (l : List (Int × Int)) (seq : Int) : Bool := thereB l seq (posOf l seq)
def keptVal (l : List (Int × Int)) (seq : Int) : Int := match l[posOf l seq]? with | some r => r.2 | none => 0
def keptPut (l : List (Int × Int)) (seq v : Int) : List (Int × Int) := l.take (posOf l seq) ++ (seq, v) :: l.drop (posOf l seq)

theorem search_pos (l : List (Int × Int)) (kv : Value) (seq : Int) (w : World) (hk : KeptAt w kv l) (h3 : l.length ≤ 3) (hri : Rises l) :
    Calls Try.prog 82 #[kv, .int .i64 seq, .func (.func 83) #[] #[]] w fun e w' => e = .returned (.tuple #[.int .i64 (posOf l seq), .bool (keptHas l seq)]) ∧ Keeps w w' := by
  refine (search_c l kv seq w hk h3 hri).mono ?_
  rintro e w' ⟨p, hp, rfl, hb⟩
  have := hp.pos
  subst this
  exact ⟨rfl, hb⟩

/-- The values of a state. -/
def stG (s : St) : Nat → Int := fun i => if i = 0 then s.v0 else if i = 1 then s.v1 else if i = 2 then s.v2 else s.v3
def setVals (s : St) (g : Nat → Int) : St := { s with v0 := g 0, v1 := g 1, v2 := g 2, v3 := g 3 }

/-- What a session answers to a call, whose Acked is raised already. -/
def ansDone (f : Ses) (e : Ent) : Bool := !(decide (e.seq ≤ f.acked)) && (!keptHas f.kept e.seq && !(decide (f.acked + 3 < e.seq)))
def ansNo (f : Ses) (e : Ent) : Int := if e.seq ≤ f.acked then -4 else if keptHas f.kept e.seq then keptVal f.kept e.seq else -5
def doneVals (s : St) (e : Ent) : Nat → Int := doVals (stG s) e.ok e.okey e.oto e.on
def doneAns (s : St) (e : Ent) : Int := doAns (stG s) e.ok e.okey e.oto e.on
def ansOf (s : St) (f : Ses) (e : Ent) : Int := if ansDone f e then doneAns s e else ansNo f e
def ansSt (s : St) (f : Ses) (e : Ent) : St := if ansDone f e then setVals s (doneVals s e) else s
def ansKept (s : St) (f : Ses) (e : Ent) : List (Int × Int) := if ansDone f e then keptPut f.kept e.seq (doneAns s e) else f.kept

/-- All that was there is as it was, but for three blocks. -/
structure But3 (b c d : Nat) (a w : World) : Prop where
  os : w.os = a.os
  tape : w.tape = a.tape
  output : w.output = a.output
  size : a.heap.size ≤ w.heap.size
  block : ∀ k, k < a.heap.size → k ≠ b → k ≠ c → k ≠ d → w.heap[k]? = a.heap[k]?
theorem But3.of {b c d h : Nat} {x y : World} (hk : But h x y) (hh : h = b ∨ h = c ∨ h = d) : But3 b c d x y :=
  ⟨hk.os, hk.tape, hk.output, hk.size, fun k hk' h1 h2 h3 => hk.block k hk' (by rcases hh with rfl | rfl | rfl <;> assumption)⟩
theorem But3.trans {b c d : Nat} {x y z : World} (h : But3 b c d x y) (k : But3 b c d y z) : But3 b c d x z :=
  ⟨k.os.trans h.os, k.tape.trans h.tape, k.output.trans h.output, Nat.le_trans h.size k.size, fun i hi h1 h2 h3 => (k.block i (Nat.lt_of_lt_of_le hi h.size) h1 h2 h3).trans (h.block i hi h1 h2 h3)⟩
theorem But3.keeps {b c d : Nat} {x y : World} (h : Keeps x y) : But3 b c d x y := But3.of (But.of (b := b) h) (.inl rfl)
/-- Two of them are younger than what was there. -/
theorem But3.to {b c d : Nat} {a x y : World} (ha : But b a x) (hc : a.heap.size ≤ c) (hd : a.heap.size ≤ d) (h : But3 b c d x y) : But b a y :=
  ⟨h.os.trans ha.os, h.tape.trans ha.tape, h.output.trans ha.output, Nat.le_trans ha.size h.size, fun k hk hb => (h.block k (Nat.lt_of_lt_of_le hk ha.size) hb (by omega) (by omega)).trans (ha.block k hk hb)⟩

theorem StBox.vals {b : Nat} {s : St} {t : Value} {w : World} (h : StBox b s t w) (g : Nat → Int) : StBox b (setVals s g) t ((((w.setCell ⟨b, 2, none⟩ (.int .i64 (g 0))).setCell ⟨b, 3, none⟩ (.int .i64 (g 1))).setCell ⟨b, 4, none⟩ (.int .i64 (g 2))).setCell ⟨b, 5, none⟩ (.int .i64 (g 3))) :=
  (((h.set (s' := { s with v0 := g 0 }) (t' := t) 2 _ rfl rfl rfl rfl rfl rfl rfl).set (s' := { s with v0 := g 0, v1 := g 1 }) (t' := t) 3 _ rfl rfl rfl rfl rfl rfl rfl).set (s' := { s with v0 := g 0, v1 := g 1, v2 := g 2 }) (t' := t) 4 _ rfl rfl rfl rfl rfl rfl rfl).set (s' := setVals s g) (t' := t) 5 _ rfl rfl rfl rfl rfl rfl rfl

/-- The boxes of answer: the machine, and the entry behind it. -/
structure AnsBox (M b : Nat) (e : Ent) (W : World) : Prop where
  m0 : W.cell? ⟨M, 0, none⟩ = some (.pointer (some ⟨b, 0, none⟩))
  e3 : W.cell? ⟨M + 1, 3, none⟩ = some (.int .i64 e.seq)
  e5 : W.cell? ⟨M + 1, 5, none⟩ = some (.int .i64 e.ok)
  e6 : W.cell? ⟨M + 1, 6, none⟩ = some (.int .i64 e.okey)
  e7 : W.cell? ⟨M + 1, 7, none⟩ = some (.int .i64 e.oto)
  e8 : W.cell? ⟨M + 1, 8, none⟩ = some (.int .i64 e.on)
theorem AnsBox.keep {M b : Nat} {e : Ent} {W W' : World} (h : AnsBox M b e W) (hk : Keeps W W') : AnsBox M b e W' :=
  ⟨cell_kept h.m0 hk, cell_kept h.e3 hk, cell_kept h.e5 hk, cell_kept h.e6 hk, cell_kept h.e7 hk, cell_kept h.e8 hk⟩
theorem AnsBox.but {M b c : Nat} {e : Ent} {W W' : World} (h : AnsBox M b e W) (hk : But c W W') (h1 : c < M) : AnsBox M b e W' :=
  ⟨hk.at h.m0 (by simp; omega), hk.at h.e3 (by simp; omega), hk.at h.e5 (by simp; omega), hk.at h.e6 (by simp; omega), hk.at h.e7 (by simp; omega), hk.at h.e8 (by simp; omega)⟩
theorem AnsBox.lt {M b : Nat} {e : Ent} {W : World} (h : AnsBox M b e W) : M < W.heap.size ∧ M + 1 < W.heap.size := ⟨World.block_lt_of_cell? _ _ h.m0, World.block_lt_of_cell? _ _ h.e3⟩

theorem kept_found {l : List (Int × Int)} {seq : Int} (h : keptHas l seq = true) : ∃ hp : posOf l seq < l.length, keptVal l seq = (l[posOf l seq]).2 := by
  unfold keptHas thereB at h
  cases hq : l[posOf l seq]? with
  | none => rw [hq] at h; cases h
  | some r =>
    obtain ⟨hp, hr⟩ := List.getElem?_eq_some_iff.1 hq
    exact ⟨hp, by unfold keptVal; rw [hq, hr]⟩

set_option maxHeartbeats 8000000 in
theorem answer_c (s : St) (f : Ses) (e : Ent) (b sb g : Nat) (x kv : Value) (w : World) (hB : StBox b s x w) (hS : SesBox sb f kv w) (hK : KeptOn g w kv f.kept) (h3 : f.kept.length ≤ 3) (hri : Rises f.kept)
    (hbs : b ≠ sb) (hgb : g ≠ b) (hgs : g ≠ sb) (hg : g < w.heap.size ∨ kv = .slice none 0 0) (ha0 : 0 ≤ f.acked) (ha1 : f.acked ≤ 60) (he0 : 1 ≤ e.seq) (he1 : e.seq ≤ 60) :
    Calls Try.prog 75 #[macV b, .pointer (some ⟨sb, 0, none⟩), entV e] w fun y w' => y = .returned (.tuple #[.int .i64 (ansOf s f e), .bool (ansDone f e)]) ∧
      ∃ kv' g', StBox b (ansSt s f e) x w' ∧ SesBox sb { f with kept := ansKept s f e } kv' w' ∧ KeptOn g' w' kv' (ansKept s f e) ∧ (g' = g ∨ w.heap.size ≤ g') ∧ But3 b sb g w w' := by
  have hbl := hB.lt
  have hsl := hS.lt
  obtain ⟨ka, kc, rfl, hlen⟩ := hK.kept.len
  unfold maxLen at hlen
  have HG : Hid (g < w.heap.size ∨ Value.slice ka f.kept.length kc = .slice none 0 0) := hg
  clear hg
  have HDN : Hid (ansDone f e = (!(decide (e.seq ≤ f.acked)) && (!keptHas f.kept e.seq && !(decide (f.acked + 3 < e.seq))))) := rfl
  have HAN : Hid (ansOf s f e = if ansDone f e then doneAns s e else ansNo f e) := rfl
  have HST : Hid (ansSt s f e = if ansDone f e then setVals s (doneVals s e) else s) := rfl
  have HKP : Hid (ansKept s f e = if ansDone f e then keptPut f.kept e.seq (doneAns s e) else f.kept) := rfl
  have HNO : Hid (ansNo f e = if e.seq ≤ f.acked then -4 else if keptHas f.kept e.seq then keptVal f.kept e.seq else -5) := rfl
  have HSE : Hid (∀ l, l = f.kept → { f with kept := l } = f) := fun l h => by subst h; rfl
  -- nothing was done
  have HOUT : Hid (ansDone f e = false → ∀ W, Keeps w W → ∃ kv' g', StBox b (ansSt s f e) x W ∧ SesBox sb { f with kept := ansKept s f e } kv' W ∧ KeptOn g' W kv' (ansKept s f e) ∧ (g' = g ∨ w.heap.size ≤ g') ∧ But3 b sb g w W) := by
    intro hd W hk
    have e1 : ansSt s f e = s := by rw [HST.out, hd]; rfl
    have e2 : ansKept s f e = f.kept := by rw [HKP.out, hd]; rfl
    rw [e1, e2]
    exact ⟨_, g, hB.keep hk, hS.keep hk, hK.keep hk, .inl rfl, But3.keeps hk⟩
  have HB : Hid (StBox b s x w) := hB
  have HS : Hid (SesBox sb f (.slice ka f.kept.length kc) w) := hS
  have HK : Hid (KeptOn g w (.slice ka f.kept.length kc) f.kept) := hK
  have HRI : Hid (Rises f.kept) := hri
  have HDO : Hid (∀ W, Calls Try.prog 19 #[.agg #[.int .i64 s.v0, .int .i64 s.v1, .int .i64 s.v2, .int .i64 s.v3], .agg #[.int .i64 e.ok, .int .i64 e.okey, .int .i64 e.oto, .int .i64 e.on]] W fun y w' => (∃ er, y = .returned (.tuple #[.agg #[.int .i64 (doneVals s e 0), .int .i64 (doneVals s e 1), .int .i64 (doneVals s e 2), .int .i64 (doneVals s e 3)], .int .i64 (doneAns s e), .int .i64 er])) ∧ Keeps W w') := fun W => (op_do (stG s) e.ok e.okey e.oto e.on W).mono fun y w' h => ⟨⟨_, h.1⟩, h.2⟩
  clear hB hS hK hri
  go_enter Try.func75, Try.ntmps75
  go_wp2_with fail
  obtain ⟨W1, hW1⟩ : ∃ W1, W1 = (w.alloc (.cells #[.pointer (some ⟨b, 0, none⟩)] 62)).alloc (.cells #[.int .i64 e.kind, .int .i64 e.time, .int .i64 e.client, .int .i64 e.seq, .int .i64 e.ack, .int .i64 e.ok, .int .i64 e.okey, .int .i64 e.oto, .int .i64 e.on] 33) := ⟨_, rfl⟩
  have k1 : Keeps w W1 := by rw [hW1]; exact ((Keeps.refl _).alloc _).alloc _
  have A1 : AnsBox w.heap.size b e W1 := by rw [hW1]; exact ⟨by simp [go_sem], by simp [go_sem], by simp [go_sem], by simp [go_sem], by simp [go_sem], by simp [go_sem]⟩
  rw [← hW1]
  have s1 := (HS.out.keep k1).c1
  have e3 := A1.e3
  have HK1 : Hid (Keeps w W1) := k1
  have HA1 : Hid (AnsBox w.heap.size b e W1) := A1
  clear hW1 k1 A1
  go_quiet (fail)
  obtain ⟨W2, hW2⟩ : ∃ W2, W2 = W1.drewN nq := ⟨_, rfl⟩
  have k12 : Keeps W1 W2 := by rw [hW2]; exact (Keeps.refl _).drewN _
  have HK2 : Hid (Keeps w W2) := HK1.out.trans k12
  have HA2 : Hid (AnsBox w.heap.size b e W2) := HA1.out.keep k12
  rw [← hW2]
  clear hW2 k12 HK1 HA1 s1 e3
  clear W1
  cases q1 : decide (e.seq ≤ f.acked) with
  | true =>
    have HD : Hid (ansDone f e = false) := by show _ = _; rw [HDN.out, q1]; rfl
    have HE : Hid (ansOf s f e = -4) := by show _ = _; rw [HAN.out, HD.out]; show ansNo f e = _; rw [HNO.out, if_pos (by simpa using q1)]
    go_wp2_with fail
    go_ret2
    exact ⟨by rw [HE.out, HD.out]; rfl, HOUT.out HD.out _ HK2.out⟩
  | false =>
    have HQ1 : Hid (¬ e.seq ≤ f.acked) := by show ¬ _; simpa using q1
    have HDN : Hid (ansDone f e = (!keptHas f.kept e.seq && !(decide (f.acked + 3 < e.seq)))) := by show _ = _; rw [HDN.out, q1]; rfl
    have HNO : Hid (ansNo f e = if keptHas f.kept e.seq then keptVal f.kept e.seq else -5) := by show _ = _; rw [HNO.out, if_neg HQ1.out]
    have z3 : ∀ t : After W2, t.w.cell? ⟨sb, 3, none⟩ = some (.slice ka f.kept.length kc) := fun t => (HS.out.keep (HK2.out.trans t.h)).c3
    have ze : ∀ t : After W2, t.w.cell? ⟨w.heap.size + 1, 3, none⟩ = some (.int .i64 e.seq) := fun t => (HA2.out.keep t.h).e3
    have hin := After.some W2
    have zl : ∀ t : After W2, sb < t.w.heap.size := fun t => (HS.out.keep (HK2.out.trans t.h)).lt
    have HKA : Hid (∀ t : After W2, KeptAt t.w (.slice ka f.kept.length kc) f.kept) := fun t => (HK.out.keep (HK2.out.trans t.h)).kept
    go_wp2_with fail
    refine wp_region_after (by kernel_rfl) (by kernel_rfl) ?_
    repeat (first | go_big_quiet_skip | (go_big_quiet_want; go_big_quiet_op; first | go_big_quiet_on | (apply Exists.intro; refine ⟨fun _ => ?_, ?_⟩; (go_at_call 82; exact calls_after (search_pos f.kept _ e.seq _ (HKA.out _) h3 HRI.out)); go_big_quiet_on)))
    refine wpQuiet_nil ?_
    rintro _ ⟨t, rfl⟩
    obtain ⟨W3, hW3⟩ : ∃ W3, W3 = t.w := ⟨_, rfl⟩
    have k23 : Keeps W2 W3 := by rw [hW3]; exact t.h
    have HK3 : Hid (Keeps w W3) := HK2.out.trans k23
    have HA3 : Hid (AnsBox w.heap.size b e W3) := HA2.out.keep k23
    rw [← hW3]
    clear hW3 k23 z3 ze zl hin HKA HK2 HA2
    clear t W2
    cases q2 : keptHas f.kept e.seq with
    | true =>
      have HD : Hid (ansDone f e = false) := by show _ = _; rw [HDN.out, q2]; rfl
      have HE : Hid (ansOf s f e = keptVal f.kept e.seq) := by show _ = _; rw [HAN.out, HD.out]; show ansNo f e = _; rw [HNO.out, q2]; rfl
      obtain ⟨hp, hval⟩ := kept_found q2
      obtain ⟨gb, off, cp, hv, _, hcell⟩ := (HK.out.keep HK3.out).kept.at hp
      have hc1 := (hcell _ hp).2
      rw [← hval] at hc1
      injection hv with hv1 hv2 hv3
      subst hv1
      have s3 := (HS.out.keep HK3.out).c3
      clear hcell hv2 hv3 hval
      generalize posOf f.kept e.seq = p at *
      generalize f.kept.length = n at *
      go_wp2_with fail
      go_ret2
      exact ⟨by rw [HE.out, HD.out]; rfl, HOUT.out HD.out _ HK3.out⟩
    | false =>
      have HDN : Hid (ansDone f e = !(decide (f.acked + 3 < e.seq))) := by show _ = _; rw [HDN.out, q2]; rfl
      have HNO : Hid (ansNo f e = -5) := by show _ = _; rw [HNO.out, q2]; rfl
      have s1 := (HS.out.keep HK3.out).c1
      have e3 := HA3.out.e3
      have hM := HA3.out.lt
      obtain ⟨hM0, hM1⟩ := hM
      go_wp2_with fail
      go_quiet (fail)
      obtain ⟨W4, hW4⟩ : ∃ W4, W4 = W3.drewN nq := ⟨_, rfl⟩
      have k34 : Keeps W3 W4 := by rw [hW4]; exact (Keeps.refl _).drewN _
      have HK4 : Hid (Keeps w W4) := HK3.out.trans k34
      have HA4 : Hid (AnsBox w.heap.size b e W4) := HA3.out.keep k34
      rw [← hW4]
      clear hW4 k34 HK3 HA3 s1 e3 hM0 hM1
      clear W3
      cases q3 : decide (f.acked + 3 < e.seq) with
      | true =>
        have HD : Hid (ansDone f e = false) := by show _ = _; rw [HDN.out, q3]; rfl
        have HE : Hid (ansOf s f e = -5) := by show _ = _; rw [HAN.out, HD.out]; exact HNO.out
        go_wp2_with fail
        go_ret2
        exact ⟨by rw [HE.out, HD.out]; rfl, HOUT.out HD.out _ HK4.out⟩
      | false =>
        have HD : Hid (ansDone f e = true) := by show _ = _; rw [HDN.out, q3]; rfl
        have HE : Hid (ansOf s f e = doneAns s e ∧ ansSt s f e = setVals s (doneVals s e) ∧ ansKept s f e = keptPut f.kept e.seq (doneAns s e)) := ⟨by rw [HAN.out, HD.out]; rfl, by rw [HST.out, HD.out]; rfl, by rw [HKP.out, HD.out]; rfl⟩
        clear HAN HST HKP HNO HDN HOUT
        generalize doneVals s e = dv at *
        generalize doneAns s e = da at *
        have B4 := HB.out.keep HK4.out
        have HS8 : Hid (∀ W, Keeps W4 W → W.cell? ⟨w.heap.size, 0, none⟩ = some (.pointer (some ⟨b, 0, none⟩)) ∧ W.cell? ⟨b, 2, none⟩ = some (.int .i64 s.v0) ∧ W.cell? ⟨b, 3, none⟩ = some (.int .i64 s.v1) ∧ W.cell? ⟨b, 4, none⟩ = some (.int .i64 s.v2) ∧ W.cell? ⟨b, 5, none⟩ = some (.int .i64 s.v3) ∧ W.cell? ⟨w.heap.size + 1, 5, none⟩ = some (.int .i64 e.ok) ∧ W.cell? ⟨w.heap.size + 1, 6, none⟩ = some (.int .i64 e.okey) ∧ W.cell? ⟨w.heap.size + 1, 7, none⟩ = some (.int .i64 e.oto) ∧ W.cell? ⟨w.heap.size + 1, 8, none⟩ = some (.int .i64 e.on)) := fun W hk => ⟨(HA4.out.keep hk).m0, (B4.keep hk).c2, (B4.keep hk).c3, (B4.keep hk).c4, (B4.keep hk).c5, (HA4.out.keep hk).e5, (HA4.out.keep hk).e6, (HA4.out.keep hk).e7, (HA4.out.keep hk).e8⟩
        have m0 := HA4.out.m0
        have b2 := B4.c2
        have b3 := B4.c3
        have b4 := B4.c4
        have b5 := B4.c5
        have e5 := HA4.out.e5
        have e6 := HA4.out.e6
        have e7 := HA4.out.e7
        have e8 := HA4.out.e8
        have bl4 := B4.lt
        obtain ⟨hM0, hM1⟩ := HA4.out.lt
        clear B4
        go_wp2_with fail
        go_cut [10, 11] (fun u v wc => ∃ D : Nat, u = .pointer (some ⟨D, 0, none⟩) ∧ w.heap.size ≤ D ∧ wc.cell? ⟨D, 0, none⟩ = some (.int .i64 (dv 0)) ∧ wc.cell? ⟨D, 1, none⟩ = some (.int .i64 (dv 1)) ∧ wc.cell? ⟨D, 2, none⟩ = some (.int .i64 (dv 2)) ∧ wc.cell? ⟨D, 3, none⟩ = some (.int .i64 (dv 3)) ∧ v = .int .i64 da ∧ Keeps W4 wc)
        case first =>
          go_region_held3 (fun w' => w'.cell? ⟨w.heap.size, 0, none⟩ = some (.pointer (some ⟨b, 0, none⟩)) ∧ w'.cell? ⟨b, 2, none⟩ = some (.int .i64 s.v0) ∧ w'.cell? ⟨b, 3, none⟩ = some (.int .i64 s.v1) ∧ w'.cell? ⟨b, 4, none⟩ = some (.int .i64 s.v2) ∧ w'.cell? ⟨b, 5, none⟩ = some (.int .i64 s.v3) ∧ w'.cell? ⟨w.heap.size + 1, 5, none⟩ = some (.int .i64 e.ok) ∧ w'.cell? ⟨w.heap.size + 1, 6, none⟩ = some (.int .i64 e.okey) ∧ w'.cell? ⟨w.heap.size + 1, 7, none⟩ = some (.int .i64 e.oto) ∧ w'.cell? ⟨w.heap.size + 1, 8, none⟩ = some (.int .i64 e.on)) (first | exact HS8.out _ ((Keeps.refl _).drew) | exact HS8.out _ (((Keeps.refl _).drew).trans hb) | exact HS8.out _ ((((Keeps.refl _).alloc _).drew).trans hb) | exact HS8.out _ ((((Keeps.refl _).drew).trans hb).alloc _) | exact HS8.out _ (((Keeps.refl _).alloc _).drew) | exact HS8.out _ (by (repeat refine Keeps.set ?_ (by simp <;> omega) _); exact (((Keeps.refl _).alloc _).drew).trans hb) | go_keep) (first | (go_at_call 19; refine (HDO.out _).mono ?_; rintro y w3 ⟨⟨er, rfl⟩, hb⟩; obtain ⟨hbc, hbf⟩ := hb.cells; have hbz := hb.size))
          all_goals go_wp2_with fail
          all_goals go_meet
          · have h0 := HK4.out.size
            have h1 := hb.size
            exact ⟨_, rfl, Nat.le_trans h0 h1, by simp [go_sem], by simp [go_sem], by simp [go_sem], by simp [go_sem], rfl, ((Keeps.refl _).drew.trans hb).alloc _⟩
          · have h0 := HK4.out.size
            refine ⟨_, rfl, h0, ?_, ?_, ?_, ?_, rfl, ?_⟩
            · simp [go_sem, hbc]
            · simp [go_sem, hbc]
            · simp [go_sem, hbc]
            · simp [go_sem, hbc]
            · (repeat refine Keeps.set ?_ (by simp <;> omega) _)
              exact (((Keeps.refl _).alloc _).drew).trans hb
        case rest =>
          obtain ⟨D, rfl, hD, d0, d1, d2, d3, rfl, hkc⟩ := hcut
          obtain ⟨W5, hW5⟩ : ∃ z : World, z = wc := ⟨_, rfl⟩
          subst hW5
          clear HS8 m0 b2 b3 b4 b5 e5 e6 e7 e8 bl4 hM0 hM1
          have k5 : Keeps w W5 := HK4.out.trans hkc
          have A5 := HA4.out.keep hkc
          have B5 := HB.out.keep k5
          have m0 := A5.m0
          have b2 := B5.c2
          have b3 := B5.c3
          have b4 := B5.c4
          have b5 := B5.c5
          have bz := B5.fz
          have bl5 := B5.lt
          have hDb : ¬ (D = b) := by omega
          have HB5 : Hid (StBox b s x W5) := B5
          have HA5 : Hid (AnsBox w.heap.size b e W5) := A5
          have HK5 : Hid (Keeps w W5) := k5
          have hz5 := k5.size
          clear HK4 HA4 hkc B5 A5 k5
          clear W4
          go_wp2_with fail
          have hbut : But b W5 ((((W5.setCell ⟨b, 2, none⟩ (.int .i64 (dv 0))).setCell ⟨b, 3, none⟩ (.int .i64 (dv 1))).setCell ⟨b, 4, none⟩ (.int .i64 (dv 2))).setCell ⟨b, 5, none⟩ (.int .i64 (dv 3))) := ((((But.refl _ _).set 2 _).set 3 _).set 4 _).set 5 _
          have B6 := HB5.out.vals dv
          generalize ((((W5.setCell ⟨b, 2, none⟩ (.int .i64 (dv 0))).setCell ⟨b, 3, none⟩ (.int .i64 (dv 1))).setCell ⟨b, 4, none⟩ (.int .i64 (dv 2))).setCell ⟨b, 5, none⟩ (.int .i64 (dv 3))) = W6 at *
          have S6 := (HS.out.keep HK5.out).other hbut (Ne.symm hbs)
          have K6 := (HK.out.keep HK5.out).but hbut hgb
          have A6 := HA5.out.but hbut hbl
          have F6 : But3 b sb g w W6 := (But3.keeps HK5.out).trans (But3.of hbut (.inl rfl))
          have hz6 := F6.size
          have HI : Hid (∀ W vb, Keeps W6 W → W.heap[vb]? = some (.cells #[.int .i64 e.seq, .int .i64 da] 78 (0, 0)) → W6.heap.size ≤ vb → Calls Try.prog 85 #[.slice ka f.kept.length kc, .int .i64 (posOf f.kept e.seq), .slice (some ⟨vb, 0, none⟩) 1 1] W fun y w7 =>
              ∃ va vn vc, y = .returned (.slice va vn vc) ∧ w7.cell? ⟨sb, 3, none⟩ = some (.slice ka f.kept.length kc) ∧ (∀ i, w7.frozen? ⟨sb, i, none⟩ = false) ∧ sb < w7.heap.size ∧ ∃ g', Hid (StBox b (setVals s dv) x w7) ∧ Hid (SesBox sb f (.slice ka f.kept.length kc) w7) ∧ Hid (KeptOn g' w7 (.slice va vn vc) (keptPut f.kept e.seq da)) ∧ Hid (g' = g ∨ w.heap.size ≤ g' ∧ g' ≠ sb) ∧ Hid (But3 b sb g w w7)) := by
            intro W vb hkW hvb hle
            have hvl : vb < W.heap.size := (Array.getElem?_eq_some_iff.1 hvb).1
            have hzW := hkW.size
            have hg0 : ∃ g0, KeptOn g0 W (.slice ka f.kept.length kc) f.kept ∧ vb ≠ g0 ∧ (g0 = g ∨ W.heap.size ≤ g0) := by
              rcases HG.out with h | h
              · exact ⟨g, K6.keep hkW, by omega, .inl rfl⟩
              · refine ⟨W.heap.size, .inl ⟨h, ?_⟩, by omega, .inr (Nat.le_refl _)⟩
                injection h with _ h _
                exact List.length_eq_zero_iff.1 h
            obtain ⟨g0, hk0, hv0, hgg⟩ := hg0
            have hs6 := S6.lt
            have hb6 := B6.lt
            refine (insert_c g0 vb (posOf f.kept e.seq) f.kept e.seq da _ W hk0 (posOf_le _ _) h3 hvb hv0).mono ?_
            rintro y w7 ⟨g', kv', hk', hor, rfl, hb'⟩
            obtain ⟨va, vc, hve, _⟩ := hk'.kept.len
            subst hve
            have hF7 : But3 b sb g W w7 := by
              rcases hgg with h | h
              · subst h
                exact But3.of hb' (.inr (.inr rfl))
              · exact But3.keeps (But.to (Keeps.refl W) h hb')
            have S7 := (S6.keep hkW).other hb' (by rcases hgg with h | h <;> omega)
            refine ⟨va, _, vc, rfl, S7.c3, S7.fz, S7.lt, g', (B6.keep hkW).other hb' (by rcases hgg with h | h <;> omega), S7, hk', ?_, F6.trans ((But3.keeps hkW).trans hF7)⟩
            rcases hor with h | h
            · subst h
              rcases hgg with h | h
              · exact .inl h
              · exact .inr ⟨by omega, by omega⟩
            · exact .inr ⟨by omega, by omega⟩
          have s3 := S6.c3
          have sl6 := S6.lt
          have e3 := A6.e3
          have hM := A6.lt.2
          have hMsb : ¬ (w.heap.size + 1 = sb) := by omega
          generalize posOf f.kept e.seq = p at *
          generalize f.kept.length = n at *
          clear hbut B6 S6 K6 A6 F6 HB5 HA5 HK5 d0 d1 d2 d3 m0 b2 b3 b4 b5 bz bl5 hz5 HDO HK HB HS HG
          clear W5
          go_region_with (first | (go_at_call 85; refine (HI.out _ _ (((Keeps.refl _).alloc _).drew) (heap_at _ _) (Nat.le_refl _)).mono ?_; rintro y w7 ⟨va, vn, vc, rfl, t3, tz, tl, g', HB7, HS7, HK7, HOR, HF7⟩))
          all_goals
            have hg7 : g' ≠ sb := by rcases HOR.out with h | h <;> omega
            have hor7 : g' = g ∨ w.heap.size ≤ g' := by rcases HOR.out with h | h <;> omega
            go_wp2_with fail
            go_ret2
            refine ⟨by rw [HE.out.1, HD.out]; rfl, .slice va vn vc, g', ?_⟩
            rw [HE.out.2.1, HE.out.2.2]
            exact ⟨HB7.out.other ((But.refl sb _).set 3 _) hbs, HS7.out.set_kept _ _, HK7.out.but ((But.refl sb _).set 3 _) hg7, hor7, HF7.out.trans (But3.of ((But.refl sb _).set 3 _) (.inr (.inl rfl)))⟩
end Go.Proofs.Yteabfjpajgakiab

/- Applying: the machine's call. -/
set_option linter.unusedSimpArgs false
set_option linter.unusedVariables false
set_option maxRecDepth 10000
namespace Go.Proofs.Yteabfjpajgakiab
open Go.RowKit

/-- The session that a Call finds, seen and acknowledged. -/
def calledSes (s : St) (f : Ses) (e : Ent) : Ses := { f with acked := max f.acked e.ack, seen := s.clock, kept := keptAfter (max f.acked e.ack) f.kept }
def callSes (s : St) (f : Ses) (e : Ent) : Ses := { calledSes s f e with kept := ansKept s (calledSes s f e) e }
def callSt (s : St) (e : Ent) : St := match findSes s.tab e.client with
  | none => s
  | some f => { ansSt s (calledSes s f e) e with tab := putTab s.tab (callSes s f e) }
def callAns (s : St) (e : Ent) : Int := match findSes s.tab e.client with
  | none => -3
  | some f => ansOf s (calledSes s f e) e
def callDone (s : St) (e : Ent) : Bool := match findSes s.tab e.client with
  | none => false
  | some f => ansDone (calledSes s f e) e

/-- An entry in its box. -/
structure EntBox (b : Nat) (e : Ent) (w : World) : Prop where
  c0 : w.cell? ⟨b, 0, none⟩ = some (.int .i64 e.kind)
  c1 : w.cell? ⟨b, 1, none⟩ = some (.int .i64 e.time)
  c2 : w.cell? ⟨b, 2, none⟩ = some (.int .i64 e.client)
  c3 : w.cell? ⟨b, 3, none⟩ = some (.int .i64 e.seq)
  c4 : w.cell? ⟨b, 4, none⟩ = some (.int .i64 e.ack)
  c5 : w.cell? ⟨b, 5, none⟩ = some (.int .i64 e.ok)
  c6 : w.cell? ⟨b, 6, none⟩ = some (.int .i64 e.okey)
  c7 : w.cell? ⟨b, 7, none⟩ = some (.int .i64 e.oto)
  c8 : w.cell? ⟨b, 8, none⟩ = some (.int .i64 e.on)
theorem EntBox.lt {b : Nat} {e : Ent} {w : World} (h : EntBox b e w) : b < w.heap.size := World.block_lt_of_cell? _ _ h.c0
theorem EntBox.keep {b : Nat} {e : Ent} {w w' : World} (h : EntBox b e w) (hk : Keeps w w') : EntBox b e w' :=
  ⟨cell_kept h.c0 hk, cell_kept h.c1 hk, cell_kept h.c2 hk, cell_kept h.c3 hk, cell_kept h.c4 hk, cell_kept h.c5 hk, cell_kept h.c6 hk, cell_kept h.c7 hk, cell_kept h.c8 hk⟩
theorem EntBox.but {b c : Nat} {e : Ent} {w w' : World} (h : EntBox b e w) (hk : But c w w') (hb : b ≠ c) : EntBox b e w' :=
  ⟨hk.at h.c0 hb, hk.at h.c1 hb, hk.at h.c2 hb, hk.at h.c3 hb, hk.at h.c4 hb, hk.at h.c5 hb, hk.at h.c6 hb, hk.at h.c7 hb, hk.at h.c8 hb⟩
theorem EntBox.new (w : World) (e : Ent) (t : TypeId) : EntBox w.heap.size e (w.alloc (.cells #[.int .i64 e.kind, .int .i64 e.time, .int .i64 e.client, .int .i64 e.seq, .int .i64 e.ack, .int .i64 e.ok, .int .i64 e.okey, .int .i64 e.oto, .int .i64 e.on] t)) :=
  ⟨by simp [go_sem], by simp [go_sem], by simp [go_sem], by simp [go_sem], by simp [go_sem], by simp [go_sem], by simp [go_sem], by simp [go_sem], by simp [go_sem]⟩

/-- Where there is no row, any block that is not there yet serves. -/
theorem KeptOn.again {g : Nat} {w : World} {kv : Value} {l : List (Int × Int)} (h : KeptOn g w kv l) : ∃ g', KeptOn g' w kv l ∧ ((g' = g ∧ g < w.heap.size) ∨ (g' = w.heap.size ∧ kv = .slice none 0 0)) := by
  rcases h with ⟨e1, e2⟩ | ⟨cap, e, hr⟩
  · exact ⟨_, .inl ⟨e1, e2⟩, .inr ⟨rfl, e1⟩⟩
  · exact ⟨g, .inr ⟨cap, e, hr⟩, .inl ⟨rfl, hr.lt⟩⟩

theorem But3.at {b c d : Nat} {x y : World} (h : But3 b c d x y) {p : Addr} {u : Value} (hu : x.cell? p = some u) (h1 : p.block ≠ b) (h2 : p.block ≠ c) (h3 : p.block ≠ d) : y.cell? p = some u :=
  (World.cell?_of_block (w := x) (h.block p.block (World.block_lt_of_cell? _ _ hu) h1 h2 h3)).trans hu

/-- Answers of a right session. -/
theorem keptOk_low : ∀ {hi lo : Int} {l : List (Int × Int)}, keptOk hi lo l = true → ∀ r ∈ l, lo ≤ r.1 ∧ r.1 ≤ hi
  | _, _, [], _, r, hr => by cases hr
  | hi, lo, (q, v) :: t, h, r, hr => by
    simp only [keptOk, Bool.and_eq_true] at h
    have hq := inB_iff.1 h.1.1
    rcases List.mem_cons.1 hr with rfl | hr
    · exact hq
    · have := keptOk_low h.2 r hr
      omega
theorem keptOk_rises : ∀ {hi lo : Int} {l : List (Int × Int)}, keptOk hi lo l = true → Rises l
  | _, _, [], _ => by intro i j hi; simp at hi
  | hi, lo, (q, v) :: t, h => by
    simp only [keptOk, Bool.and_eq_true] at h
    have ih := keptOk_rises h.2
    have hl := keptOk_low h.2
    intro i j hi' hj' hij
    cases j with
    | zero => omega
    | succ j =>
      cases i with
      | zero =>
        simp only [List.getElem_cons_zero, List.getElem_cons_succ]
        have := hl _ (List.getElem_mem (by simpa using hj'))
        omega
      | succ i =>
        simp only [List.getElem_cons_succ]
        exact ih i j (by simpa using hi') (by simpa using hj') (by omega)
theorem Rises.filter {l : List (Int × Int)} (h : Rises l) (p : Int × Int → Bool) : Rises (l.filter p) := by
  have hp : l.Pairwise (fun a b => a.1 < b.1) := by
    rw [List.pairwise_iff_getElem]
    exact fun i j hi hj hij => h i j hi hj hij
  have := hp.filter p
  rw [List.pairwise_iff_getElem] at this
  exact fun i j hi hj hij => this i j hi hj hij
theorem Rises.head {l : List (Int × Int)} (h : Rises l) : ∀ r ∈ l, (l.headD r).1 ≤ r.1 := by
  intro r hr
  obtain ⟨i, hi, rfl⟩ := List.getElem_of_mem hr
  cases l with
  | nil => simp at hi
  | cons a t =>
    cases i with
    | zero => simp
    | succ i =>
      have := h 0 (i + 1) (by simp) hi (by omega)
      simp at this ⊢
      omega
theorem findSes_mem {L : List Ses} {c : Int} {f : Ses} (h : findSes L c = some f) : f ∈ L ∧ f.client = c :=
  ⟨List.mem_of_find?_eq_some h, by simpa using List.find?_some h⟩
end Go.Proofs.Yteabfjpajgakiab

/- Applying: the machine's call, walked. -/
set_option linter.unusedSimpArgs false
set_option linter.unusedVariables false
set_option maxRecDepth 10000
namespace Go.Proofs.Yteabfjpajgakiab
open Go.RowKit

theorem ses_laid {w : World} {b : Nat} (f : Ses) (k : Value) (h : SesBox b zeroSes (.slice none 0 0) w) : SesBox b f k ((((w.setCell ⟨b, 0, none⟩ (.int .i64 f.client)).setCell ⟨b, 1, none⟩ (.int .i64 f.acked)).setCell ⟨b, 2, none⟩ (.int .i64 f.seen)).setCell ⟨b, 3, none⟩ k) :=
  (((h.set_client f.client).set_acked f.acked).set_seen f.seen).set_kept f.kept k

set_option maxHeartbeats 8000000 in
theorem call_c (s : St) (e : Ent) (b base : Nat) (x : Value) (w : World) (hB : StBox b s x w) (hO : OwnTab base w x s.tab) (hbb : b < base) (hbw : base ≤ w.heap.size) (he : tabErr s.tab = 0) (hs0 : 1 ≤ e.seq) (hs1 : e.seq ≤ 60) (ha0 : 0 ≤ e.ack) (ha1 : e.ack ≤ 60) :
    Calls Try.prog 56 #[macV b, entV e] w fun y w' => y = .returned (.tuple #[.int .i64 (callAns s e), .bool (callDone s e)]) ∧ ∃ x', StBox b (callSt s e) x' w' ∧ OwnTab base w' x' (callSt s e).tab ∧ But b w w' := by
  have hT : TabFar b w x s.tab := hO.far hbb
  have HOT : Hid (OwnTab base w x s.tab) := hO
  clear hO
  have hbl := hB.lt
  obtain ⟨xa, xc, rfl, hxl⟩ := hT.tab.len
  have HT : Hid (TabFar b w (.slice xa s.tab.length xc) s.tab) := hT
  have HB : Hid (StBox b s (.slice xa s.tab.length xc) w) := hB
  have HR : Hid (∀ f, findSes s.tab e.client = some f → sesErr f = 0) := fun f h => (tab_right he).2.1 f (findSes_mem h).1
  have HSA : Hid (callAns s e = match findSes s.tab e.client with | none => -3 | some f => ansOf s (calledSes s f e) e) := rfl
  have HSD : Hid (callDone s e = match findSes s.tab e.client with | none => false | some f => ansDone (calledSes s f e) e) := rfl
  have HSS : Hid (callSt s e = match findSes s.tab e.client with | none => s | some f => { ansSt s (calledSes s f e) e with tab := putTab s.tab (callSes s f e) }) := rfl
  have HF : Hid (∀ W, Keeps w W → Calls Try.prog 70 #[.slice xa s.tab.length xc, .int .i64 e.client] W fun y w' => ∃ ka kc, y = .returned (.tuple #[.agg #[.int .i64 ((findSes s.tab e.client).getD zeroSes).client, .int .i64 ((findSes s.tab e.client).getD zeroSes).acked, .int .i64 ((findSes s.tab e.client).getD zeroSes).seen, .slice ka ((findSes s.tab e.client).getD zeroSes).kept.length kc], .bool (findSes s.tab e.client).isSome, .int .i64 0]) ∧ Hid (w'.ownsRow W.heap.size 78 2 (.slice ka ((findSes s.tab e.client).getD zeroSes).kept.length kc) ((findSes s.tab e.client).getD zeroSes).kept.length (repCells ((findSes s.tab e.client).getD zeroSes).kept)) ∧ Keeps W w') := by
    intro W hk
    refine (find_own s.tab _ e.client W (hT.tab.keep hk) (by rw [he]; rfl)).mono ?_
    rintro y w' ⟨kv, ho, rfl, hb⟩
    obtain ⟨ka, kc, rfl, _⟩ := (RowAt.of_owns ho).len
    exact ⟨ka, kc, rfl, ho, hb⟩
  clear hB hT
  have HO : Hid (∀ f, findSes s.tab e.client = some f → f = (findSes s.tab e.client).getD zeroSes) := fun f h => by rw [h]; rfl
  generalize hfs : (findSes s.tab e.client).getD zeroSes = f at *
  generalize hfi : (findSes s.tab e.client).isSome = fi at *
  have HFS : Hid ((findSes s.tab e.client).getD zeroSes = f) := hfs
  have HFI : Hid ((findSes s.tab e.client).isSome = fi) := hfi
  clear hfs hfi
  go_enter Try.func56, Try.ntmps56
  go_wp2_with fail
  obtain ⟨W1, hW1⟩ : ∃ W1, W1 = (w.alloc (.cells #[.pointer (some ⟨b, 0, none⟩)] 62)).alloc (.cells #[.int .i64 e.kind, .int .i64 e.time, .int .i64 e.client, .int .i64 e.seq, .int .i64 e.ack, .int .i64 e.ok, .int .i64 e.okey, .int .i64 e.oto, .int .i64 e.on] 33) := ⟨_, rfl⟩
  have k1 : Keeps w W1 := by rw [hW1]; exact ((Keeps.refl _).alloc _).alloc _
  have m0 : W1.cell? ⟨w.heap.size, 0, none⟩ = some (.pointer (some ⟨b, 0, none⟩)) := by rw [hW1]; simp [go_sem]
  have E1 : EntBox (w.heap.size + 1) e W1 := by rw [hW1]; have := EntBox.new (w.alloc (.cells #[.pointer (some ⟨b, 0, none⟩)] 62)) e 33; simpa using this
  have hz1 : W1.heap.size = w.heap.size + 2 := by rw [hW1]; simp
  rw [← hW1]
  clear hW1
  have B1 := HB.out.keep k1
  have HS8 : Hid (∀ W, Keeps W1 W → W.cell? ⟨w.heap.size, 0, none⟩ = some (.pointer (some ⟨b, 0, none⟩)) ∧ W.cell? ⟨b, 6, none⟩ = some (.slice xa s.tab.length xc) ∧ W.cell? ⟨w.heap.size + 1, 2, none⟩ = some (.int .i64 e.client)) := fun W hk => ⟨cell_kept m0 hk, (B1.keep hk).c6, (E1.keep hk).c2⟩
  have b6 := B1.c6
  have e2 := E1.c2
  have hbl1 := B1.lt
  have HE1 : Hid (EntBox (w.heap.size + 1) e W1) := E1
  have HK1 : Hid (Keeps w W1) := k1
  have hM0 : w.heap.size < W1.heap.size := by omega
  have hM1 : w.heap.size + 1 < W1.heap.size := by omega
  have HZ1 : Hid (W1.heap.size = w.heap.size + 2) := hz1
  clear B1 E1 k1 hz1
  go_cut [6, 7] (fun u v wc => v = .bool fi ∧ ∃ sb g ka kc, u = .pointer (some ⟨sb, 0, none⟩) ∧ SesBox sb f (.slice ka f.kept.length kc) wc ∧ KeptOn g wc (.slice ka f.kept.length kc) f.kept ∧ w.heap.size + 2 ≤ sb ∧ Hid ((w.heap.size + 2 ≤ g ∧ g ≠ sb) ∧ (g < wc.heap.size ∨ Value.slice ka f.kept.length kc = .slice none 0 0)) ∧ Keeps W1 wc)
  case first =>
    go_region_held3 (fun W => W.cell? ⟨w.heap.size, 0, none⟩ = some (.pointer (some ⟨b, 0, none⟩)) ∧ W.cell? ⟨b, 6, none⟩ = some (.slice xa s.tab.length xc) ∧ W.cell? ⟨w.heap.size + 1, 2, none⟩ = some (.int .i64 e.client)) (first | exact HS8.out _ ((Keeps.refl _).drew) | exact HS8.out _ (((Keeps.refl _).drew).trans hb) | exact HS8.out _ ((((Keeps.refl _).alloc _).drew).trans hb) | exact HS8.out _ ((((Keeps.refl _).drew).trans hb).alloc _) | exact HS8.out _ (((Keeps.refl _).alloc _).drew) | exact HS8.out _ (by (repeat refine Keeps.set ?_ (by simp <;> omega) _); exact (((Keeps.refl _).alloc _).drew).trans hb) | go_keep) (first | (go_at_call 70; refine (HF.out _ (by first | exact HK1.out.drew | exact (HK1.out.alloc _).drew)).mono ?_; rintro y w3 ⟨ka, kc, rfl, HO3, hb⟩; obtain ⟨hbc, hbf⟩ := hb.cells; have hbz := hb.size))
    all_goals go_wp2_with fail
    all_goals go_meet
    · obtain ⟨g0, hK0, hg0, _⟩ := KeptOn.of_owns HO3.out
      have hz3 : W1.heap.size ≤ w3.heap.size := hb.size
      have hz1 := HZ1.out
      have hd1 : W1.drew.heap.size = W1.heap.size := rfl
      have hex : ∃ g, KeptOn g w3 (.slice ka f.kept.length kc) f.kept ∧ W1.heap.size ≤ g ∧ g ≠ w3.heap.size ∧ (g < w3.heap.size + 1 ∨ Value.slice ka f.kept.length kc = .slice none 0 0) := by
        rcases hK0 with ⟨h, hn⟩ | ⟨cap, h, hr⟩
        · exact ⟨w3.heap.size + 1, .inl ⟨h, hn⟩, by omega, by omega, .inr h⟩
        · have := hr.lt
          exact ⟨g0, .inr ⟨cap, h, hr⟩, by omega, by omega, .inl (by omega)⟩
      obtain ⟨g, hK, hg1, hg2, hg3⟩ := hex
      refine ⟨rfl, _, g, ka, kc, rfl, SesBox.new w3 f _ 48, hK.keep ((Keeps.refl _).alloc _), ?_, ⟨⟨by omega, hg2⟩, ?_⟩, ((Keeps.refl _).drew.trans hb).alloc _⟩
      · show _ ≤ w3.heap.size
        omega
      · rw [World.size_alloc]
        exact hg3
    · obtain ⟨g0, hK0, hg0, _⟩ := KeptOn.of_owns HO3.out
      obtain ⟨g, hK, hgo⟩ := hK0.again
      have hz3 := hb.size
      have hz1 := HZ1.out
      have hd1 : (W1.alloc (.cells #[.int .i64 0, .int .i64 0, .int .i64 0, .slice none 0 0] 48)).drew.heap.size = W1.heap.size + 1 := by show (W1.alloc _).heap.size = _; rw [World.size_alloc]
      rw [hd1] at hg0 hz3
      have hSz : SesBox W1.heap.size zeroSes (.slice none 0 0) w3 := (SesBox.new W1 zeroSes (.slice none 0 0) 48).keep ((Keeps.refl _).drew.trans hb)
      have hgg : W1.heap.size < g := by rcases hgo with h | h <;> omega
      refine ⟨rfl, _, g, ka, kc, rfl, ses_laid f _ hSz, ?_, ?_, ⟨⟨?_, ?_⟩, ?_⟩, ?_⟩
      · exact hK.but ((((But.refl W1.heap.size w3).set 0 _).set 1 _).set 2 _ |>.set 3 _) (by omega)
      · omega
      · omega
      · omega
      · simp
        rcases hgo with h | h
        · exact .inl (by omega)
        · exact .inr (by have := h.2; injection this with a1 a2 a3; exact ⟨a1, List.length_eq_zero_iff.1 a2, a3⟩)
      · (repeat refine Keeps.set ?_ (by simp <;> omega) _)
        exact (((Keeps.refl _).alloc _).drew).trans hb
  case rest =>
    obtain ⟨rfl, sb, g, ka, kc, rfl, hSB, hKO, hsb, HGG, hkc⟩ := hcut
    obtain ⟨W2, hW2⟩ : ∃ z : World, z = wc := ⟨_, rfl⟩
    subst hW2
    have HK2 : Hid (Keeps w W2) := HK1.out.trans hkc
    have HE2 : Hid (EntBox (w.heap.size + 1) e W2) := HE1.out.keep hkc
    have m2 := cell_kept m0 hkc
    have hz2 := hkc.size
    have HSB : Hid (SesBox sb f (.slice ka f.kept.length kc) W2) := hSB
    have HKO : Hid (KeptOn g W2 (.slice ka f.kept.length kc) f.kept) := hKO
    have hz1 := HZ1.out
    have hzz : w.heap.size + 2 ≤ W2.heap.size := by omega
    clear HS8 HF m0 b6 e2 hbl1 HE1 HK1 hM0 hM1 HZ1 hz1 hz2 hSB hKO hkc
    clear W1
    cases fi with
    | false =>
      have hnone : findSes s.tab e.client = none := by have := HFI.out; cases hq : findSes s.tab e.client <;> simp_all
      have H1 : Hid (callAns s e = -3 ∧ callDone s e = false ∧ callSt s e = s) := ⟨by rw [HSA.out, hnone], by rw [HSD.out, hnone], by rw [HSS.out, hnone]⟩
      clear hnone
      go_wp2_with fail
      go_ret2
      refine ⟨by rw [H1.out.1, H1.out.2.1]; rfl, ?_⟩
      rw [H1.out.2.2]
      exact ⟨_, HB.out.keep HK2.out, HOT.out.keep HK2.out, But.of HK2.out⟩
    | true =>
      have hsome : findSes s.tab e.client = some f := by have h1 := HFI.out; have h2 := HFS.out; cases hq : findSes s.tab e.client <;> simp_all
      have HSA : Hid (callAns s e = ansOf s (calledSes s f e) e) := by show _ = _; rw [HSA.out, hsome]
      have HSD : Hid (callDone s e = ansDone (calledSes s f e) e) := by show _ = _; rw [HSD.out, hsome]
      have HSS : Hid (callSt s e = { ansSt s (calledSes s f e) e with tab := putTab s.tab (callSes s f e) }) := by show _ = _; rw [HSS.out, hsome]
      have hfe := HR.out f hsome
      have HFE : Hid (sesErr f = 0) := hfe
      have hra := inB_iff.1 (ses_right hfe).2.1
      obtain ⟨hra0, hra1⟩ := hra
      clear hsome hfe HR HO HFS HFI
      have s0 := HSB.out.c0
      have s1 := HSB.out.c1
      have s2 := HSB.out.c2
      have s3 := HSB.out.c3
      have sz := HSB.out.fz
      have sl := HSB.out.lt
      have B2 := HB.out.keep HK2.out
      have b1 := B2.c1
      have bl2 := B2.lt
      have e4 := HE2.out.c4
      have hMl : w.heap.size < W2.heap.size := by omega
      have hMl1 : w.heap.size + 1 < W2.heap.size := by omega
      have hsb1 : ¬ (w.heap.size = sb) := by omega
      have hsb2 : ¬ (w.heap.size + 1 = sb) := by omega
      have hsb3 : ¬ (b = sb) := by omega
      clear B2
      obtain ⟨W3, hW3⟩ : ∃ W3, W3 = (W2.setCell ⟨sb, 2, none⟩ (.int .i64 s.clock)).setCell ⟨sb, 1, none⟩ (.int .i64 (max f.acked e.ack)) := ⟨_, rfl⟩
      have HW3 : Hid (W3 = (W2.setCell ⟨sb, 2, none⟩ (.int .i64 s.clock)).setCell ⟨sb, 1, none⟩ (.int .i64 (max f.acked e.ack))) := hW3
      have SB3 : SesBox sb { f with acked := max f.acked e.ack, seen := s.clock } (.slice ka f.kept.length kc) W3 := by rw [hW3]; exact (HSB.out.set_seen s.clock).set_acked (max f.acked e.ack)
      have BT3 : But sb W2 W3 := by rw [hW3]; exact ((But.refl _ _).set 2 _).set 1 _
      obtain ⟨⟨hg1, hg2⟩, hg3⟩ := HGG.out
      have KO3 : KeptOn g W3 (.slice ka f.kept.length kc) f.kept := HKO.out.but BT3 hg2
      have hk3 := kept_le HFE.out
      have hri := keptOk_rises (ses_right HFE.out).2.2.2
      have hDEL := delete_c g sb (max f.acked e.ack) f.kept _ W3 KO3 hk3 (Ne.symm hg2) SB3.c1 hri.head
      have HDEL : Hid (Calls Try.prog 73 #[.slice ka f.kept.length kc, delF sb] W3 fun e' w' => ∃ kv', KeptOn g w' kv' (keptAfter (max f.acked e.ack) f.kept) ∧ e' = .returned kv' ∧ But g W3 w') := hDEL
      have HSB3 : Hid (SesBox sb { f with acked := max f.acked e.ack, seen := s.clock } (.slice ka f.kept.length kc) W3) := SB3
      have HBT3 : Hid (But sb W2 W3) := BT3
      have HRI : Hid (Rises f.kept) := hri
      have HG3 : Hid (g < W3.heap.size ∨ Value.slice ka f.kept.length kc = .slice none 0 0) := by
        have := BT3.size
        rcases hg3 with h | h
        · exact .inl (by omega)
        · exact .inr h
      clear hDEL SB3 BT3 KO3 hri hg3 HGG hW3
      by_cases hm : f.acked < e.ack
      all_goals
        go_wp2_with fail
        first
          | rw [show (W2.setCell ⟨sb, 2, none⟩ (.int .i64 s.clock)).setCell ⟨sb, 1, none⟩ (.int .i64 e.ack) = W3 from by rw [HW3.out, show max f.acked e.ack = e.ack from by omega]]
          | rw [show (W2.setCell ⟨sb, 2, none⟩ (.int .i64 s.clock)).setCell ⟨sb, 1, none⟩ (.int .i64 f.acked) = W3 from by rw [HW3.out, show max f.acked e.ack = f.acked from by omega]]
        clear hm
        refine HDEL.out.mono ?_
        rintro y w4 ⟨kv4, hk4, rfl, hb4⟩
        obtain ⟨va, vc, rfl, _⟩ := hk4.kept.len
        obtain ⟨g4, hk4', hgo⟩ := hk4.again
        have HK4 : Hid (KeptOn g4 w4 (.slice va (keptAfter (max f.acked e.ack) f.kept).length vc) (keptAfter (max f.acked e.ack) f.kept)) := hk4'
        have SB4 := HSB3.out.other hb4 (Ne.symm hg2)
        have E4 := (HE2.out.but HBT3.out (by omega)).but hb4 (by omega)
        have m4 : w4.cell? ⟨w.heap.size, 0, none⟩ = some (.pointer (some ⟨b, 0, none⟩)) := hb4.at (HBT3.out.at m2 (by simp; omega)) (by simp; omega)
        have KW4 : Keeps w w4 := But.to (But.to HK2.out (by omega) HBT3.out) (by omega) hb4
        have HSB4 : Hid (SesBox sb { f with acked := max f.acked e.ack, seen := s.clock } (.slice ka f.kept.length kc) w4) := SB4
        have HE4 : Hid (EntBox (w.heap.size + 1) e w4) := E4
        have HKW4 : Hid (Keeps w w4) := KW4
        have sl4 := SB4.lt
        have hs4 : W3.heap.size ≤ w4.heap.size := hb4.size
        have hg4 : g4 ≠ sb ∧ w.heap.size + 2 ≤ g4 := by
          have h1 := E4.lt
          rcases hgo with h | h <;> omega
        have HG4 : Hid (g4 < w4.heap.size ∨ Value.slice va (keptAfter (max f.acked e.ack) f.kept).length vc = .slice none 0 0) := by
          rcases hgo with h | h
          · exact .inl (by omega)
          · exact .inr h.2
        obtain ⟨hg4a, hg4b⟩ := hg4
        have t3 := SB4.c3
        have tz := SB4.fz
        have x0 := E4.c0
        have x1 := E4.c1
        have x2 := E4.c2
        have x3 := E4.c3
        have x4 := E4.c4
        have x5 := E4.c5
        have x6 := E4.c6
        have x7 := E4.c7
        have x8 := E4.c8
        have hEl := E4.lt
        have hMl4 := World.block_lt_of_cell? _ _ m4
        simp only [] at hMl4
        clear hk4 hk4' hgo SB4 E4 KW4 hb4 HDEL HSB3 HBT3 HG3 HW3 s0 s1 s2 s3 sz sl b1 bl2 e4 hMl hMl1 m2 HK2 HE2 hzz HSB HKO
        have HCS : Hid (calledSes s f e = { f with acked := max f.acked e.ack, seen := s.clock, kept := keptAfter (max f.acked e.ack) f.kept }) := rfl
        have hk3' : (keptAfter (max f.acked e.ack) f.kept).length ≤ 3 := Nat.le_trans (List.length_filter_le _ _) hk3
        generalize hNK : keptAfter (max f.acked e.ack) f.kept = nk at *
        have HNK : Hid (keptAfter (max f.acked e.ack) f.kept = nk) := hNK
        clear hNK
        generalize hNL : nk.length = nl at *
        go_wp2_with fail
        have SB5 : SesBox sb (calledSes s f e) (.slice va nl vc) (w4.setCell ⟨sb, 3, none⟩ (.slice va nl vc)) := by
          rw [HCS.out]
          exact HSB4.out.set_kept _ _
        have bt5 : But sb w4 (w4.setCell ⟨sb, 3, none⟩ (.slice va nl vc)) := (But.refl _ _).set 3 _
        generalize (w4.setCell ⟨sb, 3, none⟩ (.slice va nl vc)) = W5 at *
        have KW5 : Keeps w W5 := But.to HKW4.out (by omega) bt5
        have B5 := HB.out.keep KW5
        have K5 : KeptOn g4 W5 (.slice va nl vc) (calledSes s f e).kept := by rw [HCS.out]; exact HK4.out.but bt5 hg4a
        have m5 : W5.cell? ⟨w.heap.size, 0, none⟩ = some (.pointer (some ⟨b, 0, none⟩)) := bt5.at m4 (by simp; omega)
        have hac : (calledSes s f e).acked = max f.acked e.ack := rfl
        have hrk : Rises (calledSes s f e).kept := HRI.out.filter _
        have hk5 : (calledSes s f e).kept.length ≤ 3 := by rw [HCS.out]; show nk.length ≤ 3; omega
        have hg5 : g4 < W5.heap.size ∨ Value.slice va nl vc = .slice none 0 0 := by
          have h1 := bt5.size
          rcases HG4.out with h | h
          · exact .inl (by omega)
          · exact .inr h
        have HCC : Hid (∀ l, l = ansKept s (calledSes s f e) e → { calledSes s f e with kept := l } = callSes s f e) := fun l h => by subst h; rfl
        have HANS := answer_c s (calledSes s f e) e b sb g4 _ _ W5 B5 SB5 K5 hk5 hrk (by omega) (by omega) hg4a hg5 (by rw [hac]; omega) (by rw [hac]; omega) hs0 hs1
        refine HANS.mono ?_
        rintro y w6 ⟨rfl, kv6, g6, B6, SB6, K6, hor6, F6⟩
        obtain ⟨ua, uc, rfl, _⟩ := K6.kept.len
        rw [HCC.out _ rfl] at SB6
        have BT6 : But b w w6 := But3.to (But.of KW5) (by omega) (by omega) F6
        have m6 : w6.cell? ⟨w.heap.size, 0, none⟩ = some (.pointer (some ⟨b, 0, none⟩)) := F6.at m5 (by simp; omega) (by simp; omega) (by simp; omega)
        have HT6 : Hid (TabAt w6 (.slice xa s.tab.length xc) s.tab) := HT.out w6 BT6
        have HK6 : Hid (KeptAt w6 (.slice ua (ansKept s (calledSes s f e) e).length uc) (callSes s f e).kept) := K6.kept
        have HB6 : Hid (StBox b (ansSt s (calledSes s f e) e) (.slice xa s.tab.length xc) w6) := B6
        have HBT6 : Hid (But b w w6) := BT6
        have sl6 := SB6.lt
        have u0 := SB6.c0
        have u1 := SB6.c1
        have u2 := SB6.c2
        have u3 := SB6.c3
        have b6 := B6.c6
        have bz6 := B6.fz
        have bl6 := B6.lt
        have hMl6 := World.block_lt_of_cell? _ _ m6
        simp only [] at hMl6
        clear HANS hg5 hk5 hrk hac m5 K5 B5 KW5 bt5 SB5 B6 SB6 K6 hor6 F6 BT6 HNK HCC HCS HSB4 HE4 HKW4 HK4 HG4 HRI HFE hMl4 t3 tz x0 x1 x2 x3 x4 x5 x6 x7 x8 hEl m4 hra0 hra1 sl4 hs4
        generalize ansSt s (calledSes s f e) e = s6 at *
        generalize hcs : callSes s f e = cs at *
        generalize (ansKept s (calledSes s f e) e).length = un at *
        generalize ansOf s (calledSes s f e) e = an at *
        generalize ansDone (calledSes s f e) e = ad at *
        have HPUT : Hid (∀ W, TabAt W (.slice xa s.tab.length xc) s.tab → KeptAt W (.slice ua un uc) cs.kept → Calls Try.prog 71 #[.slice xa s.tab.length xc, .agg #[.int .i64 cs.client, .int .i64 cs.acked, .int .i64 cs.seen, .slice ua un uc]] W fun y w' => ∃ va n vc er, OwnTab W.heap.size w' (.slice va n vc) (putTab s.tab cs) ∧ y = .returned (.tuple #[.slice va n vc, .int .i64 er]) ∧ Keeps W w') := by
          intro W h1 h2
          refine (sess_put s.tab _ cs _ W h1 h2).mono ?_
          rintro y w' ⟨v', ho, rfl, hb⟩
          obtain ⟨va, vc, rfl, _⟩ := ho.tab.len
          exact ⟨va, _, vc, _, ho, rfl, hb⟩
        have HM6 : Hid (w6.drew.cell? ⟨w.heap.size, 0, none⟩ = some (.pointer (some ⟨b, 0, none⟩)) ∧ w6.drew.cell? ⟨sb, 0, none⟩ = some (.int .i64 cs.client) ∧ w6.drew.cell? ⟨sb, 1, none⟩ = some (.int .i64 cs.acked) ∧ w6.drew.cell? ⟨sb, 2, none⟩ = some (.int .i64 cs.seen) ∧ w6.drew.cell? ⟨sb, 3, none⟩ = some (.slice ua un uc)) := ⟨m6, u0, u1, u2, u3⟩
        go_wp2_with fail
        refine wp_region_held_drew (S := fun w' => w'.cell? ⟨w.heap.size, 0, none⟩ = some (.pointer (some ⟨b, 0, none⟩)) ∧ w'.cell? ⟨sb, 0, none⟩ = some (.int .i64 cs.client) ∧ w'.cell? ⟨sb, 1, none⟩ = some (.int .i64 cs.acked) ∧ w'.cell? ⟨sb, 2, none⟩ = some (.int .i64 cs.seen) ∧ w'.cell? ⟨sb, 3, none⟩ = some (.slice ua un uc)) (by kernel_rfl) HM6.out (fun hS => ?_)
        refine wpAnyH_take (i := 0) (v := .pointer (some ⟨w.heap.size, 0, none⟩)) rfl (by kernel_rfl) (by kernel_rfl) (by kernel_rfl) (fun _ _ _ h => h) (Or.inl ⟨by rfl, ?_⟩) hS ?_
        · intro w hS; go_simp
        refine wpAnyH_take (i := 1) (v := .pointer (some ⟨b, 0, none⟩)) rfl (by kernel_rfl) (by kernel_rfl) (by kernel_rfl) (fun _ _ _ h => h) (Or.inl ⟨by rfl, ?_⟩) hS ?_
        · intro w hS; go_simp
        refine wpAnyH_take (i := 2) (v := .pointer (some ⟨w.heap.size, 0, none⟩)) rfl (by kernel_rfl) (by kernel_rfl) (by kernel_rfl) (fun _ _ _ h => h) (Or.inl ⟨by rfl, ?_⟩) hS ?_
        · intro w hS; go_simp
        refine wpAnyH_take (i := 3) (v := .pointer (some ⟨b, 0, none⟩)) rfl (by kernel_rfl) (by kernel_rfl) (by kernel_rfl) (fun _ _ _ h => h) (Or.inl ⟨by rfl, ?_⟩) hS ?_
        · intro w hS; go_simp
        refine wpAnyH_take (i := 4) (v := .pointer (some ⟨b, 0, none⟩)) rfl (by kernel_rfl) (by kernel_rfl) (by kernel_rfl) (fun _ _ _ h => h) (Or.inl ⟨by rfl, ?_⟩) hS ?_
        · intro w hS; go_simp
        refine wpAnyH_take (i := 5) (v := .pointer (some ⟨b, 6, none⟩)) rfl (by kernel_rfl) (by kernel_rfl) (by kernel_rfl) (fun _ _ _ h => h) (Or.inl ⟨by rfl, ?_⟩) hS ?_
        · intro w hS; go_simp
        refine wpAnyH_take (i := 7) (v := .agg #[.int .i64 cs.client, .int .i64 cs.acked, .int .i64 cs.seen, .slice ua un uc]) rfl (by kernel_rfl) (by kernel_rfl) (by kernel_rfl) (fun _ _ _ h => h) (Or.inl ⟨by rfl, ?_⟩) hS ?_
        · intro w hS; go_simp
        refine wpAnyH_ready (rs := [6]) (by kernel_rfl) (by simp) ?_
        refine AllReadyH.cons rfl (fun K hK => ?_) AllReadyH.nil
        go_simp
        refine hK.out _ _ (hS) (fun hS => ?_)
        clear hK K
        refine wpAnyH_ready (rs := [8]) (by kernel_rfl) (by simp) ?_
        refine AllReadyH.cons rfl (fun K hK => ?_) AllReadyH.nil
        go_simp
        refine (HPUT.out _ (HT6.out.keep (Keeps.refl _).drew) (HK6.out.keep (Keeps.refl _).drew)).mono ?_
        rintro y w7 ⟨pa, pn, pc, er, ho, rfl, hb⟩
        have B7 := HB6.out.keep ((Keeps.refl _).drew.trans hb)
        have d6 := B7.c6
        have dz := B7.fz
        have dl := B7.lt
        have hS7 : w7.cell? ⟨w.heap.size, 0, none⟩ = some (.pointer (some ⟨b, 0, none⟩)) ∧ w7.cell? ⟨sb, 0, none⟩ = some (.int .i64 cs.client) ∧ w7.cell? ⟨sb, 1, none⟩ = some (.int .i64 cs.acked) ∧ w7.cell? ⟨sb, 2, none⟩ = some (.int .i64 cs.seen) ∧ w7.cell? ⟨sb, 3, none⟩ = some (.slice ua un uc) := ⟨cell_kept HM6.out.1 hb, cell_kept HM6.out.2.1 hb, cell_kept HM6.out.2.2.1 hb, cell_kept HM6.out.2.2.2.1 hb, cell_kept HM6.out.2.2.2.2 hb⟩
        have HS7 := (show Hid (_ ∧ _) from hS7)
        clear hS7
        go_simp
        refine hK.out _ _ HS7.out (fun hS => ?_)
        clear hK K
        refine wpAnyH_take (i := 9) (v := .tuple #[.slice pa pn pc, .int .i64 er]) rfl (by kernel_rfl) (by kernel_rfl) (by kernel_rfl) (fun _ _ _ h => h) (Or.inl ⟨by rfl, ?_⟩) hS ?_
        · intro w hS; go_simp
        refine wpAnyH_take (i := 10) (v := .slice pa pn pc) rfl (by kernel_rfl) (by kernel_rfl) (by kernel_rfl) (fun _ _ _ h => h) (Or.inl ⟨by rfl, ?_⟩) hS ?_
        · intro w hS; go_simp
        refine wpAnyH_take (i := 11) (v := .int .i64 er) rfl (by kernel_rfl) (by kernel_rfl) (by kernel_rfl) (fun _ _ _ h => h) (Or.inl ⟨by rfl, ?_⟩) hS ?_
        · intro w hS; go_simp
        refine wpAnyH_take (i := 12) (v := .pointer (some ⟨b, 0, none⟩)) rfl (by kernel_rfl) (by kernel_rfl) (by kernel_rfl) (fun _ _ _ h => h) (Or.inl ⟨by rfl, ?_⟩) hS ?_
        · intro w hS; go_simp
        refine wpAnyH_take (i := 13) (v := .pointer (some ⟨b, 6, none⟩)) rfl (by kernel_rfl) (by kernel_rfl) (by kernel_rfl) (fun _ _ _ h => h) (Or.inl ⟨by rfl, ?_⟩) hS ?_
        · intro w hS; go_simp
        refine wpAnyH_ready (rs := [14]) (by kernel_rfl) (by simp) ?_
        refine AllReadyH.cons rfl (fun K hK => ?_) AllReadyH.nil
        go_simp
        refine hK.out _ _ (by have bt := (But.refl b w7).set 6 (.slice pa pn pc); exact ⟨bt.at HS7.out.1 (by simp; omega), bt.at HS7.out.2.1 (by simp; omega), bt.at HS7.out.2.2.1 (by simp; omega), bt.at HS7.out.2.2.2.1 (by simp; omega), bt.at HS7.out.2.2.2.2 (by simp; omega)⟩) (fun hS => ?_)
        clear hK K
        refine wpAnyH_done (by kernel_rfl) ?_ _
        have HB7 : Hid (StBox b s6 (.slice xa s.tab.length xc) w7) := B7
        have HO7 : Hid (OwnTab w6.drew.heap.size w7 (.slice pa pn pc) (putTab s.tab cs)) := ho
        have HB67 : Hid (Keeps w6.drew w7) := hb
        clear B7 ho hb d6 dz u0 u1 u2 u3 b6 bz6 m6 HM6 HS7 hS HPUT HT6 HK6 HB6
        go_wp2_with fail
        go_ret2
        refine ⟨by rw [HSA.out, HSD.out]; rfl, ?_⟩
        rw [HSS.out]
        exact ⟨_, HB7.out.set_tab _ _, (HO7.out.base (Nat.le_trans hbw HBT6.out.size)).but hbb ((But.refl _ _).set 6 _), ((HBT6.out.keeps (Keeps.refl _).drew).keeps HB67.out).set 6 _⟩
end Go.Proofs.Yteabfjpajgakiab

/- What SessTrue asks of tables, without memory. -/
set_option linter.unusedSimpArgs false
set_option linter.unusedVariables false
namespace Go.Proofs.Yteabfjpajgakiab
open Go.RowKit

theorem rising_iff : ∀ {L : List Ses}, rising L = true ↔ L.Pairwise (fun a b => a.client < b.client)
  | [] => by simp [rising]
  | [a] => by simp [rising]
  | a :: b :: r => by
    constructor
    · intro h
      exact List.pairwise_cons.2 ⟨rising_lt h, rising_iff.1 (rising_tail h)⟩
    · intro h
      obtain ⟨h1, h2⟩ := List.pairwise_cons.1 h
      simp only [rising, Bool.and_eq_true, decide_eq_true_eq]
      exact ⟨h1 b (by simp), rising_iff.2 h2⟩

theorem firstErr_of : ∀ {L : List Ses}, (∀ s ∈ L, sesErr s = 0) → firstErr L = 0
  | [], _ => rfl
  | s :: r, h => by
    unfold firstErr
    rw [h s (by simp)]
    simpa using firstErr_of fun x hx => h x (by simp [hx])

theorem tab_right_of {L : List Ses} (h3 : L.length ≤ 3) (hs : ∀ s ∈ L, sesErr s = 0) (hr : L.Pairwise (fun a b => a.client < b.client)) : tabErr L = 0 := by
  unfold tabErr
  rw [if_neg (by omega), firstErr_of hs, rising_iff.2 hr]
  rfl

/-- Some of a right table are a right table. -/
theorem tab_sub {L M : List Ses} (h : tabErr L = 0) (hM : M.Sublist L) : tabErr M = 0 := by
  obtain ⟨h3, hs, hr⟩ := tab_right h
  exact tab_right_of (by have := hM.length_le; omega) (fun s hm => hs s (hM.subset hm)) ((rising_iff.1 hr).sublist hM)

theorem put_ok {L : List Ses} {s : Ses} (h : putErr L s = 0) : tabErr L = 0 ∧ sesErr s = 0 ∧ (putList L s).length ≤ 3 := by
  unfold putErr at h
  split at h
  · rename_i h1
    split at h
    · rename_i h2
      split at h
      · cases h
      · rename_i h3
        exact ⟨by simpa using h1, by simpa using h2, by omega⟩
    · rename_i h2
      simp only [beq_iff_eq] at h2
      exact absurd h h2
  · rename_i h1
    simp only [beq_iff_eq] at h1
    exact absurd h h1

theorem putTab_ok {L : List Ses} {s : Ses} (h : putErr L s = 0) : putTab L s = putList L s := by simp [putTab, h]

theorem put_right {L : List Ses} {s : Ses} (h : putErr L s = 0) : tabErr (putList L s) = 0 := by
  obtain ⟨h1, h2, h3⟩ := put_ok h
  obtain ⟨_, hs, hr⟩ := tab_right h1
  refine tab_right_of h3 (fun x hx => ?_) ?_
  · simp only [putList, List.append_assoc, List.mem_append, List.mem_filter, List.mem_singleton] at hx
    rcases hx with ⟨hx, _⟩ | rfl | ⟨hx, _⟩
    · exact hs x hx
    · exact h2
    · exact hs x hx
  · have hr' := rising_iff.1 hr
    unfold putList
    rw [List.append_assoc, List.pairwise_append]
    refine ⟨hr'.sublist List.filter_sublist, List.pairwise_cons.2 ⟨fun b hb => ?_, hr'.sublist List.filter_sublist⟩, fun a ha b hb => ?_⟩
    · have := (List.mem_filter.1 hb).2
      simpa using this
    · have ha' := (List.mem_filter.1 ha).2
      simp only [decide_eq_true_eq] at ha'
      simp only [List.singleton_append, List.mem_cons] at hb
      rcases hb with rfl | hb
      · exact ha'
      · have hb' := (List.mem_filter.1 hb).2
        simp only [decide_eq_true_eq] at hb'
        omega

theorem find_put (L : List Ses) (s : Ses) : findSes (putList L s) s.client = some s := by
  unfold findSes putList
  have h0 : (L.filter (fun o => decide (o.client < s.client))).find? (fun o => o.client == s.client) = none := by
    rw [List.find?_eq_none]
    intro x hx
    have := (List.mem_filter.1 hx).2
    simp only [decide_eq_true_eq] at this
    simp; omega
  rw [List.append_assoc, List.find?_append, h0]
  simp

theorem find_filter {p : Ses → Bool} {c : Int} (hp : ∀ x : Ses, x.client = c → p x = true) : ∀ L : List Ses, findSes (L.filter p) c = findSes L c
  | [] => rfl
  | x :: L => by
    have ih := find_filter hp L
    unfold findSes at ih ⊢
    rw [List.filter_cons, List.find?_cons]
    cases hx : (x.client == c) with
    | true =>
      rw [if_pos (hp x (by simpa using hx)), List.find?_cons, hx]
    | false =>
      split
      · rw [List.find?_cons, hx]; exact ih
      · exact ih

theorem find_none {p : Ses → Bool} {c : Int} (hp : ∀ x : Ses, x.client = c → p x = false) (L : List Ses) : findSes (L.filter p) c = none := by
  unfold findSes
  rw [List.find?_eq_none]
  intro x hx
  have := (List.mem_filter.1 hx).2
  intro hc
  rw [hp x (by simpa using hc)] at this
  cases this

/-- Another is found as it was. -/
theorem find_other (L : List Ses) (s : Ses) {o : Int} (ho : o ≠ s.client) : findSes (putList L s) o = findSes L o := by
  have hs : (s.client == o) = false := by simp; omega
  unfold putList
  have e : ∀ A B : List Ses, findSes (A ++ [s] ++ B) o = (findSes A o).or (findSes B o) := by
    intro A B
    unfold findSes
    rw [List.append_assoc, List.find?_append]
    simp [List.find?_cons, hs]
  rw [e]
  by_cases h : o < s.client
  · rw [find_filter (fun x hx => by simp; omega), find_none (fun x hx => by simp; omega)]
    simp
  · rw [find_none (fun x hx => by simp; omega), find_filter (fun x hx => by simp; omega)]
    simp

theorem drop_tab {L : List Ses} {c : Int} (h : dropErr L c = 0) : dropTab L c = L.filter (fun s => s.client != c) := by simp [dropTab, h]

theorem fresh_right {L : List Ses} {c : Int} (h : tabErr L = 0) : tabErr (freshTab L c) = 0 := tab_sub h List.filter_sublist
end Go.Proofs.Yteabfjpajgakiab
