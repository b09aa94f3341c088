/- Applying: the machine's answer. -/
import Derived.Test.YthjcnbimapgdnabApF2
import Derived.Test.YthjcnbimapgdnabApE
import Derived.Test.YthjcnbimapgdnabOpE
set_option linter.unusedSimpArgs false
set_option linter.unusedVariables false
set_option maxRecDepth 10000
namespace Go.Proofs.Ythjcnbimapgdnab
open Go.RowKit

/-- Where a number is, or belongs. -/
def posOf (l : List (Int × Int)) (seq : Int) : Nat := (l.takeWhile fun r => decide (r.1 < seq)).length
theorem Place.pos : ∀ {l : List (Int × Int)} {seq : Int} {p : Nat}, Place l seq p → posOf l seq = p
  | [], seq, p, h => by have := h.le; simp at this; subst this; rfl
  | r :: t, seq, 0, h => by
    have := h.high 0 (by simp) (Nat.le_refl _)
    simp only [List.getElem_cons_zero] at this
    simp [posOf, List.takeWhile_cons, show ¬ r.1 < seq from by omega]
  | r :: t, seq, p + 1, h => by
    have h0 := h.low 0 (by simp) (by omega)
    simp only [List.getElem_cons_zero] at h0
    have ht : Place t seq p := ⟨by have := h.le; simp at this; omega, fun k hk hp => by have := h.low (k + 1) (by simp; omega) (by omega); simpa using this, fun k hk hp => by have := h.high (k + 1) (by simp; omega) (by omega); simpa using this⟩
    have := Place.pos ht
    simp only [posOf] at this ⊢
    rw [List.takeWhile_cons, if_pos (by simpa using h0), List.length_cons, this]
theorem posOf_le (l : List (Int × Int)) (seq : Int) : posOf l seq ≤ l.length := List.Sublist.length_le (List.takeWhile_sublist _)

/-- Is there an answer by that number, and which? -/
def keptHas (l : List (Int × Int)) (seq : Int) : Bool := thereB l seq (posOf l seq)
def keptVal (l : List (Int × Int)) (seq : Int) : Int := match l[posOf l seq]? with | some r => r.2 | none => 0
def keptPut (l : List (Int × Int)) (seq v : Int) : List (Int × Int) := l.take (posOf l seq) ++ (seq, v) :: l.drop (posOf l seq)

theorem search_pos (l : List (Int × Int)) (kv : Value) (seq : Int) (w : World) (hk : KeptAt w kv l) (h3 : l.length ≤ 3) (hri : Rises l) :
    Calls Try.prog 82 #[kv, .int .i64 seq, .func (.func 83) #[] #[]] w fun e w' => e = .returned (.tuple #[.int .i64 (posOf l seq), .bool (keptHas l seq)]) ∧ Keeps w w' := by
  refine (search_c l kv seq w hk h3 hri).mono ?_
  rintro e w' ⟨p, hp, rfl, hb⟩
  have := hp.pos
  subst this
  exact ⟨rfl, hb⟩

/-- The values of a state. -/
def stG (s : St) : Nat → Int := fun i => if i = 0 then s.v0 else if i = 1 then s.v1 else if i = 2 then s.v2 else s.v3
def setVals (s : St) (g : Nat → Int) : St := { s with v0 := g 0, v1 := g 1, v2 := g 2, v3 := g 3 }

/-- What a session answers to a call, whose Acked is raised already. -/
def ansDone (f : Ses) (e : Ent) : Bool := !(decide (e.seq ≤ f.acked)) && (!keptHas f.kept e.seq && !(decide (f.acked + 3 < e.seq)))
def ansNo (f : Ses) (e : Ent) : Int := if e.seq ≤ f.acked then -4 else if keptHas f.kept e.seq then keptVal f.kept e.seq else -5
def doneVals (s : St) (e : Ent) : Nat → Int := doVals (stG s) e.ok e.okey e.oto e.on
def doneAns (s : St) (e : Ent) : Int := doAns (stG s) e.ok e.okey e.oto e.on
def ansOf (s : St) (f : Ses) (e : Ent) : Int := if ansDone f e then doneAns s e else ansNo f e
def ansSt (s : St) (f : Ses) (e : Ent) : St := if ansDone f e then setVals s (doneVals s e) else s
def ansKept (s : St) (f : Ses) (e : Ent) : List (Int × Int) := if ansDone f e then keptPut f.kept e.seq (doneAns s e) else f.kept

/-- All that was there is as it was, but for three blocks. -/
structure But3 (b c d : Nat) (a w : World) : Prop where
  os : w.os = a.os
  tape : w.tape = a.tape
  output : w.output = a.output
  size : a.heap.size ≤ w.heap.size
  block : ∀ k, k < a.heap.size → k ≠ b → k ≠ c → k ≠ d → w.heap[k]? = a.heap[k]?
theorem But3.of {b c d h : Nat} {x y : World} (hk : But h x y) (hh : h = b ∨ h = c ∨ h = d) : But3 b c d x y :=
  ⟨hk.os, hk.tape, hk.output, hk.size, fun k hk' h1 h2 h3 => hk.block k hk' (by rcases hh with rfl | rfl | rfl <;> assumption)⟩
theorem But3.trans {b c d : Nat} {x y z : World} (h : But3 b c d x y) (k : But3 b c d y z) : But3 b c d x z :=
  ⟨k.os.trans h.os, k.tape.trans h.tape, k.output.trans h.output, Nat.le_trans h.size k.size, fun i hi h1 h2 h3 => (k.block i (Nat.lt_of_lt_of_le hi h.size) h1 h2 h3).trans (h.block i hi h1 h2 h3)⟩
theorem But3.keeps {b c d : Nat} {x y : World} (h : Keeps x y) : But3 b c d x y := But3.of (But.of (b := b) h) (.inl rfl)
/-- Two of them are younger than what was there. -/
theorem But3.to {b c d : Nat} {a x y : World} (ha : But b a x) (hc : a.heap.size ≤ c) (hd : a.heap.size ≤ d) (h : But3 b c d x y) : But b a y :=
  ⟨h.os.trans ha.os, h.tape.trans ha.tape, h.output.trans ha.output, Nat.le_trans ha.size h.size, fun k hk hb => (h.block k (Nat.lt_of_lt_of_le hk ha.size) hb (by omega) (by omega)).trans (ha.block k hk hb)⟩

theorem StBox.vals {b : Nat} {s : St} {t : Value} {w : World} (h : StBox b s t w) (g : Nat → Int) : StBox b (setVals s g) t ((((w.setCell ⟨b, 2, none⟩ (.int .i64 (g 0))).setCell ⟨b, 3, none⟩ (.int .i64 (g 1))).setCell ⟨b, 4, none⟩ (.int .i64 (g 2))).setCell ⟨b, 5, none⟩ (.int .i64 (g 3))) :=
  (((h.set (s' := { s with v0 := g 0 }) (t' := t) 2 _ rfl rfl rfl rfl rfl rfl rfl).set (s' := { s with v0 := g 0, v1 := g 1 }) (t' := t) 3 _ rfl rfl rfl rfl rfl rfl rfl).set (s' := { s with v0 := g 0, v1 := g 1, v2 := g 2 }) (t' := t) 4 _ rfl rfl rfl rfl rfl rfl rfl).set (s' := setVals s g) (t' := t) 5 _ rfl rfl rfl rfl rfl rfl rfl

/-- The boxes of answer: the machine, and the entry behind it. -/
structure AnsBox (M b : Nat) (e : Ent) (W : World) : Prop where
  m0 : W.cell? ⟨M, 0, none⟩ = some (.pointer (some ⟨b, 0, none⟩))
  e3 : W.cell? ⟨M + 1, 3, none⟩ = some (.int .i64 e.seq)
  e5 : W.cell? ⟨M + 1, 5, none⟩ = some (.int .i64 e.ok)
  e6 : W.cell? ⟨M + 1, 6, none⟩ = some (.int .i64 e.okey)
  e7 : W.cell? ⟨M + 1, 7, none⟩ = some (.int .i64 e.oto)
  e8 : W.cell? ⟨M + 1, 8, none⟩ = some (.int .i64 e.on)
theorem AnsBox.keep {M b : Nat} {e : Ent} {W W' : World} (h : AnsBox M b e W) (hk : Keeps W W') : AnsBox M b e W' :=
  ⟨cell_kept h.m0 hk, cell_kept h.e3 hk, cell_kept h.e5 hk, cell_kept h.e6 hk, cell_kept h.e7 hk, cell_kept h.e8 hk⟩
theorem AnsBox.but {M b c : Nat} {e : Ent} {W W' : World} (h : AnsBox M b e W) (hk : But c W W') (h1 : c < M) : AnsBox M b e W' :=
  ⟨hk.at h.m0 (by simp; omega), hk.at h.e3 (by simp; omega), hk.at h.e5 (by simp; omega), hk.at h.e6 (by simp; omega), hk.at h.e7 (by simp; omega), hk.at h.e8 (by simp; omega)⟩
theorem AnsBox.lt {M b : Nat} {e : Ent} {W : World} (h : AnsBox M b e W) : M < W.heap.size ∧ M + 1 < W.heap.size := ⟨World.block_lt_of_cell? _ _ h.m0, World.block_lt_of_cell? _ _ h.e3⟩

theorem kept_found {l : List (Int × Int)} {seq : Int} (h : keptHas l seq = true) : ∃ hp : posOf l seq < l.length, keptVal l seq = (l[posOf l seq]).2 := by
  unfold keptHas thereB at h
  cases hq : l[posOf l seq]? with
  | none => rw [hq] at h; cases h
  | some r =>
    obtain ⟨hp, hr⟩ := List.getElem?_eq_some_iff.1 hq
    exact ⟨hp, by unfold keptVal; rw [hq, hr]⟩

set_option maxHeartbeats 8000000 in
theorem answer_c (s : St) (f : Ses) (e : Ent) (b sb g : Nat) (x kv : Value) (w : World) (hB : StBox b s x w) (hS : SesBox sb f kv w) (hK : KeptOn g w kv f.kept) (h3 : f.kept.length ≤ 3) (hri : Rises f.kept)
    (hbs : b ≠ sb) (hgb : g ≠ b) (hgs : g ≠ sb) (hg : g < w.heap.size ∨ kv = .slice none 0 0) (ha0 : 0 ≤ f.acked) (ha1 : f.acked ≤ 60) (he0 : 1 ≤ e.seq) (he1 : e.seq ≤ 60) :
    Calls Try.prog 75 #[macV b, .pointer (some ⟨sb, 0, none⟩), entV e] w fun y w' => y = .returned (.tuple #[.int .i64 (ansOf s f e), .bool (ansDone f e)]) ∧
      ∃ kv' g', StBox b (ansSt s f e) x w' ∧ SesBox sb { f with kept := ansKept s f e } kv' w' ∧ KeptOn g' w' kv' (ansKept s f e) ∧ (g' = g ∨ w.heap.size ≤ g') ∧ But3 b sb g w w' := by
  have hbl := hB.lt
  have hsl := hS.lt
  obtain ⟨ka, kc, rfl, hlen⟩ := hK.kept.len
  unfold maxLen at hlen
  have HG : Hid (g < w.heap.size ∨ Value.slice ka f.kept.length kc = .slice none 0 0) := hg
  clear hg
  have HDN : Hid (ansDone f e = (!(decide (e.seq ≤ f.acked)) && (!keptHas f.kept e.seq && !(decide (f.acked + 3 < e.seq))))) := rfl
  have HAN : Hid (ansOf s f e = if ansDone f e then doneAns s e else ansNo f e) := rfl
  have HST : Hid (ansSt s f e = if ansDone f e then setVals s (doneVals s e) else s) := rfl
  have HKP : Hid (ansKept s f e = if ansDone f e then keptPut f.kept e.seq (doneAns s e) else f.kept) := rfl
  have HNO : Hid (ansNo f e = if e.seq ≤ f.acked then -4 else if keptHas f.kept e.seq then keptVal f.kept e.seq else -5) := rfl
  have HSE : Hid (∀ l, l = f.kept → { f with kept := l } = f) := fun l h => by subst h; rfl
  -- nothing was done
  have HOUT : Hid (ansDone f e = false → ∀ W, Keeps w W → ∃ kv' g', StBox b (ansSt s f e) x W ∧ SesBox sb { f with kept := ansKept s f e } kv' W ∧ KeptOn g' W kv' (ansKept s f e) ∧ (g' = g ∨ w.heap.size ≤ g') ∧ But3 b sb g w W) := by
    intro hd W hk
    have e1 : ansSt s f e = s := by rw [HST.out, hd]; rfl
    have e2 : ansKept s f e = f.kept := by rw [HKP.out, hd]; rfl
    rw [e1, e2]
    exact ⟨_, g, hB.keep hk, hS.keep hk, hK.keep hk, .inl rfl, But3.keeps hk⟩
  have HB : Hid (StBox b s x w) := hB
  have HS : Hid (SesBox sb f (.slice ka f.kept.length kc) w) := hS
  have HK : Hid (KeptOn g w (.slice ka f.kept.length kc) f.kept) := hK
  have HRI : Hid (Rises f.kept) := hri
  have HDO : Hid (∀ W, Calls Try.prog 19 #[.agg #[.int .i64 s.v0, .int .i64 s.v1, .int .i64 s.v2, .int .i64 s.v3], .agg #[.int .i64 e.ok, .int .i64 e.okey, .int .i64 e.oto, .int .i64 e.on]] W fun y w' => (∃ er, y = .returned (.tuple #[.agg #[.int .i64 (doneVals s e 0), .int .i64 (doneVals s e 1), .int .i64 (doneVals s e 2), .int .i64 (doneVals s e 3)], .int .i64 (doneAns s e), .int .i64 er])) ∧ Keeps W w') := fun W => (op_do (stG s) e.ok e.okey e.oto e.on W).mono fun y w' h => ⟨⟨_, h.1⟩, h.2⟩
  clear hB hS hK hri
  go_enter Try.func75, Try.ntmps75
  go_wp2_with fail
  obtain ⟨W1, hW1⟩ : ∃ W1, W1 = (w.alloc (.cells #[.pointer (some ⟨b, 0, none⟩)] 62)).alloc (.cells #[.int .i64 e.kind, .int .i64 e.time, .int .i64 e.client, .int .i64 e.seq, .int .i64 e.ack, .int .i64 e.ok, .int .i64 e.okey, .int .i64 e.oto, .int .i64 e.on] 33) := ⟨_, rfl⟩
  have k1 : Keeps w W1 := by rw [hW1]; exact ((Keeps.refl _).alloc _).alloc _
  have A1 : AnsBox w.heap.size b e W1 := by rw [hW1]; exact ⟨by simp [go_sem], by simp [go_sem], by simp [go_sem], by simp [go_sem], by simp [go_sem], by simp [go_sem]⟩
  rw [← hW1]
  have s1 := (HS.out.keep k1).c1
  have e3 := A1.e3
  have HK1 : Hid (Keeps w W1) := k1
  have HA1 : Hid (AnsBox w.heap.size b e W1) := A1
  clear hW1 k1 A1
  go_quiet (fail)
  obtain ⟨W2, hW2⟩ : ∃ W2, W2 = W1.drewN nq := ⟨_, rfl⟩
  have k12 : Keeps W1 W2 := by rw [hW2]; exact (Keeps.refl _).drewN _
  have HK2 : Hid (Keeps w W2) := HK1.out.trans k12
  have HA2 : Hid (AnsBox w.heap.size b e W2) := HA1.out.keep k12
  rw [← hW2]
  clear hW2 k12 HK1 HA1 s1 e3
  clear W1
  cases q1 : decide (e.seq ≤ f.acked) with
  | true =>
    have HD : Hid (ansDone f e = false) := by show _ = _; rw [HDN.out, q1]; rfl
    have HE : Hid (ansOf s f e = -4) := by show _ = _; rw [HAN.out, HD.out]; show ansNo f e = _; rw [HNO.out, if_pos (by simpa using q1)]
    go_wp2_with fail
    go_ret2
    exact ⟨by rw [HE.out, HD.out]; rfl, HOUT.out HD.out _ HK2.out⟩
  | false =>
    have HQ1 : Hid (¬ e.seq ≤ f.acked) := by show ¬ _; simpa using q1
    have HDN : Hid (ansDone f e = (!keptHas f.kept e.seq && !(decide (f.acked + 3 < e.seq)))) := by show _ = _; rw [HDN.out, q1]; rfl
    have HNO : Hid (ansNo f e = if keptHas f.kept e.seq then keptVal f.kept e.seq else -5) := by show _ = _; rw [HNO.out, if_neg HQ1.out]
    have z3 : ∀ t : After W2, t.w.cell? ⟨sb, 3, none⟩ = some (.slice ka f.kept.length kc) := fun t => (HS.out.keep (HK2.out.trans t.h)).c3
    have ze : ∀ t : After W2, t.w.cell? ⟨w.heap.size + 1, 3, none⟩ = some (.int .i64 e.seq) := fun t => (HA2.out.keep t.h).e3
    have hin := After.some W2
    have zl : ∀ t : After W2, sb < t.w.heap.size := fun t => (HS.out.keep (HK2.out.trans t.h)).lt
    have HKA : Hid (∀ t : After W2, KeptAt t.w (.slice ka f.kept.length kc) f.kept) := fun t => (HK.out.keep (HK2.out.trans t.h)).kept
    go_wp2_with fail
    refine wp_region_after (by kernel_rfl) (by kernel_rfl) ?_
    repeat (first | go_big_quiet_skip | (go_big_quiet_want; go_big_quiet_op; first | go_big_quiet_on | (apply Exists.intro; refine ⟨fun _ => ?_, ?_⟩; (go_at_call 82; exact calls_after (search_pos f.kept _ e.seq _ (HKA.out _) h3 HRI.out)); go_big_quiet_on)))
    refine wpQuiet_nil ?_
    rintro _ ⟨t, rfl⟩
    obtain ⟨W3, hW3⟩ : ∃ W3, W3 = t.w := ⟨_, rfl⟩
    have k23 : Keeps W2 W3 := by rw [hW3]; exact t.h
    have HK3 : Hid (Keeps w W3) := HK2.out.trans k23
    have HA3 : Hid (AnsBox w.heap.size b e W3) := HA2.out.keep k23
    rw [← hW3]
    clear hW3 k23 z3 ze zl hin HKA HK2 HA2
    clear t W2
    cases q2 : keptHas f.kept e.seq with
    | true =>
      have HD : Hid (ansDone f e = false) := by show _ = _; rw [HDN.out, q2]; rfl
      have HE : Hid (ansOf s f e = keptVal f.kept e.seq) := by show _ = _; rw [HAN.out, HD.out]; show ansNo f e = _; rw [HNO.out, q2]; rfl
      obtain ⟨hp, hval⟩ := kept_found q2
      obtain ⟨gb, off, cp, hv, _, hcell⟩ := (HK.out.keep HK3.out).kept.at hp
      have hc1 := (hcell _ hp).2
      rw [← hval] at hc1
      injection hv with hv1 hv2 hv3
      subst hv1
      have s3 := (HS.out.keep HK3.out).c3
      clear hcell hv2 hv3 hval
      generalize posOf f.kept e.seq = p at *
      generalize f.kept.length = n at *
      go_wp2_with fail
      go_ret2
      exact ⟨by rw [HE.out, HD.out]; rfl, HOUT.out HD.out _ HK3.out⟩
    | false =>
      have HDN : Hid (ansDone f e = !(decide (f.acked + 3 < e.seq))) := by show _ = _; rw [HDN.out, q2]; rfl
      have HNO : Hid (ansNo f e = -5) := by show _ = _; rw [HNO.out, q2]; rfl
      have s1 := (HS.out.keep HK3.out).c1
      have e3 := HA3.out.e3
      have hM := HA3.out.lt
      obtain ⟨hM0, hM1⟩ := hM
      go_wp2_with fail
      go_quiet (fail)
      obtain ⟨W4, hW4⟩ : ∃ W4, W4 = W3.drewN nq := ⟨_, rfl⟩
      have k34 : Keeps W3 W4 := by rw [hW4]; exact (Keeps.refl _).drewN _
      have HK4 : Hid (Keeps w W4) := HK3.out.trans k34
      have HA4 : Hid (AnsBox w.heap.size b e W4) := HA3.out.keep k34
      rw [← hW4]
      clear hW4 k34 HK3 HA3 s1 e3 hM0 hM1
      clear W3
      cases q3 : decide (f.acked + 3 < e.seq) with
      | true =>
        have HD : Hid (ansDone f e = false) := by show _ = _; rw [HDN.out, q3]; rfl
        have HE : Hid (ansOf s f e = -5) := by show _ = _; rw [HAN.out, HD.out]; exact HNO.out
        go_wp2_with fail
        go_ret2
        exact ⟨by rw [HE.out, HD.out]; rfl, HOUT.out HD.out _ HK4.out⟩
      | false =>
        have HD : Hid (ansDone f e = true) := by show _ = _; rw [HDN.out, q3]; rfl
        have HE : Hid (ansOf s f e = doneAns s e ∧ ansSt s f e = setVals s (doneVals s e) ∧ ansKept s f e = keptPut f.kept e.seq (doneAns s e)) := ⟨by rw [HAN.out, HD.out]; rfl, by rw [HST.out, HD.out]; rfl, by rw [HKP.out, HD.out]; rfl⟩
        clear HAN HST HKP HNO HDN HOUT
        generalize doneVals s e = dv at *
        generalize doneAns s e = da at *
        have B4 := HB.out.keep HK4.out
        have HS8 : Hid (∀ W, Keeps W4 W → W.cell? ⟨w.heap.size, 0, none⟩ = some (.pointer (some ⟨b, 0, none⟩)) ∧ W.cell? ⟨b, 2, none⟩ = some (.int .i64 s.v0) ∧ W.cell? ⟨b, 3, none⟩ = some (.int .i64 s.v1) ∧ W.cell? ⟨b, 4, none⟩ = some (.int .i64 s.v2) ∧ W.cell? ⟨b, 5, none⟩ = some (.int .i64 s.v3) ∧ W.cell? ⟨w.heap.size + 1, 5, none⟩ = some (.int .i64 e.ok) ∧ W.cell? ⟨w.heap.size + 1, 6, none⟩ = some (.int .i64 e.okey) ∧ W.cell? ⟨w.heap.size + 1, 7, none⟩ = some (.int .i64 e.oto) ∧ W.cell? ⟨w.heap.size + 1, 8, none⟩ = some (.int .i64 e.on)) := fun W hk => ⟨(HA4.out.keep hk).m0, (B4.keep hk).c2, (B4.keep hk).c3, (B4.keep hk).c4, (B4.keep hk).c5, (HA4.out.keep hk).e5, (HA4.out.keep hk).e6, (HA4.out.keep hk).e7, (HA4.out.keep hk).e8⟩
        have m0 := HA4.out.m0
        have b2 := B4.c2
        have b3 := B4.c3
        have b4 := B4.c4
        have b5 := B4.c5
        have e5 := HA4.out.e5
        have e6 := HA4.out.e6
        have e7 := HA4.out.e7
        have e8 := HA4.out.e8
        have bl4 := B4.lt
        obtain ⟨hM0, hM1⟩ := HA4.out.lt
        clear B4
        go_wp2_with fail
        go_cut [10, 11] (fun u v wc => ∃ D : Nat, u = .pointer (some ⟨D, 0, none⟩) ∧ w.heap.size ≤ D ∧ wc.cell? ⟨D, 0, none⟩ = some (.int .i64 (dv 0)) ∧ wc.cell? ⟨D, 1, none⟩ = some (.int .i64 (dv 1)) ∧ wc.cell? ⟨D, 2, none⟩ = some (.int .i64 (dv 2)) ∧ wc.cell? ⟨D, 3, none⟩ = some (.int .i64 (dv 3)) ∧ v = .int .i64 da ∧ Keeps W4 wc)
        case first =>
          go_region_held3 (fun w' => w'.cell? ⟨w.heap.size, 0, none⟩ = some (.pointer (some ⟨b, 0, none⟩)) ∧ w'.cell? ⟨b, 2, none⟩ = some (.int .i64 s.v0) ∧ w'.cell? ⟨b, 3, none⟩ = some (.int .i64 s.v1) ∧ w'.cell? ⟨b, 4, none⟩ = some (.int .i64 s.v2) ∧ w'.cell? ⟨b, 5, none⟩ = some (.int .i64 s.v3) ∧ w'.cell? ⟨w.heap.size + 1, 5, none⟩ = some (.int .i64 e.ok) ∧ w'.cell? ⟨w.heap.size + 1, 6, none⟩ = some (.int .i64 e.okey) ∧ w'.cell? ⟨w.heap.size + 1, 7, none⟩ = some (.int .i64 e.oto) ∧ w'.cell? ⟨w.heap.size + 1, 8, none⟩ = some (.int .i64 e.on)) (first | exact HS8.out _ ((Keeps.refl _).drew) | exact HS8.out _ (((Keeps.refl _).drew).trans hb) | exact HS8.out _ ((((Keeps.refl _).alloc _).drew).trans hb) | exact HS8.out _ ((((Keeps.refl _).drew).trans hb).alloc _) | exact HS8.out _ (((Keeps.refl _).alloc _).drew) | exact HS8.out _ (by (repeat refine Keeps.set ?_ (by simp <;> omega) _); exact (((Keeps.refl _).alloc _).drew).trans hb) | go_keep | (trace_state; sorry)) (first | (go_at_call 19; refine (HDO.out _).mono ?_; rintro y w3 ⟨⟨er, rfl⟩, hb⟩; obtain ⟨hbc, hbf⟩ := hb.cells; have hbz := hb.size))
          all_goals go_wp2_with fail
          all_goals go_meet
          · have h0 := HK4.out.size
            have h1 := hb.size
            exact ⟨_, rfl, Nat.le_trans h0 h1, by simp [go_sem], by simp [go_sem], by simp [go_sem], by simp [go_sem], rfl, ((Keeps.refl _).drew.trans hb).alloc _⟩
          · have h0 := HK4.out.size
            refine ⟨_, rfl, h0, ?_, ?_, ?_, ?_, rfl, ?_⟩
            · simp [go_sem, hbc]
            · simp [go_sem, hbc]
            · simp [go_sem, hbc]
            · simp [go_sem, hbc]
            · (repeat refine Keeps.set ?_ (by simp <;> omega) _)
              exact (((Keeps.refl _).alloc _).drew).trans hb
        case rest =>
          obtain ⟨D, rfl, hD, d0, d1, d2, d3, rfl, hkc⟩ := hcut
          obtain ⟨W5, hW5⟩ : ∃ z : World, z = wc := ⟨_, rfl⟩
          subst hW5
          clear HS8 m0 b2 b3 b4 b5 e5 e6 e7 e8 bl4 hM0 hM1
          have k5 : Keeps w W5 := HK4.out.trans hkc
          have A5 := HA4.out.keep hkc
          have B5 := HB.out.keep k5
          have m0 := A5.m0
          have b2 := B5.c2
          have b3 := B5.c3
          have b4 := B5.c4
          have b5 := B5.c5
          have bz := B5.fz
          have bl5 := B5.lt
          have hDb : ¬ (D = b) := by omega
          have HB5 : Hid (StBox b s x W5) := B5
          have HA5 : Hid (AnsBox w.heap.size b e W5) := A5
          have HK5 : Hid (Keeps w W5) := k5
          have hz5 := k5.size
          clear HK4 HA4 hkc B5 A5 k5
          clear W4
          go_wp2_with fail
          have hbut : But b W5 ((((W5.setCell ⟨b, 2, none⟩ (.int .i64 (dv 0))).setCell ⟨b, 3, none⟩ (.int .i64 (dv 1))).setCell ⟨b, 4, none⟩ (.int .i64 (dv 2))).setCell ⟨b, 5, none⟩ (.int .i64 (dv 3))) := ((((But.refl _ _).set 2 _).set 3 _).set 4 _).set 5 _
          have B6 := HB5.out.vals dv
          generalize ((((W5.setCell ⟨b, 2, none⟩ (.int .i64 (dv 0))).setCell ⟨b, 3, none⟩ (.int .i64 (dv 1))).setCell ⟨b, 4, none⟩ (.int .i64 (dv 2))).setCell ⟨b, 5, none⟩ (.int .i64 (dv 3))) = W6 at *
          have S6 := (HS.out.keep HK5.out).other hbut (Ne.symm hbs)
          have K6 := (HK.out.keep HK5.out).but hbut hgb
          have A6 := HA5.out.but hbut hbl
          have F6 : But3 b sb g w W6 := (But3.keeps HK5.out).trans (But3.of hbut (.inl rfl))
          have hz6 := F6.size
          have HI : Hid (∀ W vb, Keeps W6 W → W.heap[vb]? = some (.cells #[.int .i64 e.seq, .int .i64 da] 78 (0, 0)) → W6.heap.size ≤ vb → Calls Try.prog 85 #[.slice ka f.kept.length kc, .int .i64 (posOf f.kept e.seq), .slice (some ⟨vb, 0, none⟩) 1 1] W fun y w7 =>
              ∃ va vn vc, y = .returned (.slice va vn vc) ∧ w7.cell? ⟨sb, 3, none⟩ = some (.slice ka f.kept.length kc) ∧ (∀ i, w7.frozen? ⟨sb, i, none⟩ = false) ∧ sb < w7.heap.size ∧ ∃ g', Hid (StBox b (setVals s dv) x w7) ∧ Hid (SesBox sb f (.slice ka f.kept.length kc) w7) ∧ Hid (KeptOn g' w7 (.slice va vn vc) (keptPut f.kept e.seq da)) ∧ Hid (g' = g ∨ w.heap.size ≤ g' ∧ g' ≠ sb) ∧ Hid (But3 b sb g w w7)) := by
            intro W vb hkW hvb hle
            have hvl : vb < W.heap.size := (Array.getElem?_eq_some_iff.1 hvb).1
            have hzW := hkW.size
            have hg0 : ∃ g0, KeptOn g0 W (.slice ka f.kept.length kc) f.kept ∧ vb ≠ g0 ∧ (g0 = g ∨ W.heap.size ≤ g0) := by
              rcases HG.out with h | h
              · exact ⟨g, K6.keep hkW, by omega, .inl rfl⟩
              · refine ⟨W.heap.size, .inl ⟨h, ?_⟩, by omega, .inr (Nat.le_refl _)⟩
                injection h with _ h _
                exact List.length_eq_zero_iff.1 h
            obtain ⟨g0, hk0, hv0, hgg⟩ := hg0
            have hs6 := S6.lt
            have hb6 := B6.lt
            refine (insert_c g0 vb (posOf f.kept e.seq) f.kept e.seq da _ W hk0 (posOf_le _ _) h3 hvb hv0).mono ?_
            rintro y w7 ⟨g', kv', hk', hor, rfl, hb'⟩
            obtain ⟨va, vc, hve, _⟩ := hk'.kept.len
            subst hve
            have hF7 : But3 b sb g W w7 := by
              rcases hgg with h | h
              · subst h
                exact But3.of hb' (.inr (.inr rfl))
              · exact But3.keeps (But.to (Keeps.refl W) h hb')
            have S7 := (S6.keep hkW).other hb' (by rcases hgg with h | h <;> omega)
            refine ⟨va, _, vc, rfl, S7.c3, S7.fz, S7.lt, g', (B6.keep hkW).other hb' (by rcases hgg with h | h <;> omega), S7, hk', ?_, F6.trans ((But3.keeps hkW).trans hF7)⟩
            rcases hor with h | h
            · subst h
              rcases hgg with h | h
              · exact .inl h
              · exact .inr ⟨by omega, by omega⟩
            · exact .inr ⟨by omega, by omega⟩
          have s3 := S6.c3
          have sl6 := S6.lt
          have e3 := A6.e3
          have hM := A6.lt.2
          have hMsb : ¬ (w.heap.size + 1 = sb) := by omega
          generalize posOf f.kept e.seq = p at *
          generalize f.kept.length = n at *
          clear hbut B6 S6 K6 A6 F6 HB5 HA5 HK5 d0 d1 d2 d3 m0 b2 b3 b4 b5 bz bl5 hz5 HDO HK HB HS HG
          clear W5
          go_region_with (first | (go_at_call 85; refine (HI.out _ _ (((Keeps.refl _).alloc _).drew) (heap_at _ _) (Nat.le_refl _)).mono ?_; rintro y w7 ⟨va, vn, vc, rfl, t3, tz, tl, g', HB7, HS7, HK7, HOR, HF7⟩))
          all_goals
            have hg7 : g' ≠ sb := by rcases HOR.out with h | h <;> omega
            have hor7 : g' = g ∨ w.heap.size ≤ g' := by rcases HOR.out with h | h <;> omega
            go_wp2_with fail
            go_ret2
            refine ⟨by rw [HE.out.1, HD.out]; rfl, .slice va vn vc, g', ?_⟩
            rw [HE.out.2.1, HE.out.2.2]
            exact ⟨HB7.out.other ((But.refl sb _).set 3 _) hbs, HS7.out.set_kept _ _, HK7.out.but ((But.refl sb _).set 3 _) hg7, hor7, HF7.out.trans (But3.of ((But.refl sb _).set 3 _) (.inr (.inl rfl)))⟩
end Go.Proofs.Ythjcnbimapgdnab
