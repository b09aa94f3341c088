/- ApG, ApH, LoC, ApI, SesP. -/
import Derived.Test.YteabfjpajgakiafJ02
import Derived.Test.YteabfjpajgakiafJ03
import Derived.Test.YteabfjpajgakiafJ04
import Derived.Test.YteabfjpajgakiafJ10
/- Applying: the machine's answer. -/
set_option linter.unusedSimpArgs false
set_option linter.unusedVariables false
set_option maxRecDepth 10000
namespace Go.Proofs.Yteabfjpajgakiaf
open Go.RowKit

/-- Where a number is, or belongs. -/
def posOf (l : List (Int × Int)) (seq : Int) : Nat := (l.takeWhile fun r => decide (r.1 < seq)).length
/-- Is there an answer by that number, and which? -/
def keptHas (l : List (Int × Int)) (seq : Int) : Bool := thereB l seq (posOf l seq)
def keptVal (l : List (Int × Int)) (seq : Int) : Int := match l[posOf l seq]? with | some r => r.2 | none => 0
def keptPut (l : List (Int × Int)) (seq v : Int) : List (Int × Int) := l.take (posOf l seq) ++ (seq, v) :: l.drop (posOf l seq)

/-- The values of a state. -/
def stG (s : St) : Nat → Int := fun i => if i = 0 then s.v0 else if i = 1 then s.v1 else if i = 2 then s.v2 else s.v3
def setVals (s : St) (g : Nat → Int) : St := { s with v0 := g 0, v1 := g 1, v2 := g 2, v3 := g 3 }

/-- What a session answers to a call, whose Acked is raised already. -/
def ansDone (f : Ses) (e : Ent) : Bool := !(decide (e.seq ≤ f.acked)) && (!keptHas f.kept e.seq && !(decide (f.acked + 3 < e.seq)))
def ansNo (f : Ses) (e : Ent) : Int := if e.seq ≤ f.acked then -4 else if keptHas f.kept e.seq then keptVal f.kept e.seq else -5
def doneVals (s : St) (e : Ent) : Nat → Int := doVals (stG s) e.ok e.okey e.oto e.on
def doneAns (s : St) (e : Ent) : Int := doAns (stG s) e.ok e.okey e.oto e.on
def ansOf (s : St) (f : Ses) (e : Ent) : Int := if ansDone f e then doneAns s e else ansNo f e
def ansSt (s : St) (f : Ses) (e : Ent) : St := if ansDone f e then setVals s (doneVals s e) else s
def ansKept (s : St) (f : Ses) (e : Ent) : List (Int × Int) := if ansDone f e then keptPut f.kept e.seq (doneAns s e) else f.kept

/-- All that was there is as it was, but for three blocks. -/
structure But3 (b c d : Nat) (a w : World) : Prop where
  os : w.os = a.os
  tape : w.tape = a.tape
  output : w.output = a.output
  size : a.heap.size ≤ w.heap.size
  block : ∀ k, k < a.heap.size → k ≠ b → k ≠ c → k ≠ d → w.heap[k]? = a.heap[k]?
theorem But3.of {b c d h : Nat} {x y : World} (hk : But h x y) (hh : h = b ∨ h = c ∨ h = d) : But3 b c d x y :=
  ⟨hk.os, hk.tape, hk.output, hk.size, fun k hk' h1 h2 h3 => hk.block k hk' (by rcases hh with rfl | rfl | rfl <;> assumption)⟩
theorem But3.trans {b c d : Nat} {x y z : World} (h : But3 b c d x y) (k : But3 b c d y z) : But3 b c d x z :=
  ⟨k.os.trans h.os, k.tape.trans h.tape, k.output.trans h.output, Nat.le_trans h.size k.size, fun i hi h1 h2 h3 => (k.block i (Nat.lt_of_lt_of_le hi h.size) h1 h2 h3).trans (h.block i hi h1 h2 h3)⟩
theorem But3.keeps {b c d : Nat} {x y : World} (h : Keeps x y) : But3 b c d x y := But3.of (But.of (b := b) h) (.inl rfl)
/-- Two of them are younger than what was there. -/
theorem But3.to {b c d : Nat} {a x y : World} (ha : But b a x) (hc : a.heap.size ≤ c) (hd : a.heap.size ≤ d) (h : But3 b c d x y) : But b a y :=
  ⟨h.os.trans ha.os, h.tape.trans ha.tape, h.output.trans ha.output, Nat.le_trans ha.size h.size, fun k hk hb => (h.block k (Nat.lt_of_lt_of_le hk ha.size) hb (by omega) (by omega)).trans (ha.block k hk hb)⟩

/-- The boxes of answer: the machine, and the entry behind it. -/
structure AnsBox (M b : Nat) (e : Ent) (W : World) : Prop where
  m0 : W.cell? ⟨M, 0, none⟩ = some (.pointer (some ⟨b, 0, none⟩))
  e3 : W.cell? ⟨M + 1, 3, none⟩ = some (.int .i64 e.seq)
  e5 : W.cell? ⟨M + 1, 5, none⟩ = some (.int .i64 e.ok)
  e6 : W.cell? ⟨M + 1, 6, none⟩ = some (.int .i64 e.okey)
  e7 : W.cell? ⟨M + 1, 7, none⟩ = some (.int .i64 e.oto)
  e8 : W.cell? ⟨M + 1, 8, none⟩ = some (.int .i64 e.on)
theorem AnsBox.keep {M b : Nat} {e : Ent} {W W' : World} (h : AnsBox M b e W) (hk : Keeps W W') : AnsBox M b e W' :=
  ⟨cell_kept h.m0 hk, cell_kept h.e3 hk, cell_kept h.e5 hk, cell_kept h.e6 hk, cell_kept h.e7 hk, cell_kept h.e8 hk⟩
theorem AnsBox.but {M b c : Nat} {e : Ent} {W W' : World} (h : AnsBox M b e W) (hk : But c W W') (h1 : c < M) : AnsBox M b e W' :=
  ⟨hk.at h.m0 (by simp; omega), hk.at h.e3 (by simp; omega), hk.at h.e5 (by simp; omega), hk.at h.e6 (by simp; omega), hk.at h.e7 (by simp; omega), hk.at h.e8 (by simp; omega)⟩
theorem AnsBox.lt {M b : Nat} {e : Ent} {W : World} (h : AnsBox M b e W) : M < W.heap.size ∧ M + 1 < W.heap.size := ⟨World.block_lt_of_cell? _ _ h.m0, World.block_lt_of_cell? _ _ h.e3⟩

end Go.Proofs.Yteabfjpajgakiaf

/- Applying: the machine's call. -/
set_option linter.unusedSimpArgs false
set_option linter.unusedVariables false
set_option maxRecDepth 10000
namespace Go.Proofs.Yteabfjpajgakiaf
open Go.RowKit

/-- The session that a Call finds, seen and acknowledged. -/
def calledSes (s : St) (f : Ses) (e : Ent) : Ses := { f with acked := max f.acked e.ack, seen := s.clock, kept := keptAfter (max f.acked e.ack) f.kept }
def callSes (s : St) (f : Ses) (e : Ent) : Ses := { calledSes s f e with kept := ansKept s (calledSes s f e) e }
def callSt (s : St) (e : Ent) : St := match findSes s.tab e.client with
  | none => s
  | some f => { ansSt s (calledSes s f e) e with tab := putTab s.tab (callSes s f e) }
def callAns (s : St) (e : Ent) : Int := match findSes s.tab e.client with
  | none => -3
  | some f => ansOf s (calledSes s f e) e
/-- An entry in its box. -/
structure EntBox (b : Nat) (e : Ent) (w : World) : Prop where
  c0 : w.cell? ⟨b, 0, none⟩ = some (.int .i64 e.kind)
  c1 : w.cell? ⟨b, 1, none⟩ = some (.int .i64 e.time)
  c2 : w.cell? ⟨b, 2, none⟩ = some (.int .i64 e.client)
  c3 : w.cell? ⟨b, 3, none⟩ = some (.int .i64 e.seq)
  c4 : w.cell? ⟨b, 4, none⟩ = some (.int .i64 e.ack)
  c5 : w.cell? ⟨b, 5, none⟩ = some (.int .i64 e.ok)
  c6 : w.cell? ⟨b, 6, none⟩ = some (.int .i64 e.okey)
  c7 : w.cell? ⟨b, 7, none⟩ = some (.int .i64 e.oto)
  c8 : w.cell? ⟨b, 8, none⟩ = some (.int .i64 e.on)
theorem EntBox.lt {b : Nat} {e : Ent} {w : World} (h : EntBox b e w) : b < w.heap.size := World.block_lt_of_cell? _ _ h.c0
theorem EntBox.keep {b : Nat} {e : Ent} {w w' : World} (h : EntBox b e w) (hk : Keeps w w') : EntBox b e w' :=
  ⟨cell_kept h.c0 hk, cell_kept h.c1 hk, cell_kept h.c2 hk, cell_kept h.c3 hk, cell_kept h.c4 hk, cell_kept h.c5 hk, cell_kept h.c6 hk, cell_kept h.c7 hk, cell_kept h.c8 hk⟩
theorem EntBox.but {b c : Nat} {e : Ent} {w w' : World} (h : EntBox b e w) (hk : But c w w') (hb : b ≠ c) : EntBox b e w' :=
  ⟨hk.at h.c0 hb, hk.at h.c1 hb, hk.at h.c2 hb, hk.at h.c3 hb, hk.at h.c4 hb, hk.at h.c5 hb, hk.at h.c6 hb, hk.at h.c7 hb, hk.at h.c8 hb⟩
theorem EntBox.new (w : World) (e : Ent) (t : TypeId) : EntBox w.heap.size e (w.alloc (.cells #[.int .i64 e.kind, .int .i64 e.time, .int .i64 e.client, .int .i64 e.seq, .int .i64 e.ack, .int .i64 e.ok, .int .i64 e.okey, .int .i64 e.oto, .int .i64 e.on] t)) :=
  ⟨by simp [go_sem], by simp [go_sem], by simp [go_sem], by simp [go_sem], by simp [go_sem], by simp [go_sem], by simp [go_sem], by simp [go_sem], by simp [go_sem]⟩

theorem But3.at {b c d : Nat} {x y : World} (h : But3 b c d x y) {p : Addr} {u : Value} (hu : x.cell? p = some u) (h1 : p.block ≠ b) (h2 : p.block ≠ c) (h3 : p.block ≠ d) : y.cell? p = some u :=
  (World.cell?_of_block (w := x) (h.block p.block (World.block_lt_of_cell? _ _ hu) h1 h2 h3)).trans hu

theorem Rises.filter {l : List (Int × Int)} (h : Rises l) (p : Int × Int → Bool) : Rises (l.filter p) := by
  have hp : l.Pairwise (fun a b => a.1 < b.1) := by
    rw [List.pairwise_iff_getElem]
    exact fun i j hi hj hij => h i j hi hj hij
  have := hp.filter p
  rw [List.pairwise_iff_getElem] at this
  exact fun i j hi hj hij => this i j hi hj hij
end Go.Proofs.Yteabfjpajgakiaf

/- log.Write. -/
set_option linter.unusedSimpArgs false
set_option linter.unusedVariables false
set_option maxRecDepth 10000
namespace Go.Proofs.Yteabfjpajgakiaf
open Go.RowKit

theorem grow_keep {w1 w2 w3 : World} {o : Obj} {v v' : Value} {B : List UInt8} (hk : Keeps w1 w2) (hv : BOwn w1.heap.size w2 v B) (hg : GrowsTo (w2.alloc o) w3 v v') : Keeps w1 w3 := by
  have h1 : Keeps w1 (w2.alloc o) := hk.alloc o
  have h2 : Below w1.heap.size (w2.alloc o) w3 := hg.below (hv.keep ((Keeps.refl _).alloc _)) h1.size
  exact Below.trans h1 h2
theorem BOwn.cells {base : Nat} {w : World} {v : Value} {B : List UInt8} (h : BOwn base w v B) (h0 : 0 < B.length) : ∃ g c, v = .slice (some ⟨g, 0, none⟩) B.length c ∧ ∀ j (hj : j < B.length), w.cell? ((⟨g, 0, none⟩ : Addr).add j) = some (.int .u8 (B[j].toNat : Int)) := by
  rcases h.2 with ⟨_, h1⟩ | ⟨g, cap, cur, rfl, hb, hg, hn, hc, hs, ht⟩
  · omega
  · refine ⟨g, cap, rfl, fun j hj => ?_⟩
    refine World.news_of_block hg j _ ?_
    have h2 : (cur.toList.take (B.length * 1))[j]? = some (.int .u8 (i8 B[j])) := by rw [ht]; exact byCells_at hj
    rw [List.getElem?_take_of_lt (by omega)] at h2
    exact h2
theorem BOwn.conv {base : Nat} {w : World} {v : Value} {B : List UInt8} (h : BOwn base w v B) (h0 : 0 < B.length) : ∃ g c, v = .slice (some ⟨g, 0, none⟩) B.length c ∧ (convert 76 9 (.slice (some ⟨g, 0, none⟩) B.length c)).run Try.prog w = .ok (.string (bt B)) w := by
  obtain ⟨g, c, h1, h2⟩ := h.cells h0
  exact ⟨g, c, h1, run_convert_bytes_back w 76 9 5 ⟨g, 0, none⟩ c B Try.underlying76 Try.underlying5 Try.underlying9 h2⟩
def wrBs (e : Ent) : List UInt8 := if entErr e == 0 then entBs e else []

set_option maxHeartbeats 4000000 in
theorem log_write (e : Ent) (w : World) : Calls Try.prog 15 #[entV e] w fun y w' => y = .returned (.tuple #[.string (bt (wrBs e)), .int .i64 (entErr e)]) ∧ Keeps w w' := by
  have HW0 : Hid (wrBs e = if entErr e == 0 then entBs e else []) := rfl
  have HEF : Hid (entErr e = 0 → e.kind = 2 → -999 ≤ e.on ∧ e.on ≤ 999) := fun h hk => (ent_call h hk).2.2.2.2.2
  have HCH : Hid (∀ W, Calls Try.prog 34 #[entV e] W fun x w' => x = .returned (.int .i64 (entErr e)) ∧ Keeps W w') := fun W => ent_check e W
  generalize hwr : wrBs e = wr at *
  generalize entErr e = er at *
  clear hwr
  go_enter Try.func15, Try.ntmps15
  go_wp2_with fail
  refine (HCH.out _).mono ?_
  rintro y w1 ⟨rfl, hb⟩
  have HE1 : Hid (EntBox w.heap.size e w1) := (EntBox.new w e _).keep hb
  have HK : Hid (Keeps w w1) := ((Keeps.refl _).alloc _).trans hb
  clear hb HCH
  generalize w.heap.size = eb at *
  cases q : (er == 0) with
  | false =>
    have q' : (er != 0) = true := by simp [bne, q]
    have HW : Hid (wr = []) := by show _ = _; rw [HW0.out, q]; rfl
    go_wp2_with fail
    go_ret2
    rw [HW.out]
    exact ⟨rfl, HK.out⟩
  | true =>
    have q' : (er != 0) = false := by simp [bne, q]
    have q0 : er = 0 := by simpa using q
    have HW1 : Hid (wr = entBs e) := by show _ = _; rw [HW0.out, q]; rfl
    have hon := HEF.out q0
    subst q0
    clear HW0 HEF q q'
    have c0 := HE1.out.c0
    have c1 := HE1.out.c1
    have c2 := HE1.out.c2
    have c3 := HE1.out.c3
    have c4 := HE1.out.c4
    have c5 := HE1.out.c5
    have c6 := HE1.out.c6
    have c7 := HE1.out.c7
    have c8 := HE1.out.c8
    go_wp2_with fail
    refine (small_c w1.heap.size [] (.slice none 0 0) [e.kind] w1.heap.size _ (by simp) BOwn.nil (new_nums w1 [e.kind] _) (by simp) (fun h => by cases h) (by simp)).mono ?_
    rintro y w2 ⟨v2, rfl, hO, hG⟩
    have HO2 : Hid (BOwn w1.heap.size w2 v2 [b8 e.kind]) := hO
    have HK2 : Hid (Keeps w1 w2) := grow_keep (Keeps.refl _) BOwn.nil hG
    have HE2 : Hid (EntBox eb e w2) := HE1.out.keep HK2.out
    clear hO hG
    clear c0 c1 c2 c3 c4 c5 c6 c7 c8
    have c0 := HE2.out.c0
    have c1 := HE2.out.c1
    have c2 := HE2.out.c2
    have c3 := HE2.out.c3
    have c4 := HE2.out.c4
    have c5 := HE2.out.c5
    have c6 := HE2.out.c6
    have c7 := HE2.out.c7
    have c8 := HE2.out.c8
    go_wp2_with fail
    refine (wide_c w1.heap.size [b8 e.kind] v2 [e.time] w2.heap.size _ (Nat.le_trans HK2.out.size (by simp)) (HO2.out.keep ((Keeps.refl _).alloc _)) (new_nums w2 [e.time] _) (by simp) (fun h => by have := (HO2.out.own h).2; omega) (by simp)).mono ?_
    rintro y w3 ⟨v3, rfl, hO, hG⟩
    have HO3 : Hid (BOwn w1.heap.size w3 v3 [b8 e.kind, b8 (e.time / 256), b8 e.time]) := hO
    have HK3 : Hid (Keeps w1 w3) := grow_keep HK2.out HO2.out hG
    have HE3 : Hid (EntBox eb e w3) := HE1.out.keep HK3.out
    clear hO hG HO2 HK2
    clear c0 c1 c2 c3 c4 c5 c6 c7 c8
    have c0 := HE3.out.c0
    have c1 := HE3.out.c1
    have c2 := HE3.out.c2
    have c3 := HE3.out.c3
    have c4 := HE3.out.c4
    have c5 := HE3.out.c5
    have c6 := HE3.out.c6
    have c7 := HE3.out.c7
    have c8 := HE3.out.c8
    go_wp2_with fail
    refine (small_c w1.heap.size [b8 e.kind, b8 (e.time / 256), b8 e.time] v3 [e.client] w3.heap.size _ (Nat.le_trans HK3.out.size (by simp)) (HO3.out.keep ((Keeps.refl _).alloc _)) (new_nums w3 [e.client] _) (by simp) (fun h => by have := (HO3.out.own h).2; omega) (by simp)).mono ?_
    rintro y w4 ⟨v4, rfl, hO, hG⟩
    have HO4 : Hid (BOwn w1.heap.size w4 v4 [b8 e.kind, b8 (e.time / 256), b8 e.time, b8 e.client]) := hO
    have HK4 : Hid (Keeps w1 w4) := grow_keep HK3.out HO3.out hG
    have HE4 : Hid (EntBox eb e w4) := HE1.out.keep HK4.out
    clear hO hG HO3 HK3
    clear c0 c1 c2 c3 c4 c5 c6 c7 c8
    have c0 := HE4.out.c0
    have c1 := HE4.out.c1
    have c2 := HE4.out.c2
    have c3 := HE4.out.c3
    have c4 := HE4.out.c4
    have c5 := HE4.out.c5
    have c6 := HE4.out.c6
    have c7 := HE4.out.c7
    have c8 := HE4.out.c8
    by_cases hk : e.kind = 2
    · obtain ⟨hon0, hon1⟩ := hon hk
      have hk' : (e.kind == 2) = true := by simpa using hk
      have HW : Hid (wr = [b8 2, b8 (e.time / 256), b8 e.time, b8 e.client, b8 e.seq, b8 e.ack, b8 e.ok, b8 e.okey, b8 e.oto, b8 ((e.on + 999) / 256), b8 (e.on + 999)]) := by show _ = _; rw [HW1.out, entBs_call hk, hk]
      clear HW1 hon
      go_wp2_with fail
      refine (small_c w1.heap.size [b8 e.kind, b8 (e.time / 256), b8 e.time, b8 e.client] v4 [e.seq, e.ack, e.ok, e.okey, e.oto] w4.heap.size _ (Nat.le_trans HK4.out.size (by simp)) (HO4.out.keep ((Keeps.refl _).alloc _)) (new_nums w4 [e.seq, e.ack, e.ok, e.okey, e.oto] _) (by simp) (fun h => by have := (HO4.out.own h).2; omega) (by simp)).mono ?_
      rintro y w5 ⟨v5, rfl, hO, hG⟩
      have HO5 : Hid (BOwn w1.heap.size w5 v5 [b8 e.kind, b8 (e.time / 256), b8 e.time, b8 e.client, b8 e.seq, b8 e.ack, b8 e.ok, b8 e.okey, b8 e.oto]) := hO
      have HK5 : Hid (Keeps w1 w5) := grow_keep HK4.out HO4.out hG
      have HE5 : Hid (EntBox eb e w5) := HE1.out.keep HK5.out
      clear hO hG HO4 HK4
      clear c0 c1 c2 c3 c4 c5 c6 c7 c8
      have c0 := HE5.out.c0
      have c1 := HE5.out.c1
      have c2 := HE5.out.c2
      have c3 := HE5.out.c3
      have c4 := HE5.out.c4
      have c5 := HE5.out.c5
      have c6 := HE5.out.c6
      have c7 := HE5.out.c7
      have c8 := HE5.out.c8
      go_wp2_with fail
      refine (wide_c w1.heap.size [b8 e.kind, b8 (e.time / 256), b8 e.time, b8 e.client, b8 e.seq, b8 e.ack, b8 e.ok, b8 e.okey, b8 e.oto] v5 [e.on + 999] w5.heap.size _ (Nat.le_trans HK5.out.size (by simp)) (HO5.out.keep ((Keeps.refl _).alloc _)) (new_nums w5 [e.on + 999] _) (by simp) (fun h => by have := (HO5.out.own h).2; omega) (by simp)).mono ?_
      rintro y w6 ⟨v6, rfl, hO, hG⟩
      have HO6 : Hid (BOwn w1.heap.size w6 v6 [b8 e.kind, b8 (e.time / 256), b8 e.time, b8 e.client, b8 e.seq, b8 e.ack, b8 e.ok, b8 e.okey, b8 e.oto, b8 ((e.on + 999) / 256), b8 (e.on + 999)]) := hO
      have HK6 : Hid (Keeps w1 w6) := grow_keep HK5.out HO5.out hG
      have HE6 : Hid (EntBox eb e w6) := HE1.out.keep HK6.out
      clear hO hG HO5 HK5
      clear c0 c1 c2 c3 c4 c5 c6 c7 c8
      have c0 := HE6.out.c0
      have c1 := HE6.out.c1
      have c2 := HE6.out.c2
      have c3 := HE6.out.c3
      have c4 := HE6.out.c4
      have c5 := HE6.out.c5
      have c6 := HE6.out.c6
      have c7 := HE6.out.c7
      have c8 := HE6.out.c8
      obtain ⟨g, cp, rfl, hcv⟩ := HO6.out.conv (by simp)
      have hcv : (convert 76 9 (.slice (some ⟨g, 0, none⟩) 11 cp)).run Try.prog w6 = .ok (.string (bt [b8 e.kind, b8 (e.time / 256), b8 e.time, b8 e.client, b8 e.seq, b8 e.ack, b8 e.ok, b8 e.okey, b8 e.oto, b8 ((e.on + 999) / 256), b8 (e.on + 999)])) w6 := hcv
      go_wp2_with fail
      go_ret2
      rw [HW.out]
      exact ⟨rfl, HK.out.trans HK6.out⟩
    · have hk' : (e.kind == 2) = false := by simpa using hk
      have HW : Hid (wr = [b8 e.kind, b8 (e.time / 256), b8 e.time, b8 e.client]) := HW1.out.trans (entBs_other hk)
      clear HW1 hon
      obtain ⟨g, cp, rfl, hcv⟩ := HO4.out.conv (by simp)
      have hcv : (convert 76 9 (.slice (some ⟨g, 0, none⟩) 4 cp)).run Try.prog w4 = .ok (.string (bt [b8 e.kind, b8 (e.time / 256), b8 e.time, b8 e.client])) w4 := hcv
      go_wp2_with fail
      go_ret2
      rw [HW.out]
      exact ⟨rfl, HK.out.trans HK4.out⟩
end Go.Proofs.Yteabfjpajgakiaf

/- Applying: the machine's call, walked. -/
set_option linter.unusedSimpArgs false
set_option linter.unusedVariables false
set_option maxRecDepth 10000
namespace Go.Proofs.Yteabfjpajgakiaf
open Go.RowKit

end Go.Proofs.Yteabfjpajgakiaf

/- What SessTrue asks of tables, without memory. -/
set_option linter.unusedSimpArgs false
set_option linter.unusedVariables false
namespace Go.Proofs.Yteabfjpajgakiaf
open Go.RowKit

end Go.Proofs.Yteabfjpajgakiaf
