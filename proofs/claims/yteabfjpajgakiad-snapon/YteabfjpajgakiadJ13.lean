/- SnE, SnF, SnG, SnH, SnB, SnI, SnJ, StG, StS, SnK, OpI, ApM0, ApP, ApN0. -/
import Derived.Defers
import Derived.Recover
import Derived.Laws.Pointers
import Derived.Laws.Concat
import Derived.Test.YteabfjpajgakiadJ02
import Derived.Test.YteabfjpajgakiadJ03
import Derived.Test.YteabfjpajgakiadJ10
import Derived.Test.YteabfjpajgakiadJ12
/- snap.readSession. -/
set_option linter.unusedSimpArgs false
set_option linter.unusedVariables false
set_option maxRecDepth 10000
namespace Go.Proofs.Yteabfjpajgakiad
open Go.RowKit

def SesOut (base b : Nat) (R : Option (Ses × List UInt8)) (y : Ending) (w' : World) : Prop :=
  match R with
  | some (s, r) => ∃ a c, ROwn base w' (.slice a s.kept.length c) s.kept ∧ y = .returned (sesV s (.slice a s.kept.length c)) ∧ RBox b r w'
  | none => PanE y
theorem rdSes_four (c a h o : UInt8) (t : List UInt8) : rdSes (c :: a :: h :: o :: t) = (rdList t).map fun p => (⟨i8 c, i8 a, i8 h * 256 + i8 o, p.1⟩, p.2) := by cases t <;> rfl
def S4 (s : Ses) (k : Value) : List Value := [.int .i64 s.client, .int .i64 s.acked, .int .i64 s.seen, k]
def zSes : Ses := ⟨0, 0, 0, []⟩
theorem zero59 : (Try.prog.info? 59).map (·.zero) = some (some (.agg (S4 zSes (.slice none 0 0)).toArray)) := by kernel_rfl
theorem size59 : (Try.prog.info? 59).map (·.size) = some 4 := by kernel_rfl
theorem row59 : ∃ d, Try.prog.underlying 59 = some d ∧ d.isRow = true := ⟨_, Try.underlying59, rfl⟩
section
variable {ops : Array Oper} {rest : List Oper} {op : Oper} {a : Act} {w : World} {Q : Exit → Act → World → Prop}
theorem alloc59 (hgd : op.guard = none) (ho : op.op = .alloc 59)
    (h : ∀ (w' : World) (b : Nat), CBox b (S4 zSes (.slice none 0 0)) w' → Keeps w w' → b < w'.heap.size → w.heap.size ≤ b → wpList Try.prog ops Q rest (a.put op.dst (.pointer (some ⟨b, 0, none⟩))) w') : wpList Try.prog ops Q (op :: rest) a w := wpList_alloc_new hgd _ ho _ _ zero59 rfl h
theorem store59 (hgd : op.guard = none) {x y : Operand} (ho : op.op = .store 59 x y) (b : Nat) (hx : a.eval x = .pointer (some ⟨b, 0, none⟩)) {t : Ses} {k : Value} (s : Ses) (ka : Option Addr) (kn kc : Nat) (hy : a.eval y = sesV s (.slice ka kn kc)) (hB : CBox b (S4 t k) w)
    (h : ∀ w', CBox b (S4 s (.slice ka kn kc)) w' → But b w w' → wpList Try.prog ops Q rest (a.put op.dst undef) w') : wpList Try.prog ops Q (op :: rest) a w :=
  wpList_store_box hgd _ x y ho b 0 (S4 s (.slice ka kn kc)) hx hy hB _ rfl (Nat.le_of_ble_eq_true rfl) (info_size size59 rfl) (by kernel_rfl) h
end
theorem read59 {w : World} {b : Nat} {s : Ses} {k : Value} (hB : CBox b (S4 s k) w) : (loadVar 59 ⟨b, 0, none⟩).run Try.prog w = .ok (sesV s k) w := by
  obtain ⟨d, h1, h2⟩ := row59
  exact read_box hB _ d h1 h2 (info_size size59 rfl)
theorem ROwn.base {base base' : Nat} {w : World} {v : Value} {x : List (Int × Int)} (h : ROwn base w v x) (hb : base' ≤ base) : ROwn base' w v x := owns_base h hb

set_option maxHeartbeats 4000000 in
theorem read_session (b : Nat) (w : World) : ∀ (l : List UInt8), RBox b l w → Calls Try.prog 82 #[.pointer (some ⟨b, 0, none⟩)] w fun y w' => SesOut w.heap.size b (rdSes l) y w' ∧ But b w w'
  | [], hB => by
    have HB : Hid (RBox b [] w) := hB
    clear hB
    have HR : Hid (rdSes [] = none) := rfl
    go_enter Try.func82, Try.ntmps82
    go_wp2_with (first | (refine alloc59 rfl rfl ?_; intro w0 ob hBo hko hlo hgo))
    refine (reader_none b w0 (HB.out.keep hko)).mono ?_
    rintro y w1 ⟨⟨u, pv, rfl⟩, _, hb⟩
    exact ⟨rfl, ⟨_, _, rfl⟩, (But.of hko).trans hb⟩
  | [c], hB => by
    have HB : Hid (RBox b [c] w) := hB
    clear hB
    go_enter Try.func82, Try.ntmps82
    go_wp2_with (first | (refine alloc59 rfl rfl ?_; intro w0 ob hBo hko hlo hgo))
    refine (reader_some b c [] w0 (HB.out.keep hko)).mono ?_
    rintro y w1 ⟨rfl, hR, hb⟩
    have HR1 : Hid (RBox b [] w1) := hR
    have HT1 : Hid (But b w w1) := (But.of hko).trans hb
    clear hR hb hBo hko hlo hgo HB
    go_wp2_with fail
    refine (reader_none b w1 HR1.out).mono ?_
    rintro y w2 ⟨⟨u, pv, rfl⟩, _, hb⟩
    exact ⟨rfl, ⟨_, _, rfl⟩, HT1.out.trans hb⟩
  | c :: a :: t, hB => by
    have HB : Hid (RBox b (c :: a :: t) w) := hB
    clear hB
    obtain ⟨R, HR⟩ : ∃ R, Hid (R = rdSes (c :: a :: t)) := ⟨_, rfl⟩
    rw [← HR.out]
    go_enter Try.func82, Try.ntmps82
    go_wp2_with (first | (refine alloc59 rfl rfl ?_; intro w0 ob hBo hko hlo hgo))
    have HO0 : Hid (CBox ob (S4 zSes (.slice none 0 0)) w0) := hBo
    have HOG : Hid (w.heap.size ≤ ob) := hgo
    have HOB : Hid (ob ≠ b) := fun e => by have := HB.out.lt; omega
    refine (reader_some b c (a :: t) w0 (HB.out.keep hko)).mono ?_
    rintro y w1 ⟨rfl, hR, hb⟩
    have HR1 : Hid (RBox b (a :: t) w1) := hR
    have HT1 : Hid (But b w w1) := (But.of hko).trans hb
    have HO1 : Hid (CBox ob (S4 zSes (.slice none 0 0)) w1) := HO0.out.other hb HOB.out (Nat.le_of_ble_eq_true rfl)
    clear hR hb hBo hko hlo hgo HB HO0
    go_wp2_with fail
    refine (reader_some b a t w1 HR1.out).mono ?_
    rintro y w2 ⟨rfl, hR, hb⟩
    have HR2 : Hid (RBox b t w2) := hR
    have HT2 : Hid (But b w w2) := HT1.out.trans hb
    have HO2 : Hid (CBox ob (S4 zSes (.slice none 0 0)) w2) := HO1.out.other hb HOB.out (Nat.le_of_ble_eq_true rfl)
    clear hR hb HR1 HT1 HO1
    go_wp2_with fail
    by_cases h2 : t.length < 2
    · have hn : R = none := by
        rw [HR.out]
        match t, h2 with
        | [], _ => rfl
        | [_], _ => rfl
      subst hn
      refine (readerW_none b w2 t h2 HR2.out).mono ?_
      rintro y w3 ⟨⟨u, pv, rfl⟩, hb⟩
      exact ⟨rfl, ⟨_, _, rfl⟩, HT2.out.trans hb⟩
    · obtain ⟨h, o, t', rfl⟩ : ∃ h o t', t = h :: o :: t' := by
        match t, h2 with
        | [], h2 => exact absurd (by simp) h2
        | [_], h2 => exact absurd (by simp) h2
        | h :: o :: t', _ => exact ⟨h, o, t', rfl⟩
      have HR0 : Hid (R = (rdList t').map fun p => ((⟨i8 c, i8 a, i8 h * 256 + i8 o, p.1⟩ : Ses), p.2)) := HR.out.trans (rdSes_four c a h o t')
      clear HR
      refine (readerW_some b h o t' w2 HR2.out).mono ?_
      rintro y w3 ⟨rfl, hR, hb⟩
      have HR3 : Hid (RBox b t' w3) := hR
      have HT3 : Hid (But b w w3) := HT2.out.trans hb
      have HO3 : Hid (CBox ob (S4 zSes (.slice none 0 0)) w3) := HO2.out.other hb HOB.out (Nat.le_of_ble_eq_true rfl)
      clear hR hb HR2 HT2 HO2
      go_wp2_with fail
      refine (list_reps b t' w3 HR3.out).mono ?_
      rintro y w4 ⟨hout, hb⟩
      cases hL : rdList t' with
      | none =>
        rw [hL] at hout HR0
        obtain ⟨u, pv, rfl⟩ := hout
        have hn : R = none := HR0.out
        subst hn
        exact ⟨rfl, ⟨_, _, rfl⟩, HT3.out.trans hb⟩
      | some p =>
        obtain ⟨x, r⟩ := p
        rw [hL] at hout HR0
        obtain ⟨ka, kc, hK, rfl, hR4⟩ := hout
        have HR4 : Hid (RBox b r w4) := hR4
        have HT4 : Hid (But b w w4) := HT3.out.trans hb
        have HO4 : Hid (CBox ob (S4 zSes (.slice none 0 0)) w4) := HO3.out.other hb HOB.out (Nat.le_of_ble_eq_true rfl)
        have HK4 : Hid (ROwn w3.heap.size w4 (.slice ka x.length kc) x) := hK
        have HOL : Hid (ob < w3.heap.size) := HO3.out.lt (Nat.le_of_ble_eq_true rfl)
        have hn : R = some (⟨i8 c, i8 a, i8 h * 256 + i8 o, x⟩, r) := HR0.out
        have HZ : Hid (w.heap.size ≤ w3.heap.size) := HT3.out.size
        subst hn
        clear hK hb hR4 HR3 HT3 HO3 HR0 hL
        go_wp2_with (first | (refine store59 rfl rfl ob rfl ⟨i8 c, i8 a, i8 h * 256 + i8 o, x⟩ ka x.length kc rfl HO4.out ?_; intro w5 hS hT))
        refine bodyPost_ret (results1 Try.results82 rfl (read59 hS)) rfl ?_
        exact ⟨⟨ka, kc, (HK4.out.but HOL.out hT).base HZ.out, rfl, HR4.out.other hT (fun e => HOB.out e.symm)⟩, But.far HT4.out HOG.out hT⟩
end Go.Proofs.Yteabfjpajgakiad

/- snap's list of sessions. -/
set_option linter.unusedSimpArgs false
set_option linter.unusedVariables false
set_option maxRecDepth 10000
namespace Go.Proofs.Yteabfjpajgakiad
open Go.RowKit

def rdTabL (l : List UInt8) : Option (List Ses × List UInt8) :=
  match l with
  | [] => none
  | n :: t => rdTab n.toNat t
def TabOut (base b : Nat) (R : Option (List Ses × List UInt8)) (y : Ending) (w' : World) : Prop :=
  match R with
  | some (x, r) => ∃ a c, OwnTab base w' (.slice a x.length c) x ∧ y = .returned (.slice a x.length c) ∧ RBox b r w'
  | none => PanE y
theorem rdTab_zero (l : List UInt8) : rdTab 0 l = some ([], l) := by cases l <;> rfl
theorem rdTab_none {n : Nat} {l : List UInt8} (h : rdSes l = none) : rdTab (n + 1) l = none := by simp only [rdTab, h]
theorem rdTab_some {n : Nat} {l r : List UInt8} {s : Ses} (h : rdSes l = some (s, r)) : rdTab (n + 1) l = (rdTab n r).map fun p => (s :: p.1, p.2) := by simp only [rdTab, h]
theorem OwnTab.len {base : Nat} {w : World} {v : Value} {L : List Ses} (h : OwnTab base w v L) : ∃ a c, v = .slice a L.length c := by
  obtain ⟨ks, _, h2⟩ := h
  obtain ⟨a, c, h, _⟩ := RowAt.len (RowAt.of_owns h2)
  exact ⟨a, c, h⟩
theorem OwnTab.own {base : Nat} {w : World} {v : Value} {L : List Ses} (h : OwnTab base w v L) {k : Nat} (hk : v.ownBlock = some k) : base ≤ k := by
  obtain ⟨ks, _, h2⟩ := h
  exact (h2.lt k hk).1
theorem app_ses {ops : Array Oper} {rest : List Oper} {o : Oper} {a : Act} {Q : Exit → Act → World → Prop} {base : Nat} {w : World} (hb : base ≤ w.heap.size) (hg : o.guard = none) (s x : Operand) (hop : o.op = .call { callee := .builtin .append, args := #[s, x], argTypes := #[23, 23] })
    (v : Value) (L : List Ses) (hs : a.eval s = v) (hown : OwnTab base w v L) (t : Ses) (kv xv : Value) (hx : a.eval x = xv) (hK : ROwn base w kv t.kept) (hX : RowAt w 4 xv [t].length (sesCells [t] [kv])) (hlen : L.length ≤ 1000)
    (h : ∀ v' w', OwnTab base w' v' (L ++ [t]) → w.grownBy w' v.ownBlock → wpList Try.prog ops Q rest (a.put o.dst v') w') : wpList Try.prog ops Q (o :: rest) a w := by
  obtain ⟨ks, h1, h2⟩ := hown
  have hM : KeptsOwn base w [t] [kv] := ⟨hK, trivial⟩
  obtain ⟨v', w', hr, ho, hgr⟩ := run_append_read w base 23 o.type 59 4 48 _ infoSes Try.underlying23 rfl (by decide) v L.length _ h2 xv [t].length _ hX (sesCells_one [t] [kv] hM.at.one) (by unfold maxLen; simp; omega) (by simp; omega) hb
  refine wpList_append_run hg s x 23 hop hs hx hr (h v' w' ⟨ks ++ [kv], (h1.kept h2 hgr).append (hM.kept h2 hgr), ?_⟩ hgr)
  rw [sesCells_append _ _ _ _ h1.len, List.length_append]
  exact ho

set_option maxHeartbeats 4000000 in
theorem list_tab (b : Nat) (l : List UInt8) (w : World) (hB : RBox b l w) : Calls Try.prog 81 #[.pointer (some ⟨b, 0, none⟩), .func (.func 82) #[] #[]] w fun y w' => TabOut w.heap.size b (rdTabL l) y w' ∧ But b w w' := by
  have HB : Hid (RBox b l w) := hB
  have hbl := hB.lt
  clear hB
  match l, HB with
  | [], HB =>
    go_enter Try.func81, Try.ntmps81
    go_wp2_with fail
    refine (reader_none b w HB.out).mono ?_
    rintro y w1 ⟨⟨u, pv, rfl⟩, _, hb⟩
    exact ⟨rfl, ⟨_, _, rfl⟩, hb⟩
  | c :: t, HB =>
    have HR : Hid (rdTabL (c :: t) = rdTab c.toNat t) := rfl
    have HC : Hid (i8 c = (c.toNat : Int)) := rfl
    generalize rdTabL (c :: t) = R at *
    go_enter Try.func81, Try.ntmps81
    go_wp2_with fail
    refine (reader_some b c t w HB.out).mono ?_
    rintro y w1 ⟨rfl, hR1, hb⟩
    rw [HC.out]
    have hn256 : c.toNat < 256 := UInt8.toNat_lt c
    clear HC
    generalize c.toNat = n at *
    have HR1 : Hid (RBox b t w1) := hR1
    have HT1 : Hid (Writes b w.heap.size w w1) := Writes.of hb (Nat.le_refl _)
    clear hR1 hb HB
    go_wp2_with fail
    go_loopw [5, 8] (fun o i wr => ∃ (k : Nat) (xs : List Ses) (t' : List UInt8) (oa : Option Addr) (oc : Nat), k ≤ n ∧ o = .slice oa xs.length oc ∧ Hid (xs.length = k) ∧ i = .int .i64 k ∧ Hid (OwnTab w.heap.size wr o xs) ∧ Hid (RBox b t' wr) ∧ Hid (R = (rdTab (n - k) t').map fun p => (xs ++ p.1, p.2)) ∧ Hid (Writes b w.heap.size w wr)) (fun _ i _ => n - (intOf i).toNat)
    case atStart => exact ⟨0, [], t, none, 0, Nat.zero_le _, rfl, rfl, rfl, OwnTab.nil _ _, HR1, by show _ = _; rw [HR.out]; simp, HT1⟩
    case round =>
      obtain ⟨k, xs, t', oa, oc, hk, rfl, HXL, rfl, HO, HRB, HEQ, HT⟩ := hrel
      by_cases hlt : k < n
      · have HN : Hid (n - k = (n - (k + 1)) + 1) := by show _ = _; omega
        go_wp2_with fail
        refine (read_session b wr t' HRB.out).mono ?_
        rintro y w2 ⟨hout, hb⟩
        cases hS : rdSes t' with
        | none =>
          rw [hS] at hout
          obtain ⟨u, pv, rfl⟩ := hout
          have hnone : R = none := by rw [HEQ.out, HN.out, rdTab_none hS]; rfl
          subst hnone
          exact ⟨rfl, ⟨_, _, rfl⟩, (HT.out.trans (Writes.of hb HT.out.size)).but⟩
        | some p =>
          obtain ⟨s, r⟩ := p
          rw [hS] at hout
          obtain ⟨ka, kc, hK, rfl, hR2⟩ := hout
          have HEQ2 : Hid (R = (rdTab (n - (k + 1)) r).map fun p => ((xs ++ [s]) ++ p.1, p.2)) := by
            show _ = _
            rw [HEQ.out, HN.out, rdTab_some hS, Option.map_map]
            congr 1
            funext p
            simp
          have HR2 : Hid (RBox b r w2) := hR2
          have HT2 : Hid (Writes b w.heap.size w w2) := HT.out.trans (Writes.of hb HT.out.size)
          have HO2 : Hid (OwnTab w.heap.size w2 (.slice oa xs.length oc) xs) := HO.out.but hbl hb
          have HK2 : Hid (ROwn w.heap.size w2 (.slice ka s.kept.length kc) s.kept) := hK.base HT.out.size
          clear hR2 hb hK HT HO HRB HEQ hS
          go_wp2_with (first | (refine app_ses (base := w.heap.size) (Nat.le_trans HT2.out.size (by simp)) rfl _ _ rfl (.slice oa xs.length oc) xs rfl (HO2.out.keep ((Keeps.refl _).alloc _)) s (.slice ka s.kept.length kc) _ rfl (owns_keep HK2.out ((Keeps.refl _).alloc _)) (row_one w2 s (.slice ka s.kept.length kc)) (by have := HXL.out; omega) ?_; intro v3 w3 hO3 hg3))
          obtain ⟨oa3, oc3, hv3⟩ := hO3.len
          have HR3 : Hid (RBox b r w3) := (HR2.out.keep ((Keeps.refl _).alloc _)).grown hg3 hbl (fun k e => HO2.out.own e)
          have HT3 : Hid (Writes b w.heap.size w w3) := (HT2.out.trans (Writes.of (But.of ((Keeps.refl _).alloc _)) HT2.out.size)).trans (Writes.grown hg3 (Nat.le_trans HT2.out.size (by simp)) (fun k e => HO2.out.own e))
          go_roundw
          case rel => exact ⟨k + 1, xs ++ [s], r, oa3, oc3, by omega, hv3, by show _ = _; rw [List.length_append, HXL.out]; rfl, by go_num, hO3, HR3, HEQ2, HT3⟩
          case measure => simp [intOf]; omega
      · have hsome : R = some (xs, t') := by
          have : n - k = 0 := by omega
          rw [HEQ.out, this, rdTab_zero]
          simp
        subst hsome
        go_wp2_with fail
        go_ret
        exact ⟨⟨oa, oc, HO.out, rfl, HRB.out⟩, HT.out.but⟩
end Go.Proofs.Yteabfjpajgakiad

/- snap.readState. -/
set_option linter.unusedSimpArgs false
set_option linter.unusedVariables false
set_option maxRecDepth 10000
namespace Go.Proofs.Yteabfjpajgakiad
open Go.RowKit

def C7 (s : St) (p : Value) : List Value := [.int .i64 s.at_, .int .i64 s.clock, .int .i64 s.v0, .int .i64 s.v1, .int .i64 s.v2, .int .i64 s.v3, p]
def z7 : St := ⟨0, 0, 0, 0, 0, 0, []⟩
theorem zero25 : (Try.prog.info? 25).map (·.zero) = some (some (.agg (C7 z7 (.slice none 0 0)).toArray)) := by kernel_rfl
theorem size25 : (Try.prog.info? 25).map (·.size) = some 7 := by kernel_rfl
theorem row25 : ∃ d, Try.prog.underlying 25 = some d ∧ d.isRow = true := ⟨_, Try.underlying25, rfl⟩
section
variable {ops : Array Oper} {rest : List Oper} {op : Oper} {a : Act} {w : World} {Q : Exit → Act → World → Prop}
theorem alloc25 (hgd : op.guard = none) (ho : op.op = .alloc 25)
    (h : ∀ (w' : World) (b : Nat), CBox b (C7 z7 (.slice none 0 0)) w' → Keeps w w' → b < w'.heap.size → w.heap.size ≤ b → wpList Try.prog ops Q rest (a.put op.dst (.pointer (some ⟨b, 0, none⟩))) w') : wpList Try.prog ops Q (op :: rest) a w := wpList_alloc_new hgd _ ho _ _ zero25 rfl h
theorem store25 (hgd : op.guard = none) {x y : Operand} (ho : op.op = .store 25 x y) (b : Nat) (hx : a.eval x = .pointer (some ⟨b, 0, none⟩)) {t : St} {k : Value} (s : St) (ka : Option Addr) (kn kc : Nat) (hy : a.eval y = stV s (.slice ka kn kc)) (hB : CBox b (C7 t k) w)
    (h : ∀ w', CBox b (C7 s (.slice ka kn kc)) w' → But b w w' → wpList Try.prog ops Q rest (a.put op.dst undef) w') : wpList Try.prog ops Q (op :: rest) a w :=
  wpList_store_box hgd _ x y ho b 0 (C7 s (.slice ka kn kc)) hx hy hB _ rfl (Nat.le_of_ble_eq_true rfl) (info_size size25 rfl) (by kernel_rfl) h
theorem load25 (hgd : op.guard = none) {x : Operand} (ho : op.op = .load 25 x) (b : Nat) (hx : a.eval x = .pointer (some ⟨b, 0, none⟩)) {s : St} {p : Value} (hB : CBox b (C7 s p) w)
    (h : wpList Try.prog ops Q rest (a.put op.dst (stV s p)) w) : wpList Try.prog ops Q (op :: rest) a w := by
  obtain ⟨d, h1, h2⟩ := row25
  exact wpList_load_box hgd _ x ho b 0 hx hB 7 (C7 s p) rfl d h1 h2 (info_size size25 rfl) h
theorem load25w (hw : Region.wanted op (yielded ops a.tmps) = true) {x : Operand} (ho : op.op = .load 25 x) (b : Nat) (hx : a.eval x = .pointer (some ⟨b, 0, none⟩)) {s : St} {p : Value} (hB : CBox b (C7 s p) w)
    (h : wpList Try.prog ops Q rest (a.put op.dst (stV s p)) w) : wpList Try.prog ops Q (op :: rest) a w := by
  obtain ⟨d, h1, h2⟩ := row25
  refine wpList_step fun K hK => ?_
  rw [if_pos hw]
  exact wp_load_mid _ x ho b 0 hx _ d (range_of hB 0 7 (ds := C7 s p) rfl) h1 h2 (info_size size25 rfl) (hK _ _ h)
theorem store_sl (hgd : op.guard = none) {x y : Operand} (ho : op.op = .store 23 x y) (b i : Nat) (hx : a.eval x = .pointer (some ⟨b, i, none⟩)) {ka : Option Addr} {kn kc : Nat} (hy : a.eval y = .slice ka kn kc) {cs : List Value} (es : List Value) (hB : CBox b cs w) (hi : i < cs.length) (hes : cs.set i (.slice ka kn kc) = es)
    (h : ∀ w', CBox b es w' → But b w w' → wpList Try.prog ops Q rest (a.put op.dst undef) w') : wpList Try.prog ops Q (op :: rest) a w := by
  subst hes
  refine wpList_plain hgd fun K hK => ?_
  have hc := hB.1 i _ (List.getElem?_eq_getElem hi)
  have hz := hB.2 i
  have hn := h _ (hB.one i (.slice ka kn kc)) ((But.refl _ _).set i _)
  have e0 : (Instr.storeAt 23 (.pointer (some ⟨b, i, none⟩)) (.slice ka kn kc)).run Try.prog w = .ok () (w.setCell ⟨b, i, none⟩ (.slice ka kn kc)) := by simp [go_sem, hc, hz]
  have e1 : (execOp a.eval op).run Try.prog w = .ok .skip (w.setCell ⟨b, i, none⟩ (.slice ka kn kc)) := by
    simp only [execOp, ho, hx, hy, Sem.run_bind, e0, Result.andThen_ok, Sem.run_pure]
  unfold Oper.wp
  rw [e1]
  exact hK _ _ hn
end
theorem read25 {w : World} {b : Nat} {s : St} {k : Value} (hB : CBox b (C7 s k) w) : (loadVar 25 ⟨b, 0, none⟩).run Try.prog w = .ok (stV s k) w := by
  obtain ⟨d, h1, h2⟩ := row25
  exact read_box hB _ d h1 h2 (info_size size25 rfl)
def StOut (base b : Nat) (R : Option (St × List UInt8)) (y : Ending) (w' : World) : Prop :=
  match R with
  | some (s, r) => ∃ a c, OwnTab base w' (.slice a s.tab.length c) s.tab ∧ y = .returned (stV s (.slice a s.tab.length c)) ∧ RBox b r w'
  | none => PanE y
theorem rdSt_eleven (a c1 c0 h0 o0 h1 o1 h2 o2 h3 o3 : UInt8) (t : List UInt8) : rdSt (a :: c1 :: c0 :: h0 :: o0 :: h1 :: o1 :: h2 :: o2 :: h3 :: o3 :: t) = (rdTabL t).map fun p => (⟨i8 a, i8 c1 * 256 + i8 c0, i8 h0 * 256 + i8 o0, i8 h1 * 256 + i8 o1, i8 h2 * 256 + i8 o2, i8 h3 * 256 + i8 o3, p.1⟩, p.2) := by cases t <;> rfl
theorem rdSt_short : ∀ {l : List UInt8}, l.length < 11 → rdSt l = none
  | [], _ => rfl
  | [_], _ => rfl
  | [_, _], _ => rfl
  | [_, _, _], _ => rfl
  | [_, _, _, _], _ => rfl
  | [_, _, _, _, _], _ => rfl
  | [_, _, _, _, _, _], _ => rfl
  | [_, _, _, _, _, _, _], _ => rfl
  | [_, _, _, _, _, _, _, _], _ => rfl
  | [_, _, _, _, _, _, _, _, _], _ => rfl
  | [_, _, _, _, _, _, _, _, _, _], _ => rfl
  | _ :: _ :: _ :: _ :: _ :: _ :: _ :: _ :: _ :: _ :: _ :: _, h => absurd h (by simp)

set_option maxHeartbeats 8000000 in
theorem read_state (b : Nat) (l : List UInt8) (w : World) (hB : RBox b l w) : Calls Try.prog 63 #[.pointer (some ⟨b, 0, none⟩)] w fun y w' => StOut w.heap.size b (rdSt l) y w' ∧ But b w w' := by
  obtain ⟨R, HR⟩ : ∃ R, Hid (R = rdSt l) := ⟨_, rfl⟩
  rw [← HR.out]
  have HSH : Hid (l.length < 11 → R = none) := fun h => HR.out.trans (rdSt_short h)
  have HB : Hid (RBox b l w) := hB
  clear hB
  go_enter Try.func63, Try.ntmps63
  go_wp2_with (first | (refine alloc25 rfl rfl ?_; intro w0 ob hBo hko hlo hgo))
  have HR0 : Hid (RBox b l w0) := HB.out.keep hko
  have HO0 : Hid (CBox ob (C7 z7 (.slice none 0 0)) w0) := hBo
  have HT0 : Hid (But b w w0) := But.of hko
  have HOG : Hid (w.heap.size ≤ ob) := hgo
  have HOB : Hid (ob ≠ b) := fun e => by have := HB.out.lt; omega
  clear hBo hko hlo hgo HB
  match l, HR0, HR, HSH with
  | [], HR0, HR, HSH =>
    have hn := HSH.out (by simp)
    subst hn
    refine (reader_none b w0 HR0.out).mono ?_
    rintro y v ⟨⟨u, pv, rfl⟩, _, hb⟩
    exact ⟨rfl, ⟨_, _, rfl⟩, HT0.out.trans hb⟩
  | a :: t0, HR0, HR, HSH =>
    have a0 := i8_lo a
    have a1 := i8_hi a
    refine (reader_some b a t0 w0 HR0.out).mono ?_
    rintro y w1 ⟨rfl, hR, hb⟩
    have HR1 : Hid (RBox b t0 w1) := hR
    have HO1 : Hid (CBox ob (C7 z7 (.slice none 0 0)) w1) := HO0.out.other hb HOB.out (Nat.le_of_ble_eq_true rfl)
    have HT1 : Hid (But b w w1) := HT0.out.trans hb
    clear hR hb HR0 HO0 HT0
    go_wp2_with fail
    by_cases h2 : t0.length < 2
    · have hn := HSH.out (by simp; omega)
      subst hn
      refine (readerW_none b w1 t0 h2 HR1.out).mono ?_
      rintro y v ⟨⟨u, pv, rfl⟩, hb⟩
      exact ⟨rfl, ⟨_, _, rfl⟩, HT1.out.trans hb⟩
    · obtain ⟨c1, c0, t, rfl⟩ : ∃ c1 c0 t, t0 = c1 :: c0 :: t := by
        match t0, h2 with
        | [], h2 => exact absurd (by simp) h2
        | [_], h2 => exact absurd (by simp) h2
        | h :: o :: t', _ => exact ⟨h, o, t', rfl⟩
      clear h2
      refine (readerW_some b c1 c0 t w1 HR1.out).mono ?_
      rintro y w2 ⟨rfl, hR, hb⟩
      have HR2 : Hid (RBox b t w2) := hR
      have HO2 : Hid (CBox ob (C7 z7 (.slice none 0 0)) w2) := HO1.out.other hb HOB.out (Nat.le_of_ble_eq_true rfl)
      have HT2 : Hid (But b w w2) := HT1.out.trans hb
      clear hR hb HR1 HO1 HT1
      go_wp2_with (first | (refine alloc25 rfl rfl ?_; intro va sb hBs hks hls hgs) | (refine store25 rfl rfl sb rfl ⟨i8 a, i8 c1 * 256 + i8 c0, 0, 0, 0, 0, []⟩ none 0 0 rfl hBs ?_; intro w3 hSs hTs))
      have k23 : Keeps w2 w3 := But.to hks hgs hTs
      have HR3 : Hid (RBox b t w3) := HR2.out.keep k23
      have HO3 : Hid (CBox ob (C7 z7 (.slice none 0 0)) w3) := HO2.out.keep k23 (Nat.le_of_ble_eq_true rfl)
      have HT3 : Hid (But b w w3) := HT2.out.trans (But.of k23)
      have HS3 : Hid (CBox sb (C7 ⟨i8 a, i8 c1 * 256 + i8 c0, 0, 0, 0, 0, []⟩ (.slice none 0 0)) w3) := hSs
      have HSG : Hid (w.heap.size ≤ sb) := Nat.le_trans HT2.out.size hgs
      have HSB : Hid (sb ≠ b) := fun e => by have := HR2.out.lt; omega
      have HSO : Hid (ob ≠ sb) := fun e => by have := HO2.out.lt (Nat.le_of_ble_eq_true rfl); omega
      clear k23 hBs hks hls hgs hSs hTs HR2 HO2 HT2
      go_loopw [10] (fun i wr => Hid (CBox ob (C7 z7 (.slice none 0 0)) wr ∧ But b w wr) ∧ ((∃ u, i = .int .i64 0 ∧ Hid (t = u) ∧ Hid (RBox b u wr) ∧ Hid (CBox sb (C7 ⟨i8 a, i8 c1 * 256 + i8 c0, 0, 0, 0, 0, []⟩ (.slice none 0 0)) wr)) ∨ (∃ (h0 o0 : UInt8), ∃ u, i = .int .i64 1 ∧ Hid (t = h0 :: o0 :: u) ∧ Hid (RBox b u wr) ∧ Hid (CBox sb (C7 ⟨i8 a, i8 c1 * 256 + i8 c0, i8 h0 * 256 + i8 o0, 0, 0, 0, []⟩ (.slice none 0 0)) wr)) ∨ (∃ (h0 o0 : UInt8), ∃ (h1 o1 : UInt8), ∃ u, i = .int .i64 2 ∧ Hid (t = h0 :: o0 :: h1 :: o1 :: u) ∧ Hid (RBox b u wr) ∧ Hid (CBox sb (C7 ⟨i8 a, i8 c1 * 256 + i8 c0, i8 h0 * 256 + i8 o0, i8 h1 * 256 + i8 o1, 0, 0, []⟩ (.slice none 0 0)) wr)) ∨ (∃ (h0 o0 : UInt8), ∃ (h1 o1 : UInt8), ∃ (h2 o2 : UInt8), ∃ u, i = .int .i64 3 ∧ Hid (t = h0 :: o0 :: h1 :: o1 :: h2 :: o2 :: u) ∧ Hid (RBox b u wr) ∧ Hid (CBox sb (C7 ⟨i8 a, i8 c1 * 256 + i8 c0, i8 h0 * 256 + i8 o0, i8 h1 * 256 + i8 o1, i8 h2 * 256 + i8 o2, 0, []⟩ (.slice none 0 0)) wr)) ∨ (∃ (h0 o0 : UInt8), ∃ (h1 o1 : UInt8), ∃ (h2 o2 : UInt8), ∃ (h3 o3 : UInt8), ∃ u, i = .int .i64 4 ∧ Hid (t = h0 :: o0 :: h1 :: o1 :: h2 :: o2 :: h3 :: o3 :: u) ∧ Hid (RBox b u wr) ∧ Hid (CBox sb (C7 ⟨i8 a, i8 c1 * 256 + i8 c0, i8 h0 * 256 + i8 o0, i8 h1 * 256 + i8 o1, i8 h2 * 256 + i8 o2, i8 h3 * 256 + i8 o3, []⟩ (.slice none 0 0)) wr)))) (fun i _ => 4 - (intOf i).toNat)
      case atStart => exact ⟨⟨HO3.out, HT3.out⟩, Or.inl ⟨t, rfl, rfl, HR3, HS3⟩⟩
      case round =>
        obtain ⟨HW, hrel⟩ := hrel
        rcases hrel with ⟨u, rfl, HTE, HRB, HS⟩ | ⟨h0, o0, u, rfl, HTE, HRB, HS⟩ | ⟨h0, o0, h1, o1, u, rfl, HTE, HRB, HS⟩ | ⟨h0, o0, h1, o1, h2, o2, u, rfl, HTE, HRB, HS⟩ | ⟨h0, o0, h1, o1, h2, o2, h3, o3, u, rfl, HTE, HRB, HS⟩
        · go_wp2_with fail
          by_cases h2 : u.length < 2
          · have hn := HSH.out (by rw [HTE.out]; simp; omega)
            subst hn
            refine (readerW_none b wr u h2 HRB.out).mono ?_
            rintro y v ⟨⟨uu, pv, rfl⟩, hb⟩
            exact ⟨rfl, ⟨_, _, rfl⟩, HW.out.2.trans hb⟩
          · obtain ⟨h0, o0, u2, rfl⟩ : ∃ h o t, u = h :: o :: t := by
              match u, h2 with
              | [], h2 => exact absurd (by simp) h2
              | [_], h2 => exact absurd (by simp) h2
              | h :: o :: t', _ => exact ⟨h, o, t', rfl⟩
            clear h2
            refine (readerW_some b h0 o0 u2 wr HRB.out).mono ?_
            rintro y v ⟨rfl, hR, hb⟩
            have HR4 : Hid (RBox b u2 v) := hR
            have HO4 : Hid (CBox ob (C7 z7 (.slice none 0 0)) v) := HW.out.1.other hb HOB.out (Nat.le_of_ble_eq_true rfl)
            have HT4 : Hid (But b w v) := HW.out.2.trans hb
            have HS4 : Hid (CBox sb (C7 ⟨i8 a, i8 c1 * 256 + i8 c0, 0, 0, 0, 0, []⟩ (.slice none 0 0)) v) := HS.out.other hb HSB.out (Nat.le_of_ble_eq_true rfl)
            clear hR hb HRB HS HW
            go_wp2_with (first | (refine store_one rfl rfl sb 2 rfl rfl (C7 ⟨i8 a, i8 c1 * 256 + i8 c0, i8 h0 * 256 + i8 o0, 0, 0, 0, []⟩ (.slice none 0 0)) HS4.out (Nat.le_of_ble_eq_true rfl) rfl ?_; intro v5 hS5 hT5))
            go_roundw
            case rel => exact ⟨⟨HO4.out.other hT5 HSO.out (Nat.le_of_ble_eq_true rfl), But.far HT4.out HSG.out hT5⟩, Or.inr (Or.inl ⟨h0, o0, u2, by go_num, HTE, HR4.out.other hT5 (fun e => HSB.out e.symm), hS5⟩)⟩
            case measure => simp [intOf]
        · go_wp2_with fail
          by_cases h2 : u.length < 2
          · have hn := HSH.out (by rw [HTE.out]; simp; omega)
            subst hn
            refine (readerW_none b wr u h2 HRB.out).mono ?_
            rintro y v ⟨⟨uu, pv, rfl⟩, hb⟩
            exact ⟨rfl, ⟨_, _, rfl⟩, HW.out.2.trans hb⟩
          · obtain ⟨h1, o1, u2, rfl⟩ : ∃ h o t, u = h :: o :: t := by
              match u, h2 with
              | [], h2 => exact absurd (by simp) h2
              | [_], h2 => exact absurd (by simp) h2
              | h :: o :: t', _ => exact ⟨h, o, t', rfl⟩
            clear h2
            refine (readerW_some b h1 o1 u2 wr HRB.out).mono ?_
            rintro y v ⟨rfl, hR, hb⟩
            have HR4 : Hid (RBox b u2 v) := hR
            have HO4 : Hid (CBox ob (C7 z7 (.slice none 0 0)) v) := HW.out.1.other hb HOB.out (Nat.le_of_ble_eq_true rfl)
            have HT4 : Hid (But b w v) := HW.out.2.trans hb
            have HS4 : Hid (CBox sb (C7 ⟨i8 a, i8 c1 * 256 + i8 c0, i8 h0 * 256 + i8 o0, 0, 0, 0, []⟩ (.slice none 0 0)) v) := HS.out.other hb HSB.out (Nat.le_of_ble_eq_true rfl)
            clear hR hb HRB HS HW
            go_wp2_with (first | (refine store_one rfl rfl sb 3 rfl rfl (C7 ⟨i8 a, i8 c1 * 256 + i8 c0, i8 h0 * 256 + i8 o0, i8 h1 * 256 + i8 o1, 0, 0, []⟩ (.slice none 0 0)) HS4.out (Nat.le_of_ble_eq_true rfl) rfl ?_; intro v5 hS5 hT5))
            go_roundw
            case rel => exact ⟨⟨HO4.out.other hT5 HSO.out (Nat.le_of_ble_eq_true rfl), But.far HT4.out HSG.out hT5⟩, Or.inr (Or.inr (Or.inl ⟨h0, o0, h1, o1, u2, by go_num, HTE, HR4.out.other hT5 (fun e => HSB.out e.symm), hS5⟩))⟩
            case measure => simp [intOf]
        · go_wp2_with fail
          by_cases h2 : u.length < 2
          · have hn := HSH.out (by rw [HTE.out]; simp; omega)
            subst hn
            refine (readerW_none b wr u h2 HRB.out).mono ?_
            rintro y v ⟨⟨uu, pv, rfl⟩, hb⟩
            exact ⟨rfl, ⟨_, _, rfl⟩, HW.out.2.trans hb⟩
          · obtain ⟨h2, o2, u2, rfl⟩ : ∃ h o t, u = h :: o :: t := by
              match u, h2 with
              | [], h2 => exact absurd (by simp) h2
              | [_], h2 => exact absurd (by simp) h2
              | h :: o :: t', _ => exact ⟨h, o, t', rfl⟩
            clear h2
            refine (readerW_some b h2 o2 u2 wr HRB.out).mono ?_
            rintro y v ⟨rfl, hR, hb⟩
            have HR4 : Hid (RBox b u2 v) := hR
            have HO4 : Hid (CBox ob (C7 z7 (.slice none 0 0)) v) := HW.out.1.other hb HOB.out (Nat.le_of_ble_eq_true rfl)
            have HT4 : Hid (But b w v) := HW.out.2.trans hb
            have HS4 : Hid (CBox sb (C7 ⟨i8 a, i8 c1 * 256 + i8 c0, i8 h0 * 256 + i8 o0, i8 h1 * 256 + i8 o1, 0, 0, []⟩ (.slice none 0 0)) v) := HS.out.other hb HSB.out (Nat.le_of_ble_eq_true rfl)
            clear hR hb HRB HS HW
            go_wp2_with (first | (refine store_one rfl rfl sb 4 rfl rfl (C7 ⟨i8 a, i8 c1 * 256 + i8 c0, i8 h0 * 256 + i8 o0, i8 h1 * 256 + i8 o1, i8 h2 * 256 + i8 o2, 0, []⟩ (.slice none 0 0)) HS4.out (Nat.le_of_ble_eq_true rfl) rfl ?_; intro v5 hS5 hT5))
            go_roundw
            case rel => exact ⟨⟨HO4.out.other hT5 HSO.out (Nat.le_of_ble_eq_true rfl), But.far HT4.out HSG.out hT5⟩, Or.inr (Or.inr (Or.inr (Or.inl ⟨h0, o0, h1, o1, h2, o2, u2, by go_num, HTE, HR4.out.other hT5 (fun e => HSB.out e.symm), hS5⟩)))⟩
            case measure => simp [intOf]
        · go_wp2_with fail
          by_cases h2 : u.length < 2
          · have hn := HSH.out (by rw [HTE.out]; simp; omega)
            subst hn
            refine (readerW_none b wr u h2 HRB.out).mono ?_
            rintro y v ⟨⟨uu, pv, rfl⟩, hb⟩
            exact ⟨rfl, ⟨_, _, rfl⟩, HW.out.2.trans hb⟩
          · obtain ⟨h3, o3, u2, rfl⟩ : ∃ h o t, u = h :: o :: t := by
              match u, h2 with
              | [], h2 => exact absurd (by simp) h2
              | [_], h2 => exact absurd (by simp) h2
              | h :: o :: t', _ => exact ⟨h, o, t', rfl⟩
            clear h2
            refine (readerW_some b h3 o3 u2 wr HRB.out).mono ?_
            rintro y v ⟨rfl, hR, hb⟩
            have HR4 : Hid (RBox b u2 v) := hR
            have HO4 : Hid (CBox ob (C7 z7 (.slice none 0 0)) v) := HW.out.1.other hb HOB.out (Nat.le_of_ble_eq_true rfl)
            have HT4 : Hid (But b w v) := HW.out.2.trans hb
            have HS4 : Hid (CBox sb (C7 ⟨i8 a, i8 c1 * 256 + i8 c0, i8 h0 * 256 + i8 o0, i8 h1 * 256 + i8 o1, i8 h2 * 256 + i8 o2, 0, []⟩ (.slice none 0 0)) v) := HS.out.other hb HSB.out (Nat.le_of_ble_eq_true rfl)
            clear hR hb HRB HS HW
            go_wp2_with (first | (refine store_one rfl rfl sb 5 rfl rfl (C7 ⟨i8 a, i8 c1 * 256 + i8 c0, i8 h0 * 256 + i8 o0, i8 h1 * 256 + i8 o1, i8 h2 * 256 + i8 o2, i8 h3 * 256 + i8 o3, []⟩ (.slice none 0 0)) HS4.out (Nat.le_of_ble_eq_true rfl) rfl ?_; intro v5 hS5 hT5))
            go_roundw
            case rel => exact ⟨⟨HO4.out.other hT5 HSO.out (Nat.le_of_ble_eq_true rfl), But.far HT4.out HSG.out hT5⟩, Or.inr (Or.inr (Or.inr (Or.inr (⟨h0, o0, h1, o1, h2, o2, h3, o3, u2, by go_num, HTE, HR4.out.other hT5 (fun e => HSB.out e.symm), hS5⟩))))⟩
            case measure => simp [intOf]
        · have HR5 : Hid (R = (rdTabL u).map fun p => ((⟨i8 a, i8 c1 * 256 + i8 c0, i8 h0 * 256 + i8 o0, i8 h1 * 256 + i8 o1, i8 h2 * 256 + i8 o2, i8 h3 * 256 + i8 o3, p.1⟩ : St), p.2)) := by
            show _ = _
            rw [HR.out, HTE.out]
            exact rdSt_eleven a c1 c0 h0 o0 h1 o1 h2 o2 h3 o3 u
          clear HR HTE HSH
          go_wp2_with fail
          refine (list_tab b u wr HRB.out).mono ?_
          rintro y v ⟨hout, hb⟩
          have HT6 : Hid (But b w v) := HW.out.2.trans hb
          have HO6 : Hid (CBox ob (C7 z7 (.slice none 0 0)) v) := HW.out.1.other hb HOB.out (Nat.le_of_ble_eq_true rfl)
          have HS6 : Hid (CBox sb (C7 ⟨i8 a, i8 c1 * 256 + i8 c0, i8 h0 * 256 + i8 o0, i8 h1 * 256 + i8 o1, i8 h2 * 256 + i8 o2, i8 h3 * 256 + i8 o3, []⟩ (.slice none 0 0)) v) := HS.out.other hb HSB.out (Nat.le_of_ble_eq_true rfl)
          have HSL : Hid (sb < wr.heap.size ∧ ob < wr.heap.size ∧ w.heap.size ≤ wr.heap.size) := ⟨HS.out.lt (Nat.le_of_ble_eq_true rfl), HW.out.1.lt (Nat.le_of_ble_eq_true rfl), HW.out.2.size⟩
          cases hL : rdTabL u with
          | none =>
            rw [hL] at hout HR5
            obtain ⟨uu, pv, rfl⟩ := hout
            have hn : R = none := HR5.out
            subst hn
            exact ⟨rfl, ⟨_, _, rfl⟩, HT6.out⟩
          | some p =>
            obtain ⟨x, r⟩ := p
            rw [hL] at hout HR5
            obtain ⟨ka, kc, hK, rfl, hR6⟩ := hout
            have hn : R = some (⟨i8 a, i8 c1 * 256 + i8 c0, i8 h0 * 256 + i8 o0, i8 h1 * 256 + i8 o1, i8 h2 * 256 + i8 o2, i8 h3 * 256 + i8 o3, x⟩, r) := HR5.out
            subst hn
            have HK6 : Hid (OwnTab wr.heap.size v (.slice ka x.length kc) x) := hK
            have HR6 : Hid (RBox b r v) := hR6
            clear hK hR6 hb HW HS HRB hL HR5
            go_wp2_with (first | (refine store_sl rfl rfl sb 6 rfl rfl (C7 ⟨i8 a, i8 c1 * 256 + i8 c0, i8 h0 * 256 + i8 o0, i8 h1 * 256 + i8 o1, i8 h2 * 256 + i8 o2, i8 h3 * 256 + i8 o3, x⟩ (.slice ka x.length kc)) HS6.out (Nat.le_of_ble_eq_true rfl) rfl ?_; intro v7 hS7 hT7) | (refine load25 rfl rfl sb rfl hS7 ?_) | (refine store25 rfl rfl ob rfl ⟨i8 a, i8 c1 * 256 + i8 c0, i8 h0 * 256 + i8 o0, i8 h1 * 256 + i8 o1, i8 h2 * 256 + i8 o2, i8 h3 * 256 + i8 o3, x⟩ ka x.length kc rfl (HO6.out.other hT7 HSO.out (Nat.le_of_ble_eq_true rfl)) ?_; intro v8 hS8 hT8))
            refine bodyPost_ret (results1 Try.results63 rfl (read25 hS8)) rfl ?_
            exact ⟨⟨ka, kc, ((HK6.out.but HSL.out.1 hT7).but HSL.out.2.1 hT8).base HSL.out.2.2, rfl, (HR6.out.other hT7 (fun e => HSB.out e.symm)).other hT8 (fun e => HOB.out e.symm)⟩, But.far (But.far HT6.out HSG.out hT7) HOG.out hT8⟩
end Go.Proofs.Yteabfjpajgakiad

/- octet.Read, of a state. -/
set_option linter.unusedSimpArgs false
set_option linter.unusedVariables false
set_option maxRecDepth 10000
namespace Go.Proofs.Yteabfjpajgakiad
open Go.RowKit

/-- What Read defers, where the one that reads has panicked. -/
theorem catch_panicking (p : Addr) (v0 : Value) (u : TypeId) (pv : Value) (older : List PanicEntry) (w : World) (hc : w.cell? p = some v0) (hz : w.frozen? p = false) :
    CallsD Try.prog 78 #[.pointer (some p)] (.panicking ({ v := .iface u pv, recovered := false } :: older)) w fun e u' w' =>
      e = .returned (.tuple #[]) ∧ u' = .panicking ({ v := .iface u pv, recovered := true } :: older) ∧ w' = w.setCell p (.bool false) := by
  refine callsD_of_wpS Try.func78 rfl fun c₀ cs hu => ?_
  apply wpS_seq
  apply wpS_region
  simp [wpOpsS, go_sem, recoverD, hu, Try.ntmps78, Exit.thenS]
  refine wpS_cond (t := true) (by simp [Act.eval, Array.replicate]) ?_
  simp only [if_true]
  apply wpS_region
  simp [wpOpsS, go_sem, hc, hz, bodyPostS, results, Try.results78]

theorem catch_idle (p : Addr) (w : World) :
    CallsD Try.prog 78 #[.pointer (some p)] .returning w fun e u' w' => e = .returned (.tuple #[]) ∧ u' = .returning ∧ w' = w := by
  refine callsD_of_wpS Try.func78 rfl fun c₀ cs hu => ?_
  apply wpS_seq
  apply wpS_region
  simp [wpOpsS, go_sem, recoverD, hu, Try.ntmps78, Exit.thenS]
  refine wpS_cond (t := false) (by simp [Act.eval, Array.replicate]) ?_
  simp only [Bool.false_eq_true, if_false]
  refine wpS_of_wp (wp_skip ?_)
  cases c₀
  simp_all [bodyPostS, results, Try.results78]

theorem h_store25 {o : Oper} {a : Act} {w : World} {K : Act → World → Prop} {Q : Exit → Act → World → Prop} {x y : Operand} (ho : o.op = .store 25 x y) (b : Nat) (hx : a.eval x = .pointer (some ⟨b, 0, none⟩)) {d : St} {p : Value} (s : St) (ka : Option Addr) (kn kc : Nat) (hy : a.eval y = stV s (.slice ka kn kc)) (hB : CBox b (C7 d p) w)
    (h : ∀ w', CBox b (C7 s (.slice ka kn kc)) w' → But b w w' → K (a.put o.dst undef) w') : Wrp (Oper.wp Try.prog o a w K Q) := by
  exact ⟨wp_store_box _ x y ho b 0 (C7 s (.slice ka kn kc)) hx hy hB _ rfl (Nat.le_of_ble_eq_true rfl) (info_size size25 rfl) (by kernel_rfl) h⟩
theorem load25_run {w : World} {b : Nat} {s : St} {p : Value} (hB : CBox b (C7 s p) w) : (Instr.loadAt 25 (.pointer (some ⟨b, 0, none⟩))).run Try.prog w = .ok (stV s p) w := by
  obtain ⟨d, h1, h2⟩ := row25
  exact run_loadAt_mid w b 0 _ (C7 s p) d (range_of hB 0 7 rfl) h1 h2 (info_size size25 rfl)

set_option maxHeartbeats 4000000 in
theorem sread_no (l : List UInt8) (h : rdSt l = none) (w : World) : Calls Try.prog 62 #[.string (bt l), .func (.func 63) #[] #[]] w fun y w' => y = .returned (.tuple #[stV z7 (.slice none 0 0), .int .i64 0, .bool false]) ∧ Keeps w w' := by
  have HN : Hid (∀ b W, RBox b l W → Calls Try.prog 63 #[.pointer (some ⟨b, 0, none⟩)] W fun y w' => (∃ u pv, y = .panicked [{ v := .iface u pv, recovered := false }]) ∧ But b W w') := fun b W hB => by
    have := read_state b l W hB
    rw [h] at this
    exact this
  clear h
  have hmf : ∀ (fn : Fn) (first cap : Array Value) (w : World), (Instr.makeFunc fn first cap).run Try.prog w = .ok (.func fn first cap) w := fun _ _ _ _ => rfl
  go_enter_defers Try.func62, Try.ntmps62
  go_wp2_with (first | (refine alloc25 rfl rfl ?_; intro w0 ob hBo hko hlo hgo))
  obtain ⟨wb, hwb⟩ : ∃ z, z = w0.heap.size := ⟨_, rfl⟩
  obtain ⟨W3, hW3⟩ : ∃ z, z = (w0.alloc (Obj.cells #[Value.bool false] 4)).alloc (Obj.cells #[Value.string (bt l)] 114) := ⟨_, rfl⟩
  have k3 : Keeps w0 W3 := by rw [hW3]; exact ((Keeps.refl _).alloc _).alloc _
  have HR3 : Hid (RBox (wb + 1) l W3) := by
    have h := CBox.new (w0.alloc (Obj.cells #[Value.bool false] 4)) [Value.string (bt l)] 114
    rw [World.size_alloc, ← hwb] at h
    rw [hW3]
    exact ⟨h.1 0 _ rfl, h.2 0⟩
  have HB3 : Hid (CBox wb [.bool false] W3) := by
    rw [hW3, hwb]
    exact (CBox.new w0 [.bool false] 4).keep ((Keeps.refl _).alloc _)
  have HO3 : Hid (CBox ob (C7 z7 (.slice none 0 0)) W3) := hBo.keep k3 (Nat.le_of_ble_eq_true rfl)
  have HK3 : Hid (Keeps w W3) := hko.trans k3
  have HG : Hid (w.heap.size ≤ wb ∧ ob < wb) := ⟨by rw [hwb]; exact hko.size, by rw [hwb]; exact hlo⟩
  rw [← hW3, ← hwb]
  clear hW3 hwb k3 hBo hko hlo hgo
  refine (HN.out (wb + 1) W3 HR3.out).mono ?_
  rintro y w4 ⟨⟨u, pv, rfl⟩, hb⟩
  have HB4 := HB3.out.other hb (by omega)
  have HO4 := HO3.out.other hb (by have := HG.out; omega) (Nat.le_of_ble_eq_true rfl)
  have HK4 : Keeps w w4 := But.to HK3.out (by have := HG.out; omega) hb
  refine leaves_cons (f := 78) (args := #[.pointer (some ⟨wb, 0, none⟩)]) (by simp) (by simp [go_sem]) ?_
  refine (catch_panicking ⟨wb, 0, none⟩ (.bool false) u pv [] _ (HB4.1 0 _ rfl) (HB4.2 0)).mono ?_
  rintro e u' w5 ⟨rfl, rfl, hw5⟩
  have HB5 : CBox wb [.bool false] w5 := by rw [hw5]; exact HB4.one 0 (.bool false)
  have HT5 : But wb w4 w5 := by rw [hw5]; exact (But.refl _ _).set _ _
  have HO5 := HO4.other HT5 (by have := HG.out; omega) (Nat.le_of_ble_eq_true rfl)
  exact ⟨_, resultsC Try.results62 rfl rfl rfl (read25 HO5) (read4 HB5), rfl, But.to HK4 HG.out.1 HT5⟩
set_option maxHeartbeats 4000000 in
theorem sread_ok (l : List UInt8) (s : St) (r : List UInt8) (h : rdSt l = some (s, r)) (hl : l.length ≤ 100000) (w : World) : Calls Try.prog 62 #[.string (bt l), .func (.func 63) #[] #[]] w fun y w' => ∃ ka kc, OwnTab w.heap.size w' (.slice ka s.tab.length kc) s.tab ∧ y = .returned (.tuple #[stV s (.slice ka s.tab.length kc), .int .i64 ((l.length - r.length : Nat) : Int), .bool true]) ∧ Keeps w w' := by
  have HN : Hid (∀ b W, RBox b l W → Calls Try.prog 63 #[.pointer (some ⟨b, 0, none⟩)] W fun y w' => (∃ ka kc, OwnTab W.heap.size w' (.slice ka s.tab.length kc) s.tab ∧ y = .returned (stV s (.slice ka s.tab.length kc)) ∧ RBox b r w') ∧ But b W w') := fun b W hB => by
    have := read_state b l W hB
    rw [h] at this
    exact this
  have hn : r.length ≤ l.length := by
    have h5 := congrArg List.length (rdSt_bytes h)
    simp only [List.length_append] at h5
    omega
  have hs1 := bt_size l
  have hs2 := bt_size r
  clear h
  have hmf : ∀ (fn : Fn) (first cap : Array Value) (w : World), (Instr.makeFunc fn first cap).run Try.prog w = .ok (.func fn first cap) w := fun _ _ _ _ => rfl
  go_enter_defers Try.func62, Try.ntmps62
  go_wp2_with (first | (refine alloc25 rfl rfl ?_; intro w0 ob hBo hko hlo hgo))
  obtain ⟨wb, hwb⟩ : ∃ z, z = w0.heap.size := ⟨_, rfl⟩
  obtain ⟨W3, hW3⟩ : ∃ z, z = (w0.alloc (Obj.cells #[Value.bool false] 4)).alloc (Obj.cells #[Value.string (bt l)] 114) := ⟨_, rfl⟩
  have k3 : Keeps w0 W3 := by rw [hW3]; exact ((Keeps.refl _).alloc _).alloc _
  have HR3 : Hid (RBox (wb + 1) l W3) := by
    have h := CBox.new (w0.alloc (Obj.cells #[Value.bool false] 4)) [Value.string (bt l)] 114
    rw [World.size_alloc, ← hwb] at h
    rw [hW3]
    exact ⟨h.1 0 _ rfl, h.2 0⟩
  have HB3 : Hid (CBox wb [.bool false] W3) := by
    rw [hW3, hwb]
    exact (CBox.new w0 [.bool false] 4).keep ((Keeps.refl _).alloc _)
  have HO3 : Hid (CBox ob (C7 z7 (.slice none 0 0)) W3) := hBo.keep k3 (Nat.le_of_ble_eq_true rfl)
  have HK3 : Hid (Keeps w W3) := hko.trans k3
  have HG : Hid (w.heap.size ≤ wb ∧ ob < wb) := ⟨by rw [hwb]; exact hko.size, by rw [hwb]; exact hlo⟩
  have HOG : Hid (w.heap.size ≤ ob) := hgo
  rw [← hW3, ← hwb]
  clear hW3 hwb k3 hBo hko hlo hgo
  refine (HN.out (wb + 1) W3 HR3.out).mono ?_
  rintro y w4 ⟨⟨ka, kc, hK, rfl, hR⟩, hb⟩
  have HKT : Hid (OwnTab W3.heap.size w4 (.slice ka s.tab.length kc) s.tab) := hK
  have HZL : Hid (ob < W3.heap.size ∧ wb < W3.heap.size ∧ w.heap.size ≤ W3.heap.size) := ⟨HO3.out.lt (Nat.le_of_ble_eq_true rfl), HB3.out.lt (by simp), HK3.out.size⟩
  clear hK
  have HB4 : Hid (CBox wb [.bool false] w4) := HB3.out.other hb (by omega)
  have HO4 : Hid (CBox ob (C7 z7 (.slice none 0 0)) w4) := HO3.out.other hb (by have := HG.out; omega) (Nat.le_of_ble_eq_true rfl)
  have HK4 : Hid (Keeps w w4) := But.to HK3.out (by have := HG.out; omega) hb
  have HR4 : Hid (RBox (wb + 1) (r) w4) := hR
  clear hR hb HB3 HO3 HK3 HR3 HN
  go_wp2_with (first | (refine store25 rfl rfl ob rfl s ka s.tab.length kc rfl HO4.out ?_; intro w5 hS5 hT5))
  have HS0 : Hid ((fun W => CBox ob (C7 s (.slice ka s.tab.length kc)) W ∧ RBox (wb + 1) (r) W ∧ (∃ v, CBox wb [v] W) ∧ Keeps w W ∧ OwnTab W3.heap.size W (.slice ka s.tab.length kc) s.tab) w5.drew) := ⟨hS5.keep (Keeps.refl _).drew (Nat.le_of_ble_eq_true rfl), (HR4.out.other hT5 (by have := HG.out; omega)).keep (Keeps.refl _).drew, ⟨_, (HB4.out.other hT5 (by have := HG.out; omega)).keep (Keeps.refl _).drew⟩, (But.to HK4.out HOG.out hT5).drew, (HKT.out.but HZL.out.1 hT5).keep (Keeps.refl _).drew⟩
  have HW : Hid (IntKind.i64.wrap (((bt l).size : Int) - ((bt (r)).size : Int)) = ((l.length - r.length : Nat) : Int)) := by
    show _ = _
    rw [hs1, hs2]
    simp [IntKind.wrap, IntKind.bits, IntKind.signed]
    omega
  clear hS5 hT5 HR4 HB4 HK4 HO4 hs1 hs2
  refine wp_region_growI (fun W => CBox ob (C7 s (.slice ka s.tab.length kc)) W ∧ RBox (wb + 1) (r) W ∧ (∃ v, CBox wb [v] W) ∧ Keeps w W ∧ OwnTab W3.heap.size W (.slice ka s.tab.length kc) s.tab) HS0.out ⟨fun _ _ => True, fun _ _ _ _ _ => trivial⟩ trivial [some 13, some 14, some 15, some 16, some 17, some 18, some 19, none, some 5, none] [Pr.is (stV s (.slice ka s.tab.length kc)), Pr.is (.string (bt l)), Pr.is (.int .i64 ((bt l).size : Int)), Pr.is (.pointer (some ⟨wb + 1, 0, none⟩)), Pr.is (.string (bt (r))), Pr.is (.int .i64 ((bt (r)).size : Int)), Pr.is (.int .i64 ((l.length - r.length : Nat) : Int)), ⟨fun _ _ => True, fun _ _ _ _ _ => trivial⟩, Pr.is (.int .i64 ((l.length - r.length : Nat) : Int)), ⟨fun _ W => CBox wb [.bool true] W, fun _ W W' h hk => h.keep hk⟩] [⟨7, [], fun W W' => But ob W W'⟩, ⟨9, [], fun W W' => But wb W W'⟩] (by kernel_rfl) (by kernel_rfl) (by kernel_rfl) (by kernel_rfl) ?_ ?_ ?_
  · intro i hi
    match i, hi with
    | 0, _ =>
      refine GrowStepI.wrp rfl rfl ?_
      intro vs W hI hJ hR K hK
      refine h_load rfl (p := .pointer (some ⟨ob, 0, none⟩)) (by kernel_rfl) (load25_run hI.1) ?_
      refine hK.out _ (stV s (.slice ka s.tab.length kc)) _ (by kernel_rfl) (FrI.of (by simp) hI (Keeps.refl W)) ?_
      exact rfl
    | 1, _ =>
      refine GrowStepI.wrp rfl rfl ?_
      intro vs W hI hJ hR K hK
      refine h_move rfl (v := .string (bt l)) (by kernel_rfl) ?_
      refine hK.out _ (.string (bt l)) _ (by kernel_rfl) (FrI.of (by simp) hI (Keeps.refl W)) ?_
      exact rfl
    | 2, _ =>
      refine GrowStepI.wrp rfl rfl ?_
      intro vs W hI hJ hR K hK
      have h1 : vs 1 = .string (bt l) := hR 1 (by kernel_rfl)
      refine h_lenS rfl ((show _ = vs 1 from by kernel_rfl).trans h1) ?_
      refine hK.out _ (.int .i64 ((bt l).size : Int)) _ (by kernel_rfl) (FrI.of (by simp) hI (Keeps.refl W)) ?_
      exact rfl
    | 3, _ =>
      refine GrowStepI.wrp rfl rfl ?_
      intro vs W hI hJ hR K hK
      refine h_field rfl (p := .pointer (some ⟨wb + 1, 0, none⟩)) (q := .pointer (some ⟨wb + 1, 0, none⟩)) (by kernel_rfl) (by kernel_rfl) ?_
      refine hK.out _ (.pointer (some ⟨wb + 1, 0, none⟩)) _ (by kernel_rfl) (FrI.of (by simp) hI (Keeps.refl W)) ?_
      exact rfl
    | 4, _ =>
      refine GrowStepI.wrp rfl rfl ?_
      intro vs W hI hJ hR K hK
      have h3 : vs 3 = .pointer (some ⟨wb + 1, 0, none⟩) := hR 3 (by kernel_rfl)
      refine h_load rfl ((show _ = vs 3 from by kernel_rfl).trans h3) (load_cell hI.2.1.1 (by kernel_rfl)) ?_
      refine hK.out _ (.string (bt (r))) _ (by kernel_rfl) (FrI.of (by simp) hI (Keeps.refl W)) ?_
      exact rfl
    | 5, _ =>
      refine GrowStepI.wrp rfl rfl ?_
      intro vs W hI hJ hR K hK
      have h4 : vs 4 = .string (bt (r)) := hR 4 (by kernel_rfl)
      refine h_lenS rfl ((show _ = vs 4 from by kernel_rfl).trans h4) ?_
      refine hK.out _ (.int .i64 ((bt (r)).size : Int)) _ (by kernel_rfl) (FrI.of (by simp) hI (Keeps.refl W)) ?_
      exact rfl
    | 6, _ =>
      refine GrowStepI.wrp rfl rfl ?_
      intro vs W hI hJ hR K hK
      have h2 : vs 2 = .int .i64 ((bt l).size : Int) := hR 2 (by kernel_rfl)
      have h5 : vs 5 = .int .i64 ((bt (r)).size : Int) := hR 5 (by kernel_rfl)
      refine h_sub rfl ((show _ = vs 2 from by kernel_rfl).trans h2) ((show _ = vs 5 from by kernel_rfl).trans h5) HW.out ?_
      refine hK.out _ (.int .i64 ((l.length - r.length : Nat) : Int)) _ (by kernel_rfl) (FrI.of (by simp) hI (Keeps.refl W)) ?_
      exact rfl
    | 7, _ =>
      refine GrowStepI.wrp rfl rfl ?_
      intro vs W hI hJ hR K hK
      have h0 : vs 0 = stV s (.slice ka s.tab.length kc) := hR 0 (by kernel_rfl)
      refine h_store25 rfl ob (by kernel_rfl) s ka s.tab.length kc ((show _ = vs 0 from by kernel_rfl).trans h0) hI.1 ?_
      intro W' hS6 hT6
      refine hK.out _ undef _ (by kernel_rfl) ⟨fun h => absurd rfl (h _ (List.mem_cons_self ..)), ⟨hS6, hI.2.1.other hT6 (by have := HG.out; omega), hI.2.2.1.elim fun v h => ⟨v, h.other hT6 (by have := HG.out; omega)⟩, But.to hI.2.2.2.1 HOG.out hT6, hI.2.2.2.2.but HZL.out.1 hT6⟩, fun x hx e => ?_⟩ ?_
      · rcases List.mem_cons.1 hx with rfl | hx
        · exact hT6
        · rcases List.mem_cons.1 hx with rfl | hx
          · cases e
          · cases hx
      · exact trivial
    | 8, _ =>
      refine GrowStepI.wrp rfl rfl ?_
      intro vs W hI hJ hR K hK
      have h6 : vs 6 = .int .i64 ((l.length - r.length : Nat) : Int) := hR 6 (by kernel_rfl)
      refine h_assign rfl ((show _ = vs 6 from by kernel_rfl).trans h6) ?_
      refine hK.out _ (.int .i64 ((l.length - r.length : Nat) : Int)) _ (by kernel_rfl) (FrI.of (by simp) hI (Keeps.refl W)) ?_
      exact rfl
    | 9, _ =>
      refine GrowStepI.wrp rfl rfl ?_
      intro vs W hI hJ hR K hK
      refine hI.2.2.1.elim fun v hv => ?_
      refine h_store4 rfl wb (by kernel_rfl) true (by kernel_rfl) hv ?_
      intro W' hS7 hT7
      refine hK.out _ undef _ (by kernel_rfl) ⟨fun h => absurd rfl (h _ (List.mem_cons_of_mem _ (List.mem_cons_self ..))), ⟨hI.1.other hT7 (by have := HG.out; omega) (Nat.le_of_ble_eq_true rfl), hI.2.1.other hT7 (by omega), ⟨_, hS7⟩, But.to hI.2.2.2.1 HG.out.1 hT7, hI.2.2.2.2.but HZL.out.2.1 hT7⟩, fun x hx e => ?_⟩ ?_
      · rcases List.mem_cons.1 hx with rfl | hx
        · cases e
        · rcases List.mem_cons.1 hx with rfl | hx
          · exact hT7
          · cases hx
      · exact hS7
    | k + 10, h => exact absurd h (by simp)
  · intro x hx j hj hd hn hr v W W' hp hf
    rcases List.mem_cons.1 hx with rfl | hx
    · match j, hj with
      | 0, _ => exact hp
      | 1, _ => exact hp
      | 2, _ => exact hp
      | 3, _ => exact hp
      | 4, _ => exact hp
      | 5, _ => exact hp
      | 6, _ => exact hp
      | 7, _ => exact absurd rfl hn
      | 8, _ => exact hp
      | 9, _ => exact CBox.other hp hf (by have := HG.out; omega)
      | k + 10, h => exact absurd h (by simp)
    · rcases List.mem_cons.1 hx with rfl | hx
      · match j, hj with
        | 0, _ => exact hp
        | 1, _ => exact hp
        | 2, _ => exact hp
        | 3, _ => exact hp
        | 4, _ => exact hp
        | 5, _ => exact hp
        | 6, _ => exact hp
        | 7, _ => exact hp
        | 8, _ => exact hp
        | 9, _ => exact absurd rfl hn
        | k + 10, h => exact absurd h (by simp)
      · cases hx
  · intro vs W0 hI hR
    have h8 : vs 8 = .int .i64 ((l.length - r.length : Nat) : Int) := hR 8 (by decide) (by simp)
    have hb : CBox wb [.bool true] W0 := hR 9 (by decide) (by simp)
    simp only [fillL, Nat.zero_add, Nat.reduceAdd, h8]
    go_wp2_with fail
    refine leaves_cons (f := 78) (args := #[.pointer (some ⟨wb, 0, none⟩)]) (by simp) (by simp [go_sem]) ?_
    refine (catch_idle ⟨wb, 0, none⟩ _).mono ?_
    rintro y u' w9 ⟨rfl, rfl, rfl⟩
    exact ⟨_, resultsC Try.results62 rfl rfl rfl (read25 hI.1) (read4 hb), ⟨ka, kc, hI.2.2.2.2.base HZL.out.2.2, rfl, hI.2.2.2.1⟩⟩
end Go.Proofs.Yteabfjpajgakiad

/- snap.putSession. -/
set_option linter.unusedSimpArgs false
set_option linter.unusedVariables false
set_option maxRecDepth 10000
namespace Go.Proofs.Yteabfjpajgakiad
open Go.RowKit

theorem SesBox.same {b : Nat} {s : Ses} {k : Value} {w w' : World} (h : SesBox b s k w) (he : w'.heap[b]? = w.heap[b]?) : SesBox b s k w' :=
  ⟨(World.cell?_of_block he).trans h.c0, (World.cell?_of_block he).trans h.c1, (World.cell?_of_block he).trans h.c2, (World.cell?_of_block he).trans h.c3, fun i => (World.frozen?_of_block he).trans (h.fz i)⟩
theorem repBs_succ : ∀ (k : List (Int × Int)) (i : Nat) (h : i < k.length), repBs (k.take (i + 1)) = repBs (k.take i) ++ ([b8 k[i].1] ++ wide (k[i].2 + 1))
  | (q, v) :: r, 0, _ => by
    show [b8 q] ++ wide (v + 1) ++ repBs [] = [] ++ ([b8 q] ++ wide (v + 1))
    rw [List.nil_append]
    exact List.append_nil _
  | (q, v) :: r, i + 1, h => by
    have ih := repBs_succ r i (by simpa using h)
    show [b8 q] ++ wide (v + 1) ++ repBs (r.take (i + 1)) = ([b8 q] ++ wide (v + 1) ++ repBs (r.take i)) ++ _
    rw [ih, List.append_assoc]
    rfl

set_option maxHeartbeats 4000000 in
theorem put_session {w0 : World} (B : List UInt8) (v : Value) (o : Ses) (ka : Option Addr) (kc : Nat) (w : World) (hk : Keeps w0 w) (hv : BOwn w0.heap.size w v B) (hK : KeptAt w0 (.slice ka o.kept.length kc) o.kept) (hfit : sesFit o) (hlen : B.length ≤ 50000) :
    Calls Try.prog 32 #[v, sesV o (.slice ka o.kept.length kc)] w fun y w' => ∃ v', y = .returned v' ∧ BOwn w0.heap.size w' v' (B ++ sesBs o) ∧ Keeps w0 w' := by
  have HKP : Hid (KeptAt w0 (.slice ka o.kept.length kc) o.kept) := hK
  have HK : Hid (Keeps w0 w) := hk
  have HV : Hid (BOwn w0.heap.size w v B) := hv
  have HF : Hid (repFit o.kept) := hfit.2.2.2.2
  have hkl := hfit.2.2.2.1
  clear hK hk hv hfit
  obtain ⟨w1, hw1⟩ : ∃ z, z = w.alloc (.cells #[.int .i64 o.client, .int .i64 o.acked, .int .i64 o.seen, .slice ka o.kept.length kc] 59) := ⟨_, rfl⟩
  have HB1 : Hid (SesBox w.heap.size o (.slice ka o.kept.length kc) w1) := by rw [hw1]; exact SesBox.new w o _ _
  have k1 : Keeps w w1 := by rw [hw1]; exact (Keeps.refl _).alloc _
  have HO1 : Hid (BOwn w0.heap.size w1 v B) := HV.out.keep k1
  have HG1 : Hid (GrowsTo w1 w1 v v) := GrowsTo.refl _ _
  have HZ1 : Hid (w0.heap.size ≤ w1.heap.size) := (HK.out.trans k1).size
  have HKK : Hid (Keeps w0 w1) := HK.out.trans k1
  have HSB : Hid (w.heap.size < w1.heap.size ∧ v.ownBlock ≠ some w.heap.size) := ⟨HB1.out.lt, fun h => by have := (HV.out.own h).2; omega⟩
  have HOV : Hid (BOwn w0.heap.size w1 v B) := HO1.out
  have HKW : Hid (∀ W v', GrowsTo w1 W v v' → Keeps w0 W) := fun W v' hg => Below.trans HKK.out (hg.below HOV.out HKK.out.size)
  have HSW : Hid (∀ W v', GrowsTo w1 W v v' → SesBox w.heap.size o (.slice ka o.kept.length kc) W) := fun W v' hg => HB1.out.same (hg.grown.block _ HSB.out.1 (fun e => HSB.out.2 e.symm))
  go_enter Try.func32, Try.ntmps32
  have hsz1 : w1.heap.size = w.heap.size + 1 := by rw [hw1]; simp
  go_wp2_with fail
  rw [← hw1, ← hsz1]
  clear hw1 hsz1 k1
  refine (small_c w0.heap.size (B) v [o.client, o.acked] w1.heap.size _ (Nat.le_trans HZ1.out (by simp)) (HO1.out.keep ((Keeps.refl _).alloc _)) (new_nums w1 [o.client, o.acked] _) (by simp) (fun h => by have := (HO1.out.own h).2; omega) (by simp [wide]; omega)).mono ?_
  rintro y w2 ⟨v2, rfl, hO, hG⟩
  have HO2 : Hid (BOwn w0.heap.size w2 v2 (B ++ [b8 o.client, b8 o.acked])) := by
    have hO := hO
    simp only [List.map_cons, List.map_nil, wides, List.append_nil] at hO
    exact hO
  have HG2 : Hid (GrowsTo w1 w2 v v2) := (HG1.out.trans (GrowsTo.of _ ((Keeps.refl _).alloc _))).trans hG
  have HZ2 : Hid (w0.heap.size ≤ w2.heap.size) := Nat.le_trans HZ1.out (Nat.le_trans (by simp) hG.grown.size)
  clear hO hG HO1 HG1 HZ1
  have c0 := (HSW.out w2 _ HG2.out).c0
  have c1 := (HSW.out w2 _ HG2.out).c1
  have c2 := (HSW.out w2 _ HG2.out).c2
  have c3 := (HSW.out w2 _ HG2.out).c3
  go_wp2_with fail
  refine (wide_c w0.heap.size (B ++ [b8 o.client, b8 o.acked]) v2 [o.seen] w2.heap.size _ (Nat.le_trans HZ2.out (by simp)) (HO2.out.keep ((Keeps.refl _).alloc _)) (new_nums w2 [o.seen] _) (by simp) (fun h => by have := (HO2.out.own h).2; omega) (by simp [wide]; omega)).mono ?_
  rintro y w3 ⟨v3, rfl, hO, hG⟩
  have HO3 : Hid (BOwn w0.heap.size w3 v3 (B ++ [b8 o.client, b8 o.acked] ++ wide o.seen)) := by
    have hO := hO
    simp only [List.map_cons, List.map_nil, wides, List.append_nil] at hO
    exact hO
  have HG3 : Hid (GrowsTo w1 w3 v v3) := (HG2.out.trans (GrowsTo.of _ ((Keeps.refl _).alloc _))).trans hG
  have HZ3 : Hid (w0.heap.size ≤ w3.heap.size) := Nat.le_trans HZ2.out (Nat.le_trans (by simp) hG.grown.size)
  clear hO hG HO2 HG2 HZ2
  clear c0 c1 c2 c3
  have c0 := (HSW.out w3 _ HG3.out).c0
  have c1 := (HSW.out w3 _ HG3.out).c1
  have c2 := (HSW.out w3 _ HG3.out).c2
  have c3 := (HSW.out w3 _ HG3.out).c3
  go_wp2_with fail
  refine (small_c w0.heap.size (B ++ [b8 o.client, b8 o.acked] ++ wide o.seen) v3 [(o.kept.length : Int)] w3.heap.size _ (Nat.le_trans HZ3.out (by simp)) (HO3.out.keep ((Keeps.refl _).alloc _)) (new_nums w3 [(o.kept.length : Int)] _) (by simp) (fun h => by have := (HO3.out.own h).2; omega) (by simp [wide]; omega)).mono ?_
  rintro y w4 ⟨v4, rfl, hO, hG⟩
  have HO4 : Hid (BOwn w0.heap.size w4 v4 (B ++ [b8 o.client, b8 o.acked] ++ wide o.seen ++ [b8 (o.kept.length : Int)])) := by
    have hO := hO
    simp only [List.map_cons, List.map_nil, wides, List.append_nil] at hO
    exact hO
  have HG4 : Hid (GrowsTo w1 w4 v v4) := (HG3.out.trans (GrowsTo.of _ ((Keeps.refl _).alloc _))).trans hG
  have HZ4 : Hid (w0.heap.size ≤ w4.heap.size) := Nat.le_trans HZ3.out (Nat.le_trans (by simp) hG.grown.size)
  clear hO hG HO3 HG3 HZ3
  clear c0 c1 c2 c3
  have c0 := (HSW.out w4 _ HG4.out).c0
  have c1 := (HSW.out w4 _ HG4.out).c1
  have c2 := (HSW.out w4 _ HG4.out).c2
  have c3 := (HSW.out w4 _ HG4.out).c3
  have HB0 : Hid (repBs (o.kept.take 0) = []) := by show _ = _; rw [List.take_zero]; rfl
  go_wp2_with fail
  go_loopw [0, 28] (fun b i wr => ∃ (k : Nat), k ≤ o.kept.length ∧ i = .int .i64 k ∧ Hid (BOwn w0.heap.size wr b (B ++ [b8 o.client, b8 o.acked] ++ wide o.seen ++ [b8 (o.kept.length : Int)] ++ repBs (o.kept.take k))) ∧ Hid (GrowsTo w1 wr v b)) (fun _ i _ => o.kept.length - (intOf i).toNat)
  case atStart => exact ⟨0, Nat.zero_le _, rfl, by rw [HB0.out, List.append_nil]; exact HO4.out, HG4⟩
  case round =>
    obtain ⟨k, hk, rfl, HO, HG⟩ := hrel
    by_cases hlt : k < o.kept.length
    · obtain ⟨b1, o1, p1, hv1, _, hcs⟩ := (HKP.out.keep (HKW.out wr _ HG.out)).at hlt
      obtain ⟨d0, d1⟩ := hcs k hlt
      injection hv1 with hv1 ea eb
      subst hv1
      clear ea eb hcs
      have HS : Hid (repBs (o.kept.take (k + 1)) = repBs (o.kept.take k) ++ ([b8 o.kept[k].1] ++ wide (o.kept[k].2 + 1))) := repBs_succ o.kept k hlt
      obtain ⟨_, f1, f2⟩ := HF.out o.kept[k] (List.getElem_mem hlt)
      obtain ⟨BX, hBX⟩ : ∃ z, z = B ++ [b8 o.client, b8 o.acked] ++ wide o.seen ++ [b8 (o.kept.length : Int)] ++ repBs (o.kept.take k) := ⟨_, rfl⟩
      have hBL : BX.length ≤ 51000 := by
        rw [hBX]
        simp only [List.length_append, repBs_len, List.length_take, List.length_cons, List.length_nil, wide]
        omega
      have HS2 : Hid (BX ++ [b8 o.kept[k].1] ++ wide (o.kept[k].2 + 1) = B ++ [b8 o.client, b8 o.acked] ++ wide o.seen ++ [b8 (o.kept.length : Int)] ++ repBs (o.kept.take (k + 1))) := by
        show _ = _
        rw [HS.out, hBX]
        simp only [List.append_assoc]
      have HO5 : Hid (BOwn w0.heap.size (wr.alloc (.cells #[.int .i64 o.kept[k].1, .int .i64 o.kept[k].2] 66)) u0 BX) := by
        show BOwn _ _ _ _
        rw [hBX]
        exact HO.out.keep ((Keeps.refl _).alloc _)
      have HOW : Hid (∀ j, u0.ownBlock = some j → j < wr.heap.size) := fun j h => (HO.out.own h).2
      clear hBX HO HS
      generalize o.kept[k] = p at *
      obtain ⟨q, x⟩ := p
      obtain ⟨w5, hw5⟩ : ∃ z, z = wr.alloc (.cells #[.int .i64 q, .int .i64 x] 66) := ⟨_, rfl⟩
      have hsz5 : w5.heap.size = wr.heap.size + 1 := by rw [hw5]; simp
      have HQ5 : Hid (CBox wr.heap.size [.int .i64 q, .int .i64 x] w5) := by rw [hw5]; exact CBox.new wr [.int .i64 q, .int .i64 x] 66
      have k5 : Keeps wr w5 := by rw [hw5]; exact (Keeps.refl _).alloc _
      have HG5 : Hid (GrowsTo w1 w5 v u0) := HG.out.trans (GrowsTo.of _ k5)
      have HZ5 : Hid (w0.heap.size ≤ w5.heap.size) := Nat.le_trans (HKW.out wr _ HG.out).size k5.size
      rw [← hw5] at HO5
      go_wp2_with fail
      rw [← hw5, ← hsz5]
      clear hw5 k5 HG
      refine (small_c w0.heap.size BX u0 [q] w5.heap.size _ (Nat.le_trans HZ5.out (by simp)) (HO5.out.keep ((Keeps.refl _).alloc _)) (new_nums w5 [q] _) (by simp) (fun h => by have := (HO5.out.own h).2; omega) (by simp [wide]; omega)).mono ?_
      rintro y w6 ⟨v6, rfl, hO, hG⟩
      have HO6 : Hid (BOwn w0.heap.size w6 v6 (BX ++ [b8 q])) := by
        have hO := hO
        simp only [List.map_cons, List.map_nil, wides, List.append_nil] at hO
        exact hO
      have HG6 : Hid (GrowsTo w1 w6 v v6) := (HG5.out.trans (GrowsTo.of _ ((Keeps.refl _).alloc _))).trans hG
      have HZ6 : Hid (w0.heap.size ≤ w6.heap.size) := Nat.le_trans HZ5.out (Nat.le_trans (by simp) hG.grown.size)
      have x1 : w6.cell? ⟨wr.heap.size, 1, none⟩ = some (.int .i64 x) := (World.cell?_of_block (hG.grown.block wr.heap.size (by simp; omega) (fun e => by have := HOW.out _ e.symm; omega))).trans ((HQ5.out.keep ((Keeps.refl _).alloc _)).1 1 _ rfl)
      clear hO hG HO5 HG5 HZ5
      have hx1 : (BX ++ [b8 q]).length ≤ 51001 := by simp; omega
      go_wp2_with fail
      refine (wide_c w0.heap.size (BX ++ [b8 q]) v6 [x + 1] w6.heap.size _ (Nat.le_trans HZ6.out (by simp)) (HO6.out.keep ((Keeps.refl _).alloc _)) (new_nums w6 [x + 1] _) (by simp) (fun h => by have := (HO6.out.own h).2; omega) (by rw [List.length_cons, List.length_nil]; omega)).mono ?_
      rintro y w7 ⟨v7, rfl, hO, hG⟩
      have HO7 : Hid (BOwn w0.heap.size w7 v7 (BX ++ [b8 q] ++ wide (x + 1))) := by
        have hO := hO
        simp only [List.map_cons, List.map_nil, wides, List.append_nil] at hO
        exact hO
      have HG7 : Hid (GrowsTo w1 w7 v v7) := (HG6.out.trans (GrowsTo.of _ ((Keeps.refl _).alloc _))).trans hG
      have HZ7 : Hid (w0.heap.size ≤ w7.heap.size) := Nat.le_trans HZ6.out (Nat.le_trans (by simp) hG.grown.size)
      clear hO hG HO6 HG6 HZ6
      go_wp2_with fail
      go_roundw
      case rel => exact ⟨k + 1, by omega, by go_num, by rw [← HS2.out]; exact HO7.out, HG7⟩
      case measure => simp [intOf]; omega
    · have e : k = o.kept.length := by omega
      subst e
      have hO := HO.out
      rw [List.take_length] at hO
      have hO2 : BOwn w0.heap.size wr u0 (B ++ sesBs o) := by
        unfold sesBs
        rw [← List.append_assoc, ← List.append_assoc, ← List.append_assoc]
        exact hO
      go_wp2_with fail
      go_ret
      exact ⟨_, rfl, hO2, HKW.out wr _ HG.out⟩
end Go.Proofs.Yteabfjpajgakiad

/- snap.Write. -/
set_option linter.unusedSimpArgs false
set_option linter.unusedVariables false
set_option maxRecDepth 10000
namespace Go.Proofs.Yteabfjpajgakiad
open Go.RowKit

set_option maxHeartbeats 1000000 in
theorem wide_o (off : Nat) (base : Nat) (B : List UInt8) (v : Value) (N : List Int) (nb : Nat) (w : World) (hb : base ≤ w.heap.size) (hv : BOwn base w v B) (hN : ∀ i n, N[i]? = some n → w.cell? ⟨nb, off + i, none⟩ = some (.int .i64 n)) (hnb : nb < w.heap.size) (hne : v.ownBlock ≠ some nb) (hlen : B.length + 2 * N.length ≤ 100000) :
    Calls Try.prog 31 #[v, .slice (some ⟨nb, off, none⟩) N.length N.length] w fun e w' => ∃ v', e = .returned v' ∧ BOwn base w' v' (B ++ wides N) ∧ GrowsTo w w' v v' := by
  have HV : Hid (BOwn base w v B) := hv
  have HN : Hid (∀ i n, N[i]? = some n → w.cell? ⟨nb, off + i, none⟩ = some (.int .i64 n)) := hN
  have HL : Hid (v.ownBlock ≠ some nb) := hne
  have HB : Hid (base ≤ w.heap.size) := hb
  have HNB : Hid (nb < w.heap.size) := hnb
  have hnl : N.length ≤ 100000 := by omega
  clear hv hN hne hb hnb
  go_enter Try.func31, Try.ntmps31
  go_wp2_with fail
  go_loopw [0, 9] (fun b i wr => ∃ (k : Nat), k ≤ N.length ∧ i = .int .i64 k ∧ Hid (BOwn base wr b (B ++ wides (N.take k))) ∧ Hid (GrowsTo w wr v b)) (fun _ i _ => N.length - (intOf i).toNat)
  case atStart =>
    refine ⟨0, Nat.zero_le _, rfl, ?_, GrowsTo.refl _ _⟩
    show BOwn base w v (B ++ [])
    rw [List.append_nil]
    exact HV.out
  case round =>
    obtain ⟨k, hk, rfl, HO, HG⟩ := hrel
    by_cases hlt : k < N.length
    · have hc : wr.cell? ⟨nb, off + k, none⟩ = some (.int .i64 N[k]) := by
        exact (World.cell?_of_block (HG.out.grown.block nb HNB.out (fun e => HL.out e.symm))).trans (HN.out k _ (List.getElem?_eq_getElem hlt))
      have HR : Hid (B ++ wides (N.take k) ++ wide N[k] = B ++ wides (N.take (k + 1))) := by
        show _ = _
        rw [List.append_assoc, List.take_succ_eq_append_getElem hlt, wides_append]
        simp [wides]
      generalize N[k] = n at *
      have hb2 : base ≤ wr.heap.size := Nat.le_trans HB.out HG.out.grown.size
      have hl2 : (B ++ wides (N.take k)).length + 2 ≤ 100000 := by rw [List.length_append, wides_len, List.length_take]; omega
      have HW : Hid ([n / 256, n].map b8 = wide n) := rfl
      go_wp2_with fail
      refine (small_c base _ u0 [n / 256, n] wr.heap.size _ (Nat.le_trans hb2 (by simp)) (HO.out.keep ((Keeps.refl _).alloc _)) (new_nums wr [n / 256, n] _) (by simp) (fun e => by have := (HO.out.own e).2; omega) hl2).mono ?_
      rintro e w2 ⟨v2, rfl, hO2, hG2⟩
      rw [HW.out, HR.out] at hO2
      have HO2 : Hid (BOwn base w2 v2 (B ++ wides (N.take (k + 1)))) := hO2
      have HG2 : Hid (GrowsTo w w2 v v2) := (HG.out.trans (GrowsTo.of _ ((Keeps.refl _).alloc _))).trans hG2
      clear hO2 hG2 HO HG HR HW
      go_wp2_with fail
      go_roundw
      case rel => exact ⟨k + 1, by omega, by go_num, HO2, HG2⟩
      case measure => simp [intOf]; omega
    · have e : k = N.length := by omega
      subst e
      have hO := HO.out
      rw [List.take_length] at hO
      go_wp2_with fail
      go_ret
      exact ⟨_, rfl, hO, HG.out⟩
theorem box25 {ops : Array Oper} {rest : List Oper} {op : Oper} {a : Act} {w : World} {Q : Exit → Act → World → Prop} (hgd : op.guard = none) {x : Operand} (ho : op.op = .box 25 x) {s : St} {p : Value} (hx : a.eval x = stV s p)
    (h : ∀ (w' : World) (b : Nat), CBox b (C7 s p) w' → Keeps w w' → b < w'.heap.size → w.heap.size ≤ b → wpList Try.prog ops Q rest (a.put op.dst (.pointer (some ⟨b, 0, none⟩))) w') : wpList Try.prog ops Q (op :: rest) a w := wpList_box_new hgd _ x ho (C7 s p) hx h
theorem load59 {ops : Array Oper} {rest : List Oper} {op : Oper} {a : Act} {w : World} {Q : Exit → Act → World → Prop} (hgd : op.guard = none) {x : Operand} (ho : op.op = .load 59 x) (b : Nat) (hx : a.eval x = .pointer (some ⟨b, 0, none⟩)) {s : Ses} {p : Value} (hB : CBox b (S4 s p) w)
    (h : wpList Try.prog ops Q rest (a.put op.dst (sesV s p)) w) : wpList Try.prog ops Q (op :: rest) a w := by
  obtain ⟨d, h1, h2⟩ := row59
  exact wpList_load_box hgd _ x ho b 0 hx hB 4 (S4 s p) rfl d h1 h2 (info_size size59 rfl) h
def snBs (s : St) : List UInt8 := if stErr s == 0 then stBs s else []
theorem tabBs_succ : ∀ (L : List Ses) (k : Nat) (h : k < L.length), tabBs (L.take (k + 1)) = tabBs (L.take k) ++ sesBs L[k]
  | s :: r, 0, _ => by
    show sesBs s ++ tabBs [] = [] ++ sesBs s
    rw [List.nil_append]
    exact List.append_nil _
  | s :: r, k + 1, h => by
    have ih := tabBs_succ r k (by simpa using h)
    show sesBs s ++ tabBs (r.take (k + 1)) = (sesBs s ++ tabBs (r.take k)) ++ _
    rw [ih, List.append_assoc]
    rfl

set_option maxHeartbeats 4000000 in
theorem snap_write (s : St) (x : Value) (w : World) (hT : TabAt w x s.tab) : Calls Try.prog 9 #[stV s x] w fun y w' => y = .returned (.tuple #[.string (bt (snBs s)), .int .i64 (stErr s)]) ∧ Keeps w w' := by
  obtain ⟨xa, xc, rfl, _⟩ := hT.len
  have HT : Hid (TabAt w (.slice xa s.tab.length xc) s.tab) := hT
  clear hT
  have HW0 : Hid (snBs s = if stErr s == 0 then stBs s else []) := rfl
  have HFT : Hid (stErr s = 0 → stFit s ∧ s.tab.length ≤ 3 ∧ ∀ o ∈ s.tab, o.kept.length ≤ 3) := st_fit
  have HCH : Hid (∀ W, Keeps w W → Calls Try.prog 29 #[stV s (.slice xa s.tab.length xc)] W fun y w' => y = .returned (.int .i64 (stErr s)) ∧ Keeps W w') := fun W hk => state_check s _ W (HT.out.keep hk)
  generalize hwr : snBs s = wb at *
  generalize stErr s = er at *
  clear hwr
  go_enter Try.func9, Try.ntmps9
  go_wp2_with (first | (refine box25 rfl rfl (s := s) (p := .slice xa s.tab.length xc) rfl ?_; intro w0 sb hBs hks hls hgs) | (refine load25 rfl rfl sb rfl hBs ?_))
  refine (HCH.out w0 hks).mono ?_
  rintro y w1 ⟨rfl, hb⟩
  have HS1 : Hid (CBox sb (C7 s (.slice xa s.tab.length xc)) w1) := hBs.keep hb (Nat.le_of_ble_eq_true rfl)
  have HK : Hid (Keeps w w1) := hks.trans hb
  have HT1 : Hid (TabAt w1 (.slice xa s.tab.length xc) s.tab) := HT.out.keep (hks.trans hb)
  have HSL : Hid (sb < w1.heap.size) := HS1.out.lt (Nat.le_of_ble_eq_true rfl)
  clear hBs hks hls hgs hb HCH HT
  cases q : (er == 0) with
  | false =>
    have q' : (er != 0) = true := by simp [bne, q]
    have HW : Hid (wb = []) := by show _ = _; rw [HW0.out, q]; rfl
    go_wp2_with fail
    go_ret2
    rw [HW.out]
    exact ⟨rfl, HK.out⟩
  | true =>
    have q' : (er != 0) = false := by simp [bne, q]
    have q0 : er = 0 := by simpa using q
    have HW1 : Hid (wb = stBs s) := by show _ = _; rw [HW0.out, q]; rfl
    obtain ⟨hfit, htl, hkl⟩ := HFT.out q0
    have HFI : Hid (∀ o ∈ s.tab, sesFit o ∧ o.kept.length ≤ 3) := fun o ho => ⟨hfit.2.2.2.2.2.2.2 o ho, hkl o ho⟩
    subst q0
    clear HW0 HFT q q' hfit hkl
    have c0 := HS1.out.1 0 _ rfl
    have c1 := HS1.out.1 1 _ rfl
    have c2 := HS1.out.1 2 _ rfl
    have c3 := HS1.out.1 3 _ rfl
    have c4 := HS1.out.1 4 _ rfl
    have c5 := HS1.out.1 5 _ rfl
    have c6 := HS1.out.1 6 _ rfl
    go_wp2_with fail
    refine (small_c w1.heap.size [] (.slice none 0 0) [s.at_] w1.heap.size _ (by simp) BOwn.nil (new_nums w1 [s.at_] _) (by simp) (fun h => by cases h) (by simp)).mono ?_
    rintro y w2 ⟨v2, rfl, hO, hG⟩
    have HO2 : Hid (BOwn w1.heap.size w2 v2 ([b8 s.at_])) := hO
    have HK2 : Hid (Keeps w1 w2) := grow_keep (Keeps.refl _) BOwn.nil hG
    clear hO hG
    clear c0 c1 c2 c3 c4 c5 c6
    have c0 := (HS1.out.keep HK2.out (Nat.le_of_ble_eq_true rfl)).1 0 _ rfl
    have c1 := (HS1.out.keep HK2.out (Nat.le_of_ble_eq_true rfl)).1 1 _ rfl
    have c2 := (HS1.out.keep HK2.out (Nat.le_of_ble_eq_true rfl)).1 2 _ rfl
    have c3 := (HS1.out.keep HK2.out (Nat.le_of_ble_eq_true rfl)).1 3 _ rfl
    have c4 := (HS1.out.keep HK2.out (Nat.le_of_ble_eq_true rfl)).1 4 _ rfl
    have c5 := (HS1.out.keep HK2.out (Nat.le_of_ble_eq_true rfl)).1 5 _ rfl
    have c6 := (HS1.out.keep HK2.out (Nat.le_of_ble_eq_true rfl)).1 6 _ rfl
    go_wp2_with fail
    refine (wide_c w1.heap.size ([b8 s.at_]) v2 [s.clock] w2.heap.size _ (Nat.le_trans HK2.out.size (by simp)) (HO2.out.keep ((Keeps.refl _).alloc _)) (new_nums w2 [s.clock] _) (by simp) (fun h => by have := (HO2.out.own h).2; omega) (by simp [wide])).mono ?_
    rintro y w3 ⟨v3, rfl, hO, hG⟩
    have HO3 : Hid (BOwn w1.heap.size w3 v3 ([b8 s.at_] ++ wide s.clock)) := by
      have hO := hO
      simp only [wides, List.append_nil] at hO
      exact hO
    have HK3 : Hid (Keeps w1 w3) := grow_keep HK2.out HO2.out hG
    clear hO hG HO2 HK2
    clear c0 c1 c2 c3 c4 c5 c6
    have c0 := (HS1.out.keep HK3.out (Nat.le_of_ble_eq_true rfl)).1 0 _ rfl
    have c1 := (HS1.out.keep HK3.out (Nat.le_of_ble_eq_true rfl)).1 1 _ rfl
    have c2 := (HS1.out.keep HK3.out (Nat.le_of_ble_eq_true rfl)).1 2 _ rfl
    have c3 := (HS1.out.keep HK3.out (Nat.le_of_ble_eq_true rfl)).1 3 _ rfl
    have c4 := (HS1.out.keep HK3.out (Nat.le_of_ble_eq_true rfl)).1 4 _ rfl
    have c5 := (HS1.out.keep HK3.out (Nat.le_of_ble_eq_true rfl)).1 5 _ rfl
    have c6 := (HS1.out.keep HK3.out (Nat.le_of_ble_eq_true rfl)).1 6 _ rfl
    go_wp2_with fail
    refine (wide_o 2 w1.heap.size ([b8 s.at_] ++ wide s.clock) v3 [s.v0, s.v1, s.v2, s.v3] sb w3 HK3.out.size HO3.out (fun i n hn => ?_) (Nat.lt_of_lt_of_le HSL.out HK3.out.size) (fun h => by have := (HO3.out.own h).1; have := HSL.out; omega) (by simp [wide])).mono ?_
    · match i, hn with
      | 0, hn => cases hn; exact c2
      | 1, hn => cases hn; exact c3
      | 2, hn => cases hn; exact c4
      | 3, hn => cases hn; exact c5
    rintro y w4 ⟨v4, rfl, hO, hG⟩
    have HO4 : Hid (BOwn w1.heap.size w4 v4 ([b8 s.at_] ++ wide s.clock ++ (wide s.v0 ++ wide s.v1 ++ wide s.v2 ++ wide s.v3))) := by
      have hO := hO
      simp only [wides, List.append_nil, List.append_assoc] at hO ⊢
      exact hO
    have HK4 : Hid (Keeps w1 w4) := Below.trans HK3.out (hG.below HO3.out HK3.out.size)
    clear hO hG HO3 HK3
    clear c0 c1 c2 c3 c4 c5 c6
    have c0 := (HS1.out.keep HK4.out (Nat.le_of_ble_eq_true rfl)).1 0 _ rfl
    have c1 := (HS1.out.keep HK4.out (Nat.le_of_ble_eq_true rfl)).1 1 _ rfl
    have c2 := (HS1.out.keep HK4.out (Nat.le_of_ble_eq_true rfl)).1 2 _ rfl
    have c3 := (HS1.out.keep HK4.out (Nat.le_of_ble_eq_true rfl)).1 3 _ rfl
    have c4 := (HS1.out.keep HK4.out (Nat.le_of_ble_eq_true rfl)).1 4 _ rfl
    have c5 := (HS1.out.keep HK4.out (Nat.le_of_ble_eq_true rfl)).1 5 _ rfl
    have c6 := (HS1.out.keep HK4.out (Nat.le_of_ble_eq_true rfl)).1 6 _ rfl
    go_wp2_with fail
    refine (small_c w1.heap.size ([b8 s.at_] ++ wide s.clock ++ (wide s.v0 ++ wide s.v1 ++ wide s.v2 ++ wide s.v3)) v4 [(s.tab.length : Int)] w4.heap.size _ (Nat.le_trans HK4.out.size (by simp)) (HO4.out.keep ((Keeps.refl _).alloc _)) (new_nums w4 [(s.tab.length : Int)] _) (by simp) (fun h => by have := (HO4.out.own h).2; omega) (by simp [wide])).mono ?_
    rintro y w5 ⟨v5, rfl, hO, hG⟩
    have HO5 : Hid (BOwn w1.heap.size w5 v5 (headBs s)) := by
      have hO := hO
      unfold headBs
      simp only [List.map_cons, List.map_nil, List.append_assoc] at hO ⊢
      exact hO
    have HK5 : Hid (Keeps w1 w5) := grow_keep HK4.out HO4.out hG
    clear hO hG HO4 HK4
    clear c0 c1 c2 c3 c4 c5 c6
    have c0 := (HS1.out.keep HK5.out (Nat.le_of_ble_eq_true rfl)).1 0 _ rfl
    have c1 := (HS1.out.keep HK5.out (Nat.le_of_ble_eq_true rfl)).1 1 _ rfl
    have c2 := (HS1.out.keep HK5.out (Nat.le_of_ble_eq_true rfl)).1 2 _ rfl
    have c3 := (HS1.out.keep HK5.out (Nat.le_of_ble_eq_true rfl)).1 3 _ rfl
    have c4 := (HS1.out.keep HK5.out (Nat.le_of_ble_eq_true rfl)).1 4 _ rfl
    have c5 := (HS1.out.keep HK5.out (Nat.le_of_ble_eq_true rfl)).1 5 _ rfl
    have c6 := (HS1.out.keep HK5.out (Nat.le_of_ble_eq_true rfl)).1 6 _ rfl
    have HB0 : Hid (tabBs (s.tab.take 0) = []) := by show _ = _; rw [List.take_zero]; rfl
    have hhl : (headBs s).length = 12 := by simp [headBs, wide]
    go_wp2_with fail
    clear c0 c1 c2 c3 c4 c5 c6
    go_loopw [5, 35] (fun b i wr => ∃ (k : Nat), k ≤ s.tab.length ∧ i = .int .i64 k ∧ Hid (BOwn w1.heap.size wr b (headBs s ++ tabBs (s.tab.take k))) ∧ Hid (Keeps w1 wr)) (fun _ i _ => s.tab.length - (intOf i).toNat)
    case atStart => exact ⟨0, Nat.zero_le _, rfl, by rw [HB0.out, List.append_nil]; exact HO5.out, HK5⟩
    case round =>
      obtain ⟨k, hk, rfl, HO, HKr⟩ := hrel
      by_cases hlt : k < s.tab.length
      · obtain ⟨b1, o1, p1, hv1, hcs⟩ := (HT1.out.keep HKr.out).at hlt
        obtain ⟨d0, d1, d2, ka, kc, d3, _⟩ := hcs k hlt
        obtain ⟨b0, o0, p0, hv0, hcs0⟩ := HT1.out.at hlt
        obtain ⟨_, _, _, ka0, kc0, e3, hK0⟩ := hcs0 k hlt
        have he : (.slice ka s.tab[k].kept.length kc : Value) = .slice ka0 s.tab[k].kept.length kc0 := by
          have h1 : (.slice (some ⟨b1, o1, none⟩) s.tab.length p1 : Value) = .slice (some ⟨b0, o0, none⟩) s.tab.length p0 := hv1.symm.trans hv0
          injection h1 with h1 _ _
          injection h1 with h1
          injection h1 with h1 h2 _
          subst h1 h2
          have := (HKr.out.cells).1 b1 (o1 + k * 4 + 3) (World.block_lt_of_cell? _ _ e3)
          rw [d3, e3] at this
          injection this
        rw [← he] at hK0
        injection hv1 with hv1 ea eb
        subst hv1
        clear ea eb hcs hcs0 hv0 e3 he
        have HKP : Hid (KeptAt w1 (.slice ka s.tab[k].kept.length kc) s.tab[k].kept) := hK0
        obtain ⟨hsf, hs3⟩ := HFI.out s.tab[k] (List.getElem_mem hlt)
        have HSF : Hid (sesFit s.tab[k]) := hsf
        have HS : Hid (headBs s ++ tabBs (s.tab.take k) ++ sesBs s.tab[k] = headBs s ++ tabBs (s.tab.take (k + 1))) := by
          show _ = _
          rw [tabBs_succ s.tab k hlt, List.append_assoc]
        have hBL : (headBs s ++ tabBs (s.tab.take k)).length ≤ 1000 := by
          have := tabBs_len (s.tab.take k) (fun o ho => (HFI.out o (List.mem_of_mem_take ho)).2)
          rw [List.length_append, hhl]
          have h3 : (s.tab.take k).length ≤ k := List.length_take_le ..
          omega
        clear hK0 hsf hs3
        generalize s.tab[k] = o at *
        go_wp2_with (first | (refine alloc59 rfl rfl ?_; intro w6 ob hBo hko hlo hgo) | (refine store59 rfl rfl ob rfl o ka o.kept.length kc rfl hBo ?_; intro w7 hS7 hT7) | (refine load59 rfl rfl ob rfl hS7 ?_))
        have k7 : Keeps wr w7 := But.to hko hgo hT7
        refine (put_session (w0 := w1) (headBs s ++ tabBs (s.tab.take k)) u5 o ka kc w7 (HKr.out.trans k7) (HO.out.keep k7) HKP.out HSF.out (by omega)).mono ?_
        rintro y w8 ⟨v8, rfl, hO8, hK8⟩
        rw [HS.out] at hO8
        have HO8 : Hid (BOwn w1.heap.size w8 v8 (headBs s ++ tabBs (s.tab.take (k + 1)))) := hO8
        have HK8 : Hid (Keeps w1 w8) := hK8
        clear hO8 hK8 k7 hBo hko hlo hgo hS7 hT7 HO HKr HKP HSF HS
        go_wp2_with fail
        go_roundw
        case rel => exact ⟨k + 1, by omega, by go_num, HO8, HK8⟩
        case measure => simp [intOf]; omega
      · have e : k = s.tab.length := by omega
        subst e
        have hO := HO.out
        rw [List.take_length] at hO
        have hO2 : BOwn w1.heap.size wr u5 (stBs s) := hO
        have hp : 0 < (stBs s).length := by unfold stBs; rw [List.length_append, hhl]; omega
        obtain ⟨g, cp, hv, hcv⟩ := hO2.conv hp
        subst hv
        generalize hn : (stBs s).length = n at *
        go_wp2_with fail
        go_ret2
        rw [HW1.out]
        exact ⟨rfl, HK.out.trans HKr.out⟩
end Go.Proofs.Yteabfjpajgakiad

/- snap.parse, snap.Read. -/
set_option linter.unusedSimpArgs false
set_option linter.unusedVariables false
set_option maxRecDepth 10000
namespace Go.Proofs.Yteabfjpajgakiad
open Go.RowKit

def psS (l : List UInt8) : St := match rdSt l with
  | some (s, _) => s
  | none => z7
def psN (l : List UInt8) : Nat := match rdSt l with
  | some (_, r) => l.length - r.length
  | none => 0
def psW (l : List UInt8) : Bool := (rdSt l).isSome
def psOk (l : List UInt8) : Bool := psW l && ((psN l : Int) == (l.length : Int))
theorem sread (l : List UInt8) (hl : l.length ≤ 100000) (w : World) : Calls Try.prog 62 #[.string (bt l), .func (.func 63) #[] #[]] w fun y w' => ∃ a c, OwnTab w.heap.size w' (.slice a (psS l).tab.length c) (psS l).tab ∧ y = .returned (.tuple #[stV (psS l) (.slice a (psS l).tab.length c), .int .i64 (psN l : Int), .bool (psW l)]) ∧ Keeps w w' := by
  cases h : rdSt l with
  | none =>
    have e1 : psS l = z7 := by unfold psS; rw [h]
    have e2 : psN l = 0 := by unfold psN; rw [h]
    have e3 : psW l = false := by unfold psW; rw [h]; rfl
    rw [e1, e2, e3]
    refine (sread_no l h w).mono ?_
    rintro y w' ⟨rfl, hk⟩
    exact ⟨none, 0, OwnTab.nil _ _, rfl, hk⟩
  | some p =>
    obtain ⟨s, r⟩ := p
    have e1 : psS l = s := by unfold psS; rw [h]
    have e2 : psN l = l.length - r.length := by unfold psN; rw [h]
    have e3 : psW l = true := by unfold psW; rw [h]; rfl
    rw [e1, e2, e3]
    refine (sread_ok l s r h hl w).mono ?_
    rintro y w' ⟨a, c, h1, h2, h3⟩
    exact ⟨a, c, h1, h2, h3⟩

set_option maxHeartbeats 4000000 in
theorem snap_parse (l : List UInt8) (hl : l.length ≤ 100000) (w : World) : Calls Try.prog 37 #[.string (bt l)] w fun y w' => ∃ a c, OwnTab w.heap.size w' (.slice a (psS l).tab.length c) (psS l).tab ∧ y = .returned (.tuple #[stV (psS l) (.slice a (psS l).tab.length c), .bool (psOk l)]) ∧ Keeps w w' := by
  have hs := bt_size l
  have HR : Hid (∀ W, Calls Try.prog 62 #[.string (bt l), .func (.func 63) #[] #[]] W fun y w' => ∃ a c, OwnTab W.heap.size w' (.slice a (psS l).tab.length c) (psS l).tab ∧ y = .returned (.tuple #[stV (psS l) (.slice a (psS l).tab.length c), .int .i64 (psN l : Int), .bool (psW l)]) ∧ Keeps W w') := fun W => sread l hl W
  have HOK : Hid (psOk l = (psW l && ((psN l : Int) == (l.length : Int)))) := rfl
  generalize psOk l = ok at *
  generalize psW l = wh at *
  generalize (psN l : Int) = n at *
  generalize psS l = s at *
  go_enter Try.func37, Try.ntmps37
  go_wp2_with (first | (refine alloc25 rfl rfl ?_; intro w0 ob hBo hko hlo hgo))
  have HO0 : Hid (CBox ob (C7 z7 (.slice none 0 0)) w0) := hBo
  have HK0 : Hid (Keeps w w0) := hko
  have HOG : Hid (w.heap.size ≤ ob) := hgo
  clear hBo hko hlo hgo
  refine (HR.out w0).mono ?_
  rintro y w1 ⟨xa, xc, hT, rfl, hb⟩
  have HO1 : Hid (CBox ob (C7 z7 (.slice none 0 0)) w1) := HO0.out.keep hb (Nat.le_of_ble_eq_true rfl)
  have HK1 : Hid (Keeps w w1) := HK0.out.trans hb
  have HT1 : Hid (OwnTab w0.heap.size w1 (.slice xa s.tab.length xc) s.tab) := hT
  have HOL : Hid (ob < w0.heap.size) := HO0.out.lt (Nat.le_of_ble_eq_true rfl)
  have HZ : Hid (w.heap.size ≤ w0.heap.size) := HK0.out.size
  clear hb hT HO0 HK0 HR
  cases wh with
  | false =>
    have e : ok = false := by rw [HOK.out]; rfl
    subst e
    go_wp2_with (first | (refine alloc25 rfl rfl ?_; intro w2 sb hBs hks hls hgs) | (refine store25 rfl rfl sb rfl s xa s.tab.length xc rfl hBs ?_; intro w3 hS3 hT3) | (refine load25 rfl rfl sb rfl hS3 ?_) | (refine store25 rfl rfl ob rfl s xa s.tab.length xc rfl (HO1.out.keep (But.to hks hgs hT3) (Nat.le_of_ble_eq_true rfl)) ?_; intro w4 hS4 hT4))
    have k13 : Keeps w1 w3 := But.to hks hgs hT3
    refine bodyPost_ret (results2 Try.results37 rfl rfl (read25 hS4)) rfl ?_
    exact ⟨xa, xc, ((HT1.out.keep k13).but HOL.out hT4).base HZ.out, rfl, But.to (HK1.out.trans k13) HOG.out hT4⟩
  | true =>
    cases q : (n == (l.length : Int)) with
    | false =>
      have e : ok = false := by rw [HOK.out, q]; rfl
      subst e
      go_wp2_with (first | (refine alloc25 rfl rfl ?_; intro w2 sb hBs hks hls hgs) | (refine store25 rfl rfl sb rfl s xa s.tab.length xc rfl hBs ?_; intro w3 hS3 hT3) | (refine load25 rfl rfl sb rfl hS3 ?_) | (refine store25 rfl rfl ob rfl s xa s.tab.length xc rfl (HO1.out.keep (But.to hks hgs hT3) (Nat.le_of_ble_eq_true rfl)) ?_; intro w4 hS4 hT4))
      have k13 : Keeps w1 w3 := But.to hks hgs hT3
      refine bodyPost_ret (results2 Try.results37 rfl rfl (read25 hS4)) rfl ?_
      exact ⟨xa, xc, ((HT1.out.keep k13).but HOL.out hT4).base HZ.out, rfl, But.to (HK1.out.trans k13) HOG.out hT4⟩
    | true =>
      have e : ok = true := by rw [HOK.out, q]; rfl
      subst e
      go_wp2_with (first | (refine alloc25 rfl rfl ?_; intro w2 sb hBs hks hls hgs) | (refine store25 rfl rfl sb rfl s xa s.tab.length xc rfl hBs ?_; intro w3 hS3 hT3) | (refine load25 rfl rfl sb rfl hS3 ?_) | (refine store25 rfl rfl ob rfl s xa s.tab.length xc rfl (HO1.out.keep (But.to hks hgs hT3) (Nat.le_of_ble_eq_true rfl)) ?_; intro w4 hS4 hT4))
      have k13 : Keeps w1 w3 := But.to hks hgs hT3
      refine bodyPost_ret (results2 Try.results37 rfl rfl (read25 hS4)) rfl ?_
      exact ⟨xa, xc, ((HT1.out.keep k13).but HOL.out hT4).base HZ.out, rfl, But.to (HK1.out.trans k13) HOG.out hT4⟩
def rdE (l : List UInt8) : Int := if l.length ≤ 4096 then (if (snOf l).isSome then 0 else 1) else 2
def rdS (l : List UInt8) : St := if l.length ≤ 4096 then (snOf l).getD z7 else z7
theorem snOf_ps (l : List UInt8) : snOf l = if psOk l && (stErr (psS l) == 0) then some (psS l) else none := by
  unfold snOf psOk psW psN psS
  cases h : rdSt l with
  | none => rfl
  | some p =>
    obtain ⟨s, r⟩ := p
    have hb := congrArg List.length (rdSt_bytes h)
    rw [List.length_append] at hb
    match r with
    | [] => simp
    | a :: t =>
      rw [List.length_cons] at hb
      have : (((l.length - (a :: t).length : Nat) : Int) == (l.length : Int)) = false := by
        rw [List.length_cons]
        simp
        omega
      simp only [Option.isSome_some, Bool.true_and, this, Bool.false_and, Bool.false_eq_true, if_false]

set_option maxHeartbeats 4000000 in
theorem snap_read (l : List UInt8) (w : World) : Calls Try.prog 12 #[.string (bt l)] w fun y w' => ∃ a c, OwnTab w.heap.size w' (.slice a (rdS l).tab.length c) (rdS l).tab ∧ y = .returned (.tuple #[stV (rdS l) (.slice a (rdS l).tab.length c), .int .i64 (rdE l)]) ∧ Keeps w w' := by
  have hs := bt_size l
  by_cases h4 : l.length ≤ 4096
  · have HE : Hid (rdE l = if psOk l && (stErr (psS l) == 0) then 0 else 1) := by
      show _ = _
      unfold rdE
      rw [if_pos h4, snOf_ps]
      split <;> rfl
    have HS : Hid (rdS l = if psOk l && (stErr (psS l) == 0) then psS l else z7) := by
      show _ = _
      unfold rdS
      rw [if_pos h4, snOf_ps]
      split <;> rfl
    have HP : Hid (∀ W, Calls Try.prog 37 #[.string (bt l)] W fun y w' => ∃ a c, OwnTab W.heap.size w' (.slice a (psS l).tab.length c) (psS l).tab ∧ y = .returned (.tuple #[stV (psS l) (.slice a (psS l).tab.length c), .bool (psOk l)]) ∧ Keeps W w') := fun W => snap_parse l (by omega) W
    have HCH : Hid (∀ v W, TabAt W v (psS l).tab → Calls Try.prog 29 #[stV (psS l) v] W fun y w' => y = .returned (.int .i64 (stErr (psS l))) ∧ Keeps W w') := fun v W h => state_check (psS l) v W h
    generalize rdE l = RE at *
    generalize rdS l = RS at *
    generalize stErr (psS l) = er at *
    generalize psS l = s at *
    generalize psOk l = ok at *
    go_enter Try.func12, Try.ntmps12
    go_wp2_with (first | (refine alloc25 rfl rfl ?_; intro w0 ob hBo hko hlo hgo))
    have HO0 : Hid (CBox ob (C7 z7 (.slice none 0 0)) w0) := hBo
    have HK0 : Hid (Keeps w w0) := hko
    have HOG : Hid (w.heap.size ≤ ob) := hgo
    clear hBo hko hlo hgo
    refine (HP.out w0).mono ?_
    rintro y w1 ⟨xa, xc, hT, rfl, hb⟩
    have HO1 : Hid (CBox ob (C7 z7 (.slice none 0 0)) w1) := HO0.out.keep hb (Nat.le_of_ble_eq_true rfl)
    have HK1 : Hid (Keeps w w1) := HK0.out.trans hb
    have HT1 : Hid (OwnTab w0.heap.size w1 (.slice xa s.tab.length xc) s.tab) := hT
    have HOL : Hid (ob < w0.heap.size) := HO0.out.lt (Nat.le_of_ble_eq_true rfl)
    have HZ : Hid (w.heap.size ≤ w0.heap.size) := HK0.out.size
    clear hb hT HO0 HK0 HP
    cases ok with
    | false =>
      have e1 : RE = 1 := HE.out
      have e2 : RS = z7 := HS.out
      subst e1 e2
      go_wp2_with (first | (refine alloc25 rfl rfl ?_; intro w2 sb hBs hks hls hgs) | (refine store25 rfl rfl sb rfl s xa s.tab.length xc rfl hBs ?_; intro w3 hS3 hT3) | (refine store25 rfl rfl ob rfl z7 none 0 0 rfl (HO1.out.keep (But.to hks hgs hT3) (Nat.le_of_ble_eq_true rfl)) ?_; intro w4 hS4 hT4))
      have k13 : Keeps w1 w3 := But.to hks hgs hT3
      refine bodyPost_ret (results2 Try.results12 rfl rfl (read25 hS4)) rfl ?_
      exact ⟨none, 0, OwnTab.nil _ _, rfl, But.to (HK1.out.trans k13) HOG.out hT4⟩
    | true =>
      cases q : (er == 0) with
      | false =>
        have q' : (er != 0) = true := by simp [bne, q]
        have e1 : RE = 1 := by rw [HE.out, q]; rfl
        have e2 : RS = z7 := by rw [HS.out, q]; rfl
        subst e1 e2
        go_wp2_with (first | (refine alloc25 rfl rfl ?_; intro w2 sb hBs hks hls hgs) | (refine store25 rfl rfl sb rfl s xa s.tab.length xc rfl hBs ?_; intro w3 hS3 hT3) | (refine load25w (by kernel_rfl) rfl sb rfl hS3 ?_))
        have k13 : Keeps w1 w3 := But.to hks hgs hT3
        refine (HCH.out (.slice xa s.tab.length xc) w3 (HT1.out.keep k13).tab).mono ?_
        rintro y w4 ⟨rfl, hb⟩
        have HO4 : Hid (CBox ob (C7 z7 (.slice none 0 0)) w4) := (HO1.out.keep k13 (Nat.le_of_ble_eq_true rfl)).keep hb (Nat.le_of_ble_eq_true rfl)
        have HK4 : Hid (Keeps w w4) := (HK1.out.trans k13).trans hb
        clear hb k13 hBs hks hls hgs hS3 hT3
        go_wp2_with (first | (refine store25 rfl rfl ob rfl z7 none 0 0 rfl HO4.out ?_; intro w5 hS5 hT5))
        refine bodyPost_ret (results2 Try.results12 rfl rfl (read25 hS5)) rfl ?_
        exact ⟨none, 0, OwnTab.nil _ _, rfl, But.to HK4.out HOG.out hT5⟩
      | true =>
        have q' : (er != 0) = false := by simp [bne, q]
        have e1 : RE = 0 := by rw [HE.out, q]; rfl
        have e2 : RS = s := by rw [HS.out, q]; rfl
        subst e1 e2
        go_wp2_with (first | (refine alloc25 rfl rfl ?_; intro w2 sb hBs hks hls hgs) | (refine store25 rfl rfl sb rfl RS xa RS.tab.length xc rfl hBs ?_; intro w3 hS3 hT3) | (refine load25w (by kernel_rfl) rfl sb rfl hS3 ?_))
        have k13 : Keeps w1 w3 := But.to hks hgs hT3
        refine (HCH.out (.slice xa RS.tab.length xc) w3 (HT1.out.keep k13).tab).mono ?_
        rintro y w4 ⟨rfl, hb⟩
        have HO4 : Hid (CBox ob (C7 z7 (.slice none 0 0)) w4) := (HO1.out.keep k13 (Nat.le_of_ble_eq_true rfl)).keep hb (Nat.le_of_ble_eq_true rfl)
        have HK4 : Hid (Keeps w w4) := (HK1.out.trans k13).trans hb
        have HS4 : Hid (CBox sb (C7 RS (.slice xa RS.tab.length xc)) w4) := hS3.keep hb (Nat.le_of_ble_eq_true rfl)
        have HT4 : Hid (OwnTab w0.heap.size w4 (.slice xa RS.tab.length xc) RS.tab) := (HT1.out.keep k13).keep hb
        clear hb k13 hBs hks hls hgs hS3 hT3
        go_wp2_with (first | (refine load25 rfl rfl sb rfl HS4.out ?_) | (refine store25 rfl rfl ob rfl RS xa RS.tab.length xc rfl HO4.out ?_; intro w5 hS5 hT5))
        refine bodyPost_ret (results2 Try.results12 rfl rfl (read25 hS5)) rfl ?_
        exact ⟨xa, xc, (HT4.out.but HOL.out hT5).base HZ.out, rfl, But.to HK4.out HOG.out hT5⟩
  · have HE : Hid (rdE l = 2) := if_neg h4
    have HS : Hid (rdS l = z7) := if_neg h4
    generalize rdE l = RE at *
    generalize rdS l = RS at *
    have e1 := HE.out
    have e2 := HS.out
    subst e1 e2
    go_enter Try.func12, Try.ntmps12
    go_wp2_with (first | (refine alloc25 rfl rfl ?_; intro w0 ob hBo hko hlo hgo) | (refine store25 rfl rfl ob rfl z7 none 0 0 rfl hBo ?_; intro w5 hS5 hT5))
    refine bodyPost_ret (results2 Try.results12 rfl rfl (read25 hS5)) rfl ?_
    exact ⟨none, 0, OwnTab.nil _ _, rfl, But.to hko hgo hT5⟩
end Go.Proofs.Yteabfjpajgakiad

/- States: the law's shop, Begin. -/
set_option linter.unusedSimpArgs false
set_option linter.unusedVariables false
set_option maxRecDepth 10000
namespace Go.Proofs.Yteabfjpajgakiad
open Go.RowKit

/-- A row of the law, and where its answers lie. -/
theorem row_at (c : Int) (w : World) : Calls Try.prog 64 #[.int .i64 c] w fun e w' => ∃ g, w.heap.size ≤ g ∧ g < w'.heap.size ∧ KeptAt w' (.slice (some ⟨g, 0, none⟩) 2 2) [(3, 7), (5, -1)] ∧ e = .returned (sesV (rowS c) (.slice (some ⟨g, 0, none⟩) 2 2)) ∧ Keeps w w' := by
  go_enter Try.func64, Try.ntmps64
  go_wp2_with fail
  refine bodyPost_ret (v := sesV (rowS c) (.slice (some ⟨w.heap.size + 1, 0, none⟩) 2 2)) ?_ rfl ?_
  · simp [results, Try.results64, go_sem]
  · refine ⟨w.heap.size + 1, by omega, by simp, ?_, rfl, ?_⟩
    · refine ⟨rfl, by unfold maxLen; simp, .inr ⟨_, _, rfl, fun j u hu => ?_⟩⟩
      rw [Addr.add_lit, Nat.zero_add]
      match j, hu with
      | 0, hu => simp [repCells] at hu; subst hu; simp [go_sem]
      | 1, hu => simp [repCells] at hu; subst hu; simp [go_sem]
      | 2, hu => simp [repCells] at hu; subst hu; simp [go_sem]
      | 3, hu => simp [repCells] at hu; subst hu; simp [go_sem]
    · exact ((Keeps.refl _).alloc _).alloc _

abbrev shopS : St := ⟨6, 10, 7, 0, 0, 1, [rowS 2, rowS 4]⟩

/-- Where the shop's table lies. -/
structure ShopAt (w : World) (b : Nat) (ka : Option Addr) (kc : Nat) (la : Option Addr) (lc : Nat) : Prop where
  c0 : w.cell? ⟨b, 0, none⟩ = some (.int .i64 2)
  c1 : w.cell? ⟨b, 1, none⟩ = some (.int .i64 2)
  c2 : w.cell? ⟨b, 2, none⟩ = some (.int .i64 9)
  c3 : w.cell? ⟨b, 3, none⟩ = some (.slice ka 2 kc)
  c4 : w.cell? ⟨b, 4, none⟩ = some (.int .i64 4)
  c5 : w.cell? ⟨b, 5, none⟩ = some (.int .i64 2)
  c6 : w.cell? ⟨b, 6, none⟩ = some (.int .i64 9)
  c7 : w.cell? ⟨b, 7, none⟩ = some (.slice la 2 lc)
  fz : w.frozen? ⟨b, 3, none⟩ = false
  k1 : KeptAt w (.slice ka 2 kc) [(3, 7), (5, -1)]
  k2 : KeptAt w (.slice la 2 lc) [(3, 7), (5, -1)]

theorem ShopAt.keep {w w' : World} {b : Nat} {ka : Option Addr} {kc : Nat} {la : Option Addr} {lc : Nat} (h : ShopAt w b ka kc la lc) (hk : Keeps w w') : ShopAt w' b ka kc la lc :=
  ⟨cell_kept h.c0 hk, cell_kept h.c1 hk, cell_kept h.c2 hk, cell_kept h.c3 hk, cell_kept h.c4 hk, cell_kept h.c5 hk, cell_kept h.c6 hk, cell_kept h.c7 hk,
    (Below.frozen hk (p := ⟨b, 3, none⟩) (World.block_lt_of_cell? _ _ h.c3)).trans h.fz, h.k1.keep hk, h.k2.keep hk⟩

theorem tab_cells {w : World} {b : Nat} {s t : Ses} {k l : Value} (c0 : w.cell? ⟨b, 0, none⟩ = some (.int .i64 s.client)) (c1 : w.cell? ⟨b, 1, none⟩ = some (.int .i64 s.acked)) (c2 : w.cell? ⟨b, 2, none⟩ = some (.int .i64 s.seen)) (c3 : w.cell? ⟨b, 3, none⟩ = some k)
    (c4 : w.cell? ⟨b, 4, none⟩ = some (.int .i64 t.client)) (c5 : w.cell? ⟨b, 5, none⟩ = some (.int .i64 t.acked)) (c6 : w.cell? ⟨b, 6, none⟩ = some (.int .i64 t.seen)) (c7 : w.cell? ⟨b, 7, none⟩ = some l) (hk : KeptAt w k s.kept) (hl : KeptAt w l t.kept) :
    TabAt w (.slice (some ⟨b, 0, none⟩) 2 2) [s, t] := by
  refine ⟨[k, l], ⟨hk, hl, trivial⟩, rfl, by unfold maxLen; simp, .inr ⟨_, _, rfl, fun j u hu => ?_⟩⟩
  rw [Addr.add_lit, Nat.zero_add]
  match j, hu with
  | 0, hu => simp [sesCells] at hu; subst hu; exact c0
  | 1, hu => simp [sesCells] at hu; subst hu; exact c1
  | 2, hu => simp [sesCells] at hu; subst hu; exact c2
  | 3, hu => simp [sesCells] at hu; subst hu; exact c3
  | 4, hu => simp [sesCells] at hu; subst hu; exact c4
  | 5, hu => simp [sesCells] at hu; subst hu; exact c5
  | 6, hu => simp [sesCells] at hu; subst hu; exact c6
  | 7, hu => simp [sesCells] at hu; subst hu; exact c7

theorem ShopAt.tab {w : World} {b : Nat} {ka : Option Addr} {kc : Nat} {la : Option Addr} {lc : Nat} (h : ShopAt w b ka kc la lc) : TabAt w (.slice (some ⟨b, 0, none⟩) 2 2) [rowS 2, rowS 4] :=
  tab_cells h.c0 h.c1 h.c2 h.c3 h.c4 h.c5 h.c6 h.c7 h.k1 h.k2

theorem begin_c (w : World) : Calls Try.prog 18 #[] w fun e w' => e = .returned (stV ⟨0, 0, 0, 0, 0, 0, []⟩ (.slice none 0 0)) ∧ Keeps w w' := by
  go_enter Try.func18, Try.ntmps18
  go_wp2_with fail
  refine bodyPost_ret (v := stV ⟨0, 0, 0, 0, 0, 0, []⟩ (.slice none 0 0)) ?_ rfl ?_
  · simp [results, Try.results18, go_sem]
  · exact ⟨rfl, (Keeps.refl _).alloc _⟩

set_option maxHeartbeats 2000000 in
theorem shop_c (w : World) : Calls Try.prog 38 #[] w fun e w' => ∃ b ka kc la lc, w.heap.size ≤ b ∧ ShopAt w' b ka kc la lc ∧ (KeptFar b w' (.slice la 2 lc) [(3, 7), (5, -1)]) ∧ e = .returned (stV shopS (.slice (some ⟨b, 0, none⟩) 2 2)) ∧ Keeps w w' := by
  go_enter Try.func38, Try.ntmps38
  go_wp2_with fail
  refine (row_at 2 _).mono ?_
  rintro e w1 ⟨g1, hg1, hl1, k1, rfl, hb⟩
  go_wp2_with fail
  refine (row_at 4 _).mono ?_
  rintro e w2 ⟨g2, hg2, hl2, k2, rfl, hb2⟩
  have hB := hb.trans hb2
  have k1 := k1.keep hb2
  have hg1' : g1 ≠ w.heap.size := by simp at hg1; omega
  have hg2' : g2 ≠ w.heap.size := by have := hb.size; simp at this; omega
  have hl1' : g1 < w2.heap.size := Nat.lt_of_lt_of_le hl1 hb2.size
  have hk2 : Keeps w w2 := ((Keeps.refl _).alloc _).trans hB
  have x0 : w2.cell? ⟨w.heap.size, 0, none⟩ = some (.int .i64 0) := cell_kept (by simp [go_sem]) hB
  have x1 : w2.cell? ⟨w.heap.size, 1, none⟩ = some (.int .i64 0) := cell_kept (by simp [go_sem]) hB
  have x2 : w2.cell? ⟨w.heap.size, 2, none⟩ = some (.int .i64 0) := cell_kept (by simp [go_sem]) hB
  have x3 : w2.cell? ⟨w.heap.size, 3, none⟩ = some (.int .i64 0) := cell_kept (by simp [go_sem]) hB
  have x4 : w2.cell? ⟨w.heap.size, 4, none⟩ = some (.int .i64 0) := cell_kept (by simp [go_sem]) hB
  have x5 : w2.cell? ⟨w.heap.size, 5, none⟩ = some (.int .i64 0) := cell_kept (by simp [go_sem]) hB
  have x6 : w2.cell? ⟨w.heap.size, 6, none⟩ = some (.slice none 0 0) := cell_kept (by simp [go_sem]) hB
  have xf : ∀ i, w2.frozen? ⟨w.heap.size, i, none⟩ = false := fun i => (Below.frozen hB (p := ⟨w.heap.size, i, none⟩) (by simp)).trans (by simp [go_sem])
  have hlt := World.block_lt_of_cell? _ _ x6
  simp only [] at hlt
  clear hb hb2 hB
  have K1 : Hid (KeptFar w.heap.size w2 (.slice (some ⟨g1, 0, none⟩) 2 2) [(3, 7), (5, -1)]) := kept_far_at k1 hg1' hl1'
  have K2 : Hid (KeptFar w.heap.size w2 (.slice (some ⟨g2, 0, none⟩) 2 2) [(3, 7), (5, -1)]) := kept_far_at k2 hg2' hl2
  clear k1 k2
  go_wp2_with fail
  refine bodyPost_ret (v := stV shopS (.slice (some ⟨w2.heap.size, 0, none⟩) 2 2)) ?_ rfl ?_
  · simp [results, Try.results38, go_sem, x0, x1, x2, x3, x4, x5, x6, hlt]
  · have hbt : But w.heap.size w2 ((((((((w2.setCell ⟨w.heap.size, 0, none⟩ (.int .i64 6)).setCell ⟨w.heap.size, 1, none⟩ (.int .i64 10)).setCell ⟨w.heap.size, 2, none⟩ (.int .i64 7)).setCell ⟨w.heap.size, 3, none⟩ (.int .i64 0)).setCell ⟨w.heap.size, 4, none⟩ (.int .i64 0)).setCell ⟨w.heap.size, 5, none⟩ (.int .i64 1)).setCell ⟨w.heap.size, 6, none⟩ (.slice (some ⟨w2.heap.size, 0, none⟩) 2 2))) :=
      (((((((But.refl _ _).set 0 _).set 1 _).set 2 _).set 3 _).set 4 _).set 5 _).set 6 _
    have hbu := hbt.keeps ((Keeps.refl _).alloc (.cells #[.int .i64 2, .int .i64 2, .int .i64 9, .slice (some ⟨g1, 0, none⟩) 2 2, .int .i64 4, .int .i64 2, .int .i64 9, .slice (some ⟨g2, 0, none⟩) 2 2] 59))
    have kk2 := K2.out _ hbu
    refine ⟨w2.heap.size, _, _, _, _, hk2.size, ⟨?_, ?_, ?_, ?_, ?_, ?_, ?_, ?_, ?_, K1.out _ hbu, kk2⟩, kept_far_at kk2 (by omega) (by simp; omega), rfl, But.to hk2 (Nat.le_refl _) hbu⟩
    all_goals simp [go_sem]
end Go.Proofs.Yteabfjpajgakiad

/- Two states are the same just if they are one. -/
namespace Go.Proofs.Yteabfjpajgakiad
open Go.RowKit

theorem same_kept_iff : ∀ {l m : List (Int × Int)}, sameKept l m = true ↔ l = m
  | [], [] => by simp [sameKept]
  | [], _ :: _ => by simp [sameKept]
  | _ :: _, [] => by simp [sameKept]
  | (q, v) :: r, (q', v') :: r' => by simp [sameKept, same_kept_iff (l := r) (m := r')]
theorem same_ses_iff {s t : Ses} : sameSes s t = true ↔ s = t := by
  obtain ⟨a, b, c, d⟩ := s
  obtain ⟨a', b', c', d'⟩ := t
  simp [sameSes, same_kept_iff]
theorem same_tab_iff : ∀ {L M : List Ses}, sameTab L M = true ↔ L = M
  | [], [] => by simp [sameTab]
  | [], _ :: _ => by simp [sameTab]
  | _ :: _, [] => by simp [sameTab]
  | s :: r, t :: r' => by simp [sameTab, same_ses_iff, same_tab_iff (L := r) (M := r')]
theorem same_st_iff {s t : St} : sameSt s t = true ↔ s = t := by
  obtain ⟨a, b, c, d, e, f, g⟩ := s
  obtain ⟨a', b', c', d', e', f', g'⟩ := t
  simp [sameSt, sameVals, same_tab_iff, and_assoc]
theorem same_self (t : St) : sameSt t t = true := same_st_iff.2 rfl
end Go.Proofs.Yteabfjpajgakiad

/- snapBegun. -/
set_option linter.unusedSimpArgs false
set_option linter.unusedVariables false
set_option maxRecDepth 10000
namespace Go.Proofs.Yteabfjpajgakiad
open Go.RowKit

theorem y_load25 {ops : Array Oper} {S : World → Prop} {op : Oper} {a : Act} (hw : Region.wanted op (yielded ops a.tmps) = true) {x : Operand} (ho : op.op = .load 25 x) (b : Nat) (hx : a.eval x = .pointer (some ⟨b, 0, none⟩)) {s : St} {p : Value} (hS : ∀ w, S w → CBox b (C7 s p) w) : YieldsIf Try.prog ops S op (stV s p) a := by
  obtain ⟨d, h1, h2⟩ := row25
  exact yieldsIf_load_mid hw _ x ho b _ hx _ d (fun w hs => range_of (hS w hs) 0 7 (ds := C7 s p) rfl) h1 h2 (info_size size25 rfl)
def badS : St := ⟨-1, 0, 0, 0, 0, 0, []⟩
theorem snap_runs : stErr shopS = 0 ∧ (stBs shopS).length = 34 ∧ stErr badS = 3 := by decide +kernel
theorem rd_of {s : St} (h : stErr s = 0) : rdS (stBs s) = s ∧ rdE (stBs s) = 0 := by
  have h1 := stBs_len h
  unfold rdS rdE
  rw [if_pos (by omega), if_pos (by omega), snOf_of h]
  exact ⟨rfl, rfl⟩
theorem rd_more {s : St} (h : stErr s = 0) (x : UInt8) : rdE (stBs s ++ [x]) = 1 := by
  have h1 := stBs_len h
  have h2 : snOf (stBs s ++ [x]) = none := by
    unfold snOf
    rw [rdSt_of s [x] (st_fit h).1]
  unfold rdE
  rw [if_pos (by rw [List.length_append]; simp; omega), h2]
  rfl
theorem shop_at (W : World) : Calls Try.prog 38 #[] W fun y w' => ∃ a c, TabAt w' (.slice a shopS.tab.length c) shopS.tab ∧ y = .returned (stV shopS (.slice a shopS.tab.length c)) ∧ Keeps W w' := by
  refine (shop_c W).mono ?_
  rintro y w' ⟨b, ka, kc, la, lc, h1, h2, h3, h4, h5⟩
  exact ⟨some ⟨b, 0, none⟩, 2, h2.tab, h4, h5⟩

set_option maxHeartbeats 4000000 in
theorem snap_begun (w : World) : Calls Try.prog 13 #[] w fun y w' => y = .returned (.bool true) ∧ Keeps w w' := by
  obtain ⟨p1, p2, p3⟩ := snap_runs
  obtain ⟨s1, hs1⟩ : ∃ z, z = bt (stBs shopS) := ⟨_, rfl⟩
  have hsz : s1.size = 34 := by rw [hs1, bt_size, p2]
  have HADD : Hid (s1 ++ ByteArray.mk #[120] = bt (stBs shopS ++ [120])) := by show _ = _; rw [hs1]; exact bt_append _ [120]
  have HW1 : Hid (∀ v W, TabAt W v shopS.tab → Calls Try.prog 9 #[stV shopS v] W fun y w' => y = .returned (.tuple #[.string s1, .int .i64 0]) ∧ Keeps W w') := fun v W h => by
    have := snap_write shopS v W h
    rw [show snBs shopS = stBs shopS from if_pos (by rw [p1]; rfl), p1, ← hs1] at this
    exact this
  have HW2 : Hid (∀ W, ∃ z, Calls Try.prog 9 #[stV badS (.slice none 0 0)] W fun y w' => y = .returned (.tuple #[.string z, .int .i64 3]) ∧ Keeps W w') := fun W => by
    have := snap_write badS (.slice none 0 0) W (OwnTab.nil 0 W).tab
    rw [p3] at this
    exact ⟨_, this⟩
  have HR1 : Hid (∀ W, Calls Try.prog 12 #[.string s1] W fun y w' => ∃ a c, TabAt w' (.slice a shopS.tab.length c) shopS.tab ∧ y = .returned (.tuple #[stV shopS (.slice a shopS.tab.length c), .int .i64 0]) ∧ Keeps W w') := fun W => by
    rw [hs1]
    refine (snap_read (stBs shopS) W).mono ?_
    obtain ⟨r1, r2⟩ := rd_of p1
    rw [r1, r2]
    rintro y w' ⟨a, c, h1, h2, h3⟩
    exact ⟨a, c, h1.tab, h2, h3⟩
  have HR2 : Hid (∀ W, Calls Try.prog 12 #[.string (bt (stBs shopS ++ [120]))] W fun y w' => ∃ z a c, y = .returned (.tuple #[stV z (.slice a z.tab.length c), .int .i64 1]) ∧ Keeps W w') := fun W => by
    refine (snap_read (stBs shopS ++ [120]) W).mono ?_
    rw [rd_more p1]
    rintro y w' ⟨a, c, h1, h2, h3⟩
    exact ⟨_, a, c, h2, h3⟩
  have HSM : Hid (∀ v v' W, TabAt W v shopS.tab → TabAt W v' shopS.tab → Calls Try.prog 14 #[stV shopS v, stV shopS v'] W fun e w' => e = .returned (.bool true) ∧ Keeps W w') := fun v v' W h h' => by
    have := same_of shopS shopS v v' W h h'
    rw [same_self] at this
    exact this
  have HSH : Hid (∀ W, Calls Try.prog 38 #[] W fun y w' => ∃ a c, TabAt w' (.slice a shopS.tab.length c) shopS.tab ∧ y = .returned (stV shopS (.slice a shopS.tab.length c)) ∧ Keeps W w') := fun W => shop_at W
  have HBS : Hid (badS = ⟨-1, 0, 0, 0, 0, 0, []⟩) := rfl
  clear p1 p2 p3 hs1
  generalize hsh : shopS = sh at *
  clear hsh
  go_enter Try.func13, Try.ntmps13
  go_wp2_with fail
  refine (HSH.out w).mono ?_
  rintro y w1 ⟨a1, c1, h1, rfl, hb⟩
  have HK1 : Hid (Keeps w w1) := hb
  have HT1 : Hid (TabAt w1 (.slice a1 sh.tab.length c1) sh.tab) := h1
  clear hb h1
  go_wp2_with fail
  refine (HW1.out _ w1 HT1.out).mono ?_
  rintro y w2 ⟨rfl, hb⟩
  have HK2 : Hid (Keeps w w2) := HK1.out.trans hb
  clear hb HK1 HT1 HW1
  go_wp2_with fail
  refine (HR1.out w2).mono ?_
  rintro y w3 ⟨a3, c3, h3, rfl, hb⟩
  have HK3 : Hid (Keeps w w3) := HK2.out.trans hb
  have HT3 : Hid (TabAt w3 (.slice a3 sh.tab.length c3) sh.tab) := h3
  clear hb h3 HK2 HR1
  go_wp2_with (first | (refine alloc25 rfl rfl ?_; intro w4 sb hBs hks hls hgs) | (refine store25 rfl rfl sb rfl sh a3 sh.tab.length c3 rfl hBs ?_; intro w5 hS5 hT5))
  have k35 : Keeps w3 w5 := But.to hks hgs hT5
  have HK5 : Hid (Keeps w w5) := HK3.out.trans k35
  have HT5 : Hid (TabAt w5 (.slice a3 sh.tab.length c3) sh.tab) := HT3.out.keep k35
  have HS5 : Hid (CBox sb (C7 sh (.slice a3 sh.tab.length c3)) w5) := hS5
  clear k35 hBs hks hls hgs hS5 hT5 HK3 HT3
  rw [HADD.out]
  refine (HR2.out w5).mono ?_
  rintro y w6 ⟨z, a6, c6, rfl, hb⟩
  have HK6 : Hid (Keeps w w6) := HK5.out.trans hb
  have HT6 : Hid (TabAt w6 (.slice a3 sh.tab.length c3) sh.tab) := HT5.out.keep hb
  have HS6 : Hid (CBox sb (C7 sh (.slice a3 sh.tab.length c3)) w6) := HS5.out.keep hb (Nat.le_of_ble_eq_true rfl)
  clear hb HK5 HT5 HS5 HR2
  go_wp2_with (first | (refine alloc25 rfl rfl ?_; intro w7 xb hBx hkx hlx hgx) | (refine store25 rfl rfl xb rfl z a6 z.tab.length c6 rfl hBx ?_; intro w8 hS8 hT8))
  have k68 : Keeps w6 w8 := But.to hkx hgx hT8
  have HK8 : Hid (Keeps w w8) := HK6.out.trans k68
  have HT8 : Hid (TabAt w8 (.slice a3 sh.tab.length c3) sh.tab) := HT6.out.keep k68
  have HS8 : Hid (CBox sb (C7 sh (.slice a3 sh.tab.length c3)) w8) := HS6.out.keep k68 (Nat.le_of_ble_eq_true rfl)
  clear k68 hBx hkx hlx hgx hS8 hT8 HK6 HT6 HS6
  obtain ⟨z9, h9⟩ := HW2.out w8
  rw [HBS.out] at h9
  refine h9.mono ?_
  rintro y w9 ⟨rfl, hb⟩
  have HK9 : Hid (Keeps w w9) := HK8.out.trans hb
  have HT9 : Hid (TabAt w9 (.slice a3 sh.tab.length c3) sh.tab) := HT8.out.keep hb
  have HS9 : Hid (CBox sb (C7 sh (.slice a3 sh.tab.length c3)) w9) := HS8.out.keep hb (Nat.le_of_ble_eq_true rfl)
  clear hb h9 HK8 HT8 HS8 HW2
  have hq : ((s1.size : Int) == 34) = true := by rw [hsz]; rfl
  clear hsz
  go_wp2_with fail
  refine wp_region_held_drew (S := fun W => Keeps w9 W) (by kernel_rfl) (Keeps.refl _).drew (fun hS => ?_)
  obtain ⟨V0, hV0⟩ : ∃ z, z = w9.drew := ⟨_, rfl⟩
  rw [← hV0] at hS ⊢
  clear hV0
  refine wpAnyH_take (i := 0) (v := .int .i64 0) rfl (by kernel_rfl) (by kernel_rfl) (by kernel_rfl) (fun _ _ _ h => h) (Or.inl ⟨by kernel_rfl, fun w _ => by kernel_rfl⟩) hS ?_
  refine wpAnyH_take (i := 1) (v := .bool true) rfl (by kernel_rfl) (by kernel_rfl) (by kernel_rfl) (fun _ _ _ h => h) (Or.inl ⟨by kernel_rfl, fun w _ => by kernel_rfl⟩) hS ?_
  refine wpAnyH_take (i := 2) (v := .bool true) rfl (by kernel_rfl) (by kernel_rfl) (by kernel_rfl) (fun _ _ _ h => h) (Or.inl ⟨by kernel_rfl, fun w _ => by kernel_rfl⟩) hS ?_
  refine wpAnyH_take (i := 3) (v := .int .i64 0) rfl (by kernel_rfl) (by kernel_rfl) (by kernel_rfl) (fun _ _ _ h => h) (Or.inl ⟨by kernel_rfl, fun w _ => by kernel_rfl⟩) hS ?_
  refine wpAnyH_take (i := 4) (v := .bool true) rfl (by kernel_rfl) (by kernel_rfl) (by kernel_rfl) (fun _ _ _ h => h) (Or.inl ⟨by kernel_rfl, fun w _ => by kernel_rfl⟩) hS ?_
  refine wpAnyH_take (i := 5) (v := .bool true) rfl (by kernel_rfl) (by kernel_rfl) (by kernel_rfl) (fun _ _ _ h => h) (Or.inl ⟨by kernel_rfl, fun w _ => by kernel_rfl⟩) hS ?_
  refine wpAnyH_take (i := 6) (v := .bool true) rfl (by kernel_rfl) (by kernel_rfl) (by kernel_rfl) (fun _ _ _ h => h) (Or.inl ⟨by kernel_rfl, fun w _ => by kernel_rfl⟩) hS ?_
  refine wpAnyH_take (i := 7) (v := .int .i64 1) rfl (by kernel_rfl) (by kernel_rfl) (by kernel_rfl) (fun _ _ _ h => h) (Or.inl ⟨by kernel_rfl, fun w _ => by kernel_rfl⟩) hS ?_
  refine wpAnyH_take (i := 8) (v := .bool true) rfl (by kernel_rfl) (by kernel_rfl) (by kernel_rfl) (fun _ _ _ h => h) (Or.inl ⟨by kernel_rfl, fun w _ => by kernel_rfl⟩) hS ?_
  refine wpAnyH_take (i := 9) (v := .bool true) rfl (by kernel_rfl) (by kernel_rfl) (by kernel_rfl) (fun _ _ _ h => h) (Or.inl ⟨by kernel_rfl, fun w _ => by kernel_rfl⟩) hS ?_
  refine wpAnyH_take (i := 10) (v := .bool true) rfl (by kernel_rfl) (by kernel_rfl) (by kernel_rfl) (fun _ _ _ h => h) (Or.inl ⟨by kernel_rfl, fun w _ => by kernel_rfl⟩) hS ?_
  refine wpAnyH_take (i := 11) (v := .int .i64 3) rfl (by kernel_rfl) (by kernel_rfl) (by kernel_rfl) (fun _ _ _ h => h) (Or.inl ⟨by kernel_rfl, fun w _ => by kernel_rfl⟩) hS ?_
  refine wpAnyH_take (i := 12) (v := .bool true) rfl (by kernel_rfl) (by kernel_rfl) (by kernel_rfl) (fun _ _ _ h => h) (Or.inl ⟨by kernel_rfl, fun w _ => by kernel_rfl⟩) hS ?_
  refine wpAnyH_take (i := 13) (v := .bool true) rfl (by kernel_rfl) (by kernel_rfl) (by kernel_rfl) (fun _ _ _ h => h) (Or.inl ⟨by kernel_rfl, fun w _ => by kernel_rfl⟩) hS ?_
  refine wpAnyH_take (i := 14) (v := .bool true) rfl (by kernel_rfl) (by kernel_rfl) (by kernel_rfl) (fun _ _ _ h => h) (Or.inl ⟨by kernel_rfl, fun w _ => by kernel_rfl⟩) hS ?_
  refine wpAnyH_take (i := 15) (v := .string s1) rfl (by kernel_rfl) (by kernel_rfl) (by kernel_rfl) (fun _ _ _ h => h) (Or.inl ⟨by kernel_rfl, fun w _ => by kernel_rfl⟩) hS ?_
  refine wpAnyH_take (i := 16) (v := .int .i64 (s1.size : Int)) rfl (by kernel_rfl) (by kernel_rfl) (by kernel_rfl) (fun _ _ _ h => h) (Or.inl ⟨by kernel_rfl, fun w _ => by kernel_rfl⟩) hS ?_
  refine wpAnyH_take (i := 17) (v := .bool true) rfl (by kernel_rfl) (by kernel_rfl) (by kernel_rfl) (fun _ _ _ h => h) (Or.inl ⟨by kernel_rfl, fun w _ => Eq.trans (b := .ok (.value (.bool ((s1.size : Int) == 34))) w) (by kernel_rfl) (by rw [hq])⟩) hS ?_
  refine wpAnyH_take (i := 18) (v := .bool true) rfl (by kernel_rfl) (by kernel_rfl) (by kernel_rfl) (fun _ _ _ h => h) (Or.inl ⟨by kernel_rfl, fun w _ => by kernel_rfl⟩) hS ?_
  refine wpAnyH_take (i := 19) (v := .bool true) rfl (by kernel_rfl) (by kernel_rfl) (by kernel_rfl) (fun _ _ _ h => h) (Or.inl ⟨by kernel_rfl, fun w _ => by kernel_rfl⟩) hS ?_
  refine wpAnyH_take (i := 20) (v := stV sh (.slice a3 sh.tab.length c3)) rfl (by kernel_rfl) (by kernel_rfl) (by kernel_rfl) (fun _ _ _ h => h) (y_load25 (by kernel_rfl) rfl sb (by kernel_rfl) (fun W h => HS9.out.keep h (Nat.le_of_ble_eq_true rfl))) hS ?_
  refine wpAnyH_ready (rs := [21]) (by kernel_rfl) (by simp) ?_
  refine AllReadyH.wrp rfl (by kernel_rfl) (fun K hK => ?_) (AllReadyH.nil)
  refine h_call ?_
  go_simp
  refine (HSH.out _).mono ?_
  rintro y x1 ⟨a5, c5, h5, rfl, hb⟩
  go_simp
  refine hK.out _ _ (hS.trans hb) (fun hS => ?_)
  clear hK K
  clear hb
  refine wpAnyH_ready (rs := [22]) (by kernel_rfl) (by simp) ?_
  refine AllReadyH.wrp rfl (by kernel_rfl) (fun K hK => ?_) (AllReadyH.nil)
  refine h_call ?_
  go_simp
  refine (HSM.out _ _ _ (HT9.out.keep hS) h5).mono ?_
  rintro y x2 ⟨rfl, hb⟩
  go_simp
  refine hK.out _ _ (hS.trans hb) (fun hS => ?_)
  clear hK K
  clear hb
  refine wpAnyH_ready (rs := [23]) (by kernel_rfl) (by simp) ?_
  refine AllReadyH.wrp rfl (by kernel_rfl) (fun K hK => ?_) (AllReadyH.nil)
  refine h_call ?_
  go_simp
  refine hK.out _ _ hS (fun hS => ?_)
  clear hK K
  refine wpAnyH_take (i := 24) (v := .bool true) rfl (by kernel_rfl) (by kernel_rfl) (by kernel_rfl) (fun _ _ _ h => h) (Or.inl ⟨by kernel_rfl, fun w _ => by kernel_rfl⟩) hS ?_
  refine wpAnyH_done (by kernel_rfl) ?_ _
  go_wp2_with fail
  go_ret
  exact ⟨rfl, HK9.out.trans hS⟩
end Go.Proofs.Yteabfjpajgakiad

/- What op.Do's answer is good for: plain mathematics. -/
set_option linter.unusedSimpArgs false
set_option linter.unusedVariables false
namespace Go.Proofs.Yteabfjpajgakiad

structure DoGood (g r : Nat → Int) (k key tk m : Int) : Prop where
  k0 : 0 ≤ key
  k3 : key ≤ 3
  kind : (k = 1 ∧ tk = 0) ∨ (k = 2 ∧ tk = 0) ∨ (k = 3 ∧ 0 ≤ tk ∧ tk ≤ 3) ∨ (k = 4 ∧ tk = 0)
  vals : ∀ i, i < 4 → 0 ≤ g i ∧ g i ≤ 999
  outs : ∀ i, i < 4 → 0 ≤ r i ∧ r i ≤ 999
  diff : ∀ i, i < 4 → r i = g i ∨ (i : Int) = key ∨ (k = 3 ∧ (i : Int) = tk)
  fail : m = -1 → ∀ i, i < 4 → r i = g i
  ans : m ≠ -1 → m = r key.toNat
  sum : k = 3 ∨ k = 4 → r 0 + r 1 + r 2 + r 3 = g 0 + g 1 + g 2 + g 3
  get : k = 4 → ∀ i, i < 4 → r i = g i

theorem upd_in {g : Nat → Int} {j : Nat} {x : Int} (hg : ∀ i, i < 4 → 0 ≤ g i ∧ g i ≤ 999) (hx : 0 ≤ x ∧ x ≤ 999) : ∀ i, i < 4 → 0 ≤ upd g j x i ∧ upd g j x i ≤ 999 := by
  intro i hi; unfold upd; split
  · exact hx
  · exact hg i hi

theorem do_good (g : Nat → Int) (k key tk n : Int) (h : doErr g k key tk n = 0) : DoGood g (doVals g k key tk n) k key tk (doAns g k key tk n) := by
  have he : (opErr k key tk n == 0) = true := by
    cases e : (opErr k key tk n == 0) with
    | true => rfl
    | false => simp [doErr, e] at h; simp [h] at e
  have hv : valsOk g = true := by
    cases e : valsOk g with
    | true => rfl
    | false => simp [doErr, he, e] at h
  have h0 : opErr k key tk n = 0 := by simpa using he
  have hg := vals_at hv
  obtain ⟨⟨hk0, hk3⟩, hk⟩ := op_right h0
  have hkey : (key.toNat : Int) = key := by omega
  have hgk := hg key.toNat (by omega)
  have e1 : doVals g k key tk n = if stepOk k g key tk n then stepTo k g key tk n else g := by simp [doVals, he, hv]
  have e2 : doAns g k key tk n = if stepOk k g key tk n then stepTo k g key tk n key.toNat else -1 := by simp [doAns, he, hv]
  rw [e1, e2]
  have same : DoGood g g k key tk (-1) := by
    refine ⟨hk0, hk3, by omega, hg, hg, fun i _ => .inl rfl, fun _ i _ => rfl, fun h => absurd rfl h, fun _ => rfl, fun _ i _ => rfl⟩
  cases hs : stepOk k g key tk n with
  | false => simpa using same
  | true =>
    simp only [if_true]
    rcases hk with ⟨rfl, ht, hn0, hn1⟩ | ⟨rfl, ht, hn0, hn1⟩ | ⟨rfl, ⟨ht0, ht3⟩, hn0, hn1⟩ | ⟨rfl, ht, hn⟩
    · have e : stepTo 1 g key tk n = upd g key.toNat n := rfl
      rw [e]
      refine ⟨hk0, hk3, by omega, hg, upd_in hg ⟨hn0, hn1⟩, fun i _ => ?_, fun h => ?_, fun _ => rfl, fun h => by omega, fun h => by omega⟩
      · unfold upd; split
        · right; left; omega
        · left; rfl
      · exfalso; simp [upd] at h; omega
    · have e : stepTo 2 g key tk n = upd g key.toNat (g key.toNat + n) := rfl
      have hb : 0 ≤ g key.toNat + n ∧ g key.toNat + n ≤ 999 := by simpa [stepOk, inB] using hs
      rw [e]
      refine ⟨hk0, hk3, by omega, hg, upd_in hg hb, fun i _ => ?_, fun h => ?_, fun _ => rfl, fun h => by omega, fun h => by omega⟩
      · unfold upd; split
        · right; left; omega
        · left; rfl
      · exfalso; simp [upd] at h; omega
    · have e : stepTo 3 g key tk n = upd (upd g key.toNat (g key.toNat + -n)) tk.toNat (upd g key.toNat (g key.toNat + -n) tk.toNat + n) := rfl
      have hb : (0 ≤ g key.toNat + -n ∧ g key.toNat + -n ≤ 999) ∧ 0 ≤ upd g key.toNat (g key.toNat + -n) tk.toNat + n ∧ upd g key.toNat (g key.toNat + -n) tk.toNat + n ≤ 999 := by
        simpa [stepOk, inB] using hs
      rw [e]
      have hin := upd_in (upd_in hg hb.1 (j := key.toNat)) hb.2 (j := tk.toNat)
      refine ⟨hk0, hk3, by omega, hg, hin, fun i _ => ?_, fun h => ?_, fun _ => rfl, fun _ => ?_, fun h => by omega⟩
      · by_cases h1 : i = tk.toNat
        · right; right; exact ⟨rfl, by omega⟩
        · by_cases h2 : i = key.toNat
          · right; left; omega
          · left; simp [upd, h1, h2]
      · exfalso; have := hin key.toNat (by omega); omega
      · rcases four hk0 hk3 with rfl | rfl | rfl | rfl <;> rcases four ht0 ht3 with rfl | rfl | rfl | rfl <;> simp [upd] <;> omega
    · have e : stepTo 4 g key tk n = g := rfl
      rw [e]
      exact ⟨hk0, hk3, by omega, hg, hg, fun i _ => .inl rfl, fun _ i _ => rfl, fun _ => rfl, fun _ => rfl, fun _ i _ => rfl⟩
end Go.Proofs.Yteabfjpajgakiad

/- What One makes of a right state is right: plain mathematics. -/
set_option linter.unusedSimpArgs false
set_option linter.unusedVariables false
namespace Go.Proofs.Yteabfjpajgakiad
open Go.RowKit

theorem keptOk_iff : ∀ {hi lo : Int} {l : List (Int × Int)}, keptOk hi lo l = true ↔ l.Pairwise (fun a b => a.1 < b.1) ∧ ∀ r ∈ l, (lo ≤ r.1 ∧ r.1 ≤ hi) ∧ -1 ≤ r.2 ∧ r.2 ≤ 999
  | hi, lo, [] => by simp [keptOk]
  | hi, lo, (q, v) :: t => by
    have ih := keptOk_iff (hi := hi) (lo := q + 1) (l := t)
    simp only [keptOk, Bool.and_eq_true, inB_iff, ih, List.pairwise_cons, List.mem_cons]
    constructor
    · rintro ⟨⟨h1, h2⟩, h3, h4⟩
      refine ⟨⟨fun a ha => ?_, h3⟩, fun r hr => ?_⟩
      · have := (h4 a ha).1.1
        show q < a.1
        omega
      · rcases hr with rfl | hr
        · exact ⟨h1, h2⟩
        · have := h4 r hr
          exact ⟨⟨by omega, this.1.2⟩, this.2⟩
    · rintro ⟨⟨h1, h2⟩, h3⟩
      have h0 := h3 (q, v) (.inl rfl)
      refine ⟨⟨h0.1, h0.2⟩, h2, fun r hr => ?_⟩
      have a1 := h1 r hr
      have a2 := h3 r (.inr hr)
      have a1 : q < r.1 := a1
      exact ⟨⟨by omega, a2.1.2⟩, a2.2⟩

/-- Where a number belongs. -/
theorem place_pos : ∀ {l : List (Int × Int)} (seq : Int), l.Pairwise (fun a b => a.1 < b.1) → (∀ r ∈ l.take (posOf l seq), r.1 < seq) ∧ (∀ r ∈ l.drop (posOf l seq), seq ≤ r.1)
  | [], seq, _ => by simp [posOf]
  | a :: t, seq, h => by
    rw [List.pairwise_cons] at h
    by_cases ha : a.1 < seq
    · have e : posOf (a :: t) seq = posOf t seq + 1 := by simp [posOf, List.takeWhile_cons, ha]
      have ih := place_pos seq h.2
      rw [e, List.take_succ_cons, List.drop_succ_cons]
      refine ⟨fun r hr => ?_, ih.2⟩
      rcases List.mem_cons.1 hr with rfl | hr
      · exact ha
      · exact ih.1 r hr
    · have e : posOf (a :: t) seq = 0 := by simp [posOf, List.takeWhile_cons, ha]
      rw [e]
      refine ⟨by simp, fun r hr => ?_⟩
      rw [List.drop_zero] at hr
      rcases List.mem_cons.1 hr with rfl | hr
      · omega
      · have := h.1 r hr
        omega
theorem place_gone {l : List (Int × Int)} {seq : Int} (hp : l.Pairwise (fun a b => a.1 < b.1)) (h : keptHas l seq = false) : ∀ r ∈ l.drop (posOf l seq), seq < r.1 := by
  have h2 := (place_pos seq hp).2
  unfold keptHas thereB at h
  have hd : (l.drop (posOf l seq)).Pairwise (fun a b => a.1 < b.1) := hp.sublist (List.drop_sublist _ _)
  have hget : l[posOf l seq]? = (l.drop (posOf l seq))[0]? := by rw [List.getElem?_drop, Nat.add_zero]
  rw [hget] at h
  cases hl : l.drop (posOf l seq) with
  | nil => intro r hr; cases hr
  | cons a t =>
    rw [hl] at h h2 hd
    simp at h
    intro r hr
    have ha := h2 a (List.mem_cons_self ..)
    rcases List.mem_cons.1 hr with rfl | hr
    · omega
    · have := (List.pairwise_cons.1 hd).1 r hr
      omega

theorem keptPut_ok {hi lo seq v : Int} {l : List (Int × Int)} (h : keptOk hi lo l = true) (h1 : lo ≤ seq) (h2 : seq ≤ hi) (h3 : -1 ≤ v) (h4 : v ≤ 999) (hn : keptHas l seq = false) : keptOk hi lo (keptPut l seq v) = true := by
  obtain ⟨hp, hb⟩ := keptOk_iff.1 h
  have ht := (place_pos seq hp).1
  have hd := place_gone hp hn
  refine keptOk_iff.2 ⟨?_, fun r hr => ?_⟩
  · unfold keptPut
    rw [List.pairwise_append, List.pairwise_cons]
    refine ⟨hp.sublist (List.take_sublist _ _), ⟨fun a ha => hd a ha, hp.sublist (List.drop_sublist _ _)⟩, fun a ha b hb' => ?_⟩
    have := ht a ha
    rcases List.mem_cons.1 hb' with rfl | hb'
    · exact this
    · have := hd b hb'
      omega
  · unfold keptPut at hr
    rcases List.mem_append.1 hr with hr | hr
    · exact hb r (List.mem_of_mem_take hr)
    · rcases List.mem_cons.1 hr with rfl | hr
      · exact ⟨⟨h1, h2⟩, h3, h4⟩
      · exact hb r (List.mem_of_mem_drop hr)

theorem keptAfter_ok {a b : Int} {l : List (Int × Int)} (h : keptOk (min (a + 3) 60) (a + 1) l = true) (hab : a ≤ b) : keptOk (min (b + 3) 60) (b + 1) (keptAfter b l) = true := by
  obtain ⟨hp, hb⟩ := keptOk_iff.1 h
  refine keptOk_iff.2 ⟨hp.filter _, fun r hr => ?_⟩
  obtain ⟨h1, h2⟩ := List.mem_filter.1 hr
  have := hb r h1
  simp at h2
  omega

theorem seenAll_iff {c : Int} : ∀ {L : List Ses}, seenAll c L = true ↔ ∀ s ∈ L, c - 20 ≤ s.seen ∧ s.seen ≤ c
  | [] => by simp [seenAll]
  | a :: t => by
    simp only [seenAll, Bool.and_eq_true, inB_iff, seenAll_iff (L := t), List.mem_cons]
    constructor
    · rintro ⟨h1, h2⟩ s (rfl | hs)
      · exact h1
      · exact h2 s hs
    · exact fun h => ⟨h a (.inl rfl), fun s hs => h s (.inr hs)⟩

theorem stErr_of {s : St} (h1 : stIn s = true) (h2 : tabErr s.tab = 0) (h3 : seenAll s.clock s.tab = true) : stErr s = 0 := by simp [stErr, h1, h2, h3]

theorem ticked_right {s : St} {time : Int} (h : stErr s = 0) (h0 : 0 ≤ time) (h1 : time ≤ 999) (hat : s.at_ ≠ 50) : stErr (ticked s time) = 0 := by
  obtain ⟨hin, htab, hseen⟩ := stErr_in h
  obtain ⟨⟨ha0, ha1⟩, hc0, hc1⟩ := stErr_bounds h
  refine stErr_of ?_ (fresh_right htab) ?_
  · simp only [stIn, Bool.and_eq_true, inB_iff] at hin ⊢
    refine ⟨hin.1, ?_, ?_⟩
    · show 0 ≤ s.at_ + 1 ∧ s.at_ + 1 ≤ 50
      omega
    · show 0 ≤ max s.clock time ∧ max s.clock time ≤ 999
      omega
  · refine seenAll_iff.2 fun x hx => ?_
    obtain ⟨hx1, hx2⟩ := List.mem_filter.1 hx
    have := seenAll_iff.1 hseen x hx1
    simp at hx2
    show max s.clock time - 20 ≤ x.seen ∧ x.seen ≤ max s.clock time
    omega

theorem mem_putList {L : List Ses} {s x : Ses} (h : x ∈ putList L s) : x = s ∨ x ∈ L := by
  unfold putList at h
  simp only [List.mem_append, List.mem_filter, List.mem_singleton] at h
  rcases h with (h | h) | h
  · exact .inr h.1
  · exact .inl h
  · exact .inr h.1

theorem put_zero {L : List Ses} {s : Ses} (h1 : tabErr L = 0) (h2 : sesErr s = 0) (h3 : (putList L s).length ≤ 3) : putErr L s = 0 := by
  simp [putErr, h1, h2]
  omega

/-- A session in the place of its client's. -/
theorem put_len : ∀ {L : List Ses} {f : Ses} (s : Ses), L.Pairwise (fun a b => a.client < b.client) → f ∈ L → f.client = s.client → (putList L s).length = L.length
  | [], f, s, _, h, _ => by cases h
  | a :: t, f, s, hp, hf, hc => by
    rw [List.pairwise_cons] at hp
    rcases List.mem_cons.1 hf with rfl | hf
    · have e1 : (f :: t).filter (fun o => decide (o.client < s.client)) = [] := by
        rw [List.filter_eq_nil_iff]
        intro o ho
        rcases List.mem_cons.1 ho with rfl | ho
        · simp [hc]
        · have := hp.1 o ho
          simp
          omega
      have e2 : (f :: t).filter (fun o => decide (s.client < o.client)) = t := by
        rw [List.filter_cons_of_neg (by simp [hc]), List.filter_eq_self.2]
        intro o ho
        have := hp.1 o ho
        simp
        omega
      unfold putList
      rw [e1, e2]
      simp
    · have hac := hp.1 f hf
      have ih := put_len s hp.2 hf hc
      unfold putList at ih ⊢
      rw [List.filter_cons_of_pos (by simp; omega), List.filter_cons_of_neg (by simp; omega)]
      simp at ih ⊢
      omega

/-- A state whose table is turned. -/
theorem tab_turned {s : St} {L : List Ses} (h : stErr s = 0) (h1 : tabErr L = 0) (h2 : ∀ x ∈ L, s.clock - 20 ≤ x.seen ∧ x.seen ≤ s.clock) : stErr { s with tab := L } = 0 :=
  stErr_of (stErr_in h).1 h1 (seenAll_iff.2 h2)

theorem opened_right {s : St} {c : Int} (h : stErr s = 0) : stErr (openedSt s c) = 0 := by
  unfold openedSt
  split
  · rename_i hp
    have hp : putErr s.tab (openSes s c) = 0 := by simpa using hp
    have hb := (stErr_bounds h).2
    have hs := seenAll_iff.1 (stErr_in h).2.2
    refine tab_turned h (by rw [putTab_ok hp]; exact put_right hp) fun x hx => ?_
    rw [putTab_ok hp] at hx
    rcases mem_putList hx with rfl | hx
    · show s.clock - 20 ≤ s.clock ∧ s.clock ≤ s.clock
      omega
    · exact hs x hx
  · exact h

theorem closed_right {s : St} {c : Int} (h : stErr s = 0) : stErr (closedSt s c) = 0 := by
  unfold closedSt
  split
  · rename_i hp
    have hp : dropErr s.tab c = 0 := by simpa using hp
    have hs := seenAll_iff.1 (stErr_in h).2.2
    refine tab_turned h (by rw [drop_tab hp]; exact tab_sub (stErr_in h).2.1 List.filter_sublist) fun x hx => ?_
    rw [drop_tab hp] at hx
    exact hs x (List.mem_filter.1 hx).1
  · exact h

theorem vals_of {s : St} (h : stErr s = 0) : valsOk (stG s) = true := by
  have h1 := (stErr_in h).1
  simp only [stIn, valsIn, Bool.and_eq_true, inB_iff] at h1
  simp [valsOk, stG, inB]
  omega
theorem done_good {s : St} {e : Ent} (h : stErr s = 0) (he : opErr e.ok e.okey e.oto e.on = 0) : DoGood (stG s) (doneVals s e) e.ok e.okey e.oto (doneAns s e) :=
  do_good _ _ _ _ _ (by simp [doErr, he, vals_of h])
theorem doneAns_in {s : St} {e : Ent} (h : stErr s = 0) (he : opErr e.ok e.okey e.oto e.on = 0) : -1 ≤ doneAns s e ∧ doneAns s e ≤ 999 := by
  have hg := done_good h he
  by_cases hm : doneAns s e = -1
  · omega
  · have h1 := hg.ans hm
    have h2 := hg.outs e.okey.toNat (by have := hg.k0; have := hg.k3; omega)
    omega

theorem ses_zero {f : Ses} (h1 : 1 ≤ f.client ∧ f.client ≤ 5) (h2 : 0 ≤ f.acked ∧ f.acked ≤ 60) (h3 : 0 ≤ f.seen ∧ f.seen ≤ 999) (h4 : keptOk (min (f.acked + 3) 60) (f.acked + 1) f.kept = true) : sesErr f = 0 :=
  sesErr_ok (inB_iff.2 h1) (inB_iff.2 h2) (inB_iff.2 h3) h4

/-- What a Call leaves of its session is right. -/
theorem callSes_right {s : St} {f : Ses} {e : Ent} (h : stErr s = 0) (hf : sesErr f = 0) (he : entErr e = 0) (hk : e.kind = 2) : sesErr (callSes s f e) = 0 := by
  obtain ⟨_, _, _, hcall, _⟩ := ent_right he
  obtain ⟨⟨hq0, hq1⟩, ⟨ha0, ha1⟩, hop⟩ := hcall hk
  obtain ⟨r1, r2, r3, r4⟩ := ses_right hf
  have r1 := inB_iff.1 r1
  have r2 := inB_iff.1 r2
  have hc := (stErr_bounds h).2
  have hk0 : keptOk (min (max f.acked e.ack + 3) 60) (max f.acked e.ack + 1) (keptAfter (max f.acked e.ack) f.kept) = true := keptAfter_ok r4 (by omega)
  refine ses_zero r1 ?_ hc ?_
  · show 0 ≤ max f.acked e.ack ∧ max f.acked e.ack ≤ 60
    omega
  · show keptOk (min (max f.acked e.ack + 3) 60) (max f.acked e.ack + 1) (ansKept s (calledSes s f e) e) = true
    unfold ansKept
    split
    · rename_i hd
      simp only [ansDone, Bool.and_eq_true, Bool.not_eq_true', decide_eq_false_iff_not] at hd
      obtain ⟨d1, d2, d3⟩ := hd
      have e1 : (calledSes s f e).acked = max f.acked e.ack := rfl
      rw [e1] at d1 d3
      have hin := doneAns_in h hop
      exact keptPut_ok hk0 (by omega) (by omega) hin.1 hin.2 d2
    · exact hk0

theorem ansSt_same {s : St} {f : Ses} {e : Ent} : (ansSt s f e).at_ = s.at_ ∧ (ansSt s f e).clock = s.clock ∧ (ansSt s f e).tab = s.tab := by
  unfold ansSt
  split
  · exact ⟨rfl, rfl, rfl⟩
  · exact ⟨rfl, rfl, rfl⟩
theorem ansSt_right {s : St} {f : Ses} {e : Ent} (h : stErr s = 0) (he : opErr e.ok e.okey e.oto e.on = 0) : stErr (ansSt s f e) = 0 := by
  unfold ansSt
  split
  · have hg := (done_good h he).outs
    obtain ⟨h1, h2, h3⟩ := stErr_in h
    refine stErr_of ?_ h2 h3
    simp only [stIn, valsIn, Bool.and_eq_true, inB_iff] at h1 ⊢
    exact ⟨⟨hg 0 (by omega), hg 1 (by omega), hg 2 (by omega), hg 3 (by omega)⟩, h1.2⟩
  · exact h

theorem call_put {s : St} {f : Ses} {e : Ent} (h : stErr s = 0) (he : entErr e = 0) (hk : e.kind = 2) (hf : findSes s.tab e.client = some f) : putErr s.tab (callSes s f e) = 0 ∧ sesErr f = 0 ∧ f.client = e.client ∧ f ∈ s.tab := by
  have htab := (stErr_in h).2.1
  obtain ⟨t1, t2, t3⟩ := tab_right htab
  obtain ⟨hm, hc⟩ := findSes_mem hf
  refine ⟨put_zero htab (callSes_right h (t2 f hm) he hk) ?_, t2 f hm, hc, hm⟩
  rw [put_len (callSes s f e) (rising_iff.1 t3) hm rfl]
  exact t1

theorem called_right {s : St} {e : Ent} (h : stErr s = 0) (he : entErr e = 0) (hk : e.kind = 2) : stErr (callSt s e) = 0 ∧ (callSt s e).at_ = s.at_ ∧ (callSt s e).clock = s.clock := by
  unfold callSt
  cases hf : findSes s.tab e.client with
  | none => exact ⟨h, rfl, rfl⟩
  | some f =>
    obtain ⟨hp, _, _, _⟩ := call_put h he hk hf
    have hop := ((ent_right he).2.2.2.1 hk).2.2
    have hs := seenAll_iff.1 (stErr_in h).2.2
    obtain ⟨e1, e2, e3⟩ := ansSt_same (s := s) (f := calledSes s f e) (e := e)
    refine ⟨tab_turned (ansSt_right h hop) (by rw [putTab_ok hp]; exact put_right hp) fun x hx => ?_, e1, e2⟩
    rw [putTab_ok hp] at hx
    rw [e2]
    rcases mem_putList hx with rfl | hx
    · show s.clock - 20 ≤ s.clock ∧ s.clock ≤ s.clock
      omega
    · exact hs x hx

theorem taken_right {s : St} {e : Ent} (h : stErr s = 0) (he : entErr e = 0) : stErr (takenSt s e) = 0 ∧ (takenSt s e).at_ = s.at_ ∧ (takenSt s e).clock = s.clock := by
  have hk := (ent_right he).1
  unfold takenSt
  split
  · refine ⟨opened_right h, ?_⟩
    unfold openedSt
    split <;> exact ⟨rfl, rfl⟩
  · rename_i h1
    split
    · refine ⟨closed_right h, ?_⟩
      unfold closedSt
      split <;> exact ⟨rfl, rfl⟩
    · rename_i h3
      simp at h1 h3
      exact called_right h he (by omega)

/-- WHAT COMES IS RIGHT. -/
theorem one_right {s : St} {e : Ent} (h : bothErr s e = 0) : stErr (oneSt s e) = 0 ∧ (oneSt s e).at_ = s.at_ + 1 ∧ (oneSt s e).clock = max s.clock e.time := by
  obtain ⟨h1, h2, h3⟩ := both_right h
  have ht := (ent_right h2).2.1
  have e0 : oneSt s e = takenSt (ticked s e.time) e := by simp [oneSt, h]
  rw [e0]
  exact taken_right (ticked_right h1 ht.1 ht.2 h3) h2

end Go.Proofs.Yteabfjpajgakiad

/- A table of its own, one of whose sessions is turned in its place. -/
set_option linter.unusedSimpArgs false
set_option linter.unusedVariables false
set_option maxRecDepth 10000
namespace Go.Proofs.Yteabfjpajgakiad
open Go.RowKit

/-- A row of sessions in block g. -/
def SesRow (w : World) (g cap : Nat) (xs : List Value) : Prop := ∃ cur : Array Value, w.heap[g]? = some (.cells cur 59 (0, 0)) ∧ cur.size = cap * 4 ∧ cap ≤ maxLen ∧ xs.length ≤ cap * 4 ∧ cur.toList.take xs.length = xs
theorem SesRow.lt {w : World} {g cap : Nat} {xs : List Value} (h : SesRow w g cap xs) : g < w.heap.size := by
  obtain ⟨cur, h1, _⟩ := h
  exact (Array.getElem?_eq_some_iff.1 h1).1
theorem SesRow.set {w : World} {g cap : Nat} {xs : List Value} (h : SesRow w g cap xs) (i : Nat) (u : Value) : SesRow (w.setCell ⟨g, i, none⟩ u) g cap (xs.set i u) := by
  obtain ⟨cur, h1, h2, h3, h4, h5⟩ := h
  refine ⟨cur.setIfInBounds i u, ?_, by simpa using h2, h3, by simpa using h4, ?_⟩
  · simp [World.setCell, Array.getElem?_modify, h1]
  · simp only [List.length_set, Array.toList_setIfInBounds]
    rw [List.take_set, h5]
theorem SesRow.frozen {w : World} {g cap : Nat} {xs : List Value} (h : SesRow w g cap xs) (i : Nat) : w.frozen? ⟨g, i, none⟩ = false := by
  obtain ⟨cur, h1, _⟩ := h
  simp [World.frozen?, h1]

theorem sesCells_set : ∀ (L : List Ses) (ks : List Value) (k : Nat) (s : Ses) (kv : Value), ks.length = L.length → k < L.length →
    sesCells (L.set k s) (ks.set k kv) = ((((sesCells L ks).set (k * 4) (.int .i64 s.client)).set (k * 4 + 1) (.int .i64 s.acked)).set (k * 4 + 2) (.int .i64 s.seen)).set (k * 4 + 3) kv
  | [], ks, k, s, kv, _, h => by simp at h
  | a :: L, [], k, s, kv, h, _ => by simp at h
  | a :: L, b :: ks, 0, s, kv, _, _ => by simp [sesCells]
  | a :: L, b :: ks, k + 1, s, kv, h, hk => by
    have ih := sesCells_set L ks k s kv (by simpa using h) (by simpa using hk)
    rw [List.set_cons_succ, List.set_cons_succ, show (k + 1) * 4 = k * 4 + 1 + 1 + 1 + 1 from by omega]
    simp only [sesCells, List.set_cons_succ, ih]
theorem sesCells_seen : ∀ (L : List Ses) (ks : List Value) (k : Nat) (c : Int), ks.length = L.length → (hk : k < L.length) →
    sesCells (L.set k { L[k] with seen := c }) ks = (sesCells L ks).set (k * 4 + 2) (.int .i64 c)
  | [], ks, k, c, _, h => by simp at h
  | a :: L, [], k, c, h, _ => by simp at h
  | a :: L, b :: ks, 0, c, _, _ => by simp [sesCells]
  | a :: L, b :: ks, k + 1, c, h, hk => by
    have ih := sesCells_seen L ks k c (by simpa using h) (by simpa using hk)
    rw [show (k + 1) * 4 + 2 = k * 4 + 2 + 1 + 1 + 1 + 1 from by omega]
    simp only [List.set_cons_succ, List.getElem_cons_succ, sesCells, ih]
theorem KeptsOwn.set {base : Nat} {w : World} : ∀ {L : List Ses} {ks : List Value} (k : Nat) (s : Ses) (kv : Value), KeptsOwn base w L ks → w.ownsRow base 66 2 kv s.kept.length (repCells s.kept) → KeptsOwn base w (L.set k s) (ks.set k kv)
  | [], [], _, _, _, _, _ => trivial
  | _ :: _, _ :: _, 0, _, _, h, h' => ⟨h', h.2⟩
  | _ :: _, _ :: _, k + 1, s, kv, h, h' => ⟨h.1, KeptsOwn.set k s kv h.2 h'⟩
theorem KeptsOwn.seen {base : Nat} {w : World} : ∀ {L : List Ses} {ks : List Value} (k : Nat) (c : Int) (hk : k < L.length), KeptsOwn base w L ks → KeptsOwn base w (L.set k { L[k] with seen := c }) ks
  | [], [], _, _, hk, _ => by simp at hk
  | _ :: _, _ :: _, 0, _, _, h => ⟨h.1, h.2⟩
  | _ :: L, _ :: _, k + 1, c, hk, h => ⟨h.1, by have := KeptsOwn.seen k c (by simpa using hk) h.2; simpa using this⟩

/-- A table of its own whose row lies in block g. -/
structure TabOn (g base : Nat) (w : World) (v : Value) (L : List Ses) (ks : List Value) (cap : Nat) : Prop where
  le : base ≤ g
  val : v = .slice (some ⟨g, 0, none⟩) L.length cap
  row : SesRow w g cap (sesCells L ks)
  kept : KeptsOwn base w L ks
  fit : L.length ≤ cap

theorem TabOn.own {g base cap : Nat} {w : World} {v : Value} {L : List Ses} {ks : List Value} (h : TabOn g base w v L ks cap) : OwnTab base w v L := by
  obtain ⟨cur, h1, h2, h3, h4, h5⟩ := h.row
  have hl : (sesCells L ks).length = L.length * 4 := by
    have hk := h.kept.len
    clear h h1 h2 h3 h4 h5
    induction L generalizing ks with
    | nil => simp [sesCells]
    | cons a L ih =>
      cases ks with
      | nil => simp at hk
      | cons b ks => simp only [sesCells, List.length_cons, ih (by simpa using hk)]; omega
  rw [hl] at h5
  exact ⟨ks, h.kept, hl, .inr ⟨g, cap, cur, h.val, h.le, h1, h.fit, h3, h2, h5⟩⟩
theorem OwnTab.on {base : Nat} {w : World} {v : Value} {L : List Ses} (h : OwnTab base w v L) (h0 : 0 < L.length) : ∃ g ks cap, TabOn g base w v L ks cap := by
  obtain ⟨ks, h1, h2, h3⟩ := h
  rcases h3 with ⟨_, h3⟩ | ⟨g, cap, cur, hv, hg, hh, hn, hm, hs, ht⟩
  · omega
  · exact ⟨g, ks, cap, hg, hv, ⟨cur, hh, hs, hm, by rw [h2]; omega, by rw [h2]; exact ht⟩, h1, hn⟩
theorem TabOn.grown {g base cap : Nat} {w w' : World} {v : Value} {L : List Ses} {ks : List Value} (h : TabOn g base w v L ks cap) (hb : But g w w') : KeptsOwn base w' L ks := by
  have ho := h.own
  have hrow : ∃ row m ys, w.ownsRow base 59 4 row m ys ∧ row.ownBlock = some g := by
    obtain ⟨cur, h1, h2, h3, h4, h5⟩ := h.row
    have ⟨ks', hk', hr'⟩ := ho
    refine ⟨v, _, _, hr', ?_⟩
    rw [h.val]
    rfl
  obtain ⟨row, m, ys, hr, hg⟩ := hrow
  exact KeptsOwn.kept hr (by rw [hg]; exact ⟨hb.os, hb.tape, hb.output, hb.size, fun k hk hne => hb.block k hk (fun e => hne (by rw [e]))⟩) h.kept

/-- Its session number k is turned whole. -/
theorem TabOn.put {g base cap : Nat} {w : World} {v : Value} {L : List Ses} {ks : List Value} (h : TabOn g base w v L ks cap) {k : Nat} (hk : k < L.length) (s : Ses) (kv : Value) (hs : w.ownsRow base 66 2 kv s.kept.length (repCells s.kept)) :
    TabOn g base ((((w.setCell ⟨g, k * 4, none⟩ (.int .i64 s.client)).setCell ⟨g, k * 4 + 1, none⟩ (.int .i64 s.acked)).setCell ⟨g, k * 4 + 2, none⟩ (.int .i64 s.seen)).setCell ⟨g, k * 4 + 3, none⟩ kv) v (L.set k s) (ks.set k kv) cap := by
  have hb : But g w ((((w.setCell ⟨g, k * 4, none⟩ (.int .i64 s.client)).setCell ⟨g, k * 4 + 1, none⟩ (.int .i64 s.acked)).setCell ⟨g, k * 4 + 2, none⟩ (.int .i64 s.seen)).setCell ⟨g, k * 4 + 3, none⟩ kv) := ((((But.refl _ _).set _ _).set _ _).set _ _).set _ _
  have hl := h.kept.len
  have h2 : TabOn g base w v (L.set k s) (ks.set k kv) cap → True := fun _ => trivial
  refine ⟨h.le, by rw [h.val]; simp, ?_, ?_, by simpa using h.fit⟩
  · rw [sesCells_set L ks k s kv hl hk]
    exact (((h.row.set _ _).set _ _).set _ _).set _ _
  · have ho := h.own
    obtain ⟨ks', hk', hr'⟩ := ho
    have hgb : v.ownBlock = some g := by rw [h.val]; rfl
    exact KeptsOwn.kept hr' (by rw [hgb]; exact ⟨hb.os, hb.tape, hb.output, hb.size, fun k hk hne => hb.block k hk (fun e => hne (by rw [e]))⟩) (h.kept.set k s kv hs)
/-- .. when it was seen. -/
theorem TabOn.seen {g base cap : Nat} {w : World} {v : Value} {L : List Ses} {ks : List Value} (h : TabOn g base w v L ks cap) {k : Nat} (hk : k < L.length) (c : Int) :
    TabOn g base (w.setCell ⟨g, k * 4 + 2, none⟩ (.int .i64 c)) v (L.set k { L[k] with seen := c }) ks cap := by
  refine ⟨h.le, by rw [h.val]; simp, ?_, ?_, by simpa using h.fit⟩
  · rw [sesCells_seen L ks k c h.kept.len hk]
    exact h.row.set _ _
  · exact (h.grown ((But.refl _ _).set _ _)).seen k c hk
theorem TabOn.keep {g base cap : Nat} {w w' : World} {v : Value} {L : List Ses} {ks : List Value} (h : TabOn g base w v L ks cap) (hk : Keeps w w') : TabOn g base w' v L ks cap := by
  refine ⟨h.le, h.val, ?_, h.kept.keep hk, h.fit⟩
  have hl := h.row.lt
  obtain ⟨cur, h1, r⟩ := h.row
  exact ⟨cur, (hk.block g hl).trans h1, r⟩
theorem TabOn.but {g b base cap : Nat} {w w' : World} {v : Value} {L : List Ses} {ks : List Value} (h : TabOn g base w v L ks cap) (hb : b < base) (hk : But b w w') : TabOn g base w' v L ks cap := by
  refine ⟨h.le, h.val, ?_, h.kept.far hb hk, h.fit⟩
  have hl := h.row.lt
  have hle := h.le
  obtain ⟨cur, h1, r⟩ := h.row
  exact ⟨cur, (hk.block g hl (by omega)).trans h1, r⟩

end Go.Proofs.Yteabfjpajgakiad

/- What comes again is answered as it was: plain mathematics. -/
set_option linter.unusedSimpArgs false
set_option linter.unusedVariables false
namespace Go.Proofs.Yteabfjpajgakiad
open Go.RowKit

end Go.Proofs.Yteabfjpajgakiad
