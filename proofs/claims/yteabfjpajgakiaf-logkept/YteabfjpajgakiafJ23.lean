/- OpenEnts, LoM, LoN. -/
import Derived.Laws.Concat
import Derived.Test.YteabfjpajgakiafJ00
import Derived.Test.YteabfjpajgakiafJ12
import Derived.Test.YteabfjpajgakiafJ15
import Derived.Test.YteabfjpajgakiafJ21
import Derived.Test.YteabfjpajgakiafJ22
/- The arguments of a law: a list of entries. -/
set_option linter.unusedSimpArgs false
set_option linter.unusedVariables false
set_option maxRecDepth 100000
namespace Go.Proofs.Yteabfjpajgakiaf
open Go.ChangeShapes Go.WideShapes Go.ChangeAt Go.RowKit Go.Joins Go.Deep

section
variable {H : Type} {enc : TypeId × Value → H} {w : World} {base : Nat} {spare : Nat → Bool} {held : Bool}

instance : Inhabited Ent := ⟨⟨0, 0, 0, 0, 0, 0, 0, 0, 0⟩⟩

theorem entCells_nine {L : List Ent} {i c : Nat} (hi : i < L.length) (hc : c < 9) : (entCells L)[i * 9 + c]? = [Value.int .i64 (L[i]).kind, .int .i64 (L[i]).time, .int .i64 (L[i]).client, .int .i64 (L[i]).seq, .int .i64 (L[i]).ack, .int .i64 (L[i]).ok, .int .i64 (L[i]).okey, .int .i64 (L[i]).oto, .int .i64 (L[i]).on][c]? := by
  have h : (entCells L).drop (i * 9) = entCells (L[i] :: L.drop (i + 1)) := by rw [entCells_drop, List.drop_eq_getElem_cons hi]
  have : (entCells L)[i * 9 + c]? = ((entCells L).drop (i * 9))[c]? := by rw [List.getElem?_drop]
  rw [this, h]
  match c, hc with
  | 0, _ | 1, _ | 2, _ | 3, _ | 4, _ | 5, _ | 6, _ | 7, _ | 8, _ => rfl

/-- A list of entries. -/
theorem open_ents {r : Reach} {b0 : Nat} {v : Value} {d : DataW H} {p : List MemPlace} (hv : Value.okWide Try.prog w r b0 26 v) (h : DataW.Trod enc Try.prog w base spare held 26 v d p) :
    ∃ L a c, v = .slice a L.length c ∧ EntsAt w v L ∧ L.length ≤ c := by
  obtain ⟨va, vl, vc, rfl⟩ := okWide_slice Try.underlying26 hv
  obtain ⟨n, hn⟩ := field_of_Trod h (by simp [Value.cells])
  rcases open_slice Try.underlying26 hn with ⟨h0, _⟩ | ⟨a, len, cap, m, k, D, Pl, hv', hcp, hl, hm, hmm, _, hx⟩
  · obtain ⟨rfl, rfl, rfl⟩ : va = none ∧ vl = 0 ∧ vc = 0 := by simpa using h0
    exact ⟨[], none, 0, rfl, ⟨rfl, by unfold maxLen; simp, .inl ⟨rfl, rfl⟩⟩, Nat.le_refl _⟩
  · obtain ⟨rfl, rfl, rfl⟩ : va = some a ∧ vl = len ∧ vc = cap := by simpa using hv'
    have hlm : vl ≤ m := by rw [hmm]; split <;> omega
    have each : ∀ i, i < vl → ∃ e : Ent, ∀ c, c < 9 → w.cell? (a.add (i * 9 + c)) = [Value.int .i64 e.kind, .int .i64 e.time, .int .i64 e.client, .int .i64 e.seq, .int .i64 e.ack, .int .i64 e.ok, .int .i64 e.okey, .int .i64 e.oto, .int .i64 e.on][c]? := by
      intro i hi
      obtain ⟨cs', h1, h2⟩ := hx i (by omega)
      rw [cellsEnt] at h1
      obtain ⟨_, hlen, hcell⟩ := World.cells?_some h1
      match cs', hlen with
      | [v0, v1, v2, v3, v4, v5, v6, v7, v8], _ =>
        obtain ⟨e, rfl, rfl, rfl, rfl, rfl, rfl, rfl, rfl, rfl⟩ := ent_cells h2
        refine ⟨e, fun c hc => ?_⟩
        have := hcell c (by omega)
        rw [add_add] at this
        simpa using this
    obtain ⟨q, hq⟩ := choose_lt each
    refine ⟨(List.range vl).map q, some a, vc, by simp, ⟨entCells_len _, by simp; omega, .inr ⟨a, vc, by simp, fun j u hu => ?_⟩⟩, by simp; omega⟩
    have hj : j < vl * 9 := by
      have := (List.getElem?_eq_some_iff.1 hu).1
      rw [entCells_len] at this
      simpa using this
    have hi : j / 9 < vl := by omega
    have e9 := entCells_nine (L := (List.range vl).map q) (i := j / 9) (c := j % 9) (by simpa using hi) (by omega)
    rw [show j / 9 * 9 + j % 9 = j by omega, hu] at e9
    have c9 := hq (j / 9) hi (j % 9) (by omega)
    rw [show j / 9 * 9 + j % 9 = j by omega] at c9
    rw [c9]
    simpa using e9.symm
end
end Go.Proofs.Yteabfjpajgakiaf

/- LogKept: plain; numbers appended. -/
set_option linter.unusedSimpArgs false
set_option linter.unusedVariables false
set_option maxRecDepth 10000
namespace Go.Proofs.Yteabfjpajgakiaf
open Go.RowKit

def lenB (E : List Ent) (k : Nat) : Nat := (allBs (E.take k)).length
theorem allBs_succ {E : List Ent} {k : Nat} (h : k < E.length) : allBs (E.take (k + 1)) = allBs (E.take k) ++ entBs E[k] := by
  rw [List.take_succ_eq_append_getElem h, allBs_append]
  simp [allBs]
theorem lenB_succ {E : List Ent} {k : Nat} (h : k < E.length) : lenB E (k + 1) = lenB E k + (entBs E[k]).length := by
  unfold lenB
  rw [allBs_succ h, List.length_append]
theorem allBs_le : ∀ (E : List Ent), (allBs E).length ≤ 11 * E.length
  | [] => Nat.le_refl _
  | e :: r => by
    show (entBs e ++ allBs r).length ≤ 11 * (r.length + 1)
    rw [List.length_append]
    have := (entBs_pos e).2
    have := allBs_le r
    omega
theorem lenB_le (E : List Ent) (k : Nat) : lenB E k ≤ 11 * k := by
  have h := allBs_le (E.take k)
  have : (E.take k).length ≤ k := List.length_take_le ..
  unfold lenB
  omega
def endsL (E : List Ent) (k : Nat) : List Int := (List.range k).map fun i => (lenB E (i + 1) : Int)
theorem endsL_len (E : List Ent) (k : Nat) : (endsL E k).length = k := by simp [endsL]
theorem endsL_succ (E : List Ent) (k : Nat) : endsL E (k + 1) = endsL E k ++ [(lenB E (k + 1) : Int)] := by
  unfold endsL
  rw [List.range_succ, List.map_append]
  rfl
theorem endsL_at (E : List Ent) (k i : Nat) (h : i < (endsL E k).length) : (endsL E k)[i] = (lenB E (i + 1) : Int) := by simp [endsL]
theorem whole_step {E : List Ent} {m n : Nat} (h : m < E.length) (hn : lenB E m ≤ n) : wholeN (E.drop m) (n - lenB E m) = if lenB E (m + 1) ≤ n then wholeN (E.drop (m + 1)) (n - lenB E (m + 1)) + 1 else 0 := by
  rw [List.drop_eq_getElem_cons h]
  simp only [wholeN]
  have e := lenB_succ h
  by_cases hc : lenB E (m + 1) ≤ n
  · rw [if_pos hc, if_pos (by omega)]
    congr 2
    omega
  · rw [if_neg hc, if_neg (by omega)]
theorem take_right {E : List Ent} (h : ∀ e ∈ E, entErr e = 0) (hl : E.length ≤ 50) (n m : Nat) (hm : wholeN E n = m) : rpL ((allBs E).take n) = E.take m ∧ rpN ((allBs E).take n) = lenB E m ∧ rpE ((allBs E).take n) = 0 := by
  have h1 : ((allBs E).take n).length ≤ 4096 := by
    have := allBs_le E
    rw [List.length_take]
    omega
  have h2 : rpL ((allBs E).take n) = E.take m := by
    unfold rpL
    rw [if_pos h1, repl_whole E 50 n h hl, hm]
  exact ⟨h2, by unfold rpN lenB; rw [h2], if_pos h1⟩
theorem bt_append (a b : List UInt8) : bt a ++ bt b = bt (a ++ b) := by
  unfold bt
  rw [ByteArray.mk_append_mk]
theorem bt_take (l : List UInt8) (n : Nat) : (bt l).extract 0 n = bt (l.take n) := by
  unfold bt
  rw [ByteArray.extract_mk]
  congr 1
def IOwn (base : Nat) (w : World) (v : Value) (N : List Int) : Prop := w.ownsRow base 3 1 v N.length (intCells N)
theorem IOwn.nil {base : Nat} {w : World} : IOwn base w (.slice none 0 0) [] := ⟨rfl, .inl ⟨rfl, rfl⟩⟩
theorem IOwn.keep {base : Nat} {w w' : World} {v : Value} {N : List Int} (h : IOwn base w v N) (hk : Keeps w w') : IOwn base w' v N := owns_keep h hk
theorem IOwn.own {base : Nat} {w : World} {v : Value} {N : List Int} (h : IOwn base w v N) {k : Nat} (hk : v.ownBlock = some k) : base ≤ k := by
  rcases h.2 with ⟨rfl, _⟩ | ⟨g, cap, cur, rfl, hb, hg, _⟩
  · cases hk
  · have e : g = k := by simpa [Value.ownBlock] using hk
    subst e
    exact hb
theorem num_new (w : World) (n : Int) (c : Nat) : IntsAt (w.alloc (.cells #[.int .i64 n] 3)) (.slice (some ⟨w.heap.size, 0, none⟩) 1 c) [n] := by
  refine ⟨by simp [intCells], by unfold maxLen; simp, .inr ⟨_, _, rfl, ?_⟩⟩
  exact World.news_of_block (w := w.alloc (.cells #[.int .i64 n] 3)) (cs := #[.int .i64 n]) (t := 3) (fr := (0, 0)) (by simp only [World.alloc, Array.getElem?_push_size])
theorem infoNum : (Try.prog.info? 3).map (fun i => (i.zero, i.size, i.bytes)) = some (some (.int .i64 0), 1, 8) := by kernel_rfl
theorem app_num {ops : Array Oper} {rest : List Oper} {o : Oper} {a : Act} {Q : Exit → Act → World → Prop} {w0 w : World} (hk : Keeps w0 w) (hg : o.guard = none) (s x : Operand) (hop : o.op = .call { callee := .builtin .append, args := #[s, x], argTypes := #[58, 58] })
    (v : Value) (N : List Int) (hs : a.eval s = v) (hown : IOwn w0.heap.size w v N) (n : Int) (xv : Value) (hx : a.eval x = xv) (hX : IntsAt w xv [n]) (hlen : N.length ≤ 1000)
    (h : ∀ v' w', IOwn w0.heap.size w' v' (N ++ [n]) → Keeps w0 w' → wpList Try.prog ops Q rest (a.put o.dst v') w') : wpList Try.prog ops Q (o :: rest) a w := by
  obtain ⟨v', w', hr, h2, h3⟩ := run_append_read w w0.heap.size 58 o.type 3 1 8 _ infoNum Try.underlying58 rfl (by decide) v N.length (intCells N) hown xv 1 (intCells [n]) hX (by simp [intCells, Value.oneCell']) (by unfold maxLen; omega) (by omega) hk.size
  refine wpList_append_run hg s x 58 hop hs hx hr (h v' w' ?_ (keeps_grown hk h3 (fun k e => hown.own e)))
  unfold IOwn
  rw [List.length_append, show intCells (N ++ [n]) = intCells N ++ intCells [n] from by simp [intCells]]
  exact h2
end Go.Proofs.Yteabfjpajgakiaf

/- LogKept: the walk. -/
set_option linter.unusedSimpArgs false
set_option linter.unusedVariables false
set_option maxRecDepth 10000
namespace Go.Proofs.Yteabfjpajgakiaf
open Go.RowKit

set_option maxHeartbeats 8000000 in
theorem log_kept (E : List Ent) (cut : Int) (la : Option Addr) (lc : Nat) (w : World) (hL : EntsAt w (.slice la E.length lc) E) (hcap : E.length ≤ lc) (hc0 : -9223372036854775808 ≤ cut) (hc1 : cut ≤ 9223372036854775807) : Calls Try.prog 6 #[.slice la E.length lc, .int .i64 cut] w fun y w' => y = .returned (.bool true) ∧ Keeps w w' := by
  have HL : Hid (EntsAt w (.slice la E.length lc) E) := hL
  have hlen := hL.2.1
  unfold maxLen at hlen
  clear hL
  by_cases h50 : E.length ≤ 50
  · have HS0 : Hid (allBs (E.take 0) = []) := by show _ = _; rw [List.take_zero]; rfl
    have HB0 : Hid (bt [] = ByteArray.mk #[]) := rfl
    go_enter Try.func6, Try.ntmps6
    go_wp2_with fail
    have e18 : decide ((50 : Int) < (E.length : Int)) = false := by simp; omega
    simp only [e18]
    clear e18
    go_loopw [5, 6, 7] (fun s v i wr => ∃ (k : Nat) (va : Option Addr) (vc : Nat), k ≤ E.length ∧ s = .string (bt (allBs (E.take k))) ∧ v = .slice va k vc ∧ i = .int .i64 k ∧ Hid (IOwn w.heap.size wr v (endsL E k) ∧ ∀ e ∈ E.take k, entErr e = 0) ∧ Hid (Keeps w wr)) (fun _ _ i _ => E.length - (intOf i).toNat)
    case atStart => exact ⟨0, none, 0, Nat.zero_le _, by rw [HS0.out]; rfl, rfl, rfl, ⟨IOwn.nil, by rw [List.take_zero]; intro e he; cases he⟩, Keeps.refl _⟩
    case round =>
      obtain ⟨k, va, vc, hk, rfl, rfl, rfl, HI, HK⟩ := hrel
      by_cases hlt : k < E.length
      · obtain ⟨b1, o1, p1, hv1, c0, c1, c2, c3, c4, c5, c6, c7, c8⟩ := (HL.out.keep HK.out).at hlt
        injection hv1 with hv1 ea eb
        subst hv1
        clear ea eb
        have HA : Hid (allBs (E.take k) ++ entBs E[k] = allBs (E.take (k + 1))) := (allBs_succ hlt).symm
        have HR : Hid (entErr E[k] = 0 → ∀ e ∈ E.take (k + 1), entErr e = 0) := fun h e he => by
          rw [List.take_succ_eq_append_getElem hlt, List.mem_append] at he
          rcases he with he | he
          · exact HI.out.2 e he
          · rw [List.mem_singleton] at he
            rw [he]
            exact h
        have HE : Hid (endsL E (k + 1) = endsL E k ++ [((allBs (E.take (k + 1))).length : Int)]) := endsL_succ E k
        have HW : Hid (∀ W, Calls Try.prog 15 #[entV E[k]] W fun y w' => y = .returned (.tuple #[.string (bt (wrBs E[k])), .int .i64 (entErr E[k])]) ∧ Keeps W w') := fun W => log_write E[k] W
        have HWB : Hid (entErr E[k] = 0 → wrBs E[k] = entBs E[k]) := fun h => if_pos (by rw [h]; rfl)
        have hS1 : (allBs (E.take k)).length ≤ 550 := by have := lenB_le E k; unfold lenB at this; omega
        have hS2 : (allBs (E.take (k + 1))).length ≤ 550 := by have := lenB_le E (k + 1); unfold lenB at this; omega
        have ht : (entBs E[k]).length ≤ 11 := (entBs_pos E[k]).2
        generalize E[k] = e at *
        generalize entErr e = er at *
        generalize wrBs e = ws at *
        go_wp2_with fail
        refine (HW.out wr).mono ?_
        rintro y w2 ⟨rfl, hb⟩
        have HK2 : Hid (Keeps w w2) := HK.out.trans hb
        have HI2 : Hid (IOwn w.heap.size w2 (.slice va k vc) (endsL E k)) := HI.out.1.keep hb
        clear hb HK HI HW c0 c1 c2 c3 c4 c5 c6 c7 c8
        cases q : (er == 0) with
        | false =>
          have q' : (er != 0) = true := by simp [bne, q]
          go_wp2_with fail
          refine (log_begun w2).mono ?_
          rintro y w3 ⟨rfl, hb⟩
          go_wp2_with fail
          go_ret
          exact ⟨rfl, HK2.out.trans hb⟩
        | true =>
          have q' : (er != 0) = false := by simp [bne, q]
          have q0 : er = 0 := by simpa using q
          have hws := HWB.out q0
          have HR2 := HR.out q0
          have HRn : Hid (∀ e ∈ E.take (k + 1), entErr e = 0) := HR2
          clear HR HR2 HWB
          subst hws q0
          have hap : bt (allBs (E.take k)) ++ bt (entBs e) = bt (allBs (E.take (k + 1))) := by rw [bt_append, HA.out]
          have hz1 := bt_size (allBs (E.take k))
          have hz2 := bt_size (entBs e)
          have hz3 := bt_size (allBs (E.take (k + 1)))
          clear HA q
          generalize hSS : allBs (E.take (k + 1)) = S' at *
          generalize hTT : allBs (E.take k) = S at *
          have HSS : Hid (allBs (E.take (k + 1)) = S') := hSS
          clear hSS hTT
          go_wp2_with (first | (refine app_num (HK2.out.alloc _) rfl _ _ rfl (.slice va k vc) (endsL E k) rfl (HI2.out.keep ((Keeps.refl _).alloc _)) (S'.length : Int) _ rfl (num_new w2 (S'.length : Int) 1) (by rw [endsL_len]; omega) ?_; intro v3 w3 hI3 hK3))
          rw [← HE.out] at hI3
          obtain ⟨va3, vc3, hv3, _⟩ := RowAt.len (RowAt.of_owns hI3)
          rw [endsL_len] at hv3
          go_roundw
          case rel => exact ⟨k + 1, va3, vc3, by omega, by rw [HSS.out], hv3, by go_num, ⟨hI3, HRn.out⟩, hK3⟩
          case measure => simp [intOf]; omega
      · have e : k = E.length := by omega
        subst e
        have HRA : Hid (∀ e ∈ E, entErr e = 0) := by
          have h := HI.out.2
          rw [List.take_length] at h
          exact h
        have HV : Hid (IntsAt wr (.slice va E.length vc) (endsL E E.length)) := by
          have h := IntsAt.of HI.out.1
          exact h
        have hS1 : (allBs (E.take E.length)).length ≤ 550 := by have := lenB_le E E.length; unfold lenB at this; omega
        obtain ⟨S, hS⟩ : ∃ S, S = allBs (E.take E.length) := ⟨_, rfl⟩
        have HSE : Hid (S = allBs E) := by show _ = _; rw [hS, List.take_length]
        rw [← hS] at hS1 ⊢
        clear hS HI
        have hz := bt_size S
        go_wp2_with fail
        refine (choose_n cut (S.length + 1) wr hc0 hc1 (by omega) (by omega)).mono ?_
        rintro y w2 ⟨r, hr0, hr1, rfl, hw⟩
        subst hw
        obtain ⟨nn, rfl⟩ : ∃ nn : Nat, r = nn := ⟨r.toNat, by omega⟩
        have hnn : nn ≤ S.length := by omega
        clear hr0 hr1
        generalize wr = wk at *
        go_wp2_with fail
        go_loopw [11, 12] (fun x z wr => ∃ (m : Nat), m ≤ E.length ∧ x = .int .i64 m ∧ z = .int .i64 (lenB E m : Int) ∧ Hid (lenB E m ≤ nn ∧ wholeN E nn = m + wholeN (E.drop m) (nn - lenB E m)) ∧ Hid (Keeps wk wr)) (fun x _ _ => E.length - (intOf x).toNat)
        case atStart => exact ⟨0, by omega, rfl, by simp [lenB, allBs], ⟨by simp [lenB, allBs], by simp [lenB, allBs]⟩, Keeps.refl _⟩
        case round =>
          obtain ⟨m, hm, rfl, rfl, HM, HK3⟩ := hrel
          have hB1 : lenB E m ≤ 550 := by have := lenB_le E m; omega
          have hB2 : lenB E (m + 1) ≤ 561 := by have := lenB_le E (m + 1); omega
          by_cases hlt : m < E.length
          · obtain ⟨b2, o2, p2, hv2, c2⟩ := (HV.out.keep HK3.out).at (k := m) (by rw [endsL_len]; exact hlt)
            rw [endsL_at, endsL_len] at *
            injection hv2 with hv2 ea eb
            subst hv2
            clear ea eb
            have HST := whole_step hlt HM.out.1
            by_cases hle : lenB E (m + 1) ≤ nn
            · rw [if_pos hle] at HST
              have HM2 : Hid (lenB E (m + 1) ≤ nn ∧ wholeN E nn = (m + 1) + wholeN (E.drop (m + 1)) (nn - lenB E (m + 1))) := ⟨hle, by rw [HM.out.2, HST]; omega⟩
              clear HST HM
              go_wp2_with fail
              go_roundw
              case rel => exact ⟨m + 1, by omega, by go_num, rfl, HM2, HK3⟩
              case measure => simp [intOf]; omega
            · rw [if_neg hle] at HST
              have HWN : Hid (wholeN E nn = m) := by show _ = _; rw [HM.out.2, HST]; rfl
              clear HST HM
              have hx0 : (bt S).extract 0 nn = bt (S.take nn) := bt_take S nn
              have HTR : Hid (∀ W, Calls Try.prog 18 #[.string (bt (S.take nn))] W fun y w' => ∃ v, EntsAt w' v (E.take m) ∧ y = .returned (.tuple #[v, .int .i64 (lenB E m : Int), .int .i64 0]) ∧ Keeps W w') := fun W => by
                obtain ⟨t1, t2, t3⟩ := take_right HRA.out h50 nn m HWN.out
                rw [HSE.out]
                refine (log_replay ((allBs E).take nn) W).mono ?_
                rintro y w' ⟨v, g1, g2, g3⟩
                rw [t1] at g1
                rw [t2, t3] at g2
                exact ⟨v, g1.at, g2, g3⟩
              have hmc : (m : Int) ≤ (lc : Int) := by omega
              have hml : (m : Int) ≤ (E.length : Int) := by omega
              have hz9 : ∀ w, (Go.sizeOf 35).run Try.prog w = .ok 9 w := fun _ => by kernel_rfl
              have HLP : Hid (∀ W, Keeps w W → EntsAt W (.slice la m lc) (E.take m)) := fun W hk => ents_prefix (HL.out.keep hk) (by omega)
              have HKX : Hid (Keeps w wr) := HK.out.trans HK3.out
              clear HWN HRA HSE
              go_wp2_with fail
              try rw [hx0]
              refine (HTR.out wr).mono ?_
              rintro y w4 ⟨v4, h4, rfl, hb⟩
              have HK4 : Hid (Keeps w w4) := HKX.out.trans hb
              have HE4 : Hid (EntsAt w4 v4 (E.take m)) := h4
              clear hb h4 HTR hx0 HKX
              go_wp2_with fail
              refine (log_begun w4).mono ?_
              rintro y w5 ⟨rfl, hb⟩
              have HK5 : Hid (Keeps w w5) := HK4.out.trans hb
              have HE5 : Hid (EntsAt w5 v4 (E.take m)) := HE4.out.keep hb
              clear hb HK4 HE4
              go_wp2_with fail
              refine (sameEnts_c (E.take m) (E.take m) v4 (.slice la m lc) w5 HE5.out (HLP.out w5 HK5.out)).mono ?_
              rintro y w6 ⟨rfl, hb⟩
              rw [sameEnts_self]
              have HK6 : Hid (Keeps w w6) := HK5.out.trans hb
              clear hb
              go_wp2_with fail
              go_ret
              exact ⟨rfl, HK6.out⟩
          · have HWN : Hid (wholeN E nn = m) := by
              show _ = _
              rw [HM.out.2, List.drop_of_length_le (by omega)]
              rfl
            clear HM
            have hx0 : (bt S).extract 0 nn = bt (S.take nn) := bt_take S nn
            have HTR : Hid (∀ W, Calls Try.prog 18 #[.string (bt (S.take nn))] W fun y w' => ∃ v, EntsAt w' v (E.take m) ∧ y = .returned (.tuple #[v, .int .i64 (lenB E m : Int), .int .i64 0]) ∧ Keeps W w') := fun W => by
              obtain ⟨t1, t2, t3⟩ := take_right HRA.out h50 nn m HWN.out
              rw [HSE.out]
              refine (log_replay ((allBs E).take nn) W).mono ?_
              rintro y w' ⟨v, g1, g2, g3⟩
              rw [t1] at g1
              rw [t2, t3] at g2
              exact ⟨v, g1.at, g2, g3⟩
            have hmc : (m : Int) ≤ (lc : Int) := by omega
            have hml : (m : Int) ≤ (E.length : Int) := by omega
            have hz9 : ∀ w, (Go.sizeOf 35).run Try.prog w = .ok 9 w := fun _ => by kernel_rfl
            have HLP : Hid (∀ W, Keeps w W → EntsAt W (.slice la m lc) (E.take m)) := fun W hk => ents_prefix (HL.out.keep hk) (by omega)
            have HKX : Hid (Keeps w wr) := HK.out.trans HK3.out
            clear HWN HRA HSE
            go_wp2_with fail
            try rw [hx0]
            refine (HTR.out wr).mono ?_
            rintro y w4 ⟨v4, h4, rfl, hb⟩
            have HK4 : Hid (Keeps w w4) := HKX.out.trans hb
            have HE4 : Hid (EntsAt w4 v4 (E.take m)) := h4
            clear hb h4 HTR hx0 HKX
            go_wp2_with fail
            refine (log_begun w4).mono ?_
            rintro y w5 ⟨rfl, hb⟩
            have HK5 : Hid (Keeps w w5) := HK4.out.trans hb
            have HE5 : Hid (EntsAt w5 v4 (E.take m)) := HE4.out.keep hb
            clear hb HK4 HE4
            go_wp2_with fail
            refine (sameEnts_c (E.take m) (E.take m) v4 (.slice la m lc) w5 HE5.out (HLP.out w5 HK5.out)).mono ?_
            rintro y w6 ⟨rfl, hb⟩
            rw [sameEnts_self]
            have HK6 : Hid (Keeps w w6) := HK5.out.trans hb
            clear hb
            go_wp2_with fail
            go_ret
            exact ⟨rfl, HK6.out⟩
  · go_enter Try.func6, Try.ntmps6
    go_wp2_with fail
    refine (log_begun w).mono ?_
    rintro y w3 ⟨rfl, hb⟩
    go_wp2_with fail
    go_ret
    exact ⟨rfl, hb⟩
end Go.Proofs.Yteabfjpajgakiaf
