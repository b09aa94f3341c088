/- EnE, ApL, OpI, ApM0, ApM, ApN0, ChN. -/
import Derived.Test.YteabfjpajgakiabJ00
import Derived.Test.YteabfjpajgakiabJ04
import Derived.Test.YteabfjpajgakiabJ07
import Derived.Test.YteabfjpajgakiabJ12
import Derived.Test.YteabfjpajgakiabJ14
/- The reference's EntryError. -/
set_option linter.unusedSimpArgs false
set_option linter.unusedVariables false
set_option maxRecDepth 10000
namespace Go.Proofs.Yteabfjpajgakiab
open Go.RowKit

set_option maxHeartbeats 4000000 in
theorem entry_error (e : Ent) (w : World) : Calls Try.prog 16 #[entV e] w fun x w' => x = .returned (.int .i64 (entErr e)) ∧ Keeps w w' := by
  have HE : Hid (entErr e = if inB e.kind 1 3 then (if entIn e then (if e.kind == 2 then opErr e.ok e.okey e.oto e.on else if e.seq == 0 && (e.ack == 0 && opNone e) then 0 else 1) else 3) else 4) := rfl
  have HI : Hid (entIn e = (inB e.time 0 999 && (inB e.client 1 5 && (e.kind != 2 || (inB e.seq 1 60 && inB e.ack 0 (e.seq - 1)))))) := rfl
  have HN : Hid (opNone e = (e.ok == 0 && (e.okey == 0 && (e.oto == 0 && e.on == 0)))) := rfl
  have hn := neqop
  cases q1 : inB e.kind 1 3 with
  | false =>
    have HE : Hid (entErr e = 4) := by show _ = _; rw [HE.out, q1]; rfl
    go_enter Try.func16, Try.ntmps16
    go_wp2_with (first | (go_at_call 27; refine (within_c _ _ _ _).mono ?_; rintro x w' ⟨rfl, rfl⟩))
    go_ret
    exact ⟨ret_int HE.out.symm, (Keeps.refl _).alloc _⟩
  | true =>
    rw [q1] at HE
    cases qt : inB e.time 0 999 with
    | false =>
      have HF : Hid (entErr e = 3) := by show _ = _; rw [HE.out, HI.out, qt]; rfl
      go_enter Try.func16, Try.ntmps16
      go_wp2_with (first | (go_at_call 27; refine (within_c _ _ _ _).mono ?_; rintro x w' ⟨rfl, rfl⟩))
      go_ret
      exact ⟨ret_int HF.out.symm, (Keeps.refl _).alloc _⟩
    | true =>
      cases qc : inB e.client 1 5 with
      | false =>
        have HF : Hid (entErr e = 3) := by show _ = _; rw [HE.out, HI.out, qt, qc]; rfl
        go_enter Try.func16, Try.ntmps16
        go_wp2_with (first | (go_at_call 27; refine (within_c _ _ _ _).mono ?_; rintro x w' ⟨rfl, rfl⟩))
        go_ret
        exact ⟨ret_int HF.out.symm, (Keeps.refl _).alloc _⟩
      | true =>
        cases q3 : (e.kind == 2) with
        | false =>
          have q3' : (e.kind != 2) = true := by simp [bne, q3]
          have HEE : Hid (entErr e = if e.seq == 0 && (e.ack == 0 && opNone e) then 0 else 1) := by show _ = _; rw [HE.out, HI.out, qt, qc, q3', q3]; rfl
          cases q4 : (e.seq == 0) with
          | false =>
            have q4' : (e.seq != 0) = true := by simp [bne, q4]
            have HF : Hid (entErr e = 1) := by show _ = _; rw [HEE.out, q4]; rfl
            go_enter Try.func16, Try.ntmps16
            go_wp2_with (first | (go_at_call 27; refine (within_c _ _ _ _).mono ?_; rintro x w' ⟨rfl, rfl⟩))
            go_ret
            exact ⟨ret_int HF.out.symm, (Keeps.refl _).alloc _⟩
          | true =>
            have q4' : (e.seq != 0) = false := by simp [bne, q4]
            cases q5 : (e.ack == 0) with
            | false =>
              have q5' : (e.ack != 0) = true := by simp [bne, q5]
              have HF : Hid (entErr e = 1) := by show _ = _; rw [HEE.out, q4, q5]; rfl
              go_enter Try.func16, Try.ntmps16
              go_wp2_with (first | (go_at_call 27; refine (within_c _ _ _ _).mono ?_; rintro x w' ⟨rfl, rfl⟩))
              go_ret
              exact ⟨ret_int HF.out.symm, (Keeps.refl _).alloc _⟩
            | true =>
              have q5' : (e.ack != 0) = false := by simp [bne, q5]
              cases q6 : (e.ok == 0 && (e.okey == 0 && (e.oto == 0 && e.on == 0))) with
              | false =>
                have q6' : (!(e.ok == 0 && (e.okey == 0 && (e.oto == 0 && e.on == 0)))) = true := by rw [q6]; rfl
                have HF : Hid (entErr e = 1) := by show _ = _; rw [HEE.out, q4, q5, HN.out, q6]; rfl
                go_enter Try.func16, Try.ntmps16
                go_wp2_with (first | (go_at_call 27; refine (within_c _ _ _ _).mono ?_; rintro x w' ⟨rfl, rfl⟩))
                go_ret
                exact ⟨ret_int HF.out.symm, (Keeps.refl _).alloc _⟩
              | true =>
                have q6' : (!(e.ok == 0 && (e.okey == 0 && (e.oto == 0 && e.on == 0)))) = false := by rw [q6]; rfl
                have HF : Hid (entErr e = 0) := by show _ = _; rw [HEE.out, q4, q5, HN.out, q6]; rfl
                go_enter Try.func16, Try.ntmps16
                go_wp2_with (first | (go_at_call 27; refine (within_c _ _ _ _).mono ?_; rintro x w' ⟨rfl, rfl⟩))
                go_ret
                exact ⟨ret_int HF.out.symm, (Keeps.refl _).alloc _⟩
        | true =>
          have q3' : (e.kind != 2) = false := by simp [bne, q3]
          cases qs : inB e.seq 1 60 with
          | false =>
            have HF : Hid (entErr e = 3) := by show _ = _; rw [HE.out, HI.out, qt, qc, q3', qs]; rfl
            go_enter Try.func16, Try.ntmps16
            go_wp2_with (first | (go_at_call 27; refine (within_c _ _ _ _).mono ?_; rintro x w' ⟨rfl, rfl⟩))
            go_ret
            exact ⟨ret_int HF.out.symm, (Keeps.refl _).alloc _⟩
          | true =>
            have qs' := inB_iff.1 qs
            obtain ⟨qs1, qs2⟩ := qs'
            cases qa : inB e.ack 0 (e.seq - 1) with
            | false =>
              have HF : Hid (entErr e = 3) := by show _ = _; rw [HE.out, HI.out, qt, qc, q3', qs, qa]; rfl
              go_enter Try.func16, Try.ntmps16
              go_wp2_with (first | (go_at_call 27; refine (within_c _ _ _ _).mono ?_; rintro x w' ⟨rfl, rfl⟩))
              go_ret
              exact ⟨ret_int HF.out.symm, (Keeps.refl _).alloc _⟩
            | true =>
              have HF : Hid (entErr e = opErr e.ok e.okey e.oto e.on) := by show _ = _; rw [HE.out, HI.out, qt, qc, q3', qs, qa, q3]; rfl
              go_enter Try.func16, Try.ntmps16
              go_wp2_with (first | (go_at_call 27; refine (within_c _ _ _ _).mono ?_; rintro x w' ⟨rfl, rfl⟩) | (go_at_call 37; refine (op_error e.ok e.okey e.oto e.on _).mono ?_; rintro x w2 ⟨rfl, hb⟩))
              go_ret
              exact ⟨ret_int HF.out.symm, ((Keeps.refl _).alloc _).trans hb⟩

end Go.Proofs.Yteabfjpajgakiab

/- The walk of ApplyChecks. -/
set_option linter.unusedSimpArgs false
set_option linter.unusedVariables false
set_option maxRecDepth 10000
namespace Go.Proofs.Yteabfjpajgakiab
open Go.RowKit

set_option maxHeartbeats 2000000 in
theorem checks_law (e : Ent) (w : World) : Calls Try.prog 4 #[entV e] w fun x w' => x = .returned (.bool true) ∧ Keeps w w' := by
  go_enter Try.func4, Try.ntmps4
  go_wp2_with fail
  obtain ⟨W1, hW1⟩ : ∃ W1, W1 = w.alloc (.cells #[.int .i64 e.kind, .int .i64 e.time, .int .i64 e.client, .int .i64 e.seq, .int .i64 e.ack, .int .i64 e.ok, .int .i64 e.okey, .int .i64 e.oto, .int .i64 e.on] 33) := ⟨_, rfl⟩
  have k1 : Keeps w W1 := by rw [hW1]; exact (Keeps.refl _).alloc _
  have E1 : EntBox w.heap.size e W1 := by rw [hW1]; exact EntBox.new w e 33
  rw [← hW1]
  clear hW1
  have hne := After.some W1
  have x0 := fun t : After W1 => (E1.keep t.h).c0
  have x1 := fun t : After W1 => (E1.keep t.h).c1
  have x2 := fun t : After W1 => (E1.keep t.h).c2
  have x3 := fun t : After W1 => (E1.keep t.h).c3
  have x4 := fun t : After W1 => (E1.keep t.h).c4
  have x5 := fun t : After W1 => (E1.keep t.h).c5
  have x6 := fun t : After W1 => (E1.keep t.h).c6
  have x7 := fun t : After W1 => (E1.keep t.h).c7
  have x8 := fun t : After W1 => (E1.keep t.h).c8
  have C1 : Hid (∀ W, Calls Try.prog 15 #[entV e] W fun x w' => x = .returned (.int .i64 (entErr e)) ∧ Keeps W w') := fun W => ent_check e W
  have C2 : Hid (∀ W, Calls Try.prog 16 #[entV e] W fun x w' => x = .returned (.int .i64 (entErr e)) ∧ Keeps W w') := fun W => entry_error e W
  generalize entErr e = er at *
  refine wp_region_after (by kernel_rfl) (by kernel_rfl) ?_
  repeat (first | go_big_quiet_skip | (go_big_quiet_want; go_big_quiet_op; first | go_big_quiet_on | (apply Exists.intro; refine ⟨fun _ => ?_, ?_⟩; (first | (go_at_call 14; exact calls_after (apply_begun _)) | (go_at_call 15; exact calls_after (C1.out _)) | (go_at_call 16; exact calls_after (C2.out _))); go_big_quiet_on)))
  refine wpQuiet_nil ?_
  rintro _ ⟨r, rfl⟩
  go_wp2_with fail
  go_ret
  exact ⟨rfl, k1.trans r.h⟩
end Go.Proofs.Yteabfjpajgakiab

/- What op.Do's answer is good for: plain mathematics. -/
set_option linter.unusedSimpArgs false
set_option linter.unusedVariables false
namespace Go.Proofs.Yteabfjpajgakiab

structure DoGood (g r : Nat → Int) (k key tk m : Int) : Prop where
  k0 : 0 ≤ key
  k3 : key ≤ 3
  kind : (k = 1 ∧ tk = 0) ∨ (k = 2 ∧ tk = 0) ∨ (k = 3 ∧ 0 ≤ tk ∧ tk ≤ 3) ∨ (k = 4 ∧ tk = 0)
  vals : ∀ i, i < 4 → 0 ≤ g i ∧ g i ≤ 999
  outs : ∀ i, i < 4 → 0 ≤ r i ∧ r i ≤ 999
  diff : ∀ i, i < 4 → r i = g i ∨ (i : Int) = key ∨ (k = 3 ∧ (i : Int) = tk)
  fail : m = -1 → ∀ i, i < 4 → r i = g i
  ans : m ≠ -1 → m = r key.toNat
  sum : k = 3 ∨ k = 4 → r 0 + r 1 + r 2 + r 3 = g 0 + g 1 + g 2 + g 3
  get : k = 4 → ∀ i, i < 4 → r i = g i

theorem upd_in {g : Nat → Int} {j : Nat} {x : Int} (hg : ∀ i, i < 4 → 0 ≤ g i ∧ g i ≤ 999) (hx : 0 ≤ x ∧ x ≤ 999) : ∀ i, i < 4 → 0 ≤ upd g j x i ∧ upd g j x i ≤ 999 := by
  intro i hi; unfold upd; split
  · exact hx
  · exact hg i hi

theorem do_good (g : Nat → Int) (k key tk n : Int) (h : doErr g k key tk n = 0) : DoGood g (doVals g k key tk n) k key tk (doAns g k key tk n) := by
  have he : (opErr k key tk n == 0) = true := by
    cases e : (opErr k key tk n == 0) with
    | true => rfl
    | false => simp [doErr, e] at h; simp [h] at e
  have hv : valsOk g = true := by
    cases e : valsOk g with
    | true => rfl
    | false => simp [doErr, he, e] at h
  have h0 : opErr k key tk n = 0 := by simpa using he
  have hg := vals_at hv
  obtain ⟨⟨hk0, hk3⟩, hk⟩ := op_right h0
  have hkey : (key.toNat : Int) = key := by omega
  have hgk := hg key.toNat (by omega)
  have e1 : doVals g k key tk n = if stepOk k g key tk n then stepTo k g key tk n else g := by simp [doVals, he, hv]
  have e2 : doAns g k key tk n = if stepOk k g key tk n then stepTo k g key tk n key.toNat else -1 := by simp [doAns, he, hv]
  rw [e1, e2]
  have same : DoGood g g k key tk (-1) := by
    refine ⟨hk0, hk3, by omega, hg, hg, fun i _ => .inl rfl, fun _ i _ => rfl, fun h => absurd rfl h, fun _ => rfl, fun _ i _ => rfl⟩
  cases hs : stepOk k g key tk n with
  | false => simpa using same
  | true =>
    simp only [if_true]
    rcases hk with ⟨rfl, ht, hn0, hn1⟩ | ⟨rfl, ht, hn0, hn1⟩ | ⟨rfl, ⟨ht0, ht3⟩, hn0, hn1⟩ | ⟨rfl, ht, hn⟩
    · have e : stepTo 1 g key tk n = upd g key.toNat n := rfl
      rw [e]
      refine ⟨hk0, hk3, by omega, hg, upd_in hg ⟨hn0, hn1⟩, fun i _ => ?_, fun h => ?_, fun _ => rfl, fun h => by omega, fun h => by omega⟩
      · unfold upd; split
        · right; left; omega
        · left; rfl
      · exfalso; simp [upd] at h; omega
    · have e : stepTo 2 g key tk n = upd g key.toNat (g key.toNat + n) := rfl
      have hb : 0 ≤ g key.toNat + n ∧ g key.toNat + n ≤ 999 := by simpa [stepOk, inB] using hs
      rw [e]
      refine ⟨hk0, hk3, by omega, hg, upd_in hg hb, fun i _ => ?_, fun h => ?_, fun _ => rfl, fun h => by omega, fun h => by omega⟩
      · unfold upd; split
        · right; left; omega
        · left; rfl
      · exfalso; simp [upd] at h; omega
    · have e : stepTo 3 g key tk n = upd (upd g key.toNat (g key.toNat + -n)) tk.toNat (upd g key.toNat (g key.toNat + -n) tk.toNat + n) := rfl
      have hb : (0 ≤ g key.toNat + -n ∧ g key.toNat + -n ≤ 999) ∧ 0 ≤ upd g key.toNat (g key.toNat + -n) tk.toNat + n ∧ upd g key.toNat (g key.toNat + -n) tk.toNat + n ≤ 999 := by
        simpa [stepOk, inB] using hs
      rw [e]
      have hin := upd_in (upd_in hg hb.1 (j := key.toNat)) hb.2 (j := tk.toNat)
      refine ⟨hk0, hk3, by omega, hg, hin, fun i _ => ?_, fun h => ?_, fun _ => rfl, fun _ => ?_, fun h => by omega⟩
      · by_cases h1 : i = tk.toNat
        · right; right; exact ⟨rfl, by omega⟩
        · by_cases h2 : i = key.toNat
          · right; left; omega
          · left; simp [upd, h1, h2]
      · exfalso; have := hin key.toNat (by omega); omega
      · rcases four hk0 hk3 with rfl | rfl | rfl | rfl <;> rcases four ht0 ht3 with rfl | rfl | rfl | rfl <;> simp [upd] <;> omega
    · have e : stepTo 4 g key tk n = g := rfl
      rw [e]
      exact ⟨hk0, hk3, by omega, hg, hg, fun i _ => .inl rfl, fun _ i _ => rfl, fun _ => rfl, fun _ => rfl, fun _ i _ => rfl⟩
end Go.Proofs.Yteabfjpajgakiab

/- What One makes of a right state is right: plain mathematics. -/
set_option linter.unusedSimpArgs false
set_option linter.unusedVariables false
namespace Go.Proofs.Yteabfjpajgakiab
open Go.RowKit

theorem keptOk_iff : ∀ {hi lo : Int} {l : List (Int × Int)}, keptOk hi lo l = true ↔ l.Pairwise (fun a b => a.1 < b.1) ∧ ∀ r ∈ l, (lo ≤ r.1 ∧ r.1 ≤ hi) ∧ -1 ≤ r.2 ∧ r.2 ≤ 999
  | hi, lo, [] => by simp [keptOk]
  | hi, lo, (q, v) :: t => by
    have ih := keptOk_iff (hi := hi) (lo := q + 1) (l := t)
    simp only [keptOk, Bool.and_eq_true, inB_iff, ih, List.pairwise_cons, List.mem_cons]
    constructor
    · rintro ⟨⟨h1, h2⟩, h3, h4⟩
      refine ⟨⟨fun a ha => ?_, h3⟩, fun r hr => ?_⟩
      · have := (h4 a ha).1.1
        show q < a.1
        omega
      · rcases hr with rfl | hr
        · exact ⟨h1, h2⟩
        · have := h4 r hr
          exact ⟨⟨by omega, this.1.2⟩, this.2⟩
    · rintro ⟨⟨h1, h2⟩, h3⟩
      have h0 := h3 (q, v) (.inl rfl)
      refine ⟨⟨h0.1, h0.2⟩, h2, fun r hr => ?_⟩
      have a1 := h1 r hr
      have a2 := h3 r (.inr hr)
      have a1 : q < r.1 := a1
      exact ⟨⟨by omega, a2.1.2⟩, a2.2⟩

theorem rises_pair {l : List (Int × Int)} : Rises l ↔ l.Pairwise (fun a b => a.1 < b.1) := by
  rw [List.pairwise_iff_getElem]
  exact ⟨fun h i j hi hj hij => h i j hi hj hij, fun h i j hi hj hij => h i j hi hj hij⟩

/-- Where a number belongs. -/
theorem place_pos : ∀ {l : List (Int × Int)} (seq : Int), l.Pairwise (fun a b => a.1 < b.1) → (∀ r ∈ l.take (posOf l seq), r.1 < seq) ∧ (∀ r ∈ l.drop (posOf l seq), seq ≤ r.1)
  | [], seq, _ => by simp [posOf]
  | a :: t, seq, h => by
    rw [List.pairwise_cons] at h
    by_cases ha : a.1 < seq
    · have e : posOf (a :: t) seq = posOf t seq + 1 := by simp [posOf, List.takeWhile_cons, ha]
      have ih := place_pos seq h.2
      rw [e, List.take_succ_cons, List.drop_succ_cons]
      refine ⟨fun r hr => ?_, ih.2⟩
      rcases List.mem_cons.1 hr with rfl | hr
      · exact ha
      · exact ih.1 r hr
    · have e : posOf (a :: t) seq = 0 := by simp [posOf, List.takeWhile_cons, ha]
      rw [e]
      refine ⟨by simp, fun r hr => ?_⟩
      rw [List.drop_zero] at hr
      rcases List.mem_cons.1 hr with rfl | hr
      · omega
      · have := h.1 r hr
        omega
theorem place_gone {l : List (Int × Int)} {seq : Int} (hp : l.Pairwise (fun a b => a.1 < b.1)) (h : keptHas l seq = false) : ∀ r ∈ l.drop (posOf l seq), seq < r.1 := by
  have h2 := (place_pos seq hp).2
  unfold keptHas thereB at h
  have hd : (l.drop (posOf l seq)).Pairwise (fun a b => a.1 < b.1) := hp.sublist (List.drop_sublist _ _)
  have hget : l[posOf l seq]? = (l.drop (posOf l seq))[0]? := by rw [List.getElem?_drop, Nat.add_zero]
  rw [hget] at h
  cases hl : l.drop (posOf l seq) with
  | nil => intro r hr; cases hr
  | cons a t =>
    rw [hl] at h h2 hd
    simp at h
    intro r hr
    have ha := h2 a (List.mem_cons_self ..)
    rcases List.mem_cons.1 hr with rfl | hr
    · omega
    · have := (List.pairwise_cons.1 hd).1 r hr
      omega

theorem keptPut_ok {hi lo seq v : Int} {l : List (Int × Int)} (h : keptOk hi lo l = true) (h1 : lo ≤ seq) (h2 : seq ≤ hi) (h3 : -1 ≤ v) (h4 : v ≤ 999) (hn : keptHas l seq = false) : keptOk hi lo (keptPut l seq v) = true := by
  obtain ⟨hp, hb⟩ := keptOk_iff.1 h
  have ht := (place_pos seq hp).1
  have hd := place_gone hp hn
  refine keptOk_iff.2 ⟨?_, fun r hr => ?_⟩
  · unfold keptPut
    rw [List.pairwise_append, List.pairwise_cons]
    refine ⟨hp.sublist (List.take_sublist _ _), ⟨fun a ha => hd a ha, hp.sublist (List.drop_sublist _ _)⟩, fun a ha b hb' => ?_⟩
    have := ht a ha
    rcases List.mem_cons.1 hb' with rfl | hb'
    · exact this
    · have := hd b hb'
      omega
  · unfold keptPut at hr
    rcases List.mem_append.1 hr with hr | hr
    · exact hb r (List.mem_of_mem_take hr)
    · rcases List.mem_cons.1 hr with rfl | hr
      · exact ⟨⟨h1, h2⟩, h3, h4⟩
      · exact hb r (List.mem_of_mem_drop hr)

theorem keptAfter_ok {a b : Int} {l : List (Int × Int)} (h : keptOk (min (a + 3) 60) (a + 1) l = true) (hab : a ≤ b) : keptOk (min (b + 3) 60) (b + 1) (keptAfter b l) = true := by
  obtain ⟨hp, hb⟩ := keptOk_iff.1 h
  refine keptOk_iff.2 ⟨hp.filter _, fun r hr => ?_⟩
  obtain ⟨h1, h2⟩ := List.mem_filter.1 hr
  have := hb r h1
  simp at h2
  omega

theorem seenAll_iff {c : Int} : ∀ {L : List Ses}, seenAll c L = true ↔ ∀ s ∈ L, c - 20 ≤ s.seen ∧ s.seen ≤ c
  | [] => by simp [seenAll]
  | a :: t => by
    simp only [seenAll, Bool.and_eq_true, inB_iff, seenAll_iff (L := t), List.mem_cons]
    constructor
    · rintro ⟨h1, h2⟩ s (rfl | hs)
      · exact h1
      · exact h2 s hs
    · exact fun h => ⟨h a (.inl rfl), fun s hs => h s (.inr hs)⟩

theorem stErr_of {s : St} (h1 : stIn s = true) (h2 : tabErr s.tab = 0) (h3 : seenAll s.clock s.tab = true) : stErr s = 0 := by simp [stErr, h1, h2, h3]

theorem ticked_right {s : St} {time : Int} (h : stErr s = 0) (h0 : 0 ≤ time) (h1 : time ≤ 999) (hat : s.at_ ≠ 50) : stErr (ticked s time) = 0 := by
  obtain ⟨hin, htab, hseen⟩ := stErr_in h
  obtain ⟨⟨ha0, ha1⟩, hc0, hc1⟩ := stErr_bounds h
  refine stErr_of ?_ (fresh_right htab) ?_
  · simp only [stIn, Bool.and_eq_true, inB_iff] at hin ⊢
    refine ⟨hin.1, ?_, ?_⟩
    · show 0 ≤ s.at_ + 1 ∧ s.at_ + 1 ≤ 50
      omega
    · show 0 ≤ max s.clock time ∧ max s.clock time ≤ 999
      omega
  · refine seenAll_iff.2 fun x hx => ?_
    obtain ⟨hx1, hx2⟩ := List.mem_filter.1 hx
    have := seenAll_iff.1 hseen x hx1
    simp at hx2
    show max s.clock time - 20 ≤ x.seen ∧ x.seen ≤ max s.clock time
    omega

theorem mem_putList {L : List Ses} {s x : Ses} (h : x ∈ putList L s) : x = s ∨ x ∈ L := by
  unfold putList at h
  simp only [List.mem_append, List.mem_filter, List.mem_singleton] at h
  rcases h with (h | h) | h
  · exact .inr h.1
  · exact .inl h
  · exact .inr h.1

theorem put_zero {L : List Ses} {s : Ses} (h1 : tabErr L = 0) (h2 : sesErr s = 0) (h3 : (putList L s).length ≤ 3) : putErr L s = 0 := by
  simp [putErr, h1, h2]
  omega

/-- A session in the place of its client's. -/
theorem put_len : ∀ {L : List Ses} {f : Ses} (s : Ses), L.Pairwise (fun a b => a.client < b.client) → f ∈ L → f.client = s.client → (putList L s).length = L.length
  | [], f, s, _, h, _ => by cases h
  | a :: t, f, s, hp, hf, hc => by
    rw [List.pairwise_cons] at hp
    rcases List.mem_cons.1 hf with rfl | hf
    · have e1 : (f :: t).filter (fun o => decide (o.client < s.client)) = [] := by
        rw [List.filter_eq_nil_iff]
        intro o ho
        rcases List.mem_cons.1 ho with rfl | ho
        · simp [hc]
        · have := hp.1 o ho
          simp
          omega
      have e2 : (f :: t).filter (fun o => decide (s.client < o.client)) = t := by
        rw [List.filter_cons_of_neg (by simp [hc]), List.filter_eq_self.2]
        intro o ho
        have := hp.1 o ho
        simp
        omega
      unfold putList
      rw [e1, e2]
      simp
    · have hac := hp.1 f hf
      have ih := put_len s hp.2 hf hc
      unfold putList at ih ⊢
      rw [List.filter_cons_of_pos (by simp; omega), List.filter_cons_of_neg (by simp; omega)]
      simp at ih ⊢
      omega

/-- A state whose table is turned. -/
theorem tab_turned {s : St} {L : List Ses} (h : stErr s = 0) (h1 : tabErr L = 0) (h2 : ∀ x ∈ L, s.clock - 20 ≤ x.seen ∧ x.seen ≤ s.clock) : stErr { s with tab := L } = 0 :=
  stErr_of (stErr_in h).1 h1 (seenAll_iff.2 h2)

theorem opened_right {s : St} {c : Int} (h : stErr s = 0) : stErr (openedSt s c) = 0 := by
  unfold openedSt
  split
  · rename_i hp
    have hp : putErr s.tab (openSes s c) = 0 := by simpa using hp
    have hb := (stErr_bounds h).2
    have hs := seenAll_iff.1 (stErr_in h).2.2
    refine tab_turned h (by rw [putTab_ok hp]; exact put_right hp) fun x hx => ?_
    rw [putTab_ok hp] at hx
    rcases mem_putList hx with rfl | hx
    · show s.clock - 20 ≤ s.clock ∧ s.clock ≤ s.clock
      omega
    · exact hs x hx
  · exact h

theorem closed_right {s : St} {c : Int} (h : stErr s = 0) : stErr (closedSt s c) = 0 := by
  unfold closedSt
  split
  · rename_i hp
    have hp : dropErr s.tab c = 0 := by simpa using hp
    have hs := seenAll_iff.1 (stErr_in h).2.2
    refine tab_turned h (by rw [drop_tab hp]; exact tab_sub (stErr_in h).2.1 List.filter_sublist) fun x hx => ?_
    rw [drop_tab hp] at hx
    exact hs x (List.mem_filter.1 hx).1
  · exact h

theorem vals_of {s : St} (h : stErr s = 0) : valsOk (stG s) = true := by
  have h1 := (stErr_in h).1
  simp only [stIn, valsIn, Bool.and_eq_true, inB_iff] at h1
  simp [valsOk, stG, inB]
  omega
theorem done_good {s : St} {e : Ent} (h : stErr s = 0) (he : opErr e.ok e.okey e.oto e.on = 0) : DoGood (stG s) (doneVals s e) e.ok e.okey e.oto (doneAns s e) :=
  do_good _ _ _ _ _ (by simp [doErr, he, vals_of h])
theorem doneAns_in {s : St} {e : Ent} (h : stErr s = 0) (he : opErr e.ok e.okey e.oto e.on = 0) : -1 ≤ doneAns s e ∧ doneAns s e ≤ 999 := by
  have hg := done_good h he
  by_cases hm : doneAns s e = -1
  · omega
  · have h1 := hg.ans hm
    have h2 := hg.outs e.okey.toNat (by have := hg.k0; have := hg.k3; omega)
    omega

theorem ses_zero {f : Ses} (h1 : 1 ≤ f.client ∧ f.client ≤ 5) (h2 : 0 ≤ f.acked ∧ f.acked ≤ 60) (h3 : 0 ≤ f.seen ∧ f.seen ≤ 999) (h4 : keptOk (min (f.acked + 3) 60) (f.acked + 1) f.kept = true) : sesErr f = 0 :=
  sesErr_ok (inB_iff.2 h1) (inB_iff.2 h2) (inB_iff.2 h3) h4

/-- What a Call leaves of its session is right. -/
theorem callSes_right {s : St} {f : Ses} {e : Ent} (h : stErr s = 0) (hf : sesErr f = 0) (he : entErr e = 0) (hk : e.kind = 2) : sesErr (callSes s f e) = 0 := by
  obtain ⟨_, _, _, hcall, _⟩ := ent_right he
  obtain ⟨⟨hq0, hq1⟩, ⟨ha0, ha1⟩, hop⟩ := hcall hk
  obtain ⟨r1, r2, r3, r4⟩ := ses_right hf
  have r1 := inB_iff.1 r1
  have r2 := inB_iff.1 r2
  have hc := (stErr_bounds h).2
  have hk0 : keptOk (min (max f.acked e.ack + 3) 60) (max f.acked e.ack + 1) (keptAfter (max f.acked e.ack) f.kept) = true := keptAfter_ok r4 (by omega)
  refine ses_zero r1 ?_ hc ?_
  · show 0 ≤ max f.acked e.ack ∧ max f.acked e.ack ≤ 60
    omega
  · show keptOk (min (max f.acked e.ack + 3) 60) (max f.acked e.ack + 1) (ansKept s (calledSes s f e) e) = true
    unfold ansKept
    split
    · rename_i hd
      simp only [ansDone, Bool.and_eq_true, Bool.not_eq_true', decide_eq_false_iff_not] at hd
      obtain ⟨d1, d2, d3⟩ := hd
      have e1 : (calledSes s f e).acked = max f.acked e.ack := rfl
      rw [e1] at d1 d3
      have hin := doneAns_in h hop
      exact keptPut_ok hk0 (by omega) (by omega) hin.1 hin.2 d2
    · exact hk0

theorem ansSt_same {s : St} {f : Ses} {e : Ent} : (ansSt s f e).at_ = s.at_ ∧ (ansSt s f e).clock = s.clock ∧ (ansSt s f e).tab = s.tab := by
  unfold ansSt
  split
  · exact ⟨rfl, rfl, rfl⟩
  · exact ⟨rfl, rfl, rfl⟩
theorem ansSt_right {s : St} {f : Ses} {e : Ent} (h : stErr s = 0) (he : opErr e.ok e.okey e.oto e.on = 0) : stErr (ansSt s f e) = 0 := by
  unfold ansSt
  split
  · have hg := (done_good h he).outs
    obtain ⟨h1, h2, h3⟩ := stErr_in h
    refine stErr_of ?_ h2 h3
    simp only [stIn, valsIn, Bool.and_eq_true, inB_iff] at h1 ⊢
    exact ⟨⟨hg 0 (by omega), hg 1 (by omega), hg 2 (by omega), hg 3 (by omega)⟩, h1.2⟩
  · exact h

theorem call_put {s : St} {f : Ses} {e : Ent} (h : stErr s = 0) (he : entErr e = 0) (hk : e.kind = 2) (hf : findSes s.tab e.client = some f) : putErr s.tab (callSes s f e) = 0 ∧ sesErr f = 0 ∧ f.client = e.client ∧ f ∈ s.tab := by
  have htab := (stErr_in h).2.1
  obtain ⟨t1, t2, t3⟩ := tab_right htab
  obtain ⟨hm, hc⟩ := findSes_mem hf
  refine ⟨put_zero htab (callSes_right h (t2 f hm) he hk) ?_, t2 f hm, hc, hm⟩
  rw [put_len (callSes s f e) (rising_iff.1 t3) hm rfl]
  exact t1

theorem called_right {s : St} {e : Ent} (h : stErr s = 0) (he : entErr e = 0) (hk : e.kind = 2) : stErr (callSt s e) = 0 ∧ (callSt s e).at_ = s.at_ ∧ (callSt s e).clock = s.clock := by
  unfold callSt
  cases hf : findSes s.tab e.client with
  | none => exact ⟨h, rfl, rfl⟩
  | some f =>
    obtain ⟨hp, _, _, _⟩ := call_put h he hk hf
    have hop := ((ent_right he).2.2.2.1 hk).2.2
    have hs := seenAll_iff.1 (stErr_in h).2.2
    obtain ⟨e1, e2, e3⟩ := ansSt_same (s := s) (f := calledSes s f e) (e := e)
    refine ⟨tab_turned (ansSt_right h hop) (by rw [putTab_ok hp]; exact put_right hp) fun x hx => ?_, e1, e2⟩
    rw [putTab_ok hp] at hx
    rw [e2]
    rcases mem_putList hx with rfl | hx
    · show s.clock - 20 ≤ s.clock ∧ s.clock ≤ s.clock
      omega
    · exact hs x hx

theorem taken_right {s : St} {e : Ent} (h : stErr s = 0) (he : entErr e = 0) : stErr (takenSt s e) = 0 ∧ (takenSt s e).at_ = s.at_ ∧ (takenSt s e).clock = s.clock := by
  have hk := (ent_right he).1
  unfold takenSt
  split
  · refine ⟨opened_right h, ?_⟩
    unfold openedSt
    split <;> exact ⟨rfl, rfl⟩
  · rename_i h1
    split
    · refine ⟨closed_right h, ?_⟩
      unfold closedSt
      split <;> exact ⟨rfl, rfl⟩
    · rename_i h3
      simp at h1 h3
      exact called_right h he (by omega)

/-- WHAT COMES IS RIGHT. -/
theorem one_right {s : St} {e : Ent} (h : bothErr s e = 0) : stErr (oneSt s e) = 0 ∧ (oneSt s e).at_ = s.at_ + 1 ∧ (oneSt s e).clock = max s.clock e.time := by
  obtain ⟨h1, h2, h3⟩ := both_right h
  have ht := (ent_right h2).2.1
  have e0 : oneSt s e = takenSt (ticked s e.time) e := by simp [oneSt, h]
  rw [e0]
  exact taken_right (ticked_right h1 ht.1 ht.2 h3) h2

/-- The values are turned by a Call alone by which an op was done. -/
theorem one_vals {s : St} {e : Ent} (h : bothErr s e = 0) : (oneDone s e = false → sameVals (oneSt s e) s = true) ∧
    (oneDone s e = true → e.kind = 2 ∧ doErr (stG s) e.ok e.okey e.oto e.on = 0 ∧ ((oneSt s e).v0 = doneVals s e 0 ∧ (oneSt s e).v1 = doneVals s e 1 ∧ (oneSt s e).v2 = doneVals s e 2 ∧ (oneSt s e).v3 = doneVals s e 3) ∧ oneAns s e = doneAns s e) := by
  obtain ⟨h1, h2, h3⟩ := both_right h
  have e0 : oneSt s e = takenSt (ticked s e.time) e := by simp [oneSt, h]
  have e1 : oneDone s e = takenDone (ticked s e.time) e := by simp [oneDone, h]
  have e2 : oneAns s e = takenAns (ticked s e.time) e := by simp [oneAns, h]
  have hk := (ent_right h2).1
  have same : ∀ t : St, t.v0 = s.v0 → t.v1 = s.v1 → t.v2 = s.v2 → t.v3 = s.v3 → sameVals t s = true := fun t a b c d => by simp [sameVals, a, b, c, d]
  rw [e0, e1, e2]
  unfold takenDone takenSt takenAns
  by_cases k1 : e.kind = 1
  · simp only [k1, beq_self_eq_true, if_true]
    refine ⟨fun _ => ?_, fun h => by cases h⟩
    unfold openedSt
    split <;> exact same _ rfl rfl rfl rfl
  · have k1' : (e.kind == 1) = false := by simpa using k1
    by_cases k3 : e.kind = 3
    · simp only [k3, beq_self_eq_true, if_true, show ((3 : Int) == 1) = false from rfl, Bool.false_eq_true, if_false]
      refine ⟨fun _ => ?_, fun h => by cases h⟩
      unfold closedSt
      split <;> exact same _ rfl rfl rfl rfl
    · have k3' : (e.kind == 3) = false := by simpa using k3
      simp only [k1', k3', Bool.false_eq_true, if_false]
      have k2 : e.kind = 2 := by omega
      have hop := ((ent_right h2).2.2.2.1 k2).2.2
      unfold callDone callSt callAns
      cases hf : findSes (ticked s e.time).tab e.client with
      | none => exact ⟨fun _ => same _ rfl rfl rfl rfl, fun h => by cases h⟩
      | some f =>
        simp only []
        refine ⟨fun hd => ?_, fun hd => ⟨k2, by simp [doErr, hop, vals_of h1], ?_, ?_⟩⟩
        · unfold ansSt
          rw [hd]
          exact same _ rfl rfl rfl rfl
        · unfold ansSt
          rw [hd]
          exact ⟨rfl, rfl, rfl, rfl⟩
        · unfold ansOf
          rw [hd]
          rfl
end Go.Proofs.Yteabfjpajgakiab

/- ApplyTrue: the walk. -/
set_option linter.unusedSimpArgs false
set_option linter.unusedVariables false
set_option maxRecDepth 10000
namespace Go.Proofs.Yteabfjpajgakiab
open Go.RowKit

set_option maxHeartbeats 4000000 in
theorem true_one (s : St) (e : Ent) (x : Value) (w : World) (hT : TabAt w x s.tab) : Calls Try.prog 6 #[stV s x, entV e] w fun y w' => y = .returned (.bool true) ∧ Keeps w w' := by
  obtain ⟨xa, xc, rfl, _⟩ := hT.len
  have HT : Hid (TabAt w (.slice xa s.tab.length xc) s.tab) := hT
  clear hT
  have HR : Hid (bothErr s e = 0 → stErr (oneSt s e) = 0 ∧ (oneSt s e).at_ = s.at_ + 1 ∧ (oneSt s e).clock = max s.clock e.time) := one_right
  have HV : Hid (bothErr s e = 0 → (oneDone s e = false → sameVals (oneSt s e) s = true) ∧
    (oneDone s e = true → e.kind = 2 ∧ doErr (stG s) e.ok e.okey e.oto e.on = 0 ∧ ((oneSt s e).v0 = doneVals s e 0 ∧ (oneSt s e).v1 = doneVals s e 1 ∧ (oneSt s e).v2 = doneVals s e 2 ∧ (oneSt s e).v3 = doneVals s e 3) ∧ oneAns s e = doneAns s e)) := one_vals
  have HBR : Hid (bothErr s e = 0 → stErr s = 0 ∧ entErr e = 0 ∧ s.at_ ≠ 50) := both_right
  have HDO : Hid (∀ W, Calls Try.prog 19 #[.agg #[.int .i64 s.v0, .int .i64 s.v1, .int .i64 s.v2, .int .i64 s.v3], .agg #[.int .i64 e.ok, .int .i64 e.okey, .int .i64 e.oto, .int .i64 e.on]] W fun y w' => y = .returned (.tuple #[.agg #[.int .i64 (doneVals s e 0), .int .i64 (doneVals s e 1), .int .i64 (doneVals s e 2), .int .i64 (doneVals s e 3)], .int .i64 (doneAns s e), .int .i64 (doErr (stG s) e.ok e.okey e.oto e.on)]) ∧ Keeps W w') := fun W => op_do (stG s) e.ok e.okey e.oto e.on W
  go_enter Try.func6, Try.ntmps6
  go_wp2_with fail
  obtain ⟨W1, hW1⟩ : ∃ W1, W1 = (w.alloc (.cells #[.int .i64 s.at_, .int .i64 s.clock, .int .i64 s.v0, .int .i64 s.v1, .int .i64 s.v2, .int .i64 s.v3, .slice xa s.tab.length xc] 25)).alloc (.cells #[.int .i64 e.kind, .int .i64 e.time, .int .i64 e.client, .int .i64 e.seq, .int .i64 e.ack, .int .i64 e.ok, .int .i64 e.okey, .int .i64 e.oto, .int .i64 e.on] 33) := ⟨_, rfl⟩
  have k1 : Keeps w W1 := by rw [hW1]; exact ((Keeps.refl _).alloc _).alloc _
  have B1 : StBox w.heap.size s (.slice xa s.tab.length xc) W1 := by rw [hW1]; exact (StBox.new w s _ 25).keep ((Keeps.refl _).alloc _)
  have E1 : EntBox (w.heap.size + 1) e W1 := by
    rw [hW1]
    have := EntBox.new (w.alloc (.cells #[.int .i64 s.at_, .int .i64 s.clock, .int .i64 s.v0, .int .i64 s.v1, .int .i64 s.v2, .int .i64 s.v3, .slice xa s.tab.length xc] 25)) e 33
    simpa using this
  rw [← hW1]
  clear hW1
  refine (one_c s e _ W1 (HT.out.keep k1)).mono ?_
  rintro y w1 ⟨x', ho, rfl, hb⟩
  obtain ⟨ya, yc, rfl, _⟩ := ho.tab.len
  have HK1 : Hid (Keeps w w1) := k1.trans hb
  have HB1 : Hid (StBox w.heap.size s (.slice xa s.tab.length xc) w1) := B1.keep hb
  have HE1 : Hid (EntBox (w.heap.size + 1) e w1) := E1.keep hb
  have HO1 : Hid (TabAt w1 (.slice ya (oneSt s e).tab.length yc) (oneSt s e).tab) := ho.tab
  clear k1 B1 E1 hb ho
  clear W1
  generalize oneSt s e = t at *
  generalize oneAns s e = n at *
  generalize oneDone s e = d at *
  generalize doneVals s e = dv at *
  generalize doneAns s e = da at *
  generalize doErr (stG s) e.ok e.okey e.oto e.on = der at *
  cases q : (bothErr s e == 0) with
  | false =>
    have q' : (bothErr s e != 0) = true := by simp [bne, q]
    generalize bothErr s e = er at *
    go_wp2_with fail
    refine (apply_begun _).mono ?_
    rintro y w2 ⟨rfl, hb⟩
    have HK2 : Hid (Keeps w w2) := (HK1.out.alloc _).trans hb
    clear hb
    go_wp2_with fail
    go_ret
    exact ⟨rfl, HK2.out⟩
  | true =>
    have q' : (bothErr s e != 0) = false := by simp [bne, q]
    have q0 : bothErr s e = 0 := by simpa using q
    obtain ⟨r1, r2, r3⟩ := HR.out q0
    have hbd := stErr_bounds (HBR.out q0).1
    obtain ⟨⟨ba0, ba1⟩, bc0, bc1⟩ := hbd
    have HV2 : Hid ((d = false → sameVals t s = true) ∧ (d = true → e.kind = 2 ∧ der = 0 ∧ (t.v0 = dv 0 ∧ t.v1 = dv 1 ∧ t.v2 = dv 2 ∧ t.v3 = dv 3) ∧ n = da)) := HV.out q0
    have hat : (t.at_ != s.at_ + 1) = false := by simp [r2]
    have hc1 : s.clock ≤ t.clock := by omega
    have hc2 : e.time ≤ t.clock := by omega
    have HSE : Hid (stErr t = 0) := r1
    clear HR HV HBR r1 r2 r3 q0
    generalize bothErr s e = er at *
    go_wp2_with fail
    have T2 : StBox w1.heap.size t (.slice ya t.tab.length yc) (w1.alloc (.cells #[.int .i64 t.at_, .int .i64 t.clock, .int .i64 t.v0, .int .i64 t.v1, .int .i64 t.v2, .int .i64 t.v3, .slice ya t.tab.length yc] 25)) := StBox.new w1 t _ 25
    have k12 : Keeps w1 (w1.alloc (.cells #[.int .i64 t.at_, .int .i64 t.clock, .int .i64 t.v0, .int .i64 t.v1, .int .i64 t.v2, .int .i64 t.v3, .slice ya t.tab.length yc] 25)) := (Keeps.refl _).alloc _
    generalize (w1.alloc (.cells #[.int .i64 t.at_, .int .i64 t.clock, .int .i64 t.v0, .int .i64 t.v1, .int .i64 t.v2, .int .i64 t.v3, .slice ya t.tab.length yc] 25)) = w2 at *
    generalize w1.heap.size = TB at *
    refine (ck_st t 0 HSE.out _ _ (HO1.out.keep k12)).mono ?_
    rintro y w3 ⟨rfl, hb⟩
    have HK3 : Hid (Keeps w w3) := (HK1.out.trans k12).trans hb
    have HB3 : Hid (StBox w.heap.size s (.slice xa s.tab.length xc) w3) := (HB1.out.keep k12).keep hb
    have HE3 : Hid (EntBox (w.heap.size + 1) e w3) := (HE1.out.keep k12).keep hb
    have HT3 : Hid (StBox TB t (.slice ya t.tab.length yc) w3) := T2.keep hb
    have t0 := HT3.out.c0
    have t1 := HT3.out.c1
    have s0 := HB3.out.c0
    have s1 := HB3.out.c1
    have s2 := HB3.out.c2
    have s3 := HB3.out.c3
    have s4 := HB3.out.c4
    have s5 := HB3.out.c5
    have e1 := HE3.out.c1
    have e5 := HE3.out.c5
    have e6 := HE3.out.c6
    have e7 := HE3.out.c7
    have e8 := HE3.out.c8
    have l1 := HT3.out.lt
    have l2 := HB3.out.lt
    have l3 := HE3.out.lt
    clear hb T2 k12 HK1 HB1 HE1 HO1
    cases d with
    | false =>
      have hsv : (t.v0 == s.v0 && (t.v1 == s.v1 && (t.v2 == s.v2 && t.v3 == s.v3))) = true := HV2.out.1 rfl
      have HSV : Hid ((t.v0 == s.v0 && (t.v1 == s.v1 && (t.v2 == s.v2 && t.v3 == s.v3))) = true) := hsv
      clear hsv HV2
      go_wp2_with fail
      refine (apply_begun _).mono ?_
      rintro y w4 ⟨rfl, hb⟩
      have HK4 : Hid (Keeps w w4) := HK3.out.trans hb
      have B4 := HB3.out.keep hb
      have T4 := HT3.out.keep hb
      have t2 := T4.c2
      have t3 := T4.c3
      have t4 := T4.c4
      have t5 := T4.c5
      have s2 := B4.c2
      have s3 := B4.c3
      have s4 := B4.c4
      have s5 := B4.c5
      have l1 := T4.lt
      have l2 := B4.lt
      have he := eql22
      have hsv := HSV.out
      clear hb B4 T4 HB3 HE3 HT3 HK3
      go_wp2_with fail
      go_ret
      exact ⟨rfl, HK4.out⟩
    | true =>
      have hv := HV2.out.2 rfl
      obtain ⟨k2, hder, ⟨v0, v1, v2, v3⟩, hn⟩ := hv
      have HX : Hid (e.kind = 2 ∧ der = 0 ∧ (t.v0 = dv 0 ∧ t.v1 = dv 1 ∧ t.v2 = dv 2 ∧ t.v3 = dv 3) ∧ n = da) := ⟨k2, hder, ⟨v0, v1, v2, v3⟩, hn⟩
      clear k2 hder v0 v1 v2 v3 hn HV2
      go_wp2_with fail
      refine (HDO.out _).mono ?_
      rintro y w4 ⟨rfl, hb⟩
      have HK4 : Hid (Keeps w w4) := HK3.out.trans hb
      have HE4 : Hid (EntBox (w.heap.size + 1) e w4) := HE3.out.keep hb
      have HT4 : Hid (StBox TB t (.slice ya t.tab.length yc) w4) := HT3.out.keep hb
      clear hb t0 t1 s0 s1 s2 s3 s4 s5 e1 e5 e6 e7 e8 l1 l2 l3 HB3 HE3 HT3 HK3
      go_wp2_with fail
      have d0 : (w4.alloc (.cells #[.int .i64 (dv 0), .int .i64 (dv 1), .int .i64 (dv 2), .int .i64 (dv 3)] 22)).cell? ⟨w4.heap.size, 0, none⟩ = some (.int .i64 (dv 0)) := by simp [go_sem]
      have d1 : (w4.alloc (.cells #[.int .i64 (dv 0), .int .i64 (dv 1), .int .i64 (dv 2), .int .i64 (dv 3)] 22)).cell? ⟨w4.heap.size, 1, none⟩ = some (.int .i64 (dv 1)) := by simp [go_sem]
      have d2 : (w4.alloc (.cells #[.int .i64 (dv 0), .int .i64 (dv 1), .int .i64 (dv 2), .int .i64 (dv 3)] 22)).cell? ⟨w4.heap.size, 2, none⟩ = some (.int .i64 (dv 2)) := by simp [go_sem]
      have d3 : (w4.alloc (.cells #[.int .i64 (dv 0), .int .i64 (dv 1), .int .i64 (dv 2), .int .i64 (dv 3)] 22)).cell? ⟨w4.heap.size, 3, none⟩ = some (.int .i64 (dv 3)) := by simp [go_sem]
      have k45 : Keeps w4 (w4.alloc (.cells #[.int .i64 (dv 0), .int .i64 (dv 1), .int .i64 (dv 2), .int .i64 (dv 3)] 22)) := (Keeps.refl _).alloc _
      generalize (w4.alloc (.cells #[.int .i64 (dv 0), .int .i64 (dv 1), .int .i64 (dv 2), .int .i64 (dv 3)] 22)) = w5 at *
      generalize w4.heap.size = DB at *
      refine (apply_begun _).mono ?_
      rintro y w6 ⟨rfl, hb⟩
      have HK6 : Hid (Keeps w w6) := (HK4.out.trans k45).trans hb
      have E6 := (HE4.out.keep k45).keep hb
      have T6 := (HT4.out.keep k45).keep hb
      have d0 := cell_kept d0 hb
      have d1 := cell_kept d1 hb
      have d2 := cell_kept d2 hb
      have d3 := cell_kept d3 hb
      have e0 := E6.c0
      have t2 := T6.c2
      have t3 := T6.c3
      have t4 := T6.c4
      have t5 := T6.c5
      have l1 := T6.lt
      have l2 := E6.lt
      have l3 := World.block_lt_of_cell? _ _ d0
      simp only [] at l3
      have he := eql22
      obtain ⟨k2, hder, ⟨v0, v1, v2, v3⟩, hn⟩ := HX.out
      rw [k2] at e0
      rw [v0] at t2
      rw [v1] at t3
      rw [v2] at t4
      rw [v3] at t5
      subst hder hn
      clear hb E6 T6 HE4 HT4 HK4 k45 v0 v1 v2 v3 k2 HX
      go_wp2_with fail
      go_ret
      exact ⟨rfl, HK6.out⟩
end Go.Proofs.Yteabfjpajgakiab

/- What comes again is answered as it was: plain mathematics. -/
set_option linter.unusedSimpArgs false
set_option linter.unusedVariables false
namespace Go.Proofs.Yteabfjpajgakiab
open Go.RowKit

theorem pos_mem : ∀ {l : List (Int × Int)} {seq v : Int}, l.Pairwise (fun a b => a.1 < b.1) → (seq, v) ∈ l → l[posOf l seq]? = some (seq, v)
  | [], seq, v, _, h => by cases h
  | a :: t, seq, v, hp, h => by
    rw [List.pairwise_cons] at hp
    rcases List.mem_cons.1 h with rfl | h
    · simp [posOf, List.takeWhile_cons]
    · have ha := hp.1 _ h
      have e : posOf (a :: t) seq = posOf t seq + 1 := by simp [posOf, List.takeWhile_cons, show a.1 < seq from ha]
      rw [e, List.getElem?_cons_succ]
      exact pos_mem hp.2 h
/-- An answer that is kept is found. -/
theorem has_mem {l : List (Int × Int)} {seq v : Int} (hp : l.Pairwise (fun a b => a.1 < b.1)) (h : (seq, v) ∈ l) : keptHas l seq = true ∧ keptVal l seq = v := by
  have := pos_mem hp h
  simp [keptHas, thereB, keptVal, this]
theorem mem_put {l : List (Int × Int)} {seq v : Int} : (seq, v) ∈ keptPut l seq v := by simp [keptPut]
theorem mem_put_of {l : List (Int × Int)} {seq v : Int} {r : Int × Int} (h : r ∈ l) : r ∈ keptPut l seq v := by
  unfold keptPut
  rw [← List.take_append_drop (posOf l seq) l] at h
  rcases List.mem_append.1 h with h | h
  · exact List.mem_append_left _ h
  · exact List.mem_append_right _ (List.mem_cons_of_mem _ h)

/-- A right state is not aged by the time that it has. -/
theorem fresh_same {s : St} (h : stErr s = 0) : freshTab s.tab s.clock = s.tab := by
  have hs := seenAll_iff.1 (stErr_in h).2.2
  unfold freshTab
  rw [List.filter_eq_self]
  intro x hx
  have := hs x hx
  simp
  omega
theorem ticked_same {s : St} {time : Int} (h : stErr s = 0) (ht : time ≤ s.clock) : ticked s time = { s with at_ := s.at_ + 1 } := by
  unfold ticked
  rw [show max s.clock time = s.clock from by omega, fresh_same h]

theorem put_put (L : List Ses) (s : Ses) : putList (putList L s) s = putList L s := by
  unfold putList
  simp only [List.filter_append, List.filter_filter]
  have e1 : [s].filter (fun o => decide (o.client < s.client)) = [] := by simp
  have e2 : [s].filter (fun o => decide (s.client < o.client)) = [] := by simp
  have e3 : L.filter (fun o => decide (o.client < s.client) && decide (s.client < o.client)) = [] := by
    rw [List.filter_eq_nil_iff]
    intro o _
    simp
    omega
  have e4 : L.filter (fun o => decide (s.client < o.client) && decide (o.client < s.client)) = [] := by
    rw [List.filter_eq_nil_iff]
    intro o _
    simp
    omega
  rw [e1, e2, e3, e4]
  simp

theorem find_kept {L : List Ses} {c : Int} {f : Ses} {p : Ses → Bool} (h : findSes L c = some f) (hp : p f = true) : findSes (L.filter p) c = some f := by
  unfold findSes at h ⊢
  rw [List.find?_filter]
  rw [List.find?_eq_some_iff_append] at h ⊢
  obtain ⟨h1, l1, l2, h2, h3⟩ := h
  exact ⟨by simp [hp, h1], l1, l2, h2, fun a ha => by have := h3 a ha; simp at this ⊢; exact .inr this⟩

/-- What kept is right. -/
theorem kept_pair {f : Ses} (h : sesErr f = 0) : f.kept.Pairwise (fun a b => a.1 < b.1) := (keptOk_iff.1 (ses_right h).2.2.2).1
theorem kept_low {f : Ses} (h : sesErr f = 0) : ∀ r ∈ f.kept, f.acked < r.1 := fun r hr => by
  have := ((keptOk_iff.1 (ses_right h).2.2.2).2 r hr).1.1
  omega

/-- A call by a number whose answer is kept. -/
theorem call_kept {s : St} {e : Ent} {f : Ses} {v : Int} (hs : stErr s = 0) (he : entErr e = 0) (hk : e.kind = 2) (hf : findSes s.tab e.client = some f) (ha : f.acked < e.seq) (hm : (e.seq, v) ∈ f.kept) :
    callDone s e = false ∧ callAns s e = v ∧ sameVals (callSt s e) s = true := by
  have hfe : sesErr f = 0 := (tab_right (stErr_in hs).2.1).2.1 f (findSes_mem hf).1
  obtain ⟨⟨hq0, hq1⟩, ⟨ha0, ha1⟩, hop⟩ := (ent_right he).2.2.2.1 hk
  have e1 : (calledSes s f e).acked = max f.acked e.ack := rfl
  have hm2 : (e.seq, v) ∈ (calledSes s f e).kept := by
    show (e.seq, v) ∈ keptAfter (max f.acked e.ack) f.kept
    refine List.mem_filter.2 ⟨hm, ?_⟩
    simp
    omega
  have hpw : (calledSes s f e).kept.Pairwise (fun a b => a.1 < b.1) := (kept_pair hfe).filter _
  obtain ⟨k1, k2⟩ := has_mem hpw hm2
  have hn : ¬ e.seq ≤ (calledSes s f e).acked := by rw [e1]; omega
  have hd : ansDone (calledSes s f e) e = false := by simp [ansDone, k1]
  unfold callDone callAns callSt
  rw [hf]
  refine ⟨hd, ?_, ?_⟩
  · show ansOf s (calledSes s f e) e = v
    simp [ansOf, hd, ansNo, hn, k1, k2]
  · show sameVals { ansSt s (calledSes s f e) e with tab := _ } s = true
    simp [ansSt, hd, sameVals]

/-- What is done is kept. -/
theorem done_kept {s : St} {e : Ent} (hs : stErr s = 0) (he : entErr e = 0) (hk : e.kind = 2) (hd : callDone s e = true) :
    ∃ c, findSes (callSt s e).tab e.client = some c ∧ c.acked < e.seq ∧ (e.seq, callAns s e) ∈ c.kept ∧ c.seen = s.clock := by
  unfold callDone at hd
  cases hf : findSes s.tab e.client with
  | none => rw [hf] at hd; cases hd
  | some f =>
    rw [hf] at hd
    obtain ⟨hp, hfe, hc, hm⟩ := call_put hs he hk hf
    have hd : ansDone (calledSes s f e) e = true := hd
    have hfd := find_put s.tab (callSes s f e)
    rw [show (callSes s f e).client = e.client from hc] at hfd
    refine ⟨callSes s f e, ?_, ?_, ?_, rfl⟩
    · unfold callSt
      rw [hf]
      show findSes (putTab s.tab (callSes s f e)) e.client = _
      rw [putTab_ok hp]
      exact hfd
    · simp only [ansDone, Bool.and_eq_true, Bool.not_eq_true', decide_eq_false_iff_not] at hd
      show (calledSes s f e).acked < e.seq
      omega
    · unfold callAns
      rw [hf]
      show (e.seq, ansOf s (calledSes s f e) e) ∈ ansKept s (calledSes s f e) e
      unfold ansOf ansKept
      rw [hd]
      exact mem_put

/-- The entry, at another time. -/
def atTime (e : Ent) (t : Int) : Ent := { e with time := t }
theorem atTime_right {e : Ent} {t : Int} (h : entErr e = 0) (h0 : 0 ≤ t) (h1 : t ≤ 999) : entErr (atTime e t) = 0 := by
  have hr := (ent_right h).2.1
  unfold entErr entIn at h ⊢
  have e1 : inB (atTime e t).time 0 999 = true := inB_iff.2 ⟨h0, h1⟩
  have e2 : inB e.time 0 999 = true := inB_iff.2 hr
  rw [e2] at h
  rw [e1]
  exact h

theorem callSt_time (s : St) (e : Ent) (t : Int) : callSt s (atTime e t) = callSt s e ∧ callAns s (atTime e t) = callAns s e ∧ callDone s (atTime e t) = callDone s e := ⟨rfl, rfl, rfl⟩

/-- A CALL THAT COMES AGAIN AT ONCE. -/
theorem call_again {s : St} {e : Ent} (hs : stErr s = 0) (he : entErr e = 0) (hk : e.kind = 2) (n : Int) :
    callDone { callSt s e with at_ := n } e = false ∧ callAns { callSt s e with at_ := n } e = callAns s e ∧ sameVals (callSt { callSt s e with at_ := n } e) (callSt s e) = true ∧ (callSt { callSt s e with at_ := n } e).tab = (callSt s e).tab := by
  cases hf : findSes s.tab e.client with
  | none =>
    have e1 : callSt s e = s := by unfold callSt; rw [hf]
    have e2 : callAns s e = -3 := by unfold callAns; rw [hf]
    rw [e1, e2]
    have hf' : findSes ({ s with at_ := n } : St).tab e.client = none := hf
    unfold callDone callAns callSt
    rw [hf']
    exact ⟨rfl, rfl, by simp [sameVals], rfl⟩
  | some f =>
    obtain ⟨hp, hfe, hc, hm⟩ := call_put hs he hk hf
    obtain ⟨⟨hq0, hq1⟩, ⟨ha0, ha1⟩, hop⟩ := (ent_right he).2.2.2.1 hk
    have hcr := callSes_right hs hfe he hk
    have e1 : callSt s e = { ansSt s (calledSes s f e) e with tab := putList s.tab (callSes s f e) } := by
      unfold callSt
      rw [hf]
      show ({ ansSt s (calledSes s f e) e with tab := putTab s.tab (callSes s f e) } : St) = _
      rw [putTab_ok hp]
    have e2 : callAns s e = ansOf s (calledSes s f e) e := by unfold callAns; rw [hf]
    have hclk : (callSt s e).clock = s.clock := (called_right hs he hk).2.2
    have hfd : findSes (callSt s e).tab e.client = some (callSes s f e) := by
      rw [e1]
      show findSes (putList s.tab (callSes s f e)) e.client = _
      have := find_put s.tab (callSes s f e)
      rw [show (callSes s f e).client = e.client from hc] at this
      exact this
    generalize hx : callSt s e = x at *
    obtain ⟨c, hcc⟩ : ∃ c, c = callSes s f e := ⟨_, rfl⟩
    have hck : c.kept = ansKept s (calledSes s f e) e := by rw [hcc]; rfl
    have hca : c.acked = (calledSes s f e).acked := by rw [hcc]; rfl
    have hca2 : c.acked = max f.acked e.ack := by rw [hcc]; rfl
    have hcs : c.seen = s.clock := by rw [hcc]; rfl
    rw [← hcc] at hfd hcr e1 hp
    have hsame : calledSes { x with at_ := n } c e = c := by
      unfold calledSes
      have a1 : max c.acked e.ack = c.acked := by omega
      have a2 : keptAfter c.acked c.kept = c.kept := keptAfter_all (kept_low hcr)
      rw [a1, a2]
      show (⟨c.client, c.acked, x.clock, c.kept⟩ : Ses) = c
      rw [hclk, ← hcs]
    have key : ansDone c e = false ∧ ansNo c e = ansOf s (calledSes s f e) e := by
      by_cases h1 : e.seq ≤ c.acked
      · have h1' : e.seq ≤ (calledSes s f e).acked := by omega
        exact ⟨by simp [ansDone, h1], by simp [ansNo, h1, ansOf, ansDone, h1']⟩
      · have h1' : ¬ e.seq ≤ (calledSes s f e).acked := by omega
        cases h2 : keptHas (calledSes s f e).kept e.seq with
        | true =>
          have hd : ansDone (calledSes s f e) e = false := by simp [ansDone, h2]
          have hk2 : c.kept = (calledSes s f e).kept := by rw [hck]; simp [ansKept, hd]
          exact ⟨by simp [ansDone, hk2, h2], by simp [ansNo, h1, hk2, h2, ansOf, hd, h1']⟩
        | false =>
          by_cases h3 : c.acked + 3 < e.seq
          · have h3' : (calledSes s f e).acked + 3 < e.seq := by omega
            have hd : ansDone (calledSes s f e) e = false := by simp [ansDone, h3']
            have hk2 : c.kept = (calledSes s f e).kept := by rw [hck]; simp [ansKept, hd]
            exact ⟨by simp [ansDone, h3], by simp [ansNo, h1, hk2, h2, ansOf, hd, h1']⟩
          · have h3' : ¬ (calledSes s f e).acked + 3 < e.seq := by omega
            have hd : ansDone (calledSes s f e) e = true := by simp [ansDone, h1', h2, h3']
            have hmm : (e.seq, doneAns s e) ∈ c.kept := by rw [hck]; simp only [ansKept, hd, if_true]; exact mem_put
            obtain ⟨k1, k2⟩ := has_mem (kept_pair hcr) hmm
            exact ⟨by simp [ansDone, k1], by simp [ansNo, h1, k1, k2, ansOf, hd]⟩
    have hfd2 : findSes ({ x with at_ := n } : St).tab e.client = some c := hfd
    have htab : x.tab = putList s.tab c := by rw [e1]
    have hcall : callSes { x with at_ := n } c e = c := by
      unfold callSes
      rw [hsame]
      show (⟨c.client, c.acked, c.seen, ansKept { x with at_ := n } c e⟩ : Ses) = c
      rw [show ansKept { x with at_ := n } c e = c.kept from by simp [ansKept, key.1]]
    have hput : putTab x.tab c = x.tab := by
      have hp2 : putErr x.tab c = 0 := by
        refine put_zero ?_ hcr ?_
        · rw [htab]; exact put_right hp
        · rw [htab, put_put]; exact (put_ok hp).2.2
      rw [putTab_ok hp2, htab, put_put]
    rw [e2]
    unfold callDone callAns
    rw [hfd2]
    refine ⟨?_, ?_, ?_, ?_⟩
    · show ansDone (calledSes _ c e) e = false
      rw [hsame]; exact key.1
    · show ansOf _ (calledSes { x with at_ := n } c e) e = _
      rw [hsame, ← key.2]
      simp [ansOf, key.1]
    · unfold callSt
      rw [hfd2]
      show sameVals { ansSt { x with at_ := n } (calledSes { x with at_ := n } c e) e with tab := _ } x = true
      rw [hsame]
      simp [ansSt, key.1, sameVals]
    · unfold callSt
      rw [hfd2]
      show putTab x.tab (callSes { x with at_ := n } c e) = x.tab
      rw [hcall, hput]

theorem taken_call {s : St} {e : Ent} (hk : e.kind = 2) : takenSt s e = callSt s e ∧ takenAns s e = callAns s e ∧ takenDone s e = callDone s e := by
  simp [takenSt, takenAns, takenDone, hk]
theorem one_ok {s : St} {e : Ent} (h : bothErr s e = 0) : oneSt s e = takenSt (ticked s e.time) e ∧ oneAns s e = takenAns (ticked s e.time) e ∧ oneDone s e = takenDone (ticked s e.time) e := by
  simp [oneSt, oneAns, oneDone, h]
theorem both_of {s : St} {e : Ent} (h1 : stErr s = 0) (h2 : entErr e = 0) (h3 : s.at_ ≠ 50) : bothErr s e = 0 := by simp [bothErr, h1, h2, h3]

theorem one_again {s : St} {e : Ent} {t : Int} (h : bothErr s e = 0) (hk : e.kind = 2) (hx : (oneSt s e).at_ < 50) (h0 : 0 ≤ t) (h1 : t ≤ (oneSt s e).clock) :
    bothErr (oneSt s e) (atTime e t) = 0 ∧ oneDone (oneSt s e) (atTime e t) = false ∧ oneAns (oneSt s e) (atTime e t) = oneAns s e ∧ sameVals (oneSt (oneSt s e) (atTime e t)) (oneSt s e) = true ∧ (oneSt (oneSt s e) (atTime e t)).tab = (oneSt s e).tab := by
  obtain ⟨b1, b2, b3⟩ := both_right h
  have ht := (ent_right b2).2.1
  have hT := ticked_right b1 ht.1 ht.2 b3
  obtain ⟨r1, r2, r3⟩ := one_right h
  have hcb := (stErr_bounds r1).2
  have hb := both_of r1 (atTime_right b2 h0 (by omega)) (show (oneSt s e).at_ ≠ 50 from by omega)
  obtain ⟨a1, a2, a3⟩ := one_ok h
  obtain ⟨c1, c2, c3⟩ := one_ok hb
  obtain ⟨d1, d2, _⟩ := taken_call (s := ticked s e.time) hk
  have e1 : ticked (oneSt s e) (atTime e t).time = { oneSt s e with at_ := (oneSt s e).at_ + 1 } := ticked_same r1 h1
  obtain ⟨f1, f2, f3⟩ := taken_call (s := ticked (oneSt s e) (atTime e t).time) (e := atTime e t) hk
  rw [e1] at f1 f2 f3 c1 c2 c3
  obtain ⟨g1, g2, g3⟩ := callSt_time { oneSt s e with at_ := (oneSt s e).at_ + 1 } e t
  have key := call_again hT b2 hk ((oneSt s e).at_ + 1)
  rw [← d1, ← a1, ← d2, ← a2] at key
  refine ⟨hb, ?_, ?_, ?_, ?_⟩
  · rw [c3, f3, g3]; exact key.1
  · rw [c2, f2, g2]; exact key.2.1
  · rw [c1, f1, g1]; exact key.2.2.1
  · rw [c1, f1, g1]; exact key.2.2.2

/-- An answer is kept in a session. -/
def KeptIn (s : St) (cl seq n : Int) : Prop := ∃ c, findSes s.tab cl = some c ∧ c.acked < seq ∧ (seq, n) ∈ c.kept

theorem taken_kept {s : St} {o : Ent} {cl seq n : Int} (hs : stErr s = 0) (ho : entErr o = 0) (h : KeptIn s cl seq n) (hc : ¬ (o.client = cl ∧ (o.kind = 3 ∨ seq ≤ o.ack))) : KeptIn (takenSt s o) cl seq n := by
  obtain ⟨c, hf, ha, hm⟩ := h
  have hk := (ent_right ho).1
  by_cases h1 : o.kind = 1
  · have e1 : takenSt s o = openedSt s o.client := by simp [takenSt, h1]
    rw [e1]
    unfold openedSt
    split
    · rename_i hp
      have hp : putErr s.tab (openSes s o.client) = 0 := by simpa using hp
      unfold KeptIn
      show ∃ c', findSes (putTab s.tab (openSes s o.client)) cl = some c' ∧ _
      rw [putTab_ok hp]
      by_cases he : o.client = cl
      · refine ⟨openSes s o.client, ?_, ?_, ?_⟩
        · have := find_put s.tab (openSes s o.client)
          rw [show (openSes s o.client).client = cl from he] at this
          exact this
        · show ((findSes s.tab o.client).getD zeroSes).acked < seq
          rw [he, hf]; exact ha
        · show _ ∈ ((findSes s.tab o.client).getD zeroSes).kept
          rw [he, hf]; exact hm
      · exact ⟨c, by rw [find_other _ _ (show cl ≠ (openSes s o.client).client from fun h => he h.symm)]; exact hf, ha, hm⟩
    · exact ⟨c, hf, ha, hm⟩
  · by_cases h3 : o.kind = 3
    · have e1 : takenSt s o = closedSt s o.client := by simp [takenSt, h3]
      have hne : o.client ≠ cl := fun h => hc ⟨h, .inl h3⟩
      rw [e1]
      unfold closedSt
      split
      · rename_i hp
        have hp : dropErr s.tab o.client = 0 := by simpa using hp
        refine ⟨c, ?_, ha, hm⟩
        show findSes (dropTab s.tab o.client) cl = some c
        rw [drop_tab hp]
        refine find_kept hf ?_
        have := (findSes_mem hf).2
        simp
        omega
      · exact ⟨c, hf, ha, hm⟩
    · have h2 : o.kind = 2 := by omega
      rw [(taken_call h2).1]
      unfold callSt
      cases hfo : findSes s.tab o.client with
      | none => exact ⟨c, hf, ha, hm⟩
      | some f =>
        obtain ⟨hp, hfe, hcl, hmem⟩ := call_put hs ho h2 hfo
        unfold KeptIn
        show ∃ c', findSes (putTab s.tab (callSes s f o)) cl = some c' ∧ _
        rw [putTab_ok hp]
        by_cases he : o.client = cl
        · have hfc : f = c := by rw [he, hf] at hfo; injection hfo with h; exact h.symm
          subst hfc
          have hack : o.ack < seq := by
            have : ¬ seq ≤ o.ack := fun h => hc ⟨he, .inr h⟩
            omega
          refine ⟨callSes s f o, ?_, ?_, ?_⟩
          · have := find_put s.tab (callSes s f o)
            rw [show (callSes s f o).client = cl from hcl.trans he] at this
            exact this
          · show max f.acked o.ack < seq
            omega
          · show _ ∈ ansKept s (calledSes s f o) o
            have hm2 : (seq, n) ∈ (calledSes s f o).kept := by
              show (seq, n) ∈ keptAfter (max f.acked o.ack) f.kept
              refine List.mem_filter.2 ⟨hm, ?_⟩
              simp
              omega
            unfold ansKept
            split
            · exact mem_put_of hm2
            · exact hm2
        · exact ⟨c, by rw [find_other _ _ (show cl ≠ (callSes s f o).client from fun h => he (hcl.symm.trans h.symm))]; exact hf, ha, hm⟩

/-- AN ANSWER IS KEPT AS LONG AS IT IS NOT ACKNOWLEDGED. -/
theorem one_kept {s : St} {e o : Ent} (h : bothErr s e = 0) (hd : oneDone s e = true) (ho : bothErr (oneSt s e) o = 0) (hat : (oneSt (oneSt s e) o).at_ < 50)
    (hc : ¬ (o.client = e.client ∧ (o.kind = 3 ∨ e.seq ≤ o.ack))) (hl : (oneSt (oneSt s e) o).clock ≤ (oneSt s e).clock + 20) :
    bothErr (oneSt (oneSt s e) o) (atTime e 0) = 0 ∧ oneDone (oneSt (oneSt s e) o) (atTime e 0) = false ∧ oneAns (oneSt (oneSt s e) o) (atTime e 0) = oneAns s e ∧ sameVals (oneSt (oneSt (oneSt s e) o) (atTime e 0)) (oneSt (oneSt s e) o) = true := by
  have hk := ((one_vals h).2 hd).1
  obtain ⟨b1, b2, b3⟩ := both_right h
  have ht := (ent_right b2).2.1
  have hT := ticked_right b1 ht.1 ht.2 b3
  obtain ⟨a1, a2, a3⟩ := one_ok h
  obtain ⟨d1, d2, d3⟩ := taken_call (s := ticked s e.time) hk
  obtain ⟨r1, r2, r3⟩ := one_right h
  have hd' : callDone (ticked s e.time) e = true := by rw [← d3, ← a3]; exact hd
  obtain ⟨c, k1, k2, k3, k4⟩ := done_kept hT b2 hk hd'
  rw [← d2, ← a2] at k3
  rw [← d1, ← a1] at k1
  have hseen : c.seen = (oneSt s e).clock := by rw [k4, a1, d1, (called_right hT b2 hk).2.2]
  generalize oneSt s e = x at *
  generalize oneAns s e = n at *
  obtain ⟨o1, o2, o3⟩ := both_right ho
  have hot := (ent_right o2).2.1
  have hT2 := ticked_right o1 hot.1 hot.2 o3
  obtain ⟨y1, y2, y3⟩ := one_right ho
  have hK2 : KeptIn (ticked x o.time) e.client e.seq n := by
    refine ⟨c, find_kept k1 ?_, k2, k3⟩
    simp
    omega
  have hK3 := taken_kept hT2 o2 hK2 hc
  rw [← (one_ok ho).1] at hK3
  generalize oneSt x o = y at *
  have hyb := (stErr_bounds y1).2
  have he0 := atTime_right (t := 0) b2 (by omega) (by omega)
  have hb := both_of y1 he0 (show y.at_ ≠ 50 from by omega)
  obtain ⟨c1, c2, c3⟩ := one_ok hb
  have e1 : ticked y (atTime e 0).time = { y with at_ := y.at_ + 1 } := ticked_same y1 hyb.1
  obtain ⟨f1, f2, f3⟩ := taken_call (s := ticked y (atTime e 0).time) (e := atTime e 0) hk
  have hT4 : stErr (ticked y (atTime e 0).time) = 0 := ticked_right y1 (show (0 : Int) ≤ 0 from by decide) (show (0 : Int) ≤ 999 from by decide) (by omega)
  rw [e1] at f1 f2 f3 c1 c2 c3 hT4
  obtain ⟨c', m1, m2, m3⟩ := hK3
  have key := call_kept (e := atTime e 0) hT4 he0 hk m1 m2 m3
  refine ⟨hb, ?_, ?_, ?_⟩
  · rw [c3, f3]; exact key.1
  · rw [c2, f2]; exact key.2.1
  · rw [c1, f1]; exact key.2.2
end Go.Proofs.Yteabfjpajgakiab

/- choose: which of n things a raw number speaks of. -/
set_option linter.unusedSimpArgs false
set_option linter.unusedVariables false
set_option maxRecDepth 10000
namespace Go.Proofs.Yteabfjpajgakiab
open Go.RowKit

theorem choose_n (c n : Int) (w : World) (hc0 : -9223372036854775808 ≤ c) (hc1 : c ≤ 9223372036854775807) (hn : 1 ≤ n) (hn1 : n ≤ 9223372036854775807) :
    Calls Try.prog 20 #[.int .i64 c, .int .i64 n] w fun e w' => ∃ r : Int, 0 ≤ r ∧ r < n ∧ e = .returned (.int .i64 r) ∧ w = w' := by
  have hne : ¬ n = 0 := by omega
  by_cases h : c < 0
  · have e1 : Hid (0 ≤ (-(c + 1)).tmod n ∧ (-(c + 1)).tmod n < n) := ⟨Int.tmod_nonneg _ (by omega), Int.tmod_lt_of_pos _ (by omega)⟩
    go_enter Try.func20, Try.ntmps20
    go_wp2
    go_ret
    exact ⟨_, by have := e1.out.1; rwa [Int.neg_tmod] at this, by have := e1.out.2; rwa [Int.neg_tmod] at this, rfl, rfl⟩
  · have e1 : Hid (0 ≤ c.tmod n ∧ c.tmod n < n) := ⟨Int.tmod_nonneg _ (by omega), Int.tmod_lt_of_pos _ (by omega)⟩
    have e2 : Hid (c.tmod n = c % n) := Int.tmod_eq_emod_of_nonneg (by omega)
    go_enter Try.func20, Try.ntmps20
    go_wp2
    go_ret
    first
      | exact ⟨_, e1.out.1, e1.out.2, rfl, rfl⟩
      | exact ⟨_, by have := e1.out.1; rwa [e2.out] at this, by have := e1.out.2; rwa [e2.out] at this, rfl, rfl⟩
end Go.Proofs.Yteabfjpajgakiab
