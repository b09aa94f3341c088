/- SuK, SuM. -/
import Derived.Test.YteabfjpajgakiagJ13
import Derived.Test.YteabfjpajgakiagJ15
/- The reference's CameOf. -/
set_option linter.unusedSimpArgs false
set_option linter.unusedVariables false
set_option maxRecDepth 10000
namespace Go.Proofs.Yteabfjpajgakiag
open Go.RowKit

theorem cameTo_len (l : List Int) (q : Int) (k : Nat) : (cameTo l q k).length ≤ k := by
  unfold cameTo
  refine Nat.le_trans (List.length_filter_le _ _) ?_
  simp

set_option maxHeartbeats 4000000 in
theorem came_of (s : Stu) (seq : Int) (t : Value) (w : World) (h : IntsAt w t s.came) : Calls Try.prog 15 #[stuV s t, .int .i64 seq] w fun e w' => ∃ ra rc, IntsAt w' (.slice ra (cameS s seq).came.length rc) (cameS s seq).came ∧ e = .returned (.tuple #[stuV (cameS s seq) (.slice ra (cameS s seq).came.length rc), .int .i64 (cameErr s seq)]) ∧ Keeps w w' := by
  obtain ⟨ta, tc, rfl, hlen⟩ := RowAt.len h
  unfold maxLen at hlen
  have HI : Hid (IntsAt w (.slice ta s.came.length tc) s.came) := h
  have HE : Hid (cameErr s seq = if stuErr s == 0 then (if inB seq 1 (s.next - 1) then 0 else 5) else stuErr s) := rfl
  have HCZ : Hid ((cameErr s seq == 0) = false → cameS s seq = zeroStu) := fun h => by unfold cameS; rw [h]; rfl
  have HCO : Hid (cameErr s seq = 0 → cameS s seq = ⟨s.client, s.next, camePut s.next s.came seq⟩) := fun h => by unfold cameS; rw [h]; rfl
  have HCP : Hid (camePut s.next s.came seq = cameTo s.came seq (s.next - 1).toNat) := rfl
  generalize cameErr s seq = er at *
  generalize cameS s seq = cs at *
  clear h
  go_enter Try.func15, Try.ntmps15
  go_wp2_with fail
  obtain ⟨W1, hW1⟩ : ∃ W1, W1 = (w.alloc (.cells #[.int .i64 s.client, .int .i64 s.next, .slice ta s.came.length tc] 24)).alloc (.cells #[.int .i64 0, .int .i64 0, .slice none 0 0] 24) := ⟨_, rfl⟩
  have k1 : Keeps w W1 := by rw [hW1]; exact ((Keeps.refl _).alloc _).alloc _
  have B1 : StuBox w.heap.size s (.slice ta s.came.length tc) W1 := by rw [hW1]; exact (StuBox.new w s _ rfl 24).keep ((Keeps.refl _).alloc _)
  have Z1 : StuBox (w.heap.size + 1) zeroStu (.slice none 0 0) W1 := by
    rw [hW1]
    have := StuBox.new (w.alloc (.cells #[.int .i64 s.client, .int .i64 s.next, .slice ta s.came.length tc] 24)) zeroStu (.slice none 0 0) rfl 24
    simp only [World.size_alloc] at this
    exact this
  rw [← hW1]
  clear hW1
  obtain ⟨zb, hzb⟩ : ∃ zb, zb = w.heap.size + 1 := ⟨_, rfl⟩
  rw [← hzb] at Z1 ⊢
  have HZB : Hid (zb = w.heap.size + 1) := hzb
  clear hzb
  refine (stub_error s _ W1 (HI.out.keep k1)).mono ?_
  rintro e w1 ⟨rfl, hb⟩
  have HK1 : Hid (Keeps w w1) := k1.trans hb
  have HB1 : Hid (StuBox w.heap.size s (.slice ta s.came.length tc) w1) := B1.keep hb
  have HZ1 : Hid (StuBox zb zeroStu (.slice none 0 0) w1) := Z1.keep hb
  clear k1 B1 Z1 hb
  clear W1
  cases q1 : (stuErr s == 0) with
  | false =>
    have q1' : (stuErr s != 0) = true := by simp [bne, q1]
    have HE2 : Hid (er = stuErr s) := by show _ = _; rw [HE.out, q1]; rfl
    have H1 := (show Hid _ from HCZ.out (by rw [HE2.out]; exact q1))
    have z0 := HZ1.out.c0
    have z1 := HZ1.out.c1
    have z2 := HZ1.out.c2
    have zf := HZ1.out.fz
    have zl := HZ1.out.lt
    have hk := HK1.out
    go_wp2_with fail
    refine bodyPost_ret (v := .tuple #[stuV zeroStu (.slice none 0 0), .int .i64 (stuErr s)]) ?_ rfl ?_
    · simp [results, Try.results15, go_sem, zeroStu, z0, z1, z2]
    · have hzz := HZB.out
      rw [HE2.out, H1.out]
      refine ⟨none, 0, ints_nil _, rfl, ?_⟩
      repeat refine Keeps.set ?_ (by simp <;> omega) _
      exact hk
  | true =>
    have q1' : (stuErr s != 0) = false := by simp [bne, q1]
    have q0 : stuErr s = 0 := by simpa using q1
    obtain ⟨_, ⟨hn1, hn2⟩, hck⟩ := stu_right q0
    clear q0 hck
    cases q2 : inB seq 1 (s.next - 1) with
    | false =>
      have HE2 : Hid (er = 5) := by show _ = _; rw [HE.out, q1, q2]; rfl
      have H1 := (show Hid _ from HCZ.out (by rw [HE2.out]; rfl))
      have z0 := HZ1.out.c0
      have z1 := HZ1.out.c1
      have z2 := HZ1.out.c2
      have zf := HZ1.out.fz
      have zl := HZ1.out.lt
      have b0 := HB1.out.c0
      have b1 := HB1.out.c1
      have b2 := HB1.out.c2
      have bl := HB1.out.lt
      have hk := HK1.out
      go_wp2_with (first | (go_at_call 29; refine (within_c _ _ _ _).mono ?_; rintro x w' ⟨rfl, rfl⟩))
      refine bodyPost_ret (v := .tuple #[stuV zeroStu (.slice none 0 0), .int .i64 5]) ?_ rfl ?_
      · simp [results, Try.results15, go_sem, zeroStu, z0, z1, z2]
      · have hzz := HZB.out
        rw [HE2.out, H1.out]
        refine ⟨none, 0, ints_nil _, rfl, ?_⟩
        repeat refine Keeps.set ?_ (by simp <;> omega) _
        exact hk
    | true =>
      have HE2 : Hid (er = 0) := by show _ = _; rw [HE.out, q1, q2]; rfl
      have HC1 := (show Hid _ from HCO.out HE2.out)
      have b0 := HB1.out.c0
      have b1 := HB1.out.c1
      have b2 := HB1.out.c2
      have bl := HB1.out.lt
      go_wp2_with (first | (go_at_call 29; refine (within_c _ _ _ _).mono ?_; rintro x w' ⟨rfl, rfl⟩))
      have HO0 : Hid (StuBox w1.heap.size ⟨s.client, s.next, []⟩ (.slice none 0 0) (w1.alloc (.cells #[.int .i64 s.client, .int .i64 s.next, .slice none 0 0] 24))) := StuBox.new w1 ⟨s.client, s.next, []⟩ _ rfl 24
      have k12 : Keeps w1 (w1.alloc (.cells #[.int .i64 s.client, .int .i64 s.next, .slice none 0 0] 24)) := (Keeps.refl _).alloc _
      have hs2 : (w1.alloc (.cells #[.int .i64 s.client, .int .i64 s.next, .slice none 0 0] 24)).heap.size = w1.heap.size + 1 := World.size_alloc _ _
      obtain ⟨w2, hw2⟩ : ∃ z, z = w1.alloc (.cells #[.int .i64 s.client, .int .i64 s.next, .slice none 0 0] 24) := ⟨_, rfl⟩
      rw [← hw2] at HO0 k12 hs2 ⊢
      clear hw2 b0 b1 b2 bl
      obtain ⟨ob, hob⟩ : ∃ z, z = w1.heap.size := ⟨_, rfl⟩
      rw [← hob] at HO0 ⊢
      obtain ⟨base, hbase⟩ : ∃ z, z = w2.heap.size := ⟨_, rfl⟩
      have HBB : Hid (ob < base ∧ w1.heap.size ≤ ob ∧ base = w2.heap.size) := ⟨by omega, by omega, hbase⟩
      have HK12 : Hid (Keeps w1 w2) := k12
      clear hob hbase hs2 k12
      have HCM : Hid (∀ (j : Nat) W, Keeps w1 W → Calls Try.prog 33 #[stuV s (.slice ta s.came.length tc), .int .i64 ((j : Int) + 1)] W fun e w' => e = .returned (.bool (hasI s.came ((j : Int) + 1))) ∧ Keeps W w') := fun j W hk => came_c s _ _ W (HI.out.keep (HK1.out.trans hk))
      go_loopw [8] (fun i wr => ∃ (j : Nat), (j : Int) + 1 ≤ s.next ∧ i = .int .i64 ((j : Int) + 1) ∧ ∃ (L : List Int) (qa : Option Addr) (qc : Nat), L = cameTo s.came seq j ∧ wr.ownsRow base 3 1 (.slice qa L.length qc) L.length (intCells L) ∧ StuBox ob ⟨s.client, s.next, L⟩ (.slice qa L.length qc) wr ∧ Keeps w1 wr ∧ base ≤ wr.heap.size) (fun i _ => (s.next - intOf i).toNat)
      case atStart => exact ⟨0, by omega, by simp, [], none, 0, rfl, World.ownsRow_nil _ _ _ _, HO0.out, HK12.out, by have := HBB.out; omega⟩
      case round =>
        obtain ⟨j, hj, rfl, L, qa, qc, hLe, hrow, hobx, hkr, hbr⟩ := hrel
        have hL60 : L.length ≤ 60 := by rw [hLe]; have := cameTo_len s.came seq j; omega
        have HLE : Hid (cameTo s.came seq j = L) := hLe.symm
        have HROW : Hid (wr.ownsRow base 3 1 (.slice qa L.length qc) L.length (intCells L)) := hrow
        have HOB : Hid (StuBox ob ⟨s.client, s.next, L⟩ (.slice qa L.length qc) wr) := hobx
        have HKR : Hid (Keeps w1 wr) := hkr
        have HR : Hid (ob < base ∧ w1.heap.size ≤ ob ∧ base ≤ wr.heap.size) := by
          have h1 := HBB.out
          exact ⟨h1.1, h1.2.1, hbr⟩
        clear hLe hrow hobx hkr hbr
        have SB := HB1.out.keep HKR.out
        have b0 := SB.c0
        have b1 := SB.c1
        have b2 := SB.c2
        have bl := SB.lt
        by_cases hlt : (j : Int) + 1 < s.next
        · cases h1 : ((j : Int) + 1 == seq) with
          | true =>
            have hcond : ((j : Int) + 1 == seq || hasI s.came ((j : Int) + 1)) = true := by rw [h1]; rfl
            have HSU : Hid (cameTo s.came seq (j + 1) = L ++ [(j : Int) + 1]) := by show _ = _; rw [cameTo_succ, HLE.out, hcond]; rfl
            have hr0 : Keeps wr (wr.alloc (.cells #[.int .i64 ((j : Int) + 1)] 3)) := (Keeps.refl _).alloc _
            have hnew : IntsAt (wr.alloc (.cells #[.int .i64 ((j : Int) + 1)] 3)) (.slice (some ⟨wr.heap.size, 0, none⟩) 1 1) [(j : Int) + 1] := ints_made wr [(j : Int) + 1] (by simp)
            have hown : (wr.alloc (.cells #[.int .i64 ((j : Int) + 1)] 3)).ownsRow base 3 1 (.slice qa L.length qc) L.length (intCells L) := owns_keep (HROW.out) hr0
            obtain ⟨v', V2, hr, ho, hg⟩ := run_append_read (wr.alloc (.cells #[.int .i64 ((j : Int) + 1)] 3)) base 22 22 3 1 8 _ infoInt Try.underlying22 rfl (by decide) (.slice qa L.length qc) L.length (intCells L) hown (.slice (some ⟨wr.heap.size, 0, none⟩) 1 1) 1 (intCells [(j : Int) + 1]) hnew (by intro u hu; obtain ⟨n, _, rfl⟩ := List.mem_map.1 hu; rfl) (by unfold maxLen; omega) (by omega) (by have := HR.out; simp; omega)
            obtain ⟨ga, gc, rfl, _⟩ := (RowAt.of_owns ho).len
            have hob : V2.heap[ob]? = wr.heap[ob]? := (hg.block ob (by have := HOB.out.lt; simp; omega) (fun e => by have := (hown.lt _ e.symm).1; have := HR.out; omega)).trans (Below.heap_alloc _ _ _ HOB.out.lt)
            have HO2 : Hid (StuBox ob ⟨s.client, s.next, L⟩ (.slice qa L.length qc) V2) := HOB.out.same hob
            have HK2 : Hid (Keeps w1 V2) := keeps_grown (HKR.out.trans hr0) hg (fun g h => by have := (hown.lt g h).1; have := HR.out; omega)
            have HSZ : Hid (wr.heap.size ≤ V2.heap.size) := Nat.le_trans hr0.size hg.size
            have Hr := (show Hid (_ = _) from hr)
            have HO := (show Hid _ from ho)
            clear hr ho hg hob hr0 hnew hown
            have o0 := HOB.out.c0
            have o1 := HOB.out.c1
            have o2 := HOB.out.c2
            have ol := HOB.out.lt
            have p0 := HO2.out.c0
            have p1 := HO2.out.c1
            have p2 := HO2.out.c2
            have pf := HO2.out.fz
            have pl := HO2.out.lt
            have hnob : (wr.heap.size = ob) = False := eq_false (by omega)
            go_wp2_with (at_builtin; refine wpList_append_run rfl _ _ _ rfl rfl rfl Hr.out ?_)
            have BT : But ob V2 (V2.setCell ⟨ob, 2, none⟩ (.slice ga (L.length + 1) gc)) := (But.refl _ _).set 2 _
            have hO3 : StuBox ob ⟨s.client, s.next, L ++ [(j : Int) + 1]⟩ (.slice ga (L.length + 1) gc) (V2.setCell ⟨ob, 2, none⟩ (.slice ga (L.length + 1) gc)) := by
              refine ⟨?_, ?_, ?_, fun i => ?_⟩ <;> simp [go_sem, p0, p1, p2, pf]
            have hrow : (V2.setCell ⟨ob, 2, none⟩ (.slice ga (L.length + 1) gc)).ownsRow base 3 1 (.slice ga (L.length + 1) gc) (L.length + 1) (intCells L ++ intCells [(j : Int) + 1]) := owns_far HO.out (by have := HR.out; omega) BT
            have hK3 := But.to HK2.out HR.out.2.1 BT
            have hsz := BT.size
            go_roundw
            case rel =>
              refine ⟨j + 1, by omega, by go_num, L ++ [(j : Int) + 1], ga, gc, HSU.out.symm, ?_, ?_, hK3, ?_⟩
              · rw [intCells_append]
                simpa using hrow
              · simpa using hO3
              · exact Nat.le_trans (Nat.le_trans HR.out.2.2 HSZ.out) hsz
            case measure => simp [intOf]; omega
          | false =>
            go_wp2_with fail
            refine (HCM.out j wr HKR.out).mono ?_
            rintro e w5 ⟨rfl, hb⟩
            have HOB5 : Hid (StuBox ob ⟨s.client, s.next, L⟩ (.slice qa L.length qc) w5) := HOB.out.keep hb
            have HROW5 : Hid (w5.ownsRow base 3 1 (.slice qa L.length qc) L.length (intCells L)) := owns_keep HROW.out hb
            have HKR5 : Hid (Keeps w1 w5) := HKR.out.trans hb
            have HR5 : Hid (ob < base ∧ w1.heap.size ≤ ob ∧ base ≤ w5.heap.size) := ⟨HR.out.1, HR.out.2.1, Nat.le_trans HR.out.2.2 hb.size⟩
            clear HOB HROW HKR HR SB b0 b1 b2 bl hb
            have HOB := HOB5
            have HROW := HROW5
            have HKR := HKR5
            have HR := HR5
            clear HOB5 HROW5 HKR5 HR5
            cases h2 : hasI s.came ((j : Int) + 1) with
            | true =>
              have hcond : ((j : Int) + 1 == seq || hasI s.came ((j : Int) + 1)) = true := by rw [h1, h2]; rfl
              have HSU : Hid (cameTo s.came seq (j + 1) = L ++ [(j : Int) + 1]) := by show _ = _; rw [cameTo_succ, HLE.out, hcond]; rfl
              have hr0 : Keeps w5 (w5.alloc (.cells #[.int .i64 ((j : Int) + 1)] 3)) := (Keeps.refl _).alloc _
              have hnew : IntsAt (w5.alloc (.cells #[.int .i64 ((j : Int) + 1)] 3)) (.slice (some ⟨w5.heap.size, 0, none⟩) 1 1) [(j : Int) + 1] := ints_made w5 [(j : Int) + 1] (by simp)
              have hown : (w5.alloc (.cells #[.int .i64 ((j : Int) + 1)] 3)).ownsRow base 3 1 (.slice qa L.length qc) L.length (intCells L) := owns_keep (HROW.out) hr0
              obtain ⟨v', V2, hr, ho, hg⟩ := run_append_read (w5.alloc (.cells #[.int .i64 ((j : Int) + 1)] 3)) base 22 22 3 1 8 _ infoInt Try.underlying22 rfl (by decide) (.slice qa L.length qc) L.length (intCells L) hown (.slice (some ⟨w5.heap.size, 0, none⟩) 1 1) 1 (intCells [(j : Int) + 1]) hnew (by intro u hu; obtain ⟨n, _, rfl⟩ := List.mem_map.1 hu; rfl) (by unfold maxLen; omega) (by omega) (by have := HR.out; simp; omega)
              obtain ⟨ga, gc, rfl, _⟩ := (RowAt.of_owns ho).len
              have hob : V2.heap[ob]? = w5.heap[ob]? := (hg.block ob (by have := HOB.out.lt; simp; omega) (fun e => by have := (hown.lt _ e.symm).1; have := HR.out; omega)).trans (Below.heap_alloc _ _ _ HOB.out.lt)
              have HO2 : Hid (StuBox ob ⟨s.client, s.next, L⟩ (.slice qa L.length qc) V2) := HOB.out.same hob
              have HK2 : Hid (Keeps w1 V2) := keeps_grown (HKR.out.trans hr0) hg (fun g h => by have := (hown.lt g h).1; have := HR.out; omega)
              have HSZ : Hid (w5.heap.size ≤ V2.heap.size) := Nat.le_trans hr0.size hg.size
              have Hr := (show Hid (_ = _) from hr)
              have HO := (show Hid _ from ho)
              clear hr ho hg hob hr0 hnew hown
              have o0 := HOB.out.c0
              have o1 := HOB.out.c1
              have o2 := HOB.out.c2
              have ol := HOB.out.lt
              have p0 := HO2.out.c0
              have p1 := HO2.out.c1
              have p2 := HO2.out.c2
              have pf := HO2.out.fz
              have pl := HO2.out.lt
              have hnob : (w5.heap.size = ob) = False := eq_false (by omega)
              go_wp2_with (at_builtin; refine wpList_append_run rfl _ _ _ rfl rfl rfl Hr.out ?_)
              have BT : But ob V2 (V2.setCell ⟨ob, 2, none⟩ (.slice ga (L.length + 1) gc)) := (But.refl _ _).set 2 _
              have hO3 : StuBox ob ⟨s.client, s.next, L ++ [(j : Int) + 1]⟩ (.slice ga (L.length + 1) gc) (V2.setCell ⟨ob, 2, none⟩ (.slice ga (L.length + 1) gc)) := by
                refine ⟨?_, ?_, ?_, fun i => ?_⟩ <;> simp [go_sem, p0, p1, p2, pf]
              have hrow : (V2.setCell ⟨ob, 2, none⟩ (.slice ga (L.length + 1) gc)).ownsRow base 3 1 (.slice ga (L.length + 1) gc) (L.length + 1) (intCells L ++ intCells [(j : Int) + 1]) := owns_far HO.out (by have := HR.out; omega) BT
              have hK3 := But.to HK2.out HR.out.2.1 BT
              have hsz := BT.size
              go_roundw
              case rel =>
                refine ⟨j + 1, by omega, by go_num, L ++ [(j : Int) + 1], ga, gc, HSU.out.symm, ?_, ?_, hK3, ?_⟩
                · rw [intCells_append]
                  simpa using hrow
                · simpa using hO3
                · exact Nat.le_trans (Nat.le_trans HR.out.2.2 HSZ.out) hsz
              case measure => simp [intOf]; omega
            | false =>
              have hcond : (if (j : Int) + 1 == seq || hasI s.came ((j : Int) + 1) then [(j : Int) + 1] else []) = [] := by rw [h1, h2]; rfl
              have HSU : Hid (cameTo s.came seq (j + 1) = L) := by show _ = _; rw [cameTo_succ, HLE.out, hcond, List.append_nil]
              go_wp2_with fail
              go_roundw
              case rel => exact ⟨j + 1, by omega, by go_num, L, qa, qc, HSU.out.symm, HROW.out, HOB.out, HKR.out, HR.out.2.2⟩
              case measure => simp [intOf]; omega
        · have hje : (s.next - 1).toNat = j := by omega
          have HCN : Hid (cs = ⟨s.client, s.next, L⟩) := by show _ = _; rw [HC1.out, HCP.out, hje, HLE.out]
          have ZB := (HZ1.out.keep HKR.out)
          have o0 := HOB.out.c0
          have o1 := HOB.out.c1
          have o2 := HOB.out.c2
          have ol := HOB.out.lt
          have z0 := ZB.c0
          have z1 := ZB.c1
          have z2 := ZB.c2
          have zf := ZB.fz
          have zl := ZB.lt
          have hoz : (ob = zb) = False := eq_false (by have := HZ1.out.lt; have := HR.out; omega)
          have hzo : (zb = ob) = False := eq_false (by have := HZ1.out.lt; have := HR.out; omega)
          have HBP := (show Hid _ from ZB.put ⟨s.client, s.next, L⟩ (.slice qa L.length qc))
          clear ZB SB
          go_wp2_with fail
          have c0 := HBP.out.1.c0
          have c1 := HBP.out.1.c1
          have c2 := HBP.out.1.c2
          simp only [] at c0 c1 c2
          refine bodyPost_ret (v := .tuple #[stuV ⟨s.client, s.next, L⟩ (.slice qa L.length qc), .int .i64 0]) ?_ rfl ?_
          · simp only [results, Try.results15, go_sem, c0, c1, c2]
            simp [go_sem, c0, c1, c2]
          · have hzz := HZB.out
            have hz1 := HZ1.out.lt
            have hrr := HR.out
            rw [HE2.out, HCN.out]
            exact ⟨qa, qc, IntsAt.of (owns_far HROW.out (by omega) HBP.out.2), rfl, But.to (HK1.out.trans HKR.out) (by omega) HBP.out.2⟩
end Go.Proofs.Yteabfjpajgakiag

/- StubTells, StubAgain: the walks. -/
set_option linter.unusedSimpArgs false
set_option linter.unusedVariables false
set_option maxRecDepth 10000
namespace Go.Proofs.Yteabfjpajgakiag
open Go.RowKit

set_option maxHeartbeats 4000000 in
theorem stub_tells (s : Stu) (time o0 o1 o2 o3 : Int) (t : Value) (w : World) (h : IntsAt w t s.came) : Calls Try.prog 3 #[stuV s t, .int .i64 time, opV o0 o1 o2 o3] w fun e w' => e = .returned (.bool true) ∧ Keeps w w' := by
  obtain ⟨ta, tc, rfl, hlen⟩ := RowAt.len h
  unfold maxLen at hlen
  have HI : Hid (IntsAt w (.slice ta s.came.length tc) s.came) := h
  have HN1 : Hid (∀ W, Keeps w W → Calls Try.prog 6 #[stuV s (.slice ta s.came.length tc), .int .i64 time, opV o0 o1 o2 o3] W fun e w' => ∃ ra rc, IntsAt w' (.slice ra (nextS s time (o0, o1, o2, o3)).came.length rc) (nextS s time (o0, o1, o2, o3)).came ∧ e = .returned (.tuple #[stuV (nextS s time (o0, o1, o2, o3)) (.slice ra (nextS s time (o0, o1, o2, o3)).came.length rc), entV (nextE s time (o0, o1, o2, o3)), .int .i64 (nextErr s time (o0, o1, o2, o3))]) ∧ Keeps W w') := fun W hk => stub_next s time o0 o1 o2 o3 _ W (HI.out.keep hk)
  have HN2 : Hid (∀ W, Keeps w W → Calls Try.prog 7 #[stuV s (.slice ta s.came.length tc), .int .i64 time, opV o0 o1 o2 o3] W fun e w' => ∃ ra rc, IntsAt w' (.slice ra (nextS s time (o0, o1, o2, o3)).came.length rc) (nextS s time (o0, o1, o2, o3)).came ∧ e = .returned (.tuple #[stuV (nextS s time (o0, o1, o2, o3)) (.slice ra (nextS s time (o0, o1, o2, o3)).came.length rc), entV (nextE s time (o0, o1, o2, o3)), .int .i64 (nextErr s time (o0, o1, o2, o3))]) ∧ Keeps W w') := fun W hk => next_of s time o0 o1 o2 o3 _ W (HI.out.keep hk)
  have HC1 : Hid (∀ W, Keeps w W → Calls Try.prog 9 #[stuV s (.slice ta s.came.length tc)] W fun e w' => e = .returned (.int .i64 (stuErr s)) ∧ Keeps W w') := fun W hk => stub_check s _ W (HI.out.keep hk)
  have HC2 : Hid (∀ W, Keeps w W → Calls Try.prog 10 #[stuV s (.slice ta s.came.length tc)] W fun e w' => e = .returned (.int .i64 (stuErr s)) ∧ Keeps W w') := fun W hk => stub_error s _ W (HI.out.keep hk)
  generalize nextErr s time (o0, o1, o2, o3) = er at *
  generalize nextS s time (o0, o1, o2, o3) = N at *
  generalize nextE s time (o0, o1, o2, o3) = E at *
  generalize stuErr s = se at *
  clear h
  go_enter Try.func3, Try.ntmps3
  go_wp2_with fail
  obtain ⟨W1, hW1⟩ : ∃ W1, W1 = (w.alloc (.cells #[.int .i64 s.client, .int .i64 s.next, .slice ta s.came.length tc] 24)).alloc (.cells #[.int .i64 o0, .int .i64 o1, .int .i64 o2, .int .i64 o3] 26) := ⟨_, rfl⟩
  have k1 : Keeps w W1 := by rw [hW1]; exact ((Keeps.refl _).alloc _).alloc _
  have B1 : StuBox w.heap.size s (.slice ta s.came.length tc) W1 := by rw [hW1]; exact (StuBox.new w s _ rfl 24).keep ((Keeps.refl _).alloc _)
  have O1 : W1.cell? ⟨w.heap.size + 1, 0, none⟩ = some (.int .i64 o0) ∧ W1.cell? ⟨w.heap.size + 1, 1, none⟩ = some (.int .i64 o1) ∧ W1.cell? ⟨w.heap.size + 1, 2, none⟩ = some (.int .i64 o2) ∧ W1.cell? ⟨w.heap.size + 1, 3, none⟩ = some (.int .i64 o3) := by rw [hW1]; refine ⟨?_, ?_, ?_, ?_⟩ <;> simp [go_sem]
  rw [← hW1]
  clear hW1
  have HO1 : Hid (∀ W, Keeps W1 W → W.cell? ⟨w.heap.size + 1, 0, none⟩ = some (.int .i64 o0) ∧ W.cell? ⟨w.heap.size + 1, 1, none⟩ = some (.int .i64 o1) ∧ W.cell? ⟨w.heap.size + 1, 2, none⟩ = some (.int .i64 o2) ∧ W.cell? ⟨w.heap.size + 1, 3, none⟩ = some (.int .i64 o3)) := fun W hk => ⟨cell_stays O1.1 hk, cell_stays O1.2.1 hk, cell_stays O1.2.2.1 hk, cell_stays O1.2.2.2 hk⟩
  refine (HN1.out W1 k1).mono ?_
  rintro e w1 ⟨ra, rc, hR, rfl, hb⟩
  have HK1 : Hid (Keeps w w1) := k1.trans hb
  have HB1 : Hid (StuBox w.heap.size s (.slice ta s.came.length tc) w1) := B1.keep hb
  obtain ⟨p0, p1, p2, p3⟩ := (HO1.out w1 hb)
  have pl := World.block_lt_of_cell? _ _ p0
  simp only [] at pl
  have b0 := HB1.out.c0
  have b1 := HB1.out.c1
  have b2 := HB1.out.c2
  have bl := HB1.out.lt
  clear O1
  have A2 : StuBox w1.heap.size N (.slice ra N.came.length rc) ((w1.alloc (.cells #[.int .i64 N.client, .int .i64 N.next, .slice ra N.came.length rc] 24)).alloc (.cells #[.int .i64 E.kind, .int .i64 E.time, .int .i64 E.client, .int .i64 E.seq, .int .i64 E.ack, .int .i64 E.ok, .int .i64 E.okey, .int .i64 E.oto, .int .i64 E.on] 28)) := (StuBox.new w1 N _ rfl 24).keep ((Keeps.refl _).alloc _)
  have E2 : EBox (w1.heap.size + 1) E ((w1.alloc (.cells #[.int .i64 N.client, .int .i64 N.next, .slice ra N.came.length rc] 24)).alloc (.cells #[.int .i64 E.kind, .int .i64 E.time, .int .i64 E.client, .int .i64 E.seq, .int .i64 E.ack, .int .i64 E.ok, .int .i64 E.okey, .int .i64 E.oto, .int .i64 E.on] 28)) := by
    have := EBox.new (w1.alloc (.cells #[.int .i64 N.client, .int .i64 N.next, .slice ra N.came.length rc] 24)) E 28
    simp only [World.size_alloc] at this
    exact this
  have k12 : Keeps w1 ((w1.alloc (.cells #[.int .i64 N.client, .int .i64 N.next, .slice ra N.came.length rc] 24)).alloc (.cells #[.int .i64 E.kind, .int .i64 E.time, .int .i64 E.client, .int .i64 E.seq, .int .i64 E.ack, .int .i64 E.ok, .int .i64 E.okey, .int .i64 E.oto, .int .i64 E.on] 28)) := ((Keeps.refl _).alloc _).alloc _
  go_wp2_with fail
  generalize ((w1.alloc (.cells #[.int .i64 N.client, .int .i64 N.next, .slice ra N.came.length rc] 24)).alloc (.cells #[.int .i64 E.kind, .int .i64 E.time, .int .i64 E.client, .int .i64 E.seq, .int .i64 E.ack, .int .i64 E.ok, .int .i64 E.okey, .int .i64 E.oto, .int .i64 E.on] 28)) = w2 at *
  refine (HN2.out w2 (HK1.out.trans k12)).mono ?_
  rintro e w3 ⟨qa, qc, hQ, rfl, hc⟩
  clear b0 b1 b2 bl p0 p1 p2 p3 pl
  have A4 : StuBox w3.heap.size N (.slice qa N.came.length qc) ((w3.alloc (.cells #[.int .i64 N.client, .int .i64 N.next, .slice qa N.came.length qc] 24)).alloc (.cells #[.int .i64 E.kind, .int .i64 E.time, .int .i64 E.client, .int .i64 E.seq, .int .i64 E.ack, .int .i64 E.ok, .int .i64 E.okey, .int .i64 E.oto, .int .i64 E.on] 28)) := (StuBox.new w3 N _ rfl 24).keep ((Keeps.refl _).alloc _)
  have E4 : EBox (w3.heap.size + 1) E ((w3.alloc (.cells #[.int .i64 N.client, .int .i64 N.next, .slice qa N.came.length qc] 24)).alloc (.cells #[.int .i64 E.kind, .int .i64 E.time, .int .i64 E.client, .int .i64 E.seq, .int .i64 E.ack, .int .i64 E.ok, .int .i64 E.okey, .int .i64 E.oto, .int .i64 E.on] 28)) := by
    have := EBox.new (w3.alloc (.cells #[.int .i64 N.client, .int .i64 N.next, .slice qa N.came.length qc] 24)) E 28
    simp only [World.size_alloc] at this
    exact this
  have k34 : Keeps w3 ((w3.alloc (.cells #[.int .i64 N.client, .int .i64 N.next, .slice qa N.came.length qc] 24)).alloc (.cells #[.int .i64 E.kind, .int .i64 E.time, .int .i64 E.client, .int .i64 E.seq, .int .i64 E.ack, .int .i64 E.ok, .int .i64 E.okey, .int .i64 E.oto, .int .i64 E.on] 28)) := ((Keeps.refl _).alloc _).alloc _
  go_wp2_with fail
  generalize ((w3.alloc (.cells #[.int .i64 N.client, .int .i64 N.next, .slice qa N.came.length qc] 24)).alloc (.cells #[.int .i64 E.kind, .int .i64 E.time, .int .i64 E.client, .int .i64 E.seq, .int .i64 E.ack, .int .i64 E.ok, .int .i64 E.okey, .int .i64 E.oto, .int .i64 E.on] 28)) = w4 at *
  have k24 := hc.trans k34
  have k14 := k12.trans k24
  have HB4 : Hid (StuBox w.heap.size s (.slice ta s.came.length tc) w4) := HB1.out.keep k14
  have HA2 : Hid (StuBox w1.heap.size N (.slice ra N.came.length rc) w4) := A2.keep k24
  have HE2 : Hid (EBox (w1.heap.size + 1) E w4) := E2.keep k24
  have HA4 : Hid (StuBox w3.heap.size N (.slice qa N.came.length qc) w4) := A4
  have HE4 : Hid (EBox (w3.heap.size + 1) E w4) := E4
  have HK4 : Hid (Keeps w w4) := HK1.out.trans k14
  have HCS : Hid (∀ t : After w4, Calls Try.prog 11 #[stuV N (.slice ra N.came.length rc), stuV N (.slice qa N.came.length qc)] t.w fun e w' => e = .returned (.bool true) ∧ Keeps t.w w') := fun t => same_stubs N _ _ t.w (hR.keep (k14.trans t.h)) (hQ.keep (k34.trans t.h))
  have HCC : Hid (∀ t : After w4, Calls Try.prog 9 #[stuV s (.slice ta s.came.length tc)] t.w fun y w' => y = .returned (.int .i64 se) ∧ Keeps t.w w') := fun t => HC1.out t.w (HK4.out.trans t.h)
  have HCE : Hid (∀ t : After w4, Calls Try.prog 10 #[stuV s (.slice ta s.came.length tc)] t.w fun y w' => y = .returned (.int .i64 se) ∧ Keeps t.w w') := fun t => HC2.out t.w (HK4.out.trans t.h)
  clear HN1 HN2 HC1 HC2 k12 k24 k14 k34 A2 E2 A4 E4 hR hQ hb hc HB1 HK1 B1 k1 HO1
  generalize w3.heap.size = b3 at *
  generalize w1.heap.size = b1 at *
  have hne := After.some w4
  have x0 := fun t : After w4 => (HB4.out.keep t.h).c0
  have x1 := fun t : After w4 => (HB4.out.keep t.h).c1
  have x2 := fun t : After w4 => (HB4.out.keep t.h).c2
  have xl := fun t : After w4 => (HB4.out.keep t.h).lt
  have a0 := fun t : After w4 => (HA2.out.keep t.h).c0
  have a1 := fun t : After w4 => (HA2.out.keep t.h).c1
  have a2 := fun t : After w4 => (HA2.out.keep t.h).c2
  have al := fun t : After w4 => (HA2.out.keep t.h).lt
  have e0 := fun t : After w4 => (HE2.out.keep t.h).c0
  have e1 := fun t : After w4 => (HE2.out.keep t.h).c1
  have e2 := fun t : After w4 => (HE2.out.keep t.h).c2
  have e3 := fun t : After w4 => (HE2.out.keep t.h).c3
  have e4 := fun t : After w4 => (HE2.out.keep t.h).c4
  have e5 := fun t : After w4 => (HE2.out.keep t.h).c5
  have e6 := fun t : After w4 => (HE2.out.keep t.h).c6
  have e7 := fun t : After w4 => (HE2.out.keep t.h).c7
  have e8 := fun t : After w4 => (HE2.out.keep t.h).c8
  have el := fun t : After w4 => (HE2.out.keep t.h).lt
  have c0 := fun t : After w4 => (HA4.out.keep t.h).c0
  have c1 := fun t : After w4 => (HA4.out.keep t.h).c1
  have c2 := fun t : After w4 => (HA4.out.keep t.h).c2
  have cl := fun t : After w4 => (HA4.out.keep t.h).lt
  have f0 := fun t : After w4 => (HE4.out.keep t.h).c0
  have f1 := fun t : After w4 => (HE4.out.keep t.h).c1
  have f2 := fun t : After w4 => (HE4.out.keep t.h).c2
  have f3 := fun t : After w4 => (HE4.out.keep t.h).c3
  have f4 := fun t : After w4 => (HE4.out.keep t.h).c4
  have f5 := fun t : After w4 => (HE4.out.keep t.h).c5
  have f6 := fun t : After w4 => (HE4.out.keep t.h).c6
  have f7 := fun t : After w4 => (HE4.out.keep t.h).c7
  have f8 := fun t : After w4 => (HE4.out.keep t.h).c8
  have fl := fun t : After w4 => (HE4.out.keep t.h).lt
  refine wp_region_after (by kernel_rfl) (by kernel_rfl) ?_
  repeat (first | go_big_quiet_skip | (go_big_quiet_want; go_big_quiet_op; first | go_big_quiet_on | (apply Exists.intro; refine ⟨fun _ => ?_, ?_⟩; (first | (go_at_call 8; exact calls_after (stub_begun _)) | (go_at_call 9; exact calls_after (HCC.out _)) | (go_at_call 10; exact calls_after (HCE.out _)) | (go_at_call 11; exact calls_after (HCS.out _))); go_big_quiet_on)))
  refine wpQuiet_nil ?_
  rintro _ ⟨r, rfl⟩
  go_wp2_with fail
  go_ret
  exact ⟨by simp, HK4.out.trans r.h⟩

end Go.Proofs.Yteabfjpajgakiag
