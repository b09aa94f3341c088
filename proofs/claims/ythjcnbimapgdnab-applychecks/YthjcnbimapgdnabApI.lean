/- Applying: the machine's call, walked. -/
import Derived.Test.YthjcnbimapgdnabApH
set_option linter.unusedSimpArgs false
set_option linter.unusedVariables false
set_option maxRecDepth 10000
namespace Go.Proofs.Ythjcnbimapgdnab
open Go.RowKit

theorem ses_laid {w : World} {b : Nat} (f : Ses) (k : Value) (h : SesBox b zeroSes (.slice none 0 0) w) : SesBox b f k ((((w.setCell ⟨b, 0, none⟩ (.int .i64 f.client)).setCell ⟨b, 1, none⟩ (.int .i64 f.acked)).setCell ⟨b, 2, none⟩ (.int .i64 f.seen)).setCell ⟨b, 3, none⟩ k) :=
  (((h.set_client f.client).set_acked f.acked).set_seen f.seen).set_kept f.kept k

set_option maxHeartbeats 8000000 in
theorem call_c (s : St) (e : Ent) (b base : Nat) (x : Value) (w : World) (hB : StBox b s x w) (hO : OwnTab base w x s.tab) (hbb : b < base) (hbw : base ≤ w.heap.size) (he : tabErr s.tab = 0) (hs0 : 1 ≤ e.seq) (hs1 : e.seq ≤ 60) (ha0 : 0 ≤ e.ack) (ha1 : e.ack ≤ 60) :
    Calls Try.prog 56 #[macV b, entV e] w fun y w' => y = .returned (.tuple #[.int .i64 (callAns s e), .bool (callDone s e)]) ∧ ∃ x', StBox b (callSt s e) x' w' ∧ OwnTab base w' x' (callSt s e).tab ∧ But b w w' := by
  have hT : TabFar b w x s.tab := hO.far hbb
  have HOT : Hid (OwnTab base w x s.tab) := hO
  clear hO
  have hbl := hB.lt
  obtain ⟨xa, xc, rfl, hxl⟩ := hT.tab.len
  have HT : Hid (TabFar b w (.slice xa s.tab.length xc) s.tab) := hT
  have HB : Hid (StBox b s (.slice xa s.tab.length xc) w) := hB
  have HR : Hid (∀ f, findSes s.tab e.client = some f → sesErr f = 0) := fun f h => (tab_right he).2.1 f (findSes_mem h).1
  have HSA : Hid (callAns s e = match findSes s.tab e.client with | none => -3 | some f => ansOf s (calledSes s f e) e) := rfl
  have HSD : Hid (callDone s e = match findSes s.tab e.client with | none => false | some f => ansDone (calledSes s f e) e) := rfl
  have HSS : Hid (callSt s e = match findSes s.tab e.client with | none => s | some f => { ansSt s (calledSes s f e) e with tab := putTab s.tab (callSes s f e) }) := rfl
  have HF : Hid (∀ W, Keeps w W → Calls Try.prog 70 #[.slice xa s.tab.length xc, .int .i64 e.client] W fun y w' => ∃ ka kc, y = .returned (.tuple #[.agg #[.int .i64 ((findSes s.tab e.client).getD zeroSes).client, .int .i64 ((findSes s.tab e.client).getD zeroSes).acked, .int .i64 ((findSes s.tab e.client).getD zeroSes).seen, .slice ka ((findSes s.tab e.client).getD zeroSes).kept.length kc], .bool (findSes s.tab e.client).isSome, .int .i64 0]) ∧ Hid (w'.ownsRow W.heap.size 78 2 (.slice ka ((findSes s.tab e.client).getD zeroSes).kept.length kc) ((findSes s.tab e.client).getD zeroSes).kept.length (repCells ((findSes s.tab e.client).getD zeroSes).kept)) ∧ Keeps W w') := by
    intro W hk
    refine (find_own s.tab _ e.client W (hT.tab.keep hk) (by rw [he]; rfl)).mono ?_
    rintro y w' ⟨kv, ho, rfl, hb⟩
    obtain ⟨ka, kc, rfl, _⟩ := (RowAt.of_owns ho).len
    exact ⟨ka, kc, rfl, ho, hb⟩
  clear hB hT
  have HO : Hid (∀ f, findSes s.tab e.client = some f → f = (findSes s.tab e.client).getD zeroSes) := fun f h => by rw [h]; rfl
  generalize hfs : (findSes s.tab e.client).getD zeroSes = f at *
  generalize hfi : (findSes s.tab e.client).isSome = fi at *
  have HFS : Hid ((findSes s.tab e.client).getD zeroSes = f) := hfs
  have HFI : Hid ((findSes s.tab e.client).isSome = fi) := hfi
  clear hfs hfi
  go_enter Try.func56, Try.ntmps56
  go_wp2_with fail
  obtain ⟨W1, hW1⟩ : ∃ W1, W1 = (w.alloc (.cells #[.pointer (some ⟨b, 0, none⟩)] 62)).alloc (.cells #[.int .i64 e.kind, .int .i64 e.time, .int .i64 e.client, .int .i64 e.seq, .int .i64 e.ack, .int .i64 e.ok, .int .i64 e.okey, .int .i64 e.oto, .int .i64 e.on] 33) := ⟨_, rfl⟩
  have k1 : Keeps w W1 := by rw [hW1]; exact ((Keeps.refl _).alloc _).alloc _
  have m0 : W1.cell? ⟨w.heap.size, 0, none⟩ = some (.pointer (some ⟨b, 0, none⟩)) := by rw [hW1]; simp [go_sem]
  have E1 : EntBox (w.heap.size + 1) e W1 := by rw [hW1]; have := EntBox.new (w.alloc (.cells #[.pointer (some ⟨b, 0, none⟩)] 62)) e 33; simpa using this
  have hz1 : W1.heap.size = w.heap.size + 2 := by rw [hW1]; simp
  rw [← hW1]
  clear hW1
  have B1 := HB.out.keep k1
  have HS8 : Hid (∀ W, Keeps W1 W → W.cell? ⟨w.heap.size, 0, none⟩ = some (.pointer (some ⟨b, 0, none⟩)) ∧ W.cell? ⟨b, 6, none⟩ = some (.slice xa s.tab.length xc) ∧ W.cell? ⟨w.heap.size + 1, 2, none⟩ = some (.int .i64 e.client)) := fun W hk => ⟨cell_kept m0 hk, (B1.keep hk).c6, (E1.keep hk).c2⟩
  have b6 := B1.c6
  have e2 := E1.c2
  have hbl1 := B1.lt
  have HE1 : Hid (EntBox (w.heap.size + 1) e W1) := E1
  have HK1 : Hid (Keeps w W1) := k1
  have hM0 : w.heap.size < W1.heap.size := by omega
  have hM1 : w.heap.size + 1 < W1.heap.size := by omega
  have HZ1 : Hid (W1.heap.size = w.heap.size + 2) := hz1
  clear B1 E1 k1 hz1
  go_cut [6, 7] (fun u v wc => v = .bool fi ∧ ∃ sb g ka kc, u = .pointer (some ⟨sb, 0, none⟩) ∧ SesBox sb f (.slice ka f.kept.length kc) wc ∧ KeptOn g wc (.slice ka f.kept.length kc) f.kept ∧ w.heap.size + 2 ≤ sb ∧ Hid ((w.heap.size + 2 ≤ g ∧ g ≠ sb) ∧ (g < wc.heap.size ∨ Value.slice ka f.kept.length kc = .slice none 0 0)) ∧ Keeps W1 wc)
  case first =>
    go_region_held3 (fun W => W.cell? ⟨w.heap.size, 0, none⟩ = some (.pointer (some ⟨b, 0, none⟩)) ∧ W.cell? ⟨b, 6, none⟩ = some (.slice xa s.tab.length xc) ∧ W.cell? ⟨w.heap.size + 1, 2, none⟩ = some (.int .i64 e.client)) (first | exact HS8.out _ ((Keeps.refl _).drew) | exact HS8.out _ (((Keeps.refl _).drew).trans hb) | exact HS8.out _ ((((Keeps.refl _).alloc _).drew).trans hb) | exact HS8.out _ ((((Keeps.refl _).drew).trans hb).alloc _) | exact HS8.out _ (((Keeps.refl _).alloc _).drew) | exact HS8.out _ (by (repeat refine Keeps.set ?_ (by simp <;> omega) _); exact (((Keeps.refl _).alloc _).drew).trans hb) | go_keep) (first | (go_at_call 70; refine (HF.out _ (by first | exact HK1.out.drew | exact (HK1.out.alloc _).drew)).mono ?_; rintro y w3 ⟨ka, kc, rfl, HO3, hb⟩; obtain ⟨hbc, hbf⟩ := hb.cells; have hbz := hb.size))
    all_goals go_wp2_with fail
    all_goals go_meet
    · obtain ⟨g0, hK0, hg0, _⟩ := KeptOn.of_owns HO3.out
      have hz3 : W1.heap.size ≤ w3.heap.size := hb.size
      have hz1 := HZ1.out
      have hd1 : W1.drew.heap.size = W1.heap.size := rfl
      have hex : ∃ g, KeptOn g w3 (.slice ka f.kept.length kc) f.kept ∧ W1.heap.size ≤ g ∧ g ≠ w3.heap.size ∧ (g < w3.heap.size + 1 ∨ Value.slice ka f.kept.length kc = .slice none 0 0) := by
        rcases hK0 with ⟨h, hn⟩ | ⟨cap, h, hr⟩
        · exact ⟨w3.heap.size + 1, .inl ⟨h, hn⟩, by omega, by omega, .inr h⟩
        · have := hr.lt
          exact ⟨g0, .inr ⟨cap, h, hr⟩, by omega, by omega, .inl (by omega)⟩
      obtain ⟨g, hK, hg1, hg2, hg3⟩ := hex
      refine ⟨rfl, _, g, ka, kc, rfl, SesBox.new w3 f _ 48, hK.keep ((Keeps.refl _).alloc _), ?_, ⟨⟨by omega, hg2⟩, ?_⟩, ((Keeps.refl _).drew.trans hb).alloc _⟩
      · show _ ≤ w3.heap.size
        omega
      · rw [World.size_alloc]
        exact hg3
    · obtain ⟨g0, hK0, hg0, _⟩ := KeptOn.of_owns HO3.out
      obtain ⟨g, hK, hgo⟩ := hK0.again
      have hz3 := hb.size
      have hz1 := HZ1.out
      have hd1 : (W1.alloc (.cells #[.int .i64 0, .int .i64 0, .int .i64 0, .slice none 0 0] 48)).drew.heap.size = W1.heap.size + 1 := by show (W1.alloc _).heap.size = _; rw [World.size_alloc]
      rw [hd1] at hg0 hz3
      have hSz : SesBox W1.heap.size zeroSes (.slice none 0 0) w3 := (SesBox.new W1 zeroSes (.slice none 0 0) 48).keep ((Keeps.refl _).drew.trans hb)
      have hgg : W1.heap.size < g := by rcases hgo with h | h <;> omega
      refine ⟨rfl, _, g, ka, kc, rfl, ses_laid f _ hSz, ?_, ?_, ⟨⟨?_, ?_⟩, ?_⟩, ?_⟩
      · exact hK.but ((((But.refl W1.heap.size w3).set 0 _).set 1 _).set 2 _ |>.set 3 _) (by omega)
      · omega
      · omega
      · omega
      · simp
        rcases hgo with h | h
        · exact .inl (by omega)
        · exact .inr (by have := h.2; injection this with a1 a2 a3; exact ⟨a1, List.length_eq_zero_iff.1 a2, a3⟩)
      · (repeat refine Keeps.set ?_ (by simp <;> omega) _)
        exact (((Keeps.refl _).alloc _).drew).trans hb
  case rest =>
    obtain ⟨rfl, sb, g, ka, kc, rfl, hSB, hKO, hsb, HGG, hkc⟩ := hcut
    obtain ⟨W2, hW2⟩ : ∃ z : World, z = wc := ⟨_, rfl⟩
    subst hW2
    have HK2 : Hid (Keeps w W2) := HK1.out.trans hkc
    have HE2 : Hid (EntBox (w.heap.size + 1) e W2) := HE1.out.keep hkc
    have m2 := cell_kept m0 hkc
    have hz2 := hkc.size
    have HSB : Hid (SesBox sb f (.slice ka f.kept.length kc) W2) := hSB
    have HKO : Hid (KeptOn g W2 (.slice ka f.kept.length kc) f.kept) := hKO
    have hz1 := HZ1.out
    have hzz : w.heap.size + 2 ≤ W2.heap.size := by omega
    clear HS8 HF m0 b6 e2 hbl1 HE1 HK1 hM0 hM1 HZ1 hz1 hz2 hSB hKO hkc
    clear W1
    cases fi with
    | false =>
      have hnone : findSes s.tab e.client = none := by have := HFI.out; cases hq : findSes s.tab e.client <;> simp_all
      have H1 : Hid (callAns s e = -3 ∧ callDone s e = false ∧ callSt s e = s) := ⟨by rw [HSA.out, hnone], by rw [HSD.out, hnone], by rw [HSS.out, hnone]⟩
      clear hnone
      go_wp2_with fail
      go_ret2
      refine ⟨by rw [H1.out.1, H1.out.2.1]; rfl, ?_⟩
      rw [H1.out.2.2]
      exact ⟨_, HB.out.keep HK2.out, HOT.out.keep HK2.out, But.of HK2.out⟩
    | true =>
      have hsome : findSes s.tab e.client = some f := by have h1 := HFI.out; have h2 := HFS.out; cases hq : findSes s.tab e.client <;> simp_all
      have HSA : Hid (callAns s e = ansOf s (calledSes s f e) e) := by show _ = _; rw [HSA.out, hsome]
      have HSD : Hid (callDone s e = ansDone (calledSes s f e) e) := by show _ = _; rw [HSD.out, hsome]
      have HSS : Hid (callSt s e = { ansSt s (calledSes s f e) e with tab := putTab s.tab (callSes s f e) }) := by show _ = _; rw [HSS.out, hsome]
      have hfe := HR.out f hsome
      have HFE : Hid (sesErr f = 0) := hfe
      have hra := inB_iff.1 (ses_right hfe).2.1
      obtain ⟨hra0, hra1⟩ := hra
      clear hsome hfe HR HO HFS HFI
      have s0 := HSB.out.c0
      have s1 := HSB.out.c1
      have s2 := HSB.out.c2
      have s3 := HSB.out.c3
      have sz := HSB.out.fz
      have sl := HSB.out.lt
      have B2 := HB.out.keep HK2.out
      have b1 := B2.c1
      have bl2 := B2.lt
      have e4 := HE2.out.c4
      have hMl : w.heap.size < W2.heap.size := by omega
      have hMl1 : w.heap.size + 1 < W2.heap.size := by omega
      have hsb1 : ¬ (w.heap.size = sb) := by omega
      have hsb2 : ¬ (w.heap.size + 1 = sb) := by omega
      have hsb3 : ¬ (b = sb) := by omega
      clear B2
      obtain ⟨W3, hW3⟩ : ∃ W3, W3 = (W2.setCell ⟨sb, 2, none⟩ (.int .i64 s.clock)).setCell ⟨sb, 1, none⟩ (.int .i64 (max f.acked e.ack)) := ⟨_, rfl⟩
      have HW3 : Hid (W3 = (W2.setCell ⟨sb, 2, none⟩ (.int .i64 s.clock)).setCell ⟨sb, 1, none⟩ (.int .i64 (max f.acked e.ack))) := hW3
      have SB3 : SesBox sb { f with acked := max f.acked e.ack, seen := s.clock } (.slice ka f.kept.length kc) W3 := by rw [hW3]; exact (HSB.out.set_seen s.clock).set_acked (max f.acked e.ack)
      have BT3 : But sb W2 W3 := by rw [hW3]; exact ((But.refl _ _).set 2 _).set 1 _
      obtain ⟨⟨hg1, hg2⟩, hg3⟩ := HGG.out
      have KO3 : KeptOn g W3 (.slice ka f.kept.length kc) f.kept := HKO.out.but BT3 hg2
      have hk3 := kept_le HFE.out
      have hri := keptOk_rises (ses_right HFE.out).2.2.2
      have hDEL := delete_c g sb (max f.acked e.ack) f.kept _ W3 KO3 hk3 (Ne.symm hg2) SB3.c1 hri.head
      have HDEL : Hid (Calls Try.prog 73 #[.slice ka f.kept.length kc, delF sb] W3 fun e' w' => ∃ kv', KeptOn g w' kv' (keptAfter (max f.acked e.ack) f.kept) ∧ e' = .returned kv' ∧ But g W3 w') := hDEL
      have HSB3 : Hid (SesBox sb { f with acked := max f.acked e.ack, seen := s.clock } (.slice ka f.kept.length kc) W3) := SB3
      have HBT3 : Hid (But sb W2 W3) := BT3
      have HRI : Hid (Rises f.kept) := hri
      have HG3 : Hid (g < W3.heap.size ∨ Value.slice ka f.kept.length kc = .slice none 0 0) := by
        have := BT3.size
        rcases hg3 with h | h
        · exact .inl (by omega)
        · exact .inr h
      clear hDEL SB3 BT3 KO3 hri hg3 HGG hW3
      by_cases hm : f.acked < e.ack
      all_goals
        go_wp2_with fail
        first
          | rw [show (W2.setCell ⟨sb, 2, none⟩ (.int .i64 s.clock)).setCell ⟨sb, 1, none⟩ (.int .i64 e.ack) = W3 from by rw [HW3.out, show max f.acked e.ack = e.ack from by omega]]
          | rw [show (W2.setCell ⟨sb, 2, none⟩ (.int .i64 s.clock)).setCell ⟨sb, 1, none⟩ (.int .i64 f.acked) = W3 from by rw [HW3.out, show max f.acked e.ack = f.acked from by omega]]
        clear hm
        refine HDEL.out.mono ?_
        rintro y w4 ⟨kv4, hk4, rfl, hb4⟩
        obtain ⟨va, vc, rfl, _⟩ := hk4.kept.len
        obtain ⟨g4, hk4', hgo⟩ := hk4.again
        have HK4 : Hid (KeptOn g4 w4 (.slice va (keptAfter (max f.acked e.ack) f.kept).length vc) (keptAfter (max f.acked e.ack) f.kept)) := hk4'
        have SB4 := HSB3.out.other hb4 (Ne.symm hg2)
        have E4 := (HE2.out.but HBT3.out (by omega)).but hb4 (by omega)
        have m4 : w4.cell? ⟨w.heap.size, 0, none⟩ = some (.pointer (some ⟨b, 0, none⟩)) := hb4.at (HBT3.out.at m2 (by simp; omega)) (by simp; omega)
        have KW4 : Keeps w w4 := But.to (But.to HK2.out (by omega) HBT3.out) (by omega) hb4
        have HSB4 : Hid (SesBox sb { f with acked := max f.acked e.ack, seen := s.clock } (.slice ka f.kept.length kc) w4) := SB4
        have HE4 : Hid (EntBox (w.heap.size + 1) e w4) := E4
        have HKW4 : Hid (Keeps w w4) := KW4
        have sl4 := SB4.lt
        have hs4 : W3.heap.size ≤ w4.heap.size := hb4.size
        have hg4 : g4 ≠ sb ∧ w.heap.size + 2 ≤ g4 := by
          have h1 := E4.lt
          rcases hgo with h | h <;> omega
        have HG4 : Hid (g4 < w4.heap.size ∨ Value.slice va (keptAfter (max f.acked e.ack) f.kept).length vc = .slice none 0 0) := by
          rcases hgo with h | h
          · exact .inl (by omega)
          · exact .inr h.2
        obtain ⟨hg4a, hg4b⟩ := hg4
        have t3 := SB4.c3
        have tz := SB4.fz
        have x0 := E4.c0
        have x1 := E4.c1
        have x2 := E4.c2
        have x3 := E4.c3
        have x4 := E4.c4
        have x5 := E4.c5
        have x6 := E4.c6
        have x7 := E4.c7
        have x8 := E4.c8
        have hEl := E4.lt
        have hMl4 := World.block_lt_of_cell? _ _ m4
        simp only [] at hMl4
        clear hk4 hk4' hgo SB4 E4 KW4 hb4 HDEL HSB3 HBT3 HG3 HW3 s0 s1 s2 s3 sz sl b1 bl2 e4 hMl hMl1 m2 HK2 HE2 hzz HSB HKO
        have HCS : Hid (calledSes s f e = { f with acked := max f.acked e.ack, seen := s.clock, kept := keptAfter (max f.acked e.ack) f.kept }) := rfl
        have hk3' : (keptAfter (max f.acked e.ack) f.kept).length ≤ 3 := Nat.le_trans (List.length_filter_le _ _) hk3
        generalize hNK : keptAfter (max f.acked e.ack) f.kept = nk at *
        have HNK : Hid (keptAfter (max f.acked e.ack) f.kept = nk) := hNK
        clear hNK
        generalize hNL : nk.length = nl at *
        go_wp2_with fail
        have SB5 : SesBox sb (calledSes s f e) (.slice va nl vc) (w4.setCell ⟨sb, 3, none⟩ (.slice va nl vc)) := by
          rw [HCS.out]
          exact HSB4.out.set_kept _ _
        have bt5 : But sb w4 (w4.setCell ⟨sb, 3, none⟩ (.slice va nl vc)) := (But.refl _ _).set 3 _
        generalize (w4.setCell ⟨sb, 3, none⟩ (.slice va nl vc)) = W5 at *
        have KW5 : Keeps w W5 := But.to HKW4.out (by omega) bt5
        have B5 := HB.out.keep KW5
        have K5 : KeptOn g4 W5 (.slice va nl vc) (calledSes s f e).kept := by rw [HCS.out]; exact HK4.out.but bt5 hg4a
        have m5 : W5.cell? ⟨w.heap.size, 0, none⟩ = some (.pointer (some ⟨b, 0, none⟩)) := bt5.at m4 (by simp; omega)
        have hac : (calledSes s f e).acked = max f.acked e.ack := rfl
        have hrk : Rises (calledSes s f e).kept := HRI.out.filter _
        have hk5 : (calledSes s f e).kept.length ≤ 3 := by rw [HCS.out]; show nk.length ≤ 3; omega
        have hg5 : g4 < W5.heap.size ∨ Value.slice va nl vc = .slice none 0 0 := by
          have h1 := bt5.size
          rcases HG4.out with h | h
          · exact .inl (by omega)
          · exact .inr h
        have HCC : Hid (∀ l, l = ansKept s (calledSes s f e) e → { calledSes s f e with kept := l } = callSes s f e) := fun l h => by subst h; rfl
        have HANS := answer_c s (calledSes s f e) e b sb g4 _ _ W5 B5 SB5 K5 hk5 hrk (by omega) (by omega) hg4a hg5 (by rw [hac]; omega) (by rw [hac]; omega) hs0 hs1
        refine HANS.mono ?_
        rintro y w6 ⟨rfl, kv6, g6, B6, SB6, K6, hor6, F6⟩
        obtain ⟨ua, uc, rfl, _⟩ := K6.kept.len
        rw [HCC.out _ rfl] at SB6
        have BT6 : But b w w6 := But3.to (But.of KW5) (by omega) (by omega) F6
        have m6 : w6.cell? ⟨w.heap.size, 0, none⟩ = some (.pointer (some ⟨b, 0, none⟩)) := F6.at m5 (by simp; omega) (by simp; omega) (by simp; omega)
        have HT6 : Hid (TabAt w6 (.slice xa s.tab.length xc) s.tab) := HT.out w6 BT6
        have HK6 : Hid (KeptAt w6 (.slice ua (ansKept s (calledSes s f e) e).length uc) (callSes s f e).kept) := K6.kept
        have HB6 : Hid (StBox b (ansSt s (calledSes s f e) e) (.slice xa s.tab.length xc) w6) := B6
        have HBT6 : Hid (But b w w6) := BT6
        have sl6 := SB6.lt
        have u0 := SB6.c0
        have u1 := SB6.c1
        have u2 := SB6.c2
        have u3 := SB6.c3
        have b6 := B6.c6
        have bz6 := B6.fz
        have bl6 := B6.lt
        have hMl6 := World.block_lt_of_cell? _ _ m6
        simp only [] at hMl6
        clear HANS hg5 hk5 hrk hac m5 K5 B5 KW5 bt5 SB5 B6 SB6 K6 hor6 F6 BT6 HNK HCC HCS HSB4 HE4 HKW4 HK4 HG4 HRI HFE hMl4 t3 tz x0 x1 x2 x3 x4 x5 x6 x7 x8 hEl m4 hra0 hra1 sl4 hs4
        generalize ansSt s (calledSes s f e) e = s6 at *
        generalize hcs : callSes s f e = cs at *
        generalize (ansKept s (calledSes s f e) e).length = un at *
        generalize ansOf s (calledSes s f e) e = an at *
        generalize ansDone (calledSes s f e) e = ad at *
        have HPUT : Hid (∀ W, TabAt W (.slice xa s.tab.length xc) s.tab → KeptAt W (.slice ua un uc) cs.kept → Calls Try.prog 71 #[.slice xa s.tab.length xc, .agg #[.int .i64 cs.client, .int .i64 cs.acked, .int .i64 cs.seen, .slice ua un uc]] W fun y w' => ∃ va n vc er, OwnTab W.heap.size w' (.slice va n vc) (putTab s.tab cs) ∧ y = .returned (.tuple #[.slice va n vc, .int .i64 er]) ∧ Keeps W w') := by
          intro W h1 h2
          refine (sess_put s.tab _ cs _ W h1 h2).mono ?_
          rintro y w' ⟨v', ho, rfl, hb⟩
          obtain ⟨va, vc, rfl, _⟩ := ho.tab.len
          exact ⟨va, _, vc, _, ho, rfl, hb⟩
        have HM6 : Hid (w6.drew.cell? ⟨w.heap.size, 0, none⟩ = some (.pointer (some ⟨b, 0, none⟩)) ∧ w6.drew.cell? ⟨sb, 0, none⟩ = some (.int .i64 cs.client) ∧ w6.drew.cell? ⟨sb, 1, none⟩ = some (.int .i64 cs.acked) ∧ w6.drew.cell? ⟨sb, 2, none⟩ = some (.int .i64 cs.seen) ∧ w6.drew.cell? ⟨sb, 3, none⟩ = some (.slice ua un uc)) := ⟨m6, u0, u1, u2, u3⟩
        go_wp2_with fail
        refine wp_region_held_drew (S := fun w' => w'.cell? ⟨w.heap.size, 0, none⟩ = some (.pointer (some ⟨b, 0, none⟩)) ∧ w'.cell? ⟨sb, 0, none⟩ = some (.int .i64 cs.client) ∧ w'.cell? ⟨sb, 1, none⟩ = some (.int .i64 cs.acked) ∧ w'.cell? ⟨sb, 2, none⟩ = some (.int .i64 cs.seen) ∧ w'.cell? ⟨sb, 3, none⟩ = some (.slice ua un uc)) (by kernel_rfl) HM6.out (fun hS => ?_)
        refine wpAnyH_take (i := 0) (v := .pointer (some ⟨w.heap.size, 0, none⟩)) rfl (by kernel_rfl) (by kernel_rfl) (by kernel_rfl) (fun _ _ _ h => h) (Or.inl ⟨by rfl, ?_⟩) hS ?_
        · intro w hS; go_simp
        refine wpAnyH_take (i := 1) (v := .pointer (some ⟨b, 0, none⟩)) rfl (by kernel_rfl) (by kernel_rfl) (by kernel_rfl) (fun _ _ _ h => h) (Or.inl ⟨by rfl, ?_⟩) hS ?_
        · intro w hS; go_simp
        refine wpAnyH_take (i := 2) (v := .pointer (some ⟨w.heap.size, 0, none⟩)) rfl (by kernel_rfl) (by kernel_rfl) (by kernel_rfl) (fun _ _ _ h => h) (Or.inl ⟨by rfl, ?_⟩) hS ?_
        · intro w hS; go_simp
        refine wpAnyH_take (i := 3) (v := .pointer (some ⟨b, 0, none⟩)) rfl (by kernel_rfl) (by kernel_rfl) (by kernel_rfl) (fun _ _ _ h => h) (Or.inl ⟨by rfl, ?_⟩) hS ?_
        · intro w hS; go_simp
        refine wpAnyH_take (i := 4) (v := .pointer (some ⟨b, 0, none⟩)) rfl (by kernel_rfl) (by kernel_rfl) (by kernel_rfl) (fun _ _ _ h => h) (Or.inl ⟨by rfl, ?_⟩) hS ?_
        · intro w hS; go_simp
        refine wpAnyH_take (i := 5) (v := .pointer (some ⟨b, 6, none⟩)) rfl (by kernel_rfl) (by kernel_rfl) (by kernel_rfl) (fun _ _ _ h => h) (Or.inl ⟨by rfl, ?_⟩) hS ?_
        · intro w hS; go_simp
        refine wpAnyH_take (i := 7) (v := .agg #[.int .i64 cs.client, .int .i64 cs.acked, .int .i64 cs.seen, .slice ua un uc]) rfl (by kernel_rfl) (by kernel_rfl) (by kernel_rfl) (fun _ _ _ h => h) (Or.inl ⟨by rfl, ?_⟩) hS ?_
        · intro w hS; go_simp
        refine wpAnyH_ready (rs := [6]) (by kernel_rfl) (by simp) ?_
        refine AllReadyH.cons rfl (fun K hK => ?_) AllReadyH.nil
        go_simp
        refine hK.out _ _ (hS) (fun hS => ?_)
        clear hK K
        refine wpAnyH_ready (rs := [8]) (by kernel_rfl) (by simp) ?_
        refine AllReadyH.cons rfl (fun K hK => ?_) AllReadyH.nil
        go_simp
        refine (HPUT.out _ (HT6.out.keep (Keeps.refl _).drew) (HK6.out.keep (Keeps.refl _).drew)).mono ?_
        rintro y w7 ⟨pa, pn, pc, er, ho, rfl, hb⟩
        have B7 := HB6.out.keep ((Keeps.refl _).drew.trans hb)
        have d6 := B7.c6
        have dz := B7.fz
        have dl := B7.lt
        have hS7 : w7.cell? ⟨w.heap.size, 0, none⟩ = some (.pointer (some ⟨b, 0, none⟩)) ∧ w7.cell? ⟨sb, 0, none⟩ = some (.int .i64 cs.client) ∧ w7.cell? ⟨sb, 1, none⟩ = some (.int .i64 cs.acked) ∧ w7.cell? ⟨sb, 2, none⟩ = some (.int .i64 cs.seen) ∧ w7.cell? ⟨sb, 3, none⟩ = some (.slice ua un uc) := ⟨cell_kept HM6.out.1 hb, cell_kept HM6.out.2.1 hb, cell_kept HM6.out.2.2.1 hb, cell_kept HM6.out.2.2.2.1 hb, cell_kept HM6.out.2.2.2.2 hb⟩
        have HS7 := (show Hid (_ ∧ _) from hS7)
        clear hS7
        go_simp
        refine hK.out _ _ HS7.out (fun hS => ?_)
        clear hK K
        refine wpAnyH_take (i := 9) (v := .tuple #[.slice pa pn pc, .int .i64 er]) rfl (by kernel_rfl) (by kernel_rfl) (by kernel_rfl) (fun _ _ _ h => h) (Or.inl ⟨by rfl, ?_⟩) hS ?_
        · intro w hS; go_simp
        refine wpAnyH_take (i := 10) (v := .slice pa pn pc) rfl (by kernel_rfl) (by kernel_rfl) (by kernel_rfl) (fun _ _ _ h => h) (Or.inl ⟨by rfl, ?_⟩) hS ?_
        · intro w hS; go_simp
        refine wpAnyH_take (i := 11) (v := .int .i64 er) rfl (by kernel_rfl) (by kernel_rfl) (by kernel_rfl) (fun _ _ _ h => h) (Or.inl ⟨by rfl, ?_⟩) hS ?_
        · intro w hS; go_simp
        refine wpAnyH_take (i := 12) (v := .pointer (some ⟨b, 0, none⟩)) rfl (by kernel_rfl) (by kernel_rfl) (by kernel_rfl) (fun _ _ _ h => h) (Or.inl ⟨by rfl, ?_⟩) hS ?_
        · intro w hS; go_simp
        refine wpAnyH_take (i := 13) (v := .pointer (some ⟨b, 6, none⟩)) rfl (by kernel_rfl) (by kernel_rfl) (by kernel_rfl) (fun _ _ _ h => h) (Or.inl ⟨by rfl, ?_⟩) hS ?_
        · intro w hS; go_simp
        refine wpAnyH_ready (rs := [14]) (by kernel_rfl) (by simp) ?_
        refine AllReadyH.cons rfl (fun K hK => ?_) AllReadyH.nil
        go_simp
        refine hK.out _ _ (by have bt := (But.refl b w7).set 6 (.slice pa pn pc); exact ⟨bt.at HS7.out.1 (by simp; omega), bt.at HS7.out.2.1 (by simp; omega), bt.at HS7.out.2.2.1 (by simp; omega), bt.at HS7.out.2.2.2.1 (by simp; omega), bt.at HS7.out.2.2.2.2 (by simp; omega)⟩) (fun hS => ?_)
        clear hK K
        refine wpAnyH_done (by kernel_rfl) ?_ _
        have HB7 : Hid (StBox b s6 (.slice xa s.tab.length xc) w7) := B7
        have HO7 : Hid (OwnTab w6.drew.heap.size w7 (.slice pa pn pc) (putTab s.tab cs)) := ho
        have HB67 : Hid (Keeps w6.drew w7) := hb
        clear B7 ho hb d6 dz u0 u1 u2 u3 b6 bz6 m6 HM6 HS7 hS HPUT HT6 HK6 HB6
        go_wp2_with fail
        go_ret2
        refine ⟨by rw [HSA.out, HSD.out]; rfl, ?_⟩
        rw [HSS.out]
        exact ⟨_, HB7.out.set_tab _ _, (HO7.out.base (Nat.le_trans hbw HBT6.out.size)).but hbb ((But.refl _ _).set 6 _), ((HBT6.out.keeps (Keeps.refl _).drew).keeps HB67.out).set 6 _⟩
end Go.Proofs.Ythjcnbimapgdnab
