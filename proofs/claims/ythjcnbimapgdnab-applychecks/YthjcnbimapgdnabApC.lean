/- Applying: the machine's close and open. -/
import Derived.Test.YthjcnbimapgdnabApB
set_option linter.unusedSimpArgs false
set_option linter.unusedVariables false
set_option maxRecDepth 10000
namespace Go.Proofs.Ythjcnbimapgdnab
open Go.RowKit

set_option maxHeartbeats 2000000 in
theorem find_own (L : List Ses) (v : Value) (c : Int) (w : World) (hT : TabAt w v L) (he : (tabErr L == 0) = true) :
    Calls Try.prog 70 #[v, .int .i64 c] w fun e w' => ∃ kv, w'.ownsRow w.heap.size 78 2 kv ((findSes L c).getD zeroSes).kept.length (repCells ((findSes L c).getD zeroSes).kept) ∧ e = .returned (.tuple #[sesV ((findSes L c).getD zeroSes) kv, .bool (findSes L c).isSome, .int .i64 0]) ∧ Keeps w w' := by
  have he' : (tabErr L != 0) = false := by simp [bne, he]
  have he0 : tabErr L = 0 := by simpa using he
  have hR := tab_right he0
  obtain ⟨h3, hall, _⟩ := hR
  have HALL : Hid (∀ s ∈ L, sesErr s = 0) := hall
  clear hall
  obtain ⟨a, cap, rfl, hlen⟩ := hT.len
  unfold maxLen at hlen
  have hT0 := hT.keep ((Keeps.refl w).alloc (.cells #[.int .i64 0, .int .i64 0, .int .i64 0, .slice none 0 0] 48))
  have HT : Hid (TabAt (w.alloc (.cells #[.int .i64 0, .int .i64 0, .int .i64 0, .slice none 0 0] 48)) (.slice a L.length cap) L) := hT0
  clear hT hT0
  go_enter Try.func70, Try.ntmps70
  go_wp2_with fail
  refine (sess_check L _ _ HT.out).mono ?_
  rintro e w1 ⟨rfl, hb1⟩
  have HB1 : Hid (Keeps (w.alloc (.cells #[.int .i64 0, .int .i64 0, .int .i64 0, .slice none 0 0] 48)) w1) := hb1
  clear hb1
  go_wp2_with fail
  go_loopw [18] (fun i wr => ∃ (k : Nat), k ≤ L.length ∧ i = .int .i64 k ∧ Hid (Keeps (w.alloc (.cells #[.int .i64 0, .int .i64 0, .int .i64 0, .slice none 0 0] 48)) wr) ∧ Hid (findSes L c = findSes (L.drop k) c)) (fun i _ => L.length - (intOf i).toNat)
  case atStart => exact ⟨0, Nat.zero_le _, rfl, HB1, rfl⟩
  case round =>
    obtain ⟨k, hk, rfl, HKW, HQ⟩ := hrel
    have hz : w.heap.size < wr.heap.size := by have := HKW.out.size; simp at this; omega
    by_cases hlt : k < L.length
    · obtain ⟨b, off, cap', hv, hcell⟩ := (HT.out.keep HKW.out).at hlt
      injection hv with hv1 hv2 hv3
      subst hv1
      clear hv2 hv3
      obtain ⟨c0, c1, c2, ka, kc, c3, hkv⟩ := hcell k hlt
      clear hcell
      have HKV : Hid (KeptAt wr (.slice ka (L[k]).kept.length kc) (L[k]).kept) := hkv
      clear hkv
      have HR : Hid (findSes L c = if (L[k]).client == c then some (L[k]) else findSes (L.drop (k + 1)) c) := HQ.out.trans (findSes_at hlt)
      have hn3 : (L[k]).kept.length ≤ 3 := kept_le (HALL.out _ (List.getElem_mem hlt))
      clear HQ
      generalize L[k] = s at *
      cases hq : (s.client == c) with
      | true =>
        have HN : Hid (findSes L c = some s) := by show _ = _; rw [HR.out, hq]; rfl
        go_wp2_with fail
        refine (twin_c s _ _ (HKV.out.keep ((Keeps.refl _).alloc _)) hn3).mono ?_
        rintro e w2 ⟨kv', ho, rfl, hb2⟩
        obtain ⟨va, vc, rfl⟩ : ∃ va vc, kv' = .slice va s.kept.length vc := by obtain ⟨x, y, h, _⟩ := (RowAt.of_owns ho).len; exact ⟨x, y, h⟩
        have hkZ : Keeps (w.alloc (.cells #[.int .i64 0, .int .i64 0, .int .i64 0, .slice none 0 0] 48)) w2 := (HKW.out.alloc _).trans hb2
        have hk2 : Keeps w w2 := ((Keeps.refl _).alloc _).trans hkZ
        obtain ⟨hc, hf⟩ := hkZ.cells
        simp only [World.size_alloc] at hc hf ho
        have hz2 : w.heap.size < w2.heap.size := by have := hkZ.size; simp at this; omega
        clear hb2 hkZ
        go_wp2_with fail
        refine bodyPost_ret (v := .tuple #[sesV s (.slice va s.kept.length vc), .bool true, .int .i64 0]) ?_ rfl ?_
        · simp [results, Try.results70, go_sem, hc]
        · rw [HN.out]
          refine ⟨.slice va s.kept.length vc, ?_, rfl, ?_⟩
          · refine owns_base (base := wr.heap.size + 1) ?_ (by omega)
            repeat refine ownsRow_setCell_below ?_ (by simp <;> omega) _
            exact ho
          · repeat refine Keeps.set ?_ (by simp <;> omega) _
            exact hk2
      | false =>
        have HN : Hid (findSes L c = findSes (L.drop (k + 1)) c) := by show _ = _; rw [HR.out, hq]; rfl
        go_wp2_with fail
        go_roundw
        case rel => exact ⟨k + 1, by omega, by go_num, HKW.out.alloc _, HN⟩
        case measure => simp [intOf]; omega
    · have HN : Hid (findSes L c = none) := HQ.out.trans (by rw [List.drop_of_length_le (by omega)]; rfl)
      have hk2 : Keeps w wr := ((Keeps.refl _).alloc _).trans HKW.out
      obtain ⟨hc, hf⟩ := HKW.out.cells
      simp only [World.size_alloc] at hc hf
      go_wp2_with fail
      refine bodyPost_ret (v := .tuple #[sesV zeroSes (.slice none 0 0), .bool false, .int .i64 0]) ?_ rfl ?_
      · simp [results, Try.results70, go_sem, hc, zeroSes]
      · rw [HN.out]
        refine ⟨.slice none 0 0, World.ownsRow_nil _ _ _ _, rfl, ?_⟩
        repeat refine Keeps.set ?_ (by simp <;> omega) _
        exact hk2

def closedSt (s : St) (c : Int) : St := if dropErr s.tab c == 0 then { s with tab := dropTab s.tab c } else s
def closedAns (s : St) (c : Int) : Int := if dropErr s.tab c == 0 then 0 else -3

set_option maxHeartbeats 2000000 in
theorem close_c (s : St) (b base : Nat) (x : Value) (c : Int) (w : World) (hB : StBox b s x w) (hO : OwnTab base w x s.tab) (hbb : b < base) (hbw : base ≤ w.heap.size) :
    Calls Try.prog 55 #[macV b, .int .i64 c] w fun y w' => y = .returned (.int .i64 (closedAns s c)) ∧ ∃ x', StBox b (closedSt s c) x' w' ∧ OwnTab base w' x' (closedSt s c).tab ∧ But b w w' := by
  have hT : TabFar b w x s.tab := hO.far hbb
  have HOT : Hid (OwnTab base w x s.tab) := hO
  clear hO
  have hbl := hB.lt
  obtain ⟨xa, xc, rfl, _⟩ := hT.tab.len
  have HT : Hid (TabFar b w (.slice xa s.tab.length xc) s.tab) := hT
  have HB : Hid (StBox b s (.slice xa s.tab.length xc) w) := hB
  have c6 := hB.c6
  clear hB hT
  go_enter Try.func55, Try.ntmps55
  go_wp2_with fail
  refine (sess_drop s.tab _ c _ (HT.out.tab.keep ((Keeps.refl _).alloc _))).mono ?_
  rintro e w1 ⟨v', ho, rfl, hb⟩
  obtain ⟨va, vc, rfl, _⟩ := ho.tab.len
  have hk1 : Keeps w w1 := ((Keeps.refl _).alloc _).trans hb
  have m1 : w1.cell? ⟨w.heap.size, 0, none⟩ = some (.pointer (some ⟨b, 0, none⟩)) := cell_kept (by simp [go_sem]) hb
  have hlm := World.block_lt_of_cell? _ _ m1
  simp only [] at hlm
  clear hb c6
  have HO : Hid (OwnTab (w.alloc (.cells #[.pointer (some ⟨b, 0, none⟩)] 62)).heap.size w1 (.slice va (dropTab s.tab c).length vc) (dropTab s.tab c)) := ho
  clear ho
  generalize (dropTab s.tab c).length = n1 at *
  have HB1 := HB.out.keep hk1
  have d6 := HB1.c6
  have dz := HB1.fz
  have dl := HB1.lt
  have HB1 : Hid (StBox b s (.slice xa s.tab.length xc) w1) := HB1
  cases q : (dropErr s.tab c == 0) with
  | false =>
    have q' : (dropErr s.tab c != 0) = true := by simp [bne, q]
    have HE : Hid (closedAns s c = -3 ∧ closedSt s c = s) := by simp [Hid, closedAns, closedSt, q]
    go_wp2_with fail
    go_ret
    refine ⟨ret_int HE.out.1.symm, ?_⟩
    rw [HE.out.2]
    exact ⟨_, HB1.out, HOT.out.keep hk1, But.of hk1⟩
  | true =>
    have q' : (dropErr s.tab c != 0) = false := by simp [bne, q]
    have HE : Hid (closedAns s c = 0 ∧ closedSt s c = { s with tab := dropTab s.tab c }) := by simp [Hid, closedAns, closedSt, q]
    go_wp2_with fail
    go_ret
    refine ⟨ret_int HE.out.1.symm, ?_⟩
    rw [HE.out.2]
    exact ⟨_, HB1.out.set_tab _ _, ((HO.out.base (by simp; omega)).but hbb ((But.refl _ _).set 6 _)), (But.of hk1).set 6 _⟩

/-- The session that an Open asks for. -/
def openSes (s : St) (c : Int) : Ses := ⟨c, ((findSes s.tab c).getD zeroSes).acked, s.clock, ((findSes s.tab c).getD zeroSes).kept⟩
def openedSt (s : St) (c : Int) : St := if putErr s.tab (openSes s c) == 0 then { s with tab := putTab s.tab (openSes s c) } else s
def openedAns (s : St) (c : Int) : Int := if putErr s.tab (openSes s c) == 0 then 0 else -2

/-- A session in its box. -/
structure SesBox (b : Nat) (s : Ses) (k : Value) (w : World) : Prop where
  c0 : w.cell? ⟨b, 0, none⟩ = some (.int .i64 s.client)
  c1 : w.cell? ⟨b, 1, none⟩ = some (.int .i64 s.acked)
  c2 : w.cell? ⟨b, 2, none⟩ = some (.int .i64 s.seen)
  c3 : w.cell? ⟨b, 3, none⟩ = some k
  fz : ∀ i, w.frozen? ⟨b, i, none⟩ = false

theorem SesBox.lt {b : Nat} {s : Ses} {k : Value} {w : World} (h : SesBox b s k w) : b < w.heap.size := World.block_lt_of_cell? _ _ h.c0
theorem SesBox.keep {b : Nat} {s : Ses} {k : Value} {w w' : World} (h : SesBox b s k w) (hk : Keeps w w') : SesBox b s k w' :=
  ⟨cell_kept h.c0 hk, cell_kept h.c1 hk, cell_kept h.c2 hk, cell_kept h.c3 hk, fun i => (Below.frozen hk (p := ⟨b, i, none⟩) h.lt).trans (h.fz i)⟩
theorem SesBox.other {b b' : Nat} {s : Ses} {k : Value} {w w' : World} (h : SesBox b s k w) (hk : But b' w w') (hb : b ≠ b') : SesBox b s k w' :=
  ⟨hk.at h.c0 hb, hk.at h.c1 hb, hk.at h.c2 hb, hk.at h.c3 hb, fun i => (hk.frozen (p := ⟨b, i, none⟩) h.lt hb).trans (h.fz i)⟩
theorem SesBox.new (w : World) (s : Ses) (k : Value) (t : TypeId) : SesBox w.heap.size s k (w.alloc (.cells #[.int .i64 s.client, .int .i64 s.acked, .int .i64 s.seen, k] t)) :=
  ⟨by simp [go_sem], by simp [go_sem], by simp [go_sem], by simp [go_sem], fun i => by simp [go_sem]⟩
theorem SesBox.set {b : Nat} {s s' : Ses} {t t' : Value} {w : World} (h : SesBox b s t w) (i : Nat) (u : Value)
    (h0 : .int .i64 s'.client = if i = 0 then u else .int .i64 s.client) (h1 : .int .i64 s'.acked = if i = 1 then u else .int .i64 s.acked) (h2 : .int .i64 s'.seen = if i = 2 then u else .int .i64 s.seen) (h3 : t' = if i = 3 then u else t) : SesBox b s' t' (w.setCell ⟨b, i, none⟩ u) := by
  have go : ∀ j x y, w.cell? ⟨b, j, none⟩ = some x → y = (if i = j then u else x) → (w.setCell ⟨b, i, none⟩ u).cell? ⟨b, j, none⟩ = some y := fun j x y hx hy => by
    by_cases hij : i = j
    · subst hij
      rw [if_pos rfl] at hy
      subst hy
      exact World.cell?_setCell_same _ _ _ hx
    · rw [if_neg hij] at hy
      subst hy
      rw [World.cell?_setCell_other _ _ _ _ (by intro e; injection e with _ e _; exact hij e)]
      exact hx
  exact ⟨go _ _ _ h.c0 h0, go _ _ _ h.c1 h1, go _ _ _ h.c2 h2, go _ _ _ h.c3 h3, fun j => (World.frozen?_setCell _ _ _ _).trans (h.fz j)⟩
theorem SesBox.set_client {b : Nat} {s : Ses} {t : Value} {w : World} (h : SesBox b s t w) (n : Int) : SesBox b { s with client := n } t (w.setCell ⟨b, 0, none⟩ (.int .i64 n)) := h.set (s' := { s with client := n }) (t' := t) 0 _ rfl rfl rfl rfl
theorem SesBox.set_acked {b : Nat} {s : Ses} {t : Value} {w : World} (h : SesBox b s t w) (n : Int) : SesBox b { s with acked := n } t (w.setCell ⟨b, 1, none⟩ (.int .i64 n)) := h.set (s' := { s with acked := n }) (t' := t) 1 _ rfl rfl rfl rfl
theorem SesBox.set_seen {b : Nat} {s : Ses} {t : Value} {w : World} (h : SesBox b s t w) (n : Int) : SesBox b { s with seen := n } t (w.setCell ⟨b, 2, none⟩ (.int .i64 n)) := h.set (s' := { s with seen := n }) (t' := t) 2 _ rfl rfl rfl rfl
theorem SesBox.set_kept {b : Nat} {s : Ses} {t : Value} {w : World} (h : SesBox b s t w) (l : List (Int × Int)) (u : Value) : SesBox b { s with kept := l } u (w.setCell ⟨b, 3, none⟩ u) := h.set (s' := { s with kept := l }) (t' := u) 3 _ rfl rfl rfl rfl

set_option maxHeartbeats 4000000 in
theorem open_c (s : St) (b base : Nat) (x : Value) (c : Int) (w : World) (hB : StBox b s x w) (hO : OwnTab base w x s.tab) (hbb : b < base) (hbw : base ≤ w.heap.size) (he : tabErr s.tab = 0) :
    Calls Try.prog 54 #[macV b, .int .i64 c] w fun y w' => y = .returned (.int .i64 (openedAns s c)) ∧ ∃ x', StBox b (openedSt s c) x' w' ∧ OwnTab base w' x' (openedSt s c).tab ∧ But b w w' := by
  have hT : TabFar b w x s.tab := hO.far hbb
  have HOT : Hid (OwnTab base w x s.tab) := hO
  clear hO
  have hbl := hB.lt
  obtain ⟨xa, xc, rfl, _⟩ := hT.tab.len
  have HT : Hid (TabFar b w (.slice xa s.tab.length xc) s.tab) := hT
  have HB : Hid (StBox b s (.slice xa s.tab.length xc) w) := hB
  have c6 := hB.c6
  clear hB hT
  have HO : Hid (openSes s c = { ((findSes s.tab c).getD zeroSes) with client := c, seen := s.clock }) := rfl
  go_enter Try.func54, Try.ntmps54
  go_wp2_with fail
  refine (find_own s.tab _ c _ (HT.out.tab.keep ((Keeps.refl _).alloc _)) (by rw [he]; rfl)).mono ?_
  rintro e w1 ⟨kv, hkv, rfl, hb⟩
  obtain ⟨ka, kc, rfl, _⟩ := (RowAt.of_owns hkv).len
  generalize (findSes s.tab c).getD zeroSes = f at *
  generalize (findSes s.tab c).isSome = fi at *
  have hk1 : Keeps w w1 := ((Keeps.refl _).alloc _).trans hb
  have m1 : w1.cell? ⟨w.heap.size, 0, none⟩ = some (.pointer (some ⟨b, 0, none⟩)) := cell_kept (by simp [go_sem]) hb
  have hlm := World.block_lt_of_cell? _ _ m1
  simp only [] at hlm
  have HK : Hid (KeptAt w1 (.slice ka f.kept.length kc) f.kept) := RowAt.of_owns hkv
  clear hb c6 hkv
  go_wp2_with fail
  have SB := SesBox.new w1 f (.slice ka f.kept.length kc) 48
  have B1 := HB.out.keep (hk1.alloc (.cells #[.int .i64 f.client, .int .i64 f.acked, .int .i64 f.seen, .slice ka f.kept.length kc] 48))
  have k2 := hk1.alloc (.cells #[.int .i64 f.client, .int .i64 f.acked, .int .i64 f.seen, .slice ka f.kept.length kc] 48)
  have m2 := cell_kept m1 ((Keeps.refl _).alloc (.cells #[.int .i64 f.client, .int .i64 f.acked, .int .i64 f.seen, .slice ka f.kept.length kc] 48))
  have kk := HK.out.keep ((Keeps.refl _).alloc (.cells #[.int .i64 f.client, .int .i64 f.acked, .int .i64 f.seen, .slice ka f.kept.length kc] 48))
  have hsb : b < w1.heap.size := Nat.lt_of_lt_of_le hbl hk1.size
  have KF : KeptFar w1.heap.size (w1.alloc (.cells #[.int .i64 f.client, .int .i64 f.acked, .int .i64 f.seen, .slice ka f.kept.length kc] 48)) (.slice ka f.kept.length kc) f.kept := HK.out.far ((Keeps.refl _).alloc _) (Nat.le_refl _)
  have hws : w.heap.size ≤ w1.heap.size := hk1.size
  generalize (w1.alloc (.cells #[.int .i64 f.client, .int .i64 f.acked, .int .i64 f.seen, .slice ka f.kept.length kc] 48)) = w2 at *
  generalize w1.heap.size = sb at *
  clear HK m1 hk1 w1
  have HB1 : Hid (StBox b s (.slice xa s.tab.length xc) w2) := B1
  have HSB : Hid (SesBox sb f (.slice ka f.kept.length kc) w2) := SB
  have HK2 : Hid (Keeps w w2) := k2
  have HKF : Hid (KeptFar sb w2 (.slice ka f.kept.length kc) f.kept) := KF
  have s0 := SB.c0
  have s2 := SB.c2
  have sf := SB.fz
  have sl := SB.lt
  have b1 := B1.c1
  clear SB B1 k2 KF kk
  go_cut [21] (fun _ wc => SesBox sb (openSes s c) (.slice ka f.kept.length kc) wc ∧ But sb w2 wc)
  case first =>
    have hne : sb ≠ b := by omega
    have hne2 : sb ≠ w.heap.size := by omega
    go_region_held3 (fun w' => w'.cell? ⟨w.heap.size, 0, none⟩ = some (.pointer (some ⟨b, 0, none⟩)) ∧ w'.cell? ⟨b, 1, none⟩ = some (.int .i64 s.clock)) (go_keep) (fail)
    all_goals go_wp2_with fail
    all_goals go_meet
    all_goals exact ⟨by rw [HO.out]; exact ((HSB.out.set_client c).set_seen s.clock).keep (Keeps.refl _).drew, (((But.refl _ _).set 0 _).set 2 _).keeps (Keeps.refl _).drew⟩
  case rest =>
    obtain ⟨hSB, hbt⟩ := hcut
    obtain ⟨w4, hw4⟩ : ∃ z : World, z = wc := ⟨_, rfl⟩
    subst hw4
    have hne : b ≠ sb := by omega
    have hkw : Keeps w w4 := But.to HK2.out hws hbt
    have B3 := HB1.out.other hbt hne
    have m3 : w4.cell? ⟨w.heap.size, 0, none⟩ = some (.pointer (some ⟨b, 0, none⟩)) := hbt.at m2 (by simp; omega)
    have KK : Hid (KeptAt w4 (.slice ka f.kept.length kc) (openSes s c).kept) := by rw [HO.out]; exact HKF.out w4 hbt
    have TT : Hid (TabAt w4 (.slice xa s.tab.length xc) s.tab) := HT.out w4 (But.of hkw)
    have HB3 : Hid (StBox b s (.slice xa s.tab.length xc) w4) := B3
    have HKW : Hid (Keeps w w4) := hkw
    have b6 := B3.c6
    have s0 := hSB.c0
    have s1 := hSB.c1
    have s2 := hSB.c2
    have s3 := hSB.c3
    have sl := hSB.lt
    have bl := B3.lt
    have hlm := World.block_lt_of_cell? _ _ m3
    simp only [] at hlm
    have HS : Hid (w4.drew.cell? ⟨w.heap.size, 0, none⟩ = some (.pointer (some ⟨b, 0, none⟩)) ∧ w4.drew.cell? ⟨b, 6, none⟩ = some (.slice xa s.tab.length xc) ∧ w4.drew.cell? ⟨sb, 0, none⟩ = some (.int .i64 (openSes s c).client) ∧ w4.drew.cell? ⟨sb, 1, none⟩ = some (.int .i64 (openSes s c).acked) ∧ w4.drew.cell? ⟨sb, 2, none⟩ = some (.int .i64 (openSes s c).seen) ∧ w4.drew.cell? ⟨sb, 3, none⟩ = some (.slice ka f.kept.length kc)) := ⟨m3, b6, s0, s1, s2, s3⟩
    clear B3 hSB hbt hkw HSB HB1 HK2 HKF m2
    have HA : Hid (openedAns s c = if putErr s.tab (openSes s c) == 0 then 0 else -2) := rfl
    have HS2 : Hid (openedSt s c = if putErr s.tab (openSes s c) == 0 then { s with tab := putTab s.tab (openSes s c) } else s) := rfl
    generalize openSes s c = os at *
    go_wp2_with fail
    go_cut [8, 9] (fun u v wd => v = .int .i64 (putErr s.tab os) ∧ OwnTab w4.heap.size wd u (putTab s.tab os) ∧ Keeps w4 wd)
    case first =>
      go_region_held3 (fun w' => w'.cell? ⟨w.heap.size, 0, none⟩ = some (.pointer (some ⟨b, 0, none⟩)) ∧ w'.cell? ⟨b, 6, none⟩ = some (.slice xa s.tab.length xc) ∧ w'.cell? ⟨sb, 0, none⟩ = some (.int .i64 os.client) ∧ w'.cell? ⟨sb, 1, none⟩ = some (.int .i64 os.acked) ∧ w'.cell? ⟨sb, 2, none⟩ = some (.int .i64 os.seen) ∧ w'.cell? ⟨sb, 3, none⟩ = some (.slice ka f.kept.length kc)) (first | exact ⟨cell_kept HS.out.1 (by assumption), cell_kept HS.out.2.1 (by assumption), cell_kept HS.out.2.2.1 (by assumption), cell_kept HS.out.2.2.2.1 (by assumption), cell_kept HS.out.2.2.2.2.1 (by assumption), cell_kept HS.out.2.2.2.2.2 (by assumption)⟩ | go_keep) (first | (go_at_call 71; refine (sess_put s.tab _ os _ _ (TT.out.keep (Keeps.refl _).drew) (KK.out.keep (Keeps.refl _).drew)).mono ?_; rintro e w3 ⟨v', ho, rfl, hb⟩))
      all_goals go_wp2_with fail
      all_goals go_meet
      all_goals exact ⟨rfl, ho, (Keeps.refl _).drew.trans hb⟩
    case rest =>
      obtain ⟨rfl, ho, hkd⟩ := hcut
      obtain ⟨va, vc, rfl, _⟩ := ho.tab.len
      have hkw := HKW.out.trans hkd
      have B4 := HB3.out.keep hkd
      have m4 := cell_kept m3 hkd
      have d6 := B4.c6
      have dz := B4.fz
      have dl := B4.lt
      have hlm := World.block_lt_of_cell? _ _ m4
      simp only [] at hlm
      have HB4 : Hid (StBox b s (.slice xa s.tab.length xc) wc) := B4
      have HO4 : Hid (OwnTab w4.heap.size wc (.slice va (putTab s.tab os).length vc) (putTab s.tab os)) := ho
      generalize (putTab s.tab os).length = n4 at *
      clear B4 ho
      cases q : (putErr s.tab os == 0) with
      | false =>
        have q' : (putErr s.tab os != 0) = true := by simp [bne, q]
        have HE : Hid (openedAns s c = -2 ∧ openedSt s c = s) := ⟨by rw [HA.out, q]; rfl, by rw [HS2.out, q]; rfl⟩
        go_wp2_with fail
        go_ret
        refine ⟨ret_int HE.out.1.symm, ?_⟩
        rw [HE.out.2]
        exact ⟨_, HB4.out, HOT.out.keep hkw, But.of hkw⟩
      | true =>
        have q' : (putErr s.tab os != 0) = false := by simp [bne, q]
        have HE : Hid (openedAns s c = 0 ∧ openedSt s c = { s with tab := putTab s.tab os }) := ⟨by rw [HA.out, q]; rfl, by rw [HS2.out, q]; rfl⟩
        go_wp2_with fail
        go_ret
        refine ⟨ret_int HE.out.1.symm, ?_⟩
        rw [HE.out.2]
        exact ⟨_, HB4.out.set_tab _ _, ((HO4.out.base (Nat.le_trans hbw HKW.out.size)).but hbb ((But.refl _ _).set 6 _)), (But.of hkw).set 6 _⟩
end Go.Proofs.Ythjcnbimapgdnab
