/- The laws on sessions: SessFresh, SessPuts. -/
import Derived.Test.YteabfjpajgakiaaSesM
set_option linter.unusedSimpArgs false
set_option linter.unusedVariables false
namespace Go.Proofs.Yteabfjpajgakiaa
open Go.RowKit

theorem sameTab_self (L : List Ses) : sameTab L L = true := sameTab_iff.2 rfl
theorem sameSes_self (s : Ses) : sameSes s s = true := sameSes_iff.2 rfl

set_option maxHeartbeats 4000000 in
theorem fresh_law (L : List Ses) (v : Value) (c : Int) (w : World) (hT : TabAt w v L) : Calls Try.prog 7 #[v, .int .i64 c] w fun e w' => e = .returned (.bool true) ∧ Keeps w w' := by
  have H1 : Hid (∀ w, TabAt w v L → Calls Try.prog 25 #[v, .int .i64 c] w fun e w' => ∃ v', OwnTab w.heap.size w' v' (frTab L c) ∧ e = .returned (.tuple #[v', .int .i64 (freshErr L c)]) ∧ Keeps w w') := sess_fresh L v c
  have H2 : Hid (∀ w, TabAt w v L → Calls Try.prog 26 #[v, .int .i64 c] w fun e w' => ∃ v', OwnTab w.heap.size w' v' (frTab L c) ∧ e = .returned (.tuple #[v', .int .i64 (freshErr L c)]) ∧ Keeps w w') := fresh_of L v c
  generalize freshErr L c = f at H1 H2
  generalize frTab L c = M at H1 H2
  have HT : Hid (TabAt w v L) := hT
  clear hT
  go_enter Try.func7, Try.ntmps7
  go_wp2_with fail
  refine (H1.out _ HT.out).mono ?_
  rintro e w1 ⟨x1, ho, rfl, hb⟩
  have O1 : Hid (TabAt w1 x1 M) := ho.tab
  have T1 : Hid (TabAt w1 v L) := HT.out.keep hb
  have hk1 : Keeps w w1 := hb
  clear ho hb HT
  go_wp2_with fail
  refine (H2.out _ T1.out).mono ?_
  rintro e w2 ⟨x2, ho, rfl, hb⟩
  have O2 : Hid (TabAt w2 x1 M) := O1.out.keep hb
  have P2 : Hid (TabAt w2 x2 M) := ho.tab
  have hk2 : Keeps w w2 := hk1.trans hb
  clear ho hb T1 O1 hk1 H1 H2
  go_wp2_with fail
  refine (sess_begun _).mono ?_
  rintro e w3 ⟨rfl, hb⟩
  have hk3 : Keeps w w3 := hk2.trans hb
  have P := same_tables M M x1 x2 w3 (O2.out.keep hb) (P2.out.keep hb)
  rw [sameTab_self] at P
  clear hb hk2 O2 P2
  go_wp2_with fail
  refine P.mono ?_
  rintro e w4 ⟨rfl, hb⟩
  clear P
  go_wp2_with fail
  go_ret
  exact ⟨rfl, hk3.trans hb⟩

set_option maxHeartbeats 4000000 in
theorem puts_law (L : List Ses) (v : Value) (s : Ses) (kv : Value) (c : Int) (w : World) (hT : TabAt w v L) (hK : KeptAt w kv s.kept) : Calls Try.prog 6 #[v, sesV s kv, .int .i64 c] w fun e w' => e = .returned (.bool true) ∧ Keeps w w' := by
  have H1 : Hid (∀ w, TabAt w v L → KeptAt w kv s.kept → Calls Try.prog 20 #[v, sesV s kv] w fun e w' => ∃ v', OwnTab w.heap.size w' v' (putTab L s) ∧ e = .returned (.tuple #[v', .int .i64 (putErr L s)]) ∧ Keeps w w') := sess_put L v s kv
  have H2 : Hid (∀ w, TabAt w v L → KeptAt w kv s.kept → Calls Try.prog 22 #[v, sesV s kv] w fun e w' => ∃ v', OwnTab w.heap.size w' v' (putTab L s) ∧ e = .returned (.tuple #[v', .int .i64 (putErr L s)]) ∧ Keeps w w') := put_of L v s kv
  have H3 : Hid (∀ w, TabAt w v L → Calls Try.prog 21 #[v, .int .i64 c] w fun e w' => ∃ v', OwnTab w.heap.size w' v' (dropTab L c) ∧ e = .returned (.tuple #[v', .int .i64 (dropErr L c)]) ∧ Keeps w w') := sess_drop L v c
  have H4 : Hid (∀ w, TabAt w v L → Calls Try.prog 23 #[v, .int .i64 c] w fun e w' => ∃ v', OwnTab w.heap.size w' v' (dropTab L c) ∧ e = .returned (.tuple #[v', .int .i64 (dropErr L c)]) ∧ Keeps w w') := drop_of L v c
  generalize putErr L s = f at H1 H2
  generalize putTab L s = M at H1 H2
  generalize dropErr L c = g at H3 H4
  generalize dropTab L c = N at H3 H4
  obtain ⟨ka, kc, rfl, _⟩ := hK.len
  have hkB : Keeps w (w.alloc (.cells #[.int .i64 s.client, .int .i64 s.acked, .int .i64 s.seen, .slice ka s.kept.length kc] 34)) := (Keeps.refl _).alloc _
  have HT : Hid (TabAt (w.alloc (.cells #[.int .i64 s.client, .int .i64 s.acked, .int .i64 s.seen, .slice ka s.kept.length kc] 34)) v L) := hT.keep hkB
  have HK : Hid (KeptAt (w.alloc (.cells #[.int .i64 s.client, .int .i64 s.acked, .int .i64 s.seen, .slice ka s.kept.length kc] 34)) (.slice ka s.kept.length kc) s.kept) := hK.keep hkB
  clear hT hK
  go_enter Try.func6, Try.ntmps6
  go_wp2_with fail
  refine (H1.out _ HT.out HK.out).mono ?_
  rintro e w1 ⟨x1, ho, rfl, hb⟩
  have O1 : Hid (TabAt w1 x1 M) := ho.tab
  have T1 : Hid (TabAt w1 v L) := HT.out.keep hb
  have K1 : Hid (KeptAt w1 (.slice ka s.kept.length kc) s.kept) := HK.out.keep hb
  have hk1 : Keeps w w1 := hkB.trans hb
  have b0 : w1.cell? ⟨w.heap.size, 0, none⟩ = some (.int .i64 s.client) := cell_keep (by simp) hb
  have b1 : w1.cell? ⟨w.heap.size, 1, none⟩ = some (.int .i64 s.acked) := cell_keep (by simp) hb
  have b2 : w1.cell? ⟨w.heap.size, 2, none⟩ = some (.int .i64 s.seen) := cell_keep (by simp) hb
  have b3 : w1.cell? ⟨w.heap.size, 3, none⟩ = some (.slice ka s.kept.length kc) := cell_keep (by simp) hb
  clear ho hb HT HK hkB
  go_wp2_with fail
  refine (H3.out _ T1.out).mono ?_
  rintro e w2 ⟨y1, ho, rfl, hb⟩
  have D2 : Hid (TabAt w2 y1 N) := ho.tab
  have O2 : Hid (TabAt w2 x1 M) := O1.out.keep hb
  have T2 : Hid (TabAt w2 v L) := T1.out.keep hb
  have K2 : Hid (KeptAt w2 (.slice ka s.kept.length kc) s.kept) := K1.out.keep hb
  have hk2 : Keeps w w2 := hk1.trans hb
  replace b0 := cell_keep b0 hb
  replace b1 := cell_keep b1 hb
  replace b2 := cell_keep b2 hb
  replace b3 := cell_keep b3 hb
  clear ho hb T1 K1 hk1 O1
  go_wp2_with fail
  refine (H2.out _ T2.out K2.out).mono ?_
  rintro e w3 ⟨x2, ho, rfl, hb⟩
  have P3 : Hid (TabAt w3 x2 M) := ho.tab
  have D3 : Hid (TabAt w3 y1 N) := D2.out.keep hb
  have O3 : Hid (TabAt w3 x1 M) := O2.out.keep hb
  have T3 : Hid (TabAt w3 v L) := T2.out.keep hb
  have hk3 : Keeps w w3 := hk2.trans hb
  clear ho hb T2 K2 hk2 O2 b0 b1 b2 b3 D2
  go_wp2_with fail
  refine (H4.out _ T3.out).mono ?_
  rintro e w4 ⟨y2, ho, rfl, hb⟩
  have E4 : Hid (TabAt w4 y2 N) := ho.tab
  have D4 : Hid (TabAt w4 y1 N) := D3.out.keep hb
  have O4 : Hid (TabAt w4 x1 M) := O3.out.keep hb
  have P4 : Hid (TabAt w4 x2 M) := P3.out.keep hb
  have hk4 : Keeps w w4 := hk3.trans hb
  clear ho hb T3 hk3 O3 P3 D3 H1 H2 H3 H4
  go_wp2_with fail
  refine (sess_begun _).mono ?_
  rintro e w5 ⟨rfl, hb⟩
  have hk5 : Keeps w w5 := hk4.trans hb
  have P := same_tables M M x1 x2 w5 (O4.out.keep hb) (P4.out.keep hb)
  rw [sameTab_self] at P
  have D5 : Hid (TabAt w5 y1 N) := D4.out.keep hb
  have E5 : Hid (TabAt w5 y2 N) := E4.out.keep hb
  clear hb hk4 O4 P4 D4 E4
  go_wp2_with fail
  refine P.mono ?_
  rintro e w6 ⟨rfl, hb⟩
  clear P
  have hk6 : Keeps w w6 := hk5.trans hb
  have P := same_tables N N y1 y2 w6 (D5.out.keep hb) (E5.out.keep hb)
  rw [sameTab_self] at P
  clear hb hk5 D5 E5
  go_wp2_with fail
  refine P.mono ?_
  rintro e w7 ⟨rfl, hb⟩
  clear P
  go_wp2_with fail
  go_ret
  exact ⟨rfl, hk6.trans hb⟩
end Go.Proofs.Yteabfjpajgakiaa
