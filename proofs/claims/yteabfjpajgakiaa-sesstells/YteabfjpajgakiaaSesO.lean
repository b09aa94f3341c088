/- The laws on sessions: SessTells. -/
import Derived.Test.YteabfjpajgakiaaSesN
set_option linter.unusedSimpArgs false
set_option linter.unusedVariables false
namespace Go.Proofs.Yteabfjpajgakiaa
open Go.RowKit

theorem find_c (L : List Ses) (v : Value) (c : Int) (w : World) (hT : TabAt w v L) :
    Calls Try.prog 14 #[v, .int .i64 c] w fun e w' => ∃ kv, KeptAt w' kv (fndSes L c).kept ∧ e = .returned (.tuple #[sesV (fndSes L c) kv, .bool (fndIs L c), .int .i64 (tabErr L)]) ∧ Keeps w w' := by
  unfold fndSes fndIs
  cases he : (tabErr L == 0) with
  | false => exact (find_err L v c w hT he).mono fun e w' ⟨h, hk⟩ => ⟨_, kept_nil w', h, hk⟩
  | true =>
    have he0 : tabErr L = 0 := by simpa using he
    rw [he0]
    exact find_ok L v c w hT he

theorem find_of_c (L : List Ses) (v : Value) (c : Int) (w : World) (hT : TabAt w v L) :
    Calls Try.prog 15 #[v, .int .i64 c] w fun e w' => ∃ kv, KeptAt w' kv (fndSes L c).kept ∧ e = .returned (.tuple #[sesV (fndSes L c) kv, .bool (fndIs L c), .int .i64 (tabErr L)]) ∧ Keeps w w' := by
  unfold fndSes fndIs
  cases he : (tabErr L == 0) with
  | false => exact (find_of_err L v c w hT he).mono fun e w' ⟨h, hk⟩ => ⟨_, kept_nil w', h, hk⟩
  | true =>
    have he0 : tabErr L = 0 := by simpa using he
    rw [he0]
    exact find_of_ok L v c w hT he

set_option maxHeartbeats 4000000 in
theorem tells_law (L : List Ses) (v : Value) (c : Int) (w : World) (hT : TabAt w v L) : Calls Try.prog 5 #[v, .int .i64 c] w fun e w' => e = .returned (.bool true) ∧ Keeps w w' := by
  have H1 : Hid (∀ w, TabAt w v L → _) := find_c L v c
  have H2 : Hid (∀ w, TabAt w v L → _) := find_of_c L v c
  have H3 : Hid (∀ w, TabAt w v L → _) := sess_check L v
  have H4 : Hid (∀ w, TabAt w v L → _) := table_error L v
  generalize fndSes L c = S at H1 H2
  generalize fndIs L c = b at H1 H2
  generalize tabErr L = f at H1 H2 H3 H4
  have HT : Hid (TabAt w v L) := hT
  clear hT
  go_enter Try.func5, Try.ntmps5
  go_wp2_with fail
  refine (H1.out _ HT.out).mono ?_
  rintro e w1 ⟨kv, hkv, rfl, hb⟩
  obtain ⟨ka, kc, rfl, _⟩ := hkv.len
  have K1 : Hid (KeptAt w1 (.slice ka S.kept.length kc) S.kept) := hkv
  have T1 : Hid (TabAt w1 v L) := HT.out.keep hb
  have hk1 : Keeps w w1 := hb
  clear hb hkv HT
  go_wp2_with fail
  refine (H2.out _ (T1.out.keep ((Keeps.refl _).alloc _))).mono ?_
  rintro e w2 ⟨kv, hkv, rfl, hb⟩
  obtain ⟨la, lc, rfl, _⟩ := hkv.len
  have hk2 : Keeps w w2 := (hk1.alloc _).trans hb
  have b12 : Keeps w1 w2 := ((Keeps.refl _).alloc _).trans hb
  have x0 : w2.cell? ⟨w1.heap.size, 0, none⟩ = some (.int .i64 S.client) := cell_keep (by simp) hb
  have x1 : w2.cell? ⟨w1.heap.size, 1, none⟩ = some (.int .i64 S.acked) := cell_keep (by simp) hb
  have x2 : w2.cell? ⟨w1.heap.size, 2, none⟩ = some (.int .i64 S.seen) := cell_keep (by simp) hb
  have x3 : w2.cell? ⟨w1.heap.size, 3, none⟩ = some (.slice ka S.kept.length kc) := cell_keep (by simp) hb
  have K2 : Hid (KeptAt w2 (.slice ka S.kept.length kc) S.kept) := K1.out.keep b12
  have M2 : Hid (KeptAt w2 (.slice la S.kept.length lc) S.kept) := hkv
  have T2 : Hid (TabAt w2 v L) := T1.out.keep b12
  clear hb hkv T1 K1 hk1 b12 H1 H2
  go_wp2_with fail
  refine (sess_begun _).mono ?_
  rintro e w3 ⟨rfl, hb⟩
  have b23 : Keeps w2 w3 := ((Keeps.refl _).alloc _).trans hb
  have y0 : w3.cell? ⟨w2.heap.size, 0, none⟩ = some (.int .i64 S.client) := cell_keep (by simp) hb
  have y1 : w3.cell? ⟨w2.heap.size, 1, none⟩ = some (.int .i64 S.acked) := cell_keep (by simp) hb
  have y2 : w3.cell? ⟨w2.heap.size, 2, none⟩ = some (.int .i64 S.seen) := cell_keep (by simp) hb
  have y3 : w3.cell? ⟨w2.heap.size, 3, none⟩ = some (.slice la S.kept.length lc) := cell_keep (by simp) hb
  replace x0 := cell_keep x0 b23
  replace x1 := cell_keep x1 b23
  replace x2 := cell_keep x2 b23
  replace x3 := cell_keep x3 b23
  have K3 : Hid (KeptAt w3 (.slice ka S.kept.length kc) S.kept) := K2.out.keep b23
  have M3 : Hid (KeptAt w3 (.slice la S.kept.length lc) S.kept) := M2.out.keep b23
  have T3 : Hid (TabAt w3 v L) := T2.out.keep b23
  have hk3 : Keeps w w3 := hk2.trans b23
  clear hb b23 K2 M2 T2 hk2
  go_wp2_with fail
  refine (H3.out _ T3.out).mono ?_
  rintro e w4 ⟨rfl, hb⟩
  replace x0 := cell_keep x0 hb
  replace x1 := cell_keep x1 hb
  replace x2 := cell_keep x2 hb
  replace x3 := cell_keep x3 hb
  replace y0 := cell_keep y0 hb
  replace y1 := cell_keep y1 hb
  replace y2 := cell_keep y2 hb
  replace y3 := cell_keep y3 hb
  have K4 : Hid (KeptAt w4 (.slice ka S.kept.length kc) S.kept) := K3.out.keep hb
  have M4 : Hid (KeptAt w4 (.slice la S.kept.length lc) S.kept) := M3.out.keep hb
  have T4 : Hid (TabAt w4 v L) := T3.out.keep hb
  have hk4 : Keeps w w4 := hk3.trans hb
  clear hb K3 M3 T3 hk3 H3
  go_wp2_with fail
  refine (H4.out _ T4.out).mono ?_
  rintro e w5 ⟨rfl, hb⟩
  replace x0 := cell_keep x0 hb
  replace x1 := cell_keep x1 hb
  replace x2 := cell_keep x2 hb
  replace x3 := cell_keep x3 hb
  replace y0 := cell_keep y0 hb
  replace y1 := cell_keep y1 hb
  replace y2 := cell_keep y2 hb
  replace y3 := cell_keep y3 hb
  have P := same_session S S _ _ w5 (K4.out.keep hb) (M4.out.keep hb)
  rw [sameSes_self] at P
  have hk5 : Keeps w w5 := hk4.trans hb
  clear hb K4 M4 T4 hk4 H4
  go_wp2_with fail
  refine P.mono ?_
  rintro e w6 ⟨rfl, hb⟩
  clear P
  go_wp2_with fail
  go_ret
  exact ⟨rfl, hk5.trans hb⟩
end Go.Proofs.Yteabfjpajgakiaa
