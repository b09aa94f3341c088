/- The reference's FindOf. -/
import Derived.Test.YteabfjpajgakiaaSesF0
set_option linter.unusedSimpArgs false
set_option linter.unusedVariables false
namespace Go.Proofs.Yteabfjpajgakiaa
open Go.RowKit

set_option maxHeartbeats 1000000 in
theorem find_of_err (L : List Ses) (v : Value) (c : Int) (w : World) (hT : TabAt w v L) (he : (tabErr L == 0) = false) :
    Calls Try.prog 15 #[v, .int .i64 c] w fun e w' => e = .returned (.tuple #[sesV zeroSes (.slice none 0 0), .bool false, .int .i64 (tabErr L)]) ∧ Keeps w w' := by
  have he' : (tabErr L != 0) = true := by simp [bne, he]
  have hT0 := hT.keep ((Keeps.refl w).alloc (.cells #[.int .i64 0, .int .i64 0, .int .i64 0, .slice none 0 0] 34))
  have HT : Hid (TabAt _ v L) := hT0
  clear hT hT0
  go_enter Try.func15, Try.ntmps15
  go_wp2_with fail
  refine (table_error L v _ HT.out).mono ?_
  rintro e w1 ⟨rfl, hb⟩
  have hk1 : Keeps w w1 := ((Keeps.refl _).alloc _).trans hb
  obtain ⟨hc, hf⟩ := hb.cells
  have hz := hb.size
  simp only [World.size_alloc] at hc hf hz
  have hz1 : w.heap.size < w1.heap.size := by omega
  go_wp2_with fail
  refine bodyPost_ret (v := .tuple #[sesV zeroSes (.slice none 0 0), .bool false, .int .i64 (tabErr L)]) ?_ rfl ?_
  · simp [results, Try.results15, go_sem, hc, zeroSes]
  · refine ⟨rfl, ?_⟩
    repeat refine Keeps.set ?_ (by simp <;> omega) _
    exact hk1

set_option maxHeartbeats 2000000 in
theorem find_of_ok (L : List Ses) (v : Value) (c : Int) (w : World) (hT : TabAt w v L) (he : (tabErr L == 0) = true) :
    Calls Try.prog 15 #[v, .int .i64 c] w fun e w' => ∃ kv, KeptAt w' kv ((findSes L c).getD zeroSes).kept ∧ e = .returned (.tuple #[sesV ((findSes L c).getD zeroSes) kv, .bool (findSes L c).isSome, .int .i64 0]) ∧ Keeps w w' := by
  have he' : (tabErr L != 0) = false := by simp [bne, he]
  have he0 : tabErr L = 0 := by simpa using he
  have hR := tab_right he0
  obtain ⟨h3, hall, _⟩ := hR
  have HALL : Hid (∀ s ∈ L, sesErr s = 0) := hall
  clear hall
  have hT0 := hT.keep ((Keeps.refl w).alloc (.cells #[.int .i64 0, .int .i64 0, .int .i64 0, .slice none 0 0] 34))
  have HT : Hid (TabAt (w.alloc (.cells #[.int .i64 0, .int .i64 0, .int .i64 0, .slice none 0 0] 34)) v L) := hT0
  clear hT hT0
  go_enter Try.func15, Try.ntmps15
  go_wp2_with fail
  refine (table_error L _ _ HT.out).mono ?_
  rintro e w1 ⟨rfl, hb1⟩
  have HB1 : Hid (Keeps (w.alloc (.cells #[.int .i64 0, .int .i64 0, .int .i64 0, .slice none 0 0] 34)) w1) := hb1
  have hz : w.heap.size < w1.heap.size := by have := hb1.size; simp at this; omega
  clear hb1
  go_wp2_with fail
  refine (find_ix L _ c _ (HT.out.keep HB1.out)).mono ?_
  rintro e w' ⟨r, rfl, rfl, hr⟩
  rcases hr with ⟨rfl, hnone⟩ | ⟨k, hlt, rfl, hsome⟩
  · have HN : Hid (findSes L c = none) := hnone
    clear hnone
    have hk2 : Keeps w w1 := ((Keeps.refl _).alloc _).trans HB1.out
    obtain ⟨hc, hf⟩ := HB1.out.cells
    simp only [World.size_alloc] at hc hf
    go_wp2_with fail
    refine bodyPost_ret (v := .tuple #[sesV zeroSes (.slice none 0 0), .bool false, .int .i64 0]) ?_ rfl ?_
    · simp [results, Try.results15, go_sem, hc, zeroSes]
    · rw [HN.out]
      refine ⟨.slice none 0 0, kept_nil _, rfl, ?_⟩
      repeat refine Keeps.set ?_ (by simp <;> omega) _
      exact hk2
  · obtain ⟨b, off, cap', hv, hcell⟩ := (HT.out.keep HB1.out).at hlt
    subst hv
    obtain ⟨c0, c1, c2, ka, kc, c3, hkv⟩ := hcell k hlt
    clear hcell
    have HKV : Hid (KeptAt w1 (.slice ka (L[k]).kept.length kc) (L[k]).kept) := hkv
    clear hkv
    have hn3 : (L[k]).kept.length ≤ 3 := kept_le (HALL.out _ (List.getElem_mem hlt))
    have HN : Hid (findSes L c = some (L[k])) := hsome
    clear hsome
    generalize L[k] = s at *
    go_wp2_with fail
    refine (own_c s _ _ HKV.out hn3).mono ?_
    rintro e w2 ⟨kv', ho, rfl, hb2⟩
    obtain ⟨va, vc, rfl⟩ : ∃ va vc, kv' = .slice va s.kept.length vc := by obtain ⟨x, y, h, _⟩ := (RowAt.of_owns ho).len; exact ⟨x, y, h⟩
    have hkZ : Keeps (w.alloc (.cells #[.int .i64 0, .int .i64 0, .int .i64 0, .slice none 0 0] 34)) w2 := HB1.out.trans hb2
    have hk2 : Keeps w w2 := ((Keeps.refl _).alloc _).trans hkZ
    obtain ⟨hc, hf⟩ := hkZ.cells
    simp only [World.size_alloc] at hc hf ho
    have hz2 : w.heap.size < w2.heap.size := by have := hkZ.size; simp at this; omega
    clear hb2 hkZ
    go_wp2_with fail
    refine bodyPost_ret (v := .tuple #[sesV s (.slice va s.kept.length vc), .bool true, .int .i64 0]) ?_ rfl ?_
    · simp [results, Try.results15, go_sem, hc]
    · rw [HN.out]
      refine ⟨.slice va s.kept.length vc, ?_, rfl, ?_⟩
      · refine RowAt.of_owns (base := w1.heap.size) (e := 61) ?_
        repeat refine ownsRow_setCell_below ?_ (by simp <;> omega) _
        exact ho
      · repeat refine Keeps.set ?_ (by simp <;> omega) _
        exact hk2
end Go.Proofs.Yteabfjpajgakiaa
