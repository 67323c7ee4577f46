/-
  The specification's test of two tallies (layer 9).
-/
import Derived.Test.YtcpfhaoecggflaaZTal
namespace Go.Proofs.Ytcpfhaoecggflaa
open Go.RowKit

theorem good_is (a b c d : Int) : tallyB a b c d = decide (0 ≤ a ∧ 0 ≤ b ∧ 0 ≤ c ∧ 0 ≤ d ∧ a + b + c + d ≤ 60) := by
  cases h : tallyB a b c d with
  | true => have := tally_in h; simp [this]
  | false => have := tally_out h; simp only [this, decide_false]

theorem sum_nonneg : ∀ l : List Int, (∀ x ∈ l, 0 ≤ x) → 0 ≤ l.sum
  | [], _ => by simp
  | y :: l, h => by
    have := sum_nonneg l (fun z hz => h z (by simp [hz]))
    have := h y (by simp)
    simp; omega
theorem mem_le_sum : ∀ (l : List Int) (x : Int), x ∈ l → (∀ y ∈ l, 0 ≤ y) → x ≤ l.sum
  | y :: l, x, hm, h => by
    have hy := h y (by simp)
    have h0 := sum_nonneg l (fun z hz => h z (by simp [hz]))
    simp
    rcases List.mem_cons.1 hm with rfl | hm
    · omega
    · have := mem_le_sum l x hm (fun z hz => h z (by simp [hz])); omega

set_option maxHeartbeats 3200000 in
theorem good_any (a b c d : Int) (w : World) : Calls Try.prog 67 #[.agg #[.int .i64 a, .int .i64 b], .agg #[.int .i64 c, .int .i64 d]] w fun e w' => e = .returned (.bool (tallyB a b c d)) ∧ Below w.heap.size w w' := by
  have HG := Lib.hid (good_is a b c d)
  obtain ⟨V, hV⟩ : ∃ V, V = tallyB a b c d := ⟨_, rfl⟩
  rw [← hV] at HG ⊢
  clear hV
  obtain ⟨W1, hW1⟩ : ∃ W', W' = w.alloc (.cells #[.int .i64 a, .int .i64 b] 51) := ⟨_, rfl⟩; obtain ⟨W, hW⟩ : ∃ W', W' = W1.alloc (.cells #[.int .i64 c, .int .i64 d] 51) := ⟨_, rfl⟩; have szW1 : W1.heap.size = w.heap.size + 1 := (by rw [hW1]; simp); have kbW1 : Below w.heap.size w W1 := hW1 ▸ below_alloc _ _; have szW : W.heap.size = w.heap.size + 1 + 1 := (by rw [hW]; simp [szW1]); have kbW : Below W1.heap.size W1 W := hW ▸ below_alloc _ _; have HB := Lib.hid (below_more kbW1 kbW); have D0 := Lib.hid (blk_keep kbW (show W1.heap[w.heap.size]? = some (.cells #[.int .i64 a, .int .i64 b] 51 (0, 0)) by rw [hW1]; exact heap_alloc_new _ _)); have D1 := Lib.hid (show W.heap[w.heap.size + 1]? = some (.cells #[.int .i64 c, .int .i64 d] 51 (0, 0)) by rw [hW, ← szW1]; exact heap_alloc_new _ _); have SZW := Lib.hid szW; clear szW1 kbW1 szW kbW
  go_enter Try.func67, Try.ntmps67
  go_wp2_with fail
  rw [← hW1, ← hW]; clear hW1 hW
  obtain ⟨U, hU⟩ : ∃ U, U = W.alloc (.cells #[.int .i64 a, .int .i64 b, .int .i64 c, .int .i64 d] 3) := ⟨_, rfl⟩
  have HBU := Lib.hid (below_more HB.out (hU ▸ below_alloc _ _ : Below W.heap.size W U))
  have DU := Lib.hid (show U.heap[W.heap.size]? = some (.cells #[.int .i64 a, .int .i64 b, .int .i64 c, .int .i64 d] 3 (0, 0)) from hU ▸ heap_alloc_new _ _)
  rw [← hU]
  clear hU
  have HAT := Lib.hid (show ∀ j x, [a, b, c, d][j]? = some x → U.cell? ⟨W.heap.size, j, none⟩ = some (.int .i64 x) from fun j x h => by
    have hj := (List.getElem?_eq_some_iff.1 h).1
    rw [cell_of_blk DU.out]
    match j, hj, h with
    | 0, _, h => simp at h; subst h; rfl
    | 1, _, h => simp at h; subst h; rfl
    | 2, _, h => simp at h; subst h; rfl
    | 3, _, h => simp at h; subst h; rfl)
  have hlt0 := (Array.getElem?_eq_some_iff.1 DU.out).1
  rw [SZW.out] at HAT hlt0
  obtain ⟨zs, hzs⟩ : ∃ zs, zs = [a, b, c, d] := ⟨_, rfl⟩
  have HL := Lib.hid (show zs.length = 4 by rw [hzs]; rfl)
  have HG := Lib.hid (show V = decide ((∀ x ∈ zs, 0 ≤ x) ∧ zs.sum ≤ 60) by rw [HG.out, hzs]; congr 1; simp; omega)
  rw [← hzs] at HAT
  clear hzs DU D0 D1
  go_loop [5, 18] (fun r i => ∃ (j : Nat) (q : Int), j ≤ 4 ∧ i = .int .i64 j ∧ r = .int .i64 q ∧ 0 ≤ q ∧ q ≤ 60 * (j : Int) ∧ Hid (q = (zs.take j).sum ∧ ∀ x ∈ zs.take j, 0 ≤ x ∧ x ≤ 60)) (fun _ i => 4 - (intOf i).toNat)
  case atStart => exact ⟨0, 0, Nat.zero_le _, rfl, rfl, by omega, by omega, Lib.hid ⟨by simp, by simp⟩⟩
  case round =>
    obtain ⟨j, q, hj, rfl, rfl, hq0, hq1, hf⟩ := hrel
    by_cases hlt : j < 4
    · have hk : j < zs.length := by rw [HL.out]; exact hlt
      have hc := HAT.out j _ (List.getElem?_eq_getElem hk)
      have hd := List.take_succ_eq_append_getElem hk
      have hm : zs[j] ∈ zs := List.getElem_mem hk
      obtain ⟨x, hx⟩ : ∃ x, x = zs[j] := ⟨_, rfl⟩
      rw [← hx] at hc hd hm
      have HM := Lib.hid hm
      have HD := Lib.hid hd
      clear hx hd hm hk
      by_cases h1 : x < 0
      · go_wp2
        go_ret
        refine ⟨of_bool ?_, HBU.out⟩
        rw [HG.out, eq_comm, decide_eq_false_iff_not]
        rintro ⟨h2, _⟩
        have := h2 x HM.out
        omega
      · by_cases h2 : 60 < x
        · go_wp2
          go_ret
          refine ⟨of_bool ?_, HBU.out⟩
          rw [HG.out, eq_comm, decide_eq_false_iff_not]
          rintro ⟨h3, h4⟩
          have := mem_le_sum zs x HM.out h3
          omega
        · have hs := Lib.hid (show q + x = (zs.take (j + 1)).sum ∧ ∀ y ∈ zs.take (j + 1), 0 ≤ y ∧ y ≤ 60 by
            obtain ⟨e, h⟩ := hf.out
            rw [HD.out]
            refine ⟨by simp [e], fun y hy => ?_⟩
            rcases List.mem_append.1 hy with hy | hy
            · exact h y hy
            · simp at hy; omega)
          clear hf
          go_wp2
          go_round
          case rel => exact ⟨j + 1, q + x, by omega, by go_num, rfl, by omega, by omega, hs⟩
          case measure => simp [intOf]; omega
    · obtain rfl : j = 4 := by omega
      have hr := Lib.hid (show V = decide (q ≤ 60) by
        obtain ⟨e, h⟩ := hf.out
        have ht : zs.take 4 = zs := List.take_of_length_le (by rw [HL.out]; exact Nat.le_refl _)
        rw [ht] at e h
        rw [HG.out, e]
        congr 1
        exact propext ⟨fun hh => hh.2, fun hh => ⟨fun x hx => (h x hx).1, hh⟩⟩)
      clear hf
      go_wp2
      go_ret
      exact ⟨of_bool (by rw [hr.out]), HBU.out⟩

end Go.Proofs.Ytcpfhaoecggflaa
