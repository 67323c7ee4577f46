/-
  The laws' look at examples (layer 9): it returns true.
-/
import Derived.Test.YtcpfhaoecggflaaZFis
import Derived.Test.YtcpfhaoecggflaaZVar
import Derived.Test.YtcpfhaoecggflaaZSam
namespace Go.Proofs.Ytcpfhaoecggflaa
open Go.RowKit

theorem eqChance (n d p q : Int) (w : World) : (binOp .eql 53 (.agg #[.int .i64 n, .int .i64 d]) (.agg #[.int .i64 p, .int .i64 q])).run Try.prog w = .ok (.bool (n == p && d == q)) w := by
  rw [run_eql_struct]
  simp [go_sem]
  by_cases h1 : n = p <;> by_cases h2 : d = q <;> simp [h1, h2]
theorem ey_fish : fishQ 5 0 0 5 = ((1, 126), 0) := by kernel_rfl
def eyRs (A B : Option Addr) : List Rw := [⟨A, 3, [1, 3, 4]⟩, ⟨B, 5, [1, 2, 5, 5, 4]⟩]
theorem ey_var (A B : Option Addr) : varE [1, 2, 3, 4] (eyRs A B) = 0 := by kernel_rfl
theorem ey_pre (A B : Option Addr) : vPre [1, 2, 3, 4] (eyRs A B) 2 = [(1, 0, []), (2, 1, [5, 5])] := by kernel_rfl
theorem ey_only (A B : Option Addr) (L : List (Int × Int × List Int)) (h : VarsQ [1, 2, 3, 4] (eyRs A B) L) : L = [(1, 0, []), (2, 1, [5, 5])] := by
  obtain ⟨h1, h2⟩ := h
  rw [if_neg (by rw [ey_var]; simp), show (eyRs A B).length = 2 from rfl, ey_pre] at h1
  have hl := h1.length_eq
  match L, hl with
  | [x, y], _ =>
    have hx : x ∈ [(1, 0, []), (2, 1, [5, 5])] := h1.mem_iff.1 (by simp)
    have hp := List.pairwise_cons.1 h2
    have hxy := hp.1 y (by simp)
    have hall : (1, 0, []) ∈ [x, y] := h1.mem_iff.2 (by simp)
    have hall2 : ((2 : Int), (1 : Int), [(5 : Int), 5]) ∈ [x, y] := h1.mem_iff.2 (by simp)
    simp at hx hall hall2
    rcases hall with rfl | rfl
    · rcases hall2 with h | rfl
      · cases h
      · rfl
    · rcases hall2 with rfl | h
      · exact absurd (by unfold ctLt; decide) hxy
      · cases h

theorem ints_of_blk {w : World} {g : Nat} {cs : Array Value} {t : TypeId} (zs : List Int) (h : w.heap[g]? = some (.cells cs t (0, 0))) (e : cs = (intsZ zs).toArray) : IntsIn w (some ⟨g, 0, none⟩) zs := fun k z hk => by
  refine ⟨g, 0, rfl, (Array.getElem?_eq_some_iff.1 h).1, ?_⟩
  rw [Nat.zero_add, cell_of_blk h, e]
  unfold intsZ
  simp [hk]

set_option maxRecDepth 100000 in
set_option maxHeartbeats 8000000 in
theorem works_any (w : World) : Calls Try.prog 19 #[] w fun e w' => e = .returned (.bool true) ∧ Below w.heap.size w w' := by
  have HF := Lib.hid (by have := fisher_any 5 0 0 5 w; rw [ey_fish] at this; exact this)
  go_enter Try.func19, Try.ntmps19
  go_wp2_with fail
  refine HF.out.mono ?_; rintro e w1 ⟨rfl, hb1⟩
  have HB1 := Lib.hid hb1
  clear hb1 HF
  obtain ⟨V1, hV1⟩ : ∃ W', W' = w1.alloc (.cells #[.int .i64 1, .int .i64 126] 53) := ⟨_, rfl⟩; obtain ⟨V2, hV2⟩ : ∃ W', W' = V1.alloc (.cells #[.int .i64 1, .int .i64 2, .int .i64 3, .int .i64 4] 3) := ⟨_, rfl⟩; obtain ⟨V3, hV3⟩ : ∃ W', W' = V2.alloc (.cells #[.int .i64 1, .int .i64 3, .int .i64 4] 3) := ⟨_, rfl⟩; obtain ⟨V4, hV4⟩ : ∃ W', W' = V3.alloc (.cells #[.int .i64 1, .int .i64 2, .int .i64 5, .int .i64 5, .int .i64 4] 3) := ⟨_, rfl⟩; obtain ⟨V, hV⟩ : ∃ W', W' = V4.alloc (.cells #[.slice (some ⟨w1.heap.size + 1 + 1, 0, none⟩) 3 3, .slice (some ⟨w1.heap.size + 1 + 1 + 1, 0, none⟩) 5 5] 22) := ⟨_, rfl⟩; have szV1 : V1.heap.size = w1.heap.size + 1 := (by rw [hV1]; simp); have kbV1 : Below w1.heap.size w1 V1 := hV1 ▸ below_alloc _ _; have szV2 : V2.heap.size = w1.heap.size + 1 + 1 := (by rw [hV2]; simp [szV1]); have kbV2 : Below V1.heap.size V1 V2 := hV2 ▸ below_alloc _ _; have szV3 : V3.heap.size = w1.heap.size + 1 + 1 + 1 := (by rw [hV3]; simp [szV2]); have kbV3 : Below V2.heap.size V2 V3 := hV3 ▸ below_alloc _ _; have szV4 : V4.heap.size = w1.heap.size + 1 + 1 + 1 + 1 := (by rw [hV4]; simp [szV3]); have kbV4 : Below V3.heap.size V3 V4 := hV4 ▸ below_alloc _ _; have szV : V.heap.size = w1.heap.size + 1 + 1 + 1 + 1 + 1 := (by rw [hV]; simp [szV4]); have kbV : Below V4.heap.size V4 V := hV ▸ below_alloc _ _; have HV := Lib.hid (below_more (below_more (below_more (below_more kbV1 kbV2) kbV3) kbV4) kbV); have D0 := Lib.hid (blk_keep kbV (blk_keep kbV4 (blk_keep kbV3 (blk_keep kbV2 (show V1.heap[w1.heap.size]? = some (.cells #[.int .i64 1, .int .i64 126] 53 (0, 0)) by rw [hV1]; exact heap_alloc_new _ _))))); have D1 := Lib.hid (blk_keep kbV (blk_keep kbV4 (blk_keep kbV3 (show V2.heap[w1.heap.size + 1]? = some (.cells #[.int .i64 1, .int .i64 2, .int .i64 3, .int .i64 4] 3 (0, 0)) by rw [hV2, ← szV1]; exact heap_alloc_new _ _)))); have D2 := Lib.hid (blk_keep kbV (blk_keep kbV4 (show V3.heap[w1.heap.size + 1 + 1]? = some (.cells #[.int .i64 1, .int .i64 3, .int .i64 4] 3 (0, 0)) by rw [hV3, ← szV2]; exact heap_alloc_new _ _))); have D3 := Lib.hid (blk_keep kbV (show V4.heap[w1.heap.size + 1 + 1 + 1]? = some (.cells #[.int .i64 1, .int .i64 2, .int .i64 5, .int .i64 5, .int .i64 4] 3 (0, 0)) by rw [hV4, ← szV3]; exact heap_alloc_new _ _)); have D4 := Lib.hid (show V.heap[w1.heap.size + 1 + 1 + 1 + 1]? = some (.cells #[.slice (some ⟨w1.heap.size + 1 + 1, 0, none⟩) 3 3, .slice (some ⟨w1.heap.size + 1 + 1 + 1, 0, none⟩) 5 5] 22 (0, 0)) by rw [hV, ← szV4]; exact heap_alloc_new _ _); have SZV := Lib.hid szV; clear szV1 kbV1 szV2 kbV2 szV3 kbV3 szV4 kbV4 szV kbV
  have HVA := Lib.hid (show Calls Try.prog 20 #[.slice (some ⟨w1.heap.size + 1, 0, none⟩) 4 4, .slice (some ⟨w1.heap.size + 1 + 1 + 1 + 1, 0, none⟩) 2 2] V (GotVars V [1, 2, 3, 4] [⟨some ⟨w1.heap.size + 1 + 1, 0, none⟩, 3, [1, 3, 4]⟩, ⟨some ⟨w1.heap.size + 1 + 1 + 1, 0, none⟩, 5, [1, 2, 5, 5, 4]⟩]) from
    variants_any _ _ 4 2 [1, 2, 3, 4] [⟨some ⟨w1.heap.size + 1 + 1, 0, none⟩, 3, [1, 3, 4]⟩, ⟨some ⟨w1.heap.size + 1 + 1 + 1, 0, none⟩, 5, [1, 2, 5, 5, 4]⟩] V (ints_of_blk [1, 2, 3, 4] D1.out rfl) (by unfold maxLen; decide) (fun k r hk => by
      have hl := (Array.getElem?_eq_some_iff.1 D4.out).1
      match k, hk with
      | 0, hk => simp at hk; subst hk; exact ⟨_, 0, rfl, hl, cell_of_blk D4.out 0, ints_of_blk [1, 3, 4] D2.out rfl, (show 3 ≤ maxLen by unfold maxLen; decide)⟩
      | 1, hk => simp at hk; subst hk; exact ⟨_, 0, rfl, hl, cell_of_blk D4.out 1, ints_of_blk [1, 2, 5, 5, 4] D3.out rfl, (show 5 ≤ maxLen by unfold maxLen; decide)⟩
      | k + 2, hk => simp at hk) (show 2 ≤ maxLen by unfold maxLen; decide))
  go_wp2_with fail
  rw [← hV1, ← hV2, ← hV3, ← hV4, ← hV]; clear hV1 hV2 hV3 hV4 hV
  refine HVA.out.mono ?_; rintro e w2 ⟨A, k, c, L, rfl, hk, hq, hat, hb2⟩
  have hL := ey_only _ _ L hq.out
  subst hL
  obtain rfl : k = 2 := hk.out
  obtain ⟨g, B, c5, rfl, hg, y0, y1, y2, hB⟩ := hat.out 1 (2, 1, [5, 5]) rfl
  have HIB := Lib.hid hB
  have HB2 := Lib.hid (below_more HB1.out (below_more HV.out hb2))
  have D0 := Lib.hid (blk_keep hb2 D0.out)
  have e1 := fun wx => eqChance 1 126 1 126 wx
  have y0 : w2.cell? ⟨g, 3, none⟩ = some (.int .i64 2) := y0
  have y1 : w2.cell? ⟨g, 4, none⟩ = some (.int .i64 1) := y1
  have y2 : w2.cell? ⟨g, 5, none⟩ = some (.slice B 2 c5) := y2
  have HSA := Lib.hid (show Calls Try.prog 22 #[.slice B 2 c5, .slice (some ⟨w2.heap.size, 0, none⟩) 2 2] (w2.alloc (.cells #[.int .i64 5, .int .i64 5] 3)) (fun e w' => e = .returned (.bool true) ∧ Below (w2.alloc (.cells #[.int .i64 5, .int .i64 5] 3)).heap.size (w2.alloc (.cells #[.int .i64 5, .int .i64 5] 3)) w') from
    sameI_any B (some ⟨w2.heap.size, 0, none⟩) c5 2 [5, 5] [5, 5] _ (HIB.out.below (below_alloc _ _)) (ints_of_blk [5, 5] (heap_alloc_new _ _) rfl) (by unfold maxLen; decide) (by unfold maxLen; decide))
  rw [show varE [1, 2, 3, 4] [⟨some ⟨w1.heap.size + 1 + 1, 0, none⟩, 3, [1, 3, 4]⟩, ⟨some ⟨w1.heap.size + 1 + 1 + 1, 0, none⟩, 5, [1, 2, 5, 5, 4]⟩] = 0 from ey_var _ _]
  have x0 := cell_of_blk D0.out 0; have x1 := cell_of_blk D0.out 1; have hz_x := (Array.getElem?_eq_some_iff.1 D0.out).1; simp at x0 x1
  clear hk hq hat hb2 hB HVA D1 D2 D3 D4
  go_wp2_with fail
  refine HSA.out.mono ?_; rintro e w3 ⟨rfl, hb3⟩
  have HB3 := Lib.hid (below_more HB2.out (below_more (below_alloc _ _) hb3))
  clear hb3
  go_wp2
  go_ret
  exact ⟨rfl, HB3.out⟩

end Go.Proofs.Ytcpfhaoecggflaa
