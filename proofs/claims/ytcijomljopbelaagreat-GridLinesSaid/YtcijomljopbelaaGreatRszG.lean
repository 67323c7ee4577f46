/-
  Size of a sign, by the specification (layer 1), for layer 4.
-/
import Derived.Test.YtcijomljopbelaaGreatGaC
import Derived.Test.YtcijomljopbelaaGreatGaA
namespace Go.Proofs.YtcijomljopbelaaGreat
open Go.RowKit

set_option maxHeartbeats 3200000 in
theorem rsize_any (l : Lm) (i t : Int) (w : World) (hl : LmOk w l) :
    Calls Tryz.prog 95 #[l.val, .int .i64 i, .int .i64 t] w (GotSize w (sizeR l.li i t)) := by
  have H0 := Lib.hid (show LmOk (w.alloc (.cells #[.int .i64 l.per, .slice l.A l.ms.length l.cap] 24)) l from hl.below (below_alloc _ _))
  have C0 := Lib.hid (heap_alloc_new w (.cells #[.int .i64 l.per, .slice l.A l.ms.length l.cap] 24))
  have HCK := Lib.hid (fun (w : World) (hl : LmOk w l) (r : Int) (h : checkErr l.li = r) => show Calls Tryz.prog 73 #[.agg #[.int .i64 l.per, .slice l.A l.ms.length l.cap]] w (fun e w' => e = .returned (.int .i64 r) ∧ Below w.heap.size w w') by rw [← h]; exact rcheck_any l w hl)
  have hll : l.li.signs.length = l.ms.length := l.length_signs
  have HG := Lib.hid (show ∀ i t, sizeR l.li i t = if checkErr l.li ≠ 0 then (0, 0, checkErr l.li) else if hasB l.ms.length i = false ∨ t < 0 ∨ 3 < t then (0, 0, 1) else if t = 1 ∨ t = 3 then ((whOf l.li i).2, (whOf l.li i).1, 0) else ((whOf l.li i).1, (whOf l.li i).2, 0) from fun i t => by
    unfold sizeR; rw [hll])
  have hlen := hl.len
  have hcap := hl.cap
  have hcap' := hcap
  unfold maxLen at hcap'
  clear hll
  show Calls _ _ #[.agg #[.int .i64 l.per, .slice l.A l.ms.length l.cap], .int .i64 i, .int .i64 t] w _
  obtain ⟨E, hE⟩ : ∃ E, E = checkErr l.li := ⟨_, rfl⟩
  have HE := Lib.hid hE.symm
  by_cases h0 : E = 0
  case neg =>
    have hb : (E != 0) = true := by simpa using h0
    have HF := Lib.hid (show sizeR l.li i t = (0, 0, E) by rw [HG.out, HE.out, if_pos h0])
    clear hE h0
    go_enter Tryz.func95, Tryz.ntmps95
    go_wp2_with fail
    refine (HCK.out _ H0.out E HE.out).mono ?_; rintro e w1 ⟨rfl, hb1⟩
    go_wp2
    refine bodyPost_ret (v := .tuple #[.int .i64 0, .int .i64 0, .int .i64 E]) (by simp [results, Tryz.results95, go_sem]) rfl ?_
    rw [HF.out]
    exact ⟨rfl, below_of hb1⟩
  subst h0
  clear hE
  have HG1 := Lib.hid (show ∀ i t, sizeR l.li i t = if hasB l.ms.length i = false ∨ t < 0 ∨ 3 < t then (0, 0, 1) else if t = 1 ∨ t = 3 then ((whOf l.li i).2, (whOf l.li i).1, 0) else ((whOf l.li i).1, (whOf l.li i).2, 0) from fun i t => by rw [HG.out, HE.out]; rfl)
  have bad : ∀ (hi : i < 0 ∨ (0 ≤ i ∧ (l.ms.length : Int) ≤ i) ∨ (0 ≤ i ∧ i < l.ms.length ∧ t < 0) ∨ (0 ≤ i ∧ i < l.ms.length ∧ 0 ≤ t ∧ 3 < t)), Calls Tryz.prog 95 #[.agg #[.int .i64 l.per, .slice l.A l.ms.length l.cap], .int .i64 i, .int .i64 t] w (GotSize w (sizeR l.li i t)) := by
    intro hi
    have HF := Lib.hid (show sizeR l.li i t = (0, 0, 1) by
      rw [HG1.out, if_pos]
      rcases hi with h | ⟨h, h2⟩ | ⟨h, h2, h3⟩ | ⟨h, h2, h3, h4⟩
      · exact .inl (by simp [hasB]; omega)
      · exact .inl (by simp [hasB]; omega)
      · exact .inr (.inl h3)
      · exact .inr (.inr h4))
    rcases hi with h | ⟨h, h2⟩ | ⟨h, h2, h3⟩ | ⟨h, h2, h3, h4⟩
    · go_enter Tryz.func95, Tryz.ntmps95
      go_wp2_with fail
      refine (HCK.out _ H0.out 0 HE.out).mono ?_; rintro e w1 ⟨rfl, hb1⟩
      have x0 := cell_of_blk (blk_keep hb1 C0.out) 0
      have x1 := cell_of_blk (blk_keep hb1 C0.out) 1
      simp at x0 x1
      go_wp2
      refine bodyPost_ret (v := .tuple #[.int .i64 0, .int .i64 0, .int .i64 1]) (by simp [results, Tryz.results95, go_sem]) rfl ?_
      rw [HF.out]
      exact ⟨rfl, below_of hb1⟩
    · go_enter Tryz.func95, Tryz.ntmps95
      go_wp2_with fail
      refine (HCK.out _ H0.out 0 HE.out).mono ?_; rintro e w1 ⟨rfl, hb1⟩
      have x0 := cell_of_blk (blk_keep hb1 C0.out) 0
      have x1 := cell_of_blk (blk_keep hb1 C0.out) 1
      simp at x0 x1
      go_wp2
      refine bodyPost_ret (v := .tuple #[.int .i64 0, .int .i64 0, .int .i64 1]) (by simp [results, Tryz.results95, go_sem]) rfl ?_
      rw [HF.out]
      exact ⟨rfl, below_of hb1⟩
    · go_enter Tryz.func95, Tryz.ntmps95
      go_wp2_with fail
      refine (HCK.out _ H0.out 0 HE.out).mono ?_; rintro e w1 ⟨rfl, hb1⟩
      have x0 := cell_of_blk (blk_keep hb1 C0.out) 0
      have x1 := cell_of_blk (blk_keep hb1 C0.out) 1
      simp at x0 x1
      go_wp2
      refine bodyPost_ret (v := .tuple #[.int .i64 0, .int .i64 0, .int .i64 1]) (by simp [results, Tryz.results95, go_sem]) rfl ?_
      rw [HF.out]
      exact ⟨rfl, below_of hb1⟩
    · go_enter Tryz.func95, Tryz.ntmps95
      go_wp2_with fail
      refine (HCK.out _ H0.out 0 HE.out).mono ?_; rintro e w1 ⟨rfl, hb1⟩
      have x0 := cell_of_blk (blk_keep hb1 C0.out) 0
      have x1 := cell_of_blk (blk_keep hb1 C0.out) 1
      simp at x0 x1
      go_wp2
      refine bodyPost_ret (v := .tuple #[.int .i64 0, .int .i64 0, .int .i64 1]) (by simp [results, Tryz.results95, go_sem]) rfl ?_
      rw [HF.out]
      exact ⟨rfl, below_of hb1⟩
  by_cases hi0 : i < 0
  · exact bad (.inl hi0)
  by_cases hi1 : (l.ms.length : Int) ≤ i
  · exact bad (.inr (.inl ⟨by omega, hi1⟩))
  by_cases ht0 : t < 0
  · exact bad (.inr (.inr (.inl ⟨by omega, by omega, ht0⟩)))
  by_cases ht3 : 3 < t
  · exact bad (.inr (.inr (.inr ⟨by omega, by omega, by omega, ht3⟩)))
  clear bad
  have ht : t = 0 ∨ t = 1 ∨ t = 2 ∨ t = 3 := by omega
  have hB : hasB l.ms.length i = true := by simp [hasB]; omega
  have HBB := Lib.hid hB
  obtain ⟨k, u, rfl, hk, hget⟩ := has_at (l := l) (i := i) (by rw [Lm.length_signs]; exact hB)
  have HW := Lib.hid (show whOf l.li k = (u.s.wide, u.s.high) by
    unfold whOf
    rw [show l.li.signs[(k : Int).toNat]? = some u.s by rw [Int.toNat_natCast]; exact Lm.getElem_signs hget])
  obtain ⟨b, o, hA, hb0, hva, hok⟩ := hl.signs k u hget
  have HVA := Lib.hid hva
  clear hget hva hok hl hB hi0 hi1 ht0 ht3 HG
  obtain ⟨per, ms, A, cap⟩ := l
  dsimp only at hA hk hlen hcap H0 C0 HE HBB HG1 HW HCK hcap' ⊢
  subst hA
  generalize hnn : ms.length = n at *
  clear hnn
  have HG2 := Lib.hid (show ∀ t, ¬ (t < 0 ∨ 3 < t) → sizeR (Lm.mk per ms (some ⟨b, o, none⟩) cap).li k t = if t = 1 ∨ t = 3 then (u.s.high, u.s.wide, 0) else (u.s.wide, u.s.high, 0) from fun t ht => by
    rw [HG1.out, if_neg (by rw [HBB.out]; simpa using ht), HW.out])
  clear HG1
  rcases ht with rfl | rfl | rfl | rfl
  · have HF := Lib.hid (show sizeR (Lm.mk per ms (some ⟨b, o, none⟩) cap).li k 0 = (u.s.wide, u.s.high, 0) by rw [HG2.out _ (by decide)]; simp)
    go_enter Tryz.func95, Tryz.ntmps95
    go_wp2_with fail
    refine (HCK.out _ H0.out 0 HE.out).mono ?_; rintro e w2 ⟨rfl, hb2⟩
    have z0 := cell_of_blk (blk_keep hb2 C0.out) 0
    have z1 := cell_of_blk (blk_keep hb2 C0.out) 1
    simp at z0 z1
    have b2 := Lib.hid (below_of hb2)
    obtain ⟨y0, y1, y2, y3, y4⟩ := HVA.out.below b2.out hb0
    have hb0' : b < w2.heap.size := by have := b2.out.size; omega
    have hw0' : w.heap.size < w2.heap.size := by have := hb2.size; simp at this; omega
    clear hb2
    go_wp2_with fail
    refine wp_region_later (by kernel_rfl) (by kernel_rfl) ?_; (repeat (first | go_big_quiet_step (fail) | quiet_step (fail))); refine wpQuiet_nil ?_; rintro _ ⟨s, rfl⟩
    go_wp2
    refine bodyPost_ret (v := .tuple #[.int .i64 u.s.wide, .int .i64 u.s.high, .int .i64 0]) (by simp [results, Tryz.results95, go_sem]) rfl ?_
    rw [HF.out]
    exact ⟨rfl, below_more b2.out s.below⟩
  · have HF := Lib.hid (show sizeR (Lm.mk per ms (some ⟨b, o, none⟩) cap).li k 1 = (u.s.high, u.s.wide, 0) by rw [HG2.out _ (by decide)]; simp)
    go_enter Tryz.func95, Tryz.ntmps95
    go_wp2_with fail
    refine (HCK.out _ H0.out 0 HE.out).mono ?_; rintro e w2 ⟨rfl, hb2⟩
    have z0 := cell_of_blk (blk_keep hb2 C0.out) 0
    have z1 := cell_of_blk (blk_keep hb2 C0.out) 1
    simp at z0 z1
    have b2 := Lib.hid (below_of hb2)
    obtain ⟨y0, y1, y2, y3, y4⟩ := HVA.out.below b2.out hb0
    have hb0' : b < w2.heap.size := by have := b2.out.size; omega
    have hw0' : w.heap.size < w2.heap.size := by have := hb2.size; simp at this; omega
    clear hb2
    go_wp2_with fail
    refine wp_region_later (by kernel_rfl) (by kernel_rfl) ?_; (repeat (first | go_big_quiet_step (fail) | quiet_step (fail))); refine wpQuiet_nil ?_; rintro _ ⟨s, rfl⟩
    go_wp2
    refine bodyPost_ret (v := .tuple #[.int .i64 u.s.high, .int .i64 u.s.wide, .int .i64 0]) (by simp [results, Tryz.results95, go_sem]) rfl ?_
    rw [HF.out]
    exact ⟨rfl, below_more b2.out s.below⟩
  · have HF := Lib.hid (show sizeR (Lm.mk per ms (some ⟨b, o, none⟩) cap).li k 2 = (u.s.wide, u.s.high, 0) by rw [HG2.out _ (by decide)]; simp)
    go_enter Tryz.func95, Tryz.ntmps95
    go_wp2_with fail
    refine (HCK.out _ H0.out 0 HE.out).mono ?_; rintro e w2 ⟨rfl, hb2⟩
    have z0 := cell_of_blk (blk_keep hb2 C0.out) 0
    have z1 := cell_of_blk (blk_keep hb2 C0.out) 1
    simp at z0 z1
    have b2 := Lib.hid (below_of hb2)
    obtain ⟨y0, y1, y2, y3, y4⟩ := HVA.out.below b2.out hb0
    have hb0' : b < w2.heap.size := by have := b2.out.size; omega
    have hw0' : w.heap.size < w2.heap.size := by have := hb2.size; simp at this; omega
    clear hb2
    go_wp2_with fail
    refine wp_region_later (by kernel_rfl) (by kernel_rfl) ?_; (repeat (first | go_big_quiet_step (fail) | quiet_step (fail))); refine wpQuiet_nil ?_; rintro _ ⟨s, rfl⟩
    go_wp2
    refine bodyPost_ret (v := .tuple #[.int .i64 u.s.wide, .int .i64 u.s.high, .int .i64 0]) (by simp [results, Tryz.results95, go_sem]) rfl ?_
    rw [HF.out]
    exact ⟨rfl, below_more b2.out s.below⟩
  · have HF := Lib.hid (show sizeR (Lm.mk per ms (some ⟨b, o, none⟩) cap).li k 3 = (u.s.high, u.s.wide, 0) by rw [HG2.out _ (by decide)]; simp)
    go_enter Tryz.func95, Tryz.ntmps95
    go_wp2_with fail
    refine (HCK.out _ H0.out 0 HE.out).mono ?_; rintro e w2 ⟨rfl, hb2⟩
    have z0 := cell_of_blk (blk_keep hb2 C0.out) 0
    have z1 := cell_of_blk (blk_keep hb2 C0.out) 1
    simp at z0 z1
    have b2 := Lib.hid (below_of hb2)
    obtain ⟨y0, y1, y2, y3, y4⟩ := HVA.out.below b2.out hb0
    have hb0' : b < w2.heap.size := by have := b2.out.size; omega
    have hw0' : w.heap.size < w2.heap.size := by have := hb2.size; simp at this; omega
    clear hb2
    go_wp2_with fail
    refine wp_region_later (by kernel_rfl) (by kernel_rfl) ?_; (repeat (first | go_big_quiet_step (fail) | quiet_step (fail))); refine wpQuiet_nil ?_; rintro _ ⟨s, rfl⟩
    go_wp2
    refine bodyPost_ret (v := .tuple #[.int .i64 u.s.high, .int .i64 u.s.wide, .int .i64 0]) (by simp [results, Tryz.results95, go_sem]) rfl ?_
    rw [HF.out]
    exact ⟨rfl, below_more b2.out s.below⟩

end Go.Proofs.YtcijomljopbelaaGreat
