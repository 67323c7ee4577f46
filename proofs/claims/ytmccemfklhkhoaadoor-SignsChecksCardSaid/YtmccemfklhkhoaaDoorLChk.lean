/-
  Contract of the law of Check and Find: it returns true.
-/
import Derived.Test.YtmccemfklhkhoaaDoorFind
import Derived.Test.YtmccemfklhkhoaaDoorSame
namespace Go.Proofs.YtmccemfklhkhoaaDoor
open Go.RowKit

set_option maxHeartbeats 1600000 in
set_option maxRecDepth 100000 in
theorem law_checks (L : Lm) (c : ByteArray) (w : World) (hE : Env w) (hl : LmOk w L) (hc : c.size ≤ maxLen) :
    Calls Tryd.prog 3 #[L.val, .string c] w fun e w' => e = .returned (.bool true) ∧ Below w.heap.size w w' := by
  obtain ⟨W, hW⟩ : ∃ W, W = (w.alloc (.cells #[.int .i64 L.per, .slice L.A L.ms.length L.cap] 24)) := ⟨_, rfl⟩
  have HB := Lib.hid (show Below w.heap.size w W from hW ▸ below_alloc _ _)
  have C1 := Lib.hid (show W.heap[w.heap.size]? = some (.cells #[.int .i64 L.per, .slice L.A L.ms.length L.cap] 24 (0, 0)) by
    rw [hW]; exact heap_alloc_new _ _)
  have HL := Lib.hid (hl.below HB.out)
  have HE := Lib.hid (hE.below HB.out)
  have HC := Lib.hid hc
  unfold maxLen at hc
  clear hl hE
  obtain ⟨B, hB⟩ : ∃ B, bigB L.signs = B := ⟨_, rfl⟩
  have HBB := Lib.hid hB
  clear hB
  show Calls _ _ #[.agg #[.int .i64 L.per, .slice L.A L.ms.length L.cap], .string c] w _
  go_enter Tryd.func3, Tryd.ntmps3
  have HBG := Lib.hid (fun r (h : bigB L.signs = r) => show Calls Tryd.prog 12 #[.agg #[.int .i64 L.per, .slice L.A L.ms.length L.cap]] W _ from big_is L W HL.out r h)
  have HWK := Lib.hid (fun w1 (hb : Below W.heap.size W w1) => works_any w1 (HE.out.below hb))
  cases B with
  | true =>
    go_wp2_with fail
    rw [← hW]
    refine (HBG.out _ HBB.out).mono ?_; rintro e w1 ⟨rfl, hb1⟩
    have b1 := Lib.hid hb1
    clear hb1
    go_wp2_with fail
    refine (HWK.out _ b1.out).mono ?_; rintro e w2 ⟨rfl, hb2⟩
    go_wp2
    go_ret
    exact ⟨rfl, (HB.out.trans (b1.out.mono HB.out.size)).trans (hb2.mono (by have := HB.out.size; have := b1.out.size; omega))⟩
  | false =>
    by_cases h1000 : c.size ≤ 1000
    case neg =>
      go_wp2_with fail
      rw [← hW]
      refine (HBG.out _ HBB.out).mono ?_; rintro e w1 ⟨rfl, hb1⟩
      have b1 := Lib.hid hb1
      clear hb1
      go_wp2_with fail
      refine (HWK.out _ b1.out).mono ?_; rintro e w2 ⟨rfl, hb2⟩
      go_wp2
      go_ret
      exact ⟨rfl, (HB.out.trans (b1.out.mono HB.out.size)).trans (hb2.mono (by have := HB.out.size; have := b1.out.size; omega))⟩
    have HNB := Lib.hid (not_big HBB.out)
    have HCP := Lib.hid (fun wx (hb : Below W.heap.size W wx) => show Calls Tryd.prog 14 #[.agg #[.int .i64 L.per, .slice L.A L.ms.length L.cap]] wx (GotList wx L.li) from
      copy_any L wx (HL.out.below hb) (by have := HNB.out.1; omega) (fun m hm => by have := (HNB.out.2 m hm).1; omega))
    have HFD := Lib.hid (fun wx (M : Lm) (h : LmOk wx M) (hli : M.li = L.li) => show Calls Tryd.prog 15 #[M.val, .string c] wx (fun e w' => e = .returned (.tuple #[.int .i64 (findR L.li c).1, .int .i64 (findR L.li c).2]) ∧ Below wx.heap.size wx w') by
      rw [← hli]
      exact find_any M c wx h (by have := HNB.out.1; have e : M.signs.length = L.signs.length := congrArg (fun l : Li => l.signs.length) hli; rw [Lm.length_signs, Lm.length_signs] at e; omega) HC.out)
    have HRF := Lib.hid (fun wx (hb : Below W.heap.size W wx) => show Calls Tryd.prog 16 #[.agg #[.int .i64 L.per, .slice L.A L.ms.length L.cap], .string c] wx (fun e w' => e = .returned (.tuple #[.int .i64 (findR L.li c).1, .int .i64 (findR L.li c).2]) ∧ Below wx.heap.size wx w') from
      rfind_any L c wx (HL.out.below hb))
    have HSM := Lib.hid (fun wx (M : Lm) (h : LmOk wx M) (hb : Below W.heap.size W wx) (hli : M.li = L.li) => show Calls Tryd.prog 19 #[M.val, .agg #[.int .i64 L.per, .slice L.A L.ms.length L.cap]] wx (fun e w' => e = .returned (.bool true) ∧ Below wx.heap.size wx w') from
      same_eq L M wx (HL.out.below hb) h hli (fun m hm => by have := (HNB.out.2 m hm).1; omega))
    obtain ⟨E, hEE⟩ : ∃ E, checkErr L.li = E := ⟨_, rfl⟩
    have HEE := Lib.hid hEE
    have HCK := Lib.hid (fun wx (M : Lm) (h : LmOk wx M) (hli : M.li = L.li) => show Calls Tryd.prog 17 #[M.val] wx (fun e w' => e = .returned (.int .i64 E) ∧ Below wx.heap.size wx w') by
      rw [← HEE.out, ← hli]; exact check_any M wx h)
    have HRC := Lib.hid (fun wx (hb : Below W.heap.size W wx) => show Calls Tryd.prog 18 #[.agg #[.int .i64 L.per, .slice L.A L.ms.length L.cap]] wx (fun e w' => e = .returned (.int .i64 E) ∧ Below wx.heap.size wx w') by
      rw [← HEE.out]; exact rcheck_any L wx (HL.out.below hb))
    obtain ⟨⟨fi, fe⟩, hq⟩ : ∃ q, q = findR L.li c := ⟨_, rfl⟩
    rw [← hq] at HFD HRF
    clear hq HNB hEE HEE
    go_wp2_with fail
    rw [← hW]
    refine (HBG.out _ HBB.out).mono ?_; rintro e w1 ⟨rfl, hb1⟩
    have B1 := Lib.hid hb1
    have x0 := cell_of_blk (blk_keep hb1 C1.out) 0
    have x1 := cell_of_blk (blk_keep hb1 C1.out) 1
    simp at x0 x1
    clear hb1
    go_wp2_with fail
    refine (HCP.out _ B1.out).mono ?_; rintro e w2 ⟨⟨pm, mm, Am, cm⟩, rfl, hok2, hli2, hb2⟩
    unfold Lm.val at HFD HSM HCK
    unfold Lm.val
    dsimp only at HFD HSM HCK ⊢
    have B2 := Lib.hid (below_more B1.out hb2)
    have BX := Lib.hid (heap_alloc_new w2 (.cells #[.int .i64 pm, .slice Am mm.length cm] 24))
    have OK2 := Lib.hid (hok2.below (below_alloc w2 (.cells #[.int .i64 pm, .slice Am mm.length cm] 24)))
    have B2' := Lib.hid (below_more B2.out (below_alloc w2 (.cells #[.int .i64 pm, .slice Am mm.length cm] 24)))
    have LI := Lib.hid hli2
    clear hb2 x0 x1 hok2 hli2
    go_wp2_with fail
    refine (HFD.out _ ⟨pm, mm, Am, cm⟩ OK2.out LI.out).mono ?_; rintro e w3 ⟨rfl, hb3⟩
    have B3 := Lib.hid (below_more B2'.out hb3)
    have BX3 := Lib.hid (blk_keep hb3 BX.out)
    have OK3 := Lib.hid (OK2.out.below hb3)
    have x0 := cell_of_blk (blk_keep B3.out C1.out) 0
    have x1 := cell_of_blk (blk_keep B3.out C1.out) 1
    simp at x0 x1
    clear hb3
    go_wp2_with fail
    refine (HRF.out _ B3.out).mono ?_; rintro e w4 ⟨rfl, hb4⟩
    have B4 := Lib.hid (below_more B3.out hb4)
    have BX4 := Lib.hid (blk_keep hb4 BX3.out)
    have OK4 := Lib.hid (OK3.out.below hb4)
    clear hb4 x0 x1
    have x0 := cell_of_blk (blk_keep B4.out C1.out) 0
    have x1 := cell_of_blk (blk_keep B4.out C1.out) 1
    have y0 := cell_of_blk BX4.out 0
    have y1 := cell_of_blk BX4.out 1
    simp at x0 x1 y0 y1
    have hx := (Array.getElem?_eq_some_iff.1 (blk_keep B4.out C1.out)).1
    have hy := (Array.getElem?_eq_some_iff.1 BX4.out).1
    go_wp2_with fail
    refine wp_region_later (by kernel_rfl) (by kernel_rfl) ?_; (repeat (first | go_big_quiet_step ((first
      | ((go_at_call 17; exact Calls.later _ (HCK.out _ ⟨pm, mm, Am, cm⟩ (OK4.out.below (Later.below _)) LI.out)))
      | ((go_at_call 18; exact Calls.later _ (HRC.out _ (below_more B4.out (Later.below _)))))
      | ((go_at_call 19; exact Calls.later _ (HSM.out _ ⟨pm, mm, Am, cm⟩ (OK4.out.below (Later.below _)) (below_more B4.out (Later.below _)) LI.out)))
      | ((go_at_call 13; exact Calls.later _ (HWK.out _ (below_more B4.out (Later.below _))))))) | quiet_step ((first
      | ((go_at_call 17; exact Calls.later _ (HCK.out _ ⟨pm, mm, Am, cm⟩ (OK4.out.below (Later.below _)) LI.out)))
      | ((go_at_call 18; exact Calls.later _ (HRC.out _ (below_more B4.out (Later.below _)))))
      | ((go_at_call 19; exact Calls.later _ (HSM.out _ ⟨pm, mm, Am, cm⟩ (OK4.out.below (Later.below _)) (below_more B4.out (Later.below _)) LI.out)))
      | ((go_at_call 13; exact Calls.later _ (HWK.out _ (below_more B4.out (Later.below _))))))))); refine wpQuiet_nil ?_; rintro _ ⟨s, rfl⟩
    go_wp2
    go_ret
    exact ⟨rfl, HB.out.trans ((below_more B4.out s.below).mono HB.out.size)⟩

end Go.Proofs.YtmccemfklhkhoaaDoor
