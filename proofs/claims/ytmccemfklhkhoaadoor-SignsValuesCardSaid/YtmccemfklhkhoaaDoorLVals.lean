/-
  Contract of the law of Values and Size: it returns true.
-/
import Derived.Test.YtmccemfklhkhoaaDoorRsz
namespace Go.Proofs.YtmccemfklhkhoaaDoor
open Go.RowKit

set_option maxHeartbeats 1600000 in
set_option maxRecDepth 100000 in
theorem law_values (L : Lm) (i p : Int) (w : World) (hE : Env w) (hl : LmOk w L) :
    Calls Tryd.prog 4 #[L.val, .int .i64 i, .int .i64 p] w fun e w' => e = .returned (.bool true) ∧ Below w.heap.size w w' := by
  obtain ⟨W, hW⟩ : ∃ W, W = (w.alloc (.cells #[.int .i64 L.per, .slice L.A L.ms.length L.cap] 24)) := ⟨_, rfl⟩
  have HB := Lib.hid (show Below w.heap.size w W from hW ▸ below_alloc _ _)
  have C1 := Lib.hid (show W.heap[w.heap.size]? = some (.cells #[.int .i64 L.per, .slice L.A L.ms.length L.cap] 24 (0, 0)) by
    rw [hW]; exact heap_alloc_new _ _)
  have HL := Lib.hid (hl.below HB.out)
  have HE := Lib.hid (hE.below HB.out)
  clear hl hE
  obtain ⟨B, hB⟩ : ∃ B, bigB L.signs = B := ⟨_, rfl⟩
  have HBB := Lib.hid hB
  clear hB
  show Calls _ _ #[.agg #[.int .i64 L.per, .slice L.A L.ms.length L.cap], .int .i64 i, .int .i64 p] w _
  go_enter Tryd.func4, Tryd.ntmps4
  have HBG := Lib.hid (fun r (h : bigB L.signs = r) => show Calls Tryd.prog 12 #[.agg #[.int .i64 L.per, .slice L.A L.ms.length L.cap]] W _ from big_is L W HL.out r h)
  have HWK := Lib.hid (fun w1 (hb : Below W.heap.size W w1) => works_any w1 (HE.out.below hb))
  cases B with
  | true =>
    go_wp2_with fail
    rw [← hW]
    refine (HBG.out _ HBB.out).mono ?_; rintro e w1 ⟨rfl, hb1⟩
    have b1 := Lib.hid hb1
    clear hb1
    go_wp2_with fail
    refine (HWK.out _ b1.out).mono ?_; rintro e w2 ⟨rfl, hb2⟩
    go_wp2
    go_ret
    exact ⟨rfl, (HB.out.trans (b1.out.mono HB.out.size)).trans (hb2.mono (by have := HB.out.size; have := b1.out.size; omega))⟩
  | false =>
    have HNB := Lib.hid (not_big HBB.out)
    have HCP := Lib.hid (fun wx (hb : Below W.heap.size W wx) => show Calls Tryd.prog 14 #[.agg #[.int .i64 L.per, .slice L.A L.ms.length L.cap]] wx (GotList wx L.li) from
      copy_any L wx (HL.out.below hb) (by have := HNB.out.1; omega) (fun m hm => by have := (HNB.out.2 m hm).1; omega))
    have HVM := Lib.hid (fun (M : Lm) (hli : M.li = L.li) => show ∀ m ∈ M.ms, m.s.vals.length ≤ 1000000 from fun m hm => by
      have e : M.signs = L.signs := congrArg (fun l : Li => l.signs) hli
      have h1 : m.s ∈ M.signs := List.mem_map.2 ⟨m, hm, rfl⟩
      rw [e] at h1
      obtain ⟨m', hm', e'⟩ := List.mem_map.1 h1
      have := (HNB.out.2 m' hm').1
      rw [e'] at this
      omega)
    have HV := Lib.hid (fun wx (M : Lm) (h : LmOk wx M) (hli : M.li = L.li) => show Calls Tryd.prog 20 #[M.val, .int .i64 i, .int .i64 p] wx (GotValsE wx (valsR L.li i p)) by
      rw [← hli]; exact values_any M i p wx h (HVM.out M hli))
    have HRV := Lib.hid (fun wx (hb : Below W.heap.size W wx) => show Calls Tryd.prog 21 #[.agg #[.int .i64 L.per, .slice L.A L.ms.length L.cap], .int .i64 i, .int .i64 p] wx (GotValsE wx (valsR L.li i p)) from
      rvalues_any L i p wx (HL.out.below hb) (HVM.out L rfl))
    have HZ := Lib.hid (fun wx (M : Lm) (h : LmOk wx M) (hli : M.li = L.li) => show Calls Tryd.prog 22 #[M.val, .int .i64 i, .int .i64 p] wx (GotSize wx (sizeR L.li i p)) by
      rw [← hli]; exact size_any M i p wx h)
    have HRZ := Lib.hid (fun wx (hb : Below W.heap.size W wx) => show Calls Tryd.prog 23 #[.agg #[.int .i64 L.per, .slice L.A L.ms.length L.cap], .int .i64 i, .int .i64 p] wx (GotSize wx (sizeR L.li i p)) from
      rsize_any L i p wx (HL.out.below hb))
    have HN := Lib.hid (show (valsR L.li i p).1.length ≤ 1000000 by
      unfold valsR
      split
      · simp
      · unfold valsOf
        split
        · rename_i s hs
          have h1 : s ∈ L.signs := List.mem_of_getElem? hs
          obtain ⟨m', hm', e'⟩ := List.mem_map.1 h1
          have := (HNB.out.2 m' hm').1
          have h2 := used_len s.vals p
          rw [e'] at this
          exact Nat.le_trans h2 (by omega)
        · simp [usedV])
    obtain ⟨⟨vs, ve⟩, hq⟩ : ∃ q, q = valsR L.li i p := ⟨_, rfl⟩
    obtain ⟨⟨sw, sh, se⟩, hq2⟩ : ∃ q, q = sizeR L.li i p := ⟨_, rfl⟩
    rw [← hq] at HV HRV HN
    rw [← hq2] at HZ HRZ
    clear hq hq2 HNB HVM
    go_wp2_with fail
    rw [← hW]
    refine (HBG.out _ HBB.out).mono ?_; rintro e w1 ⟨rfl, hb1⟩
    have B1 := Lib.hid hb1
    have x0 := cell_of_blk (blk_keep hb1 C1.out) 0
    have x1 := cell_of_blk (blk_keep hb1 C1.out) 1
    simp at x0 x1
    clear hb1
    go_wp2_with fail
    refine (HCP.out _ B1.out).mono ?_; rintro e w2 ⟨M, rfl, hok2, hli2, hb2⟩
    have B2 := Lib.hid (below_more B1.out hb2)
    clear hb2 x0 x1
    go_wp2_with fail
    refine (HV.out _ M hok2 hli2).mono ?_; rintro e w3 ⟨A3, c3, rfl, hv3, -, -, hb3⟩
    have B3 := Lib.hid (below_more B2.out hb3)
    have V3 := Lib.hid hv3
    have x0 := cell_of_blk (blk_keep B3.out C1.out) 0
    have x1 := cell_of_blk (blk_keep B3.out C1.out) 1
    simp at x0 x1
    clear hb3 hv3 hok2 hli2
    go_wp2_with fail
    refine (HRV.out _ B3.out).mono ?_; rintro e w4 ⟨A4, c4, rfl, hv4, -, -, hb4⟩
    have B4 := Lib.hid (below_more B3.out hb4)
    have V34 := Lib.hid (V3.out.below hb4)
    have V4 := Lib.hid hv4
    clear hb4 hv4 x0 x1
    have x0 := cell_of_blk (blk_keep B4.out C1.out) 0
    have x1 := cell_of_blk (blk_keep B4.out C1.out) 1
    simp at x0 x1
    go_wp2_with fail
    refine (HCP.out _ B4.out).mono ?_; rintro e w5 ⟨M5, rfl, hok5, hli5, hb5⟩
    have B5 := Lib.hid (below_more B4.out hb5)
    have V35 := Lib.hid (V34.out.below hb5)
    have V45 := Lib.hid (V4.out.below hb5)
    clear hb5 x0 x1
    go_wp2_with fail
    refine (HZ.out _ M5 hok5 hli5).mono ?_; rintro e w6 ⟨rfl, hb6⟩
    have B6 := Lib.hid (below_more B5.out hb6)
    have V36 := Lib.hid (V35.out.below hb6)
    have V46 := Lib.hid (V45.out.below hb6)
    have x0 := cell_of_blk (blk_keep B6.out C1.out) 0
    have x1 := cell_of_blk (blk_keep B6.out C1.out) 1
    simp at x0 x1
    clear hb6 hok5 hli5
    go_wp2_with fail
    refine (HRZ.out _ B6.out).mono ?_; rintro e w7 ⟨rfl, hb7⟩
    have B7 := Lib.hid (below_more B6.out hb7)
    have V37 := Lib.hid (V36.out.below hb7)
    have V47 := Lib.hid (V46.out.below hb7)
    clear hb7 x0 x1
    go_wp2_with fail
    refine (sameVals_eq A3 A4 c3 c4 vs w7 V37.out V47.out HN.out).mono ?_; rintro e w8 ⟨rfl, hb8⟩
    have B8 := Lib.hid (below_more B7.out hb8)
    clear hb8
    go_wp2_with fail
    refine (HWK.out _ B8.out).mono ?_; rintro e w9 ⟨rfl, hb9⟩
    go_wp2
    go_ret
    exact ⟨rfl, HB.out.trans ((below_more B8.out hb9).mono HB.out.size)⟩

end Go.Proofs.YtmccemfklhkhoaaDoor
