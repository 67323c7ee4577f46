/-
  The specification's Sub.
-/
import Derived.Test.YtbfedahonfjpfaaGSu2
namespace Go.Proofs.Ytbfedahonfjpfaa
open Go.RowKit

set_option maxRecDepth 100000 in
set_option maxHeartbeats 4000000 in
theorem rsub_any (L : Lm) (A : Option Addr) (cap : Nat) (ns : List Nd) (node : Int) (w : World) (hl : LmOk w L) (hn : NdsAt w A ns) (hc1 : ns.length ≤ cap) (hc : cap ≤ maxLen) :
    Calls Try.prog 46 #[.agg #[.int .i64 L.per, .slice L.A L.ms.length L.cap], .agg #[.slice A ns.length cap], .int .i64 node] w (GotTextO w (subQ L.li ns node).1 (subQ L.li ns node).2) := by
  obtain ⟨E, hE⟩ : ∃ E, textErr L.li ns = E := ⟨_, rfl⟩
  obtain ⟨R, hR⟩ : ∃ R, R = subQ L.li ns node := ⟨_, rfl⟩
  have HE1 := Lib.hid (show E ≠ 0 → R = ([], E) by rw [hR]; intro h; unfold subQ placeErr; rw [hE, if_pos h, if_pos h])
  have HE2 := Lib.hid (show E = 0 → (node < 0 ∨ (ns.length : Int) ≤ node) → R = ([], 1) by rw [hR]; intro h h2; unfold subQ placeErr; rw [if_neg (show ¬ textErr L.li ns ≠ 0 by simp [hE, h]), if_pos h2, if_pos (by simp)])
  have HE3 := Lib.hid (show E = 0 → ¬ (node < 0 ∨ (ns.length : Int) ≤ node) → R = (belowN ns node.toNat, 0) by rw [hR]; intro h h2; unfold subQ placeErr; rw [if_neg (show ¬ textErr L.li ns ≠ 0 by simp [hE, h]), if_neg h2, if_neg (by simp)])
  have HEE := Lib.hid hE
  have HNS := Lib.hid hn
  have HCM := Lib.hid hc
  obtain ⟨N, hN⟩ : ∃ N, N = ns.length := ⟨_, rfl⟩
  have HN := Lib.hid hN
  have HCK := Lib.hid (fun wx (hb : Below w.heap.size w wx) => rgcheck_is L A cap ns wx (hl.below hb) (hn.below hb) hc1 hc E hE)
  rw [← hR]
  rw [← hN] at HCK hc1 HE2 HE3 ⊢
  unfold maxLen at hc
  obtain ⟨W, hW⟩ : ∃ W, W = ((w.alloc (.cells #[.int .i64 L.per, .slice L.A L.ms.length L.cap] 24)).alloc (.cells #[.slice A N cap] 27)).alloc (.cells #[.slice none 0 0] 27) := ⟨_, rfl⟩
  have HB := Lib.hid (show Below w.heap.size w W from hW ▸ (((Below.refl _ _).alloc (Nat.le_refl _) _).alloc (by simp) _).alloc (by simp; omega) _)
  have HX1 := Lib.hid (show W.heap[w.heap.size + 1]? = some (.cells #[.slice A N cap] 27 (0, 0)) by
    rw [hW, heap_alloc_other _ _ _ (by simp)]; have := heap_alloc_new (w.alloc (.cells #[.int .i64 L.per, .slice L.A L.ms.length L.cap] 24)) (.cells #[.slice A N cap] 27); simpa using this)
  have HX2 := Lib.hid (show W.heap[w.heap.size + 1 + 1]? = some (.cells #[.slice none 0 0] 27 (0, 0)) by
    rw [hW]; have := heap_alloc_new ((w.alloc (.cells #[.int .i64 L.per, .slice L.A L.ms.length L.cap] 24)).alloc (.cells #[.slice A N cap] 27)) (.cells #[.slice none 0 0] 27); simpa using this)
  clear hl hn hE hN hR
  go_enter Try.func46, Try.ntmps46
  go_wp2_with fail
  rw [← hW]
  refine (HCK.out W HB.out).mono ?_; rintro e w1 ⟨rfl, hb⟩
  have HB1 := Lib.hid (below_more HB.out hb)
  have D1 := Lib.hid (blk_keep hb HX1.out)
  have D2 := Lib.hid (blk_keep hb HX2.out)
  have x0 := cell_of_blk D1.out 0
  have q0 := cell_of_blk D2.out 0
  have q1 := free_of_blk D2.out 0
  have hs2 := (Array.getElem?_eq_some_iff.1 D2.out).1
  have hs1 : w.heap.size + 1 < w1.heap.size := by omega
  have hsz : w.heap.size ≤ w1.heap.size := by omega
  simp at x0 q0
  clear hb hW HX1 HX2 HCK HB
  by_cases h0 : E = 0
  case neg =>
    have hbE : (E != 0) = true := by simpa using h0
    have HF := Lib.hid (HE1.out h0)
    clear h0 HE1 HE2 HE3
    go_wp2
    refine bodyPost_ret (v := .tuple #[.agg #[.slice none 0 0], .int .i64 E]) (by simp [results, Try.results46, go_sem, q0]) rfl ?_
    rw [HF.out]
    exact ⟨none, 0, 0, rfl, Lib.hid rfl, Lib.hid (own_none _ _), HB1.out.setCell (by dsimp only; omega) _⟩
  subst h0
  by_cases h1 : node < 0
  · have HF := Lib.hid (HE2.out rfl (.inl h1))
    clear HE1 HE2 HE3
    go_wp2
    refine bodyPost_ret (v := .tuple #[.agg #[.slice none 0 0], .int .i64 1]) (by simp [results, Try.results46, go_sem, q0]) rfl ?_
    rw [HF.out]
    exact ⟨none, 0, 0, rfl, Lib.hid rfl, Lib.hid (own_none _ _), HB1.out.setCell (by dsimp only; omega) _⟩
  have hd1 : decide (node < 0) = false := decide_eq_false h1
  by_cases h2 : (N : Int) ≤ node
  · have HF := Lib.hid (HE2.out rfl (.inr h2))
    clear HE1 HE2 HE3
    go_wp2
    refine bodyPost_ret (v := .tuple #[.agg #[.slice none 0 0], .int .i64 1]) (by simp [results, Try.results46, go_sem, q0]) rfl ?_
    rw [HF.out]
    exact ⟨none, 0, 0, rfl, Lib.hid rfl, Lib.hid (own_none _ _), HB1.out.setCell (by dsimp only; omega) _⟩
  have hd2 : decide ((N : Int) ≤ node) = false := decide_eq_false h2
  obtain ⟨i, rfl⟩ : ∃ i : Nat, node = i := ⟨node.toNat, by omega⟩
  obtain ⟨u, hu⟩ : ∃ u, ns[i]? = some u := ⟨_, List.getElem?_eq_getElem (by have := HN.out; omega)⟩
  obtain ⟨-, hk2, -, -, hk5, -⟩ := text_ok HEE.out
  have HF := Lib.hid (show R = (belowN ns i, 0) by rw [HE3.out rfl (by omega), Int.toNat_natCast])
  obtain ⟨zs, hzs⟩ : ∃ zs, zs = belowN ns i := ⟨_, rfl⟩
  have HBL := Lib.hid (show Calls Try.prog 80 #[.agg #[.slice A N cap], .int .i64 i] w1 (GotText w1 zs) by
    have := rbelow_any A cap i ns u w1 (HNS.out.below HB1.out) (by rw [← HN.out]; exact hc1) HCM.out (by omega) hu hk5
    rw [← HN.out, ← hzs] at this; exact this)
  rw [← hzs] at HF
  clear HE1 HE2 HE3 hu hk2 hk5 hzs
  go_wp2_with fail
  refine HBL.out.mono ?_; rintro e w2 ⟨A2, c2, rfl, hown, hb⟩
  obtain ⟨m, hm⟩ : ∃ m, m = zs.length := ⟨_, rfl⟩
  have HM := Lib.hid hm
  rw [← hm] at hown ⊢
  have HO := Lib.hid (show (w2.setCell ⟨w.heap.size + 1 + 1, 0, none⟩ (.slice A2 m c2)).ownsRow w.heap.size 78 8 (.slice A2 m c2) m (zs.flatMap Nd.cells) from
    own_base (ownsRow_of_block hown (fun g hg => heap_setCell_other _ _ _ _ (by have := (hown.lt g hg).1; dsimp only; omega))) hsz)
  have HBB := Lib.hid (show Below w.heap.size w (w2.setCell ⟨w.heap.size + 1 + 1, 0, none⟩ (.slice A2 m c2)) from (below_more HB1.out hb).setCell (by dsimp only; omega) _)
  have z0 := cell_of_blk (blk_keep hb D2.out) 0
  have z1 := free_of_blk (blk_keep hb D2.out) 0
  have z2 := (Array.getElem?_eq_some_iff.1 (blk_keep hb D2.out)).1
  simp at z0
  clear hown hb hm HBL x0 q0 q1
  go_wp2
  refine bodyPost_ret (v := .tuple #[.agg #[.slice A2 m c2], .int .i64 0]) (by simp [results, Try.results46, go_sem, z0, z2]) rfl ?_
  rw [HF.out]
  exact ⟨A2, m, c2, rfl, Lib.hid HM.out, Lib.hid HO.out, HBB.out⟩

end Go.Proofs.Ytbfedahonfjpfaa
