/-
  What the laws of layer 4 make of a paper: list and text.
-/
import Derived.Test.YtcijomljopbelaaGreatGLaw
import Derived.Test.YtcijomljopbelaaGreatWk4
namespace Go.Proofs.YtcijomljopbelaaGreat
open Go.RowKit

set_option maxRecDepth 100000 in
set_option maxHeartbeats 1600000 in
theorem list4O_any (L : Lm) (A : Option Addr) (n cap : Nat) (w : World) (hl : LmOk w L) (hsm : L.ms.length ≤ 1000000) (hvm : ∀ m ∈ L.ms, m.s.vals.length ≤ 1000000) :
    Calls Tryz.prog 16 #[.agg #[.int .i64 L.per, .slice L.A L.ms.length L.cap, .slice A n cap]] w (GotListO w L.li) := by
  obtain ⟨W, hW⟩ : ∃ W, W = (w.alloc (.cells #[.int .i64 L.per, .slice L.A L.ms.length L.cap, .slice A n cap] 29)).alloc (.cells #[.int .i64 0, .slice none 0 0] 24) := ⟨_, rfl⟩
  have HB := Lib.hid (show Below w.heap.size w W from hW ▸ two_under _ _ _)
  have HS := Lib.hid (show W.heap.size = w.heap.size + 1 + 1 by rw [hW]; simp)
  have C1 := Lib.hid (show W.heap[w.heap.size + 1]? = some (.cells #[.int .i64 0, .slice none 0 0] 24 (0, 0)) by
    rw [hW]; have := heap_alloc_new (w.alloc (.cells #[.int .i64 L.per, .slice L.A L.ms.length L.cap, .slice A n cap] 29)) (.cells #[.int .i64 0, .slice none 0 0] 24); simpa using this)
  have HCP := Lib.hid (show Calls Tryz.prog 33 #[.agg #[.int .i64 L.per, .slice L.A L.ms.length L.cap]] W (GotListO W L.li) from copyO_any L W (hl.below HB.out) hsm hvm)
  clear hl hsm hvm
  go_enter Tryz.func16, Tryz.ntmps16
  go_wp2_with fail
  rw [← hW]
  refine HCP.out.mono ?_; rintro e w1 ⟨⟨pm, mm, Am, cm⟩, rfl, hown, hli, hb1, hlow⟩
  dsimp only at hown hlow
  have k1 := blk_keep hb1 C1.out
  have q0 := cell_of_blk k1 0
  have q1 := cell_of_blk k1 1
  have f0 := free_of_blk k1 0
  have f1 := free_of_blk k1 1
  simp at q0 q1
  have hlt := (Array.getElem?_eq_some_iff.1 k1).1
  have HO := Lib.hid (show OwnSigns ((w1.setCell ⟨w.heap.size + 1, 0, none⟩ (.int .i64 pm)).setCell ⟨w.heap.size + 1, 1, none⟩ (.slice Am mm.length cm)) W.heap.size Am cm mm from
    (hown.setLow hlow (by dsimp only; have := HS.out; omega) _).setLow hlow (by dsimp only; have := HS.out; omega) _)
  have HBB := Lib.hid (show Below w.heap.size w ((w1.setCell ⟨w.heap.size + 1, 0, none⟩ (.int .i64 pm)).setCell ⟨w.heap.size + 1, 1, none⟩ (.slice Am mm.length cm)) from
    (((below_more HB.out hb1).setCell (by dsimp only; omega) _).setCell (by dsimp only; omega) _))
  have HLI := Lib.hid hli
  have HLOW := Lib.hid (show ∀ m ∈ mm, ∀ b o, m.A = some ⟨b, o, none⟩ → w.heap.size ≤ b from fun m hm b o e => by have := hlow m hm b o e; have := HS.out; omega)
  clear hown hlow hb1 k1 hW hli
  unfold Lm.val
  dsimp only
  go_wp2
  refine bodyPost_ret (v := .agg #[.int .i64 pm, .slice Am mm.length cm]) (by simp [results, Tryz.results16, go_sem, q0, q1]) rfl ⟨⟨pm, mm, Am, cm⟩, rfl, HO.out.base (by have := HS.out; omega), HLI.out, HBB.out, HLOW.out⟩
theorem list4_any (L : Lm) (A : Option Addr) (n cap : Nat) (w : World) (hl : LmOk w L) (hsm : L.ms.length ≤ 1000000) (hvm : ∀ m ∈ L.ms, m.s.vals.length ≤ 1000000) :
    Calls Tryz.prog 16 #[.agg #[.int .i64 L.per, .slice L.A L.ms.length L.cap, .slice A n cap]] w (GotList w L.li) :=
  (list4O_any L A n cap w hl hsm hvm).mono fun _ _ h => h.got

set_option maxRecDepth 100000 in
set_option maxHeartbeats 1600000 in
theorem text4_any (L : Lm) (A : Option Addr) (cap : Nat) (ns : List Nd) (w : World) (hn : NdsAt w A ns) (hc1 : ns.length ≤ cap) (hc : cap ≤ maxLen) (hsm : ns.length ≤ 1000000) :
    Calls Tryz.prog 17 #[.agg #[.int .i64 L.per, .slice L.A L.ms.length L.cap, .slice A ns.length cap]] w (GotText w ns) := by
  obtain ⟨N, hN⟩ : ∃ N, N = ns.length := ⟨_, rfl⟩
  have HN := Lib.hid hN
  rw [← hN]
  obtain ⟨W, hW⟩ : ∃ W, W = (w.alloc (.cells #[.int .i64 L.per, .slice L.A L.ms.length L.cap, .slice A N cap] 29)).alloc (.cells #[.slice none 0 0] 27) := ⟨_, rfl⟩
  have HB := Lib.hid (show Below w.heap.size w W from hW ▸ two_under _ _ _)
  have HS := Lib.hid (show W.heap.size = w.heap.size + 1 + 1 by rw [hW]; simp)
  have C1 := Lib.hid (show W.heap[w.heap.size + 1]? = some (.cells #[.slice none 0 0] 27 (0, 0)) by
    rw [hW]; have := heap_alloc_new (w.alloc (.cells #[.int .i64 L.per, .slice L.A L.ms.length L.cap, .slice A N cap] 29)) (.cells #[.slice none 0 0] 27); simpa using this)
  have HCP := Lib.hid (show Calls Tryz.prog 56 #[.agg #[.slice A N cap]] W (GotText W ns) by
    have := rcopyT_any A cap ns W (hn.below HB.out) hc1 hc hsm; rw [← hN] at this; exact this)
  clear hn hsm hc1 hc hN
  go_enter Tryz.func17, Tryz.ntmps17
  go_wp2_with fail
  rw [← hW]
  refine HCP.out.mono ?_; rintro e w1 ⟨A1, c1, rfl, hown, hb1⟩
  rw [← HN.out] at hown ⊢
  have k1 := blk_keep hb1 C1.out
  have q0 := cell_of_blk k1 0
  have f0 := free_of_blk k1 0
  simp at q0
  have hlt := (Array.getElem?_eq_some_iff.1 k1).1
  have HO := Lib.hid (show (w1.setCell ⟨w.heap.size + 1, 0, none⟩ (.slice A1 N c1)).ownsRow w.heap.size 87 8 (.slice A1 N c1) N (ns.flatMap Nd.cells) from
    own_base (ownsRow_of_block hown (fun g hg => heap_setCell_other _ _ _ _ (by have := (hown.lt g hg).1; have := HS.out; dsimp only; omega))) (by have := HS.out; omega))
  have HBB := Lib.hid (show Below w.heap.size w (w1.setCell ⟨w.heap.size + 1, 0, none⟩ (.slice A1 N c1)) from
    ((below_more HB.out hb1).setCell (by dsimp only; omega) _))
  clear hown hb1 k1 hW
  go_wp2
  refine bodyPost_ret (v := .agg #[.slice A1 N c1]) (by simp [results, Tryz.results17, go_sem, q0]) rfl ⟨A1, c1, by rw [HN.out], by rw [← HN.out]; exact HO.out, HBB.out⟩

end Go.Proofs.YtcijomljopbelaaGreat
