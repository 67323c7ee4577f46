/-
  The shape of a row or a column (shape), by the program, if it makes the shapes of its kids. And what builds on it.
-/
import Derived.Test.YtmiokllpdmmfhaaGreatLaJ
import Derived.Test.YtmiokllpdmmfhaaGreatTail
import Derived.Test.YtmiokllpdmmfhaaGreatLcI
import Derived.Test.YtmiokllpdmmfhaaGreatLcK
namespace Go.Proofs.YtmiokllpdmmfhaaGreat
open Go.RowKit
set_option maxRecDepth 100000 in
set_option maxHeartbeats 8000000 in
theorem shapeRow_any (L : Lm) (cw mw : Bool) (a1 a2 b1 b2 pw qw : Nat) (sp : Int) (ks : List Shp) (hS : ShapesOk L cw mw a1 a2 b1 b2 pw qw ks) : ShapeOk L cw mw a1 a2 b1 b2 pw qw (.row sp ks) := by
  intro u bl w A c hof hl hn hc1 hc
  obtain ⟨hk, hd, hsp, hks⟩ := hof
  have HS := Lib.hid (fun wx (hb : Below w.heap.size w wx) => hS bl wx A c hks (hl.below hb) (hn.below hb) hc1 hc)
  obtain ⟨uk, ud, us, ut, um, ust, umn, umx⟩ := u
  dsimp only at hk hd hsp
  subst hk
  have HD := Lib.hid (fun wx => spaceOf_any ud wx hd)
  rw [← hsp] at HD
  unfold Nd.val
  dsimp only
  obtain ⟨m, hm⟩ : ∃ m, m = bl.length := ⟨_, rfl⟩
  rw [← hm] at HS ⊢
  clear hS hl hn hc1 hc hks hd hsp hm
  obtain ⟨W1, hW1⟩ : ∃ W1, W1 = w.alloc (.cells #[.int .i64 L.per, .slice L.A L.ms.length L.cap, .bool cw, .bool mw, .func (.func a1) #[] #[], .func (.func a2) #[] #[], .func (.func 172) #[] #[.pointer (some ⟨pw, 0, none⟩)], .func (.func b1) #[] #[], .func (.func b2) #[] #[], .func (.func 172) #[] #[.pointer (some ⟨qw, 0, none⟩)]] 104) := ⟨_, rfl⟩
  obtain ⟨W, hW⟩ : ∃ W, W = W1.alloc (.cells #[.int .i64 2, .int .i64 ud, .int .i64 us, .int .i64 ut, .bool um, .int .i64 ust, .int .i64 umn, .int .i64 umx] 87) := ⟨_, rfl⟩
  have s1 : W1.heap.size = w.heap.size + 1 := by rw [hW1]; simp
  have hb1 : Below w.heap.size w W1 := hW1 ▸ below_alloc _ _
  have hb2 : Below W1.heap.size W1 W := hW ▸ below_alloc _ _
  have HB := Lib.hid (below_more hb1 hb2)
  have D0 := Lib.hid (blk_keep hb2 (show W1.heap[w.heap.size]? = some (.cells #[.int .i64 L.per, .slice L.A L.ms.length L.cap, .bool cw, .bool mw, .func (.func a1) #[] #[], .func (.func a2) #[] #[], .func (.func 172) #[] #[.pointer (some ⟨pw, 0, none⟩)], .func (.func b1) #[] #[], .func (.func b2) #[] #[], .func (.func 172) #[] #[.pointer (some ⟨qw, 0, none⟩)]] 104 (0, 0)) by rw [hW1]; exact heap_alloc_new _ _))
  have D1 := Lib.hid (show W.heap[w.heap.size + 1]? = some (.cells #[.int .i64 2, .int .i64 ud, .int .i64 us, .int .i64 ut, .bool um, .int .i64 ust, .int .i64 umn, .int .i64 umx] 87 (0, 0)) by rw [hW, ← s1]; exact heap_alloc_new _ _)
  have q0 := cell_of_blk D0.out 0
  have q1 := cell_of_blk D0.out 1
  have q2 := cell_of_blk D0.out 2
  have q3 := cell_of_blk D0.out 3
  have q4 := cell_of_blk D0.out 4
  have q5 := cell_of_blk D0.out 5
  have q6 := cell_of_blk D0.out 6
  have q7 := cell_of_blk D0.out 7
  have q8 := cell_of_blk D0.out 8
  have q9 := cell_of_blk D0.out 9
  have y0 := cell_of_blk D1.out 0
  have y1 := cell_of_blk D1.out 1
  have hq := (Array.getElem?_eq_some_iff.1 D0.out).1
  have hy := (Array.getElem?_eq_some_iff.1 D1.out).1
  simp at q0 q1 q2 q3 q4 q5 q6 q7 q8 q9 y0 y1
  clear s1 hb1 hb2
  go_enter Tryz.func94, Tryz.ntmps94
  go_wp2_with fail
  rw [← hW1, ← hW]
  clear hW1 hW
  refine wp_region_later_tail 5 (by kernel_rfl) (by kernel_rfl) ?_; simp only [List.take_succ_cons, List.take_zero, List.drop_succ_cons, List.drop_zero]; (repeat (first | go_big_quiet_step ((first | ((go_at_call 141; exact Calls.later_same _ (HD.out _))))) | quiet_step ((first | ((go_at_call 141; exact Calls.later_same _ (HD.out _))))))); refine wpQuiet_nil ?_; rintro _ ⟨s, rfl⟩
  have HBS := Lib.hid (below_more HB.out s.below)
  clear q0 q1 q2 q3 q4 q5 q6 q7 q8 q9 y0 y1 hq hy
  go_wp2_with fail
  refine (HS.out _ HBS.out).mono ?_; rintro e w3 ⟨A3, c3, rfl, h1, h2, h3, hb3⟩
  have HB3 := Lib.hid (below_more HBS.out hb3)
  have H3 := Lib.hid (ShPs.keep (Q := FreshB w w3) (w' := w3) (fun _ _ _ => rfl) (fun b hp => ⟨Nat.le_trans HBS.out.size hp.1, hp.2⟩) A3 0 ks h3)
  clear hb3 h3
  go_wp2_with fail
  go_ret
  exact ⟨_, rfl, ⟨A3, c3, rfl, h1, h2, H3.out⟩, HB3.out⟩
open Go.RowKit
def ey1 : ByteArray := ⟨#[65, 49]⟩
def ey2 : ByteArray := ⟨#[66, 50]⟩
def eyLi : Li := ⟨1, [⟨ey1, 12, 12, false, []⟩, ⟨ey2, 6, 3, false, []⟩]⟩
def eyN1 : Nd := ⟨1, 1, 0, 0, false, 0, 0, 0⟩
def eyN2 : Nd := ⟨1, 1, 1, 0, false, 0, 0, 0⟩
def eyNs : List Nd := [⟨2, 0, 0, 0, false, 0, 0, 0⟩, eyN1, eyN2]
def eyS : Shp := .row 20 [.gly eyN1 12 12, .gly eyN2 6 3]
set_option maxRecDepth 100000 in
set_option maxHeartbeats 4000000 in
theorem page_any (w : World) : Calls Tryz.prog 50 #[] w fun e w' => e = .returned (.agg #[.int .i64 1, .int .i64 4800]) ∧ Below w.heap.size w w' := by
  go_enter Tryz.func50, Tryz.ntmps50
  go_wp2
  exact bodyPost_ret (v := .agg #[.int .i64 1, .int .i64 4800]) (by simp [results, Tryz.results50, go_sem]) rfl ⟨rfl, below_alloc _ _⟩
open Go.RowKit
set_option maxRecDepth 100000 in
set_option maxHeartbeats 1600000 in
theorem list4O_any (L : Lm) (A : Option Addr) (n cap : Nat) (w : World) (hl : LmOk w L) (hsm : L.ms.length ≤ 1000000) (hvm : ∀ m ∈ L.ms, m.s.vals.length ≤ 1000000) :
    Calls Tryz.prog 16 #[.agg #[.int .i64 L.per, .slice L.A L.ms.length L.cap, .slice A n cap]] w (GotListO w L.li) := by
  obtain ⟨W, hW⟩ : ∃ W, W = (w.alloc (.cells #[.int .i64 L.per, .slice L.A L.ms.length L.cap, .slice A n cap] 29)).alloc (.cells #[.int .i64 0, .slice none 0 0] 24) := ⟨_, rfl⟩
  have HB := Lib.hid (show Below w.heap.size w W from hW ▸ two_under _ _ _)
  have HS := Lib.hid (show W.heap.size = w.heap.size + 1 + 1 by rw [hW]; simp)
  have C1 := Lib.hid (show W.heap[w.heap.size + 1]? = some (.cells #[.int .i64 0, .slice none 0 0] 24 (0, 0)) by
    rw [hW]; have := heap_alloc_new (w.alloc (.cells #[.int .i64 L.per, .slice L.A L.ms.length L.cap, .slice A n cap] 29)) (.cells #[.int .i64 0, .slice none 0 0] 24); simpa using this)
  have HCP := Lib.hid (show Calls Tryz.prog 33 #[.agg #[.int .i64 L.per, .slice L.A L.ms.length L.cap]] W (GotListO W L.li) from copyO_any L W (hl.below HB.out) hsm hvm)
  clear hl hsm hvm
  go_enter Tryz.func16, Tryz.ntmps16
  go_wp2_with fail
  rw [← hW]
  refine HCP.out.mono ?_; rintro e w1 ⟨⟨pm, mm, Am, cm⟩, rfl, hown, hli, hb1, hlow⟩
  dsimp only at hown hlow
  have k1 := blk_keep hb1 C1.out
  have q0 := cell_of_blk k1 0
  have q1 := cell_of_blk k1 1
  have f0 := free_of_blk k1 0
  have f1 := free_of_blk k1 1
  simp at q0 q1
  have hlt := (Array.getElem?_eq_some_iff.1 k1).1
  have HO := Lib.hid (show OwnSigns ((w1.setCell ⟨w.heap.size + 1, 0, none⟩ (.int .i64 pm)).setCell ⟨w.heap.size + 1, 1, none⟩ (.slice Am mm.length cm)) W.heap.size Am cm mm from
    (hown.setLow hlow (by dsimp only; have := HS.out; omega) _).setLow hlow (by dsimp only; have := HS.out; omega) _)
  have HBB := Lib.hid (show Below w.heap.size w ((w1.setCell ⟨w.heap.size + 1, 0, none⟩ (.int .i64 pm)).setCell ⟨w.heap.size + 1, 1, none⟩ (.slice Am mm.length cm)) from
    (((below_more HB.out hb1).setCell (by dsimp only; omega) _).setCell (by dsimp only; omega) _))
  have HLI := Lib.hid hli
  have HLOW := Lib.hid (show ∀ m ∈ mm, ∀ b o, m.A = some ⟨b, o, none⟩ → w.heap.size ≤ b from fun m hm b o e => by have := hlow m hm b o e; have := HS.out; omega)
  clear hown hlow hb1 k1 hW hli
  unfold Lm.val
  dsimp only
  go_wp2
  refine bodyPost_ret (v := .agg #[.int .i64 pm, .slice Am mm.length cm]) (by simp [results, Tryz.results16, go_sem, q0, q1]) rfl ⟨⟨pm, mm, Am, cm⟩, rfl, HO.out.base (by have := HS.out; omega), HLI.out, HBB.out, HLOW.out⟩
theorem list4_any (L : Lm) (A : Option Addr) (n cap : Nat) (w : World) (hl : LmOk w L) (hsm : L.ms.length ≤ 1000000) (hvm : ∀ m ∈ L.ms, m.s.vals.length ≤ 1000000) :
    Calls Tryz.prog 16 #[.agg #[.int .i64 L.per, .slice L.A L.ms.length L.cap, .slice A n cap]] w (GotList w L.li) :=
  (list4O_any L A n cap w hl hsm hvm).mono fun _ _ h => h.got
set_option maxRecDepth 100000 in
set_option maxHeartbeats 1600000 in
theorem text4_any (L : Lm) (A : Option Addr) (cap : Nat) (ns : List Nd) (w : World) (hn : NdsAt w A ns) (hc1 : ns.length ≤ cap) (hc : cap ≤ maxLen) (hsm : ns.length ≤ 1000000) :
    Calls Tryz.prog 17 #[.agg #[.int .i64 L.per, .slice L.A L.ms.length L.cap, .slice A ns.length cap]] w (GotText w ns) := by
  obtain ⟨N, hN⟩ : ∃ N, N = ns.length := ⟨_, rfl⟩
  have HN := Lib.hid hN
  rw [← hN]
  obtain ⟨W, hW⟩ : ∃ W, W = (w.alloc (.cells #[.int .i64 L.per, .slice L.A L.ms.length L.cap, .slice A N cap] 29)).alloc (.cells #[.slice none 0 0] 27) := ⟨_, rfl⟩
  have HB := Lib.hid (show Below w.heap.size w W from hW ▸ two_under _ _ _)
  have HS := Lib.hid (show W.heap.size = w.heap.size + 1 + 1 by rw [hW]; simp)
  have C1 := Lib.hid (show W.heap[w.heap.size + 1]? = some (.cells #[.slice none 0 0] 27 (0, 0)) by
    rw [hW]; have := heap_alloc_new (w.alloc (.cells #[.int .i64 L.per, .slice L.A L.ms.length L.cap, .slice A N cap] 29)) (.cells #[.slice none 0 0] 27); simpa using this)
  have HCP := Lib.hid (show Calls Tryz.prog 56 #[.agg #[.slice A N cap]] W (GotText W ns) by
    have := rcopyT_any A cap ns W (hn.below HB.out) hc1 hc hsm; rw [← hN] at this; exact this)
  clear hn hsm hc1 hc hN
  go_enter Tryz.func17, Tryz.ntmps17
  go_wp2_with fail
  rw [← hW]
  refine HCP.out.mono ?_; rintro e w1 ⟨A1, c1, rfl, hown, hb1⟩
  rw [← HN.out] at hown ⊢
  have k1 := blk_keep hb1 C1.out
  have q0 := cell_of_blk k1 0
  have f0 := free_of_blk k1 0
  simp at q0
  have hlt := (Array.getElem?_eq_some_iff.1 k1).1
  have HO := Lib.hid (show (w1.setCell ⟨w.heap.size + 1, 0, none⟩ (.slice A1 N c1)).ownsRow w.heap.size 87 8 (.slice A1 N c1) N (ns.flatMap Nd.cells) from
    own_base (ownsRow_of_block hown (fun g hg => heap_setCell_other _ _ _ _ (by have := (hown.lt g hg).1; have := HS.out; dsimp only; omega))) (by have := HS.out; omega))
  have HBB := Lib.hid (show Below w.heap.size w (w1.setCell ⟨w.heap.size + 1, 0, none⟩ (.slice A1 N c1)) from
    ((below_more HB.out hb1).setCell (by dsimp only; omega) _))
  clear hown hb1 k1 hW
  go_wp2
  refine bodyPost_ret (v := .agg #[.slice A1 N c1]) (by simp [results, Tryz.results17, go_sem, q0]) rfl ⟨A1, c1, by rw [HN.out], by rw [← HN.out]; exact HO.out, HBB.out⟩
end Go.Proofs.YtmiokllpdmmfhaaGreat
