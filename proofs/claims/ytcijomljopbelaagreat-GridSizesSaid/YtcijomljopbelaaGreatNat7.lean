/-
  The natural size of a node (Natural), by the program, with its errors.
-/
import Derived.Test.YtcijomljopbelaaGreatNat5
import Derived.Test.YtcijomljopbelaaGreatNat6
import Derived.Test.YtcijomljopbelaaGreatGscl
namespace Go.Proofs.YtcijomljopbelaaGreat
open Go.RowKit

set_option maxRecDepth 100000 in
set_option maxHeartbeats 8000000 in
theorem natE_any (way E : Int) (hE : E ≠ 0) (L : Lm) (A : Option Addr) (cap : Nat) (ns : List Nd) (len node : Int) (w : World) (hl : LmOk w L) (hn : NdsAt w A ns) (hc1 : ns.length ≤ cap) (hc : cap ≤ maxLen) (hb : bothE L.li ns way len = E) :
    Calls Tryz.prog 15 #[.agg #[.int .i64 L.per, .slice L.A L.ms.length L.cap], .agg #[.slice A ns.length cap], .agg #[.int .i64 way, .int .i64 len], .int .i64 node] w (fun e w' => e = .returned (.tuple #[.int .i64 0, .int .i64 0, .int .i64 E]) ∧ Below w.heap.size w w') := by
  have HPR := Lib.hid (fun wx (hbx : Below w.heap.size w wx) => prepErr_any way E hE L A cap ns len wx (hl.below hbx) (hn.below hbx) hc1 hc hb)
  have hbE : (E != 0) = true := by simpa using hE
  obtain ⟨N, hN⟩ : ∃ N, N = ns.length := ⟨_, rfl⟩
  rw [← hN] at HPR hc1 ⊢
  unfold maxLen at hc
  clear hl hn hb hN hE
  obtain ⟨W1, hW1⟩ : ∃ W', W' = w.alloc (.cells #[.int .i64 L.per, .slice L.A L.ms.length L.cap] 24) := ⟨_, rfl⟩; obtain ⟨W2, hW2⟩ : ∃ W', W' = W1.alloc (.cells #[.slice A N cap] 27) := ⟨_, rfl⟩; obtain ⟨W, hW⟩ : ∃ W', W' = W2.alloc (.cells #[.int .i64 way, .int .i64 len] 31) := ⟨_, rfl⟩; have szW1 : W1.heap.size = w.heap.size + 1 := (by rw [hW1]; simp); have kbW1 : Below w.heap.size w W1 := hW1 ▸ below_alloc _ _; have szW2 : W2.heap.size = w.heap.size + 1 + 1 := (by rw [hW2]; simp [szW1]); have kbW2 : Below W1.heap.size W1 W2 := hW2 ▸ below_alloc _ _; have szW : W.heap.size = w.heap.size + 1 + 1 + 1 := (by rw [hW]; simp [szW2]); have kbW : Below W2.heap.size W2 W := hW ▸ below_alloc _ _; have HB := Lib.hid (below_more (below_more kbW1 kbW2) kbW); have D0 := Lib.hid (blk_keep kbW (blk_keep kbW2 (show W1.heap[w.heap.size]? = some (.cells #[.int .i64 L.per, .slice L.A L.ms.length L.cap] 24 (0, 0)) by rw [hW1]; exact heap_alloc_new _ _))); have D1 := Lib.hid (blk_keep kbW (show W2.heap[w.heap.size + 1]? = some (.cells #[.slice A N cap] 27 (0, 0)) by rw [hW2, ← szW1]; exact heap_alloc_new _ _)); have D2 := Lib.hid (show W.heap[w.heap.size + 1 + 1]? = some (.cells #[.int .i64 way, .int .i64 len] 31 (0, 0)) by rw [hW, ← szW2]; exact heap_alloc_new _ _); have SZW := Lib.hid szW; clear szW1 kbW1 szW2 kbW2 szW kbW
  have x0 := cell_of_blk D0.out 0; have x1 := cell_of_blk D0.out 1; have hz_x := (Array.getElem?_eq_some_iff.1 D0.out).1; simp at x0 x1
  have y0 := cell_of_blk D1.out 0; have hz_y := (Array.getElem?_eq_some_iff.1 D1.out).1; simp at y0
  have p0 := cell_of_blk D2.out 0; have p1 := cell_of_blk D2.out 1; have hz_p := (Array.getElem?_eq_some_iff.1 D2.out).1; simp at p0 p1
  go_enter Tryz.func15, Tryz.ntmps15
  go_wp2_with fail
  rw [← hW1, ← hW2, ← hW]; clear hW1 hW2 hW
  go_wp2_with fail
  refine (HPR.out _ HB.out).mono ?_; rintro e v1 ⟨rfl, hb1⟩
  have HB1 := Lib.hid (below_more HB.out hb1)
  clear hb1 HPR x0 x1 hz_x y0 hz_y p0 p1 hz_p
  go_wp2_with fail
  go_ret3
  exact ⟨rfl, HB1.out.alloc HB1.out.size _⟩

set_option maxRecDepth 100000 in
set_option maxHeartbeats 8000000 in
theorem natO_any (way : Int) (cw mw : Bool) (a1 a2 b1 b2 : Nat) (hw : ∀ wx, Calls Tryz.prog 64 #[.int .i64 way] wx (GotWay cw mw a1 a2 b1 b2 wx)) (L : Lm) (A : Option Addr) (cap : Nat) (ns zs : List Nd) (len node : Int) (w : World) (hl : LmOk w L) (hn : NdsAt w A ns) (hc1 : ns.length ≤ cap) (hc : cap ≤ maxLen) (hQ : regQ plainP L.li ns = (zs, 0)) (hlen : pageErr way len = 0) (ho : node < 0 ∨ (0 ≤ node ∧ (ns.length : Int) ≤ node)) :
    Calls Tryz.prog 15 #[.agg #[.int .i64 L.per, .slice L.A L.ms.length L.cap], .agg #[.slice A ns.length cap], .agg #[.int .i64 way, .int .i64 len], .int .i64 node] w (fun e w' => e = .returned (.tuple #[.int .i64 0, .int .i64 0, .int .i64 1]) ∧ Below w.heap.size w w') := by
  have HPR := Lib.hid (fun wx (hb : Below w.heap.size w wx) => prepN_any way cw mw a1 a2 b1 b2 hw L A cap ns zs len wx (hl.below hb) (hn.below hb) hc1 hc hQ hlen)
  obtain ⟨N, hN⟩ : ∃ N, N = ns.length := ⟨_, rfl⟩
  rw [← hN] at HPR hc1 ho ⊢
  unfold maxLen at hc
  clear hw hl hn hQ hlen hN
  obtain ⟨W1, hW1⟩ : ∃ W', W' = w.alloc (.cells #[.int .i64 L.per, .slice L.A L.ms.length L.cap] 24) := ⟨_, rfl⟩; obtain ⟨W2, hW2⟩ : ∃ W', W' = W1.alloc (.cells #[.slice A N cap] 27) := ⟨_, rfl⟩; obtain ⟨W, hW⟩ : ∃ W', W' = W2.alloc (.cells #[.int .i64 way, .int .i64 len] 31) := ⟨_, rfl⟩; have szW1 : W1.heap.size = w.heap.size + 1 := (by rw [hW1]; simp); have kbW1 : Below w.heap.size w W1 := hW1 ▸ below_alloc _ _; have szW2 : W2.heap.size = w.heap.size + 1 + 1 := (by rw [hW2]; simp [szW1]); have kbW2 : Below W1.heap.size W1 W2 := hW2 ▸ below_alloc _ _; have szW : W.heap.size = w.heap.size + 1 + 1 + 1 := (by rw [hW]; simp [szW2]); have kbW : Below W2.heap.size W2 W := hW ▸ below_alloc _ _; have HB := Lib.hid (below_more (below_more kbW1 kbW2) kbW); have D0 := Lib.hid (blk_keep kbW (blk_keep kbW2 (show W1.heap[w.heap.size]? = some (.cells #[.int .i64 L.per, .slice L.A L.ms.length L.cap] 24 (0, 0)) by rw [hW1]; exact heap_alloc_new _ _))); have D1 := Lib.hid (blk_keep kbW (show W2.heap[w.heap.size + 1]? = some (.cells #[.slice A N cap] 27 (0, 0)) by rw [hW2, ← szW1]; exact heap_alloc_new _ _)); have D2 := Lib.hid (show W.heap[w.heap.size + 1 + 1]? = some (.cells #[.int .i64 way, .int .i64 len] 31 (0, 0)) by rw [hW, ← szW2]; exact heap_alloc_new _ _); have SZW := Lib.hid szW; clear szW1 kbW1 szW2 kbW2 szW kbW
  have x0 := cell_of_blk D0.out 0; have x1 := cell_of_blk D0.out 1; have hz_x := (Array.getElem?_eq_some_iff.1 D0.out).1; simp at x0 x1
  have y0 := cell_of_blk D1.out 0; have hz_y := (Array.getElem?_eq_some_iff.1 D1.out).1; simp at y0
  have p0 := cell_of_blk D2.out 0; have p1 := cell_of_blk D2.out 1; have hz_p := (Array.getElem?_eq_some_iff.1 D2.out).1; simp at p0 p1
  go_enter Tryz.func15, Tryz.ntmps15
  go_wp2_with fail
  rw [← hW1, ← hW2, ← hW]; clear hW1 hW2 hW
  go_wp2_with fail
  refine (HPR.out _ HB.out).mono ?_; rintro e v1 ⟨Ap, cp, pw, qw, rfl, -, hb1⟩
  have HB1 := Lib.hid (below_more HB.out hb1)
  have E1 := Lib.hid (blk_keep hb1 D1.out)
  have hs1 := hb1.size
  clear hb1 HPR x0 x1 hz_x y0 hz_y p0 p1 hz_p
  have y0 := cell_of_blk E1.out 0; have hz_y := (Array.getElem?_eq_some_iff.1 E1.out).1; simp at y0
  rcases ho with ho | ⟨ho1, ho2⟩
  · go_wp2_with fail
    go_ret3
    exact ⟨rfl, HB1.out.alloc HB1.out.size _⟩
  · have d1 : decide (node < 0) = false := decide_eq_false (by omega)
    have d2 : decide ((N : Int) ≤ node) = true := decide_eq_true ho2
    go_wp2_with fail
    go_ret3
    exact ⟨rfl, HB1.out.alloc HB1.out.size _⟩

theorem gnat_any (L : Lm) (A : Option Addr) (cap : Nat) (ns : List Nd) (way len node : Int) (w : World) (hl : LmOk w L) (hn : NdsAt w A ns) (hc1 : ns.length ≤ cap) (hc : cap ≤ maxLen) :
    Calls Tryz.prog 15 #[.agg #[.int .i64 L.per, .slice L.A L.ms.length L.cap], .agg #[.slice A ns.length cap], .agg #[.int .i64 way, .int .i64 len], .int .i64 node] w (GotIII (natQ L.li way len ns node) w) := by
  by_cases h0 : bothE L.li ns way len = 0
  case neg =>
    have : natQ L.li way len ns node = (0, 0, bothE L.li ns way len) := by unfold natQ; rw [if_pos h0]
    rw [this]
    exact natE_any way _ h0 L A cap ns len node w hl hn hc1 hc rfl
  obtain ⟨hT, hlen⟩ := both_ok h0
  have hQ : regQ plainP L.li ns = ((regQ plainP L.li ns).1, 0) := by rw [plainT_is hT]
  have hw : 1 ≤ way ∧ way ≤ 4 := by unfold pageErr at hlen; split at hlen <;> omega
  by_cases hout : outB ns.length node = true
  · have : natQ L.li way len ns node = (0, 0, 1) := by unfold natQ; rw [if_neg (by omega), if_pos hout]
    rw [this]
    refine natO_any way (cwN way) (mwN way) _ _ _ _ (fun wx => wayN_any way hw wx) L A cap ns _ len node w hl hn hc1 hc hQ hlen ?_
    unfold outB at hout
    simp at hout
    omega
  · have hin : 0 ≤ node ∧ node < ns.length := by unfold outB at hout; simp at hout; omega
    obtain ⟨i, rfl⟩ : ∃ i : Nat, node = (i : Int) := ⟨node.toNat, by omega⟩
    obtain ⟨u, hu⟩ : ∃ u, ns[i]? = some u := ⟨_, List.getElem?_eq_getElem (by omega)⟩
    have : natQ L.li way len ns i = ((natR L.li (cwN way) ns (regQ plainP L.li ns).1 i).1, (natR L.li (cwN way) ns (regQ plainP L.li ns).1 i).2, 0) := by
      unfold natQ; rw [if_neg (by omega), if_neg hout, Int.toNat_natCast]
    rw [this]
    cases hwr : wrB u with
    | false => exact natF_any way (cwN way) (mwN way) _ _ _ _ (fun wx => wayN_any way hw wx) L A cap ns _ len i u w hl hn hc1 hc hT hQ hlen hu hwr
    | true => exact natT_any way (cwN way) (mwN way) _ _ _ _ (fun wx => wayN_any way hw wx) L A cap ns _ len i u w hl hn hc1 hc hT hQ hlen hu hwr

end Go.Proofs.YtcijomljopbelaaGreat
