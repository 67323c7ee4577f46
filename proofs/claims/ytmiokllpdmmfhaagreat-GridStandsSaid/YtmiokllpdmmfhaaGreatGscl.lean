/-
  The scale of a group (Scale), by the program, with its errors.
-/
import Derived.Test.YtmiokllpdmmfhaaGreatArr
import Derived.Test.YtmiokllpdmmfhaaGreatLcB
namespace Go.Proofs.YtmiokllpdmmfhaaGreat
open Go.RowKit
theorem prepErr_any (way E : Int) (hE : E ≠ 0) (L : Lm) (A : Option Addr) (cap : Nat) (ns : List Nd) (len : Int) (w : World) (hl : LmOk w L) (hn : NdsAt w A ns) (hc1 : ns.length ≤ cap) (hc : cap ≤ maxLen) (hb : bothE L.li ns way len = E) :
    Calls Tryz.prog 51 #[.agg #[.int .i64 L.per, .slice L.A L.ms.length L.cap], .agg #[.slice A ns.length cap], .agg #[.int .i64 way, .int .i64 len]] w (fun e w' => e = .returned (.tuple #[.slice none 0 0, .agg #[.int .i64 0, .slice none 0 0, .bool false, .bool false, .nilFunc, .nilFunc, .nilFunc, .nilFunc, .nilFunc, .nilFunc], .int .i64 E]) ∧ Below w.heap.size w w') := by
  unfold bothE at hb
  split at hb
  · rename_i h
    refine prepErrT_any way E hE L A cap ns [] len w hl hn hc1 hc ?_
    unfold regQ
    rw [if_pos h, hb]
  · rename_i h
    have h0 : textErr L.li ns = 0 := by simpa using h
    exact prepErrG_any way E hE L A cap ns _ len w hl hn hc1 hc (plainT_is h0) hb
set_option maxRecDepth 100000 in
set_option maxHeartbeats 8000000 in
theorem arrErr_any (way E : Int) (hE : E ≠ 0) (L : Lm) (A : Option Addr) (cap : Nat) (ns : List Nd) (len : Int) (w : World) (hl : LmOk w L) (hn : NdsAt w A ns) (hc1 : ns.length ≤ cap) (hc : cap ≤ maxLen) (hb : bothE L.li ns way len = E) :
    Calls Tryz.prog 59 #[.agg #[.int .i64 L.per, .slice L.A L.ms.length L.cap], .agg #[.slice A ns.length cap], .agg #[.int .i64 way, .int .i64 len]] w (fun e w' => e = .returned (.tuple #[.slice none 0 0, .int .i64 E]) ∧ Below w.heap.size w w') := by
  have HPR := Lib.hid (fun wx (hbx : Below w.heap.size w wx) => prepErr_any way E hE L A cap ns len wx (hl.below hbx) (hn.below hbx) hc1 hc hb)
  have hbE : (E != 0) = true := by simpa using hE
  obtain ⟨N, hN⟩ : ∃ N, N = ns.length := ⟨_, rfl⟩
  rw [← hN] at HPR hc1 ⊢
  unfold maxLen at hc
  clear hl hn hb hN hE
  obtain ⟨W1, hW1⟩ : ∃ W', W' = w.alloc (.cells #[.int .i64 L.per, .slice L.A L.ms.length L.cap] 24) := ⟨_, rfl⟩; obtain ⟨W2, hW2⟩ : ∃ W', W' = W1.alloc (.cells #[.slice A N cap] 27) := ⟨_, rfl⟩; obtain ⟨W, hW⟩ : ∃ W', W' = W2.alloc (.cells #[.int .i64 way, .int .i64 len] 31) := ⟨_, rfl⟩; have szW1 : W1.heap.size = w.heap.size + 1 := (by rw [hW1]; simp); have kbW1 : Below w.heap.size w W1 := hW1 ▸ below_alloc _ _; have szW2 : W2.heap.size = w.heap.size + 1 + 1 := (by rw [hW2]; simp [szW1]); have kbW2 : Below W1.heap.size W1 W2 := hW2 ▸ below_alloc _ _; have szW : W.heap.size = w.heap.size + 1 + 1 + 1 := (by rw [hW]; simp [szW2]); have kbW : Below W2.heap.size W2 W := hW ▸ below_alloc _ _; have HB := Lib.hid (below_more (below_more kbW1 kbW2) kbW); have D0 := Lib.hid (blk_keep kbW (blk_keep kbW2 (show W1.heap[w.heap.size]? = some (.cells #[.int .i64 L.per, .slice L.A L.ms.length L.cap] 24 (0, 0)) by rw [hW1]; exact heap_alloc_new _ _))); have D1 := Lib.hid (blk_keep kbW (show W2.heap[w.heap.size + 1]? = some (.cells #[.slice A N cap] 27 (0, 0)) by rw [hW2, ← szW1]; exact heap_alloc_new _ _)); have D2 := Lib.hid (show W.heap[w.heap.size + 1 + 1]? = some (.cells #[.int .i64 way, .int .i64 len] 31 (0, 0)) by rw [hW, ← szW2]; exact heap_alloc_new _ _); have SZW := Lib.hid szW; clear szW1 kbW1 szW2 kbW2 szW kbW
  have x0 := cell_of_blk D0.out 0; have x1 := cell_of_blk D0.out 1; have hz_x := (Array.getElem?_eq_some_iff.1 D0.out).1; simp at x0 x1
  have y0 := cell_of_blk D1.out 0; have hz_y := (Array.getElem?_eq_some_iff.1 D1.out).1; simp at y0
  have p0 := cell_of_blk D2.out 0; have p1 := cell_of_blk D2.out 1; have hz_p := (Array.getElem?_eq_some_iff.1 D2.out).1; simp at p0 p1
  go_enter Tryz.func59, Tryz.ntmps59
  go_wp2_with fail
  rw [← hW1, ← hW2, ← hW]; clear hW1 hW2 hW
  go_wp2_with fail
  refine (HPR.out _ HB.out).mono ?_; rintro e v1 ⟨rfl, hb1⟩
  have HB1 := Lib.hid (below_more HB.out hb1)
  clear hb1 HPR x0 x1 hz_x y0 hz_y p0 p1 hz_p
  go_wp2_with fail
  go_ret2
  exact ⟨rfl, HB1.out.alloc HB1.out.size _⟩
theorem arrQ_any (way len : Int) (L : Lm) (A : Option Addr) (cap : Nat) (ns zs : List Nd) (w : World) (hl : LmOk w L) (hn : NdsAt w A ns) (hc1 : ns.length ≤ cap) (hc : cap ≤ maxLen) (hT : textErr L.li ns = 0) (hQ : regQ plainP L.li ns = (zs, 0)) (hlen : pageErr way len = 0) :
    Calls Tryz.prog 59 #[.agg #[.int .i64 L.per, .slice L.A L.ms.length L.cap], .agg #[.slice A ns.length cap], .agg #[.int .i64 way, .int .i64 len]] w (GotArr (cwN way) len (shpsI L.li (cwN way) zs) w) := by
  have hp := plain_pln hT hQ
  have hw : 1 ≤ way ∧ way ≤ 4 := by unfold pageErr at hlen; split at hlen <;> omega
  have hg := shps_good (cwN way) hp
  refine arr_any way (cwN way) (mwN way) _ _ _ _ (fun wx => wayN_any way hw wx) L A cap ns zs len _ w hl hn hc1 hc hQ hlen (fun pw qw => shapesI_ok (cwN way) (mwN way) _ _ _ _ pw qw hp) (shs_of (cwN way) hp) (fun s hs => size_ok s (hg s hs)) (fun s hs => (hg s hs).szB) ?_
  unfold shpsI
  rw [List.length_map]
  have h1 : (topsL zs).length ≤ zs.length := by
    unfold topsL
    refine Nat.le_trans (List.length_filter_le _ _) ?_
    rw [List.length_range]; exact Nat.le_refl _
  have h2 := (text_ok hp.ok).2.1
  omega
theorem cellsA_len (cw : Bool) (len : Int) (ks : List Shp) (us : Nat → Value) : ∀ k, (cellsA cw len ks us k).length = k * 9
  | 0 => rfl
  | k + 1 => by rw [cellsA_step, List.length_append, cellsA_len]; show k * 9 + 9 = _; omega
theorem cellsA_at (cw : Bool) (len : Int) (ks : List Shp) (us : Nat → Value) (j c : Nat) (hc : c < 9) : ∀ k, j < k → (cellsA cw len ks us k)[j * 9 + c]? = (blCells (us j) (blA cw len ks j))[c]?
  | 0, h => by omega
  | k + 1, h => by
    rw [cellsA_step]
    rcases Nat.lt_or_ge j k with h1 | h1
    · rw [List.getElem?_append_left (by rw [cellsA_len]; omega)]
      exact cellsA_at cw len ks us j c hc k h1
    · obtain rfl : j = k := by omega
      rw [List.getElem?_append_right (by rw [cellsA_len]; omega), cellsA_len]
      congr 1; omega
end Go.Proofs.YtmiokllpdmmfhaaGreat
