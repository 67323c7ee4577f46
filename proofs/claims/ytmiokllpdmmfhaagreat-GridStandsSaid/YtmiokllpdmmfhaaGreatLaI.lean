/-
  Shapes of nodes, by the program: the size of a glyph. And what builds on it.
-/
import Derived.Test.YtmiokllpdmmfhaaGreatLaC
import Derived.Test.YtmiokllpdmmfhaaGreatLaH
namespace Go.Proofs.YtmiokllpdmmfhaaGreat
open Go.RowKit
set_option maxRecDepth 100000 in
set_option maxHeartbeats 4000000 in
theorem spaceOf_any (d : Int) (w : World) (h : 0 ≤ d ∧ d ≤ 5) : Calls Tryz.prog 141 #[.int .i64 d] w fun e w' => e = .returned (.int .i64 (4 * (5 - d))) ∧ w = w' := by
  obtain ⟨h1, h2⟩ := h
  go_enter Tryz.func141, Tryz.ntmps141
  go_wp2
  go_ret
  exact ⟨rfl, rfl⟩
set_option maxRecDepth 100000 in
set_option maxHeartbeats 4000000 in
theorem gsize_any (k d s t : Int) (m : Bool) (st mn mx wd hg : Int) (w : World) (h1 : 0 ≤ wd ∧ wd ≤ 1000000) (h2 : 0 ≤ hg ∧ hg ≤ 1000000) :
    Calls Tryz.prog 216 #[.agg #[.int .i64 k, .int .i64 d, .int .i64 s, .int .i64 t, .bool m, .int .i64 st, .int .i64 mn, .int .i64 mx, .int .i64 wd, .int .i64 hg]] w fun e w' => e = .returned (.tuple #[.int .i64 (4 * wd), .int .i64 (4 * hg)]) ∧ Below w.heap.size w w' := by
  obtain ⟨a1, a2⟩ := h1
  obtain ⟨b1, b2⟩ := h2
  go_enter Tryz.func216, Tryz.ntmps216
  go_wp2_with fail
  go_quiet (fail)
  go_wp2
  go_ret2
  exact ⟨rfl, (below_alloc _ _).trans ⟨rfl, rfl, rfl, Nat.le_refl _, fun _ _ => rfl⟩⟩
def alone (L : Lm) (sg : Sm) (a : Option Addr) (c : Nat) : Lm := ⟨L.per, [sg], a, c⟩
theorem alone_ok {w : World} {L : Lm} (h : LmOk w L) {k : Nat} {sg : Sm} (hk : L.ms[k]? = some sg) {b o : Nat} (hA : L.A = some ⟨b, o, none⟩) : LmOk w (alone L sg (some ⟨b, o + k * 5, none⟩) (L.cap - k)) := by
  have hkl := (List.getElem?_eq_some_iff.1 hk).1
  refine ⟨fun i m hi => ?_, by show 1 ≤ L.cap - k; have := h.len; omega, by show L.cap - k ≤ maxLen; have := h.cap; omega⟩
  cases i with
  | zero =>
    injection hi with hi
    subst hi
    obtain ⟨b', o', e, h1, h2, h3⟩ := h.signs k sg hk
    rw [hA] at e
    injection e with e; injection e with e1 e2
    subst e1 e2
    exact ⟨b, o + k * 5, rfl, h1, by simpa using h2, h3⟩
  | succ i => simp [alone] at hi
set_option maxRecDepth 100000 in
set_option maxHeartbeats 8000000 in
theorem bglyph_any (L : Lm) (cw mw : Bool) (a1 a2 b1 b2 pw qw : Nat) (n : Nd) (k : Nat) (sg : Sm) (w : World) (hl : LmOk w L) (hs : n.sign = k) (hk : L.ms[k]? = some sg) (ht : 0 ≤ n.turn ∧ n.turn ≤ 3) (wd hg : Int) (hsz : sizeR ⟨L.per, [sg.s]⟩ 0 n.turn = (wd, hg, 0)) :
    Calls Tryz.prog 140 #[.agg #[.int .i64 L.per, .slice L.A L.ms.length L.cap, .bool cw, .bool mw, .func (.func a1) #[] #[], .func (.func a2) #[] #[], .func (.func 172) #[] #[.pointer (some ⟨pw, 0, none⟩)], .func (.func b1) #[] #[], .func (.func b2) #[] #[], .func (.func 172) #[] #[.pointer (some ⟨qw, 0, none⟩)]], n.val] w
      fun e w' => e = .returned (.agg #[.int .i64 n.kind, .int .i64 n.depth, .int .i64 n.sign, .int .i64 n.turn, .bool n.mirror, .int .i64 n.state, .int .i64 n.min, .int .i64 n.max, .int .i64 wd, .int .i64 hg]) ∧ Below w.heap.size w w' := by
  obtain ⟨nk, nd, ns, nt, nm, nst, nmn, nmx⟩ := n
  dsimp only at hs ht hsz ⊢
  subst hs
  unfold Nd.val
  dsimp only
  have hkl := (List.getElem?_eq_some_iff.1 hk).1
  obtain ⟨b, o, hA, hb, hva, hvs⟩ := hl.signs k sg hk
  have HAL := Lib.hid (alone_ok hl hk hA)
  have hlen := hl.len
  have hcap := hl.cap
  obtain ⟨per, ms, A, cap⟩ := L
  dsimp only at hA hk hkl hlen hcap hsz HAL ⊢
  subst hA
  obtain ⟨K, hK⟩ : ∃ K, K = ms.length := ⟨_, rfl⟩
  rw [← hK] at hkl hlen ⊢
  have HSZ := Lib.hid (fun wx (hb : Below w.heap.size w wx) => show Calls Tryz.prog 178 #[.agg #[.int .i64 per, .slice (some ⟨b, o + k * 5, none⟩) 1 (cap - k)], .int .i64 0, .int .i64 nt] wx (fun e w' => e = .returned (.tuple #[.int .i64 wd, .int .i64 hg, .int .i64 0]) ∧ Below wx.heap.size wx w') by
    have := size_any (alone ⟨per, ms, some ⟨b, o, none⟩, cap⟩ sg (some ⟨b, o + k * 5, none⟩) (cap - k)) 0 nt wx (HAL.out.below hb)
    have e : (alone ⟨per, ms, some ⟨b, o, none⟩, cap⟩ sg (some ⟨b, o + k * 5, none⟩) (cap - k)).li = ⟨per, [sg.s]⟩ := rfl
    rw [e, hsz] at this
    exact this)
  unfold maxLen at hcap
  have hk1 : IntKind.i64.wrap ((k : Int) + 1) = (k : Int) + 1 := IntWalk.i64_in _ (by omega)
  clear hl hk hva hvs hsz hK HAL
  obtain ⟨W1, hW1⟩ : ∃ W1, W1 = w.alloc (.cells #[.int .i64 per, .slice (some ⟨b, o, none⟩) K cap, .bool cw, .bool mw, .func (.func a1) #[] #[], .func (.func a2) #[] #[], .func (.func 172) #[] #[.pointer (some ⟨pw, 0, none⟩)], .func (.func b1) #[] #[], .func (.func b2) #[] #[], .func (.func 172) #[] #[.pointer (some ⟨qw, 0, none⟩)]] 104) := ⟨_, rfl⟩
  obtain ⟨W2, hW2⟩ : ∃ W2, W2 = W1.alloc (.cells #[.int .i64 nk, .int .i64 nd, .int .i64 k, .int .i64 nt, .bool nm, .int .i64 nst, .int .i64 nmn, .int .i64 nmx] 87) := ⟨_, rfl⟩
  obtain ⟨W, hW⟩ : ∃ W, W = W2.alloc (.cells #[.int .i64 0, .int .i64 0, .int .i64 0, .int .i64 0, .bool false, .int .i64 0, .int .i64 0, .int .i64 0, .int .i64 0, .int .i64 0] 201) := ⟨_, rfl⟩
  have s1 : W1.heap.size = w.heap.size + 1 := by rw [hW1]; simp
  have s2 : W2.heap.size = w.heap.size + 1 + 1 := by rw [hW2]; simp [s1]
  have hb1 : Below w.heap.size w W1 := hW1 ▸ below_alloc _ _
  have hb2 : Below W1.heap.size W1 W2 := hW2 ▸ below_alloc _ _
  have hb3 : Below W2.heap.size W2 W := hW ▸ below_alloc _ _
  have HB := Lib.hid (below_more (below_more hb1 hb2) hb3)
  have D0 := Lib.hid (blk_keep hb3 (blk_keep hb2 (show W1.heap[w.heap.size]? = some (.cells #[.int .i64 per, .slice (some ⟨b, o, none⟩) K cap, .bool cw, .bool mw, .func (.func a1) #[] #[], .func (.func a2) #[] #[], .func (.func 172) #[] #[.pointer (some ⟨pw, 0, none⟩)], .func (.func b1) #[] #[], .func (.func b2) #[] #[], .func (.func 172) #[] #[.pointer (some ⟨qw, 0, none⟩)]] 104 (0, 0)) by rw [hW1]; exact heap_alloc_new _ _)))
  have D1 := Lib.hid (blk_keep hb3 (show W2.heap[w.heap.size + 1]? = some (.cells #[.int .i64 nk, .int .i64 nd, .int .i64 k, .int .i64 nt, .bool nm, .int .i64 nst, .int .i64 nmn, .int .i64 nmx] 87 (0, 0)) by rw [hW2, ← s1]; exact heap_alloc_new _ _))
  have D2 := Lib.hid (show W.heap[w.heap.size + 1 + 1]? = some (.cells #[.int .i64 0, .int .i64 0, .int .i64 0, .int .i64 0, .bool false, .int .i64 0, .int .i64 0, .int .i64 0, .int .i64 0, .int .i64 0] 201 (0, 0)) by rw [hW, ← s2]; exact heap_alloc_new _ _)
  have HK := Lib.hid (fun wx (hb : Below W.heap.size W wx) => show wx.cell? ⟨w.heap.size, 0, none⟩ = some (.int .i64 per) ∧ wx.cell? ⟨w.heap.size, 1, none⟩ = some (.slice (some ⟨b, o, none⟩) K cap) ∧ wx.cell? ⟨w.heap.size + 1, 2, none⟩ = some (.int .i64 k) ∧ Below W.heap.size W wx from
    ⟨cell_of_blk (blk_keep hb D0.out) 0, cell_of_blk (blk_keep hb D0.out) 1, cell_of_blk (blk_keep hb D1.out) 2, hb⟩)
  have HDR := Lib.hid (show Below W.heap.size W W.drew from (Below.refl _ _).drew)
  have hcap2 : (cap = k) = False := by simp; omega
  have hko : (k : Int) < (K : Int) := by omega
  have hkc : (k : Int) ≤ (cap : Int) := by omega
  have hkc2 : (k : Int) + 1 ≤ (cap : Int) := by omega
  have hkc3 : (k : Int) ≤ (k : Int) + 1 := by omega
  have hkc4 : (k : Int) < (k : Int) + 1 := by omega
  have hkz : (0 : Int) ≤ (k : Int) := by omega
  have hkz1 : (0 : Int) ≤ (k : Int) + 1 := by omega
  have hk2 : ((k : Int) + 1).toNat = k + 1 := by omega
  have hk3 : k + 1 - k = 1 := by omega
  clear s1 s2 hb1 hb2 hb3
  go_enter Tryz.func140, Tryz.ntmps140
  go_wp2_with fail
  rw [← hW1, ← hW2, ← hW]
  clear hW1 hW2 hW
  go_region_held3 (fun wx => wx.cell? ⟨w.heap.size, 0, none⟩ = some (.int .i64 per) ∧ wx.cell? ⟨w.heap.size, 1, none⟩ = some (.slice (some ⟨b, o, none⟩) K cap) ∧ wx.cell? ⟨w.heap.size + 1, 2, none⟩ = some (.int .i64 k) ∧ Below W.heap.size W wx)
    ((refine HK.out _ ?_; first | assumption | exact HDR.out | (repeat (first | exact Below.refl _ _ | assumption | refine Below.drew ?_ | refine Below.alloc ?_ (by first | omega | (simp; omega) | simp) _ | refine Below.setCell ?_ (by first | omega | (simp; omega) | simp) _))))
    (fail)
  have y3 := cell_of_blk D1.out 3
  have hy := (Array.getElem?_eq_some_iff.1 D1.out).1
  simp at y3
  clear hk1 hkc hkc2 hkc3 hkc4 hkz hkz1 hk2 hk3 hko hcap2
  go_wp2_with fail
  refine (HSZ.out _ (below_more HB.out (below_alloc _ _).drew)).mono ?_; rintro e w3 ⟨rfl, hb3⟩
  have HB3 := Lib.hid (below_more (Below.drew (below_alloc W (.cells #[.int .i64 per, .slice (some ⟨b, o + k * 5, none⟩) 1 (cap - k)] 24))) hb3)
  have HB4 := Lib.hid (below_more HB.out HB3.out)
  have D1 := Lib.hid (blk_keep HB3.out D1.out)
  have D2 := Lib.hid (blk_keep HB3.out D2.out)
  clear y3 hy hb3 HK HDR
  have q0 := cell_of_blk D2.out 0
  have f0 := free_of_blk D2.out 0
  have q1 := cell_of_blk D2.out 1
  have f1 := free_of_blk D2.out 1
  have q2 := cell_of_blk D2.out 2
  have f2 := free_of_blk D2.out 2
  have q3 := cell_of_blk D2.out 3
  have f3 := free_of_blk D2.out 3
  have q4 := cell_of_blk D2.out 4
  have f4 := free_of_blk D2.out 4
  have q5 := cell_of_blk D2.out 5
  have f5 := free_of_blk D2.out 5
  have q6 := cell_of_blk D2.out 6
  have f6 := free_of_blk D2.out 6
  have q7 := cell_of_blk D2.out 7
  have f7 := free_of_blk D2.out 7
  have q8 := cell_of_blk D2.out 8
  have f8 := free_of_blk D2.out 8
  have q9 := cell_of_blk D2.out 9
  have f9 := free_of_blk D2.out 9
  have y0 := cell_of_blk D1.out 0
  have y1 := cell_of_blk D1.out 1
  have y2 := cell_of_blk D1.out 2
  have y3 := cell_of_blk D1.out 3
  have y4 := cell_of_blk D1.out 4
  have y5 := cell_of_blk D1.out 5
  have y6 := cell_of_blk D1.out 6
  have y7 := cell_of_blk D1.out 7
  have hs := (Array.getElem?_eq_some_iff.1 D2.out).1
  have hy := (Array.getElem?_eq_some_iff.1 D1.out).1
  simp at q0 q1 q2 q3 q4 q5 q6 q7 q8 q9 y0 y1 y2 y3 y4 y5 y6 y7
  go_wp2_with fail
  refine bodyPost_ret (v := .agg #[.int .i64 nk, .int .i64 nd, .int .i64 k, .int .i64 nt, .bool nm, .int .i64 nst, .int .i64 nmn, .int .i64 nmx, .int .i64 wd, .int .i64 hg]) (by simp [results, Tryz.results140, go_sem, q0, q1, q2, q3, q4, q5, q6, q7, q8, q9]) rfl ⟨rfl, ?_⟩
  clear q0 q1 q2 q3 q4 q5 q6 q7 q8 q9 f0 f1 f2 f3 f4 f5 f6 f7 f8 f9
  iterate 10 (refine Below.setCell ?_ (by dsimp only; omega) _)
  exact HB4.out
open Go.RowKit
theorem span_more {ns : List Nd} {d : Int} {k : Nat} {u : Nd} (h : ns[k + 1]? = some u) (hk : k ≤ spanN ns d 0) (hd : d < u.depth) : k + 1 ≤ spanN ns d 0 := by
  rcases Nat.lt_or_ge k (spanN ns d 0) with h1 | h1
  · omega
  · exfalso
    have hl : 0 < ns.length := by have := (List.getElem?_eq_some_iff.1 h).1; omega
    rcases spanN_end ns d 0 hl with e | ⟨v, hv, hvd⟩
    · have := (List.getElem?_eq_some_iff.1 h).1; omega
    · rw [show 0 + 1 + spanN ns d 0 = k + 1 by omega, h] at hv
      injection hv with hv; subst hv; omega
theorem span_stop {ns : List Nd} {d : Int} {k : Nat} {u : Nd} (h : ns[k + 1]? = some u) (hk : k ≤ spanN ns d 0) (hd : ¬ d < u.depth) : spanN ns d 0 = k := by
  rcases Nat.lt_or_ge k (spanN ns d 0) with h1 | h1
  · exfalso
    obtain ⟨v, hv, hvd⟩ := spanN_at h1
    rw [show 0 + 1 + k = k + 1 by omega, h] at hv
    injection hv with hv; subst hv; exact hd hvd
  · omega
theorem ret_sl {A : Option Addr} {n m c : Nat} (h : n = m) : Ending.returned (.slice A n c) = .returned (.slice A m c) := by rw [h]
set_option maxRecDepth 100000 in
set_option maxHeartbeats 8000000 in
theorem gpart_any (b o cap : Nat) (ns : List Nd) (u : Nd) (w : World) (hn : NdsAt w (some ⟨b, o, none⟩) ns) (h0 : ns[0]? = some u) (hc1 : ns.length ≤ cap) (hc : cap ≤ maxLen) :
    Calls Tryz.prog 55 #[.slice (some ⟨b, o, none⟩) ns.length cap] w fun e w' => e = .returned (.slice (some ⟨b, o, none⟩) (1 + spanN ns u.depth 0) cap) ∧ Below w.heap.size w w' := by
  have hl0 := (List.getElem?_eq_some_iff.1 h0).1
  obtain ⟨S, hS⟩ : ∃ S, S = spanN ns u.depth 0 := ⟨_, rfl⟩
  have hSl := spanN_le ns u.depth 0 hl0
  rw [← hS] at hSl ⊢
  have HS := Lib.hid hS
  have HN := Lib.hid hn
  have H0 := Lib.hid h0
  obtain ⟨N, hN⟩ : ∃ N, N = ns.length := ⟨_, rfl⟩
  have HNN := Lib.hid hN
  rw [← hN] at hc1 hSl hl0 ⊢
  unfold maxLen at hc
  obtain ⟨b', o', e, hb, hva⟩ := hn 0 u h0
  injection e with e; injection e with e1 e2
  subst e1 e2
  have z1 := hva.c1
  simp only [Nat.zero_mul, Nat.add_zero] at z1
  have Z1 := Lib.hid z1
  clear hn h0 hS hN hva z1
  go_enter Tryz.func55, Tryz.ntmps55
  go_wp2_with fail
  go_loopw [3] (fun i wr => ∃ k : Nat, k ≤ S ∧ i = .int .i64 (k + 1 : Nat) ∧ Hid (Below w.heap.size w wr)) (fun i _ => N - (intOf i).toNat)
  case atStart => exact ⟨0, Nat.zero_le _, rfl, Lib.hid (Below.refl _ _)⟩
  case round =>
    obtain ⟨k, hk, rfl, hbw⟩ := hrel
    have HB := Lib.hid hbw.out
    clear hbw
    have z1 := (HB.out.cell (p := ⟨b, o + 1, none⟩) hb).trans Z1.out
    have hbr : b < wr.heap.size := by have := HB.out.size; omega
    by_cases hlt : k + 1 < N
    · obtain ⟨x, hx⟩ : ∃ x, ns[k + 1]? = some x := ⟨_, List.getElem?_eq_getElem (by have := HNN.out; omega)⟩
      obtain ⟨b', o', e, _, hvx⟩ := HN.out (k + 1) x hx
      injection e with e; injection e with e1 e2
      subst e1 e2
      have z2 := (HB.out.cell (p := ⟨b, o + (k + 1) * 8 + 1, none⟩) hb).trans hvx.c1
      have hk0 : (0 : Int) ≤ (k : Int) + 1 := by omega
      have hkN : (k : Int) + 1 < (N : Int) := by omega
      have hd0 : decide ((k : Int) + 1 < (N : Int)) = true := decide_eq_true hkN
      have hkt : ((k : Int) + 1).toNat = k + 1 := by omega
      by_cases hd : u.depth < x.depth
      · have hd1 : decide (u.depth < x.depth) = true := decide_eq_true hd
        have HK := Lib.hid (show k + 1 ≤ S by have := span_more hx (by rw [← HS.out]; exact hk) hd; rw [HS.out]; exact this)
        obtain ⟨ud, hud⟩ : ∃ ud, ud = u.depth := ⟨_, rfl⟩
        obtain ⟨xd, hxd⟩ : ∃ xd, xd = x.depth := ⟨_, rfl⟩
        rw [← hud] at z1 hd1
        rw [← hxd] at z2 hd1
        clear hx hvx hd hud hxd
        go_wp2_with fail
        go_quiet (fail)
        go_wp2_with fail
        go_roundw
        case rel => exact ⟨k + 1, HK.out, by go_num, Lib.hid (HB.out.trans ⟨rfl, rfl, rfl, Nat.le_refl _, fun _ _ => rfl⟩)⟩
        case measure => simp [intOf]; omega
      · have hd1 : decide (u.depth < x.depth) = false := decide_eq_false hd
        have HK := Lib.hid (show S = k by have := span_stop hx (by rw [← HS.out]; exact hk) hd; rw [HS.out]; exact this)
        obtain ⟨ud, hud⟩ : ∃ ud, ud = u.depth := ⟨_, rfl⟩
        obtain ⟨xd, hxd⟩ : ∃ xd, xd = x.depth := ⟨_, rfl⟩
        rw [← hud] at z1 hd1
        rw [← hxd] at z2 hd1
        clear hx hvx hd hud hxd
        go_wp2_with fail
        go_quiet (fail)
        go_wp2_with fail
        go_ret
        exact ⟨ret_sl (by rw [HK.out]; omega), HB.out.trans ⟨rfl, rfl, rfl, Nat.le_refl _, fun _ _ => rfl⟩⟩
    · have HK := Lib.hid (show S = k by omega)
      have hd0 : decide ((k : Int) + 1 < (N : Int)) = false := decide_eq_false (by omega)
      go_wp2_with fail
      go_quiet (fail)
      go_wp2_with fail
      go_ret
      exact ⟨ret_sl (by rw [HK.out]; omega), HB.out.trans ⟨rfl, rfl, rfl, Nat.le_refl _, fun _ _ => rfl⟩⟩
open Go.RowKit
def glyphV (n : Nd) (wd hg : Int) : Value := .iface 201 (.agg #[.int .i64 n.kind, .int .i64 n.depth, .int .i64 n.sign, .int .i64 n.turn, .bool n.mirror, .int .i64 n.state, .int .i64 n.min, .int .i64 n.max, .int .i64 wd, .int .i64 hg])
def gapV (n : Nd) : Value := .iface 204 (.agg #[.int .i64 n.kind, .int .i64 n.depth, .int .i64 n.sign, .int .i64 n.turn, .bool n.mirror, .int .i64 n.state, .int .i64 n.min, .int .i64 n.max])
set_option maxRecDepth 100000 in
set_option maxHeartbeats 8000000 in
theorem shapeG_any (L : Lm) (cw mw : Bool) (a1 a2 b1 b2 pw qw : Nat) (n : Nd) (k : Nat) (sg : Sm) (w : World) (A2 : Option Addr) (n2 c2 : Nat) (hl : LmOk w L) (hkd : n.kind = 1) (hs : n.sign = k) (hk : L.ms[k]? = some sg) (ht : 0 ≤ n.turn ∧ n.turn ≤ 3) (wd hg : Int) (hsz : sizeR ⟨L.per, [sg.s]⟩ 0 n.turn = (wd, hg, 0)) :
    Calls Tryz.prog 94 #[.agg #[.int .i64 L.per, .slice L.A L.ms.length L.cap, .bool cw, .bool mw, .func (.func a1) #[] #[], .func (.func a2) #[] #[], .func (.func 172) #[] #[.pointer (some ⟨pw, 0, none⟩)], .func (.func b1) #[] #[], .func (.func b2) #[] #[], .func (.func 172) #[] #[.pointer (some ⟨qw, 0, none⟩)]], n.val, .slice A2 n2 c2] w
      fun e w' => e = .returned (glyphV n wd hg) ∧ Below w.heap.size w w' := by
  have HG := Lib.hid (fun wx (hb : Below w.heap.size w wx) => bglyph_any L cw mw a1 a2 b1 b2 pw qw n k sg wx (hl.below hb) hs hk ht wd hg hsz)
  obtain ⟨nk, nd, ns, nt, nm, nst, nmn, nmx⟩ := n
  dsimp only at hkd hs ht HG
  subst hkd hs
  unfold Nd.val at HG ⊢
  dsimp only at HG ⊢
  clear hl hk hsz ht
  unfold glyphV
  dsimp only
  go_enter Tryz.func94, Tryz.ntmps94
  go_wp2_with fail
  refine (HG.out _ (two_under _ _ _)).mono ?_; rintro e w3 ⟨rfl, hb3⟩
  have HB := Lib.hid (below_more (two_under _ _ _) hb3)
  clear hb3
  go_wp2
  go_ret
  exact ⟨rfl, HB.out⟩
set_option maxRecDepth 100000 in
set_option maxHeartbeats 8000000 in
theorem shapeGap_any (L : Lm) (cw mw : Bool) (a1 a2 b1 b2 pw qw : Nat) (n : Nd) (w : World) (A2 : Option Addr) (n2 c2 : Nat) (hkd : n.kind = 6) :
    Calls Tryz.prog 94 #[.agg #[.int .i64 L.per, .slice L.A L.ms.length L.cap, .bool cw, .bool mw, .func (.func a1) #[] #[], .func (.func a2) #[] #[], .func (.func 172) #[] #[.pointer (some ⟨pw, 0, none⟩)], .func (.func b1) #[] #[], .func (.func b2) #[] #[], .func (.func 172) #[] #[.pointer (some ⟨qw, 0, none⟩)]], n.val, .slice A2 n2 c2] w
      fun e w' => e = .returned (gapV n) ∧ Below w.heap.size w w' := by
  obtain ⟨nk, nd, ns, nt, nm, nst, nmn, nmx⟩ := n
  dsimp only at hkd
  subst hkd
  unfold Nd.val gapV
  dsimp only
  go_enter Tryz.func94, Tryz.ntmps94
  go_wp2
  go_ret
  exact ⟨rfl, two_under _ _ _⟩
set_option maxRecDepth 100000 in
set_option maxHeartbeats 4000000 in
theorem gapsize_any (k d s t : Int) (m : Bool) (st mn mx : Int) (w : World) (h : 0 ≤ mx ∧ mx ≤ 1000000) :
    Calls Tryz.prog 218 #[.agg #[.int .i64 k, .int .i64 d, .int .i64 s, .int .i64 t, .bool m, .int .i64 st, .int .i64 mn, .int .i64 mx]] w fun e w' => e = .returned (.tuple #[.int .i64 (12 * mx), .int .i64 24]) ∧ Below w.heap.size w w' := by
  obtain ⟨a1, a2⟩ := h
  go_enter Tryz.func218, Tryz.ntmps218
  go_wp2
  go_ret2
  exact ⟨rfl, below_alloc _ _⟩
open Go.RowKit
inductive Shp where
  | gly (n : Nd) (wd hg : Int)
  | gap (n : Nd)
  | ovl (n1 : Nd) (w1 h1 : Int) (n2 : Nd) (w2 h2 : Int)
  | row (sp : Int) (ks : List Shp)
  | col (sp : Int) (ks : List Shp)
  | rng (n : Nd) (s : Shp)
mutual
def Shp.size : Shp → Int × Int
  | .gly _ a b => (4 * a, 4 * b)
  | .gap n => (12 * n.max, 24)
  | .ovl _ a b _ _ _ => (4 * a, 4 * b)
  | .row sp ks => (sp * ((ks.length : Int) - 1) + sumW ks, maxH ks)
  | .col sp ks => (maxW ks, sp * ((ks.length : Int) - 1) + sumH ks)
  | .rng _ s => (s.size.1 + 24, s.size.2 + 24)
def sumW : List Shp → Int
  | [] => 0
  | k :: r => k.size.1 + sumW r
def sumH : List Shp → Int
  | [] => 0
  | k :: r => k.size.2 + sumH r
def maxW : List Shp → Int
  | [] => 0
  | k :: r => max k.size.1 (maxW r)
def maxH : List Shp → Int
  | [] => 0
  | k :: r => max k.size.2 (maxH r)
end
mutual
def ShV (w : World) : Shp → Value → Prop
  | .gly n a b, v => v = glyphV n a b
  | .gap n, v => v = gapV n
  | .ovl n1 w1 h1 n2 w2 h2, v => v = .iface 206 (.agg #[.int .i64 n1.kind, .int .i64 n1.depth, .int .i64 n1.sign, .int .i64 n1.turn, .bool n1.mirror, .int .i64 n1.state, .int .i64 n1.min, .int .i64 n1.max, .int .i64 w1, .int .i64 h1, .int .i64 n2.kind, .int .i64 n2.depth, .int .i64 n2.sign, .int .i64 n2.turn, .bool n2.mirror, .int .i64 n2.state, .int .i64 n2.min, .int .i64 n2.max, .int .i64 w2, .int .i64 h2])
  | .row sp ks, v => ∃ A c, v = .iface 209 (.agg #[.int .i64 sp, .slice A ks.length c]) ∧ ks.length ≤ c ∧ c ≤ maxLen ∧ ShVs w A 0 ks
  | .col sp ks, v => ∃ A c, v = .iface 210 (.agg #[.int .i64 sp, .slice A ks.length c]) ∧ ks.length ≤ c ∧ c ≤ maxLen ∧ ShVs w A 0 ks
  | .rng n s, v => ∃ u, v = .iface 212 (.agg #[.int .i64 n.kind, .int .i64 n.depth, .int .i64 n.sign, .int .i64 n.turn, .bool n.mirror, .int .i64 n.state, .int .i64 n.min, .int .i64 n.max, u]) ∧ ShV w s u
def ShVs (w : World) (A : Option Addr) : Nat → List Shp → Prop
  | _, [] => True
  | i, k :: r => (∃ b o u, A = some ⟨b, o, none⟩ ∧ b < w.heap.size ∧ w.cell? ⟨b, o + i, none⟩ = some u ∧ ShV w k u) ∧ ShVs w A (i + 1) r
end
mutual
theorem ShV.below {w w' : World} (hb : Below w.heap.size w w') : ∀ (s : Shp) (v : Value), ShV w s v → ShV w' s v
  | .gly _ _ _, _, h => h
  | .gap _, _, h => h
  | .ovl _ _ _ _ _ _, _, h => h
  | .row _ ks, _, ⟨A, c, e, h1, h2, h3⟩ => ⟨A, c, e, h1, h2, ShVs.below hb A 0 ks h3⟩
  | .col _ ks, _, ⟨A, c, e, h1, h2, h3⟩ => ⟨A, c, e, h1, h2, ShVs.below hb A 0 ks h3⟩
  | .rng _ s, _, ⟨u, e, h⟩ => ⟨u, e, ShV.below hb s u h⟩
theorem ShVs.below {w w' : World} (hb : Below w.heap.size w w') (A : Option Addr) : ∀ (i : Nat) (ks : List Shp), ShVs w A i ks → ShVs w' A i ks
  | _, [], _ => trivial
  | i, k :: r, ⟨⟨b, o, u, e, hlt, hc, hk⟩, hr⟩ => ⟨⟨b, o, u, e, Nat.lt_of_lt_of_le hlt hb.size, (hb.cell (p := ⟨b, o + i, none⟩) hlt).trans hc, ShV.below hb k u hk⟩, ShVs.below hb A (i + 1) r hr⟩
end
theorem ShVs.at_ {w : World} {A : Option Addr} : ∀ (ks : List Shp) (i j : Nat) (k : Shp), ShVs w A i ks → ks[j]? = some k → ∃ b o u, A = some ⟨b, o, none⟩ ∧ b < w.heap.size ∧ w.cell? ⟨b, o + (i + j), none⟩ = some u ∧ ShV w k u
  | [], _, _, _, _, h => by simp at h
  | x :: r, i, 0, k, ⟨h, _⟩, hk => by injection hk with hk; subst hk; exact h
  | x :: r, i, j + 1, k, ⟨_, h⟩, hk => by
    obtain ⟨b, o, u, h1, h2, h3, h4⟩ := ShVs.at_ r (i + 1) j k h hk
    exact ⟨b, o, u, h1, h2, by rw [show i + (j + 1) = i + 1 + j by omega]; exact h3, h4⟩
end Go.Proofs.YtmiokllpdmmfhaaGreat
