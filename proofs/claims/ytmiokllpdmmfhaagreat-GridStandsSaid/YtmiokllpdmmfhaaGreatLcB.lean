/-
  The answers of Natural and Scale. And what builds on it.
-/
import Derived.Test.YtmiokllpdmmfhaaGreatLbD
import Derived.Test.YtmiokllpdmmfhaaGreatLbC
import Derived.Test.YtmiokllpdmmfhaaGreatLaK
import Derived.Test.YtmiokllpdmmfhaaGreatRsi
import Derived.Test.YtmiokllpdmmfhaaGreatLaH
namespace Go.Proofs.YtmiokllpdmmfhaaGreat
open Go.RowKit
def bothE (l : Li) (ns : List Nd) (way len : Int) : Int := if textErr l ns ≠ 0 then textErr l ns else pageErr way len
theorem both_ok {l : Li} {ns : List Nd} {way len : Int} (h : bothE l ns way len = 0) : textErr l ns = 0 ∧ pageErr way len = 0 := by
  unfold bothE at h
  split at h
  · omega
  · exact ⟨by omega, h⟩
open Go.RowKit
set_option maxRecDepth 100000 in
set_option maxHeartbeats 8000000 in
theorem rboth_any (L : Lm) (A : Option Addr) (cap : Nat) (ns : List Nd) (way len : Int) (w : World) (hl : LmOk w L) (hn : NdsAt w A ns) (hc1 : ns.length ≤ cap) (hc : cap ≤ maxLen) :
    Calls Tryz.prog 57 #[.agg #[.int .i64 L.per, .slice L.A L.ms.length L.cap], .agg #[.slice A ns.length cap], .agg #[.int .i64 way, .int .i64 len]] w fun e w' => e = .returned (.int .i64 (bothE L.li ns way len)) ∧ Below w.heap.size w w' := by
  obtain ⟨E, hE⟩ : ∃ E, textErr L.li ns = E := ⟨_, rfl⟩
  have HCK := Lib.hid (fun wx (hb : Below w.heap.size w wx) => show Calls Tryz.prog 43 #[.agg #[.int .i64 L.per, .slice L.A L.ms.length L.cap], .agg #[.slice A ns.length cap]] wx (fun e w' => e = .returned (.int .i64 E) ∧ Below wx.heap.size wx w') from rgcheck_is L A cap ns wx (hl.below hb) (hn.below hb) hc1 hc E hE)
  have HPG := Lib.hid (fun wx => rpage_any way len wx)
  have HR := Lib.hid (show bothE L.li ns way len = if E ≠ 0 then E else pageErr way len by unfold bothE; rw [hE])
  obtain ⟨R, hR⟩ : ∃ R, R = bothE L.li ns way len := ⟨_, rfl⟩
  obtain ⟨G, hG⟩ : ∃ G, G = pageErr way len := ⟨_, rfl⟩
  rw [← hR, ← hG] at HR
  rw [← hG] at HPG
  rw [← hR]
  obtain ⟨N, hN⟩ : ∃ N, N = ns.length := ⟨_, rfl⟩
  rw [← hN] at HCK hc1 ⊢
  unfold maxLen at hc
  clear hl hn hE hR hG hN
  obtain ⟨W1, hW1⟩ : ∃ W', W' = w.alloc (.cells #[.int .i64 L.per, .slice L.A L.ms.length L.cap] 24) := ⟨_, rfl⟩; obtain ⟨W2, hW2⟩ : ∃ W', W' = W1.alloc (.cells #[.slice A N cap] 27) := ⟨_, rfl⟩; obtain ⟨W, hW⟩ : ∃ W', W' = W2.alloc (.cells #[.int .i64 way, .int .i64 len] 31) := ⟨_, rfl⟩; have szW1 : W1.heap.size = w.heap.size + 1 := (by rw [hW1]; simp); have kbW1 : Below w.heap.size w W1 := hW1 ▸ below_alloc _ _; have szW2 : W2.heap.size = w.heap.size + 1 + 1 := (by rw [hW2]; simp [szW1]); have kbW2 : Below W1.heap.size W1 W2 := hW2 ▸ below_alloc _ _; have szW : W.heap.size = w.heap.size + 1 + 1 + 1 := (by rw [hW]; simp [szW2]); have kbW : Below W2.heap.size W2 W := hW ▸ below_alloc _ _; have HB := Lib.hid (below_more (below_more kbW1 kbW2) kbW); have D0 := Lib.hid (blk_keep kbW (blk_keep kbW2 (show W1.heap[w.heap.size]? = some (.cells #[.int .i64 L.per, .slice L.A L.ms.length L.cap] 24 (0, 0)) by rw [hW1]; exact heap_alloc_new _ _))); have D1 := Lib.hid (blk_keep kbW (show W2.heap[w.heap.size + 1]? = some (.cells #[.slice A N cap] 27 (0, 0)) by rw [hW2, ← szW1]; exact heap_alloc_new _ _)); have D2 := Lib.hid (show W.heap[w.heap.size + 1 + 1]? = some (.cells #[.int .i64 way, .int .i64 len] 31 (0, 0)) by rw [hW, ← szW2]; exact heap_alloc_new _ _); have SZW := Lib.hid szW; clear szW1 kbW1 szW2 kbW2 szW kbW
  have x0 := cell_of_blk D0.out 0; have x1 := cell_of_blk D0.out 1; have hz_x := (Array.getElem?_eq_some_iff.1 D0.out).1; simp at x0 x1
  have y0 := cell_of_blk D1.out 0; have hz_y := (Array.getElem?_eq_some_iff.1 D1.out).1; simp at y0
  go_enter Tryz.func57, Tryz.ntmps57
  go_wp2_with fail
  rw [← hW1, ← hW2, ← hW]; clear hW1 hW2 hW
  go_wp2_with fail
  refine (HCK.out _ HB.out).mono ?_; rintro e w1 ⟨rfl, hb1⟩
  have HB1 := Lib.hid (below_more HB.out hb1)
  have D2 := Lib.hid (blk_keep hb1 D2.out)
  clear hb1 x0 x1 hz_x y0 hz_y
  by_cases h0 : E = 0
  · subst h0
    have HF := Lib.hid (show R = G by rw [HR.out]; simp)
    clear HR
    have p0 := cell_of_blk D2.out 0; have p1 := cell_of_blk D2.out 1; have hz_p := (Array.getElem?_eq_some_iff.1 D2.out).1; simp at p0 p1
    go_wp2_with fail
    refine (HPG.out _).mono ?_; rintro e w2 ⟨rfl, hb2⟩
    have HB2 := Lib.hid (below_more HB1.out hb2)
    clear hb2 p0 p1 hz_p
    go_wp2_with fail
    go_ret
    exact ⟨of_int HF.out.symm, HB2.out⟩
  · have hb : (E != 0) = true := by simpa using h0
    have HF := Lib.hid (show R = E by rw [HR.out, if_pos h0])
    clear HR h0
    go_wp2_with fail
    go_ret
    exact ⟨of_int HF.out.symm, HB1.out⟩
theorem rboth_is (L : Lm) (A : Option Addr) (cap : Nat) (ns : List Nd) (way len : Int) (w : World) (hl : LmOk w L) (hn : NdsAt w A ns) (hc1 : ns.length ≤ cap) (hc : cap ≤ maxLen) (E : Int) (h : bothE L.li ns way len = E) :
    Calls Tryz.prog 57 #[.agg #[.int .i64 L.per, .slice L.A L.ms.length L.cap], .agg #[.slice A ns.length cap], .agg #[.int .i64 way, .int .i64 len]] w fun e w' => e = .returned (.int .i64 E) ∧ Below w.heap.size w w' := by
  rw [← h]; exact rboth_any L A cap ns way len w hl hn hc1 hc
end Go.Proofs.YtmiokllpdmmfhaaGreat
