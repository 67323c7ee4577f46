/-
  The specification's parent of a node.
-/
import Derived.Test.YtbfedahonfjpfaaGRkd
namespace Go.Proofs.Ytbfedahonfjpfaa
open Go.RowKit

def depthAt (ns : List Nd) (k : Nat) : Int := (getN ns k).depth
def parentF (ns : List Nd) (d : Int) : Nat → Int
  | 0 => -1
  | k + 1 => if depthAt ns k < d then (k : Int) else parentF ns d k
def parentR (ns : List Nd) (i : Nat) : Int := parentF ns (depthAt ns i) i

set_option maxRecDepth 100000 in
set_option maxHeartbeats 4000000 in
theorem rparent_any (A : Option Addr) (cap i : Nat) (ns : List Nd) (u : Nd) (w : World) (hn : NdsAt w A ns) (hsm : ns.length ≤ 1000000) (hi : ns[i]? = some u) :
    Calls Try.prog 63 #[.agg #[.slice A ns.length cap], .int .i64 i] w fun e w' => e = .returned (.int .i64 (parentR ns i)) ∧ Below w.heap.size w w' := by
  have HNS := Lib.hid hn
  obtain ⟨b, o, hA, hb, hva⟩ := hn i u hi
  subst hA
  have hiN : i < ns.length := (List.getElem?_eq_some_iff.1 hi).1
  obtain ⟨d, hd⟩ : ∃ d, d = u.depth := ⟨_, rfl⟩
  have HPR := Lib.hid (show parentR ns i = parentF ns d i by unfold parentR depthAt; rw [getN_at hi, hd])
  have HVD := Lib.hid (show w.cell? ⟨b, o + i * 8 + 1, none⟩ = some (.int .i64 d) by rw [hd]; exact hva.c1)
  obtain ⟨N, hN⟩ : ∃ N, N = ns.length := ⟨_, rfl⟩
  have HN := Lib.hid hN
  rw [← hN] at hsm hiN ⊢
  clear hn hva hd hi hN
  have HWb := Lib.hid (below_alloc w (.cells #[.slice (some ⟨b, o, none⟩) N cap] 27))
  have HX := Lib.hid (heap_alloc_new w (.cells #[.slice (some ⟨b, o, none⟩) N cap] 27))
  go_enter Try.func63, Try.ntmps63
  go_wp2_with fail
  generalize hWW : w.alloc (.cells #[.slice (some ⟨b, o, none⟩) N cap] 27) = W at HWb HX ⊢
  clear hWW
  go_loopw [5] (fun c wr => ∃ k : Nat, k ≤ i ∧ c = .int .i64 ((k : Int) - 1) ∧ Hid (parentF ns d i = parentF ns d k) ∧ Hid (Below W.heap.size W wr)) (fun c _ => (intOf c + 1).toNat)
  case atStart => exact ⟨i, Nat.le_refl _, rfl, Lib.hid rfl, Lib.hid (Below.refl _ _)⟩
  case round =>
    obtain ⟨k, hk, rfl, hp, hbw⟩ := hrel
    have HBW := Lib.hid hbw.out
    have HPF := Lib.hid hp.out
    clear hbw hp
    have x0 := cell_of_blk (blk_keep HBW.out HX.out) 0
    simp at x0
    have HBB := Lib.hid (below_more HWb.out HBW.out)
    by_cases h0 : k = 0
    · subst h0
      have HF := Lib.hid (show parentR ns i = -1 by rw [HPR.out, HPF.out]; rfl)
      go_wp2_with fail
      go_ret
      exact ⟨of_int HF.out.symm, HBB.out⟩
    · obtain ⟨q, rfl⟩ : ∃ q, k = q + 1 := ⟨k - 1, by omega⟩
      rw [show ((q + 1 : Nat) : Int) - 1 = (q : Int) by omega]
      obtain ⟨x, hx⟩ : ∃ x, ns[q]? = some x := ⟨_, List.getElem?_eq_getElem (by have := HN.out; omega)⟩
      obtain ⟨b', o', e, hb', hvx⟩ := HNS.out q x hx
      injection e with e; injection e with e1 e2
      subst e1 e2
      have z1 := (hvx.below HBB.out hb').c1
      have z2 := (HBB.out.cell (p := ⟨b, o + i * 8 + 1, none⟩) hb').trans HVD.out
      have hqN : q < N := by omega
      have hs0 : b < wr.heap.size := by have := HBB.out.size; omega
      have hs1 : w.heap.size < wr.heap.size := (Array.getElem?_eq_some_iff.1 (blk_keep HBW.out HX.out)).1
      obtain ⟨dx, hdx⟩ : ∃ dx, dx = x.depth := ⟨_, rfl⟩
      rw [← hdx] at z1
      have HDA := Lib.hid (show parentF ns d (q + 1) = if dx < d then (q : Int) else parentF ns d q by rw [parentF]; unfold depthAt; rw [getN_at hx, hdx])
      clear hx hvx hdx
      by_cases hlt : dx < d
      · have HF := Lib.hid (show parentR ns i = q by rw [HPR.out, HPF.out, HDA.out, if_pos hlt])
        go_wp2_with fail
        refine wp_region_later (by kernel_rfl) (by kernel_rfl) ?_; (repeat (first | go_big_quiet_step (fail) | quiet_step (fail))); refine wpQuiet_nil ?_; rintro _ ⟨s, rfl⟩
        have HB5 := Lib.hid (below_more HBB.out s.below)
        generalize s.w = W5 at HB5 ⊢
        go_wp2_with fail
        go_ret
        exact ⟨of_int HF.out.symm, HB5.out⟩
      · have HF := Lib.hid (show parentF ns d i = parentF ns d q by rw [HPF.out, HDA.out, if_neg hlt])
        go_wp2_with fail
        refine wp_region_later (by kernel_rfl) (by kernel_rfl) ?_; (repeat (first | go_big_quiet_step (fail) | quiet_step (fail))); refine wpQuiet_nil ?_; rintro _ ⟨s, rfl⟩
        have HB5 := Lib.hid (below_more HBW.out s.below)
        generalize s.w = W5 at HB5 ⊢
        go_wp2_with fail
        go_roundw
        case rel => exact ⟨q, by omega, rfl, HF, HB5⟩
        case measure => simp [intOf] <;> omega

end Go.Proofs.Ytbfedahonfjpfaa
