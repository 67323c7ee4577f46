/-
  fewestHands of the program (layer 9).
-/
import Derived.Test.YtcpfhaoecggflaaZHof
namespace Go.Proofs.Ytcpfhaoecggflaa
open Go.RowKit

def GotHf (w : World) (ap : Nat → Nat → Bool) (n : Nat) (e : Ending) (w' : World) : Prop :=
  ∃ A c l, e = .returned (.slice A l.length c) ∧ Hid (IsHands ap n l) ∧ Hid (w'.ownsRow w.heap.size 3 1 (.slice A l.length c) l.length (natsV l)) ∧ Below w.heap.size w w'

set_option maxRecDepth 100000 in
set_option maxHeartbeats 6400000 in
theorem fewest_any (ap : Nat → Nat → Bool) (n : Nat) (cs : List Value) (hl : cs.length = 64) (hcs : TbOk cs ap n) (hn8 : n ≤ 8) (w : World) :
    Calls Try.prog 73 #[.int .i64 n, .agg cs.toArray] w (GotHf w ap n) := by
  obtain ⟨W, hW⟩ : ∃ W', W' = w.alloc (.cells cs.toArray 122) := ⟨_, rfl⟩
  have HBW := Lib.hid (show Below w.heap.size w W from hW ▸ below_alloc _ _)
  have HW0 := Lib.hid (show W.heap[w.heap.size]? = some (.cells cs.toArray 122 (0, 0)) from hW ▸ heap_alloc_new _ _)
  have HCS := Lib.hid hcs
  have HLC := Lib.hid hl
  clear hcs hl
  go_enter Try.func73, Try.ntmps73
  go_wp2
  rw [← hW]
  clear hW
  go_loopw [5] (fun u wr => ∃ m : Nat, m ≤ n ∧ u = .int .i64 m ∧ Hid (∀ j, j < m → giveF ap n j n [] = none) ∧ Hid (Below W.heap.size W wr)) (fun u _ => n + 1 - (intOf u).toNat)
  case atStart => exact ⟨0, Nat.zero_le _, rfl, Lib.hid (fun j h => absurd h (Nat.not_lt_zero j)), Lib.hid (Below.refl _ _)⟩
  case round =>
    obtain ⟨m, hm, rfl, hnone, hb⟩ := hrel
    have HB0 := Lib.hid (blk_keep hb.out HW0.out)
    have HRA := Lib.hid (show wr.rangeAt w.heap.size 0 cs from fun j v hv => by
      rw [Nat.zero_add, cell_of_blk HB0.out, List.getElem?_toArray]; exact hv)
    have HCA := Lib.hid (handsOf_any ap n m cs HCS.out hn8 (by omega) wr)
    obtain ⟨r, hr⟩ : ∃ r, r = giveF ap n m n [] := ⟨_, rfl⟩
    have HR := Lib.hid hr
    rw [← hr] at HCA
    clear hr
    go_wp2_with (refine wpList_load_mid rfl 122 (.tmp 3) rfl w.heap.size 0 rfl cs _ HRA.out Try.underlying122 rfl (by rw [HLC.out]; kernel_rfl) ?_)
    refine HCA.out.mono ?_; rintro e w1 ⟨A, c, l, rfl, hl, hown, hb1⟩
    have HB1 := Lib.hid (below_more hb.out hb1)
    have HOW := Lib.hid (own_baseG (b' := w.heap.size) hown.out (by have := HBW.out.size; have := hb.out.size; omega))
    clear hb1 hown HCA
    cases r with
    | some l2 =>
      have hll : l = l2 := hl.out
      subst hll
      have HG := Lib.hid (show GotHf w ap n (.returned (.slice A l.length c)) w1 from ⟨A, c, l, rfl, Lib.hid ⟨m, HR.out.symm, hnone.out⟩, HOW, below_more HBW.out HB1.out⟩)
      have e1 : (some l).isSome = true := rfl
      clear hl
      go_wp2
      go_ret
      exact HG.out
    | none =>
      have hmn : m < n := by
        by_cases e : m = n
        · subst e
          obtain ⟨l3, h3⟩ := giveF_all ap m m [] (by simp) (by simp) small_nil (by simp [usedOf])
          rw [← HR.out] at h3
          cases h3
        · omega
      have e1 : (none : Option (List Nat)).isSome = false := rfl
      clear hl
      go_wp2
      go_roundw
      case rel => exact ⟨m + 1, by omega, by go_num, Lib.hid (fun j hj => by
        by_cases e : j = m
        · rw [e]; exact HR.out.symm
        · exact hnone.out j (by omega)), HB1⟩
      case measure => simp [intOf]; omega

end Go.Proofs.Ytcpfhaoecggflaa
