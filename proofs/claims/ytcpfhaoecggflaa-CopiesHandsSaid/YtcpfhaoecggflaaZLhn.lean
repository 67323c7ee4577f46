/-
  Contract of the law of Hands: it returns true (layer 9).
-/
import Derived.Test.YtcpfhaoecggflaaZHnd
import Derived.Test.YtcpfhaoecggflaaZRhn
import Derived.Test.YtcpfhaoecggflaaZWrk
namespace Go.Proofs.Ytcpfhaoecggflaa
open Go.RowKit

theorem IsHn.len {L : List Tr} {n d E : Int} {l : List Nat} (h : IsHn L n d E l) : l.length ≤ 8 := by
  rcases h with ⟨_, _, rfl⟩ | ⟨_, _, _, rfl⟩ | ⟨_, _, _, rfl⟩ | ⟨a1, _, _, _, m, a5, _⟩
  · simp
  · simp
  · simp
  · rw [giveF_len _ _ _ _ _ _ a5]; exact a1
theorem toZ_len (l : List Nat) : (toZ l).length = l.length := by unfold toZ; rw [List.length_map]

set_option maxRecDepth 100000 in
set_option maxHeartbeats 8000000 in
theorem law_chands (S : Option Addr) (cs : Nat) (L : List Tr) (n d : Int) (w : World) (hS : TrsIn w S L) (hlc : L.length ≤ cs) (hcm : cs ≤ maxLen) :
    Calls Try.prog 8 #[.slice S L.length cs, .agg #[.int .i64 n, .int .i64 d]] w fun e w' => e = .returned (.bool true) ∧ Below w.heap.size w w' := by
  obtain ⟨W, hW⟩ : ∃ W', W' = w.alloc (.cells #[.int .i64 n, .int .i64 d] 53) := ⟨_, rfl⟩; have szW : W.heap.size = w.heap.size + 1 := (by rw [hW]; simp); have kbW : Below w.heap.size w W := hW ▸ below_alloc _ _; have HBW := Lib.hid (kbW); have D0 := Lib.hid (show W.heap[w.heap.size]? = some (.cells #[.int .i64 n, .int .i64 d] 53 (0, 0)) by rw [hW]; exact heap_alloc_new _ _); have SZW := Lib.hid szW; clear szW kbW
  have HP := Lib.hid (hands_any S cs L n d W (hS.below HBW.out) (Nat.le_trans hlc hcm))
  have HR := Lib.hid (fun wx (hb : Below w.heap.size w wx) => rhands_any S cs L n d wx (hS.below hb) (Nat.le_trans hlc hcm))
  unfold GotHn at HP HR
  obtain ⟨k, hk⟩ : ∃ k, k = L.length := ⟨_, rfl⟩
  rw [← hk] at HP ⊢
  rw [← hk] at HR
  clear hk hS hlc hcm
  go_enter Try.func8, Try.ntmps8
  go_wp2_with fail
  rw [← hW]; clear hW
  refine HP.out.mono ?_; rintro e w1 ⟨A1, c1, E1, l1, rfl, hi1, hz1, hb1⟩
  have HB1 := Lib.hid (below_more HBW.out hb1)
  have D0 := Lib.hid (blk_keep hb1 D0.out)
  clear hb1 HP
  have x0 := cell_of_blk D0.out 0; have x1 := cell_of_blk D0.out 1; have hz_x := (Array.getElem?_eq_some_iff.1 D0.out).1; simp at x0 x1
  go_wp2_with fail
  refine (HR.out _ (by first | exact HB1.out | exact below_more HB1.out (below_alloc _ _))).mono ?_; rintro e w2 ⟨A2, c2, E2, l2, rfl, hi2, hz2, hb2⟩
  have HB2 := Lib.hid (below_more HB1.out (by first | exact hb2 | exact below_more (below_alloc _ _) hb2))
  have HZ1 := Lib.hid (hz1.out.below (by first | exact hb2 | exact below_more (below_alloc _ _) hb2))
  obtain ⟨e1, e2⟩ := hi1.out.uniq hi2.out
  subst e1 e2
  have hl8 := hi1.out.len
  have HSM := Lib.hid (show Calls Try.prog 22 #[.slice A1 l1.length c1, .slice A2 l1.length c2] w2 (fun e w' => e = .returned (.bool true) ∧ Below w2.heap.size w2 w') by
    have h := sameI_any A1 A2 c1 c2 (toZ l1) (toZ l1) w2 HZ1.out hz2.out (by rw [toZ_len]; unfold maxLen; omega) (by rw [toZ_len]; unfold maxLen; omega)
    rw [toZ_len] at h
    simpa using h)
  clear hb2 HR hi1 hi2 hz1 hz2 HZ1 x0 x1 hz_x
  have e3 : (E1 == E1) = true := by simp
  go_wp2_with fail
  refine HSM.out.mono ?_; rintro e w3 ⟨rfl, hb3⟩
  have HB3 := Lib.hid (below_more HB2.out hb3)
  clear hb3
  go_wp2_with fail
  refine (works_any _).mono ?_; rintro e w4 ⟨rfl, hb4⟩
  go_wp2
  go_ret
  exact ⟨rfl, below_more HB3.out hb4⟩

end Go.Proofs.Ytcpfhaoecggflaa
