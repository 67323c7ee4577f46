/-
  Contracts of hasSign, checkSignInPeriod and Name.
-/
import Derived.Test.YtleihhkacmgofaaGreatDoorBear
import Derived.Test.YtleihhkacmgofaaGreatDoorPnum
namespace Go.Proofs.YtleihhkacmgofaaGreatDoor
open Go.RowKit

theorem check_is (l : Lm) (w : World) (hl : LmOk w l) (i : Int) (h : checkErr l.li = i) : Calls Tryz.prog 22 #[l.val] w fun e w' => e = .returned (.int .i64 i) ∧ Below w.heap.size w w' := by
  rw [← h]; exact check_any l w hl

def hasB (n : Nat) (i : Int) : Bool := decide (0 ≤ i) && decide (i < n)
theorem has_any (l : Lm) (i : Int) (w : World) (hl : LmOk w l) : Calls Tryz.prog 55 #[l.val, .int .i64 i] w fun e w' => e = .returned (.bool (hasB l.ms.length i)) ∧ Below w.heap.size w w' := by
  obtain ⟨per, ms, A, cap⟩ := l
  have hlen := hl.len
  have hcap := hl.cap
  unfold maxLen at hcap
  unfold Lm.val
  dsimp only at hlen hcap ⊢
  generalize ms.length = n at hlen ⊢
  by_cases h1 : 0 ≤ i
  · have hf := Lib.hid (show hasB n i = decide (i < n) by simp [hasB, h1])
    go_enter Tryz.func55, Tryz.ntmps55
    go_wp2
    go_ret
    exact ⟨of_bool hf.out.symm, below_alloc _ _⟩
  · have hf := Lib.hid (show hasB n i = false by simp [hasB]; omega)
    go_enter Tryz.func55, Tryz.ntmps55
    go_wp2
    go_ret
    exact ⟨of_bool hf.out.symm, below_alloc _ _⟩
theorem has_is (l : Lm) (i : Int) (w : World) (hl : LmOk w l) (r : Bool) (h : hasB l.ms.length i = r) : Calls Tryz.prog 55 #[l.val, .int .i64 i] w fun e w' => e = .returned (.bool r) ∧ Below w.heap.size w w' := by
  rw [← h]; exact has_any l i w hl

/-- the first error of a list, a sign's number and a period -/
def sipErr (l : Li) (i p : Int) : Int := if checkErr l ≠ 0 then checkErr l else if hasB l.signs.length i = false then 1 else if withinB p l.per = false then 13 else 0

set_option maxHeartbeats 800000 in
theorem sip_any (l : Lm) (i p : Int) (w : World) (hl : LmOk w l) : Calls Tryz.prog 36 #[l.val, .int .i64 i, .int .i64 p] w fun e w' => e = .returned (.int .i64 (sipErr l.li i p)) ∧ Below w.heap.size w w' := by
  obtain ⟨L, hL⟩ : ∃ L, L = l := ⟨_, rfl⟩
  have hll : l.li.signs.length = l.ms.length := l.length_signs
  have hper : l.li.per = l.per := rfl
  have H0 := Lib.hid (show LmOk (w.alloc (.cells #[.int .i64 l.per, .slice l.A l.ms.length l.cap] 24)) l from hl.below (below_alloc _ _))
  have HS := Lib.hid (show sipErr l.li i p = if checkErr l.li ≠ 0 then checkErr l.li else if hasB l.ms.length i = false then 1 else if withinB p l.per = false then 13 else 0 by unfold sipErr; rw [hll, hper])
  have c0 : (w.alloc (.cells #[.int .i64 l.per, .slice l.A l.ms.length l.cap] 24)).heap[w.heap.size]? = some (.cells #[.int .i64 l.per, .slice l.A l.ms.length l.cap] 24 (0, 0)) := heap_alloc_new _ _
  have C0 := Lib.hid c0
  clear hL hll hper c0
  show Calls _ _ #[.agg #[.int .i64 l.per, .slice l.A l.ms.length l.cap], .int .i64 i, .int .i64 p] w _
  obtain ⟨E, hE⟩ : ∃ E, E = checkErr l.li := ⟨_, rfl⟩
  have HE := Lib.hid hE.symm
  by_cases h0 : E = 0
  case neg =>
    have hb : (E != 0) = true := by simpa using h0
    have HF := Lib.hid (show sipErr l.li i p = E by rw [HS.out, HE.out, if_pos h0])
    clear hE h0
    go_enter Tryz.func36, Tryz.ntmps36
    go_wp2_with fail
    refine (check_is l _ H0.out E HE.out).mono ?_; rintro e w1 ⟨rfl, hb1⟩
    go_wp2
    go_ret
    exact ⟨of_int HF.out.symm, below_of hb1⟩
  subst h0
  clear hE
  cases h1 : hasB l.ms.length i with
  | false =>
    have HF := Lib.hid (show sipErr l.li i p = 1 by rw [HS.out, HE.out, if_neg (by simp), if_pos h1])
    have H1 := Lib.hid h1
    clear h1
    go_enter Tryz.func36, Tryz.ntmps36
    go_wp2_with fail
    refine (check_is l _ H0.out 0 HE.out).mono ?_; rintro e w1 ⟨rfl, hb1⟩
    have x0 := cell_of_blk (blk_keep hb1 C0.out) 0
    have x1 := cell_of_blk (blk_keep hb1 C0.out) 1
    simp at x0 x1
    have b1 := Lib.hid (below_of hb1)
    have H2 := Lib.hid (H0.out.below hb1)
    clear hb1
    go_wp2_with fail
    refine (has_is l i _ H2.out false H1.out).mono ?_; rintro e w2 ⟨rfl, hb2⟩
    go_wp2
    go_ret
    exact ⟨of_int HF.out.symm, below_more b1.out hb2⟩
  | true =>
    have H1 := Lib.hid h1
    clear h1
    cases h2 : withinB p l.per with
    | false =>
      have HF := Lib.hid (show sipErr l.li i p = 13 by rw [HS.out, HE.out, if_neg (by simp), if_neg (by rw [H1.out]; simp), if_pos h2])
      have W2 := Lib.hid h2
      clear h2
      go_enter Tryz.func36, Tryz.ntmps36
      go_wp2_with fail
      refine (check_is l _ H0.out 0 HE.out).mono ?_; rintro e w1 ⟨rfl, hb1⟩
      have x0 := cell_of_blk (blk_keep hb1 C0.out) 0
      have x1 := cell_of_blk (blk_keep hb1 C0.out) 1
      simp at x0 x1
      have C1 := Lib.hid (blk_keep hb1 C0.out)
      have b1 := Lib.hid (below_of hb1)
      have H2 := Lib.hid (H0.out.below hb1)
      clear hb1
      go_wp2_with fail
      refine (has_is l i _ H2.out true H1.out).mono ?_; rintro e w2 ⟨rfl, hb2⟩
      have z0 := cell_of_blk (blk_keep hb2 C1.out) 0
      simp at z0
      have b2 := Lib.hid (below_more b1.out hb2)
      clear hb2
      go_wp2_with fail
      refine (within_is p l.per _ false W2.out).mono ?_; rintro e w' ⟨rfl, rfl⟩
      go_wp2
      go_ret
      exact ⟨of_int HF.out.symm, b2.out⟩
    | true =>
      have HF := Lib.hid (show sipErr l.li i p = 0 by rw [HS.out, HE.out, if_neg (by simp), if_neg (by rw [H1.out]; simp), if_neg (by rw [h2]; simp)])
      have W2 := Lib.hid h2
      clear h2
      go_enter Tryz.func36, Tryz.ntmps36
      go_wp2_with fail
      refine (check_is l _ H0.out 0 HE.out).mono ?_; rintro e w1 ⟨rfl, hb1⟩
      have x0 := cell_of_blk (blk_keep hb1 C0.out) 0
      have x1 := cell_of_blk (blk_keep hb1 C0.out) 1
      simp at x0 x1
      have C1 := Lib.hid (blk_keep hb1 C0.out)
      have b1 := Lib.hid (below_of hb1)
      have H2 := Lib.hid (H0.out.below hb1)
      clear hb1
      go_wp2_with fail
      refine (has_is l i _ H2.out true H1.out).mono ?_; rintro e w2 ⟨rfl, hb2⟩
      have z0 := cell_of_blk (blk_keep hb2 C1.out) 0
      simp at z0
      have b2 := Lib.hid (below_more b1.out hb2)
      clear hb2
      go_wp2_with fail
      refine (within_is p l.per _ true W2.out).mono ?_; rintro e w' ⟨rfl, rfl⟩
      go_wp2
      go_ret
      exact ⟨of_int HF.out.symm, b2.out⟩

end Go.Proofs.YtleihhkacmgofaaGreatDoor
