/-
  Contracts of Size, the program's and the specification's, and of SameValues.
-/
import Derived.Test.YthnhpgmohhaeaaaDoorVals
namespace Go.Proofs.YthnhpgmohhaeaaaDoor
open Go.RowKit

def whOf (l : Li) (i : Int) : Int × Int := match l.signs[i.toNat]? with
  | some s => (s.wide, s.high)
  | none => (0, 0)
def sizeR (l : Li) (i t : Int) : Int × Int × Int :=
  if checkErr l ≠ 0 then (0, 0, checkErr l) else if hasB l.signs.length i = false ∨ t < 0 ∨ 3 < t then (0, 0, 1) else if t = 1 ∨ t = 3 then ((whOf l i).2, (whOf l i).1, 0) else ((whOf l i).1, (whOf l i).2, 0)
def GotSize (w : World) (q : Int × Int × Int) (e : Ending) (w' : World) : Prop := e = .returned (.tuple #[.int .i64 q.1, .int .i64 q.2.1, .int .i64 q.2.2]) ∧ Below w.heap.size w w'

set_option maxHeartbeats 1600000 in
theorem size_any (l : Lm) (i t : Int) (w : World) (hl : LmOk w l) :
    Calls Tryd.prog 22 #[l.val, .int .i64 i, .int .i64 t] w (GotSize w (sizeR l.li i t)) := by
  have H0 := Lib.hid (show LmOk (w.alloc (.cells #[.int .i64 l.per, .slice l.A l.ms.length l.cap] 24)) l from hl.below (below_alloc _ _))
  have C0 := Lib.hid (heap_alloc_new w (.cells #[.int .i64 l.per, .slice l.A l.ms.length l.cap] 24))
  have HCK := Lib.hid (fun (w : World) (hl : LmOk w l) (r : Int) (h : checkErr l.li = r) => show Calls Tryd.prog 17 #[.agg #[.int .i64 l.per, .slice l.A l.ms.length l.cap]] w (fun e w' => e = .returned (.int .i64 r) ∧ Below w.heap.size w w') by rw [← h]; exact check_any l w hl)
  have HH := Lib.hid (fun (w : World) (hl : LmOk w l) (i : Int) (r : Bool) (h : hasB l.ms.length i = r) => show Calls Tryd.prog 48 #[.agg #[.int .i64 l.per, .slice l.A l.ms.length l.cap], .int .i64 i] w (fun e w' => e = .returned (.bool r) ∧ Below w.heap.size w w') from has_is l i w hl r h)
  have hll : l.li.signs.length = l.ms.length := l.length_signs
  have HG := Lib.hid (show ∀ i t, sizeR l.li i t = if checkErr l.li ≠ 0 then (0, 0, checkErr l.li) else if hasB l.ms.length i = false ∨ t < 0 ∨ 3 < t then (0, 0, 1) else if t = 1 ∨ t = 3 then ((whOf l.li i).2, (whOf l.li i).1, 0) else ((whOf l.li i).1, (whOf l.li i).2, 0) from fun i t => by
    unfold sizeR; rw [hll])
  clear hll
  show Calls _ _ #[.agg #[.int .i64 l.per, .slice l.A l.ms.length l.cap], .int .i64 i, .int .i64 t] w _
  obtain ⟨E, hE⟩ : ∃ E, E = checkErr l.li := ⟨_, rfl⟩
  have HE := Lib.hid hE.symm
  by_cases h0 : E = 0
  case neg =>
    have hb : (E != 0) = true := by simpa using h0
    have HF := Lib.hid (show sizeR l.li i t = (0, 0, E) by rw [HG.out, HE.out, if_pos h0])
    clear hE h0
    go_enter Tryd.func22, Tryd.ntmps22
    go_wp2_with fail
    refine (HCK.out _ H0.out E HE.out).mono ?_; rintro e w1 ⟨rfl, hb1⟩
    go_wp2
    refine bodyPost_ret (v := .tuple #[.int .i64 0, .int .i64 0, .int .i64 E]) (by simp [results, Tryd.results22, go_sem]) rfl ?_
    rw [HF.out]
    exact ⟨rfl, below_of hb1⟩
  subst h0
  clear hE
  have HG1 := Lib.hid (show ∀ i t, sizeR l.li i t = if hasB l.ms.length i = false ∨ t < 0 ∨ 3 < t then (0, 0, 1) else if t = 1 ∨ t = 3 then ((whOf l.li i).2, (whOf l.li i).1, 0) else ((whOf l.li i).1, (whOf l.li i).2, 0) from fun i t => by rw [HG.out, HE.out]; rfl)
  obtain ⟨B, hB⟩ : ∃ B, hasB l.ms.length i = B := ⟨_, rfl⟩
  have HBB := Lib.hid hB
  by_cases hbad : B = false ∨ t < 0 ∨ 3 < t
  · have HF := Lib.hid (show sizeR l.li i t = (0, 0, 1) by rw [HG1.out, hB, if_pos hbad])
    have H2 := Lib.hid (fun w1 (hb : Below (w.alloc (.cells #[.int .i64 l.per, .slice l.A l.ms.length l.cap] 24)).heap.size (w.alloc (.cells #[.int .i64 l.per, .slice l.A l.ms.length l.cap] 24)) w1) => H0.out.below hb)
    clear hB
    by_cases hBf : B = false
    · subst hBf
      clear hbad
      go_enter Tryd.func22, Tryd.ntmps22
      go_wp2_with fail
      refine (HCK.out _ H0.out 0 HE.out).mono ?_; rintro e w1 ⟨rfl, hb1⟩
      have x0 := cell_of_blk (blk_keep hb1 C0.out) 0
      have x1 := cell_of_blk (blk_keep hb1 C0.out) 1
      simp at x0 x1
      have L1 := Lib.hid (H0.out.below hb1)
      have b1 := Lib.hid (below_of hb1)
      clear hb1
      go_wp2_with fail
      refine (HH.out _ L1.out i false HBB.out).mono ?_; rintro e w2 ⟨rfl, hb2⟩
      go_wp2
      refine bodyPost_ret (v := .tuple #[.int .i64 0, .int .i64 0, .int .i64 1]) (by simp [results, Tryd.results22, go_sem]) rfl ?_
      rw [HF.out]
      exact ⟨rfl, below_more b1.out hb2⟩
    · have hBf : B = true := by simpa using hBf
      subst hBf
      by_cases ht : t < 0
      · clear hbad
        go_enter Tryd.func22, Tryd.ntmps22
        go_wp2_with fail
        refine (HCK.out _ H0.out 0 HE.out).mono ?_; rintro e w1 ⟨rfl, hb1⟩
        have x0 := cell_of_blk (blk_keep hb1 C0.out) 0
        have x1 := cell_of_blk (blk_keep hb1 C0.out) 1
        simp at x0 x1
        have L1 := Lib.hid (H0.out.below hb1)
        have b1 := Lib.hid (below_of hb1)
        clear hb1
        go_wp2_with fail
        refine (HH.out _ L1.out i true HBB.out).mono ?_; rintro e w2 ⟨rfl, hb2⟩
        go_wp2
        refine bodyPost_ret (v := .tuple #[.int .i64 0, .int .i64 0, .int .i64 1]) (by simp [results, Tryd.results22, go_sem]) rfl ?_
        rw [HF.out]
        exact ⟨rfl, below_more b1.out hb2⟩
      · have ht3 : 3 < t := by rcases hbad with h | h | h; · cases h
                               · exact absurd h ht
                               · exact h
        clear hbad
        go_enter Tryd.func22, Tryd.ntmps22
        go_wp2_with fail
        refine (HCK.out _ H0.out 0 HE.out).mono ?_; rintro e w1 ⟨rfl, hb1⟩
        have x0 := cell_of_blk (blk_keep hb1 C0.out) 0
        have x1 := cell_of_blk (blk_keep hb1 C0.out) 1
        simp at x0 x1
        have L1 := Lib.hid (H0.out.below hb1)
        have b1 := Lib.hid (below_of hb1)
        clear hb1
        go_wp2_with fail
        refine (HH.out _ L1.out i true HBB.out).mono ?_; rintro e w2 ⟨rfl, hb2⟩
        go_wp2
        refine bodyPost_ret (v := .tuple #[.int .i64 0, .int .i64 0, .int .i64 1]) (by simp [results, Tryd.results22, go_sem]) rfl ?_
        rw [HF.out]
        exact ⟨rfl, below_more b1.out hb2⟩
  have ht : t = 0 ∨ t = 1 ∨ t = 2 ∨ t = 3 := by omega
  have hBt : B = true := by cases B <;> simp_all
  subst hBt
  obtain ⟨k, u, rfl, hk, hget⟩ := has_at (l := l) (i := i) (by rw [Lm.length_signs]; exact hB)
  have HW := Lib.hid (show whOf l.li k = (u.s.wide, u.s.high) by
    unfold whOf
    rw [show l.li.signs[(k : Int).toNat]? = some u.s by rw [Int.toNat_natCast]; exact Lm.getElem_signs hget])
  obtain ⟨b, o, hA, hb0, hva, hok⟩ := hl.signs k u hget
  have HVA := Lib.hid hva
  have hlen := hl.len
  have hcap := hl.cap
  have hcap' := hcap
  unfold maxLen at hcap'
  clear hget hva hok hl hbad hB
  obtain ⟨per, ms, A, cap⟩ := l
  dsimp only at hA hk hlen hcap H0 C0 HE HBB HG1 HW HCK HH hcap' ⊢
  subst hA
  generalize hnn : ms.length = n at *
  clear hnn
  clear HG
  have HG2 := Lib.hid (show ∀ t, ¬ (t < 0 ∨ 3 < t) → sizeR (Lm.mk per ms (some ⟨b, o, none⟩) cap).li k t = if t = 1 ∨ t = 3 then (u.s.high, u.s.wide, 0) else (u.s.wide, u.s.high, 0) from fun t ht => by
    rw [HG1.out, if_neg (by rw [HBB.out]; simpa using ht), HW.out])
  clear HG1
  rcases ht with rfl | rfl | rfl | rfl
  · have HF := Lib.hid (show sizeR (Lm.mk per ms (some ⟨b, o, none⟩) cap).li k 0 = (u.s.wide, u.s.high, 0) by rw [HG2.out _ (by decide)]; simp)
    go_enter Tryd.func22, Tryd.ntmps22
    go_wp2_with fail
    refine (HCK.out _ H0.out 0 HE.out).mono ?_; rintro e w1 ⟨rfl, hb1⟩
    have x0 := cell_of_blk (blk_keep hb1 C0.out) 0
    have x1 := cell_of_blk (blk_keep hb1 C0.out) 1
    simp at x0 x1
    have L1 := Lib.hid (H0.out.below hb1)
    have C1 := Lib.hid (blk_keep hb1 C0.out)
    have b1 := Lib.hid (below_of hb1)
    clear hb1
    go_wp2_with fail
    refine (HH.out _ L1.out k true HBB.out).mono ?_; rintro e w2 ⟨rfl, hb2⟩
    have z0 := cell_of_blk (blk_keep hb2 C1.out) 0
    have z1 := cell_of_blk (blk_keep hb2 C1.out) 1
    simp at z0 z1
    have b2 := Lib.hid (below_more b1.out hb2)
    obtain ⟨y0, y1, y2, y3, y4⟩ := HVA.out.below b2.out hb0
    have hb0' : b < w2.heap.size := by have := b2.out.size; omega
    clear hb2 x0 x1
    go_wp2_with fail
    refine wp_region_later (by kernel_rfl) (by kernel_rfl) ?_; (repeat (first | go_big_quiet_step (fail) | quiet_step (fail))); refine wpQuiet_nil ?_; rintro _ ⟨s, rfl⟩
    go_wp2
    refine bodyPost_ret (v := .tuple #[.int .i64 u.s.wide, .int .i64 u.s.high, .int .i64 0]) (by simp [results, Tryd.results22, go_sem]) rfl ?_
    rw [HF.out]
    exact ⟨rfl, below_more b2.out (below1 s)⟩
  · have HF := Lib.hid (show sizeR (Lm.mk per ms (some ⟨b, o, none⟩) cap).li k 1 = (u.s.high, u.s.wide, 0) by rw [HG2.out _ (by decide)]; simp)
    go_enter Tryd.func22, Tryd.ntmps22
    go_wp2_with fail
    refine (HCK.out _ H0.out 0 HE.out).mono ?_; rintro e w1 ⟨rfl, hb1⟩
    have x0 := cell_of_blk (blk_keep hb1 C0.out) 0
    have x1 := cell_of_blk (blk_keep hb1 C0.out) 1
    simp at x0 x1
    have L1 := Lib.hid (H0.out.below hb1)
    have C1 := Lib.hid (blk_keep hb1 C0.out)
    have b1 := Lib.hid (below_of hb1)
    clear hb1
    go_wp2_with fail
    refine (HH.out _ L1.out k true HBB.out).mono ?_; rintro e w2 ⟨rfl, hb2⟩
    have z0 := cell_of_blk (blk_keep hb2 C1.out) 0
    have z1 := cell_of_blk (blk_keep hb2 C1.out) 1
    simp at z0 z1
    have b2 := Lib.hid (below_more b1.out hb2)
    obtain ⟨y0, y1, y2, y3, y4⟩ := HVA.out.below b2.out hb0
    have hb0' : b < w2.heap.size := by have := b2.out.size; omega
    clear hb2 x0 x1
    go_wp2_with fail
    refine wp_region_later (by kernel_rfl) (by kernel_rfl) ?_; (repeat (first | go_big_quiet_step (fail) | quiet_step (fail))); refine wpQuiet_nil ?_; rintro _ ⟨s, rfl⟩
    go_wp2
    refine bodyPost_ret (v := .tuple #[.int .i64 u.s.high, .int .i64 u.s.wide, .int .i64 0]) (by simp [results, Tryd.results22, go_sem]) rfl ?_
    rw [HF.out]
    exact ⟨rfl, below_more b2.out (below1 s)⟩
  · have HF := Lib.hid (show sizeR (Lm.mk per ms (some ⟨b, o, none⟩) cap).li k 2 = (u.s.wide, u.s.high, 0) by rw [HG2.out _ (by decide)]; simp)
    go_enter Tryd.func22, Tryd.ntmps22
    go_wp2_with fail
    refine (HCK.out _ H0.out 0 HE.out).mono ?_; rintro e w1 ⟨rfl, hb1⟩
    have x0 := cell_of_blk (blk_keep hb1 C0.out) 0
    have x1 := cell_of_blk (blk_keep hb1 C0.out) 1
    simp at x0 x1
    have L1 := Lib.hid (H0.out.below hb1)
    have C1 := Lib.hid (blk_keep hb1 C0.out)
    have b1 := Lib.hid (below_of hb1)
    clear hb1
    go_wp2_with fail
    refine (HH.out _ L1.out k true HBB.out).mono ?_; rintro e w2 ⟨rfl, hb2⟩
    have z0 := cell_of_blk (blk_keep hb2 C1.out) 0
    have z1 := cell_of_blk (blk_keep hb2 C1.out) 1
    simp at z0 z1
    have b2 := Lib.hid (below_more b1.out hb2)
    obtain ⟨y0, y1, y2, y3, y4⟩ := HVA.out.below b2.out hb0
    have hb0' : b < w2.heap.size := by have := b2.out.size; omega
    clear hb2 x0 x1
    go_wp2_with fail
    refine wp_region_later (by kernel_rfl) (by kernel_rfl) ?_; (repeat (first | go_big_quiet_step (fail) | quiet_step (fail))); refine wpQuiet_nil ?_; rintro _ ⟨s, rfl⟩
    go_wp2
    refine bodyPost_ret (v := .tuple #[.int .i64 u.s.wide, .int .i64 u.s.high, .int .i64 0]) (by simp [results, Tryd.results22, go_sem]) rfl ?_
    rw [HF.out]
    exact ⟨rfl, below_more b2.out (below1 s)⟩
  · have HF := Lib.hid (show sizeR (Lm.mk per ms (some ⟨b, o, none⟩) cap).li k 3 = (u.s.high, u.s.wide, 0) by rw [HG2.out _ (by decide)]; simp)
    go_enter Tryd.func22, Tryd.ntmps22
    go_wp2_with fail
    refine (HCK.out _ H0.out 0 HE.out).mono ?_; rintro e w1 ⟨rfl, hb1⟩
    have x0 := cell_of_blk (blk_keep hb1 C0.out) 0
    have x1 := cell_of_blk (blk_keep hb1 C0.out) 1
    simp at x0 x1
    have L1 := Lib.hid (H0.out.below hb1)
    have C1 := Lib.hid (blk_keep hb1 C0.out)
    have b1 := Lib.hid (below_of hb1)
    clear hb1
    go_wp2_with fail
    refine (HH.out _ L1.out k true HBB.out).mono ?_; rintro e w2 ⟨rfl, hb2⟩
    have z0 := cell_of_blk (blk_keep hb2 C1.out) 0
    have z1 := cell_of_blk (blk_keep hb2 C1.out) 1
    simp at z0 z1
    have b2 := Lib.hid (below_more b1.out hb2)
    obtain ⟨y0, y1, y2, y3, y4⟩ := HVA.out.below b2.out hb0
    have hb0' : b < w2.heap.size := by have := b2.out.size; omega
    clear hb2 x0 x1
    go_wp2_with fail
    refine wp_region_later (by kernel_rfl) (by kernel_rfl) ?_; (repeat (first | go_big_quiet_step (fail) | quiet_step (fail))); refine wpQuiet_nil ?_; rintro _ ⟨s, rfl⟩
    go_wp2
    refine bodyPost_ret (v := .tuple #[.int .i64 u.s.high, .int .i64 u.s.wide, .int .i64 0]) (by simp [results, Tryd.results22, go_sem]) rfl ?_
    rw [HF.out]
    exact ⟨rfl, below_more b2.out (below1 s)⟩

end Go.Proofs.YthnhpgmohhaeaaaDoor
