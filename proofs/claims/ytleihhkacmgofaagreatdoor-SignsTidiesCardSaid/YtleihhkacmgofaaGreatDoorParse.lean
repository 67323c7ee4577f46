/-
  Contract of Parse.
-/
import Derived.Test.YtleihhkacmgofaaGreatDoorPlines
namespace Go.Proofs.YtleihhkacmgofaaGreatDoor
open Go.RowKit

theorem ret_p {L : Lm} {a b : Int} {p : Li × Int × Int} {v : Value} (hv : v = L.val) (h1 : a = p.2.1) (h2 : b = p.2.2) : Ending.returned (.tuple #[v, .int .i64 a, .int .i64 b]) = .returned (.tuple #[L.val, .int .i64 p.2.1, .int .i64 p.2.2]) := by
  rw [hv, h1, h2]
/-- a list that was parsed, the line, the error -/
def GotParse (w : World) (r : Li × Int × Int) (e : Ending) (w' : World) : Prop :=
  ∃ L : Lm, e = .returned (.tuple #[L.val, .int .i64 r.2.1, .int .i64 r.2.2]) ∧ LmOk w' L ∧ L.li = r.1 ∧ Below w.heap.size w w'
theorem lmok_set {w w' : World} {L : Lm} {B g : Nat} (h : LmOk w L) (hf : Fresh B L) (hg : g < B) (hs : w'.heap.size = w.heap.size) (hk : ∀ b, b ≠ g → w'.heap[b]? = w.heap[b]?) : LmOk w' L := by
  refine ⟨fun k m hk' => ?_, h.len, h.cap⟩
  obtain ⟨b, o, e, hlt, hat, hok⟩ := h.signs k m hk'
  have hbg : b ≠ g := by have := hf.1 b o e; omega
  have hc : ∀ p, w'.cell? ⟨b, p, none⟩ = w.cell? ⟨b, p, none⟩ := fun p => World.cell?_of_block (a := ⟨b, p, none⟩) (hk b hbg)
  exact ⟨b, o, e, by omega, ⟨(hc _).trans hat.c0, (hc _).trans hat.c1, (hc _).trans hat.c2, (hc _).trans hat.c3, (hc _).trans hat.c4⟩, smok_of_blocks hok (by omega) (fun b o e _ => hk b (by have := hf.2 m (List.mem_of_getElem? hk') b o e; omega))⟩
theorem check_is' (l : Lm) (w : World) (hl : LmOk w l) (i : Int) (h : checkErr l.li = i) : Calls Tryz.prog 22 #[l.val] w fun e w' => e = .returned (.int .i64 i) ∧ Below w.heap.size w w' := by
  rw [← h]; exact check_any l w hl

set_option maxHeartbeats 1600000 in
theorem parse_any (t : ByteArray) (w : World) (hE : Env w) (hs : t.size ≤ 100000) : Calls Tryz.prog 20 #[.string t] w (GotParse w (parseP t)) := by
  have hE0 := Lib.hid (hE.below (below_alloc w (.cells #[.int .i64 0, .slice none 0 0] 24)))
  have hB0 := Lib.hid (heap_alloc_new w (.cells #[.int .i64 0, .slice none 0 0] 24))
  have hb0 := Lib.hid (below_alloc w (.cells #[.int .i64 0, .slice none 0 0] 24))
  by_cases h1 : t.size ≤ 65536
  case neg =>
    have HF := Lib.hid (show parseP t = (⟨0, []⟩, 0, 2) by unfold parseP; rw [if_pos (by omega)])
    go_enter Tryz.func20, Tryz.ntmps20
    go_wp2_with fail
    refine bodyPost_ret (v := .tuple #[Lm.val zeroLm, .int .i64 0, .int .i64 2]) (by simp [results, Tryz.results20, go_sem, zeroLm, Lm.val]) rfl ⟨zeroLm, ret_p rfl (by rw [HF.out]) (by rw [HF.out]), lmok_zero _, by rw [HF.out]; rfl, ?_⟩
    exact hb0.out
  obtain ⟨⟨li, ln⟩, hp⟩ : ∃ p, p = allP t := ⟨_, rfl⟩
  have HP := Lib.hid (show parseP t = if 0 < ln then (⟨0, []⟩, ln, 4) else if checkErr li ≠ 0 then (⟨0, []⟩, 0, checkErr li) else (li, 0, 0) by
    unfold parseP; rw [if_neg (by omega), ← hp])
  have HL := Lib.hid (fun (w : World) (hE : Env w) => show Calls Tryz.prog 35 #[.string t] w (GotLines w (li, ln)) by rw [hp]; exact lines_any t w hE hs)
  clear hp
  go_enter Tryz.func20, Tryz.ntmps20
  go_wp2_with fail
  refine (HL.out _ hE0.out).mono ?_; rintro e w1 ⟨⟨per, ms, A, cap⟩, rfl, hok, hli, hb, hfr⟩
  have hli : (⟨per, ms, A, cap⟩ : Lm).li = li := hli
  unfold Lm.val
  dsimp only
  have B1 := Lib.hid (blk_below hb hB0.out)
  have b1 := Lib.hid (below_more hb0.out hb)
  have HOK := Lib.hid hok
  have HLI := Lib.hid hli
  have HFR := Lib.hid (show Fresh (w.heap.size + 1) ⟨per, ms, A, cap⟩ by simpa using hfr)
  have q0 := cell_of_blk B1.out 0
  have q1 := cell_of_blk B1.out 1
  simp at q0 q1
  have f0 := free_of_blk B1.out 0
  have f1 := free_of_blk B1.out 1
  clear hok hli hb hfr hB0 hb0 HL
  go_upto_region 4 with fail
  have B2 := Lib.hid (heap_setCell_same _ w.heap.size 1 (.slice A ms.length cap) _ _ (heap_setCell_same w1 w.heap.size 0 (.int .i64 per) _ _ B1.out))
  have b2 := Lib.hid (below_set2 b1.out (.int .i64 per) (.slice A ms.length cap))
  have HOK2 := Lib.hid (lmok_set (w' := (w1.setCell ⟨w.heap.size, 0, none⟩ (.int .i64 per)).setCell ⟨w.heap.size, 1, none⟩ (.slice A ms.length cap)) HOK.out HFR.out (Nat.lt_succ_self _) (by simp) (fun b hb => by
    rw [heap_setCell_other _ _ _ _ hb, heap_setCell_other _ _ _ _ hb]))
  generalize hw2 : (w1.setCell ⟨w.heap.size, 0, none⟩ (.int .i64 per)).setCell ⟨w.heap.size, 1, none⟩ (.slice A ms.length cap) = w2 at B2 b2 HOK2 ⊢
  clear hw2 q0 q1 f0 f1 B1 b1 HOK
  have B2 := Lib.hid (show w2.heap[w.heap.size]? = some (.cells #[.int .i64 per, .slice A ms.length cap] 24 (0, 0)) from B2.out)
  have q0 := cell_of_blk B2.out 0
  have q1 := cell_of_blk B2.out 1
  simp at q0 q1
  have f0 := free_of_blk B2.out 0
  have f1 := free_of_blk B2.out 1
  by_cases hln : 0 < ln
  · have HF := Lib.hid (show parseP t = (⟨0, []⟩, ln, 4) by rw [HP.out, if_pos hln])
    go_wp2_with fail
    refine bodyPost_ret (v := .tuple #[Lm.val zeroLm, .int .i64 ln, .int .i64 4]) (by simp [results, Tryz.results20, go_sem, q0, q1, zeroLm, Lm.val]) rfl ⟨zeroLm, ret_p rfl (by rw [HF.out]) (by rw [HF.out]), lmok_zero _, by rw [HF.out]; rfl, below_set2 b2.out _ _⟩
  have HP2 := Lib.hid (show parseP t = if checkErr li ≠ 0 then (⟨0, []⟩, 0, checkErr li) else (li, 0, 0) by rw [HP.out, if_neg hln])
  obtain ⟨E, hE'⟩ : ∃ E, E = checkErr li := ⟨_, rfl⟩
  have HCK := Lib.hid (show checkErr (⟨per, ms, A, cap⟩ : Lm).li = E by rw [HLI.out]; exact hE'.symm)
  by_cases h0 : E = 0
  · subst h0
    have HF := Lib.hid (show parseP t = (li, 0, 0) by rw [HP2.out, ← hE']; rfl)
    clear hE'
    go_wp2_with fail
    refine (check_is' ⟨per, ms, A, cap⟩ _ HOK2.out 0 HCK.out).mono ?_; rintro e w3 ⟨rfl, hb3⟩
    have B3 := Lib.hid (blk_below hb3 B2.out)
    have b3 := Lib.hid (below_more b2.out hb3)
    have HOK3 := Lib.hid (HOK2.out.below hb3)
    clear q0 q1 f0 f1 hb3
    have q0 := cell_of_blk B3.out 0
    have q1 := cell_of_blk B3.out 1
    simp at q0 q1
    have f0 := free_of_blk B3.out 0
    have f1 := free_of_blk B3.out 1
    go_wp2_with fail
    refine bodyPost_ret (v := .tuple #[Lm.val ⟨per, ms, A, cap⟩, .int .i64 0, .int .i64 0]) (by simp [results, Tryz.results20, go_sem, q0, q1, Lm.val]) rfl ⟨⟨per, ms, A, cap⟩, ret_p rfl (by rw [HF.out]) (by rw [HF.out]), ?_, by rw [HF.out]; exact HLI.out, below_set2 b3.out _ _⟩
    exact lmok_set HOK3.out HFR.out (Nat.lt_succ_self _) (by simp) (fun b hb => by
      rw [heap_setCell_other _ _ _ _ hb, heap_setCell_other _ _ _ _ hb])
  · have HF := Lib.hid (show parseP t = (⟨0, []⟩, 0, E) by rw [HP2.out, ← hE', if_pos h0])
    have hbE : (E != 0) = true := by simpa using h0
    clear hE' h0
    go_wp2_with fail
    refine (check_is' ⟨per, ms, A, cap⟩ _ HOK2.out E HCK.out).mono ?_; rintro e w3 ⟨rfl, hb3⟩
    have B3 := Lib.hid (blk_below hb3 B2.out)
    have b3 := Lib.hid (below_more b2.out hb3)
    clear q0 q1 f0 f1 hb3
    have q0 := cell_of_blk B3.out 0
    have q1 := cell_of_blk B3.out 1
    simp at q0 q1
    have f0 := free_of_blk B3.out 0
    have f1 := free_of_blk B3.out 1
    go_wp2_with fail
    refine bodyPost_ret (v := .tuple #[Lm.val zeroLm, .int .i64 0, .int .i64 E]) (by simp [results, Tryz.results20, go_sem, q0, q1, zeroLm, Lm.val]) rfl ⟨zeroLm, ret_p rfl (by rw [HF.out]) (by rw [HF.out]), lmok_zero _, by rw [HF.out]; rfl, below_set2 b3.out _ _⟩

end Go.Proofs.YtleihhkacmgofaaGreatDoor
