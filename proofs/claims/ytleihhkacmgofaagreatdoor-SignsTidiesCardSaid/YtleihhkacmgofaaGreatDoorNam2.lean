/-
  Contract of Name.
-/
import Derived.Test.YtleihhkacmgofaaGreatDoorName
namespace Go.Proofs.YtleihhkacmgofaaGreatDoor
open Go.RowKit

theorem idx_bd (x : Int) : ∀ (zs : List Int) (i : Nat), Lib.idxFrom zs x i = -1 ∨ ((i : Int) ≤ Lib.idxFrom zs x i ∧ Lib.idxFrom zs x i < i + zs.length)
  | [], i => by simp [Lib.idxFrom]
  | z :: zs, i => by
    unfold Lib.idxFrom
    split
    · right; simp; omega
    · rcases idx_bd x zs (i + 1) with h | h
      · exact .inl h
      · right; simp at h ⊢; omega
theorem index_ints (A : Option Addr) (c : Nat) (zs : List Int) (x : Int) (w : World) (h : IntsAt w A zs) (hn : A = none → zs = []) (hz : zs.length ≤ 1000000) :
    Calls Tryz.prog 37 #[.slice A zs.length c, .int .i64 x] w fun e w' => e = .returned (.int .i64 (Lib.idxOf zs x)) ∧ w = w' := by
  cases hA : A with
  | none =>
    have := hn hA; subst this
    exact (Tryz.slices_Index_int_empty none c x w).mono fun _ _ ⟨h1, h2⟩ => ⟨h1, h2.symm⟩
  | some ad =>
    obtain ⟨g, rfl, _, hc⟩ := h ad hA
    have := Tryz.slices_Index_int g 0 zs.length c zs x w (Nat.le_refl _) (by omega) (fun j hj => by rw [Nat.zero_add]; exact hc j hj)
    rw [List.take_length] at this
    exact this.mono fun _ _ ⟨h1, h2⟩ => ⟨h1, h2.symm⟩
theorem itoa_any (n : Int) (h0 : 0 ≤ n) (h1 : n ≤ 1000001) (w : World) (hE : Env w) :
    Calls Tryz.prog 39 #[.int .i64 n] w fun e w' => e = .returned (.string ⟨(Lib.itoa n).toArray⟩) ∧ Below w.heap.size w w' := by
  refine (Tryz.strconv_Itoa n (by omega) (by omega) w hE.pow).mono ?_
  rintro e w' ⟨rfl, k, os, rfl⟩
  refine ⟨rfl, rfl, rfl, rfl, ?_, fun j hj => ?_⟩
  · show w.heap.size ≤ (w.heap ++ os).size
    simp
  · show (w.heap ++ os)[j]? = w.heap[j]?
    rw [Array.getElem?_append_left hj]
theorem itoa_len (n : Int) (h0 : 0 ≤ n) (h1 : n ≤ 1000001) : (Lib.itoa n).length ≤ 1000 := by
  obtain ⟨k, rfl⟩ := Int.eq_ofNat_of_zero_le h0
  have : ∀ u, u < 10000000 → (Lib.decDigits u).length ≤ 7 := by
    intro u hu
    unfold Lib.decDigits; split
    · simp
    unfold Lib.decDigits; split
    · simp
    unfold Lib.decDigits; split
    · simp
    unfold Lib.decDigits; split
    · simp
    unfold Lib.decDigits; split
    · simp
    unfold Lib.decDigits; split
    · simp
    unfold Lib.decDigits; split
    · simp
    omega
  unfold Lib.itoa
  rw [if_neg (by omega)]
  have := this k (by omega)
  simp; omega

/-- Name -/
def nameR (l : Li) (i : Int) (t : ByteArray) (p : Int) : ByteArray × Int :=
  if sipErr l i p ≠ 0 then (⟨#[]⟩, sipErr l i p)
  else if Lib.idxOf (bearFrom 1 t p 0 l.signs) i = -1 then (⟨#[]⟩, 3)
  else if Lib.idxOf (bearFrom 1 t p 0 l.signs) i = 0 then (t, 0)
  else (t ++ ⟨(Lib.itoa (Lib.idxOf (bearFrom 1 t p 0 l.signs) i + 1)).toArray⟩, 0)
theorem ret_si {a : ByteArray} {b : Int} {p : ByteArray × Int} (h : (a, b) = p) : Ending.returned (.tuple #[.string a, .int .i64 b]) = .returned (.tuple #[.string p.1, .int .i64 p.2]) := by
  rw [← h]
theorem sip_is (l : Lm) (i p : Int) (w : World) (hl : LmOk w l) (r : Int) (h : sipErr l.li i p = r) : Calls Tryz.prog 36 #[l.val, .int .i64 i, .int .i64 p] w fun e w' => e = .returned (.int .i64 r) ∧ Below w.heap.size w w' := by
  rw [← h]; exact sip_any l i p w hl

set_option maxHeartbeats 1600000 in
theorem name_of (l : Lm) (i : Int) (t : ByteArray) (p : Int) (w : World) (hE : Env w) (hl : LmOk w l) (hsm : l.ms.length ≤ 1000000) (ht : t.size ≤ 1000000) :
    Calls Tryz.prog 21 #[l.val, .int .i64 i, .string t, .int .i64 p] w fun e w' => e = .returned (.tuple #[.string (nameR l.li i t p).1, .int .i64 (nameR l.li i t p).2]) ∧ Below w.heap.size w w' := by
  have H0 := Lib.hid (show LmOk (w.alloc (.cells #[.int .i64 l.per, .slice l.A l.ms.length l.cap] 24)) l from hl.below (below_alloc _ _))
  have C0 := Lib.hid (heap_alloc_new w (.cells #[.int .i64 l.per, .slice l.A l.ms.length l.cap] 24))
  show Calls _ _ #[.agg #[.int .i64 l.per, .slice l.A l.ms.length l.cap], .int .i64 i, .string t, .int .i64 p] w _
  obtain ⟨E, hE'⟩ : ∃ E, E = sipErr l.li i p := ⟨_, rfl⟩
  have HE := Lib.hid hE'.symm
  have HT := Lib.hid ht
  have HSM := Lib.hid hsm
  clear ht hsm
  by_cases h0 : E = 0
  case neg =>
    have hb : (E != 0) = true := by simpa using h0
    have HF := Lib.hid (show nameR l.li i t p = (⟨#[]⟩, E) by unfold nameR; rw [HE.out, if_pos h0])
    clear hE' h0
    go_enter Tryz.func21, Tryz.ntmps21
    go_wp2_with fail
    refine (sip_is l i p _ H0.out E HE.out).mono ?_; rintro e w1 ⟨rfl, hb1⟩
    go_wp2
    go_ret2
    exact ⟨ret_si HF.out.symm, below_of hb1⟩
  subst h0
  clear hE'
  obtain ⟨zs, hzs⟩ : ∃ zs, zs = bearFrom 1 t p 0 l.signs := ⟨_, rfl⟩
  have hzl : zs.length ≤ l.ms.length := by rw [hzs]; have := bearFrom_len 1 t p l.signs 0; rw [Lm.length_signs] at this; exact this
  have HZL := Lib.hid (Nat.le_trans hzl HSM.out)
  obtain ⟨I, hI⟩ : ∃ I, I = Lib.idxOf zs i := ⟨_, rfl⟩
  have hIb : I = -1 ∨ (0 ≤ I ∧ I < zs.length) := by have := idx_bd i zs 0; rw [hI]; simpa [Lib.idxOf] using this
  have HR := Lib.hid (show nameR l.li i t p = if I = -1 then (⟨#[]⟩, 3) else if I = 0 then (t, 0) else (t ++ ⟨(Lib.itoa (I + 1)).toArray⟩, 0) by
    unfold nameR; rw [HE.out, if_neg (by simp), show l.li.signs = l.signs from rfl, ← hzs, ← hI])
  have HB := Lib.hid (fun (w : World) (hl : LmOk w l) => show Calls Tryz.prog 38 #[.agg #[.int .i64 l.per, .slice l.A l.ms.length l.cap], .agg #[.int .i64 1, .string t], .int .i64 p] w (GotInts w zs) by
    rw [hzs]; exact bearers_any l 1 t p w hl HSM.out)
  have HX := Lib.hid (fun (A : Option Addr) (c : Nat) (w : World) (h : IntsAt w A zs) (hn : A = none → zs = []) => show Calls Tryz.prog 37 #[.slice A zs.length c, .int .i64 i] w fun e w' => e = .returned (.int .i64 I) ∧ w = w' by
    rw [hI]; exact index_ints A c zs i w h hn HZL.out)
  clear hzs hI hzl
  rcases hIb with hI | ⟨hI0, hI1⟩
  · subst hI
    have HF := Lib.hid (show nameR l.li i t p = (⟨#[]⟩, 3) by rw [HR.out]; rfl)
    go_enter Tryz.func21, Tryz.ntmps21
    go_wp2_with fail
    refine (sip_is l i p _ H0.out 0 HE.out).mono ?_; rintro e w1 ⟨rfl, hb1⟩
    have x0 := cell_of_blk (blk_keep hb1 C0.out) 0
    have x1 := cell_of_blk (blk_keep hb1 C0.out) 1
    simp at x0 x1
    have b1 := Lib.hid (below_of hb1)
    have H2 := Lib.hid (H0.out.below hb1)
    clear hb1
    go_wp2_with fail
    refine (HB.out _ H2.out).mono ?_; rintro e w2 ⟨A, c, rfl, hi, hn, hb2⟩
    have b2 := Lib.hid (below_more b1.out hb2)
    have HI := Lib.hid hi
    have HN := Lib.hid hn
    clear hb2 hi hn
    go_wp2_with fail
    refine (HX.out _ _ _ HI.out HN.out).mono ?_; rintro e w' ⟨rfl, rfl⟩
    go_wp2
    go_ret2
    exact ⟨ret_si HF.out.symm, b2.out⟩
  have hm1 : (I == -1) = false := by rw [beq_eq_false_iff_ne]; omega
  by_cases hz : I = 0
  · subst hz
    have HF := Lib.hid (show nameR l.li i t p = (t, 0) by rw [HR.out]; rfl)
    go_enter Tryz.func21, Tryz.ntmps21
    go_wp2_with fail
    refine (sip_is l i p _ H0.out 0 HE.out).mono ?_; rintro e w1 ⟨rfl, hb1⟩
    have x0 := cell_of_blk (blk_keep hb1 C0.out) 0
    have x1 := cell_of_blk (blk_keep hb1 C0.out) 1
    simp at x0 x1
    have b1 := Lib.hid (below_of hb1)
    have H2 := Lib.hid (H0.out.below hb1)
    clear hb1
    go_wp2_with fail
    refine (HB.out _ H2.out).mono ?_; rintro e w2 ⟨A, c, rfl, hi, hn, hb2⟩
    have b2 := Lib.hid (below_more b1.out hb2)
    have HI := Lib.hid hi
    have HN := Lib.hid hn
    clear hb2 hi hn
    go_wp2_with fail
    refine (HX.out _ _ _ HI.out HN.out).mono ?_; rintro e w' ⟨rfl, rfl⟩
    go_wp2
    go_ret2
    exact ⟨ret_si HF.out.symm, b2.out⟩
  have hz1 : (I == 0) = false := by rw [beq_eq_false_iff_ne]; omega
  have HF := Lib.hid (show nameR l.li i t p = (t ++ ⟨(Lib.itoa (I + 1)).toArray⟩, 0) by rw [HR.out, if_neg (by omega), if_neg hz])
  have hIu : I + 1 ≤ 1000001 := by have := HZL.out; omega
  have HIL := Lib.hid (itoa_len (I + 1) (by omega) hIu)
  obtain ⟨D, hD⟩ : ∃ D : ByteArray, D = ⟨(Lib.itoa (I + 1)).toArray⟩ := ⟨_, rfl⟩
  have hDs : D.size ≤ 1000 := by rw [hD]; show (Lib.itoa (I + 1)).toArray.size ≤ 1000; rw [List.size_toArray]; exact HIL.out
  have HIT := Lib.hid (fun (w : World) (hE : Env w) => show Calls Tryz.prog 39 #[.int .i64 (I + 1)] w fun e w' => e = .returned (.string D) ∧ Below w.heap.size w w' by
    rw [hD]; exact itoa_any (I + 1) (by omega) hIu w hE)
  rw [← hD] at HF
  have hsum : t.size + D.size ≤ 9223372036854775807 := by have := HT.out; omega
  clear hD
  go_enter Tryz.func21, Tryz.ntmps21
  go_wp2_with fail
  refine (sip_is l i p _ H0.out 0 HE.out).mono ?_; rintro e w1 ⟨rfl, hb1⟩
  have x0 := cell_of_blk (blk_keep hb1 C0.out) 0
  have x1 := cell_of_blk (blk_keep hb1 C0.out) 1
  simp at x0 x1
  have b1 := Lib.hid (below_of hb1)
  have H2 := Lib.hid (H0.out.below hb1)
  clear hb1
  go_wp2_with fail
  refine (HB.out _ H2.out).mono ?_; rintro e w2 ⟨A, c, rfl, hi, hn, hb2⟩
  have b2 := Lib.hid (below_more b1.out hb2)
  have HI := Lib.hid hi
  have HN := Lib.hid hn
  clear hb2 hi hn
  go_wp2_with fail
  refine (HX.out _ _ _ HI.out HN.out).mono ?_; rintro e w' ⟨rfl, rfl⟩
  go_wp2_with fail
  refine (HIT.out _ (hE.below b2.out)).mono ?_; rintro e w3 ⟨rfl, hb3⟩
  have b3 := Lib.hid (below_more b2.out hb3)
  clear hb3
  go_wp2
  go_ret2
  exact ⟨ret_si HF.out.symm, b3.out⟩

end Go.Proofs.YtleihhkacmgofaaGreatDoor
