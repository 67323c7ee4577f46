/-
  Contract of ParseName.
-/
import Derived.Test.YthnhpgmohhaeaaaDoorSplitN
namespace Go.Proofs.YthnhpgmohhaeaaaDoor
open Go.RowKit

def pnameR (l : Li) (s : ByteArray) (n : Nat) (p : Int) : Int × ByteArray × Int :=
  if checkErr l ≠ 0 then (0, ⟨#[]⟩, checkErr l) else if withinB p l.per = false then (0, ⟨#[]⟩, 13) else if (splitP s n).2.2 = false then (0, ⟨#[]⟩, 4)
  else if ((bearFrom 1 (splitP s n).1 p 0 l.signs).length : Int) < (splitP s n).2.1 then (0, ⟨#[]⟩, 3)
  else ((bearFrom 1 (splitP s n).1 p 0 l.signs).getD ((splitP s n).2.1 - 1).toNat 0, (splitP s n).1, 0)
theorem split_ok (s : ByteArray) (n : Nat) (h : (splitP s n).2.2 = true) : 1 ≤ (splitP s n).2.1 ∧ (splitP s n).2.1 ≤ 201 := by
  unfold splitP at *
  split at h
  · cases h
  · rename_i h1
    rw [if_neg h1]
    split at h
    · rename_i h2; rw [if_pos h2]; exact ⟨Int.le_refl 1, by show (1 : Int) ≤ 201; decide⟩
    · rename_i h2
      rw [if_neg h2]
      dsimp only at h ⊢
      unfold placeP at *
      split at h
      · cases h
      · rename_i h3
        rw [if_neg h3]
        simp at h3
        have hb := placeF_bd (bytes (s.extract n s.size)) (by simpa using h3.2)
        simp at h
        exact ⟨by dsimp only; omega, hb.2⟩
theorem ret_isi {a : Int} {b : ByteArray} {c : Int} {p : Int × ByteArray × Int} (h : (a, b, c) = p) : Ending.returned (.tuple #[.int .i64 a, .string b, .int .i64 c]) = .returned (.tuple #[.int .i64 p.1, .string p.2.1, .int .i64 p.2.2]) := by rw [← h]

set_option maxHeartbeats 1600000 in
set_option maxRecDepth 100000 in
theorem pname_any (l : Lm) (s : ByteArray) (n : Nat) (p : Int) (w : World) (hl : LmOk w l) (hsm : l.ms.length ≤ 1000000) (hs : s.size ≤ 1000000) (hn : n ≤ s.size) (hall : ((bytes s).take n).all letB = true) (hend : ∀ h : n < s.size, letB s[n] = false) :
    Calls Tryd.prog 30 #[l.val, .string s, .int .i64 p] w fun e w' => e = .returned (.tuple #[.int .i64 (pnameR l.li s n p).1, .string (pnameR l.li s n p).2.1, .int .i64 (pnameR l.li s n p).2.2]) ∧ Below w.heap.size w w' := by
  have H0 := Lib.hid (show LmOk (w.alloc (.cells #[.int .i64 l.per, .slice l.A l.ms.length l.cap] 24)) l from hl.below (below_alloc _ _))
  have C0 := Lib.hid (heap_alloc_new w (.cells #[.int .i64 l.per, .slice l.A l.ms.length l.cap] 24))
  have HS := Lib.hid (fun w => splitName_any s n w hs hn hall hend)
  have HOK := Lib.hid (split_ok s n)
  have HBR := Lib.hid (fun t w (hl : LmOk w l) => show Calls Tryd.prog 50 #[.agg #[.int .i64 l.per, .slice l.A l.ms.length l.cap], .agg #[.int .i64 1, .string t], .int .i64 p] w (GotInts w (bearFrom 1 t p 0 l.signs)) from bearers_any l 1 t p w hl hsm)
  clear hl hsm hs hn hall hend
  show Calls _ _ #[.agg #[.int .i64 l.per, .slice l.A l.ms.length l.cap], .string s, .int .i64 p] w _
  obtain ⟨E, hE⟩ : ∃ E, E = checkErr l.li := ⟨_, rfl⟩
  have HE := Lib.hid hE.symm
  by_cases h0 : E = 0
  case neg =>
    have hb : (E != 0) = true := by simpa using h0
    have HF := Lib.hid (show pnameR l.li s n p = (0, ⟨#[]⟩, E) by unfold pnameR; rw [HE.out, if_pos h0])
    clear hE h0
    go_enter Tryd.func30, Tryd.ntmps30
    go_wp2_with fail
    refine (check_is l _ H0.out E HE.out).mono ?_; rintro e w1 ⟨rfl, hb1⟩
    go_wp2
    refine bodyPost_ret (v := .tuple #[.int .i64 0, .string ⟨#[]⟩, .int .i64 E]) (by simp [results, Tryd.results30, go_sem]) rfl ?_
    exact ⟨ret_isi HF.out.symm, below_of hb1⟩
  subst h0
  clear hE
  obtain ⟨⟨st, sp, so⟩, hsp⟩ : ∃ q, q = splitP s n := ⟨_, rfl⟩
  have HG := Lib.hid (show pnameR l.li s n p = if withinB p l.per = false then (0, ⟨#[]⟩, 13) else if so = false then (0, ⟨#[]⟩, 4)
      else if ((bearFrom 1 st p 0 l.signs).length : Int) < sp then (0, ⟨#[]⟩, 3) else ((bearFrom 1 st p 0 l.signs).getD (sp - 1).toNat 0, st, 0) by
    unfold pnameR; rw [HE.out, ← hsp]; rfl)
  rw [← hsp] at HS HOK
  dsimp only at HS HOK
  clear hsp
  obtain ⟨N, hN⟩ : ∃ N, withinB p l.per = N := ⟨_, rfl⟩
  have HN := Lib.hid hN
  rw [hN] at HG
  clear hN
  cases N with
  | false =>
    go_enter Tryd.func30, Tryd.ntmps30
    go_wp2_with fail
    refine (check_is l _ H0.out 0 HE.out).mono ?_; rintro e w1 ⟨rfl, hb1⟩
    have b1 := Lib.hid (below_of hb1)
    have x0 := cell_of_blk (blk_keep hb1 C0.out) 0
    simp at x0
    clear hb1
    go_wp2_with (first | (go_at_call 40; refine (within_is _ _ _ _ HN.out).mono ?_; rintro e w' ⟨rfl, rfl⟩))
    refine bodyPost_ret (v := .tuple #[.int .i64 0, .string ⟨#[]⟩, .int .i64 13]) (by simp [results, Tryd.results30, go_sem]) rfl ?_
    exact ⟨ret_isi HG.out.symm, b1.out⟩
  | true =>
    cases so with
    | false =>
      go_enter Tryd.func30, Tryd.ntmps30
      go_wp2_with fail
      refine (check_is l _ H0.out 0 HE.out).mono ?_; rintro e w1 ⟨rfl, hb1⟩
      have b1 := Lib.hid (below_of hb1)
      have x0 := cell_of_blk (blk_keep hb1 C0.out) 0
      simp at x0
      clear hb1
      go_wp2_with (first | (go_at_call 40; refine (within_is _ _ _ _ HN.out).mono ?_; rintro e w' ⟨rfl, rfl⟩))
      refine (HS.out _).mono ?_; rintro e w2 ⟨rfl, hb2⟩
      go_wp2
      refine bodyPost_ret (v := .tuple #[.int .i64 0, .string ⟨#[]⟩, .int .i64 4]) (by simp [results, Tryd.results30, go_sem]) rfl ?_
      exact ⟨ret_isi HG.out.symm, below_more b1.out hb2⟩
    | true =>
      obtain ⟨hp1, hp2⟩ := HOK.out rfl
      obtain ⟨k, rfl⟩ : ∃ k : Nat, sp = (k : Int) + 1 := ⟨(sp - 1).toNat, by omega⟩
      obtain ⟨zs, hzs⟩ : ∃ zs, zs = bearFrom 1 st p 0 l.signs := ⟨_, rfl⟩
      have HB2 := Lib.hid (fun w hl => HBR.out st w hl)
      rw [← hzs] at HB2 HG
      clear hzs HBR
      go_enter Tryd.func30, Tryd.ntmps30
      go_wp2_with fail
      refine (check_is l _ H0.out 0 HE.out).mono ?_; rintro e w1 ⟨rfl, hb1⟩
      have b1 := Lib.hid (below_of hb1)
      have C1 := Lib.hid (blk_keep hb1 C0.out)
      have L1 := Lib.hid (H0.out.below hb1)
      have x0 := cell_of_blk C1.out 0
      simp at x0
      clear hb1
      go_wp2_with (first | (go_at_call 40; refine (within_is _ _ _ _ HN.out).mono ?_; rintro e w' ⟨rfl, rfl⟩))
      refine (HS.out _).mono ?_; rintro e w2 ⟨rfl, hb2⟩
      have b2 := Lib.hid (below_more b1.out hb2)
      have L2 := Lib.hid (L1.out.below hb2)
      have z0 := cell_of_blk (blk_keep hb2 C1.out) 0
      have z1 := cell_of_blk (blk_keep hb2 C1.out) 1
      simp at z0 z1
      clear hb2
      go_wp2_with fail
      refine (HB2.out _ L2.out).mono ?_; rintro e w3 ⟨A3, c3, rfl, hi3, hn3, hb3⟩
      have b3 := Lib.hid (below_more b2.out hb3)
      have HI := Lib.hid hi3
      have HN3 := Lib.hid hn3
      clear hb3 hi3 hn3 x0 z0 z1
      obtain ⟨m, hm⟩ : ∃ m, m = zs.length := ⟨_, rfl⟩
      have HM := Lib.hid hm
      rw [← hm] at HG ⊢
      clear hm
      by_cases hkm : m ≤ k
      · have HF := Lib.hid (show pnameR l.li s n p = (0, ⟨#[]⟩, 3) by rw [HG.out, if_neg (by decide), if_neg (by decide), if_pos (by omega)])
        go_wp2
        refine bodyPost_ret (v := .tuple #[.int .i64 0, .string ⟨#[]⟩, .int .i64 3]) (by simp [results, Tryd.results30, go_sem]) rfl ?_
        exact ⟨ret_isi HF.out.symm, b3.out⟩
      · have HF := Lib.hid (show pnameR l.li s n p = (zs.getD k 0, st, 0) by rw [HG.out, if_neg (by decide), if_neg (by decide), if_neg (by omega), show ((k : Int) + 1 - 1).toNat = k by omega])
        have hkz : k < zs.length := by rw [← HM.out]; omega
        obtain ⟨g, hA, hcell⟩ : ∃ g, A3 = some ⟨g, 0, none⟩ ∧ w3.cell? ⟨g, k, none⟩ = some (.int .i64 (zs.getD k 0)) := by
          cases hA3 : A3 with
          | none => have := HN3.out hA3; rw [this] at hkz; simp at hkz
          | some ad =>
            obtain ⟨g, rfl, hg, hc⟩ := HI.out ad hA3
            exact ⟨g, rfl, hc k hkz⟩
        subst hA
        clear hkz
        generalize zs.getD k 0 = z at hcell HF
        have hkm2 : k < m := by omega
        go_wp2
        refine bodyPost_ret (v := .tuple #[.int .i64 z, .string st, .int .i64 0]) (by simp [results, Tryd.results30, go_sem]) rfl ?_
        exact ⟨ret_isi HF.out.symm, b3.out⟩

end Go.Proofs.YthnhpgmohhaeaaaDoor
