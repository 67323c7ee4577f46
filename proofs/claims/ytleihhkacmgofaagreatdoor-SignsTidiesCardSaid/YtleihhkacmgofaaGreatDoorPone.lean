/-
  Contracts of parseHead and parseValue.
-/
import Derived.Test.YtleihhkacmgofaaGreatDoorPval
namespace Go.Proofs.YtleihhkacmgofaaGreatDoor
open Go.RowKit

theorem blk_below {W w' : World} (hb : Below W.heap.size W w') {g : Nat} {cs : Array Value} {t : TypeId} (h : W.heap[g]? = some (.cells cs t (0, 0))) : w'.heap[g]? = some (.cells cs t (0, 0)) :=
  (hb.block g (Array.getElem?_eq_some_iff.1 h).1).trans h
theorem trim_len (l p : List UInt8) : (Lib.trimPrefix l p).length ≤ l.length := by unfold Lib.trimPrefix; split <;> simp

theorem prefix_any (s p : ByteArray) (w : World) : Calls Tryz.prog 71 #[.string s, .string p] w fun e w' => e = .returned (.tuple #[.string ⟨(Lib.trimPrefix s.data.toList p.data.toList).toArray⟩, .bool (Lib.hasPrefix s.data.toList p.data.toList)]) ∧ w = w' :=
  (Tryz.strings_CutPrefix s p w).mono fun _ _ ⟨h1, h2⟩ => ⟨h1, h2.symm⟩

set_option maxHeartbeats 800000 in
theorem head_any (s : ByteArray) (w : World) (hs : s.size ≤ 100000) :
    Calls Tryz.prog 53 #[.string s] w fun e w' => e = .returned (.tuple #[.int .i64 (headP s).1, .bool (headP s).2]) ∧ w = w' := by
  obtain ⟨t, ht⟩ : ∃ t : ByteArray, t = ⟨(Lib.trimPrefix s.data.toList [112, 101, 114, 105, 111, 100, 115, 32]).toArray⟩ := ⟨_, rfl⟩
  obtain ⟨b, hb⟩ : ∃ b, b = Lib.hasPrefix s.data.toList [112, 101, 114, 105, 111, 100, 115, 32] := ⟨_, rfl⟩
  have htl : t.size ≤ maxLen := by
    have h1 := trim_len s.data.toList [112, 101, 114, 105, 111, 100, 115, 32]
    have e : s.data.toList.length = s.size := Array.length_toList
    rw [e] at h1
    have e2 : t.size = (Lib.trimPrefix s.data.toList [112, 101, 114, 105, 111, 100, 115, 32]).length := by rw [ht]; show (Lib.trimPrefix _ _).toArray.size = _; rw [List.size_toArray]
    unfold maxLen; omega
  have hcp (w : World) : Calls Tryz.prog 71 #[.string s, .string ⟨#[112, 101, 114, 105, 111, 100, 115, 32]⟩] w fun e w' => e = .returned (.tuple #[.string t, .bool b]) ∧ w = w' := by
    rw [ht, hb]; exact prefix_any s _ w
  have hh : headP s = if b then numP t else (0, false) := by unfold headP; rw [← hb, ← ht]
  have HCP := Lib.hid hcp
  have HH := Lib.hid hh
  clear hcp hh ht hb
  cases b with
  | false =>
    go_enter Tryz.func53, Tryz.ntmps53
    go_wp2_with (first | (go_at_call 71; refine (HCP.out _).mono ?_; rintro e w' ⟨rfl, rfl⟩))
    go_ret2
    exact ⟨ret_ib (by rw [HH.out]; rfl), rfl⟩
  | true =>
    go_enter Tryz.func53, Tryz.ntmps53
    go_wp2_with (first | (go_at_call 71; refine (HCP.out _).mono ?_; rintro e w' ⟨rfl, rfl⟩) | (go_at_call 72; refine (num_any t _ htl).mono ?_; rintro e w' ⟨rfl, rfl⟩))
    go_ret2
    exact ⟨ret_ib (by rw [HH.out]; rfl), rfl⟩

theorem ret_vb {v : Va} {b : Bool} {p : Va × Bool} (h : (v, b) = p) : Ending.returned (.tuple #[v.val, .bool b]) = .returned (.tuple #[p.1.val, .bool p.2]) := by
  rw [← h]

set_option maxHeartbeats 1600000 in
theorem value_any (s : ByteArray) (w : World) (hE : Env w) (hs : s.size ≤ 100000) :
    Calls Tryz.prog 76 #[.string s] w fun e w' => e = .returned (.tuple #[(valueP s).1.val, .bool (valueP s).2]) ∧ Below w.heap.size w w' := by
  obtain ⟨⟨c0, c1, c2⟩, hc⟩ : ∃ c, c = cutB s ⟨#[58]⟩ := ⟨_, rfl⟩
  obtain ⟨⟨d0, d1, d2⟩, hd⟩ : ∃ d, d = cutB c1 ⟨#[64]⟩ := ⟨_, rfl⟩
  have hcs := cutB_size s ⟨#[58]⟩
  rw [← hc] at hcs
  have hds := cutB_size c1 ⟨#[64]⟩
  rw [← hd] at hds
  dsimp only at hcs hds
  have hc0 := Lib.hid (le_max (Nat.le_trans hcs.1 hs))
  have hc1 := Lib.hid (Nat.le_trans hcs.2 hs)
  have hd0 := Lib.hid (le_max (Nat.le_trans hds.1 hc1.out))
  have hd1 := Lib.hid (Nat.le_trans hds.2 hc1.out)
  obtain ⟨⟨k, kb⟩, hk⟩ : ∃ k, k = kindP c0 := ⟨_, rfl⟩
  obtain ⟨nb, hn⟩ : ∃ n, n = nameP d0 := ⟨_, rfl⟩
  obtain ⟨⟨p0, p1, pb⟩, hp⟩ : ∃ p, p = pairP d1 ⟨#[45]⟩ := ⟨_, rfl⟩
  have HV := Lib.hid (show valueP s = if kb && nb && pb then (⟨k, d0, p0, p1⟩, true) else (zeroVa, false) by
    unfold valueP; rw [← hc]; dsimp only; rw [← hd]; dsimp only; rw [← hk, ← hn, ← hp])
  have A1 := Lib.hid (fun (w : World) (hE : Env w) => show Calls Tryz.prog 52 #[.string s, .string ⟨#[58]⟩] w fun e w' => e = .returned (.tuple #[.string c0, .string c1, .bool c2]) ∧ Below w.heap.size w w' by
    have := cut_any s ⟨#[58]⟩ w hE hs; rw [← hc] at this; exact this)
  have A2 := Lib.hid (fun (w : World) (hE : Env w) => show Calls Tryz.prog 52 #[.string c1, .string ⟨#[64]⟩] w fun e w' => e = .returned (.tuple #[.string d0, .string d1, .bool d2]) ∧ Below w.heap.size w w' by
    have := cut_any c1 ⟨#[64]⟩ w hE hc1.out; rw [← hd] at this; exact this)
  have A3 := Lib.hid (fun (w : World) (hE : Env w) => show Calls Tryz.prog 96 #[.string c0] w fun e w' => e = .returned (.tuple #[.int .i64 k, .bool kb]) ∧ w = w' by
    have := kindP_any c0 w hE; rw [← hk] at this; exact this)
  have A4 := Lib.hid (fun (w : World) => show Calls Tryz.prog 74 #[.string d0] w fun e w' => e = .returned (.bool nb) ∧ w = w' by
    have := name_any d0 w hd0.out; rw [← hn] at this; exact this)
  have A5 := Lib.hid (fun (w : World) (hE : Env w) => show Calls Tryz.prog 75 #[.string d1, .string ⟨#[45]⟩] w fun e w' => e = .returned (.tuple #[.int .i64 p0, .int .i64 p1, .bool pb]) ∧ Below w.heap.size w w' by
    have := pair_any d1 ⟨#[45]⟩ w hE hd1.out; rw [← hp] at this; exact this)
  clear hc hd hk hn hp hcs hds
  have hE0 := Lib.hid (hE.below (below_alloc w (.cells #[.int .i64 0, .string ⟨#[]⟩, .int .i64 0, .int .i64 0] 42)))
  have hB0 := Lib.hid (heap_alloc_new w (.cells #[.int .i64 0, .string ⟨#[]⟩, .int .i64 0, .int .i64 0] 42))
  have hb0 := Lib.hid (below_alloc w (.cells #[.int .i64 0, .string ⟨#[]⟩, .int .i64 0, .int .i64 0] 42))
  go_enter Tryz.func76, Tryz.ntmps76
  go_wp2_with fail
  refine (A1.out _ hE0.out).mono ?_; rintro e w1 ⟨rfl, hb1⟩
  have E1 := Lib.hid (hE0.out.below hb1)
  have b1 := Lib.hid (below_more hb0.out hb1)
  have B1 := Lib.hid (blk_below hb1 hB0.out)
  clear hb1
  go_wp2_with fail
  refine (A2.out _ E1.out).mono ?_; rintro e w2 ⟨rfl, hb2⟩
  have E2 := Lib.hid (E1.out.below hb2)
  have b2 := Lib.hid (below_more b1.out hb2)
  have B2 := Lib.hid (blk_below hb2 B1.out)
  clear hb2
  go_wp2_with fail
  refine (A3.out _ E2.out).mono ?_; rintro e w' ⟨rfl, rfl⟩
  have q0 := cell_of_blk B2.out 0
  have q1 := cell_of_blk B2.out 1
  have q2 := cell_of_blk B2.out 2
  have q3 := cell_of_blk B2.out 3
  simp at q0 q1 q2 q3
  have f0 := free_of_blk B2.out 0
  have f1 := free_of_blk B2.out 1
  have f2 := free_of_blk B2.out 2
  have f3 := free_of_blk B2.out 3
  cases kb with
  | false =>
    go_wp2_with fail
    refine bodyPost_ret (v := .tuple #[zeroVa.val, .bool false]) (by simp [results, Tryz.results76, go_sem, q0, q1, q2, q3, zeroVa, Va.val]) rfl ⟨ret_vb (by rw [HV.out]; rfl), ?_⟩
    exact (((b2.out.setCell (Nat.le_refl _) _).setCell (Nat.le_refl _) _).setCell (Nat.le_refl _) _).setCell (Nat.le_refl _) _
  | true =>
    cases nb with
    | false =>
      go_wp2_with fail
      refine (A4.out _).mono ?_; rintro e w' ⟨rfl, rfl⟩
      go_wp2_with fail
      refine bodyPost_ret (v := .tuple #[zeroVa.val, .bool false]) (by simp [results, Tryz.results76, go_sem, q0, q1, q2, q3, zeroVa, Va.val]) rfl ⟨ret_vb (by rw [HV.out]; rfl), ?_⟩
      exact (((b2.out.setCell (Nat.le_refl _) _).setCell (Nat.le_refl _) _).setCell (Nat.le_refl _) _).setCell (Nat.le_refl _) _
    | true =>
      clear q0 q1 q2 q3 f0 f1 f2 f3
      go_wp2_with fail
      refine (A4.out _).mono ?_; rintro e w' ⟨rfl, rfl⟩
      go_wp2_with fail
      refine (A5.out _ E2.out).mono ?_; rintro e w3 ⟨rfl, hb3⟩
      have b3 := Lib.hid (below_more b2.out hb3)
      have B3 := Lib.hid (blk_below hb3 B2.out)
      clear hb3
      have q0 := cell_of_blk B3.out 0
      have q1 := cell_of_blk B3.out 1
      have q2 := cell_of_blk B3.out 2
      have q3 := cell_of_blk B3.out 3
      simp at q0 q1 q2 q3
      have f0 := free_of_blk B3.out 0
      have f1 := free_of_blk B3.out 1
      have f2 := free_of_blk B3.out 2
      have f3 := free_of_blk B3.out 3
      cases pb with
      | false =>
        go_wp2_with fail
        refine bodyPost_ret (v := .tuple #[zeroVa.val, .bool false]) (by simp [results, Tryz.results76, go_sem, q0, q1, q2, q3, zeroVa, Va.val]) rfl ⟨ret_vb (by rw [HV.out]; rfl), ?_⟩
        exact (((b3.out.setCell (Nat.le_refl _) _).setCell (Nat.le_refl _) _).setCell (Nat.le_refl _) _).setCell (Nat.le_refl _) _
      | true =>
        go_wp2_with fail
        refine bodyPost_ret (v := .tuple #[Va.val ⟨k, d0, p0, p1⟩, .bool true]) (by simp [results, Tryz.results76, go_sem, q0, q1, q2, q3, Va.val]) rfl ⟨ret_vb (by rw [HV.out]; rfl), ?_⟩
        exact (((b3.out.setCell (Nat.le_refl _) _).setCell (Nat.le_refl _) _).setCell (Nat.le_refl _) _).setCell (Nat.le_refl _) _

end Go.Proofs.YtleihhkacmgofaaGreatDoor
