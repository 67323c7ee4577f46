/-
  The boxes that contain a point (Hit), by the program. And what builds on it.
-/
import Derived.Test.YtcijomljopbelaaGreatCont
import Derived.Test.YtcijomljopbelaaGreatGaD

/- The boxes that contain a point (Hit), by the program. -/
namespace Go.Proofs.YtcijomljopbelaaGreat
open Go.RowKit

def hitB (x : Bx) (f g : Fr) : Bool := holdB false x f && holdB true x g
def hitP (bs : List Bx) (f g : Fr) (i : Nat) : Bool := match bs[i]? with
  | some x => hitB x f g
  | none => false
def hitK (bs : List Bx) (f g : Fr) (k : Nat) : List Nat := (List.range k).filter (hitP bs f g)
def hitR (bs : List Bx) (f g : Fr) : List Nat × Int := if chkB bs ≠ 0 then ([], chkB bs) else if (vF f && vF g) = true then (hitK bs f g bs.length, 0) else ([], 1)
def GotNatsE (w : World) (q : List Nat × Int) (e : Ending) (w' : World) : Prop :=
  ∃ A c, e = .returned (.tuple #[.slice A q.1.length c, .int .i64 q.2]) ∧ Hid (w'.ownsRow w.heap.size 3 1 (.slice A q.1.length c) q.1.length (intsV q.1)) ∧ Below w.heap.size w w'
theorem hitK_len (bs : List Bx) (f g : Fr) (k : Nat) : (hitK bs f g k).length ≤ k := by
  unfold hitK; have := List.length_filter_le (hitP bs f g) (List.range k); simpa using this
theorem hitK_yes {bs : List Bx} {f g : Fr} {k : Nat} {x : Bx} (hx : bs[k]? = some x) (h : hitB x f g = true) : hitK bs f g (k + 1) = hitK bs f g k ++ [k] := by
  unfold hitK; rw [List.range_succ, List.filter_append]; congr 1
  have : hitP bs f g k = true := by unfold hitP; rw [hx]; exact h
  simp [this]
theorem hitK_no {bs : List Bx} {f g : Fr} {k : Nat} {x : Bx} (hx : bs[k]? = some x) (h : hitB x f g = false) : hitK bs f g (k + 1) = hitK bs f g k := by
  unfold hitK; rw [List.range_succ, List.filter_append]
  have : hitP bs f g k = false := by unfold hitP; rw [hx]; exact h
  simp [this]
theorem chk_zero {bs : List Bx} (h : chkB bs = 0) : bs.length ≤ 200 ∧ ∀ x ∈ bs, bothB x = true := by
  unfold chkB at h
  split at h
  · omega
  · split at h
    · rename_i h1 h2; exact ⟨by omega, fun x hx => List.all_eq_true.1 h2 x hx⟩
    · omega
theorem both_valid {x : Bx} (h : bothB x = true) (s : Bool) : vF (x.st s) = true ∧ vF (x.sz s) = true ∧ vF (x.en s) = true := by
  unfold bothB placedB at h
  simp only [Bool.and_eq_true] at h
  cases s
  · exact ⟨h.1.1.1, h.1.1.2, h.1.2.2⟩
  · exact ⟨h.2.1.1, h.2.1.2, h.2.2.2⟩
theorem ints_oneV (l : List Nat) : ∀ u ∈ intsV l, u.oneCell' = true := fun u hu => by
  unfold intsV at hu
  obtain ⟨j, _, rfl⟩ := List.mem_map.1 hu
  rfl
theorem intsV_snoc (a : List Nat) (k : Nat) : intsV (a ++ [k]) = intsV a ++ [.int .i64 k] := by unfold intsV; rw [List.map_append]; rfl

set_option maxRecDepth 100000 in
set_option maxHeartbeats 32000000 in
theorem hit_any (A : Option Addr) (cap : Nat) (bs : List Bx) (f1 f2 g1 g2 : Int) (w : World) (hb : BxsAt w A bs) (hc1 : bs.length ≤ cap) (hc : cap ≤ maxLen) :
    Calls Tryz.prog 39 #[.slice A bs.length cap, .agg #[.int .i64 f1, .int .i64 f2], .agg #[.int .i64 g1, .int .i64 g2]] w (GotNatsE w (hitR bs ⟨f1, f2⟩ ⟨g1, g2⟩)) := by
  obtain ⟨R, hR⟩ : ∃ R, R = hitR bs ⟨f1, f2⟩ ⟨g1, g2⟩ := ⟨_, rfl⟩
  have HR := Lib.hid (show R = if chkB bs ≠ 0 then ([], chkB bs) else if (validB f1 f2 && validB g1 g2) = true then (hitK bs ⟨f1, f2⟩ ⟨g1, g2⟩ bs.length, 0) else ([], 1) from hR)
  have HCK := Lib.hid (fun wx (hbx : Below w.heap.size w wx) => checkb_any A cap bs wx (hb.below hbx) hc1 hc)
  have HV1 := Lib.hid (fun wx => isValid_any f1 f2 wx)
  have HV2 := Lib.hid (fun wx => isValid_any g1 g2 wx)
  obtain ⟨V1, hV1⟩ : ∃ V, V = validB f1 f2 := ⟨_, rfl⟩
  obtain ⟨V2, hV2⟩ : ∃ V, V = validB g1 g2 := ⟨_, rfl⟩
  have HVV := Lib.hid hV1
  have HWW := Lib.hid hV2
  rw [← hV1, ← hV2] at HR
  rw [← hV1] at HV1
  rw [← hV2] at HV2
  obtain ⟨C, hC⟩ : ∃ C, C = chkB bs := ⟨_, rfl⟩
  have HCC := Lib.hid hC
  rw [← hC] at HR HCK
  have HBS := Lib.hid hb
  obtain ⟨N, hN⟩ : ∃ N, N = bs.length := ⟨_, rfl⟩
  have HN := Lib.hid hN
  rw [← hR]
  rw [← hN] at HCK HR hc1 ⊢
  unfold maxLen at hc
  obtain ⟨iv, hiv, hzv, hsv, hbv⟩ := info_hid infoInt
  clear hb hC hN hR hV1 hV2
  obtain ⟨W, hW⟩ : ∃ W, W = (w.alloc (.cells #[.int .i64 f1, .int .i64 f2] 40)).alloc (.cells #[.int .i64 g1, .int .i64 g2] 40) := ⟨_, rfl⟩
  have HB := Lib.hid (show Below w.heap.size w W from hW ▸ two_under _ _ _)
  have D2 := Lib.hid (show W.heap[w.heap.size]? = some (.cells #[.int .i64 f1, .int .i64 f2] 40 (0, 0)) by rw [hW, heap_alloc_other _ _ _ (by simp)]; exact heap_alloc_new _ _)
  have D3 := Lib.hid (show W.heap[w.heap.size + 1]? = some (.cells #[.int .i64 g1, .int .i64 g2] 40 (0, 0)) by rw [hW]; have := heap_alloc_new (w.alloc (.cells #[.int .i64 f1, .int .i64 f2] 40)) (.cells #[.int .i64 g1, .int .i64 g2] 40); simpa using this)
  go_enter Tryz.func39, Tryz.ntmps39
  go_wp2_with fail
  rw [← hW]
  clear hW
  refine (HCK.out _ HB.out).mono ?_; rintro e v1 ⟨rfl, hb1⟩
  have HB := Lib.hid (below_more HB.out hb1)
  have D2 := Lib.hid (blk_keep hb1 D2.out)
  have D3 := Lib.hid (blk_keep hb1 D3.out)
  clear hb1 HCK
  by_cases hC0 : C = 0
  case neg =>
    have hbE : (C != 0) = true := by simpa using hC0
    have HF := Lib.hid (show R = ([], C) by rw [HR.out, if_pos hC0])
    clear hC0 HR
    go_wp2_with fail
    go_ret2
    rw [HF.out]
    exact ⟨none, 0, rfl, Lib.hid (World.ownsRow_nil _ _ _ _), HB.out⟩
  have HZ := Lib.hid (chk_zero (show chkB bs = 0 by rw [← HCC.out]; exact hC0))
  have HF := Lib.hid (show R = if (V1 && V2) = true then (hitK bs ⟨f1, f2⟩ ⟨g1, g2⟩ N, 0) else ([], 1) by rw [HR.out, if_neg (by simp [hC0])])
  have hbE : (C != 0) = false := by simpa using hC0
  have hN200 : N ≤ 200 := by have := HZ.out.1; have := HN.out; omega
  clear hC0 HR HCC
  have a0 := cell_of_blk D2.out 0
  have a1 := cell_of_blk D2.out 1
  have hz7 := (Array.getElem?_eq_some_iff.1 D2.out).1
  simp at a0 a1
  go_wp2_with fail
  refine (HV1.out _).mono ?_; rintro e v2 ⟨rfl, hb2⟩
  have HB := Lib.hid (below_more HB.out hb2)
  have D2 := Lib.hid (blk_keep hb2 D2.out)
  have D3 := Lib.hid (blk_keep hb2 D3.out)
  clear hb2 hbE a0 a1 hz7
  cases V1
  case false =>
    go_wp2_with fail
    go_ret2
    rw [HF.out]
    exact ⟨none, 0, rfl, Lib.hid (World.ownsRow_nil _ _ _ _), HB.out⟩
  have a0 := cell_of_blk D3.out 0
  have a1 := cell_of_blk D3.out 1
  have hz7 := (Array.getElem?_eq_some_iff.1 D3.out).1
  simp at a0 a1
  go_wp2_with fail
  refine (HV2.out _).mono ?_; rintro e v3 ⟨rfl, hb2⟩
  have HB := Lib.hid (below_more HB.out hb2)
  have D2 := Lib.hid (blk_keep hb2 D2.out)
  have D3 := Lib.hid (blk_keep hb2 D3.out)
  clear hb2 a0 a1 hz7
  cases V2
  case false =>
    go_wp2_with fail
    go_ret2
    rw [HF.out]
    exact ⟨none, 0, rfl, Lib.hid (World.ownsRow_nil _ _ _ _), HB.out⟩
  have HF := Lib.hid (show R = (hitK bs ⟨f1, f2⟩ ⟨g1, g2⟩ N, 0) by rw [HF.out]; rfl)
  go_wp2_with fail
  refine (sideways_any _).mono ?_; rintro e v4 ⟨p, rfl, hp, hpb, hb1⟩
  have HB := Lib.hid (below_more HB.out hb1)
  have D2 := Lib.hid (blk_keep hb1 D2.out)
  have D3 := Lib.hid (blk_keep hb1 D3.out)
  clear hp hpb hb1
  go_wp2_with fail
  refine (downwards_any _).mono ?_; rintro e v5 ⟨q, rfl, hq, hqb, hb2⟩
  have HB := Lib.hid (below_more HB.out hb2)
  have D2 := Lib.hid (blk_keep hb2 D2.out)
  have D3 := Lib.hid (blk_keep hb2 D3.out)
  clear hq hqb hb2
  go_upto_region 8 with fail
  obtain ⟨V, hV⟩ : ∃ V, V = (v5.alloc (.cells #[.func (.func 131) #[] #[], .func (.func 132) #[] #[], .func (.func 172) #[] #[.pointer (some ⟨p, 0, none⟩)]] 100)).alloc (.cells #[.func (.func 135) #[] #[], .func (.func 136) #[] #[], .func (.func 172) #[] #[.pointer (some ⟨q, 0, none⟩)]] 100) := ⟨_, rfl⟩
  have HBV := Lib.hid (show Below v5.heap.size v5 V from hV ▸ two_under _ _ _)
  have D0 := Lib.hid (show V.heap[v5.heap.size]? = some (.cells #[.func (.func 131) #[] #[], .func (.func 132) #[] #[], .func (.func 172) #[] #[.pointer (some ⟨p, 0, none⟩)]] 100 (0, 0)) by rw [hV, heap_alloc_other _ _ _ (by simp)]; exact heap_alloc_new _ _)
  have D1 := Lib.hid (show V.heap[v5.heap.size + 1]? = some (.cells #[.func (.func 135) #[] #[], .func (.func 136) #[] #[], .func (.func 172) #[] #[.pointer (some ⟨q, 0, none⟩)]] 100 (0, 0)) by rw [hV]; have := heap_alloc_new (v5.alloc (.cells #[.func (.func 131) #[] #[], .func (.func 132) #[] #[], .func (.func 172) #[] #[.pointer (some ⟨p, 0, none⟩)]] 100)) (.cells #[.func (.func 135) #[] #[], .func (.func 136) #[] #[], .func (.func 172) #[] #[.pointer (some ⟨q, 0, none⟩)]] 100); simpa using this)
  have HB3 := Lib.hid (below_more HB.out HBV.out)
  have D2 := Lib.hid (blk_keep HBV.out D2.out)
  have D3 := Lib.hid (blk_keep HBV.out D3.out)
  rw [← hV]
  clear hV
  go_wp2_with fail
  go_loopw [9, 31] (fun v i wr => ∃ (k m : Nat), k ≤ N ∧ i = .int .i64 k ∧ m ≤ k ∧ Hid (m = (hitK bs ⟨f1, f2⟩ ⟨g1, g2⟩ k).length) ∧ Hid (wr.ownsRow V.heap.size 3 1 v m (intsV (hitK bs ⟨f1, f2⟩ ⟨g1, g2⟩ k))) ∧ Hid (Below V.heap.size V wr)) (fun _ i _ => N - (intOf i).toNat)
  case atStart => exact ⟨0, 0, Nat.zero_le _, rfl, Nat.le_refl _, Lib.hid rfl, Lib.hid (by simpa [hitK, intsV] using World.ownsRow_nil _ _ _ _), Lib.hid (Below.refl _ _)⟩
  case round =>
    obtain ⟨k, m', hk, rfl, hmk, hml, hown, hbw⟩ := hrel
    have HOW := Lib.hid hown.out
    have HML := Lib.hid hml.out
    have HBR := Lib.hid hbw.out
    have HBB := Lib.hid (below_more HB3.out hbw.out)
    clear hown hbw hml
    by_cases hlt : k < N
    · obtain ⟨x, hx⟩ : ∃ x, bs[k]? = some x := ⟨_, List.getElem?_eq_getElem (by have := HN.out; omega)⟩
      obtain ⟨b, o, hA, hbl, vb0⟩ := HBS.out k x hx
      subst hA
      have vb := vb0.below HBB.out hbl
      have hbo := HZ.out.2 x (List.mem_of_getElem? hx)
      have o1 := both_valid hbo false
      have o2 := both_valid hbo true
      have HP1 := Lib.hid (fun wx => contS_any p x ⟨f1, f2⟩ wx o1.1 o1.2.1 o1.2.2 HVV.out.symm)
      have HP2 := Lib.hid (fun wx => contD_any q x ⟨g1, g2⟩ wx o2.1 o2.2.1 o2.2.2 HWW.out.symm)
      obtain ⟨Q1, hQ1⟩ : ∃ Q, Q = holdB false x ⟨f1, f2⟩ := ⟨_, rfl⟩
      obtain ⟨Q2, hQ2⟩ : ∃ Q, Q = holdB true x ⟨g1, g2⟩ := ⟨_, rfl⟩
      have HPB := Lib.hid (show hitB x ⟨f1, f2⟩ ⟨g1, g2⟩ = (Q1 && Q2) by unfold hitB; rw [hQ1, hQ2])
      rw [← hQ1] at HP1
      rw [← hQ2] at HP2
      have HY := Lib.hid (fun (h : (Q1 && Q2) = true) => hitK_yes (f := ⟨f1, f2⟩) (g := ⟨g1, g2⟩) hx (by rw [HPB.out]; exact h))
      have HNO := Lib.hid (fun (h : (Q1 && Q2) = false) => hitK_no (f := ⟨f1, f2⟩) (g := ⟨g1, g2⟩) hx (by rw [HPB.out]; exact h))
      have z0 := vb.c0
      have z1 := vb.c1
      have z2 := vb.c2
      have z3 := vb.c3
      have z4 := vb.c4
      have z5 := vb.c5
      have z6 := vb.c6
      have z7 := vb.c7
      have z8 := vb.c8
      have z9 := vb.c9
      have z10 := vb.c10
      have z11 := vb.c11
      have z12 := vb.c12
      have z13 := vb.c13
      have z14 := vb.c14
      have hbr : b < wr.heap.size := by have := HBB.out.size; omega
      have hki : (0 : Int) ≤ (k : Int) := by omega
      have hkl : (k : Int) < (N : Int) := by omega
      clear hQ1 hQ2 hx vb vb0 HPB hbo o1 o2
      obtain ⟨k', sg, t, m, st, mn, mx, ⟨x1, x2⟩, ⟨y1, y2⟩, ⟨w1, w2⟩, ⟨h1, h2⟩⟩ := x
      unfold Bx.val at HP1 HP2
      dsimp only at HP1 HP2 z0 z1 z2 z3 z4 z5 z6 z7 z8 z9 z10 z11 z12 z13 z14
      go_upto_region 11 with fail
      obtain ⟨Y, hY⟩ : ∃ Y, Y = wr.alloc (.cells #[.int .i64 k', .int .i64 sg, .int .i64 t, .bool m, .int .i64 st, .int .i64 mn, .int .i64 mx, .int .i64 x1, .int .i64 x2, .int .i64 y1, .int .i64 y2, .int .i64 w1, .int .i64 w2, .int .i64 h1, .int .i64 h2] 82) := ⟨_, rfl⟩
      have HBY := Lib.hid (show Below wr.heap.size wr Y from hY ▸ below_alloc _ _)
      have B6 := Lib.hid (show Y.heap[wr.heap.size]? = some (.cells #[.int .i64 k', .int .i64 sg, .int .i64 t, .bool m, .int .i64 st, .int .i64 mn, .int .i64 mx, .int .i64 x1, .int .i64 x2, .int .i64 y1, .int .i64 y2, .int .i64 w1, .int .i64 w2, .int .i64 h1, .int .i64 h2] 82 (0, 0)) from hY ▸ heap_alloc_new _ _)
      have E0 := Lib.hid (blk_keep HBY.out (blk_keep HBR.out D0.out))
      have E1 := Lib.hid (blk_keep HBY.out (blk_keep HBR.out D1.out))
      have E2 := Lib.hid (blk_keep HBY.out (blk_keep HBR.out D2.out))
      have E3 := Lib.hid (blk_keep HBY.out (blk_keep HBR.out D3.out))
      rw [← hY]
      clear hY z0 z1 z2 z3 z4 z5 z6 z7 z8 z9 z10 z11 z12 z13 z14 hbr
      have c0 := cell_of_blk E0.out 0
      have c1 := cell_of_blk E0.out 1
      have c2 := cell_of_blk E0.out 2
      have b0 := cell_of_blk B6.out 0
      have b1 := cell_of_blk B6.out 1
      have b2 := cell_of_blk B6.out 2
      have b3 := cell_of_blk B6.out 3
      have b4 := cell_of_blk B6.out 4
      have b5 := cell_of_blk B6.out 5
      have b6 := cell_of_blk B6.out 6
      have b7 := cell_of_blk B6.out 7
      have b8 := cell_of_blk B6.out 8
      have b9 := cell_of_blk B6.out 9
      have b10 := cell_of_blk B6.out 10
      have b11 := cell_of_blk B6.out 11
      have b12 := cell_of_blk B6.out 12
      have b13 := cell_of_blk B6.out 13
      have b14 := cell_of_blk B6.out 14
      have a0 := cell_of_blk E2.out 0
      have a1 := cell_of_blk E2.out 1
      have hz0 := (Array.getElem?_eq_some_iff.1 E0.out).1
      have hz6 := (Array.getElem?_eq_some_iff.1 B6.out).1
      have hz7 := (Array.getElem?_eq_some_iff.1 E2.out).1
      simp at c0 c1 c2 b0 b1 b2 b3 b4 b5 b6 b7 b8 b9 b10 b11 b12 b13 b14 a0 a1
      go_wp2_with fail
      refine (HP1.out _).mono ?_; rintro e w5 ⟨rfl, hb5⟩
      have HB5 := Lib.hid (below_more HBY.out hb5)
      have E1 := Lib.hid (blk_keep hb5 E1.out)
      have E3 := Lib.hid (blk_keep hb5 E3.out)
      have B6 := Lib.hid (blk_keep hb5 B6.out)
      clear hb5 c0 c1 c2 b0 b1 b2 b3 b4 b5 b6 b7 b8 b9 b10 b11 b12 b13 b14 a0 a1 hz0 hz6 hz7
      cases Q1
      · have HB9 := Lib.hid (HBR.out.trans (HB5.out.mono HBR.out.size))
        have HO9 := Lib.hid (ownsRow_of_block HOW.out (fun g hg => HB5.out.block g (HOW.out.lt g hg).2))
        go_wp2_with fail
        go_roundw
        case rel => exact ⟨k + 1, m', by omega, by go_num, by omega, Lib.hid (by rw [HNO.out (by trivial)]; exact HML.out), Lib.hid (by rw [HNO.out (by trivial)]; exact HO9.out), HB9⟩
        case measure => simp [intOf]; omega
      have c0 := cell_of_blk E1.out 0
      have c1 := cell_of_blk E1.out 1
      have c2 := cell_of_blk E1.out 2
      have b0 := cell_of_blk B6.out 0
      have b1 := cell_of_blk B6.out 1
      have b2 := cell_of_blk B6.out 2
      have b3 := cell_of_blk B6.out 3
      have b4 := cell_of_blk B6.out 4
      have b5 := cell_of_blk B6.out 5
      have b6 := cell_of_blk B6.out 6
      have b7 := cell_of_blk B6.out 7
      have b8 := cell_of_blk B6.out 8
      have b9 := cell_of_blk B6.out 9
      have b10 := cell_of_blk B6.out 10
      have b11 := cell_of_blk B6.out 11
      have b12 := cell_of_blk B6.out 12
      have b13 := cell_of_blk B6.out 13
      have b14 := cell_of_blk B6.out 14
      have a0 := cell_of_blk E3.out 0
      have a1 := cell_of_blk E3.out 1
      have hz0 := (Array.getElem?_eq_some_iff.1 E1.out).1
      have hz6 := (Array.getElem?_eq_some_iff.1 B6.out).1
      have hz7 := (Array.getElem?_eq_some_iff.1 E3.out).1
      simp at c0 c1 c2 b0 b1 b2 b3 b4 b5 b6 b7 b8 b9 b10 b11 b12 b13 b14 a0 a1
      go_wp2_with fail
      refine (HP2.out _).mono ?_; rintro e w6 ⟨rfl, hb6⟩
      have HB6 := Lib.hid (below_more HB5.out hb6)
      have HB9 := Lib.hid (HBR.out.trans (HB6.out.mono HBR.out.size))
      have HO9 := Lib.hid (ownsRow_of_block HOW.out (fun g hg => HB6.out.block g (HOW.out.lt g hg).2))
      clear hb6 c0 c1 c2 b0 b1 b2 b3 b4 b5 b6 b7 b8 b9 b10 b11 b12 b13 b14 a0 a1 hz0 hz6 hz7
      cases Q2
      · go_wp2_with fail
        go_roundw
        case rel => exact ⟨k + 1, m', by omega, by go_num, by omega, Lib.hid (by rw [HNO.out (by trivial)]; exact HML.out), Lib.hid (by rw [HNO.out (by trivial)]; exact HO9.out), HB9⟩
        case measure => simp [intOf]; omega
      · obtain ⟨Av, cv, hv7, -, -, -, -⟩ := own_slice HO9.out
        subst hv7
        have HSS := Lib.hid (show V.heap.size ≤ w6.heap.size from HB9.out.size)
        have HSA := Lib.hid (show ∀ (o : Obj), V.heap.size ≤ (w6.alloc o).heap.size from fun o => by rw [World.size_alloc]; have := HSS.out; omega)
        have HNR := Lib.hid (new_row w6 [.int .i64 k] 3)
        have HN1 := Lib.hid (show ∀ u ∈ ([.int .i64 k] : List Value), u.oneCell' = true from fun u hu => by simp at hu; subst hu; rfl)
        go_wp2_with (first
          | (at_builtin; refine wpList_append_src _ rfl (.tmp 46) (.tmp 48) 49 rfl V.heap.size 3 iv (.int .i64 0) 1 8 Tryz.underlying49 hiv.out hzv.out hsv.out hbv.out rfl (by decide) (.slice Av m' cv) m' (intsV (hitK bs ⟨f1, f2⟩ ⟨g1, g2⟩ k)) rfl (HO9.out.alloc _) (some ⟨w6.heap.size, 0, none⟩) 1 1 [.int .i64 k] rfl rfl (fun h => by cases h) HNR.out HN1.out (by unfold maxLen; omega) (by omega) (HSA.out _) (m' + 1) rfl ?_))
        intro A9 c9 w9 own9 hg9 _
        have HB10 := Lib.hid ((HB9.out.alloc HSS.out _).grown hg9 (by rw [World.size_alloc]; have := HSS.out; omega) (fun g hg => (HO9.out.lt g hg).1))
        have HO10 := Lib.hid (show w9.ownsRow V.heap.size 3 1 (.slice A9 (m' + 1) c9) (m' + 1) (intsV (hitK bs ⟨f1, f2⟩ ⟨g1, g2⟩ (k + 1))) by rw [HY.out (by trivial), intsV_snoc]; exact own9)
        clear own9 hg9 HNR HN1 HSA HSS
        go_wp2_with fail
        go_roundw
        case rel => exact ⟨k + 1, m' + 1, by omega, by go_num, by omega, Lib.hid (by rw [HY.out (by trivial), List.length_append, ← HML.out]; rfl), HO10, HB10⟩
        case measure => simp [intOf]; omega
    · obtain rfl : k = N := by omega
      obtain ⟨Av, cv, hv7, -, -, -, -⟩ := own_slice HOW.out
      subst hv7
      have HOF := Lib.hid (own_base HOW.out HB3.out.size)
      go_wp2_with fail
      go_ret2
      rw [HF.out]
      exact ⟨Av, cv, by rw [← HML.out]; rfl, Lib.hid (by rw [← HML.out]; exact HOF.out), HBB.out⟩

end Go.Proofs.YtcijomljopbelaaGreat

/- The ends of a placed box, and their comparison, by the specification (add, less). -/
namespace Go.Proofs.YtcijomljopbelaaGreat
open Go.RowKit

/-- each of two boxes begins before the other ends -/
def crossB (s : Bool) (x y : Bx) : Bool := decide ((x.st s).num * (y.en s).den < (y.en s).num * (x.st s).den) && decide ((y.st s).num * (x.en s).den < (x.en s).num * (y.st s).den)
theorem radd_box (s : Bool) (x : Bx) (hx : bothB x = true) (wx : World) :
    Calls Tryz.prog 83 #[.agg #[.int .i64 (x.st s).num, .int .i64 (x.st s).den], .agg #[.int .i64 (x.sz s).num, .int .i64 (x.sz s).den]] wx (GotFr wx (x.en s)) := by
  have o1 := both_valid hx s
  unfold vF at o1
  have vx := valid_in o1.1
  have vw := valid_in o1.2.1
  exact radd_any _ _ _ _ wx (mul_small ⟨vx.2.2.1, vx.2.2.2⟩ ⟨vw.1, vw.2.1⟩) (mul_small ⟨vw.2.2.1, vw.2.2.2⟩ ⟨vx.1, vx.2.1⟩) (sum_small ⟨vx.2.2.1, vx.2.2.2⟩ ⟨vw.1, vw.2.1⟩ ⟨vw.2.2.1, vw.2.2.2⟩ ⟨vx.1, vx.2.1⟩) (Int.mul_pos (by have := vx.1; omega) (by have := vw.1; omega)) (mul_small ⟨by have := vx.1; omega, by have := vx.2.1; omega⟩ ⟨vw.1, vw.2.1⟩)
theorem rless_box (s : Bool) (x y : Bx) (hx : bothB x = true) (hy : bothB y = true) (wx : World) :
    Calls Tryz.prog 84 #[.agg #[.int .i64 (x.st s).num, .int .i64 (x.st s).den], .agg #[.int .i64 (y.en s).num, .int .i64 (y.en s).den]] wx (fun e w' => e = .returned (.bool (decide ((x.st s).num * (y.en s).den < (y.en s).num * (x.st s).den))) ∧ Below wx.heap.size wx w') := by
  have o1 := both_valid hx s
  have o2 := both_valid hy s
  unfold vF at o1 o2
  have a := valid_in o1.1
  have b := valid_in o2.2.2
  exact rless_any _ _ _ _ wx (mul_small ⟨a.2.2.1, a.2.2.2⟩ ⟨b.1, b.2.1⟩) (mul_small ⟨b.2.2.1, b.2.2.2⟩ ⟨a.1, a.2.1⟩)

end Go.Proofs.YtcijomljopbelaaGreat

/- The pairs of boxes that cross: what both sides answer. -/
namespace Go.Proofs.YtcijomljopbelaaGreat
open Go.RowKit

def crossP (x y : Bx) : Bool := crossB false x y && crossB true x y
def crossI (bs : List Bx) (k i : Nat) : Bool := match bs[k]?, bs[i]? with
  | some x, some y => crossP x y
  | _, _ => false
def rowK (bs : List Bx) (k j : Nat) : List (Nat × Nat) := ((List.range j).filter (fun i => decide (k < i) && crossI bs k i)).map (fun i => (k, i))
def crossK (bs : List Bx) (k : Nat) : List (Nat × Nat) := (List.range k).flatMap (fun i => rowK bs i bs.length)
def crossR (bs : List Bx) : List (Nat × Nat) × Int := if chkB bs ≠ 0 then ([], chkB bs) else (crossK bs bs.length, 0)
def prV (p : Nat × Nat) : List Value := [.int .i64 p.1, .int .i64 p.2]
def GotPairsE (w : World) (q : List (Nat × Nat) × Int) (e : Ending) (w' : World) : Prop :=
  ∃ A c, e = .returned (.tuple #[.slice A q.1.length c, .int .i64 q.2]) ∧ Hid (w'.ownsRow w.heap.size 78 2 (.slice A q.1.length c) q.1.length (q.1.flatMap prV)) ∧ Below w.heap.size w w'
theorem infoPr : (Tryz.prog.info? 78).map (fun i => (i.zero, i.size, i.bytes)) = some (some (.agg #[.int .i64 0, .int .i64 0]), 2, 16) := by kernel_rfl
theorem crossI_at {bs : List Bx} {k j : Nat} {x y : Bx} (hx : bs[k]? = some x) (hy : bs[j]? = some y) : crossI bs k j = crossP x y := by
  unfold crossI; rw [hx, hy]
theorem rowK_start (bs : List Bx) (k : Nat) : rowK bs k (k + 1) = [] := by
  unfold rowK
  rw [List.map_eq_nil_iff, List.filter_eq_nil_iff]
  intro i hi
  have hi := List.mem_range.1 hi
  simp; intro h; omega
theorem rowK_yes {bs : List Bx} {k j : Nat} (hk : k < j) (h : crossI bs k j = true) : rowK bs k (j + 1) = rowK bs k j ++ [(k, j)] := by
  unfold rowK; rw [List.range_succ, List.filter_append, List.map_append]; congr 1
  simp [hk, h]
theorem rowK_no {bs : List Bx} {k j : Nat} (h : crossI bs k j = false) : rowK bs k (j + 1) = rowK bs k j := by
  unfold rowK; rw [List.range_succ, List.filter_append, List.map_append]
  simp [h]
theorem crossK_succ (bs : List Bx) (k : Nat) : crossK bs (k + 1) = crossK bs k ++ rowK bs k bs.length := by
  unfold crossK; rw [List.range_succ, List.flatMap_append]; simp

end Go.Proofs.YtcijomljopbelaaGreat

/- Slices of ints and of pairs that both sides made are compared. -/
namespace Go.Proofs.YtcijomljopbelaaGreat
open Go.RowKit

def NatsIn (w : World) (A : Option Addr) (zs : List Nat) : Prop := ∀ (k z : Nat), zs[k]? = some z → ∃ b o, A = some ⟨b, o, none⟩ ∧ b < w.heap.size ∧ w.cell? ⟨b, o + k, none⟩ = some (.int .i64 (z : Int))
theorem NatsIn.below {w w' : World} {A : Option Addr} {zs : List Nat} (h : NatsIn w A zs) (hb : Below w.heap.size w w') : NatsIn w' A zs := fun k n hk => by
  obtain ⟨b, o, e, hlt, hv⟩ := h k n hk
  exact ⟨b, o, e, Nat.lt_of_lt_of_le hlt hb.size, (hb.cell (p := ⟨b, _, none⟩) hlt).trans hv⟩
theorem own_natsV {w : World} {base : Nat} {A : Option Addr} {n c : Nat} {l : List Nat} (h : w.ownsRow base 3 1 (.slice A n c) n (intsV l)) : NatsIn w A l := fun k j hk => by
  obtain ⟨A2, c2, hv, -, -, h3, h4⟩ := own_slice h
  injection hv with e1 e2 e3
  subst e1 e3
  have hlen : l.length = n := by have := h.1; simpa [intsV] using this
  cases A with
  | none => have := h4 rfl; have := (List.getElem?_eq_some_iff.1 hk).1; omega
  | some ad =>
    obtain ⟨g, rfl, _, hg, hc⟩ := h3 ad rfl
    refine ⟨g, 0, rfl, hg, ?_⟩
    rw [Nat.zero_add]
    exact hc k _ (by unfold intsV; rw [List.getElem?_map, hk]; rfl)
def PrsAt (w : World) (A : Option Addr) (zs : List (Nat × Nat)) : Prop := ∀ k p, zs[k]? = some p → ∃ b o, A = some ⟨b, o, none⟩ ∧ b < w.heap.size ∧ w.cell? ⟨b, o + k * 2, none⟩ = some (.int .i64 p.1) ∧ w.cell? ⟨b, o + k * 2 + 1, none⟩ = some (.int .i64 p.2)
theorem PrsAt.below {w w' : World} {A : Option Addr} {zs : List (Nat × Nat)} (h : PrsAt w A zs) (hb : Below w.heap.size w w') : PrsAt w' A zs := fun k p hk => by
  obtain ⟨b, o, e, hlt, h0, h1⟩ := h k p hk
  exact ⟨b, o, e, Nat.lt_of_lt_of_le hlt hb.size, (hb.cell (p := ⟨b, _, none⟩) hlt).trans h0, (hb.cell (p := ⟨b, _, none⟩) hlt).trans h1⟩
theorem own_prs {w : World} {base : Nat} {t : TypeId} {A : Option Addr} {n c : Nat} {l : List (Nat × Nat)} (h : w.ownsRow base t 2 (.slice A n c) n (l.flatMap prV)) : PrsAt w A l := fun k x hk => by
  obtain ⟨A2, c2, hv, -, -, h3, h4⟩ := own_slice h
  injection hv with e1 e2 e3
  subst e1 e3
  have hlen : l.length = n := by
    have h1 := h.1
    have : (l.flatMap prV).length = l.length * 2 := flat_len (f := prV) (fun _ => rfl) _
    omega
  cases A with
  | none => have := h4 rfl; have := (List.getElem?_eq_some_iff.1 hk).1; omega
  | some ad =>
    obtain ⟨g, rfl, _, hg, hc⟩ := h3 ad rfl
    have ha : ∀ i, i < 2 → w.cell? ⟨g, k * 2 + i, none⟩ = (prV x)[i]? := fun i hi => by
      have hi' : i < (prV x).length := hi
      rw [hc (k * 2 + i) ((prV x)[i]) (by rw [flat_at (c := 2) (fun _ => rfl) _ _ _ hk i hi]; exact List.getElem?_eq_getElem hi'), List.getElem?_eq_getElem hi']
    refine ⟨g, 0, rfl, hg, ?_⟩
    rw [Nat.zero_add]
    exact ⟨ha 0 (by omega), ha 1 (by omega)⟩
/-- ints, or pairs, and an error that were made, by name -/
def GotNs (w : World) (L : Nat) (H : List Nat) (E : Int) (e : Ending) (w' : World) : Prop :=
  ∃ A c, e = .returned (.tuple #[.slice A L c, .int .i64 E]) ∧ Hid (NatsIn w' A H) ∧ Below w.heap.size w w'
def GotPs (w : World) (L : Nat) (H : List (Nat × Nat)) (E : Int) (e : Ending) (w' : World) : Prop :=
  ∃ A c, e = .returned (.tuple #[.slice A L c, .int .i64 E]) ∧ Hid (PrsAt w' A H) ∧ Below w.heap.size w w'
theorem gotNs {w : World} {H : List Nat} {E : Int} {e : Ending} {w' : World} (h : GotNatsE w (H, E) e w') : GotNs w H.length H E e w' := by
  obtain ⟨A, c, he, ho, hb⟩ := h
  exact ⟨A, c, he, Lib.hid (own_natsV ho.out), hb⟩
theorem gotPs {w : World} {H : List (Nat × Nat)} {E : Int} {e : Ending} {w' : World} (h : GotPairsE w (H, E) e w') : GotPs w H.length H E e w' := by
  obtain ⟨A, c, he, ho, hb⟩ := h
  exact ⟨A, c, he, Lib.hid (own_prs ho.out), hb⟩
theorem hitR_len (bs : List Bx) (f g : Fr) : (hitR bs f g).1.length ≤ bs.length := by
  unfold hitR; split
  · exact Nat.zero_le _
  · split
    · exact hitK_len _ _ _ _
    · exact Nat.zero_le _
theorem rowK_len (bs : List Bx) (k j : Nat) : (rowK bs k j).length ≤ j := by
  unfold rowK; rw [List.length_map]
  have := List.length_filter_le (fun i => decide (k < i) && crossI bs k i) (List.range j)
  simpa using this
theorem crossK_len (bs : List Bx) : ∀ k, (crossK bs k).length ≤ k * bs.length
  | 0 => by simp [crossK]
  | k + 1 => by
    rw [crossK_succ, List.length_append, Nat.succ_mul]
    have := crossK_len bs k; have := rowK_len bs k bs.length; omega
theorem crossR_len (bs : List Bx) (h : bs.length ≤ 210) : (crossR bs).1.length ≤ 44100 := by
  unfold crossR; split
  · exact Nat.zero_le _
  · have := crossK_len bs bs.length
    have h2 : bs.length * bs.length ≤ 210 * 210 := Nat.mul_le_mul h h
    show (crossK bs bs.length).length ≤ 44100
    omega
theorem eqPr (a b : Int) (w : World) : (binOp .neq 78 (.agg #[.int .i64 a, .int .i64 b]) (.agg #[.int .i64 a, .int .i64 b])).run Tryz.prog w = .ok (.bool false) w := by
  rw [run_neq_struct]
  simp [go_sem]

set_option maxHeartbeats 800000 in
theorem sameN_eq (A B : Option Addr) (m c d : Nat) (zs : List Nat) (w : World) (hn : m = zs.length) (hA : NatsIn w A zs) (hB : NatsIn w B zs) (hz : m ≤ 1000000) :
    Calls Tryz.prog 25 #[.slice A m c, .slice B m d] w fun e w' => e = .returned (.bool true) ∧ Below w.heap.size w w' := by
  have HN := Lib.hid hn
  clear hn
  go_enter Tryz.func25, Tryz.ntmps25
  go_wp2
  go_loopw [5] (fun i wr => ∃ k : Nat, k ≤ m ∧ i = .int .i64 k ∧ Hid (Below w.heap.size w wr)) (fun i _ => m - (intOf i).toNat)
  case atStart => exact ⟨0, Nat.zero_le _, rfl, Lib.hid (Below.refl _ _)⟩
  case round =>
    obtain ⟨k, hk, rfl, hb⟩ := hrel
    by_cases hlt : k < m
    · obtain ⟨z, hz⟩ : ∃ z, zs[k]? = some z := ⟨_, List.getElem?_eq_getElem (by have := HN.out; omega)⟩
      obtain ⟨g, o, e1, hg, x⟩ := (hA.below hb.out) k z hz
      obtain ⟨g', o', e2, hg', y⟩ := (hB.below hb.out) k z hz
      subst e1 e2
      clear hz hA hB
      go_wp2
      refine wp_region_later (by kernel_rfl) (by kernel_rfl) ?_; (repeat (first | go_big_quiet_step (fail) | quiet_step (fail))); refine wpQuiet_nil ?_; rintro _ ⟨s, rfl⟩
      go_wp2
      go_roundw
      case rel => exact ⟨k + 1, by omega, by go_num, Lib.hid (hb.out.trans (s.below.mono hb.out.size))⟩
      case measure => simp [intOf]; omega
    · obtain rfl : k = m := by omega
      go_wp2
      go_ret
      exact ⟨rfl, hb.out⟩

end Go.Proofs.YtcijomljopbelaaGreat
