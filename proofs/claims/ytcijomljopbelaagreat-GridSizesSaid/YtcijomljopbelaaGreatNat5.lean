/-
  The natural size of a node (Natural), by the program, where text and page are valid.
-/
import Derived.Test.YtcijomljopbelaaGreatGbD
import Derived.Test.YtcijomljopbelaaGreatTailM
import Derived.Deep.DeepCutAuto
namespace Go.Proofs.YtcijomljopbelaaGreat
open Go.RowKit

set_option maxRecDepth 100000 in
set_option maxHeartbeats 16000000 in
theorem natF_any (way : Int) (cw mw : Bool) (a1 a2 b1 b2 : Nat) (hw : ∀ wx, Calls Tryz.prog 64 #[.int .i64 way] wx (GotWay cw mw a1 a2 b1 b2 wx)) (L : Lm) (A : Option Addr) (cap : Nat) (ns zs : List Nd) (len : Int) (i : Nat) (u : Nd) (w : World) (hl : LmOk w L) (hn : NdsAt w A ns) (hc1 : ns.length ≤ cap) (hc : cap ≤ maxLen) (hT : textErr L.li ns = 0) (hQ : regQ plainP L.li ns = (zs, 0)) (hlen : pageErr way len = 0) (hu : ns[i]? = some u) (hwr : wrB u = false) :
    Calls Tryz.prog 15 #[.agg #[.int .i64 L.per, .slice L.A L.ms.length L.cap], .agg #[.slice A ns.length cap], .agg #[.int .i64 way, .int .i64 len], .int .i64 i] w
      fun e w' => e = .returned (.tuple #[.int .i64 (natR L.li cw ns zs i).1, .int .i64 (natR L.li cw ns zs i).2, .int .i64 0]) ∧ Below w.heap.size w w' := by
  have hp := plain_pln hT hQ
  obtain ⟨at_, z, hz, hsum, hRR, hring⟩ := nat_both cw hT hQ hu
  rw [hwr] at hsum hRR hring
  have hR : natR L.li cw ns zs i = ((shpI L.li cw zs 5 at_).size.1, (shpI L.li cw zs 5 at_).size.2) := by rw [hRR]; exact inI_false _
  have hsum2 : at_ + cntW (ns.take i) = i := by simpa using hsum
  rw [hR]
  have hil := (List.getElem?_eq_some_iff.1 hu).1
  have h200 := (text_ok hT).2.1
  obtain ⟨c, hcc⟩ : ∃ c, c = cntW (ns.take i) := ⟨_, rfl⟩
  rw [← hcc] at hsum2
  have hc0 : c ≤ i := by omega
  have hs1 : at_ + c ≤ i := by omega
  have hs2 : i ≤ at_ + c := by omega
  have hd := (hp.full.depth z (List.mem_of_getElem? hz)).1
  have hbd := sh_bd cw hp 5 at_ z hz (by omega) (Nat.le_refl _)
  obtain ⟨S, hS⟩ : ∃ S, S = shpI L.li cw zs 5 at_ := ⟨_, rfl⟩
  have HSH := Lib.hid (show ShsOf L cw [S] (partAt zs at_) by rw [hS]; exact part_sh cw hp hz)
  have HSO := Lib.hid (fun pw qw => show ShapesOk L cw mw a1 a2 b1 b2 pw qw [S] by rw [hS]; exact part_one cw mw a1 a2 b1 b2 pw qw hp hz)
  rw [← hS] at hbd ⊢
  have HSZ := Lib.hid (size_ok S hbd.1)
  have HPR := Lib.hid (fun wx (hb : Below w.heap.size w wx) => prepN_any way cw mw a1 a2 b1 b2 hw L A cap ns zs len wx (hl.below hb) (hn.below hb) hc1 hc hQ hlen)
  have HCW := Lib.hid (fun wx (hb : Below w.heap.size w wx) => show Calls Tryz.prog 53 #[.slice A i cap] wx (fun e w' => e = .returned (.int .i64 c) ∧ Below wx.heap.size wx w') by
    have := countW_any A cap (ns.take i) wx ((hn.below hb).take i) (by rw [List.length_take]; omega) hc (by rw [List.length_take]; omega)
    rw [List.length_take, Nat.min_eq_left (by omega), ← hcc] at this; exact this)
  have HRI := Lib.hid (fun wx => show Calls Tryz.prog 52 #[u.val] wx (fun e w' => e = .returned (.bool false) ∧ Below wx.heap.size wx w') by
    have := ring7_any u wx; rw [hwr] at this; exact this)
  have HL := Lib.hid hl
  obtain ⟨b, o, hA, hbl, hv⟩ := hn i u hu
  subst hA
  have HV := Lib.hid hv
  have HZ0 := Lib.hid hz
  obtain ⟨N, hN⟩ : ∃ N, N = ns.length := ⟨_, rfl⟩
  rw [← hN] at HPR hc1 hil h200 ⊢
  obtain ⟨⟨p1, p2⟩, hpp⟩ : ∃ p, p = S.size := ⟨_, rfl⟩
  rw [← hpp] at hbd ⊢
  have HPP := Lib.hid hpp
  dsimp only at hbd ⊢
  have hb5 := bndI_le 5 (by omega)
  obtain ⟨-, hbd⟩ := hbd
  have hp1 : 0 ≤ p1 ∧ p1 ≤ 1000000 := by omega
  have hp2 : 0 ≤ p2 ∧ p2 ≤ 1000000 := by omega
  unfold maxLen at hc
  have hi0 : (0 : Int) ≤ (i : Int) := by omega
  have hiN : (i : Int) < (N : Int) := by omega
  have d1 : decide ((i : Int) < 0) = false := decide_eq_false (by omega)
  have d2 : decide ((N : Int) ≤ (i : Int)) = false := decide_eq_false (by omega)
  have d3 : decide (N ≤ i) = false := decide_eq_false (by omega)
  clear hw hl hn hT hQ hlen hwr hp hR hRR hring hcc hz hd hS hN hpp hbd hb5 hv hsum hu hsum2
  obtain ⟨W1, hW1⟩ : ∃ W', W' = w.alloc (.cells #[.int .i64 L.per, .slice L.A L.ms.length L.cap] 24) := ⟨_, rfl⟩; obtain ⟨W2, hW2⟩ : ∃ W', W' = W1.alloc (.cells #[.slice (some ⟨b, o, none⟩) N cap] 27) := ⟨_, rfl⟩; obtain ⟨W, hW⟩ : ∃ W', W' = W2.alloc (.cells #[.int .i64 way, .int .i64 len] 31) := ⟨_, rfl⟩; have szW1 : W1.heap.size = w.heap.size + 1 := (by rw [hW1]; simp); have kbW1 : Below w.heap.size w W1 := hW1 ▸ below_alloc _ _; have szW2 : W2.heap.size = w.heap.size + 1 + 1 := (by rw [hW2]; simp [szW1]); have kbW2 : Below W1.heap.size W1 W2 := hW2 ▸ below_alloc _ _; have szW : W.heap.size = w.heap.size + 1 + 1 + 1 := (by rw [hW]; simp [szW2]); have kbW : Below W2.heap.size W2 W := hW ▸ below_alloc _ _; have HB := Lib.hid (below_more (below_more kbW1 kbW2) kbW); have D0 := Lib.hid (blk_keep kbW (blk_keep kbW2 (show W1.heap[w.heap.size]? = some (.cells #[.int .i64 L.per, .slice L.A L.ms.length L.cap] 24 (0, 0)) by rw [hW1]; exact heap_alloc_new _ _))); have D1 := Lib.hid (blk_keep kbW (show W2.heap[w.heap.size + 1]? = some (.cells #[.slice (some ⟨b, o, none⟩) N cap] 27 (0, 0)) by rw [hW2, ← szW1]; exact heap_alloc_new _ _)); have D2 := Lib.hid (show W.heap[w.heap.size + 1 + 1]? = some (.cells #[.int .i64 way, .int .i64 len] 31 (0, 0)) by rw [hW, ← szW2]; exact heap_alloc_new _ _); have SZW := Lib.hid szW; clear szW1 kbW1 szW2 kbW2 szW kbW
  have x0 := cell_of_blk D0.out 0; have x1 := cell_of_blk D0.out 1; have hz_x := (Array.getElem?_eq_some_iff.1 D0.out).1; simp at x0 x1
  have y0 := cell_of_blk D1.out 0; have hz_y := (Array.getElem?_eq_some_iff.1 D1.out).1; simp at y0
  have p0 := cell_of_blk D2.out 0; have p1 := cell_of_blk D2.out 1; have hz_p := (Array.getElem?_eq_some_iff.1 D2.out).1; simp at p0 p1
  go_enter Tryz.func15, Tryz.ntmps15
  go_wp2_with fail
  rw [← hW1, ← hW2, ← hW]; clear hW1 hW2 hW
  go_wp2_with fail
  refine (HPR.out _ HB.out).mono ?_; rintro e v1 ⟨Ap, cp, pw, qw, rfl, hown, hb1⟩
  have HO1 := Lib.hid hown.out
  have HB1 := Lib.hid (below_more HB.out hb1)
  have E1 := Lib.hid (blk_keep hb1 D1.out)
  clear hown hb1 x0 x1 hz_x y0 hz_y p0 p1 hz_p HPR
  go_upto_region 4 with fail
  obtain ⟨V1, hV1⟩ : ∃ V1, V1 = v1.alloc (.cells #[.int .i64 L.per, .slice L.A L.ms.length L.cap, .bool cw, .bool mw, .func (.func a1) #[] #[], .func (.func a2) #[] #[], .func (.func 172) #[] #[.pointer (some ⟨pw, 0, none⟩)], .func (.func b1) #[] #[], .func (.func b2) #[] #[], .func (.func 172) #[] #[.pointer (some ⟨qw, 0, none⟩)]] 104) := ⟨_, rfl⟩
  have hbv1 : Below v1.heap.size v1 V1 := hV1 ▸ below_alloc _ _
  have T9 := Lib.hid (show V1.heap[v1.heap.size]? = some (.cells #[.int .i64 L.per, .slice L.A L.ms.length L.cap, .bool cw, .bool mw, .func (.func a1) #[] #[], .func (.func a2) #[] #[], .func (.func 172) #[] #[.pointer (some ⟨pw, 0, none⟩)], .func (.func b1) #[] #[], .func (.func b2) #[] #[], .func (.func 172) #[] #[.pointer (some ⟨qw, 0, none⟩)]] 104 (0, 0)) from hV1 ▸ heap_alloc_new _ _)
  have HB2 := Lib.hid (below_more HB1.out hbv1)
  have HO2 := Lib.hid (ownsRow_of_block HO1.out (fun g hg => hbv1.block g (HO1.out.lt g hg).2))
  have E1 := Lib.hid (blk_keep hbv1 E1.out)
  rw [← hV1]
  clear hV1 hbv1 HO1 HB1
  have y0 := cell_of_blk E1.out 0; have hz_y := (Array.getElem?_eq_some_iff.1 E1.out).1; simp at y0
  have v := HV.out.below HB2.out hbl
  have z0 := v.c0
  have z1 := v.c1
  have z2 := v.c2
  have z3 := v.c3
  have z4 := v.c4
  have z5 := v.c5
  have z6 := v.c6
  have z7 := v.c7
  have hbr : b < V1.heap.size := by have := HB2.out.size; omega
  clear v
  obtain ⟨uk, ud, us, ut, um, ust, umn, umx⟩ := u
  unfold Nd.val at HRI
  dsimp only at HRI z0 z1 z2 z3 z4 z5 z6 z7
  go_wp2_with fail
  refine (HRI.out _).mono ?_; rintro e v2 ⟨rfl, hb2⟩
  have HB3 := Lib.hid (below_more HB2.out hb2)
  have HO3 := Lib.hid (ownsRow_of_block HO2.out (fun g hg => hb2.block g (HO2.out.lt g hg).2))
  have E1 := Lib.hid (blk_keep hb2 E1.out)
  have T9 := Lib.hid (blk_keep hb2 T9.out)
  clear hb2 z0 z1 z2 z3 z4 z5 z6 z7 hbr y0 hz_y HO2 HB2
  have y0 := cell_of_blk E1.out 0; have hz_y := (Array.getElem?_eq_some_iff.1 E1.out).1; simp at y0
  have hic : (i : Int) ≤ (cap : Int) := by omega
  go_wp2_with fail
  refine (HCW.out _ HB3.out).mono ?_; rintro e v3 ⟨rfl, hb3⟩
  have HB4 := Lib.hid (below_more HB3.out hb3)
  have HO4 := Lib.hid (ownsRow_of_block HO3.out (fun g hg => hb3.block g (HO3.out.lt g hg).2))
  have T9 := Lib.hid (blk_keep hb3 T9.out)
  clear hb3 y0 hz_y HO3 HB3 HCW HRI E1
  have hsub : (i : Int) - (c : Int) = (at_ : Int) := by omega
  go_upto_region 11 with fail
  clear hsub d1 d2 d3 hi0 hiN hic
  have HNZ := Lib.hid (own_nodes HO4.out)
  obtain ⟨hcp1, hcp2, -⟩ := own_len HO4.out
  obtain ⟨bp, op, hAp, hblp, -⟩ := HNZ.out at_ z HZ0.out
  subst hAp
  have hat := (List.getElem?_eq_some_iff.1 HZ0.out).1
  obtain ⟨m, hm⟩ : ∃ m, m = (partAt zs at_).length := ⟨_, rfl⟩
  have hmz : m = 1 + spanN zs z.depth at_ ∧ m ≤ zs.length - at_ := by
    have := spanN_le zs z.depth at_ hat
    rw [hm]; unfold partAt depthAt
    rw [getN_at HZ0.out, List.length_take, List.length_drop]; omega
  have HPT := Lib.hid (fun wx (hb : Below v3.heap.size v3 wx) => show Calls Tryz.prog 55 #[.slice (some ⟨bp, op + at_ * 8, none⟩) (zs.length - at_) (cp - at_)] wx (fun e w' => e = .returned (.slice (some ⟨bp, op + at_ * 8, none⟩) m (cp - at_)) ∧ Below wx.heap.size wx w') by
    have := gpart_any bp (op + at_ * 8) (cp - at_) (zs.drop at_) z wx ((HNZ.out.below hb).drop at_) (by rw [List.getElem?_drop, Nat.add_zero]; exact HZ0.out) (by rw [List.length_drop]; omega) (by omega)
    have e : spanN (zs.drop at_) z.depth 0 = spanN zs z.depth at_ := by unfold spanN; rw [List.drop_drop]
    rw [List.length_drop, e, ← hmz.1] at this; exact this)
  have HSS := Lib.hid (fun wx (hb : Below v3.heap.size v3 wx) => show Calls Tryz.prog 54 #[.agg #[.int .i64 L.per, .slice L.A L.ms.length L.cap, .bool cw, .bool mw, .func (.func a1) #[] #[], .func (.func a2) #[] #[], .func (.func 172) #[] #[.pointer (some ⟨pw, 0, none⟩)], .func (.func b1) #[] #[], .func (.func b2) #[] #[], .func (.func 172) #[] #[.pointer (some ⟨qw, 0, none⟩)]], .slice (some ⟨bp, op + at_ * 8, none⟩) m (cp - at_)] wx (fun e w' => ∃ A3 c3, e = .returned (.slice A3 1 c3) ∧ ShPs (FreshB wx w') w' A3 0 [S] ∧ Below wx.heap.size wx w') by
    have := HSO.out pw qw (partAt zs at_) wx (some ⟨bp, op + at_ * 8, none⟩) (cp - at_) HSH.out (HL.out.below (below_more HB4.out hb)) (((HNZ.out.below hb).drop at_).take _) (by rw [← hm]; omega) (by omega)
    rw [← hm] at this
    exact this.mono (fun e w' ⟨A3, c3, e1, _, _, h4, h5⟩ => ⟨A3, c3, e1, h4, h5⟩))
  have HKS := Lib.hid (fun wx (hb : Below v3.heap.size v3 wx) => show wx.cell? ⟨v1.heap.size, 0, none⟩ = some (.int .i64 L.per) ∧ wx.cell? ⟨v1.heap.size, 1, none⟩ = some (.slice L.A L.ms.length L.cap) ∧ wx.cell? ⟨v1.heap.size, 2, none⟩ = some (.bool cw) ∧ wx.cell? ⟨v1.heap.size, 3, none⟩ = some (.bool mw) ∧ wx.cell? ⟨v1.heap.size, 4, none⟩ = some (.func (.func a1) #[] #[]) ∧ wx.cell? ⟨v1.heap.size, 5, none⟩ = some (.func (.func a2) #[] #[]) ∧ wx.cell? ⟨v1.heap.size, 6, none⟩ = some (.func (.func 172) #[] #[.pointer (some ⟨pw, 0, none⟩)]) ∧ wx.cell? ⟨v1.heap.size, 7, none⟩ = some (.func (.func b1) #[] #[]) ∧ wx.cell? ⟨v1.heap.size, 8, none⟩ = some (.func (.func b2) #[] #[]) ∧ wx.cell? ⟨v1.heap.size, 9, none⟩ = some (.func (.func 172) #[] #[.pointer (some ⟨qw, 0, none⟩)]) from
    have d := blk_keep hb T9.out
    ⟨cell_of_blk d 0, cell_of_blk d 1, cell_of_blk d 2, cell_of_blk d 3, cell_of_blk d 4, cell_of_blk d 5, cell_of_blk d 6, cell_of_blk d 7, cell_of_blk d 8, cell_of_blk d 9⟩)
  have HDR := Lib.hid (show Below v3.heap.size v3 v3.drew from (Below.refl _ _).drew)
  have HSC := Lib.hid (fun wx arg (hv : ShV wx S (.iface (tyOf S) arg)) => show Calls Tryz.prog (szFn S) #[arg] wx (fun e w' => e = .returned (.tuple #[.int .i64 p1, .int .i64 p2]) ∧ Below wx.heap.size wx w') by
    have := HSZ.out wx arg hv
    unfold GotSz at this
    rw [← HPP.out] at this; exact this)
  obtain ⟨Z, hZ⟩ : ∃ Z, Z = zs.length := ⟨_, rfl⟩
  rw [← hZ] at hcp1 hat HPT ⊢
  have q1 : (0 : Int) ≤ (at_ : Int) := by omega
  have q2 : (at_ : Int) ≤ (Z : Int) := by omega
  have q3 : (at_ : Int) ≤ (cp : Int) := by omega
  have q4 : (cp = at_) = False := by simp; omega
  have q5 : ((at_ : Int)).toNat = at_ := by omega
  unfold maxLen at hcp2
  clear hm hmz hZ HO4 HNZ HSO HSZ HZ0 HPP HSH HL
  have c9 := HKS.out _ (Below.refl _ _)
  obtain ⟨c0, c1, c2, c3, c4, c5, c6, c7, c8, c9⟩ := c9
  have hsz9 := (Array.getElem?_eq_some_iff.1 T9.out).1
  clear HKS T9
  cases S
  all_goals (
    simp only [tyOf, szFn] at HSC
    refine wp_region_later_mid 5 4 (by kernel_rfl) (by kernel_rfl) ?_
    simp only [List.take_succ_cons, List.take_zero, List.drop_succ_cons, List.drop_zero]
    (repeat (first | go_big_quiet_step (first | ((go_at_call 55; exact Calls.later _ (HPT.out _ (Later.below _))))) | quiet_step (first | ((go_at_call 55; exact Calls.later _ (HPT.out _ (Later.below _)))))))
    refine wpQuiet_nil ?_
    rintro _ ⟨s, rfl⟩
    have k5 := s.below
    go_wp2_with fail
    refine (HSS.out _ k5).mono ?_; rintro e v6 ⟨A3, c3, rfl, h3, hb6⟩
    have k6 := below_more k5 hb6
    obtain ⟨b3, o3, u3, hA3, hfb, hcell, hsu⟩ := ShPs.at_ _ 0 0 _ h3 rfl
    subst hA3
    obtain ⟨arg, rfl⟩ := hsu.iface
    have hv6 := ShP.shv (fun b hp => hp.2) _ _ hsu
    have hb36 : b3 < v6.heap.size := hfb.2
    simp [tyOf] at hcell
    have k6 := Lib.hid k6
    clear hb6 h3 hfb
    go_wp2_with fail
    refine (HSC.out _ _ hv6).mono ?_; rintro e v7 ⟨rfl, hb7⟩
    have k7 := Lib.hid (below_more k6.out hb7)
    clear hb7 hcell hsu hv6
    go_wp2_with fail
    refine midQ_normal ?_
    (repeat (first | go_big_quiet_step (fail) | quiet_step (fail)))
    refine wpQuiet_nil ?_
    rintro _ ⟨s2, rfl⟩
    have k7 := below_more k7.out s2.below
    have HBF := Lib.hid (below_more HB4.out k7)
    clear k7
    go_wp2_with fail
    go_ret3
    exact ⟨rfl, HBF.out⟩)


end Go.Proofs.YtcijomljopbelaaGreat
