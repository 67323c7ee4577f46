/-
  The groups of a text where they stand (arrange), by the program, if there is one group that is no ring, in rows from the left.
-/
import Derived.Test.YtcijomljopbelaaGreatGaK
import Derived.Test.YtcijomljopbelaaGreatGaL
import Derived.Test.YtcijomljopbelaaGreatBox
namespace Go.Proofs.YtcijomljopbelaaGreat
open Go.RowKit

theorem infoBl : (Tryz.prog.info? 123).map (fun i => (i.zero, i.size, i.bytes)) = some (some (.agg #[.nilIface, .int .i64 0, .int .i64 0, .int .i64 0, .int .i64 0, .int .i64 0, .int .i64 0, .int .i64 0, .int .i64 0]), 9, 80) := by kernel_rfl
/-- the cells of a group -/
def blCells (u : Value) (b : Bl) : List Value := [u, .int .i64 b.sc.num, .int .i64 b.sc.den, .int .i64 b.al.num, .int .i64 b.al.den, .int .i64 b.ac.num, .int .i64 b.ac.den, .int .i64 b.ln, .int .i64 b.st]
def GotArr1 (s : Shp) (w : World) (e : Ending) (w' : World) : Prop := ∃ A c arg, e = .returned (.tuple #[.slice A 1 c, .int .i64 0]) ∧ Hid (w'.ownsRow w.heap.size 123 9 (.slice A 1 c) 1 (blCells (.iface (tyOf s) arg) (newBl false s))) ∧ Hid (ShV w' s (.iface (tyOf s) arg)) ∧ Below w.heap.size w w'

theorem newBl_bd {cw : Bool} {s : Shp} (hB : szB s) : (0 ≤ (newBl cw s).al.num ∧ (newBl cw s).al.num ≤ 100000000) ∧ 1 ≤ (newBl cw s).al.den ∧ (newBl cw s).al.den ≤ 1000000 := by
  unfold szB at hB
  have ha : 0 ≤ acR cw s ∧ acR cw s ≤ 1000000 := by unfold acR; split <;> omega
  have hl : 0 ≤ alR cw s ∧ alR cw s ≤ 1000000 := by unfold alR; split <;> omega
  have hm : 48 ≤ max 48 (if isRng s then acR cw s else max s.size.1 s.size.2) ∧ max 48 (if isRng s then acR cw s else max s.size.1 s.size.2) ≤ 1000000 := by split <;> omega
  have h1 : (0 ≤ (sclR cw s).num ∧ (sclR cw s).num ≤ 48) ∧ 1 ≤ (sclR cw s).den ∧ (sclR cw s).den ≤ 1000000 := by
    unfold sclR
    have := fracR_bd (n := 48) (d := max 48 (if isRng s then acR cw s else max s.size.1 s.size.2)) (by omega) (by omega)
    omega
  have a := Int.mul_nonneg h1.1.1 hl.1
  have b := Int.mul_le_mul h1.1.2 hl.2 hl.1 (by omega)
  have := fracR_bd (n := (sclR cw s).num * alR cw s) (d := (sclR cw s).den) a (by omega)
  show (0 ≤ (fracR ((sclR cw s).num * alR cw s) (sclR cw s).den).num ∧ (fracR ((sclR cw s).num * alR cw s) (sclR cw s).den).num ≤ 100000000) ∧ 1 ≤ (fracR ((sclR cw s).num * alR cw s) (sclR cw s).den).den ∧ (fracR ((sclR cw s).num * alR cw s) (sclR cw s).den).den ≤ 1000000
  omega

set_option maxRecDepth 100000 in
set_option maxHeartbeats 16000000 in
theorem arr1_any (L : Lm) (A : Option Addr) (cap : Nat) (ns zs : List Nd) (len : Int) (s : Shp) (w : World) (hl : LmOk w L) (hn : NdsAt w A ns) (hc1 : ns.length ≤ cap) (hc : cap ≤ maxLen) (hQ : regQ plainP L.li ns = (zs, 0)) (hlen : 48 ≤ len ∧ len ≤ 4800)
    (hS : ∀ pw qw, ShapesOk L false false 131 132 135 136 pw qw [s]) (hof : ShsOf L false [s] zs) (hrg : isRng s = false) (hO : SzOk s) (hB : szB s) :
    Calls Tryz.prog 59 #[.agg #[.int .i64 L.per, .slice L.A L.ms.length L.cap], .agg #[.slice A ns.length cap], .agg #[.int .i64 1, .int .i64 len]] w (GotArr1 s w) := by
  have HPR := Lib.hid (fun wx (hb : Below w.heap.size w wx) => prep1_any L A cap ns zs len wx (hl.below hb) (hn.below hb) hc1 hc hQ hlen)
  have HSS := Lib.hid (fun wx (hb : Below w.heap.size w wx) (pw qw : Nat) (A2 : Option Addr) (c2 : Nat) (h1 : NdsAt wx A2 zs) (h2 : zs.length ≤ c2) (h3 : c2 ≤ maxLen) => show Calls Tryz.prog 54 #[.agg #[.int .i64 L.per, .slice L.A L.ms.length L.cap, .bool false, .bool false, .func (.func 131) #[] #[], .func (.func 132) #[] #[], .func (.func 172) #[] #[.pointer (some ⟨pw, 0, none⟩)], .func (.func 135) #[] #[], .func (.func 136) #[] #[], .func (.func 172) #[] #[.pointer (some ⟨qw, 0, none⟩)]], .slice A2 zs.length c2] wx (fun e w' => ∃ A3 c3, e = .returned (.slice A3 1 c3) ∧ ShPs (FreshB wx w') w' A3 0 [s] ∧ Below wx.heap.size wx w') from
    (hS pw qw zs wx A2 c2 hof (hl.below hb) h1 h2 h3).mono (fun e w' ⟨A3, c3, e1, _, _, h4, h5⟩ => ⟨A3, c3, e1, h4, h5⟩))
  have HNB := Lib.hid (fun wx arg (hv : ShV wx s (.iface (tyOf s) arg)) pw qw => newBlock_any false false 131 132 135 136 pw qw s hrg hO hB wx arg hv)
  have hbd : ((0 ≤ (newBl false s).al.num ∧ (newBl false s).al.num ≤ 100000000) ∧ 1 ≤ (newBl false s).al.den ∧ (newBl false s).al.den ≤ 1000000) := newBl_bd hB
  obtain ⟨b0, hb0⟩ : ∃ b, b = newBl false s := ⟨_, rfl⟩
  have HLN := Lib.hid (show b0.ln = 0 ∧ b0.st = 0 from ⟨by rw [hb0]; rfl, by rw [hb0]; rfl⟩)
  unfold GotArr1
  rw [← hb0] at hbd HNB ⊢
  clear hl hn hQ hlen hS hof hrg hO hb0
  obtain ⟨bs, ⟨n1, d1⟩, ⟨n2, d2⟩, ⟨n3, d3⟩, bln, bst⟩ := b0
  dsimp only at hbd HNB HLN
  obtain ⟨rfl, rfl⟩ := HLN.out
  clear HLN
  unfold blCells
  dsimp only
  unfold szB at hB
  obtain ⟨N, hN⟩ : ∃ N, N = ns.length := ⟨_, rfl⟩
  rw [← hN] at HPR hc1 ⊢
  unfold maxLen at hc
  clear hN
  obtain ⟨W1, hW1⟩ : ∃ W1, W1 = w.alloc (.cells #[.int .i64 L.per, .slice L.A L.ms.length L.cap] 24) := ⟨_, rfl⟩
  obtain ⟨W2, hW2⟩ : ∃ W2, W2 = W1.alloc (.cells #[.slice A N cap] 27) := ⟨_, rfl⟩
  obtain ⟨W, hW⟩ : ∃ W, W = W2.alloc (.cells #[.int .i64 1, .int .i64 len] 31) := ⟨_, rfl⟩
  have s1 : W1.heap.size = w.heap.size + 1 := by rw [hW1]; simp
  have s2 : W2.heap.size = w.heap.size + 1 + 1 := by rw [hW2]; simp [s1]
  have s3 : W.heap.size = w.heap.size + 1 + 1 + 1 := by rw [hW]; simp [s2]
  have k1 : Below w.heap.size w W1 := hW1 ▸ below_alloc _ _
  have k2 : Below W1.heap.size W1 W2 := hW2 ▸ below_alloc _ _
  have k3 : Below W2.heap.size W2 W := hW ▸ below_alloc _ _
  have HB := Lib.hid (below_more (below_more k1 k2) k3)
  have D0 := Lib.hid (blk_keep k3 (blk_keep k2 (show W1.heap[w.heap.size]? = some (.cells #[.int .i64 L.per, .slice L.A L.ms.length L.cap] 24 (0, 0)) by rw [hW1]; exact heap_alloc_new _ _)))
  have D1 := Lib.hid (blk_keep k3 (show W2.heap[w.heap.size + 1]? = some (.cells #[.slice A N cap] 27 (0, 0)) by rw [hW2, ← s1]; exact heap_alloc_new _ _))
  have D2 := Lib.hid (show W.heap[w.heap.size + 1 + 1]? = some (.cells #[.int .i64 1, .int .i64 len] 31 (0, 0)) by rw [hW, ← s2]; exact heap_alloc_new _ _)
  clear s1 s2 s3 k1 k2 k3
  have x0 := cell_of_blk D0.out 0
  have x1 := cell_of_blk D0.out 1
  have y0 := cell_of_blk D1.out 0
  have p0 := cell_of_blk D2.out 0
  have p1 := cell_of_blk D2.out 1
  have hz0 := (Array.getElem?_eq_some_iff.1 D0.out).1
  have hz1 := (Array.getElem?_eq_some_iff.1 D1.out).1
  have hz2 := (Array.getElem?_eq_some_iff.1 D2.out).1
  simp at x0 x1 y0 p0 p1
  obtain ⟨iv, hiv, hzv, hsv, hbv⟩ := info_hid infoBl
  go_enter Tryz.func59, Tryz.ntmps59
  go_wp2_with fail
  rw [← hW1, ← hW2, ← hW]
  clear hW1 hW2 hW
  go_wp2_with fail
  refine (HPR.out _ HB.out).mono ?_; rintro e v1 ⟨Ap, cp, pw, qw, rfl, hown, hb1⟩
  have HO1 := Lib.hid hown.out
  have HB1 := Lib.hid (below_more HB.out hb1)
  clear hown hb1 x0 x1 y0 p0 p1 hz0 hz1 hz2
  go_upto_region 2 with fail
  obtain ⟨V1, hV1⟩ : ∃ V1, V1 = v1.alloc (.cells #[.int .i64 L.per, .slice L.A L.ms.length L.cap, .bool false, .bool false, .func (.func 131) #[] #[], .func (.func 132) #[] #[], .func (.func 172) #[] #[.pointer (some ⟨pw, 0, none⟩)], .func (.func 135) #[] #[], .func (.func 136) #[] #[], .func (.func 172) #[] #[.pointer (some ⟨qw, 0, none⟩)]] 104) := ⟨_, rfl⟩
  have hbv1 : Below v1.heap.size v1 V1 := hV1 ▸ below_alloc _ _
  have T9 := Lib.hid (show V1.heap[v1.heap.size]? = some (.cells #[.int .i64 L.per, .slice L.A L.ms.length L.cap, .bool false, .bool false, .func (.func 131) #[] #[], .func (.func 132) #[] #[], .func (.func 172) #[] #[.pointer (some ⟨pw, 0, none⟩)], .func (.func 135) #[] #[], .func (.func 136) #[] #[], .func (.func 172) #[] #[.pointer (some ⟨qw, 0, none⟩)]] 104 (0, 0)) from hV1 ▸ heap_alloc_new _ _)
  have HB2 := Lib.hid (below_more HB1.out hbv1)
  have HO2 := Lib.hid (ownsRow_of_block HO1.out (fun g hg => hbv1.block g (HO1.out.lt g hg).2))
  rw [← hV1]
  clear hV1 hbv1
  have q0 := cell_of_blk T9.out 0
  have q1 := cell_of_blk T9.out 1
  have q2 := cell_of_blk T9.out 2
  have q3 := cell_of_blk T9.out 3
  have q4 := cell_of_blk T9.out 4
  have q5 := cell_of_blk T9.out 5
  have q6 := cell_of_blk T9.out 6
  have q7 := cell_of_blk T9.out 7
  have q8 := cell_of_blk T9.out 8
  have q9 := cell_of_blk T9.out 9
  have hqs := (Array.getElem?_eq_some_iff.1 T9.out).1
  simp at q0 q1 q2 q3 q4 q5 q6 q7 q8 q9
  go_wp2_with fail
  refine (HSS.out _ HB2.out pw qw Ap cp (own_nodes HO2.out) (own_len HO2.out).1 (own_len HO2.out).2.1).mono ?_; rintro e v2 ⟨A3, c3, rfl, hsh, hb2⟩
  obtain ⟨b, o, u, hA3, hfb, hcell, hsu⟩ := ShPs.at_ [s] 0 0 s hsh rfl
  subst hA3
  obtain ⟨arg, rfl⟩ := hsu.iface
  have HV2 := Lib.hid (ShP.shv (fun b hp => hp.2) s _ hsu)
  have HB3 := Lib.hid (below_more HB2.out hb2)
  have T3 := Lib.hid (blk_keep hb2 T9.out)
  have hblt : b < v2.heap.size := hfb.2
  have HCE := Lib.hid (show v2.cell? ⟨b, o, none⟩ = some (.iface (tyOf s) arg) by simpa using hcell)
  clear hsh hsu hcell hfb hb2 HSS HPR q0 q1 q2 q3 q4 q5 q6 q7 q8 q9 hqs
  go_wp2_with fail
  go_loopw [11, 12, 13, 32] (fun v l st i wr => ∃ (k : Nat) (x : Int), k ≤ 1 ∧ i = .int .i64 k ∧ l = .int .i64 0 ∧ st = .int .i64 x ∧ Hid (k = 0 → x = 0) ∧ Hid (wr.ownsRow v2.heap.size 123 9 v k (if k = 0 then [] else [.iface (tyOf s) arg, .int .i64 n1, .int .i64 d1, .int .i64 n2, .int .i64 d2, .int .i64 n3, .int .i64 d3, .int .i64 0, .int .i64 0])) ∧ Hid (Below v2.heap.size v2 wr)) (fun _ _ _ i _ => 1 - (intOf i).toNat)
  case atStart => exact ⟨0, 0, Nat.zero_le _, rfl, rfl, rfl, Lib.hid (fun _ => rfl), Lib.hid (by simpa using World.ownsRow_nil _ _ _ _), Lib.hid (Below.refl _ _)⟩
  case round =>
    obtain ⟨k, x, hk, rfl, rfl, rfl, hx, hown, hbw⟩ := hrel
    have HOW := Lib.hid hown.out
    have HBR := Lib.hid hbw.out
    have HXX := Lib.hid hx.out
    clear hown hbw hx
    by_cases hlt : k < 1
    · have hk0 : k = 0 := by omega
      have HX0 := Lib.hid (show x = 0 from HXX.out hk0)
      have HOE := Lib.hid (show wr.ownsRow v2.heap.size 123 9 u11 k [] by have := HOW.out; rwa [if_pos hk0] at this)
      have hki : (0 : Int) ≤ (k : Int) := by omega
      have hkl : (k : Int) < 1 := by omega
      have z := (HBR.out.cell (p := ⟨b, o + k, none⟩) hblt).trans (show v2.cell? ⟨b, o + k, none⟩ = some (.iface (tyOf s) arg) by rw [hk0]; exact HCE.out)
      have hbr : b < wr.heap.size := by have := HBR.out.size; omega
      have TR := Lib.hid (blk_keep HBR.out T3.out)
      have q2 := cell_of_blk TR.out 2
      have q3 := cell_of_blk TR.out 3
      have q4 := cell_of_blk TR.out 4
      have q5 := cell_of_blk TR.out 5
      have q6 := cell_of_blk TR.out 6
      have q7 := cell_of_blk TR.out 7
      have q8 := cell_of_blk TR.out 8
      have q9 := cell_of_blk TR.out 9
      have hqs := (Array.getElem?_eq_some_iff.1 TR.out).1
      simp at q2 q3 q4 q5 q6 q7 q8 q9
      have HD0 := Lib.hid (show decide (0 < x) = false from decide_eq_false (by have := HX0.out; omega))
      clear HOW HXX hk0
      go_wp2_with fail
      refine (HNB.out _ arg (ShV.below HBR.out s _ HV2.out) pw qw).mono ?_; rintro e v4 ⟨rfl, hb4⟩
      have HB4 := Lib.hid hb4
      clear hb4 z hbr q2 q3 q4 q5 q6 q7 q8 q9 hqs
      go_upto_region 10 with fail
      obtain ⟨V5, hV5⟩ : ∃ V5, V5 = v4.alloc (.cells #[.iface (tyOf s) arg, .int .i64 n1, .int .i64 d1, .int .i64 n2, .int .i64 d2, .int .i64 n3, .int .i64 d3, .int .i64 0, .int .i64 0] 123) := ⟨_, rfl⟩
      have hb5 : Below v4.heap.size v4 V5 := hV5 ▸ below_alloc _ _
      have HB5 := Lib.hid (below_more HB4.out hb5)
      have Q5 := Lib.hid (show V5.heap[v4.heap.size]? = some (.cells #[.iface (tyOf s) arg, .int .i64 n1, .int .i64 d1, .int .i64 n2, .int .i64 d2, .int .i64 n3, .int .i64 d3, .int .i64 0, .int .i64 0] 123 (0, 0)) from hV5 ▸ heap_alloc_new _ _)
      rw [← hV5]
      clear hV5 hb5
      have hd0 := HD0.out
      refine wp_region_later (by kernel_rfl) (by kernel_rfl) ?_; (repeat (first | go_big_quiet_step (fail) | quiet_step (fail))); refine wpQuiet_nil ?_; rintro _ ⟨s', rfl⟩
      have HB6 := Lib.hid (below_more HB5.out s'.below)
      have B5 := Lib.hid (blk_keep s'.below Q5.out)
      have HSZ := Lib.hid (show wr.heap.size ≤ v4.heap.size from HB4.out.size)
      obtain ⟨Y, hY⟩ : ∃ Y, Y = s'.w := ⟨_, rfl⟩
      rw [← hY] at HB6 B5 ⊢
      clear hY s' hd0
      have b0 := cell_of_blk B5.out 0
      have f0 := free_of_blk B5.out 0
      have b1 := cell_of_blk B5.out 1
      have f1 := free_of_blk B5.out 1
      have b2 := cell_of_blk B5.out 2
      have f2 := free_of_blk B5.out 2
      have b3 := cell_of_blk B5.out 3
      have f3 := free_of_blk B5.out 3
      have b4 := cell_of_blk B5.out 4
      have f4 := free_of_blk B5.out 4
      have b5 := cell_of_blk B5.out 5
      have f5 := free_of_blk B5.out 5
      have b6 := cell_of_blk B5.out 6
      have f6 := free_of_blk B5.out 6
      have b7 := cell_of_blk B5.out 7
      have f7 := free_of_blk B5.out 7
      have b8 := cell_of_blk B5.out 8
      have f8 := free_of_blk B5.out 8
      have hbs := (Array.getElem?_eq_some_iff.1 B5.out).1
      simp at b0 b1 b2 b3 b4 b5 b6 b7 b8
      go_upto_region 13 with fail
      obtain ⟨V6, hV6⟩ : ∃ V6, V6 = (Y.setCell ⟨v4.heap.size, 7, none⟩ (.int .i64 0)).setCell ⟨v4.heap.size, 8, none⟩ (.int .i64 x) := ⟨_, rfl⟩
      have B6 := Lib.hid (show V6.heap[v4.heap.size]? = some (.cells #[.iface (tyOf s) arg, .int .i64 n1, .int .i64 d1, .int .i64 n2, .int .i64 d2, .int .i64 n3, .int .i64 d3, .int .i64 0, .int .i64 0] 123 (0, 0)) by
        have h := heap_setCell_same _ v4.heap.size 8 (.int .i64 x) _ _ (heap_setCell_same Y v4.heap.size 7 (.int .i64 0) _ _ B5.out)
        rw [hV6]; rw [HX0.out] at h ⊢; simpa using h)
      have HB7 := Lib.hid (show Below wr.heap.size wr V6 from hV6 ▸ (HB6.out.setCell HSZ.out _).setCell HSZ.out _)
      rw [← hV6]
      clear hV6 b0 b1 b2 b3 b4 b5 b6 b7 b8 f0 f1 f2 f3 f4 f5 f6 f7 f8 hbs
      have b0 := cell_of_blk B6.out 0
      have b1 := cell_of_blk B6.out 1
      have b2 := cell_of_blk B6.out 2
      have b3 := cell_of_blk B6.out 3
      have b4 := cell_of_blk B6.out 4
      have b5 := cell_of_blk B6.out 5
      have b6 := cell_of_blk B6.out 6
      have b7 := cell_of_blk B6.out 7
      have b8 := cell_of_blk B6.out 8
      have hbs := (Array.getElem?_eq_some_iff.1 B6.out).1
      simp at b0 b1 b2 b3 b4 b5 b6 b7 b8
      have HOV := Lib.hid (ownsRow_of_block HOE.out (fun g hg => HB7.out.block g (HOE.out.lt g hg).2))
      obtain ⟨Av, cv, hv7, -, -, -, -⟩ := own_slice HOE.out
      subst hv7
      have HSS := Lib.hid (show v2.heap.size ≤ V6.heap.size from Nat.le_trans HBR.out.size HB7.out.size)
      have HSA := Lib.hid (show ∀ (o : Obj), v2.heap.size ≤ (V6.alloc o).heap.size from fun o => by rw [World.size_alloc]; have := HSS.out; omega)
      have HNR := Lib.hid (new_row V6 [.iface (tyOf s) arg, .int .i64 n1, .int .i64 d1, .int .i64 n2, .int .i64 d2, .int .i64 n3, .int .i64 d3, .int .i64 0, .int .i64 0] 123)
      have HN1 := Lib.hid (show ∀ u ∈ ([.iface (tyOf s) arg, .int .i64 n1, .int .i64 d1, .int .i64 n2, .int .i64 d2, .int .i64 n3, .int .i64 d3, .int .i64 0, .int .i64 0] : List Value), u.oneCell' = true from fun u hu => by simp at hu; rcases hu with rfl | rfl | rfl | rfl | rfl | rfl | rfl | rfl <;> rfl)
      go_wp2_with (first
        | (at_builtin; refine wpList_append_src _ rfl (.tmp 58) (.tmp 60) 119 rfl v2.heap.size 123 iv (.agg #[.nilIface, .int .i64 0, .int .i64 0, .int .i64 0, .int .i64 0, .int .i64 0, .int .i64 0, .int .i64 0, .int .i64 0]) 9 80 Tryz.underlying119 hiv.out hzv.out hsv.out hbv.out rfl (by decide) (.slice Av k cv) k [] rfl (HOV.out.alloc _) (some ⟨V6.heap.size, 0, none⟩) 1 1 [.iface (tyOf s) arg, .int .i64 n1, .int .i64 d1, .int .i64 n2, .int .i64 d2, .int .i64 n3, .int .i64 d3, .int .i64 0, .int .i64 0] rfl rfl (fun h => by cases h) HNR.out HN1.out (by unfold maxLen; omega) (by omega) (HSA.out _) (k + 1) rfl ?_))
      intro A9 c9 w9 own9 hg9 _
      have HB9 := Lib.hid (((HBR.out.trans (HB7.out.mono HBR.out.size)).alloc HSS.out _).grown hg9 (by rw [World.size_alloc]; have := HSS.out; omega) (fun g hg => (HOV.out.lt g hg).1))
      have HO9 := Lib.hid (show w9.ownsRow v2.heap.size 123 9 (.slice A9 (k + 1) c9) (k + 1) (if k + 1 = 0 then [] else [.iface (tyOf s) arg, .int .i64 n1, .int .i64 d1, .int .i64 n2, .int .i64 d2, .int .i64 n3, .int .i64 d3, .int .i64 0, .int .i64 0]) by
        rw [if_neg (by omega)]; exact own9)
      have B7 := Lib.hid (show w9.heap[v4.heap.size]? = some (.cells #[.iface (tyOf s) arg, .int .i64 n1, .int .i64 d1, .int .i64 n2, .int .i64 d2, .int .i64 n3, .int .i64 d3, .int .i64 0, .int .i64 0] 123 (0, 0)) from
        (hg9.block v4.heap.size (by rw [World.size_alloc]; have := (Array.getElem?_eq_some_iff.1 B6.out).1; omega) (fun h => by have h1 := (HOE.out.lt _ h.symm).2; have := HSZ.out; omega)).trans ((heap_alloc_other _ _ _ (Array.getElem?_eq_some_iff.1 B6.out).1).trans B6.out))
      have HEF := Lib.hid (fun wx => endFrom_any (tyOf s) arg n1 d1 n2 d2 n3 d3 0 0 x wx hbd.1 (by omega) (by have := HX0.out; omega))
      have hen : (0 ≤ (fracR (x * d2 + n2 * 1) (1 * d2)).num ∧ (fracR (x * d2 + n2 * 1) (1 * d2)).num ≤ 100000000) ∧ 1 ≤ (fracR (x * d2 + n2 * 1) (1 * d2)).den ∧ (fracR (x * d2 + n2 * 1) (1 * d2)).den ≤ 1000000 := by
        have e : x * d2 = 0 := by rw [HX0.out, Int.zero_mul]
        have := fracR_bd (n := x * d2 + n2 * 1) (d := 1 * d2) (by rw [e]; omega) (by omega)
        rw [e] at this ⊢
        omega
      obtain ⟨⟨m1, m2⟩, hm⟩ : ∃ m, m = fracR (x * d2 + n2 * 1) (1 * d2) := ⟨_, rfl⟩
      rw [← hm] at hen HEF
      dsimp only at hen HEF
      have HCE2 := Lib.hid (fun wx => ceiling_any m1 m2 wx (by omega) (by omega))
      have hcb : 0 ≤ ceilR m1 m2 ∧ ceilR m1 m2 ≤ 200000000 := by
        unfold ceilR
        have h1 := Int.ediv_nonneg (a := m1 + m2 - 1) (b := m2) (by omega) (by omega)
        have h2 := Int.ediv_le_self m2 (show 0 ≤ m1 + m2 - 1 by omega)
        omega
      obtain ⟨cl, hcl⟩ : ∃ c, c = ceilR m1 m2 := ⟨_, rfl⟩
      rw [← hcl] at HCE2 hcb
      clear hm hen hcl own9 hg9 HNR HN1 HSA b0 b1 b2 b3 b4 b5 b6 b7 b8 hbs
      have b0 := cell_of_blk B7.out 0
      have b1 := cell_of_blk B7.out 1
      have b2 := cell_of_blk B7.out 2
      have b3 := cell_of_blk B7.out 3
      have b4 := cell_of_blk B7.out 4
      have b5 := cell_of_blk B7.out 5
      have b6 := cell_of_blk B7.out 6
      have b7 := cell_of_blk B7.out 7
      have b8 := cell_of_blk B7.out 8
      have hbs := (Array.getElem?_eq_some_iff.1 B7.out).1
      simp at b0 b1 b2 b3 b4 b5 b6 b7 b8
      go_wp2_with fail
      trace_state
      refine (HEF.out _).mono ?_; rintro e w10 ⟨rfl, hb10⟩
      have HB10 := Lib.hid (HB9.out.trans (hb10.mono HB9.out.size))
      have HO10 := Lib.hid (ownsRow_of_block HO9.out (fun g hg => hb10.block g (HO9.out.lt g hg).2))
      clear hb10 b0 b1 b2 b3 b4 b5 b6 b7 b8 hbs
      go_wp2_with fail
      refine (HCE2.out _).mono ?_; rintro e w11 ⟨rfl, hb11⟩
      have HB11 := Lib.hid (HB10.out.trans (hb11.mono HB10.out.size))
      have HO11 := Lib.hid (ownsRow_of_block HO10.out (fun g hg => hb11.block g (HO10.out.lt g hg).2))
      clear hb11
      go_wp2_with fail
      go_roundw
      case rel => exact ⟨k + 1, cl + 24, by omega, by go_num, rfl, rfl, Lib.hid (fun h => by omega), HO11, HB11⟩
      case measure => simp [intOf]; omega
    · obtain rfl : k = 1 := by omega
      have h1 := HOW.out
      rw [if_neg (by omega)] at h1
      obtain ⟨Av, cv, hv7, -, -, -, -⟩ := own_slice h1
      subst hv7
      have HBF := Lib.hid (below_more HB3.out HBR.out)
      have HOF := Lib.hid (own_base h1 HB3.out.size)
      have HVF := Lib.hid (ShV.below HBR.out s _ HV2.out)
      clear h1 HOW HXX
      go_wp2_with fail
      go_ret2
      exact ⟨Av, cv, arg, rfl, HOF, HVF, HBF.out⟩

end Go.Proofs.YtcijomljopbelaaGreat
