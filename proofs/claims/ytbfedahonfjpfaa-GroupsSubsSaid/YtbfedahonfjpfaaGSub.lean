/-
  A node as a text of its own: Sub, the program's and the specification's.
-/
import Derived.Test.YtbfedahonfjpfaaGRai
import Derived.Test.YtbfedahonfjpfaaGKds
import Derived.Deep.RegionHeld3
namespace Go.Proofs.Ytbfedahonfjpfaa
open Go.RowKit

/-- a text and an error that were made, in memory of the call's own -/
def GotTextO (w : World) (zs : List Nd) (er : Int) (e : Ending) (w' : World) : Prop :=
  ∃ A k c, e = .returned (.tuple #[.agg #[.slice A k c], .int .i64 er]) ∧ Hid (k = zs.length) ∧ Hid (w'.ownsRow w.heap.size 78 8 (.slice A k c) k (zs.flatMap Nd.cells)) ∧ Below w.heap.size w w'

def belowN (ns : List Nd) (i : Nat) : List Nd := match ns[i]? with
  | none => []
  | some u => ((ns.drop i).take (1 + spanN ns u.depth i)).map (lowerN u.depth)
theorem belowN_at {ns : List Nd} {i : Nat} {u : Nd} (h : ns[i]? = some u) : belowN ns i = ((ns.drop i).take (1 + spanN ns u.depth i)).map (lowerN u.depth) := by unfold belowN; rw [h]
def subQ (l : Li) (ns : List Nd) (node : Int) : List Nd × Int :=
  if placeErr l ns node ≠ 0 then ([], placeErr l ns node) else (belowN ns node.toNat, 0)

theorem own_none (w : World) (base : Nat) : w.ownsRow base 78 8 (.slice none 0 0) 0 (List.flatMap Nd.cells []) := World.ownsRow_nil _ _ _ _

set_option maxRecDepth 100000 in
set_option maxHeartbeats 4000000 in
theorem subP_any (L : Lm) (A : Option Addr) (cap : Nat) (ns : List Nd) (node : Int) (w : World) (hl : LmOk w L) (hn : NdsAt w A ns) (hc1 : ns.length ≤ cap) (hc : cap ≤ maxLen) :
    Calls Try.prog 45 #[.agg #[.int .i64 L.per, .slice L.A L.ms.length L.cap], .agg #[.slice A ns.length cap], .int .i64 node] w (GotTextO w (subQ L.li ns node).1 (subQ L.li ns node).2) := by
  obtain ⟨E, hE⟩ : ∃ E, placeErr L.li ns node = E := ⟨_, rfl⟩
  obtain ⟨R, hR⟩ : ∃ R, R = subQ L.li ns node := ⟨_, rfl⟩
  have HE := Lib.hid (show R = if E ≠ 0 then ([], E) else (belowN ns node.toNat, 0) by rw [hR, ← hE]; rfl)
  have HOK := Lib.hid (fun (h : E = 0) => place_ok (hE.trans h))
  have HNS := Lib.hid hn
  have HCM := Lib.hid hc
  obtain ⟨N, hN⟩ : ∃ N, N = ns.length := ⟨_, rfl⟩
  have HN := Lib.hid hN
  have HCK := Lib.hid (fun wx (hb : Below w.heap.size w wx) => place_any L A cap ns node wx (hl.below hb) (hn.below hb) hc1 hc E hE)
  rw [← hR]
  rw [← hN] at HCK hc1 HOK ⊢
  unfold maxLen at hc
  obtain ⟨W, hW⟩ : ∃ W, W = ((w.alloc (.cells #[.int .i64 L.per, .slice L.A L.ms.length L.cap] 24)).alloc (.cells #[.slice A N cap] 27)).alloc (.cells #[.slice none 0 0] 27) := ⟨_, rfl⟩
  have HB := Lib.hid (show Below w.heap.size w W from hW ▸ (((Below.refl _ _).alloc (Nat.le_refl _) _).alloc (by simp) _).alloc (by simp; omega) _)
  have HX1 := Lib.hid (show W.heap[w.heap.size + 1]? = some (.cells #[.slice A N cap] 27 (0, 0)) by
    rw [hW, heap_alloc_other _ _ _ (by simp)]; have := heap_alloc_new (w.alloc (.cells #[.int .i64 L.per, .slice L.A L.ms.length L.cap] 24)) (.cells #[.slice A N cap] 27); simpa using this)
  have HX2 := Lib.hid (show W.heap[w.heap.size + 1 + 1]? = some (.cells #[.slice none 0 0] 27 (0, 0)) by
    rw [hW]; have := heap_alloc_new ((w.alloc (.cells #[.int .i64 L.per, .slice L.A L.ms.length L.cap] 24)).alloc (.cells #[.slice A N cap] 27)) (.cells #[.slice none 0 0] 27); simpa using this)
  clear hl hn hE hN hR
  go_enter Try.func45, Try.ntmps45
  go_wp2_with fail
  rw [← hW]
  refine (HCK.out W HB.out).mono ?_; rintro e w1 ⟨rfl, hb⟩
  have HB1 := Lib.hid (below_more HB.out hb)
  have D1 := Lib.hid (blk_keep hb HX1.out)
  have D2 := Lib.hid (blk_keep hb HX2.out)
  have x0 := cell_of_blk D1.out 0
  have q0 := cell_of_blk D2.out 0
  have q1 := free_of_blk D2.out 0
  have hs2 := (Array.getElem?_eq_some_iff.1 D2.out).1
  have hs1 : w.heap.size + 1 < w1.heap.size := by omega
  have hsz : w.heap.size ≤ w1.heap.size := by omega
  simp at x0 q0
  clear hb hW HX1 HX2 HCK HB
  by_cases h0 : E = 0
  case neg =>
    have hbE : (E != 0) = true := by simpa using h0
    have HF := Lib.hid (show R = ([], E) by rw [HE.out, if_pos h0])
    clear h0 HE
    go_wp2
    refine bodyPost_ret (v := .tuple #[.agg #[.slice none 0 0], .int .i64 E]) (by simp [results, Try.results45, go_sem, q0]) rfl ?_
    rw [HF.out]
    exact ⟨none, 0, 0, rfl, Lib.hid rfl, Lib.hid (own_none _ _), HB1.out.setCell (by dsimp only; omega) _⟩
  subst h0
  obtain ⟨ht, hn0, hn1⟩ := HOK.out rfl
  obtain ⟨i, rfl⟩ : ∃ i : Nat, node = i := ⟨node.toNat, by omega⟩
  have hiN : i < N := by omega
  obtain ⟨u, hu⟩ : ∃ u, ns[i]? = some u := ⟨_, List.getElem?_eq_getElem (by have := HN.out; omega)⟩
  obtain ⟨-, hk2, -, -, hk5, -⟩ := text_ok ht
  have hdu := hk5 u (List.mem_of_getElem? hu)
  obtain ⟨b, o, rfl, hblt, hva⟩ := HNS.out i u hu
  have y1 := (HB1.out.cell (p := ⟨b, o + i * 8 + 1, none⟩) hblt).trans hva.c1
  have hsp := spanN_le ns u.depth i (by rw [← HN.out]; exact hiN)
  obtain ⟨d, hd⟩ : ∃ d, d = u.depth := ⟨_, rfl⟩
  have HBN := Lib.hid (belowN_at hu)
  rw [← hd] at hdu y1 hsp HBN
  obtain ⟨m, hm⟩ : ∃ m, m = 1 + spanN ns d i := ⟨_, rfl⟩
  have HPT := Lib.hid (fun wx (hb : Below w1.heap.size w1 wx) => show Calls Try.prog 79 #[.slice (some ⟨b, o, none⟩) N cap, .int .i64 i] wx (fun e w' => e = .returned (.slice (some ⟨b, o + i * 8, none⟩) m m) ∧ Below wx.heap.size wx w') by
    have := part_any b o cap i ns u hu (by rw [← HN.out]; exact hc1) HCM.out wx (HNS.out.below (below_more HB1.out hb))
    rw [← hd, ← hm, ← HN.out] at this; exact this)
  rw [← hm] at HBN
  have hmN : i + m ≤ N := by rw [HN.out]; omega
  obtain ⟨zs, hzs⟩ : ∃ zs, zs = (ns.drop i).take m := ⟨_, rfl⟩
  have HZL := Lib.hid (show m = zs.length by rw [hzs, List.length_take, List.length_drop, ← HN.out]; omega)
  have HRS := Lib.hid (fun wx (hb : Below w1.heap.size w1 wx) => show Calls Try.prog 78 #[.slice (some ⟨b, o + i * 8, none⟩) m m, .int .i64 d] wx (GotRow wx 78 8 m ((zs.map (lowerN d)).flatMap Nd.cells)) by
    have := raise_any (some ⟨b, o + i * 8, none⟩) m zs d wx (hzs ▸ (((HNS.out.below (below_more HB1.out hb)).drop i).take m)) (by rw [← HZL.out]; exact Nat.le_refl _) (by unfold maxLen; omega) (by rw [← HZL.out]; omega) hdu (fun x hx => hk5 x (by rw [hzs] at hx; exact List.mem_of_mem_drop (List.mem_of_mem_take hx)))
    rw [← HZL.out] at this; exact this)
  have HF := Lib.hid (show R = (zs.map (lowerN d), 0) by rw [HE.out, if_neg (by simp), Int.toNat_natCast, HBN.out, hzs])
  have hbw : b < w1.heap.size := by omega
  clear HE HOK hu hva hk2 hk5 ht hn0 hn1 hd hm hzs HBN hdu hsp
  go_wp2_with fail
  have HK := Lib.hid (fun w' (hb : Below w1.heap.size w1 w') => show w'.cell? ⟨w.heap.size + 1, 0, none⟩ = some (.slice (some ⟨b, o, none⟩) N cap) ∧ w'.cell? ⟨b, o + i * 8 + 1, none⟩ = some (.int .i64 d) from
    ⟨cell_of_blk (blk_keep hb D1.out) 0, (hb.cell (p := ⟨b, o + i * 8 + 1, none⟩) hbw).trans y1⟩)
  have HDR := Lib.hid (show Below w1.heap.size w1 w1.drew from (Below.refl _ _).drew)
  have HKS := Lib.hid (fun (wx : World) (v : Value) (h : wx.cell? ⟨w.heap.size + 1, 0, none⟩ = some (.slice (some ⟨b, o, none⟩) N cap) ∧ wx.cell? ⟨b, o + i * 8 + 1, none⟩ = some (.int .i64 d)) => show (wx.setCell ⟨w.heap.size + 1 + 1, 0, none⟩ v).cell? ⟨w.heap.size + 1, 0, none⟩ = some (.slice (some ⟨b, o, none⟩) N cap) ∧ (wx.setCell ⟨w.heap.size + 1 + 1, 0, none⟩ v).cell? ⟨b, o + i * 8 + 1, none⟩ = some (.int .i64 d) from
    ⟨(World.cell?_of_block (a := ⟨w.heap.size + 1, 0, none⟩) (heap_setCell_other _ _ _ _ (by dsimp only; omega))).trans h.1, (World.cell?_of_block (a := ⟨b, o + i * 8 + 1, none⟩) (heap_setCell_other _ _ _ _ (by dsimp only; omega))).trans h.2⟩)
  have HQ := Lib.hid (fun w' (hb : Below w1.heap.size w1 w') => show w'.cell? ⟨w.heap.size + 1 + 1, 0, none⟩ = some (.slice none 0 0) ∧ w'.frozen? ⟨w.heap.size + 1 + 1, 0, none⟩ = false ∧ w.heap.size + 1 + 1 < w'.heap.size from
    ⟨by have := cell_of_blk (blk_keep hb D2.out) 0; simpa using this, free_of_blk (blk_keep hb D2.out) 0, (Array.getElem?_eq_some_iff.1 (blk_keep hb D2.out)).1⟩)
  clear x0 q0 q1 y1
  go_region_held3 (fun w' => w'.cell? ⟨w.heap.size + 1, 0, none⟩ = some (.slice (some ⟨b, o, none⟩) N cap) ∧ w'.cell? ⟨b, o + i * 8 + 1, none⟩ = some (.int .i64 d))
    (first | (refine HK.out _ ?_; first | assumption | exact HDR.out) | (refine HKS.out _ _ ?_; refine HK.out _ ?_; assumption))
    (first
      | (go_at_call 79; refine (HPT.out _ HDR.out).mono ?_; rintro e wp ⟨rfl, hbp⟩; have hbwp := below_more HDR.out hbp)
      | (go_at_call 78; refine (HRS.out _ hbwp).mono ?_; rintro e wr ⟨A2, c2, rfl, hown, hbr⟩; have hbwr := below_more hbwp hbr; obtain ⟨z0, z1, z2⟩ := HQ.out wr hbwr))
  have HO := Lib.hid (show (wr.setCell ⟨w.heap.size + 1 + 1, 0, none⟩ (.slice A2 m c2)).ownsRow w.heap.size 78 8 (.slice A2 m c2) m ((zs.map (lowerN d)).flatMap Nd.cells) from
    own_base (ownsRow_of_block hown (fun g hg => heap_setCell_other _ _ _ _ (by have := (hown.lt g hg).1; have := hbwp.size; dsimp only; omega))) (by have := hbwp.size; omega))
  have HBB := Lib.hid (show Below w.heap.size w (wr.setCell ⟨w.heap.size + 1 + 1, 0, none⟩ (.slice A2 m c2)) from (below_more HB1.out hbwr).setCell (by dsimp only; omega) _)
  clear hown HK HDR HKS HQ HPT HRS hbp hbwp hbr hbwr
  go_wp2
  refine bodyPost_ret (v := .tuple #[.agg #[.slice A2 m c2], .int .i64 0]) (by simp [results, Try.results45, go_sem, z0, z2]) rfl ?_
  rw [HF.out]
  exact ⟨A2, m, c2, rfl, Lib.hid (by rw [List.length_map]; exact HZL.out), Lib.hid HO.out, HBB.out⟩

end Go.Proofs.Ytbfedahonfjpfaa
