/-
  Contract of the law of ParseName: it returns true.
-/
import Derived.Test.YthnhpgmohhaeaaaDoorRpname2
import Derived.Test.YthnhpgmohhaeaaaDoorLBear
namespace Go.Proofs.YthnhpgmohhaeaaaDoor
open Go.RowKit

set_option maxHeartbeats 1600000 in
set_option maxRecDepth 100000 in
theorem law_pname (L : Lm) (t : ByteArray) (p : Int) (w : World) (hE : Env w) (hl : LmOk w L) (ht : t.size ≤ maxLen) :
    Calls Tryd.prog 7 #[L.val, .string t, .int .i64 p] w fun e w' => e = .returned (.bool true) ∧ Below w.heap.size w w' := by
  obtain ⟨W, hW⟩ : ∃ W, W = (w.alloc (.cells #[.int .i64 L.per, .slice L.A L.ms.length L.cap] 24)) := ⟨_, rfl⟩
  have HB := Lib.hid (show Below w.heap.size w W from hW ▸ ((Below.refl _ _).alloc (Nat.le_refl _) _))
  have C1 := Lib.hid (show W.heap[w.heap.size]? = some (.cells #[.int .i64 L.per, .slice L.A L.ms.length L.cap] 24 (0, 0)) by
    rw [hW]; exact heap_alloc_new _ _)
  have HS := Lib.hid (show W.heap.size = w.heap.size + 1 by rw [hW]; simp)
  have HL := Lib.hid (hl.below HB.out)
  have HE := Lib.hid (hE.below HB.out)
  unfold maxLen at ht
  clear hl hE
  obtain ⟨B, hB⟩ : ∃ B, bigB L.signs = B := ⟨_, rfl⟩
  have HBB := Lib.hid hB
  clear hB
  show Calls _ _ #[.agg #[.int .i64 L.per, .slice L.A L.ms.length L.cap], .string t, .int .i64 p] w _
  go_enter Tryd.func7, Tryd.ntmps7
  have HBG := Lib.hid (fun r (h : bigB L.signs = r) => show Calls Tryd.prog 12 #[.agg #[.int .i64 L.per, .slice L.A L.ms.length L.cap]] W _ from big_is L W HL.out r h)
  have HWK := Lib.hid (fun w1 (hb : Below W.heap.size W w1) => works_any w1 (HE.out.below hb))
  cases B with
  | true =>
    go_wp2_with fail
    rw [← hW]
    refine (HBG.out _ HBB.out).mono ?_; rintro e w1 ⟨rfl, hb1⟩
    have b1 := Lib.hid hb1
    clear hb1
    go_wp2_with fail
    refine (HWK.out _ b1.out).mono ?_; rintro e w2 ⟨rfl, hb2⟩
    go_wp2
    go_ret
    exact ⟨rfl, (HB.out.trans (b1.out.mono HB.out.size)).trans (hb2.mono (by have := HB.out.size; have := b1.out.size; omega))⟩
  | false =>
    have hnb := not_big HBB.out
    by_cases h1000 : t.size ≤ 1000
    case neg =>
      go_wp2_with fail
      rw [← hW]
      refine (HBG.out _ HBB.out).mono ?_; rintro e w1 ⟨rfl, hb1⟩
      have b1 := Lib.hid hb1
      clear hb1 hnb
      go_wp2_with fail
      refine (HWK.out _ b1.out).mono ?_; rintro e w2 ⟨rfl, hb2⟩
      go_wp2
      go_ret
      exact ⟨rfl, (HB.out.trans (b1.out.mono HB.out.size)).trans (hb2.mono (by have := HB.out.size; have := b1.out.size; omega))⟩
    have HNB := Lib.hid hnb
    clear hnb
    obtain ⟨n, hn1, hn2, hn3⟩ := first_of letB t
    go_wp2_with fail
    rw [← hW]
    refine (HBG.out _ HBB.out).mono ?_; rintro e w1 ⟨rfl, hb1⟩
    have b1 := Lib.hid hb1
    have D1 := Lib.hid (blk_keep hb1 C1.out)
    have L1 := Lib.hid (HL.out.below hb1)
    clear hb1
    have HK := Lib.hid (fun w' (hb : Below w1.heap.size w1 w') => show w'.cell? ⟨w.heap.size, 0, none⟩ = some (.int .i64 L.per) ∧ w'.cell? ⟨w.heap.size, 1, none⟩ = some (.slice L.A L.ms.length L.cap) ∧ Below w1.heap.size w1 w' from
      ⟨cell_of_blk (blk_keep hb D1.out) 0, cell_of_blk (blk_keep hb D1.out) 1, hb⟩)
    have HDR := Lib.hid (show Below w1.heap.size w1 w1.drew from (Below.refl _ _).drew)
    have HSB := Lib.hid (fun wx (h : wx.cell? ⟨w.heap.size, 0, none⟩ = some (.int .i64 L.per) ∧ wx.cell? ⟨w.heap.size, 1, none⟩ = some (.slice L.A L.ms.length L.cap) ∧ Below w1.heap.size w1 wx) => h.2.2)
    have HCP := Lib.hid (fun wx (hb : Below w1.heap.size w1 wx) => show Calls Tryd.prog 14 #[.agg #[.int .i64 L.per, .slice L.A L.ms.length L.cap]] wx (GotList wx L.li) from
      copy_any L wx (L1.out.below hb) (by have := HNB.out.1; omega) (fun m hm => by have := (HNB.out.2 m hm).1; omega))
    have HBR := Lib.hid (fun wx (M : Lm) (h : LmOk wx M) (hli : M.li = L.li) => show Calls Tryd.prog 30 #[M.val, .string t, .int .i64 p] wx (fun e w' => e = .returned (.tuple #[.int .i64 (pnameR L.li t n p).1, .string (pnameR L.li t n p).2.1, .int .i64 (pnameR L.li t n p).2.2]) ∧ Below wx.heap.size wx w') by
      rw [← hli]
      exact pname_any M t n p wx h (by have := HNB.out.1; have e : M.signs.length = L.signs.length := congrArg (fun l : Li => l.signs.length) hli; rw [Lm.length_signs, Lm.length_signs] at e; omega) (by omega) hn1 hn2 hn3)
    have HRB := Lib.hid (fun wx (hb : Below w1.heap.size w1 wx) => show Calls Tryd.prog 31 #[.agg #[.int .i64 L.per, .slice L.A L.ms.length L.cap], .string t, .int .i64 p] wx (fun e w' => e = .returned (.tuple #[.int .i64 (pnameR L.li t n p).1, .string (pnameR L.li t n p).2.1, .int .i64 (pnameR L.li t n p).2.2]) ∧ Below wx.heap.size wx w') from
      rpname_any L t n p wx (L1.out.below hb) (by have := HNB.out.1; omega) (fun m hm => by have := (HNB.out.2 m hm).1; omega) (by omega) hn1 hn2 hn3)
    obtain ⟨⟨qi, qt, qe⟩, hq⟩ : ∃ q, q = pnameR L.li t n p := ⟨_, rfl⟩
    rw [← hq] at HBR HRB
    clear hq HNB hn1 hn2 hn3
    obtain ⟨y0, y1, -⟩ := HK.out w1 (Below.refl _ _)
    go_wp2_with fail
    refine (HCP.out _ (Below.refl _ _)).mono ?_; rintro e w2 ⟨M, rfl, hok2, hli2, hb2⟩
    clear y0 y1
    go_wp2_with fail
    refine (HBR.out _ M hok2 hli2).mono ?_; rintro e w3 ⟨rfl, hb3⟩
    have hbw3 := below_more hb2 hb3
    have B3 := Lib.hid hbw3
    clear hbw3 hb2 hb3 hok2 hli2
    obtain ⟨z0, z1, -⟩ := HK.out w3 B3.out
    go_wp2_with fail
    refine (HRB.out _ B3.out).mono ?_; rintro e w4 ⟨rfl, hb4⟩
    have B4 := Lib.hid (below_more B3.out hb4)
    clear hb4 HK HDR HSB HCP HBR HRB z0 z1
    have HW4 := Lib.hid (fun w' (hb : Below w4.heap.size w4 w') => HWK.out w' (b1.out.trans ((below_more B4.out hb).mono b1.out.size)))
    clear HWK
    go_wp2_with fail
    refine (HW4.out _ (Below.refl _ _)).mono ?_; rintro e w6 ⟨rfl, hb6⟩
    go_wp2
    go_ret
    exact ⟨rfl, (HB.out.trans ((b1.out.trans ((below_more B4.out hb6).mono b1.out.size)).mono HB.out.size))⟩

end Go.Proofs.YthnhpgmohhaeaaaDoor
