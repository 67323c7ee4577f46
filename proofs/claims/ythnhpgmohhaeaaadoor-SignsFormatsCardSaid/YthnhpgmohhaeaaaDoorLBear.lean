/-
  Contract of the law of Bearers: it returns true.
-/
import Derived.Test.YthnhpgmohhaeaaaDoorBig
import Derived.Test.YthnhpgmohhaeaaaDoorRbear
import Derived.Deep.RegionHeld3
namespace Go.Proofs.YthnhpgmohhaeaaaDoor
open Go.RowKit

theorem big_is (l : Lm) (w : World) (hl : LmOk w l) (r : Bool) (h : bigB l.signs = r) :
    Calls Tryd.prog 12 #[l.val] w fun e w' => e = .returned (.bool r) ∧ Below w.heap.size w w' := by
  rw [← h]; exact big_any l w hl
theorem IntsAt.below {w w' : World} {A : Option Addr} {zs : List Int} (h : IntsAt w A zs) (hb : Below w.heap.size w w') : IntsAt w' A zs := fun ad e => by
  obtain ⟨g, e1, hg, hc⟩ := h ad e
  exact ⟨g, e1, Nat.lt_of_lt_of_le hg hb.size, fun j hj => (hb.cell (p := ⟨g, j, none⟩) hg).trans (hc j hj)⟩
theorem not_big {l : Lm} (h : bigB l.signs = false) : l.ms.length ≤ 210 ∧ ∀ m ∈ l.ms, m.s.vals.length ≤ 20 ∧ m.s.code.size ≤ 100 ∧ ∀ v ∈ m.s.vals, v.text.size ≤ 100 := by
  simp only [bigB, Bool.or_eq_false_iff, decide_eq_false_iff_not] at h
  rw [Lm.length_signs] at h
  refine ⟨by omega, fun m hm => ?_⟩
  have h2 := List.any_eq_false.1 h.2 m.s (List.mem_map.2 ⟨m, hm, rfl⟩)
  simp [sgBig, vaBig] at h2
  refine ⟨by omega, by omega, fun v hv => ?_⟩
  have := h2.2 v hv
  omega

set_option maxHeartbeats 1600000 in
set_option maxRecDepth 100000 in
theorem law_bearers (L : Lm) (k : Int) (t : ByteArray) (p : Int) (w : World) (hE : Env w) (hl : LmOk w L) (ht : t.size ≤ maxLen) :
    Calls Tryd.prog 5 #[L.val, .agg #[.int .i64 k, .string t, .int .i64 p]] w fun e w' => e = .returned (.bool true) ∧ Below w.heap.size w w' := by
  obtain ⟨W, hW⟩ : ∃ W, W = ((w.alloc (.cells #[.int .i64 L.per, .slice L.A L.ms.length L.cap] 24)).alloc (.cells #[.int .i64 k, .string t, .int .i64 p] 42)) := ⟨_, rfl⟩
  have HB := Lib.hid (show Below w.heap.size w W from hW ▸ ((Below.refl _ _).alloc (Nat.le_refl _) _).alloc (by simp) _)
  have C1 := Lib.hid (show W.heap[w.heap.size]? = some (.cells #[.int .i64 L.per, .slice L.A L.ms.length L.cap] 24 (0, 0)) by
    rw [hW, heap_alloc_other _ _ _ (by simp)]; exact heap_alloc_new _ _)
  have C2 := Lib.hid (show W.heap[w.heap.size + 1]? = some (.cells #[.int .i64 k, .string t, .int .i64 p] 42 (0, 0)) by
    rw [hW]; have := heap_alloc_new (w.alloc (.cells #[.int .i64 L.per, .slice L.A L.ms.length L.cap] 24)) (.cells #[.int .i64 k, .string t, .int .i64 p] 42); simpa using this)
  have HS := Lib.hid (show W.heap.size = w.heap.size + 1 + 1 by rw [hW]; simp)
  have HL := Lib.hid (hl.below HB.out)
  have HE := Lib.hid (hE.below HB.out)
  unfold maxLen at ht
  clear hl hE
  obtain ⟨B, hB⟩ : ∃ B, bigB L.signs = B := ⟨_, rfl⟩
  have HBB := Lib.hid hB
  clear hB
  show Calls _ _ #[.agg #[.int .i64 L.per, .slice L.A L.ms.length L.cap], .agg #[.int .i64 k, .string t, .int .i64 p]] w _
  go_enter Tryd.func5, Tryd.ntmps5
  have HBG := Lib.hid (fun r (h : bigB L.signs = r) => show Calls Tryd.prog 12 #[.agg #[.int .i64 L.per, .slice L.A L.ms.length L.cap]] W _ from big_is L W HL.out r h)
  have HWK := Lib.hid (fun w1 (hb : Below W.heap.size W w1) => works_any w1 (HE.out.below hb))
  cases B with
  | true =>
    go_wp2_with fail
    rw [← hW]
    refine (HBG.out _ HBB.out).mono ?_; rintro e w1 ⟨rfl, hb1⟩
    have b1 := Lib.hid hb1
    have x0 := cell_of_blk (blk_keep hb1 C2.out) 1
    simp at x0
    clear hb1
    go_wp2_with fail
    refine (HWK.out _ b1.out).mono ?_; rintro e w2 ⟨rfl, hb2⟩
    go_wp2
    go_ret
    exact ⟨rfl, (HB.out.trans (b1.out.mono HB.out.size)).trans (hb2.mono (by have := HB.out.size; have := b1.out.size; omega))⟩
  | false =>
    have hnb := not_big HBB.out
    by_cases h1000 : t.size ≤ 1000
    case neg =>
      go_wp2_with fail
      rw [← hW]
      refine (HBG.out _ HBB.out).mono ?_; rintro e w1 ⟨rfl, hb1⟩
      have b1 := Lib.hid hb1
      have x0 := cell_of_blk (blk_keep hb1 C2.out) 1
      simp at x0
      clear hb1 hnb
      go_wp2_with fail
      refine (HWK.out _ b1.out).mono ?_; rintro e w2 ⟨rfl, hb2⟩
      go_wp2
      go_ret
      exact ⟨rfl, (HB.out.trans (b1.out.mono HB.out.size)).trans (hb2.mono (by have := HB.out.size; have := b1.out.size; omega))⟩
    have HNB := Lib.hid hnb
    clear hnb
    go_wp2_with fail
    rw [← hW]
    refine (HBG.out _ HBB.out).mono ?_; rintro e w1 ⟨rfl, hb1⟩
    have b1 := Lib.hid hb1
    have D1 := Lib.hid (blk_keep hb1 C1.out)
    have D2 := Lib.hid (blk_keep hb1 C2.out)
    have x0 := cell_of_blk D2.out 1
    simp at x0
    have L1 := Lib.hid (HL.out.below hb1)
    clear hb1
    go_wp2_with fail
    have HK := Lib.hid (fun w' (hb : Below w1.heap.size w1 w') => show w'.cell? ⟨w.heap.size, 0, none⟩ = some (.int .i64 L.per) ∧ w'.cell? ⟨w.heap.size, 1, none⟩ = some (.slice L.A L.ms.length L.cap) ∧ w'.cell? ⟨w.heap.size + 1, 0, none⟩ = some (.int .i64 k) ∧ w'.cell? ⟨w.heap.size + 1, 1, none⟩ = some (.string t) ∧ w'.cell? ⟨w.heap.size + 1, 2, none⟩ = some (.int .i64 p) ∧ Below w1.heap.size w1 w' from
      ⟨cell_of_blk (blk_keep hb D1.out) 0, cell_of_blk (blk_keep hb D1.out) 1, cell_of_blk (blk_keep hb D2.out) 0, cell_of_blk (blk_keep hb D2.out) 1, cell_of_blk (blk_keep hb D2.out) 2, hb⟩)
    have HDR := Lib.hid (show Below w1.heap.size w1 w1.drew from (Below.refl _ _).drew)
    have HSB := Lib.hid (fun wx (h : wx.cell? ⟨w.heap.size, 0, none⟩ = some (.int .i64 L.per) ∧ wx.cell? ⟨w.heap.size, 1, none⟩ = some (.slice L.A L.ms.length L.cap) ∧ wx.cell? ⟨w.heap.size + 1, 0, none⟩ = some (.int .i64 k) ∧ wx.cell? ⟨w.heap.size + 1, 1, none⟩ = some (.string t) ∧ wx.cell? ⟨w.heap.size + 1, 2, none⟩ = some (.int .i64 p) ∧ Below w1.heap.size w1 wx) => h.2.2.2.2.2)
    have HCP := Lib.hid (fun wx (hb : Below w1.heap.size w1 wx) => show Calls Tryd.prog 14 #[.agg #[.int .i64 L.per, .slice L.A L.ms.length L.cap]] wx (GotList wx L.li) from
      copy_any L wx (L1.out.below hb) (by have := HNB.out.1; omega) (fun m hm => by have := (HNB.out.2 m hm).1; omega))
    have HBR := Lib.hid (fun wx (M : Lm) (h : LmOk wx M) (hli : M.li = L.li) => show Calls Tryd.prog 25 #[M.val, .int .i64 k, .string t, .int .i64 p] wx (GotIntsE wx (bearersR L.li k t p)) by
      rw [← hli]
      exact bearersE_any M k t p wx h (by have := HNB.out.1; have e : M.signs.length = L.signs.length := congrArg (fun l : Li => l.signs.length) hli; rw [Lm.length_signs, Lm.length_signs] at e; omega))
    have HRB := Lib.hid (fun wx (hb : Below w1.heap.size w1 wx) => show Calls Tryd.prog 26 #[.agg #[.int .i64 L.per, .slice L.A L.ms.length L.cap], .int .i64 k, .string t, .int .i64 p] wx (GotIntsE wx (bearersR L.li k t p)) from
      rbearers_any L k t p wx (L1.out.below hb) (by have := HNB.out.1; omega) (fun m hm => by have := (HNB.out.2 m hm).1; omega))
    have HZ := Lib.hid (show (bearersR L.li k t p).1.length ≤ 1000000 by
      have := HNB.out.1
      have h2 := bearFrom_len k t p L.li.signs 0
      rw [show L.li.signs = L.signs from rfl, Lm.length_signs] at h2
      unfold bearersR
      split
      · simp
      · split
        · simp
        · split
          · simp
          · exact Nat.le_trans h2 (by omega))
    obtain ⟨q, hq⟩ : ∃ q, q = bearersR L.li k t p := ⟨_, rfl⟩
    rw [← hq] at HBR HRB HZ
    clear hq HNB
    go_region_held3 (fun w' => w'.cell? ⟨w.heap.size, 0, none⟩ = some (.int .i64 L.per) ∧ w'.cell? ⟨w.heap.size, 1, none⟩ = some (.slice L.A L.ms.length L.cap) ∧ w'.cell? ⟨w.heap.size + 1, 0, none⟩ = some (.int .i64 k) ∧ w'.cell? ⟨w.heap.size + 1, 1, none⟩ = some (.string t) ∧ w'.cell? ⟨w.heap.size + 1, 2, none⟩ = some (.int .i64 p) ∧ Below w1.heap.size w1 w')
      (first | (refine HK.out _ ?_; first | assumption | exact HDR.out))
      (first
        | (go_at_call 14; refine (HCP.out _ (HSB.out _ (by assumption))).mono ?_; rintro e w2 ⟨M, rfl, hok2, hli2, hb2⟩; have hbw2 := below_more (HSB.out _ (by assumption)) hb2)
        | (go_at_call 25; refine (HBR.out _ M hok2 hli2).mono ?_; rintro e w3 ⟨A3, c3, rfl, hi3, hn3, hb3⟩; have hbw3 := below_more (HSB.out _ (by assumption)) hb3))
    have B3 := Lib.hid hbw3
    have I3 := Lib.hid hi3
    have N3 := Lib.hid hn3
    clear hbw2 hbw3 hi3 hn3 hb2 hb3 hok2 hli2
    obtain ⟨z0, z1, z2, z3, z4, -⟩ := HK.out w3 B3.out
    go_wp2_with fail
    refine (HRB.out _ B3.out).mono ?_; rintro e w4 ⟨A4, c4, rfl, hi4, hn4, hb4⟩
    have hbw4 := hb4
    have B4 := Lib.hid (below_more B3.out hbw4)
    have I4 := Lib.hid hi4
    have N4 := Lib.hid hn4
    have I34 := Lib.hid (I3.out.below hbw4)
    clear hi4 hn4 hb4 hbw4 HK HDR HSB HCP HBR HRB z0 z1 z2 z3 z4
    have HSI := Lib.hid (fun w' (hb : Below w4.heap.size w4 w') => show Calls Tryd.prog 27 #[.slice A3 q.1.length c3, .slice A4 q.1.length c4] w' _ from
      sameInts_eq A3 A4 c3 c4 q.1 w' (I34.out.below hb) (I4.out.below hb) N3.out N4.out HZ.out)
    have HW4 := Lib.hid (fun w' (hb : Below w4.heap.size w4 w') => HWK.out w' (b1.out.trans ((below_more B4.out hb).mono b1.out.size)))
    clear HZ HWK
    go_wp2_with fail
    refine (HSI.out _ (Below.refl _ _)).mono ?_; rintro e w5 ⟨rfl, hb5⟩
    have b5 := Lib.hid hb5
    clear hb5
    go_wp2_with fail
    refine (HW4.out _ b5.out).mono ?_; rintro e w6 ⟨rfl, hb6⟩
    go_wp2
    go_ret
    exact ⟨rfl, (HB.out.trans ((b1.out.trans ((below_more B4.out (below_more b5.out hb6)).mono b1.out.size)).mono HB.out.size))⟩

end Go.Proofs.YthnhpgmohhaeaaaDoor
