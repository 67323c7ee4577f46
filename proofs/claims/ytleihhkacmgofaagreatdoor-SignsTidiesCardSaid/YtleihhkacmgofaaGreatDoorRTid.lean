/-
  Contract of the specification's Tidy.
-/
import Derived.Test.YtleihhkacmgofaaGreatDoorPTid
import Derived.Test.YtleihhkacmgofaaGreatDoorRSame
namespace Go.Proofs.YtleihhkacmgofaaGreatDoor
open Go.RowKit

theorem rcheck_is (l : Lm) (w : World) (hl : LmOk w l) (r : Int) (h : checkErr l.li = r) : Calls Tryz.prog 17 #[l.val] w fun e w' => e = .returned (.int .i64 r) ∧ Below w.heap.size w w' := by
  rw [← h]; exact rcheck_any l w hl
theorem SignsAt.one {w : World} {b o : Nat} {ms : List Sm} (h : SignsAt w (some ⟨b, o, none⟩) ms) {k : Nat} {m : Sm} (hk : ms[k]? = some m) : SignsAt w (some ⟨b, o + k * 5, none⟩) [m] := fun j x hj => by
  have hj0 : j = 0 := by have := (List.getElem?_eq_some_iff.1 hj).1; simpa using this
  subst hj0
  simp at hj; subst hj
  obtain ⟨b', o', e, hlt, hv, hok⟩ := h k m hk
  injection e with e; injection e with e1 e2
  subst e1 e2
  exact ⟨b, o + k * 5, rfl, hlt, by simpa using hv, hok⟩

theorem tidyV_sz {vs : List Va} (h : ∀ v ∈ vs, okV v) : ∀ v ∈ tidyV vs, v.text.size ≤ maxLen := fun v hv =>
  (runsR_ok (pointsR [vs]) (by
    have := foldV_ok vs [] h (fun x h => by cases h)
    exact this.1) v hv).2.2.2

set_option maxHeartbeats 3200000 in
set_option maxRecDepth 100000 in
theorem rtidy_any (l : Lm) (w : World) (hl : LmOk w l) :
    Calls Tryz.prog 10 #[l.val] w (GotListE w (tidyL l.li)) := by
  obtain ⟨W, hW⟩ : ∃ W, W = ((w.alloc (.cells #[.int .i64 l.per, .slice l.A l.ms.length l.cap] 24)).alloc (.cells #[.int .i64 0, .slice none 0 0] 24)) := ⟨_, rfl⟩
  have HB := Lib.hid (show Below w.heap.size w W from hW ▸ ((Below.refl _ _).alloc (Nat.le_refl _) _).alloc (by simp) _)
  have C1 := Lib.hid (show W.heap[w.heap.size]? = some (.cells #[.int .i64 l.per, .slice l.A l.ms.length l.cap] 24 (0, 0)) by
    rw [hW, heap_alloc_other _ _ _ (by simp)]; exact heap_alloc_new _ _)
  have C2 := Lib.hid (show W.heap[w.heap.size + 1]? = some (.cells #[.int .i64 0, .slice none 0 0] 24 (0, 0)) by
    rw [hW]; have := heap_alloc_new (w.alloc (.cells #[.int .i64 l.per, .slice l.A l.ms.length l.cap] 24)) (.cells #[.int .i64 0, .slice none 0 0] 24); simpa using this)
  have HS := Lib.hid (show W.heap.size = w.heap.size + 1 + 1 by rw [hW]; simp)
  have HL := Lib.hid (hl.below HB.out)
  have HL0 := Lib.hid hl
  have hlen := hl.len
  have hcap := hl.cap
  unfold maxLen at hcap
  clear hl
  obtain ⟨E, hE⟩ : ∃ E, E = checkErr l.li := ⟨_, rfl⟩
  have HE := Lib.hid hE.symm
  have HCK := Lib.hid (fun r (h : checkErr l.li = r) => show Calls Tryz.prog 17 #[.agg #[.int .i64 l.per, .slice l.A l.ms.length l.cap]] W _ from rcheck_is l W HL.out r h)
  show Calls _ _ #[.agg #[.int .i64 l.per, .slice l.A l.ms.length l.cap]] w _
  by_cases h0 : E = 0
  case neg =>
    have hb : (E != 0) = true := by simpa using h0
    have HF := Lib.hid (show tidyL l.li = (⟨0, []⟩, E) by unfold tidyL; rw [HE.out, if_pos h0])
    clear hE h0
    go_enter Tryz.func10, Tryz.ntmps10
    go_wp2_with fail
    rw [← hW]
    refine (HCK.out E HE.out).mono ?_; rintro e w1 ⟨rfl, hb1⟩
    have k2 := blk_keep hb1 C2.out
    have r0 := cell_of_blk k2 0
    have r1 := cell_of_blk k2 1
    have f0 := free_of_blk k2 0
    have f1 := free_of_blk k2 1
    simp at r0 r1
    have B1 := Lib.hid (HB.out.trans (hb1.mono HB.out.size))
    clear hb1 k2
    go_wp2_with fail
    rw [HF.out]
    refine bodyPost_ret (v := .tuple #[.agg #[.int .i64 0, .slice none 0 0], .int .i64 E]) (by simp [results, Tryz.results10, go_sem, r0, r1]) rfl ⟨⟨0, [], none, 0⟩, rfl, lm_none _, rfl, ?_⟩
    exact (B1.out.setCell (by dsimp only; omega) _).setCell (by dsimp only; omega) _
  subst h0
  clear hE
  have HOKV := Lib.hid (check_okV l.li HE.out)
  have HF := Lib.hid (show tidyL l.li = (⟨l.per, l.signs.map (sgWith tidyV)⟩, 0) by unfold tidyL; rw [HE.out, if_neg (by simp)]; rfl)
  have HNL := Lib.hid (show l.ms.length ≤ 200 by have := HOKV.out.1; rw [show l.li.signs = l.signs from rfl, Lm.length_signs] at this; exact this)
  have HCP := Lib.hid (fun wx (h : LmOk wx l) => show Calls Tryz.prog 9 #[.agg #[.int .i64 l.per, .slice l.A l.ms.length l.cap]] wx (GotListO wx l.li) from
    copyO_any l wx h (by have := HNL.out; omega) (fun m hm => by have := (HOKV.out.2.2.2 m.s (List.mem_map.2 ⟨m, hm, rfl⟩)).1; omega))
  go_enter Tryz.func10, Tryz.ntmps10
  go_wp2_with fail
  rw [← hW]
  refine (HCK.out 0 HE.out).mono ?_; rintro e w1 ⟨rfl, hb1⟩
  have K1 := Lib.hid (blk_keep hb1 C1.out)
  have x0 := cell_of_blk K1.out 0
  have x1 := cell_of_blk K1.out 1
  simp at x0 x1
  have HW1 := Lib.hid (HB.out.trans (hb1.mono HB.out.size))
  have K2 := Lib.hid (blk_keep hb1 C2.out)
  have HS1 := Lib.hid hb1.size
  clear hb1
  go_wp2_with fail
  refine (HCP.out w1 (HL0.out.below HW1.out)).mono ?_; rintro e w2 ⟨M, rfl, ho2, hli, hb2, hlow⟩
  obtain ⟨per2, ms2, A1, c1⟩ := M
  dsimp only at ho2 hlow
  have AP0 := Lib.hid (show ∀ m ∈ ms2, ApartG (w.heap.size + 1) m.A m.s.vals from fun m hm _ b o e e2 => by have := hlow m hm b o e; have := HS1.out; have := HS.out; omega)
  have OWN := Lib.hid ho2
  have B2 := Lib.hid hb2
  have hper : per2 = l.per := congrArg (fun l : Li => l.per) hli
  subst hper
  have HMS := Lib.hid (show ms2.map (·.s) = l.signs from congrArg (fun l : Li => l.signs) hli)
  clear ho2 hb2 hli hlow x0 x1
  unfold Lm.val
  dsimp only
  obtain ⟨n, hn⟩ : ∃ n, n = l.ms.length := ⟨_, rfl⟩
  have HN := Lib.hid hn
  have hn2 : ms2.length = n := by rw [hn, ← Lm.length_signs, ← HMS.out, List.length_map]
  have HN2 := Lib.hid hn2
  have hnl := HNL.out
  rw [← hn] at hlen hnl K1 ⊢
  rw [hn2]
  clear hn hn2
  go_wp2_with fail
  have BX := Lib.hid (heap_alloc_new w2 (.cells #[.int .i64 l.per, .slice A1 n c1] 24))
  have BWX := Lib.hid (below_alloc w2 (.cells #[.int .i64 l.per, .slice A1 n c1] 24))
  have HSZ := Lib.hid (show (w2.alloc (.cells #[.int .i64 l.per, .slice A1 n c1] 24)).heap.size = w2.heap.size + 1 by simp)
  have OWX := Lib.hid (OWN.out.below BWX.out)
  have B2X := Lib.hid (B2.out.trans (BWX.out.mono B2.out.size))
  generalize w2.alloc (.cells #[.int .i64 l.per, .slice A1 n c1] 24) = W3 at BX BWX HSZ OWX B2X ⊢
  go_loopw [6] (fun i wr => ∃ k : Nat, k ≤ n ∧ i = .int .i64 k ∧ Hid (∃ cs, cs.length = n ∧ Below w1.heap.size w1 wr ∧ OwnSigns wr w1.heap.size A1 c1 cs ∧ cs.map (·.s) = firstW tidyV k l.signs ∧ (∀ m ∈ cs, ApartG (w.heap.size + 1) m.A m.s.vals) ∧ wr.heap[w2.heap.size]? = some (.cells #[.int .i64 l.per, .slice A1 n c1] 24 (0, 0)))) (fun i _ => n - (intOf i).toNat)
  case atStart => exact ⟨0, Nat.zero_le _, rfl, Lib.hid ⟨ms2, HN2.out, B2X.out, OWX.out, by rw [HMS.out, firstW_zero], AP0.out, BX.out⟩⟩
  case round =>
    obtain ⟨k, hk, rfl, hrl⟩ := hrel
    obtain ⟨cs, hcl, hb3, ho3, hm3, ha3, hk3⟩ := hrl.out
    have hw1s := hb3.size
    have hws := HW1.out.size
    have hW1 := HS.out
    have hW2 := HS1.out
    have k1 := blk_keep hb3 K1.out
    have q1 := cell_of_blk k1 1
    have q3 := cell_of_blk hk3 1
    simp at q1 q3
    by_cases hlt : k < n
    · have hget : cs[k]? = some (cs[k]'(by omega)) := List.getElem?_eq_getElem _
      obtain ⟨u, hu⟩ : ∃ u, u = cs[k]'(by omega) := ⟨_, rfl⟩
      rw [← hu] at hget
      have hkl : k < l.ms.length := by rw [← HN.out]; exact hlt
      have hgl : l.ms[k]? = some l.ms[k] := List.getElem?_eq_getElem hkl
      obtain ⟨mo, hmo⟩ : ∃ m, m = l.ms[k] := ⟨_, rfl⟩
      rw [← hmo] at hgl
      have hsl : l.signs[k]? = some mo.s := Lm.getElem_signs hgl
      have hus : u.s = mo.s := by
        have h1 : (cs.map (·.s))[k]? = some u.s := by rw [List.getElem?_map, hget]; rfl
        rw [hm3, firstW_at tidyV k l.signs _ hsl] at h1
        injection h1 with h1; exact h1.symm
      have HUV := Lib.hid (HOKV.out.2.2.2 mo.s (List.mem_of_getElem? hsl))
      obtain ⟨A', c', e', hc1, hc1m, hA1, hA1n⟩ := own_slice ho3.own
      injection e' with e1 e2 e3
      subst e1 e3
      cases hA : A1 with
      | none => have := hA1n hA; omega
      | some ad =>
      obtain ⟨g, rfl, hg0, hg1, hcell⟩ := hA1 ad hA
      subst hA
      have x4 := (sm_cells_at hcell hget).c4
      rw [Nat.zero_add] at x4
      obtain ⟨b, o, hlA, hb0, hva, hok⟩ := HL0.out.signs k mo hgl
      have HSA := Lib.hid (show SignsAt w (some ⟨b, o, none⟩) l.ms by rw [← hlA]; exact HL0.out.signs)
      have HGL := Lib.hid hgl
      have HGET := Lib.hid hget
      have HUS := Lib.hid (show l.signs[k]? = some u.s by rw [hus]; exact hsl)
      have HUM := Lib.hid hus
      have HCS := Lib.hid (And.intro hcl (And.intro hb3 (And.intro ho3 (And.intro hm3 (And.intro ha3 hk3)))))
      have HWR := Lib.hid (HW1.out.trans (hb3.mono HW1.out.size))
      have HTD := Lib.hid (fun wx (h : Below wr.heap.size wr wx) => show Calls Tryz.prog 25 #[.slice (some ⟨b, o + k * 5, none⟩) 1 (l.cap - k)] wx (GotRow wx 42 4 (tidyV mo.s.vals).length ((tidyV mo.s.vals).flatMap Va.cells)) from
        tidied_any (some ⟨b, o + k * 5, none⟩) (l.cap - k) [mo] wx ((HSA.out.one HGL.out).below (HWR.out.trans (h.mono (by have := HWR.out.size; omega)))) (by simp; omega) (by unfold maxLen; omega) (by simp) (fun m hm => by simp at hm; subst hm; exact ⟨by have := HUV.out.1; omega, HUV.out.2⟩))
      rw [hlA] at q1
      have hkc : k < l.cap := by omega
      have hk1c : k + 1 ≤ l.cap := by omega
      clear hu hget hus hcell hA1 hA1n hcl hb3 ho3 hm3 ha3 hk3 hrl hgl hsl hmo hva hok k1 hlA
      go_wp2_with fail
      have HG2 := Lib.hid (show w2.heap.size ≠ g from fun e => by
        have h1 := HCS.out.2.2.2.2.2
        rcases HCS.out.2.2.1.own.2 with ⟨h, _⟩ | ⟨g', cap', cur, h, _, hg', _⟩
        · cases h
        · injection h with h _ _; injection h with h; injection h with h _
          subst h
          rw [← e, h1] at hg'
          injection hg' with hg'
          injection hg' with _ hg' _
          exact absurd hg' (by decide))
      have HK := Lib.hid (fun w' (hb : Below wr.heap.size wr w') => show w'.cell? ⟨w.heap.size, 1, none⟩ = some (.slice (some ⟨b, o, none⟩) n l.cap) ∧ w'.cell? ⟨w2.heap.size, 1, none⟩ = some (.slice (some ⟨g, 0, none⟩) n c1) from
        ⟨(hb.cell (p := ⟨w.heap.size, 1, none⟩) (by dsimp only; omega)).trans q1, (hb.cell (p := ⟨w2.heap.size, 1, none⟩) (Array.getElem?_eq_some_iff.1 HCS.out.2.2.2.2.2).1).trans q3⟩)
      have HDR := Lib.hid (show Below wr.heap.size wr wr.drew from (Below.refl _ _).drew)
      have HKS := Lib.hid (fun (wx : World) (p : Nat) (u : Value) (h : wx.cell? ⟨w.heap.size, 1, none⟩ = some (.slice (some ⟨b, o, none⟩) n l.cap) ∧ wx.cell? ⟨w2.heap.size, 1, none⟩ = some (.slice (some ⟨g, 0, none⟩) n c1)) => show (fun (w' : World) => w'.cell? ⟨w.heap.size, 1, none⟩ = some (.slice (some ⟨b, o, none⟩) n l.cap) ∧ w'.cell? ⟨w2.heap.size, 1, none⟩ = some (.slice (some ⟨g, 0, none⟩) n c1)) (wx.setCell ⟨g, p, none⟩ u) from
        ⟨(World.cell?_of_block (a := ⟨w.heap.size, 1, none⟩) (heap_setCell_other _ _ _ _ (by dsimp only; omega))).trans h.1, (World.cell?_of_block (a := ⟨w2.heap.size, 1, none⟩) (heap_setCell_other _ _ _ _ HG2.out)).trans h.2⟩)
      have HY := Lib.hid (fun w' (hb : Below wr.heap.size wr w') => show w'.cell? ⟨g, k * 5 + 4, none⟩ = some (.slice u.A u.s.vals.length u.cap) ∧ w'.frozen? ⟨g, k * 5 + 4, none⟩ = false from
        ⟨(hb.cell (p := ⟨g, _, none⟩) hg1).trans x4, (hb.frozen (p := ⟨g, _, none⟩) hg1).trans (HCS.out.2.2.1.own.frozenAt _)⟩)
      have s1 : IntKind.i64.wrap ((k : Int) + 1) = (k : Int) + 1 := IntWalk.i64_in _ (by omega)
      have s2 : ((k : Int) + 1).toNat = k + 1 := by omega
      have s3 : (0 : Int) ≤ (k : Int) + 1 := by omega
      have s4 : (k : Int) ≤ (k : Int) + 1 := by omega
      have s5 : (k : Int) + 1 ≤ (l.cap : Int) := by omega
      have s6 : (k : Int) < (n : Int) := by omega
      have s7 : (l.cap = k) = False := by simp; omega
      clear x4 q1 q3
      go_region_held3 (fun w' => w'.cell? ⟨w.heap.size, 1, none⟩ = some (.slice (some ⟨b, o, none⟩) n l.cap) ∧ w'.cell? ⟨w2.heap.size, 1, none⟩ = some (.slice (some ⟨g, 0, none⟩) n c1))
        (first | (refine HK.out _ ?_; first | assumption | exact HDR.out) | (refine HKS.out _ _ _ ?_; refine HK.out _ ?_; assumption))
        (first
          | (go_at_call 25; refine (HTD.out _ HDR.out).mono ?_; rintro e w4 ⟨A2, c2, rfl, own4, hb4⟩; have hbw4 := below_more HDR.out hb4; obtain ⟨y4, z4⟩ := HY.out w4 hbw4))
      obtain ⟨hv2, hl2, hc2, hfr⟩ := own_vals own4 (tidyV_sz HUV.out.2)
      have B4 := Lib.hid (HCS.out.2.1.trans (hbw4.mono HCS.out.2.1.size))
      have ST := Lib.hid ((HCS.out.2.2.1.below hbw4).set HGET.out hv2 hl2 hc2 (fun _ b o e e2 => by have h1 := hfr b o e; have h2 : wr.heap.size ≤ wr.drew.heap.size := Nat.le_refl _; omega))
      have AP := Lib.hid (show ∀ m ∈ cs.set k (u.with (tidyV mo.s.vals) A2 c2), ApartG (w.heap.size + 1) m.A m.s.vals from fun m hm => by
        rcases List.mem_or_eq_of_mem_set hm with hm | rfl
        · exact HCS.out.2.2.2.2.1 m hm
        · exact fun _ b o e e2 => by have h1 := hfr b o e; have h2 : wr.heap.size ≤ wr.drew.heap.size := Nat.le_refl _; omega)
      have KB := Lib.hid (show (w4.setCell ⟨g, k * 5 + 4, none⟩ (.slice A2 (tidyV mo.s.vals).length c2)).heap[w2.heap.size]? = some (.cells #[.int .i64 l.per, .slice (some ⟨g, 0, none⟩) n c1] 24 (0, 0)) by
        rw [heap_setCell_other _ _ _ _ HG2.out]; exact blk_keep hbw4 HCS.out.2.2.2.2.2)
      clear hv2 hl2 hc2 hfr own4 hb4 hbw4 y4 z4 HK HKS HDR HY HTD
      go_wp2_with fail
      go_roundw
      case rel => exact ⟨k + 1, by omega, by go_num, Lib.hid ⟨_, by rw [List.length_set]; exact HCS.out.1, B4.out.setCell (p := ⟨g, _, none⟩) hg0 _, ST.out, set_map HCS.out.2.2.2.1 HGET.out HUS.out _ (by rw [HUM.out]) _ _, AP.out, KB.out⟩⟩
      case measure => simp [intOf]; omega
    · obtain rfl : k = n := by omega
      have k2 := blk_keep hb3 K2.out
      have p0 := cell_of_blk hk3 0
      have r0 := cell_of_blk k2 0
      have r1 := cell_of_blk k2 1
      have f0 := free_of_blk k2 0
      have f1 := free_of_blk k2 1
      simp at p0 r0 r1
      have hne : (Value.slice A1 cs.length c1).ownBlock ≠ some (w.heap.size + 1) := fun e => by have := (ho3.own.lt _ e).1; omega
      have HO := Lib.hid ((ho3.other hne ha3 0 (.int .i64 l.per)).other hne ha3 1 (.slice A1 k c1))
      have HM := Lib.hid (show cs.map (·.s) = l.signs.map (sgWith tidyV) by rw [hm3, HN.out, ← Lm.length_signs, firstW_all])
      have HCL := Lib.hid hcl
      have HB3 := Lib.hid (HW1.out.trans (hb3.mono HW1.out.size))
      clear hcl hb3 ho3 hm3 ha3 hrl k1 k2 hne hk3
      go_wp2_with fail
      rw [HF.out]
      refine bodyPost_ret (v := .tuple #[.agg #[.int .i64 l.per, .slice A1 k c1], .int .i64 0]) (by simp [results, Tryz.results10, go_sem, r0, r1]) rfl ⟨⟨l.per, cs, A1, c1⟩, ?_, HO.out.lm _, ?_, ?_⟩
      · unfold Lm.val; dsimp only; rw [HCL.out]
      · unfold Lm.li Lm.signs; dsimp only; rw [HM.out]; rfl
      · exact (HB3.out.setCell (by dsimp only; omega) _).setCell (by dsimp only; omega) _

end Go.Proofs.YtleihhkacmgofaaGreatDoor
