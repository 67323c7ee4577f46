/-
  Contract of the specification's Restrict.
-/
import Derived.Test.YtleihhkacmgofaaGreatDoorPRes
namespace Go.Proofs.YtleihhkacmgofaaGreatDoor
open Go.RowKit

set_option maxHeartbeats 3200000 in
set_option maxRecDepth 100000 in
theorem rrestrict_any (l : Lm) (p : Int) (w : World) (hl : LmOk w l) :
    Calls Tryz.prog 12 #[l.val, .int .i64 p] w (GotListE w (restrL l.li p)) := by
  obtain ⟨W, hW⟩ : ∃ W, W = ((w.alloc (.cells #[.int .i64 l.per, .slice l.A l.ms.length l.cap] 24)).alloc (.cells #[.int .i64 0, .slice none 0 0] 24)) := ⟨_, rfl⟩
  have HB := Lib.hid (show Below w.heap.size w W from hW ▸ ((Below.refl _ _).alloc (Nat.le_refl _) _).alloc (by simp) _)
  have C1 := Lib.hid (show W.heap[w.heap.size]? = some (.cells #[.int .i64 l.per, .slice l.A l.ms.length l.cap] 24 (0, 0)) by
    rw [hW, heap_alloc_other _ _ _ (by simp)]; exact heap_alloc_new _ _)
  have C2 := Lib.hid (show W.heap[w.heap.size + 1]? = some (.cells #[.int .i64 0, .slice none 0 0] 24 (0, 0)) by
    rw [hW]; have := heap_alloc_new (w.alloc (.cells #[.int .i64 l.per, .slice l.A l.ms.length l.cap] 24)) (.cells #[.int .i64 0, .slice none 0 0] 24); simpa using this)
  have HS := Lib.hid (show W.heap.size = w.heap.size + 1 + 1 by rw [hW]; simp)
  have HL := Lib.hid (hl.below HB.out)
  have HL0 := Lib.hid hl
  have hlen := hl.len
  have hcap := hl.cap
  unfold maxLen at hcap
  clear hl
  obtain ⟨E, hE⟩ : ∃ E, E = checkErr l.li := ⟨_, rfl⟩
  have HE := Lib.hid hE.symm
  have HCK := Lib.hid (fun r (h : checkErr l.li = r) => show Calls Tryz.prog 17 #[.agg #[.int .i64 l.per, .slice l.A l.ms.length l.cap]] W _ from rcheck_is l W HL.out r h)
  show Calls _ _ #[.agg #[.int .i64 l.per, .slice l.A l.ms.length l.cap], .int .i64 p] w _
  by_cases h0 : E = 0
  case neg =>
    have hb : (E != 0) = true := by simpa using h0
    have HF := Lib.hid (show restrL l.li p = (⟨0, []⟩, E) by unfold restrL; rw [HE.out, if_pos h0])
    clear hE h0
    go_enter Tryz.func12, Tryz.ntmps12
    go_wp2_with fail
    rw [← hW]
    refine (HCK.out E HE.out).mono ?_; rintro e w1 ⟨rfl, hb1⟩
    have k2 := blk_keep hb1 C2.out
    have r0 := cell_of_blk k2 0
    have r1 := cell_of_blk k2 1
    have f0 := free_of_blk k2 0
    have f1 := free_of_blk k2 1
    simp at r0 r1
    have B1 := Lib.hid (HB.out.trans (hb1.mono HB.out.size))
    clear hb1 k2
    go_wp2_with fail
    rw [HF.out]
    refine bodyPost_ret (v := .tuple #[.agg #[.int .i64 0, .slice none 0 0], .int .i64 E]) (by simp [results, Tryz.results12, go_sem, r0, r1]) rfl ⟨⟨0, [], none, 0⟩, rfl, lm_none _, rfl, ?_⟩
    exact (B1.out.setCell (by dsimp only; omega) _).setCell (by dsimp only; omega) _
  subst h0
  clear hE
  by_cases hp1 : p < 1
  · have hp : withinB p l.per = false := by simp [withinB]; omega
    have HF := Lib.hid (show restrL l.li p = (⟨0, []⟩, 13) by unfold restrL; rw [HE.out, if_neg (by simp), if_pos (show withinB p l.li.per = false from hp)])
    clear hp
    go_enter Tryz.func12, Tryz.ntmps12
    go_wp2_with fail
    rw [← hW]
    refine (HCK.out 0 HE.out).mono ?_; rintro e w1 ⟨rfl, hb1⟩
    have k2 := blk_keep hb1 C2.out
    have k1 := blk_keep hb1 C1.out
    have x0 := cell_of_blk k1 0
    have r0 := cell_of_blk k2 0
    have r1 := cell_of_blk k2 1
    have f0 := free_of_blk k2 0
    have f1 := free_of_blk k2 1
    simp at r0 r1 x0
    have B1 := Lib.hid (HB.out.trans (hb1.mono HB.out.size))
    clear hb1 k2 k1
    go_wp2_with fail
    rw [HF.out]
    refine bodyPost_ret (v := .tuple #[.agg #[.int .i64 0, .slice none 0 0], .int .i64 13]) (by simp [results, Tryz.results12, go_sem, r0, r1]) rfl ⟨⟨0, [], none, 0⟩, rfl, lm_none _, rfl, ?_⟩
    exact (B1.out.setCell (by dsimp only; omega) _).setCell (by dsimp only; omega) _
  by_cases hp2 : l.per < p
  · have hp : withinB p l.per = false := by simp [withinB]; omega
    have HF := Lib.hid (show restrL l.li p = (⟨0, []⟩, 13) by unfold restrL; rw [HE.out, if_neg (by simp), if_pos (show withinB p l.li.per = false from hp)])
    clear hp
    go_enter Tryz.func12, Tryz.ntmps12
    go_wp2_with fail
    rw [← hW]
    refine (HCK.out 0 HE.out).mono ?_; rintro e w1 ⟨rfl, hb1⟩
    have k2 := blk_keep hb1 C2.out
    have k1 := blk_keep hb1 C1.out
    have x0 := cell_of_blk k1 0
    have r0 := cell_of_blk k2 0
    have r1 := cell_of_blk k2 1
    have f0 := free_of_blk k2 0
    have f1 := free_of_blk k2 1
    simp at r0 r1 x0
    have B1 := Lib.hid (HB.out.trans (hb1.mono HB.out.size))
    clear hb1 k2 k1
    go_wp2_with fail
    rw [HF.out]
    refine bodyPost_ret (v := .tuple #[.agg #[.int .i64 0, .slice none 0 0], .int .i64 13]) (by simp [results, Tryz.results12, go_sem, r0, r1]) rfl ⟨⟨0, [], none, 0⟩, rfl, lm_none _, rfl, ?_⟩
    exact (B1.out.setCell (by dsimp only; omega) _).setCell (by dsimp only; omega) _
  have hp : withinB p l.per = true := by simp [withinB]; omega
  have HOKV := Lib.hid (check_okV l.li HE.out)
  have HF := Lib.hid (show restrL l.li p = (⟨1, l.signs.map (sgWith (restrV p))⟩, 0) by unfold restrL; rw [HE.out, if_neg (by simp), if_neg (by rw [show l.li.per = l.per from rfl, hp]; simp)]; rfl)
  have HNL := Lib.hid (show l.ms.length ≤ 200 by have := HOKV.out.1; rw [show l.li.signs = l.signs from rfl, Lm.length_signs] at this; exact this)
  clear hp
  obtain ⟨is, his, hzs, hss, hbs⟩ := info_hid infoSg
  go_enter Tryz.func12, Tryz.ntmps12
  go_wp2_with fail
  rw [← hW]
  refine (HCK.out 0 HE.out).mono ?_; rintro e w1 ⟨rfl, hb1⟩
  have HW1 := Lib.hid (HB.out.trans (hb1.mono HB.out.size))
  have K1 := Lib.hid (blk_keep hb1 C1.out)
  have K2 := Lib.hid (blk_keep hb1 C2.out)
  have HS1 := Lib.hid hb1.size
  have x0 := cell_of_blk K1.out 0
  simp at x0
  have hnl := HNL.out
  obtain ⟨n, hn⟩ : ∃ n, n = l.ms.length := ⟨_, rfl⟩
  have HN := Lib.hid hn
  rw [← hn] at hlen hnl K1 ⊢
  clear hn hb1
  have hB2 := HS.out
  have hB1 := HS1.out
  go_wp2_with fail
  have BX := Lib.hid (heap_alloc_new w1 (.cells #[.int .i64 1, .slice none 0 0] 24))
  have BWX := Lib.hid (below_alloc w1 (.cells #[.int .i64 1, .slice none 0 0] 24))
  have HSZ := Lib.hid (show (w1.alloc (.cells #[.int .i64 1, .slice none 0 0] 24)).heap.size = w1.heap.size + 1 by simp)
  generalize w1.alloc (.cells #[.int .i64 1, .slice none 0 0] 24) = W3 at BX BWX HSZ ⊢
  clear x0 hp1 hp2
  go_loopw [8, 9, 10] (fun i _ _ wr => ∃ k : Nat, k ≤ n ∧ i = .int .i64 k ∧ Hid (∃ A c cs, cs.length = k ∧ Below w1.heap.size w1 wr ∧ wr.heap[w1.heap.size]? = some (.cells #[.int .i64 1, .slice A k c] 24 (0, 0)) ∧ OwnSigns wr (w1.heap.size + 1) A c cs ∧ cs.map (·.s) = (l.signs.take k).map (sgWith (restrV p)) ∧ ∀ m ∈ cs, ApartG (w.heap.size + 1) m.A m.s.vals ∧ ApartG w1.heap.size m.A m.s.vals)) (fun i _ _ _ => n - (intOf i).toNat)
  case atStart => exact ⟨0, Nat.zero_le _, rfl, Lib.hid ⟨none, 0, [], rfl, BWX.out, BX.out, ⟨World.ownsRow_nil _ _ _ _, (fun m h => (by cases h)), (fun m h => (by cases h))⟩, by simp, (fun m h => (by cases h))⟩⟩
  case round =>
    obtain ⟨k, hk, rfl, hrl⟩ := hrel
    obtain ⟨A, c, cs, hcl, hb3, hk3, ho3, hm3, ha3⟩ := hrl.out
    have hw1s := hb3.size
    have k1 := blk_keep hb3 K1.out
    have q1 := cell_of_blk k1 1
    simp at q1
    have hB3 : w1.heap.size < wr.heap.size := (Array.getElem?_eq_some_iff.1 hk3).1
    by_cases hlt : k < n
    · have hkl : k < l.ms.length := by rw [← HN.out]; exact hlt
      have hgl : l.ms[k]? = some l.ms[k] := List.getElem?_eq_getElem hkl
      obtain ⟨u, hmo⟩ : ∃ m, m = l.ms[k] := ⟨_, rfl⟩
      rw [← hmo] at hgl
      have hsl : l.signs[k]? = some u.s := Lm.getElem_signs hgl
      have HUV := Lib.hid (HOKV.out.2.2.2 u.s (List.mem_of_getElem? hsl))
      obtain ⟨b, o, hlA, hb0, hva, hok⟩ := HL0.out.signs k u hgl
      have HWR := Lib.hid (HW1.out.trans (hb3.mono HW1.out.size))
      obtain ⟨y0, y1, y2, y3, y4⟩ := hva.below HWR.out hb0
      have HUO := Lib.hid (hok.below HWR.out)
      have HSN := Lib.hid (show (l.signs.take (k + 1)).map (sgWith (restrV p)) = (l.signs.take k).map (sgWith (restrV p)) ++ [sgWith (restrV p) u.s] by
        obtain ⟨hk', e⟩ := List.getElem?_eq_some_iff.1 hsl
        rw [List.take_succ_eq_append_getElem hk', e, List.map_append]; rfl)
      have HCS := Lib.hid (And.intro hcl (And.intro hb3 (And.intro hk3 (And.intro ho3 (And.intro hm3 ha3)))))
      rw [hlA] at q1
      have hsb : b < wr.heap.size := by have := HWR.out.size; omega
      clear hgl hsl hmo hva hok hb0 hlA hcl hb3 hk3 ho3 hm3 ha3 hrl k1
      obtain ⟨V, hV⟩ : ∃ V, V = usedV u.s.vals p := ⟨_, rfl⟩
      have HV := Lib.hid hV
      have HVL := Lib.hid (show V.length ≤ 12 by have := HUV.out.1; rw [hV]; exact Nat.le_trans (List.length_filter_le _ _) this)
      have BS := Lib.hid (heap_alloc_new wr (.cells #[.string u.s.code, .int .i64 u.s.wide, .int .i64 u.s.high, .bool u.s.even, .slice u.A u.s.vals.length u.cap] 39))
      have BSW := Lib.hid (below_alloc wr (.cells #[.string u.s.code, .int .i64 u.s.wide, .int .i64 u.s.high, .bool u.s.even, .slice u.A u.s.vals.length u.cap] 39))
      have HVI := Lib.hid (fun wx (hb : Below wr.heap.size wr wx) => show Calls Tryz.prog 18 #[.agg #[.string u.s.code, .int .i64 u.s.wide, .int .i64 u.s.high, .bool u.s.even, .slice u.A u.s.vals.length u.cap], .int .i64 p] wx (GotRow wx 42 4 V.length (V.flatMap Va.cells)) by
        rw [hV]; exact ruseR_any u p wx (HUO.out.below hb) (by have := HUV.out.1; omega))
      clear hV
      obtain ⟨q, hq⟩ : ∃ q, q = V.length := ⟨_, rfl⟩
      have HQ := Lib.hid hq
      have hq12 : q ≤ 12 := by have := HVL.out; omega
      rw [← hq] at HVI
      clear hq
      go_wp2_with fail
      refine (HVI.out _ BSW.out).mono ?_; rintro e w3 ⟨A2, c2, rfl, own2, hb4⟩
      have OV := Lib.hid (show OwnVals w3 (wr.heap.size + 1) A2 c2 V from ⟨by rw [← HQ.out]; simpa using own2, by rw [HV.out]; exact used_sizes HUO.out.vals p⟩)
      have KS := Lib.hid (blk_keep hb4 BS.out)
      have B4 := Lib.hid (BSW.out.trans (hb4.mono BSW.out.size))
      have z0 := cell_of_blk KS.out 0
      have z4 := cell_of_blk KS.out 4
      have zf := free_of_blk KS.out 4
      simp at z0 z4
      have B5 := Lib.hid (B4.out.setCell (p := ⟨wr.heap.size, 4, none⟩) (Nat.le_refl _) (.slice A2 q c2))
      have KS5 := Lib.hid (show (w3.setCell ⟨wr.heap.size, 4, none⟩ (.slice A2 q c2)).heap[wr.heap.size]? = some (.cells #[.string u.s.code, .int .i64 u.s.wide, .int .i64 u.s.high, .bool u.s.even, .slice A2 q c2] 39 (0, 0)) by
        rw [heap_setCell_same _ _ _ _ _ _ KS.out]; rfl)
      have OV5 := Lib.hid (show OwnVals (w3.setCell ⟨wr.heap.size, 4, none⟩ (.slice A2 q c2)) (wr.heap.size + 1) A2 c2 V from
        ⟨ownsRow_of_block OV.out.own (fun g' hg' => heap_setCell_other _ _ _ _ (by have := (OV.out.own.lt g' hg').1; dsimp only; omega)), OV.out.sz⟩)
      clear own2 hb4 y0 y1 y2 y3 y4
      go_wp2_with fail
      generalize w3.setCell ⟨wr.heap.size, 4, none⟩ (.slice A2 q c2) = W5 at B5 KS5 OV5 ⊢
      obtain ⟨wo, rfl⟩ : ∃ wo : World, wo = wr := ⟨_, rfl⟩
      go_loopw [10] (fun i wr => ∃ j : Nat, j ≤ q ∧ i = .int .i64 j ∧ Hid (Below wo.heap.size wo wr ∧ wr.heap[wo.heap.size]? = some (.cells #[.string u.s.code, .int .i64 u.s.wide, .int .i64 u.s.high, .bool u.s.even, .slice A2 q c2] 39 (0, 0)) ∧ OwnVals wr (wo.heap.size + 1) A2 c2 (mixV V j))) (fun i _ => q - (intOf i).toNat)
      case atStart => exact ⟨0, Nat.zero_le _, rfl, Lib.hid ⟨B5.out, KS5.out, by rw [mixV_zero]; exact OV5.out⟩⟩
      case round =>
        obtain ⟨j, hj, rfl, hin⟩ := hrel
        have hsz := hin.out.1.size
        have hsw : wo.heap.size < wr.heap.size := (Array.getElem?_eq_some_iff.1 hin.out.2.1).1
        have p4 := cell_of_blk hin.out.2.1 4
        simp at p4
        by_cases hlj : j < q
        · have hgj : V[j]? = some (V[j]'(by have := HQ.out; omega)) := List.getElem?_eq_getElem _
          obtain ⟨v, hv⟩ : ∃ v, v = V[j]'(by have := HQ.out; omega) := ⟨_, rfl⟩
          rw [← hv] at hgj
          obtain ⟨A', c', e', hc2a, hc2m, hA2, hA2n⟩ := own_slice hin.out.2.2.own
          injection e' with e1 e2 e3
          subst e1 e3
          cases hA : A2 with
          | none => have := hA2n hA; have h9 := mixV_len V j; have := HQ.out; omega
          | some ad =>
          obtain ⟨g2, rfl, hh0, hh1, hcell2⟩ := hA2 ad hA
          subst hA
          obtain ⟨b', o', e5, hlt5, hva⟩ := hin.out.2.2.vals.1 j v (mixV_at V j v hgj)
          injection e5 with e5; injection e5 with e5 e6
          subst e5 e6
          have v2 := hva.c2
          have v3 := hva.c3
          rw [Nat.zero_add] at v2 v3
          have f2 := hin.out.2.2.own.frozenAt (j * 4 + 2)
          have f3 := hin.out.2.2.own.frozenAt (j * 4 + 3)
          have hgg : wo.heap.size ≠ g2 := by omega
          have hgg' : g2 ≠ wo.heap.size := by omega
          have hc2b : q ≤ c2 := by rw [mixV_len, ← HQ.out] at hc2a; exact hc2a
          unfold maxLen at hc2m
          have OV6 := Lib.hid (hin.out.2.2.fr (mixV_at V j v hgj) 1)
          have OV7 := Lib.hid (OV6.out.to (j := j) (v := ⟨v.kind, v.text, 1, v.to⟩) (by rw [List.getElem?_set_self (by rw [mixV_len]; have := HQ.out; omega)]) 1)
          have HM := Lib.hid (mixV_set V j v hgj)
          have hv7 := OV7.out
          rw [HM.out] at hv7
          have OV8 := Lib.hid hv7
          have KS6 := Lib.hid (show ((wr.setCell ⟨g2, j * 4 + 2, none⟩ (.int .i64 1)).setCell ⟨g2, j * 4 + 3, none⟩ (.int .i64 1)).heap[wo.heap.size]? = some (.cells #[.string u.s.code, .int .i64 u.s.wide, .int .i64 u.s.high, .bool u.s.even, .slice (some ⟨g2, 0, none⟩) q c2] 39 (0, 0)) by
            rw [heap_setCell_other _ _ _ _ hgg, heap_setCell_other _ _ _ _ hgg]; exact hin.out.2.1)
          have B6 := Lib.hid ((hin.out.1.setCell (p := ⟨g2, j * 4 + 2, none⟩) (by dsimp only; omega) (.int .i64 1)).setCell (p := ⟨g2, j * 4 + 3, none⟩) (by dsimp only; omega) (.int .i64 1))
          clear hv hgj hA2 hA2n hcell2 hva hlt5 hv7 hc2a
          go_wp2_with fail
          go_roundw
          case rel => exact ⟨j + 1, by omega, by go_num, Lib.hid ⟨B6.out, KS6.out, OV8.out⟩⟩
          case measure => simp [intOf]; omega
        · obtain rfl : j = q := by omega
          have HRV := Lib.hid (show mixV V j = restrV p u.s.vals by rw [HQ.out, mixV_all, HV.out]; rfl)
          have OVR := Lib.hid (show OwnVals wr (wo.heap.size + 1) A2 c2 (restrV p u.s.vals) by rw [← HRV.out]; exact hin.out.2.2)
          have HRL := Lib.hid (show (restrV p u.s.vals).length = j by rw [← HRV.out, mixV_len]; exact HQ.out.symm)
          have hm0 : SmOk wr (u.with (restrV p u.s.vals) A2 c2) := ⟨OVR.out.vals.1, OVR.out.vals.2.1, OVR.out.vals.2.2.1, HUO.out.code⟩
          have HM0 := Lib.hid hm0
          have HOS := Lib.hid (HCS.out.2.2.2.1.below hin.out.1)
          have KM := Lib.hid (blk_keep hin.out.1 HCS.out.2.2.1)
          have m1 := cell_of_blk KM.out 1
          have p0 := cell_of_blk hin.out.2.1 0
          have p1 := cell_of_blk hin.out.2.1 1
          have p2 := cell_of_blk hin.out.2.1 2
          have p3 := cell_of_blk hin.out.2.1 3
          simp at m1 p0 p1 p2 p3
          have BR := Lib.hid (HCS.out.2.1.trans (hin.out.1.mono hw1s))
          have hbr : w1.heap.size < wr.heap.size := by omega
          clear hm0
          go_wp2_with (first
            | (at_builtin; refine wpList_append_src _ rfl (.tmp 61) (.tmp 63) 22 rfl (w1.heap.size + 1) 39 is (.agg #[.string ⟨#[]⟩, .int .i64 0, .int .i64 0, .bool false, .slice none 0 0]) 5 64 Tryz.underlying22 his.out hzs.out hss.out hbs.out rfl (by decide) (.slice A k c) k (cs.flatMap Sm.cells) rfl ?own2 (some ⟨wr.heap.size, 0, none⟩) 1 1 (Sm.cells (u.with (restrV p u.s.vals) A2 c2)) rfl ?l2 ?n2 ?c2 sm_one ?m2 ?b2 ?s2 (k + 1) rfl ?_))
          case own2 => have h := HOS.out.own; rw [HCS.out.1] at h; exact h.alloc _
          case l2 => rfl
          case n2 => intro h; cases h
          case c2 =>
            intro ad had i u' hi
            injection had with had
            subst had
            have := new_cells wr (Sm.cells (u.with (restrV p u.s.vals) A2 c2)) 39 i u' hi
            simpa [Sm.cells, Sm.with, HRL.out] using this
          case m2 => unfold maxLen; omega
          case b2 => omega
          case s2 => simp; omega
          · intro A4 c4 w5 own5 hg5 hat
            have OS5 := Lib.hid (OwnSigns.append (m := u.with (restrV p u.s.vals) A2 c2) HOS.out HM0.out (fun _ b o e e2 => by
              have h1 := OVR.out.vals.2.2.2 b o e
              have h2 := (HCS.out.2.2.2.1.own.lt b e2).2
              omega) (by rw [HCS.out.1]; exact own5) (by rw [HCS.out.1]; exact hg5) (by rw [HCS.out.1]; simpa using hat))
            have hne : (Value.slice A k c).ownBlock ≠ some w1.heap.size := fun e => by
              have h := HCS.out.2.2.2.1.own
              rw [HCS.out.1] at h
              have := (h.lt _ e).1; omega
            have KM5 := Lib.hid (show w5.heap[w1.heap.size]? = some (.cells #[.int .i64 1, .slice A k c] 24 (0, 0)) by
              rw [hg5.block _ (by simp; omega) (fun e => hne e.symm), heap_alloc_other _ _ _ hbr]; exact KM.out)
            have t1 := cell_of_blk KM5.out 1
            have tf := free_of_blk KM5.out 1
            simp at t1
            have B7 := Lib.hid ((BR.out.alloc (by omega) (.cells #[.string u.s.code, .int .i64 u.s.wide, .int .i64 u.s.high, .bool u.s.even, .slice A2 j c2] 39)).grown hg5 (by simp; omega) (fun g hg => by
              have h := HCS.out.2.2.2.1.own
              rw [HCS.out.1] at h
              have := (h.lt g hg).1; omega))
            have HAP := Lib.hid (show ∀ m ∈ cs ++ [u.with (restrV p u.s.vals) A2 c2], ApartG (w.heap.size + 1) m.A m.s.vals ∧ ApartG w1.heap.size m.A m.s.vals from fun m hm => by
              rcases List.mem_append.1 hm with hm | hm
              · exact HCS.out.2.2.2.2.2 m hm
              · simp at hm; subst hm
                exact ⟨fun _ b o e e2 => by have := OVR.out.vals.2.2.2 b o e; omega, fun _ b o e e2 => by have := OVR.out.vals.2.2.2 b o e; omega⟩)
            have HNL2 := Lib.hid (show (cs ++ [u.with (restrV p u.s.vals) A2 c2]).length = k + 1 by rw [List.length_append, HCS.out.1]; rfl)
            have OS6 := Lib.hid (OS5.out.other (b0 := w1.heap.size) (fun e => by have := (OS5.out.own.lt _ e).1; omega) (fun m hm => (HAP.out m hm).2) 1 (.slice A4 (k + 1) c4))
            have KM6 := Lib.hid (show (w5.setCell ⟨w1.heap.size, 1, none⟩ (.slice A4 (k + 1) c4)).heap[w1.heap.size]? = some (.cells #[.int .i64 1, .slice A4 (k + 1) c4] 24 (0, 0)) by
              rw [heap_setCell_same _ _ _ _ _ _ KM5.out]; rfl)
            clear own5 hg5 hat hne
            go_wp2_with fail
            go_roundw
            case rel => exact ⟨k + 1, by omega, by go_num, Lib.hid ⟨A4, c4, _, HNL2.out, B7.out.setCell (p := ⟨w1.heap.size, 1, none⟩) (Nat.le_refl _) _, KM6.out, OS6.out, by rw [List.map_append, HCS.out.2.2.2.2.1, HSN.out]; rfl, HAP.out⟩⟩
            case measure => simp [intOf]; omega
    · obtain rfl : k = n := by omega
      have k2 := blk_keep hb3 K2.out
      have p0 := cell_of_blk hk3 0
      have p1 := cell_of_blk hk3 1
      have r0 := cell_of_blk k2 0
      have r1 := cell_of_blk k2 1
      have f0 := free_of_blk k2 0
      have f1 := free_of_blk k2 1
      simp at p0 p1 r0 r1
      have hne : (Value.slice A cs.length c).ownBlock ≠ some (w.heap.size + 1) := fun e => by have := (ho3.own.lt _ e).1; omega
      have HO := Lib.hid ((ho3.other hne (fun m hm => (ha3 m hm).1) 0 (.int .i64 1)).other hne (fun m hm => (ha3 m hm).1) 1 (.slice A k c))
      have HM := Lib.hid (show cs.map (·.s) = l.signs.map (sgWith (restrV p)) by rw [hm3, HN.out, ← Lm.length_signs, List.take_length])
      have HCL := Lib.hid hcl
      have HB3 := Lib.hid (HW1.out.trans (hb3.mono HW1.out.size))
      clear hcl hb3 ho3 hm3 ha3 hrl k1 k2 hne hk3
      go_wp2_with fail
      rw [HF.out]
      refine bodyPost_ret (v := .tuple #[.agg #[.int .i64 1, .slice A k c], .int .i64 0]) (by simp [results, Tryz.results12, go_sem, r0, r1]) rfl ⟨⟨1, cs, A, c⟩, ?_, HO.out.lm _, ?_, ?_⟩
      · unfold Lm.val; dsimp only; rw [HCL.out]
      · unfold Lm.li Lm.signs; dsimp only; rw [HM.out]; rfl
      · exact (HB3.out.setCell (by dsimp only; omega) _).setCell (by dsimp only; omega) _

end Go.Proofs.YtleihhkacmgofaaGreatDoor
