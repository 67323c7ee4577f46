/-
  Contract of Restrict, in the program.
-/
import Derived.Test.YtleihhkacmgofaaGreatDoorOwnA
import Derived.Test.YtleihhkacmgofaaGreatDoorRTid
namespace Go.Proofs.YtleihhkacmgofaaGreatDoor
open Go.RowKit

/-- a value in the one period -/
def oneP (v : Va) : Va := ⟨v.kind, v.text, 1, 1⟩
def restrV (p : Int) (vs : List Va) : List Va := (usedV vs p).map oneP
def restrL (l : Li) (p : Int) : Li × Int := if checkErr l ≠ 0 then (⟨0, []⟩, checkErr l) else if withinB p l.per = false then (⟨0, []⟩, 13) else (⟨1, l.signs.map (sgWith (restrV p))⟩, 0)
/-- the first values changed -/
def mixV (V : List Va) (j : Nat) : List Va := (V.take j).map oneP ++ V.drop j
theorem mixV_len (V : List Va) (j : Nat) : (mixV V j).length = V.length := by unfold mixV; simp; omega
theorem mixV_at (V : List Va) (j : Nat) (v : Va) (h : V[j]? = some v) : (mixV V j)[j]? = some v := by
  unfold mixV
  obtain ⟨hk, e⟩ := List.getElem?_eq_some_iff.1 h
  rw [List.getElem?_append_right (by simp; omega)]
  simp
  rw [show j + (j - min j V.length) = j by omega]
  exact h
theorem mixV_set (V : List Va) (j : Nat) (v : Va) (h : V[j]? = some v) : ((mixV V j).set j ⟨v.kind, v.text, 1, v.to⟩).set j ⟨v.kind, v.text, 1, 1⟩ = mixV V (j + 1) := by
  obtain ⟨hk, e⟩ := List.getElem?_eq_some_iff.1 h
  rw [List.set_set]
  unfold mixV
  rw [List.set_append_right _ _ (by simp; omega), List.take_succ_eq_append_getElem hk, List.drop_eq_getElem_cons hk, List.map_append]
  have hm : j - (List.map oneP (List.take j V)).length = 0 := by simp; omega
  rw [hm]
  simp [e, oneP]
theorem mixV_zero (V : List Va) : mixV V 0 = V := by simp [mixV]
theorem mixV_all (V : List Va) : mixV V V.length = V.map oneP := by simp [mixV]
theorem within_ok (n m : Int) (w : World) (r : Bool) (h : withinB n m = r) : Calls Tryz.prog 26 #[.int .i64 n, .int .i64 m] w fun e w' => e = .returned (.bool r) ∧ w = w' := by
  rw [← h]; exact within_any n m w

set_option maxHeartbeats 3200000 in
set_option maxRecDepth 100000 in
theorem prestrict_any (l : Lm) (p : Int) (w : World) (hl : LmOk w l) :
    Calls Tryz.prog 11 #[l.val, .int .i64 p] w (GotListE w (restrL l.li p)) := by
  obtain ⟨W, hW⟩ : ∃ W, W = ((w.alloc (.cells #[.int .i64 l.per, .slice l.A l.ms.length l.cap] 24)).alloc (.cells #[.int .i64 0, .slice none 0 0] 24)) := ⟨_, rfl⟩
  have HB := Lib.hid (show Below w.heap.size w W from hW ▸ ((Below.refl _ _).alloc (Nat.le_refl _) _).alloc (by simp) _)
  have C1 := Lib.hid (show W.heap[w.heap.size]? = some (.cells #[.int .i64 l.per, .slice l.A l.ms.length l.cap] 24 (0, 0)) by
    rw [hW, heap_alloc_other _ _ _ (by simp)]; exact heap_alloc_new _ _)
  have C2 := Lib.hid (show W.heap[w.heap.size + 1]? = some (.cells #[.int .i64 0, .slice none 0 0] 24 (0, 0)) by
    rw [hW]; have := heap_alloc_new (w.alloc (.cells #[.int .i64 l.per, .slice l.A l.ms.length l.cap] 24)) (.cells #[.int .i64 0, .slice none 0 0] 24); simpa using this)
  have HS := Lib.hid (show W.heap.size = w.heap.size + 1 + 1 by rw [hW]; simp)
  have HL := Lib.hid (hl.below HB.out)
  have HL0 := Lib.hid hl
  have hlen := hl.len
  have hcap := hl.cap
  unfold maxLen at hcap
  clear hl
  obtain ⟨E, hE⟩ : ∃ E, E = checkErr l.li := ⟨_, rfl⟩
  have HE := Lib.hid hE.symm
  have HCK := Lib.hid (fun r (h : checkErr l.li = r) => show Calls Tryz.prog 22 #[.agg #[.int .i64 l.per, .slice l.A l.ms.length l.cap]] W _ from check_is l W HL.out r h)
  show Calls _ _ #[.agg #[.int .i64 l.per, .slice l.A l.ms.length l.cap], .int .i64 p] w _
  by_cases h0 : E = 0
  case neg =>
    have hb : (E != 0) = true := by simpa using h0
    have HF := Lib.hid (show restrL l.li p = (⟨0, []⟩, E) by unfold restrL; rw [HE.out, if_pos h0])
    clear hE h0
    go_enter Tryz.func11, Tryz.ntmps11
    go_wp2_with fail
    rw [← hW]
    refine (HCK.out E HE.out).mono ?_; rintro e w1 ⟨rfl, hb1⟩
    have k2 := blk_keep hb1 C2.out
    have r0 := cell_of_blk k2 0
    have r1 := cell_of_blk k2 1
    have f0 := free_of_blk k2 0
    have f1 := free_of_blk k2 1
    simp at r0 r1
    have B1 := Lib.hid (HB.out.trans (hb1.mono HB.out.size))
    clear hb1 k2
    go_wp2_with fail
    rw [HF.out]
    refine bodyPost_ret (v := .tuple #[.agg #[.int .i64 0, .slice none 0 0], .int .i64 E]) (by simp [results, Tryz.results11, go_sem, r0, r1]) rfl ⟨⟨0, [], none, 0⟩, rfl, lm_none _, rfl, ?_⟩
    exact (B1.out.setCell (by dsimp only; omega) _).setCell (by dsimp only; omega) _
  subst h0
  clear hE
  by_cases hp : withinB p l.per = true
  case neg =>
    have hp : withinB p l.per = false := by simpa using hp
    have HF := Lib.hid (show restrL l.li p = (⟨0, []⟩, 13) by unfold restrL; rw [HE.out, if_neg (by simp), if_pos (show withinB p l.li.per = false from hp)])
    go_enter Tryz.func11, Tryz.ntmps11
    go_wp2_with fail
    rw [← hW]
    refine (HCK.out 0 HE.out).mono ?_; rintro e w1 ⟨rfl, hb1⟩
    have k2 := blk_keep hb1 C2.out
    have k1 := blk_keep hb1 C1.out
    have x0 := cell_of_blk k1 0
    have r0 := cell_of_blk k2 0
    have r1 := cell_of_blk k2 1
    have f0 := free_of_blk k2 0
    have f1 := free_of_blk k2 1
    simp at r0 r1 x0
    have B1 := Lib.hid (HB.out.trans (hb1.mono HB.out.size))
    clear hb1 k2 k1
    go_wp2_with (first | (go_at_call 26; refine (within_ok _ _ _ false hp).mono ?_; rintro e w' ⟨rfl, rfl⟩))
    rw [HF.out]
    refine bodyPost_ret (v := .tuple #[.agg #[.int .i64 0, .slice none 0 0], .int .i64 13]) (by simp [results, Tryz.results11, go_sem, r0, r1]) rfl ⟨⟨0, [], none, 0⟩, rfl, lm_none _, rfl, ?_⟩
    exact (B1.out.setCell (by dsimp only; omega) _).setCell (by dsimp only; omega) _
  have HOKV := Lib.hid (check_okV l.li HE.out)
  have HF := Lib.hid (show restrL l.li p = (⟨1, l.signs.map (sgWith (restrV p))⟩, 0) by unfold restrL; rw [HE.out, if_neg (by simp), if_neg (by rw [show l.li.per = l.per from rfl, hp]; simp)]; rfl)
  have HNL := Lib.hid (show l.ms.length ≤ 200 by have := HOKV.out.1; rw [show l.li.signs = l.signs from rfl, Lm.length_signs] at this; exact this)
  go_enter Tryz.func11, Tryz.ntmps11
  go_wp2_with fail
  rw [← hW]
  refine (HCK.out 0 HE.out).mono ?_; rintro e w1 ⟨rfl, hb1⟩
  have B1 := Lib.hid hb1
  have K2 := Lib.hid (blk_keep hb1 C2.out)
  have x0 := cell_of_blk (blk_keep hb1 C1.out) 0
  have x1 := cell_of_blk (blk_keep hb1 C1.out) 1
  simp at x0 x1
  have HW1 := Lib.hid (HB.out.trans (hb1.mono HB.out.size))
  clear hb1
  go_wp2_with (first | (go_at_call 26; refine (within_ok _ _ _ true hp).mono ?_; rintro e w' ⟨rfl, rfl⟩) | (go_at_call 23; refine (cloneG_any l.A l.cap l.ms w1 (HL0.out.signs.below HW1.out) (by have := HNL.out; omega)).mono ?_; rintro e w2 ⟨A1, c1, rfl, own1, hb2⟩))
  have OWN := Lib.hid (OwnSigns.cloned own1 (signs_ok HL0.out.signs) (HW1.out.trans (hb2.mono HW1.out.size)) HW1.out.size)
  have AP0 := Lib.hid (show ∀ m ∈ l.ms, ApartG (w.heap.size + 1) m.A m.s.vals from fun m hm => apart_old (signs_ok HL0.out.signs m hm) (by omega))
  have B2 := Lib.hid hb2
  clear own1 hb2 x0 x1 hp
  have hnl := HNL.out
  obtain ⟨n, hn⟩ : ∃ n, n = l.ms.length := ⟨_, rfl⟩
  have HN := Lib.hid hn
  rw [← hn] at hlen hnl ⊢
  clear hn
  go_wp2_with fail
  go_loopw [27] (fun i wr => ∃ k : Nat, k ≤ n ∧ i = .int .i64 k ∧ Hid (∃ cs, cs.length = n ∧ Below w1.heap.size w1 wr ∧ OwnSigns wr w1.heap.size A1 c1 cs ∧ cs.map (·.s) = firstW (restrV p) k l.signs ∧ ∀ m ∈ cs, ApartG (w.heap.size + 1) m.A m.s.vals)) (fun i _ => n - (intOf i).toNat)
  case atStart => exact ⟨0, Nat.zero_le _, rfl, Lib.hid ⟨l.ms, HN.out.symm, B2.out, OWN.out, (firstW_zero _ _).symm, AP0.out⟩⟩
  case round =>
    obtain ⟨k, hk, rfl, hrl⟩ := hrel
    obtain ⟨cs, hcl, hb3, ho3, hm3, ha3⟩ := hrl.out
    have hw1s := hb3.size
    have hws := HW1.out.size
    have hW1 := HS.out
    have hW2 := B1.out.size
    by_cases hlt : k < n
    · have hget : cs[k]? = some (cs[k]'(by omega)) := List.getElem?_eq_getElem _
      obtain ⟨u, hu⟩ : ∃ u, u = cs[k]'(by omega) := ⟨_, rfl⟩
      rw [← hu] at hget
      have hus : l.signs[k]? = some u.s := by
        have h1 : (cs.map (·.s))[k]? = some u.s := by rw [List.getElem?_map, hget]; rfl
        rw [hm3] at h1
        have hkl : k < l.signs.length := by rw [Lm.length_signs, ← HN.out]; exact hlt
        have h2 := firstW_at (restrV p) k l.signs _ (List.getElem?_eq_getElem hkl)
        rw [h2] at h1
        rw [List.getElem?_eq_getElem hkl]
        exact h1
      have HUV := Lib.hid (HOKV.out.2.2.2 u.s (List.mem_of_getElem? hus))
      obtain ⟨A', c', e', hc1, hc1m, hA1, hA1n⟩ := own_slice ho3.own
      injection e' with e1 e2 e3
      subst e1 e3
      cases hA : A1 with
      | none => have := hA1n hA; omega
      | some ad =>
      obtain ⟨g, rfl, hg0, hg1, hcell⟩ := hA1 ad hA
      subst hA
      have hsm := sm_cells_at hcell hget
      have x4 := hsm.c4
      rw [Nat.zero_add] at x4
      have HUO := Lib.hid (ho3.ok u (List.mem_of_getElem? hget))
      have HGET := Lib.hid hget
      have HUS := Lib.hid hus
      have HCS := Lib.hid (And.intro hcl (And.intro hb3 (And.intro ho3 (And.intro hm3 ha3))))
      clear hu hget hus hsm hcell hA1 hA1n hcl hb3 ho3 hm3 ha3 hrl
      obtain ⟨V, hV⟩ : ∃ V, V = usedV u.s.vals p := ⟨_, rfl⟩
      have HV := Lib.hid hV
      have HVL := Lib.hid (show V.length ≤ 12 by have := HUV.out.1; rw [hV]; exact Nat.le_trans (List.length_filter_le _ _) this)
      have HVI := Lib.hid (valuesInR_any u.A u.cap u.s.vals p wr HUO.out.vals HUO.out.len HUO.out.cap (by have := HUV.out.1; omega))
      rw [← hV] at HVI
      clear hV
      obtain ⟨q, hq⟩ : ∃ q, q = V.length := ⟨_, rfl⟩
      have HQ := Lib.hid hq
      have hq12 : q ≤ 12 := by have := HVL.out; omega
      rw [← hq] at HVI
      clear hq
      go_wp2_with fail
      refine HVI.out.mono ?_; rintro e w3 ⟨A2, c2, rfl, own2, hb4⟩
      have OV := Lib.hid (show OwnVals w3 wr.heap.size A2 c2 V from ⟨by rw [← HQ.out]; exact own2, by rw [HV.out]; exact used_sizes HUO.out.vals p⟩)
      have X4 := Lib.hid ((hb4.cell (p := ⟨g, k * 5 + 4, none⟩) hg1).trans x4)
      have OW4 := Lib.hid (HCS.out.2.2.1.below hb4)
      have z4 := OW4.out.own.frozenAt (k * 5 + 4)
      have y4 := X4.out
      have hg3 : g < w3.heap.size := Nat.lt_of_lt_of_le hg1 hb4.size
      have B4 := Lib.hid (HCS.out.2.1.trans (hb4.mono HCS.out.2.1.size))
      have ST := Lib.hid (OW4.out.set HGET.out OV.out.vals.1 OV.out.vals.2.1 OV.out.vals.2.2.1 (fun _ b o e e2 => by have := OV.out.vals.2.2.2 b o e; omega))
      have OV5 := Lib.hid (show OwnVals (w3.setCell ⟨g, k * 5 + 4, none⟩ (.slice A2 q c2)) wr.heap.size A2 c2 V from
        ⟨ownsRow_of_block OV.out.own (fun g' hg' => heap_setCell_other _ _ _ _ (by have := (OV.out.own.lt g' hg').1; dsimp only; omega)), OV.out.sz⟩)
      have HAP := Lib.hid (fun g2 (h : wr.heap.size ≤ g2) => show ∀ m ∈ cs, ApartG g2 m.A m.s.vals from fun m hm => apart_old (HCS.out.2.2.1.ok m hm) h)
      have B5 := Lib.hid (B4.out.setCell (p := ⟨g, k * 5 + 4, none⟩) hg0 (.slice A2 q c2))
      rw [← HQ.out] at ST
      have HS5 := Lib.hid (show wr.heap.size ≤ (w3.setCell ⟨g, k * 5 + 4, none⟩ (.slice A2 q c2)).heap.size by have := hb4.size; simpa using this)
      have HC5 := Lib.hid (show (w3.setCell ⟨g, k * 5 + 4, none⟩ (.slice A2 q c2)).cell? ⟨g, k * 5 + 4, none⟩ = some (.slice A2 q c2) from World.cell?_setCell_same' _ _ _ (by rw [y4]; rfl))
      clear own2 hb4 x4
      go_wp2_with fail
      generalize w3.setCell ⟨g, k * 5 + 4, none⟩ (.slice A2 q c2) = W5 at ST OV5 B5 HS5 HC5 ⊢
      have hB2g := HS.out
      obtain ⟨wo, rfl⟩ : ∃ wo : World, wo = wr := ⟨_, rfl⟩
      go_loopw [47] (fun i wr => ∃ j : Nat, j ≤ q ∧ i = .int .i64 j ∧ Hid (Below w1.heap.size w1 wr ∧ wo.heap.size ≤ wr.heap.size ∧ OwnSigns wr w1.heap.size (some ⟨g, 0, none⟩) c1 (cs.set k (u.with (mixV V j) A2 c2)) ∧ OwnVals wr wo.heap.size A2 c2 (mixV V j))) (fun i _ => q - (intOf i).toNat)
      case atStart => exact ⟨0, Nat.zero_le _, rfl, Lib.hid ⟨B5.out, HS5.out, by rw [mixV_zero]; exact ST.out, by rw [mixV_zero]; exact OV5.out⟩⟩
      case round =>
        obtain ⟨j, hj, rfl, hin⟩ := hrel
        have hsz := hin.out.2.1
        have HX4 := Lib.hid (show wr.cell? ⟨g, k * 5 + 4, none⟩ = some (.slice A2 q c2) by
          obtain ⟨A', c', e', _, _, hA1, _⟩ := own_slice hin.out.2.2.1.own
          injection e' with e1 e2 e3
          obtain ⟨g', e4, _, _, hcell⟩ := hA1 ⟨g, 0, none⟩ e1.symm
          injection e4 with e4 _
          have h1 := (sm_cells_at hcell (k := k) (m := u.with (mixV V j) A2 c2) (by rw [List.getElem?_set_self (by rw [HCS.out.1]; exact hlt)])).c4
          rw [← e4, Nat.zero_add] at h1
          rw [h1]
          show some (Value.slice A2 (mixV V j).length c2) = _
          rw [mixV_len, ← HQ.out])
        have x4 := HX4.out
        by_cases hlj : j < q
        · have hgj : V[j]? = some (V[j]'(by have := HQ.out; omega)) := List.getElem?_eq_getElem _
          obtain ⟨v, hv⟩ : ∃ v, v = V[j]'(by have := HQ.out; omega) := ⟨_, rfl⟩
          rw [← hv] at hgj
          obtain ⟨A', c', e', hc2a, hc2m, hA2, hA2n⟩ := own_slice hin.out.2.2.2.own
          injection e' with e1 e2 e3
          subst e1 e3
          cases hA : A2 with
          | none => have := hA2n hA; have h9 := mixV_len V j; have := HQ.out; omega
          | some ad =>
          obtain ⟨g2, rfl, hh0, hh1, hcell2⟩ := hA2 ad hA
          subst hA
          have hva := (hin.out.2.2.2.vals.1 j v (mixV_at V j v hgj))
          obtain ⟨b', o', e5, hlt5, hva⟩ := hva
          injection e5 with e5; injection e5 with e5 e6
          subst e5 e6
          have v2 := hva.c2
          have v3 := hva.c3
          rw [Nat.zero_add] at v2 v3
          have f2 := hin.out.2.2.2.own.frozenAt (j * 4 + 2)
          have f3 := hin.out.2.2.2.own.frozenAt (j * 4 + 3)
          have hgg : g ≠ g2 := by omega
          have hgg' : g2 ≠ g := by omega
          have hg5 : g < wr.heap.size := by omega
          have hc2b : q ≤ c2 := by rw [mixV_len, ← HQ.out] at hc2a; exact hc2a
          unfold maxLen at hc2m
          have hkj : k < cs.length := by rw [HCS.out.1]; exact hlt
          have OV6 := Lib.hid (hin.out.2.2.2.fr (mixV_at V j v hgj) 1)
          have OV7 := Lib.hid (OV6.out.to (j := j) (v := ⟨v.kind, v.text, 1, v.to⟩) (by rw [List.getElem?_set_self (by rw [mixV_len]; have := HQ.out; omega)]) 1)
          have HM := Lib.hid (mixV_set V j v hgj)
          have hv7 := OV7.out
          rw [HM.out] at hv7
          have OS7 := Lib.hid (OwnSigns.vals_turned (w' := (wr.setCell ⟨g2, j * 4 + 2, none⟩ (.int .i64 1)).setCell ⟨g2, j * 4 + 3, none⟩ (.int .i64 1)) (g2 := g2) (V' := mixV V (j + 1)) hin.out.2.2.1 hkj (HAP.out g2 hh0) (by intro e; injection e with e; exact hgg e) (by simp) (fun b hb hne => by
            rw [heap_setCell_other _ _ _ _ hne, heap_setCell_other _ _ _ _ hne]) (by rw [mixV_len, mixV_len]) hv7.vals.1 (fun _ b o e => by injection e with e; injection e with e _; exact e.symm))
          have OV8 := Lib.hid hv7
          have B6 := Lib.hid ((hin.out.1.setCell (p := ⟨g2, j * 4 + 2, none⟩) (by dsimp only; omega) (.int .i64 1)).setCell (p := ⟨g2, j * 4 + 3, none⟩) (by dsimp only; omega) (.int .i64 1))
          clear hv hgj hA2 hA2n hcell2 hva hlt5 hv7 hc2a
          go_wp2_with fail
          go_roundw
          case rel => exact ⟨j + 1, by omega, by go_num, Lib.hid ⟨B6.out, by simpa using hsz, OS7.out, OV8.out⟩⟩
          case measure => simp [intOf]; omega
        · obtain rfl : j = q := by omega
          have hkj : k < cs.length := by rw [HCS.out.1]; exact hlt
          have HRV := Lib.hid (show mixV V j = restrV p u.s.vals by rw [HQ.out, mixV_all, HV.out]; rfl)
          have OS := Lib.hid (show OwnSigns wr w1.heap.size (some ⟨g, 0, none⟩) c1 (cs.set k (u.with (restrV p u.s.vals) A2 c2)) by rw [← HRV.out]; exact hin.out.2.2.1)
          have AP := Lib.hid (show ∀ m ∈ cs.set k (u.with (restrV p u.s.vals) A2 c2), ApartG (w.heap.size + 1) m.A m.s.vals from fun m hm => by
            rcases List.mem_or_eq_of_mem_set hm with hm | rfl
            · exact HCS.out.2.2.2.2 m hm
            · exact fun _ b o e e2 => by have h1 := hin.out.2.2.2.vals.2.2.2 b o e; omega)
          go_wp2_with fail
          go_roundw
          case rel => exact ⟨k + 1, by omega, by go_num, Lib.hid ⟨_, by rw [List.length_set]; exact HCS.out.1, hin.out.1, OS.out, set_map HCS.out.2.2.2.1 HGET.out HUS.out _ rfl _ _, AP.out⟩⟩
          case measure => simp [intOf]; omega
    · obtain rfl : k = n := by omega
      have k2 := blk_keep hb3 K2.out
      have r0 := cell_of_blk k2 0
      have r1 := cell_of_blk k2 1
      have f0 := free_of_blk k2 0
      have f1 := free_of_blk k2 1
      simp at r0 r1
      have hne : (Value.slice A1 cs.length c1).ownBlock ≠ some (w.heap.size + 1) := fun e => by have := (ho3.own.lt _ e).1; omega
      have HO := Lib.hid ((ho3.other hne ha3 0 (.int .i64 1)).other hne ha3 1 (.slice A1 k c1))
      have HM := Lib.hid (show cs.map (·.s) = l.signs.map (sgWith (restrV p)) by rw [hm3, HN.out, ← Lm.length_signs, firstW_all])
      have HCL := Lib.hid hcl
      have HB3 := Lib.hid (HW1.out.trans (hb3.mono HW1.out.size))
      clear hcl hb3 ho3 hm3 ha3 hrl k2 hne
      go_wp2_with fail
      rw [HF.out]
      refine bodyPost_ret (v := .tuple #[.agg #[.int .i64 1, .slice A1 k c1], .int .i64 0]) (by simp [results, Tryz.results11, go_sem, r0, r1]) rfl ⟨⟨1, cs, A1, c1⟩, ?_, HO.out.lm _, ?_, ?_⟩
      · unfold Lm.val; dsimp only; rw [HCL.out]
      · unfold Lm.li Lm.signs; dsimp only; rw [HM.out]; rfl
      · exact (HB3.out.setCell (by dsimp only; omega) _).setCell (by dsimp only; omega) _

end Go.Proofs.YtleihhkacmgofaaGreatDoor
