/-
  Contract of Tidy, in the program.
-/
import Derived.Test.YtleihhkacmgofaaGreatDoorOwnS
namespace Go.Proofs.YtleihhkacmgofaaGreatDoor
open Go.RowKit

theorem OwnSigns.other {w : World} {base c : Nat} {A : Option Addr} {ms : List Sm} (h : OwnSigns w base A c ms) {b0 : Nat} (hb : (Value.slice A ms.length c).ownBlock ≠ some b0) (ha : ∀ m ∈ ms, ApartG b0 m.A m.s.vals) (o : Nat) (u : Value) : OwnSigns (w.setCell ⟨b0, o, none⟩ u) base A c ms :=
  ⟨ownsRow_of_block h.own (fun g hg => heap_setCell_other _ _ _ _ (by intro e; subst e; exact hb hg)), fun m hm => smOk_set (h.ok m hm) (ha m hm) _ _, h.apart⟩
/-- a row of signs as it was handed in, in memory of the call's own -/
theorem OwnSigns.cloned {w w1 w' : World} {A : Option Addr} {c : Nat} {ms : List Sm} (hown : w'.ownsRow w1.heap.size 39 5 (.slice A ms.length c) ms.length (ms.flatMap Sm.cells)) (hok : ∀ m ∈ ms, SmOk w m) (hb : Below w.heap.size w w') (hs : w.heap.size ≤ w1.heap.size) : OwnSigns w' w1.heap.size A c ms :=
  ⟨hown, fun m hm => (hok m hm).below hb, fun m hm h0 b o e e2 => by
    obtain ⟨b', o', e', hlt, _⟩ := (hok m hm).vals 0 m.s.vals[0] (List.getElem?_eq_getElem h0)
    rw [e] at e'
    injection e' with e'; injection e' with e1 _
    have := (hown.lt b e2).1
    omega⟩
theorem signs_ok {w : World} {A : Option Addr} {ms : List Sm} (h : SignsAt w A ms) : ∀ m ∈ ms, SmOk w m := fun m hm => by
  obtain ⟨i, hi⟩ := List.getElem?_of_mem hm
  obtain ⟨_, _, _, _, _, h⟩ := h i m hi
  exact h
theorem apart_old {w : World} {m : Sm} (h : SmOk w m) {b0 : Nat} (hb : w.heap.size ≤ b0) : ApartG b0 m.A m.s.vals := fun h0 b o e e2 => by
  obtain ⟨b', o', e', hlt, _⟩ := h.vals 0 m.s.vals[0] (List.getElem?_eq_getElem h0)
  rw [e] at e'
  injection e' with e'; injection e' with e1 _
  omega
theorem check_is (l : Lm) (w : World) (hl : LmOk w l) (r : Int) (h : checkErr l.li = r) : Calls Tryz.prog 22 #[l.val] w fun e w' => e = .returned (.int .i64 r) ∧ Below w.heap.size w w' := by
  rw [← h]; exact check_any l w hl
theorem set_map {ms : List Sm} {k : Nat} {f : List Va → List Va} {l : List Sg} {u : Sm} (h : ms.map (·.s) = firstW f k l) (_hu : ms[k]? = some u) (hl : l[k]? = some u.s) (vs : List Va) (hv : vs = f u.s.vals) (A : Option Addr) (c : Nat) : (ms.set k (u.with vs A c)).map (·.s) = firstW f (k + 1) l := by
  rw [List.map_set, h, ← firstW_set f k l u.s hl, hv]
  rfl

set_option maxHeartbeats 3200000 in
set_option maxRecDepth 100000 in
theorem ptidy_any (l : Lm) (w : World) (hl : LmOk w l) :
    Calls Tryz.prog 8 #[l.val] w (GotListE w (tidyL l.li)) := by
  obtain ⟨W, hW⟩ : ∃ W, W = ((w.alloc (.cells #[.int .i64 l.per, .slice l.A l.ms.length l.cap] 24)).alloc (.cells #[.int .i64 0, .slice none 0 0] 24)) := ⟨_, rfl⟩
  have HB := Lib.hid (show Below w.heap.size w W from hW ▸ ((Below.refl _ _).alloc (Nat.le_refl _) _).alloc (by simp) _)
  have C1 := Lib.hid (show W.heap[w.heap.size]? = some (.cells #[.int .i64 l.per, .slice l.A l.ms.length l.cap] 24 (0, 0)) by
    rw [hW, heap_alloc_other _ _ _ (by simp)]; exact heap_alloc_new _ _)
  have C2 := Lib.hid (show W.heap[w.heap.size + 1]? = some (.cells #[.int .i64 0, .slice none 0 0] 24 (0, 0)) by
    rw [hW]; have := heap_alloc_new (w.alloc (.cells #[.int .i64 l.per, .slice l.A l.ms.length l.cap] 24)) (.cells #[.int .i64 0, .slice none 0 0] 24); simpa using this)
  have HS := Lib.hid (show W.heap.size = w.heap.size + 1 + 1 by rw [hW]; simp)
  have HL := Lib.hid (hl.below HB.out)
  have HL0 := Lib.hid hl
  have hlen := hl.len
  have hcap := hl.cap
  unfold maxLen at hcap
  clear hl
  obtain ⟨E, hE⟩ : ∃ E, E = checkErr l.li := ⟨_, rfl⟩
  have HE := Lib.hid hE.symm
  have HCK := Lib.hid (fun r (h : checkErr l.li = r) => show Calls Tryz.prog 22 #[.agg #[.int .i64 l.per, .slice l.A l.ms.length l.cap]] W _ from check_is l W HL.out r h)
  show Calls _ _ #[.agg #[.int .i64 l.per, .slice l.A l.ms.length l.cap]] w _
  by_cases h0 : E = 0
  case neg =>
    have hb : (E != 0) = true := by simpa using h0
    have HF := Lib.hid (show tidyL l.li = (⟨0, []⟩, E) by unfold tidyL; rw [HE.out, if_pos h0])
    clear hE h0
    go_enter Tryz.func8, Tryz.ntmps8
    go_wp2_with fail
    rw [← hW]
    refine (HCK.out E HE.out).mono ?_; rintro e w1 ⟨rfl, hb1⟩
    have k2 := blk_keep hb1 C2.out
    have r0 := cell_of_blk k2 0
    have r1 := cell_of_blk k2 1
    have f0 := free_of_blk k2 0
    have f1 := free_of_blk k2 1
    simp at r0 r1
    have B1 := Lib.hid (HB.out.trans (hb1.mono HB.out.size))
    clear hb1 k2
    go_wp2_with fail
    rw [HF.out]
    refine bodyPost_ret (v := .tuple #[.agg #[.int .i64 0, .slice none 0 0], .int .i64 E]) (by simp [results, Tryz.results8, go_sem, r0, r1]) rfl ⟨⟨0, [], none, 0⟩, rfl, lm_none _, rfl, ?_⟩
    exact (B1.out.setCell (by dsimp only; omega) _).setCell (by dsimp only; omega) _
  subst h0
  clear hE
  have HOKV := Lib.hid (check_okV l.li HE.out)
  have HF := Lib.hid (show tidyL l.li = (⟨l.per, l.signs.map (sgWith tidyV)⟩, 0) by unfold tidyL; rw [HE.out, if_neg (by simp)]; rfl)
  have HNL := Lib.hid (show l.ms.length ≤ 200 by have := HOKV.out.1; rw [show l.li.signs = l.signs from rfl, Lm.length_signs] at this; exact this)
  go_enter Tryz.func8, Tryz.ntmps8
  go_wp2_with fail
  rw [← hW]
  refine (HCK.out 0 HE.out).mono ?_; rintro e w1 ⟨rfl, hb1⟩
  have B1 := Lib.hid hb1
  have K1 := Lib.hid (blk_keep hb1 C1.out)
  have K2 := Lib.hid (blk_keep hb1 C2.out)
  have x0 := cell_of_blk K1.out 0
  have x1 := cell_of_blk K1.out 1
  simp at x0 x1
  have HW1 := Lib.hid (HB.out.trans (hb1.mono HB.out.size))
  clear hb1
  go_wp2_with fail
  refine (cloneG_any l.A l.cap l.ms w1 (HL0.out.signs.below HW1.out) (by have := HNL.out; omega)).mono ?_; rintro e w2 ⟨A1, c1, rfl, own1, hb2⟩
  have OWN := Lib.hid (OwnSigns.cloned own1 (signs_ok HL0.out.signs) (HW1.out.trans (hb2.mono HW1.out.size)) HW1.out.size)
  have AP0 := Lib.hid (show ∀ m ∈ l.ms, ApartG (w.heap.size + 1) m.A m.s.vals from fun m hm => apart_old (signs_ok HL0.out.signs m hm) (by omega))
  have B2 := Lib.hid hb2
  clear own1 hb2 x0 x1
  have hnl := HNL.out
  obtain ⟨n, hn⟩ : ∃ n, n = l.ms.length := ⟨_, rfl⟩
  have HN := Lib.hid hn
  rw [← hn] at hlen hnl ⊢
  clear hn
  go_wp2_with fail
  go_loopw [6, 18] (fun _ i wr => ∃ k : Nat, k ≤ n ∧ i = .int .i64 k ∧ Hid (∃ cs, cs.length = n ∧ Below w1.heap.size w1 wr ∧ OwnSigns wr w1.heap.size A1 c1 cs ∧ cs.map (·.s) = firstW tidyV k l.signs ∧ ∀ m ∈ cs, ApartG (w.heap.size + 1) m.A m.s.vals)) (fun _ i _ => n - (intOf i).toNat)
  case atStart => exact ⟨0, Nat.zero_le _, rfl, Lib.hid ⟨l.ms, HN.out.symm, B2.out, OWN.out, (firstW_zero _ _).symm, AP0.out⟩⟩
  case round =>
    obtain ⟨k, hk, rfl, hrl⟩ := hrel
    obtain ⟨cs, hcl, hb3, ho3, hm3, ha3⟩ := hrl.out
    have hw1s := hb3.size
    have hws := HW1.out.size
    have hW1 := HS.out
    have hW2 := B1.out.size
    by_cases hlt : k < n
    · have hget : cs[k]? = some (cs[k]'(by omega)) := List.getElem?_eq_getElem _
      obtain ⟨u, hu⟩ : ∃ u, u = cs[k]'(by omega) := ⟨_, rfl⟩
      rw [← hu] at hget
      have hus : l.signs[k]? = some u.s := by
        have h1 : (cs.map (·.s))[k]? = some u.s := by rw [List.getElem?_map, hget]; rfl
        rw [hm3] at h1
        have hkl : k < l.signs.length := by rw [Lm.length_signs, ← HN.out]; exact hlt
        have h2 := firstW_at tidyV k l.signs _ (List.getElem?_eq_getElem hkl)
        rw [h2] at h1
        rw [List.getElem?_eq_getElem hkl]
        exact h1
      have HUV := Lib.hid (HOKV.out.2.2.2 u.s (List.mem_of_getElem? hus))
      obtain ⟨A', c', e', hc1, hc1m, hA1, hA1n⟩ := own_slice ho3.own
      injection e' with e1 e2 e3
      subst e1 e3
      cases hA : A1 with
      | none => have := hA1n hA; omega
      | some ad =>
      obtain ⟨g, rfl, hg0, hg1, hcell⟩ := hA1 ad hA
      subst hA
      have hsm := sm_cells_at hcell hget
      have x4 := hsm.c4
      rw [Nat.zero_add] at x4
      have HUO := Lib.hid (ho3.ok u (List.mem_of_getElem? hget))
      have HGET := Lib.hid hget
      have HUS := Lib.hid hus
      have HCS := Lib.hid (And.intro hcl (And.intro hb3 (And.intro ho3 (And.intro hm3 ha3))))
      clear hu hget hus hsm hcell hA1 hA1n hcl hb3 ho3 hm3 ha3 hrl
      go_wp2_with fail
      refine (tidy_any u.A u.cap u.s.vals wr HUO.out.vals (by have := HUV.out.1; omega) HUV.out.2).mono ?_; rintro e w3 ⟨A2, c2, rfl, hv2, hl2, hc2, hb4, hfr⟩
      have X4 := Lib.hid ((hb4.cell (p := ⟨g, k * 5 + 4, none⟩) hg1).trans x4)
      have OW4 := Lib.hid (HCS.out.2.2.1.below hb4)
      have z4 := OW4.out.own.frozenAt (k * 5 + 4)
      have y4 := X4.out
      have hg3 : g < w3.heap.size := Nat.lt_of_lt_of_le hg1 hb4.size
      have B4 := Lib.hid (HCS.out.2.1.trans (hb4.mono HCS.out.2.1.size))
      have ST := Lib.hid (OW4.out.set HGET.out hv2 hl2 hc2 (fun _ b o e e2 => by have := hfr b o e; omega))
      have AP := Lib.hid (show ∀ m ∈ cs.set k (u.with (tidiedR [u.s.vals]) A2 c2), ApartG (w.heap.size + 1) m.A m.s.vals from fun m hm => by
        rcases List.mem_or_eq_of_mem_set hm with hm | rfl
        · exact HCS.out.2.2.2.2 m hm
        · exact fun _ b o e e2 => by have := hfr b o e; omega)
      clear hv2 hl2 hc2 hb4 hfr x4
      go_wp2_with fail
      go_roundw
      case rel => exact ⟨k + 1, by omega, by go_num, Lib.hid ⟨_, by rw [List.length_set]; exact HCS.out.1, B4.out.setCell (p := ⟨g, _, none⟩) hg0 _, ST.out, set_map HCS.out.2.2.2.1 HGET.out HUS.out _ rfl _ _, AP.out⟩⟩
      case measure => simp [intOf]; omega
    · obtain rfl : k = n := by omega
      have k1 := blk_keep hb3 K1.out
      have k2 := blk_keep hb3 K2.out
      have p0 := cell_of_blk k1 0
      have r0 := cell_of_blk k2 0
      have r1 := cell_of_blk k2 1
      have f0 := free_of_blk k2 0
      have f1 := free_of_blk k2 1
      simp at p0 r0 r1
      have hne : (Value.slice A1 cs.length c1).ownBlock ≠ some (w.heap.size + 1) := fun e => by have := (ho3.own.lt _ e).1; omega
      have HO := Lib.hid ((ho3.other hne ha3 0 (.int .i64 l.per)).other hne ha3 1 (.slice A1 k c1))
      have HM := Lib.hid (show cs.map (·.s) = l.signs.map (sgWith tidyV) by rw [hm3, HN.out, ← Lm.length_signs, firstW_all])
      have HCL := Lib.hid hcl
      have HB3 := Lib.hid (HW1.out.trans (hb3.mono HW1.out.size))
      clear hcl hb3 ho3 hm3 ha3 hrl k1 k2 hne
      go_wp2_with fail
      rw [HF.out]
      refine bodyPost_ret (v := .tuple #[.agg #[.int .i64 l.per, .slice A1 k c1], .int .i64 0]) (by simp [results, Tryz.results8, go_sem, r0, r1]) rfl ⟨⟨l.per, cs, A1, c1⟩, ?_, HO.out.lm _, ?_, ?_⟩
      · unfold Lm.val; dsimp only; rw [HCL.out]
      · unfold Lm.li Lm.signs; dsimp only; rw [HM.out]; rfl
      · exact (HB3.out.setCell (by dsimp only; omega) _).setCell (by dsimp only; omega) _

end Go.Proofs.YtleihhkacmgofaaGreatDoor
