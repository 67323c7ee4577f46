/-
  Contract of the specification's Tidy. And what builds on it.
-/
import Derived.Test.YtleihhkacmgofaaGreatDoorPq5
import Derived.Test.YtleihhkacmgofaaGreatDoorShelf
import Derived.Lib.SmallJoins

/- Contract of the specification's Tidy. -/
namespace Go.Proofs.YtleihhkacmgofaaGreatDoor
open Go.RowKit

theorem rcheck_is (l : Lm) (w : World) (hl : LmOk w l) (r : Int) (h : checkErr l.li = r) : Calls Tryz.prog 17 #[l.val] w fun e w' => e = .returned (.int .i64 r) ∧ Below w.heap.size w w' := by
  rw [← h]; exact rcheck_any l w hl
theorem SignsAt.one {w : World} {b o : Nat} {ms : List Sm} (h : SignsAt w (some ⟨b, o, none⟩) ms) {k : Nat} {m : Sm} (hk : ms[k]? = some m) : SignsAt w (some ⟨b, o + k * 5, none⟩) [m] := fun j x hj => by
  have hj0 : j = 0 := by have := (List.getElem?_eq_some_iff.1 hj).1; simpa using this
  subst hj0
  simp at hj; subst hj
  obtain ⟨b', o', e, hlt, hv, hok⟩ := h k m hk
  injection e with e; injection e with e1 e2
  subst e1 e2
  exact ⟨b, o + k * 5, rfl, hlt, by simpa using hv, hok⟩

theorem tidyV_sz {vs : List Va} (h : ∀ v ∈ vs, okV v) : ∀ v ∈ tidyV vs, v.text.size ≤ maxLen := fun v hv =>
  (runsR_ok (pointsR [vs]) (by
    have := foldV_ok vs [] h (fun x h => by cases h)
    exact this.1) v hv).2.2.2

set_option maxHeartbeats 3200000 in
set_option maxRecDepth 100000 in
theorem rtidy_any (l : Lm) (w : World) (hl : LmOk w l) :
    Calls Tryz.prog 10 #[l.val] w (GotListE w (tidyL l.li)) := by
  obtain ⟨W, hW⟩ : ∃ W, W = ((w.alloc (.cells #[.int .i64 l.per, .slice l.A l.ms.length l.cap] 24)).alloc (.cells #[.int .i64 0, .slice none 0 0] 24)) := ⟨_, rfl⟩
  have HB := Lib.hid (show Below w.heap.size w W from hW ▸ ((Below.refl _ _).alloc (Nat.le_refl _) _).alloc (by simp) _)
  have C1 := Lib.hid (show W.heap[w.heap.size]? = some (.cells #[.int .i64 l.per, .slice l.A l.ms.length l.cap] 24 (0, 0)) by
    rw [hW, heap_alloc_other _ _ _ (by simp)]; exact heap_alloc_new _ _)
  have C2 := Lib.hid (show W.heap[w.heap.size + 1]? = some (.cells #[.int .i64 0, .slice none 0 0] 24 (0, 0)) by
    rw [hW]; have := heap_alloc_new (w.alloc (.cells #[.int .i64 l.per, .slice l.A l.ms.length l.cap] 24)) (.cells #[.int .i64 0, .slice none 0 0] 24); simpa using this)
  have HS := Lib.hid (show W.heap.size = w.heap.size + 1 + 1 by rw [hW]; simp)
  have HL := Lib.hid (hl.below HB.out)
  have HL0 := Lib.hid hl
  have hlen := hl.len
  have hcap := hl.cap
  unfold maxLen at hcap
  clear hl
  obtain ⟨E, hE⟩ : ∃ E, E = checkErr l.li := ⟨_, rfl⟩
  have HE := Lib.hid hE.symm
  have HCK := Lib.hid (fun r (h : checkErr l.li = r) => show Calls Tryz.prog 17 #[.agg #[.int .i64 l.per, .slice l.A l.ms.length l.cap]] W _ from rcheck_is l W HL.out r h)
  show Calls _ _ #[.agg #[.int .i64 l.per, .slice l.A l.ms.length l.cap]] w _
  by_cases h0 : E = 0
  case neg =>
    have hb : (E != 0) = true := by simpa using h0
    have HF := Lib.hid (show tidyL l.li = (⟨0, []⟩, E) by unfold tidyL; rw [HE.out, if_pos h0])
    clear hE h0
    go_enter Tryz.func10, Tryz.ntmps10
    go_wp2_with fail
    rw [← hW]
    refine (HCK.out E HE.out).mono ?_; rintro e w1 ⟨rfl, hb1⟩
    have k2 := blk_keep hb1 C2.out
    have r0 := cell_of_blk k2 0
    have r1 := cell_of_blk k2 1
    have f0 := free_of_blk k2 0
    have f1 := free_of_blk k2 1
    simp at r0 r1
    have B1 := Lib.hid (HB.out.trans (hb1.mono HB.out.size))
    clear hb1 k2
    go_wp2_with fail
    rw [HF.out]
    refine bodyPost_ret (v := .tuple #[.agg #[.int .i64 0, .slice none 0 0], .int .i64 E]) (by simp [results, Tryz.results10, go_sem, r0, r1]) rfl ⟨⟨0, [], none, 0⟩, rfl, lm_none _, rfl, ?_⟩
    exact (B1.out.setCell (by dsimp only; omega) _).setCell (by dsimp only; omega) _
  subst h0
  clear hE
  have HOKV := Lib.hid (check_okV l.li HE.out)
  have HF := Lib.hid (show tidyL l.li = (⟨l.per, l.signs.map (sgWith tidyV)⟩, 0) by unfold tidyL; rw [HE.out, if_neg (by simp)]; rfl)
  have HNL := Lib.hid (show l.ms.length ≤ 200 by have := HOKV.out.1; rw [show l.li.signs = l.signs from rfl, Lm.length_signs] at this; exact this)
  have HCP := Lib.hid (fun wx (h : LmOk wx l) => show Calls Tryz.prog 9 #[.agg #[.int .i64 l.per, .slice l.A l.ms.length l.cap]] wx (GotListO wx l.li) from
    copyO_any l wx h (by have := HNL.out; omega) (fun m hm => by have := (HOKV.out.2.2.2 m.s (List.mem_map.2 ⟨m, hm, rfl⟩)).1; omega))
  go_enter Tryz.func10, Tryz.ntmps10
  go_wp2_with fail
  rw [← hW]
  refine (HCK.out 0 HE.out).mono ?_; rintro e w1 ⟨rfl, hb1⟩
  have K1 := Lib.hid (blk_keep hb1 C1.out)
  have x0 := cell_of_blk K1.out 0
  have x1 := cell_of_blk K1.out 1
  simp at x0 x1
  have HW1 := Lib.hid (HB.out.trans (hb1.mono HB.out.size))
  have K2 := Lib.hid (blk_keep hb1 C2.out)
  have HS1 := Lib.hid hb1.size
  clear hb1
  go_wp2_with fail
  refine (HCP.out w1 (HL0.out.below HW1.out)).mono ?_; rintro e w2 ⟨M, rfl, ho2, hli, hb2, hlow⟩
  obtain ⟨per2, ms2, A1, c1⟩ := M
  dsimp only at ho2 hlow
  have AP0 := Lib.hid (show ∀ m ∈ ms2, ApartG (w.heap.size + 1) m.A m.s.vals from fun m hm _ b o e e2 => by have := hlow m hm b o e; have := HS1.out; have := HS.out; omega)
  have OWN := Lib.hid ho2
  have B2 := Lib.hid hb2
  have hper : per2 = l.per := congrArg (fun l : Li => l.per) hli
  subst hper
  have HMS := Lib.hid (show ms2.map (·.s) = l.signs from congrArg (fun l : Li => l.signs) hli)
  clear ho2 hb2 hli hlow x0 x1
  unfold Lm.val
  dsimp only
  obtain ⟨n, hn⟩ : ∃ n, n = l.ms.length := ⟨_, rfl⟩
  have HN := Lib.hid hn
  have hn2 : ms2.length = n := by rw [hn, ← Lm.length_signs, ← HMS.out, List.length_map]
  have HN2 := Lib.hid hn2
  have hnl := HNL.out
  rw [← hn] at hlen hnl K1 ⊢
  rw [hn2]
  clear hn hn2
  go_wp2_with fail
  have BX := Lib.hid (heap_alloc_new w2 (.cells #[.int .i64 l.per, .slice A1 n c1] 24))
  have BWX := Lib.hid (below_alloc w2 (.cells #[.int .i64 l.per, .slice A1 n c1] 24))
  have HSZ := Lib.hid (show (w2.alloc (.cells #[.int .i64 l.per, .slice A1 n c1] 24)).heap.size = w2.heap.size + 1 by simp)
  have OWX := Lib.hid (OWN.out.below BWX.out)
  have B2X := Lib.hid (B2.out.trans (BWX.out.mono B2.out.size))
  generalize w2.alloc (.cells #[.int .i64 l.per, .slice A1 n c1] 24) = W3 at BX BWX HSZ OWX B2X ⊢
  go_loopw [6] (fun i wr => ∃ k : Nat, k ≤ n ∧ i = .int .i64 k ∧ Hid (∃ cs, cs.length = n ∧ Below w1.heap.size w1 wr ∧ OwnSigns wr w1.heap.size A1 c1 cs ∧ cs.map (·.s) = firstW tidyV k l.signs ∧ (∀ m ∈ cs, ApartG (w.heap.size + 1) m.A m.s.vals) ∧ wr.heap[w2.heap.size]? = some (.cells #[.int .i64 l.per, .slice A1 n c1] 24 (0, 0)))) (fun i _ => n - (intOf i).toNat)
  case atStart => exact ⟨0, Nat.zero_le _, rfl, Lib.hid ⟨ms2, HN2.out, B2X.out, OWX.out, by rw [HMS.out, firstW_zero], AP0.out, BX.out⟩⟩
  case round =>
    obtain ⟨k, hk, rfl, hrl⟩ := hrel
    obtain ⟨cs, hcl, hb3, ho3, hm3, ha3, hk3⟩ := hrl.out
    have hw1s := hb3.size
    have hws := HW1.out.size
    have hW1 := HS.out
    have hW2 := HS1.out
    have k1 := blk_keep hb3 K1.out
    have q1 := cell_of_blk k1 1
    have q3 := cell_of_blk hk3 1
    simp at q1 q3
    by_cases hlt : k < n
    · have hget : cs[k]? = some (cs[k]'(by omega)) := List.getElem?_eq_getElem _
      obtain ⟨u, hu⟩ : ∃ u, u = cs[k]'(by omega) := ⟨_, rfl⟩
      rw [← hu] at hget
      have hkl : k < l.ms.length := by rw [← HN.out]; exact hlt
      have hgl : l.ms[k]? = some l.ms[k] := List.getElem?_eq_getElem hkl
      obtain ⟨mo, hmo⟩ : ∃ m, m = l.ms[k] := ⟨_, rfl⟩
      rw [← hmo] at hgl
      have hsl : l.signs[k]? = some mo.s := Lm.getElem_signs hgl
      have hus : u.s = mo.s := by
        have h1 : (cs.map (·.s))[k]? = some u.s := by rw [List.getElem?_map, hget]; rfl
        rw [hm3, firstW_at tidyV k l.signs _ hsl] at h1
        injection h1 with h1; exact h1.symm
      have HUV := Lib.hid (HOKV.out.2.2.2 mo.s (List.mem_of_getElem? hsl))
      obtain ⟨A', c', e', hc1, hc1m, hA1, hA1n⟩ := own_slice ho3.own
      injection e' with e1 e2 e3
      subst e1 e3
      cases hA : A1 with
      | none => have := hA1n hA; omega
      | some ad =>
      obtain ⟨g, rfl, hg0, hg1, hcell⟩ := hA1 ad hA
      subst hA
      have x4 := (sm_cells_at hcell hget).c4
      rw [Nat.zero_add] at x4
      obtain ⟨b, o, hlA, hb0, hva, hok⟩ := HL0.out.signs k mo hgl
      have HSA := Lib.hid (show SignsAt w (some ⟨b, o, none⟩) l.ms by rw [← hlA]; exact HL0.out.signs)
      have HGL := Lib.hid hgl
      have HGET := Lib.hid hget
      have HUS := Lib.hid (show l.signs[k]? = some u.s by rw [hus]; exact hsl)
      have HUM := Lib.hid hus
      have HCS := Lib.hid (And.intro hcl (And.intro hb3 (And.intro ho3 (And.intro hm3 (And.intro ha3 hk3)))))
      have HWR := Lib.hid (HW1.out.trans (hb3.mono HW1.out.size))
      have HTD := Lib.hid (fun wx (h : Below wr.heap.size wr wx) => show Calls Tryz.prog 25 #[.slice (some ⟨b, o + k * 5, none⟩) 1 (l.cap - k)] wx (GotRow wx 42 4 (tidyV mo.s.vals).length ((tidyV mo.s.vals).flatMap Va.cells)) from
        tidied_any (some ⟨b, o + k * 5, none⟩) (l.cap - k) [mo] wx ((HSA.out.one HGL.out).below (HWR.out.trans (h.mono (by have := HWR.out.size; omega)))) (by simp; omega) (by unfold maxLen; omega) (by simp) (fun m hm => by simp at hm; subst hm; exact ⟨by have := HUV.out.1; omega, HUV.out.2⟩))
      rw [hlA] at q1
      have hkc : k < l.cap := by omega
      have hk1c : k + 1 ≤ l.cap := by omega
      clear hu hget hus hcell hA1 hA1n hcl hb3 ho3 hm3 ha3 hk3 hrl hgl hsl hmo hva hok k1 hlA
      go_wp2_with fail
      have HG2 := Lib.hid (show w2.heap.size ≠ g from fun e => by
        have h1 := HCS.out.2.2.2.2.2
        rcases HCS.out.2.2.1.own.2 with ⟨h, _⟩ | ⟨g', cap', cur, h, _, hg', _⟩
        · cases h
        · injection h with h _ _; injection h with h; injection h with h _
          subst h
          rw [← e, h1] at hg'
          injection hg' with hg'
          injection hg' with _ hg' _
          exact absurd hg' (by decide))
      have HK := Lib.hid (fun w' (hb : Below wr.heap.size wr w') => show w'.cell? ⟨w.heap.size, 1, none⟩ = some (.slice (some ⟨b, o, none⟩) n l.cap) ∧ w'.cell? ⟨w2.heap.size, 1, none⟩ = some (.slice (some ⟨g, 0, none⟩) n c1) from
        ⟨(hb.cell (p := ⟨w.heap.size, 1, none⟩) (by dsimp only; omega)).trans q1, (hb.cell (p := ⟨w2.heap.size, 1, none⟩) (Array.getElem?_eq_some_iff.1 HCS.out.2.2.2.2.2).1).trans q3⟩)
      have HDR := Lib.hid (show Below wr.heap.size wr wr.drew from (Below.refl _ _).drew)
      have HKS := Lib.hid (fun (wx : World) (p : Nat) (u : Value) (h : wx.cell? ⟨w.heap.size, 1, none⟩ = some (.slice (some ⟨b, o, none⟩) n l.cap) ∧ wx.cell? ⟨w2.heap.size, 1, none⟩ = some (.slice (some ⟨g, 0, none⟩) n c1)) => show (fun (w' : World) => w'.cell? ⟨w.heap.size, 1, none⟩ = some (.slice (some ⟨b, o, none⟩) n l.cap) ∧ w'.cell? ⟨w2.heap.size, 1, none⟩ = some (.slice (some ⟨g, 0, none⟩) n c1)) (wx.setCell ⟨g, p, none⟩ u) from
        ⟨(World.cell?_of_block (a := ⟨w.heap.size, 1, none⟩) (heap_setCell_other _ _ _ _ (by dsimp only; omega))).trans h.1, (World.cell?_of_block (a := ⟨w2.heap.size, 1, none⟩) (heap_setCell_other _ _ _ _ HG2.out)).trans h.2⟩)
      have HY := Lib.hid (fun w' (hb : Below wr.heap.size wr w') => show w'.cell? ⟨g, k * 5 + 4, none⟩ = some (.slice u.A u.s.vals.length u.cap) ∧ w'.frozen? ⟨g, k * 5 + 4, none⟩ = false from
        ⟨(hb.cell (p := ⟨g, _, none⟩) hg1).trans x4, (hb.frozen (p := ⟨g, _, none⟩) hg1).trans (HCS.out.2.2.1.own.frozenAt _)⟩)
      have s1 : IntKind.i64.wrap ((k : Int) + 1) = (k : Int) + 1 := IntWalk.i64_in _ (by omega)
      have s2 : ((k : Int) + 1).toNat = k + 1 := by omega
      have s3 : (0 : Int) ≤ (k : Int) + 1 := by omega
      have s4 : (k : Int) ≤ (k : Int) + 1 := by omega
      have s5 : (k : Int) + 1 ≤ (l.cap : Int) := by omega
      have s6 : (k : Int) < (n : Int) := by omega
      have s7 : (l.cap = k) = False := by simp; omega
      clear x4 q1 q3
      go_region_held3 (fun w' => w'.cell? ⟨w.heap.size, 1, none⟩ = some (.slice (some ⟨b, o, none⟩) n l.cap) ∧ w'.cell? ⟨w2.heap.size, 1, none⟩ = some (.slice (some ⟨g, 0, none⟩) n c1))
        (first | (refine HK.out _ ?_; first | assumption | exact HDR.out) | (refine HKS.out _ _ _ ?_; refine HK.out _ ?_; assumption))
        (first
          | (go_at_call 25; refine (HTD.out _ HDR.out).mono ?_; rintro e w4 ⟨A2, c2, rfl, own4, hb4⟩; have hbw4 := below_more HDR.out hb4; obtain ⟨y4, z4⟩ := HY.out w4 hbw4))
      obtain ⟨hv2, hl2, hc2, hfr⟩ := own_vals own4 (tidyV_sz HUV.out.2)
      have B4 := Lib.hid (HCS.out.2.1.trans (hbw4.mono HCS.out.2.1.size))
      have ST := Lib.hid ((HCS.out.2.2.1.below hbw4).set HGET.out hv2 hl2 hc2 (fun _ b o e e2 => by have h1 := hfr b o e; have h2 : wr.heap.size ≤ wr.drew.heap.size := Nat.le_refl _; omega))
      have AP := Lib.hid (show ∀ m ∈ cs.set k (u.with (tidyV mo.s.vals) A2 c2), ApartG (w.heap.size + 1) m.A m.s.vals from fun m hm => by
        rcases List.mem_or_eq_of_mem_set hm with hm | rfl
        · exact HCS.out.2.2.2.2.1 m hm
        · exact fun _ b o e e2 => by have h1 := hfr b o e; have h2 : wr.heap.size ≤ wr.drew.heap.size := Nat.le_refl _; omega)
      have KB := Lib.hid (show (w4.setCell ⟨g, k * 5 + 4, none⟩ (.slice A2 (tidyV mo.s.vals).length c2)).heap[w2.heap.size]? = some (.cells #[.int .i64 l.per, .slice (some ⟨g, 0, none⟩) n c1] 24 (0, 0)) by
        rw [heap_setCell_other _ _ _ _ HG2.out]; exact blk_keep hbw4 HCS.out.2.2.2.2.2)
      clear hv2 hl2 hc2 hfr own4 hb4 hbw4 y4 z4 HK HKS HDR HY HTD
      go_wp2_with fail
      go_roundw
      case rel => exact ⟨k + 1, by omega, by go_num, Lib.hid ⟨_, by rw [List.length_set]; exact HCS.out.1, B4.out.setCell (p := ⟨g, _, none⟩) hg0 _, ST.out, set_map HCS.out.2.2.2.1 HGET.out HUS.out _ (by rw [HUM.out]) _ _, AP.out, KB.out⟩⟩
      case measure => simp [intOf]; omega
    · obtain rfl : k = n := by omega
      have k2 := blk_keep hb3 K2.out
      have p0 := cell_of_blk hk3 0
      have r0 := cell_of_blk k2 0
      have r1 := cell_of_blk k2 1
      have f0 := free_of_blk k2 0
      have f1 := free_of_blk k2 1
      simp at p0 r0 r1
      have hne : (Value.slice A1 cs.length c1).ownBlock ≠ some (w.heap.size + 1) := fun e => by have := (ho3.own.lt _ e).1; omega
      have HO := Lib.hid ((ho3.other hne ha3 0 (.int .i64 l.per)).other hne ha3 1 (.slice A1 k c1))
      have HM := Lib.hid (show cs.map (·.s) = l.signs.map (sgWith tidyV) by rw [hm3, HN.out, ← Lm.length_signs, firstW_all])
      have HCL := Lib.hid hcl
      have HB3 := Lib.hid (HW1.out.trans (hb3.mono HW1.out.size))
      clear hcl hb3 ho3 hm3 ha3 hrl k1 k2 hne hk3
      go_wp2_with fail
      rw [HF.out]
      refine bodyPost_ret (v := .tuple #[.agg #[.int .i64 l.per, .slice A1 k c1], .int .i64 0]) (by simp [results, Tryz.results10, go_sem, r0, r1]) rfl ⟨⟨l.per, cs, A1, c1⟩, ?_, HO.out.lm _, ?_, ?_⟩
      · unfold Lm.val; dsimp only; rw [HCL.out]
      · unfold Lm.li Lm.signs; dsimp only; rw [HM.out]; rfl
      · exact (HB3.out.setCell (by dsimp only; omega) _).setCell (by dsimp only; omega) _

end Go.Proofs.YtleihhkacmgofaaGreatDoor

/- Contract of Restrict, in the program. -/
namespace Go.Proofs.YtleihhkacmgofaaGreatDoor
open Go.RowKit

/-- a value in the one period -/
def oneP (v : Va) : Va := ⟨v.kind, v.text, 1, 1⟩
def restrV (p : Int) (vs : List Va) : List Va := (usedV vs p).map oneP
def restrL (l : Li) (p : Int) : Li × Int := if checkErr l ≠ 0 then (⟨0, []⟩, checkErr l) else if withinB p l.per = false then (⟨0, []⟩, 13) else (⟨1, l.signs.map (sgWith (restrV p))⟩, 0)
/-- the first values changed -/
def mixV (V : List Va) (j : Nat) : List Va := (V.take j).map oneP ++ V.drop j
theorem mixV_len (V : List Va) (j : Nat) : (mixV V j).length = V.length := by unfold mixV; simp; omega
theorem mixV_at (V : List Va) (j : Nat) (v : Va) (h : V[j]? = some v) : (mixV V j)[j]? = some v := by
  unfold mixV
  obtain ⟨hk, e⟩ := List.getElem?_eq_some_iff.1 h
  rw [List.getElem?_append_right (by simp; omega)]
  simp
  rw [show j + (j - min j V.length) = j by omega]
  exact h
theorem mixV_set (V : List Va) (j : Nat) (v : Va) (h : V[j]? = some v) : ((mixV V j).set j ⟨v.kind, v.text, 1, v.to⟩).set j ⟨v.kind, v.text, 1, 1⟩ = mixV V (j + 1) := by
  obtain ⟨hk, e⟩ := List.getElem?_eq_some_iff.1 h
  rw [List.set_set]
  unfold mixV
  rw [List.set_append_right _ _ (by simp; omega), List.take_succ_eq_append_getElem hk, List.drop_eq_getElem_cons hk, List.map_append]
  have hm : j - (List.map oneP (List.take j V)).length = 0 := by simp; omega
  rw [hm]
  simp [e, oneP]
theorem mixV_zero (V : List Va) : mixV V 0 = V := by simp [mixV]
theorem mixV_all (V : List Va) : mixV V V.length = V.map oneP := by simp [mixV]
theorem within_ok (n m : Int) (w : World) (r : Bool) (h : withinB n m = r) : Calls Tryz.prog 26 #[.int .i64 n, .int .i64 m] w fun e w' => e = .returned (.bool r) ∧ w = w' := by
  rw [← h]; exact within_any n m w

set_option maxHeartbeats 3200000 in
set_option maxRecDepth 100000 in
theorem prestrict_any (l : Lm) (p : Int) (w : World) (hl : LmOk w l) :
    Calls Tryz.prog 11 #[l.val, .int .i64 p] w (GotListE w (restrL l.li p)) := by
  obtain ⟨W, hW⟩ : ∃ W, W = ((w.alloc (.cells #[.int .i64 l.per, .slice l.A l.ms.length l.cap] 24)).alloc (.cells #[.int .i64 0, .slice none 0 0] 24)) := ⟨_, rfl⟩
  have HB := Lib.hid (show Below w.heap.size w W from hW ▸ ((Below.refl _ _).alloc (Nat.le_refl _) _).alloc (by simp) _)
  have C1 := Lib.hid (show W.heap[w.heap.size]? = some (.cells #[.int .i64 l.per, .slice l.A l.ms.length l.cap] 24 (0, 0)) by
    rw [hW, heap_alloc_other _ _ _ (by simp)]; exact heap_alloc_new _ _)
  have C2 := Lib.hid (show W.heap[w.heap.size + 1]? = some (.cells #[.int .i64 0, .slice none 0 0] 24 (0, 0)) by
    rw [hW]; have := heap_alloc_new (w.alloc (.cells #[.int .i64 l.per, .slice l.A l.ms.length l.cap] 24)) (.cells #[.int .i64 0, .slice none 0 0] 24); simpa using this)
  have HS := Lib.hid (show W.heap.size = w.heap.size + 1 + 1 by rw [hW]; simp)
  have HL := Lib.hid (hl.below HB.out)
  have HL0 := Lib.hid hl
  have hlen := hl.len
  have hcap := hl.cap
  unfold maxLen at hcap
  clear hl
  obtain ⟨E, hE⟩ : ∃ E, E = checkErr l.li := ⟨_, rfl⟩
  have HE := Lib.hid hE.symm
  have HCK := Lib.hid (fun r (h : checkErr l.li = r) => show Calls Tryz.prog 22 #[.agg #[.int .i64 l.per, .slice l.A l.ms.length l.cap]] W _ from pcheck_is l W HL.out r h)
  show Calls _ _ #[.agg #[.int .i64 l.per, .slice l.A l.ms.length l.cap], .int .i64 p] w _
  by_cases h0 : E = 0
  case neg =>
    have hb : (E != 0) = true := by simpa using h0
    have HF := Lib.hid (show restrL l.li p = (⟨0, []⟩, E) by unfold restrL; rw [HE.out, if_pos h0])
    clear hE h0
    go_enter Tryz.func11, Tryz.ntmps11
    go_wp2_with fail
    rw [← hW]
    refine (HCK.out E HE.out).mono ?_; rintro e w1 ⟨rfl, hb1⟩
    have k2 := blk_keep hb1 C2.out
    have r0 := cell_of_blk k2 0
    have r1 := cell_of_blk k2 1
    have f0 := free_of_blk k2 0
    have f1 := free_of_blk k2 1
    simp at r0 r1
    have B1 := Lib.hid (HB.out.trans (hb1.mono HB.out.size))
    clear hb1 k2
    go_wp2_with fail
    rw [HF.out]
    refine bodyPost_ret (v := .tuple #[.agg #[.int .i64 0, .slice none 0 0], .int .i64 E]) (by simp [results, Tryz.results11, go_sem, r0, r1]) rfl ⟨⟨0, [], none, 0⟩, rfl, lm_none _, rfl, ?_⟩
    exact (B1.out.setCell (by dsimp only; omega) _).setCell (by dsimp only; omega) _
  subst h0
  clear hE
  by_cases hp : withinB p l.per = true
  case neg =>
    have hp : withinB p l.per = false := by simpa using hp
    have HF := Lib.hid (show restrL l.li p = (⟨0, []⟩, 13) by unfold restrL; rw [HE.out, if_neg (by simp), if_pos (show withinB p l.li.per = false from hp)])
    go_enter Tryz.func11, Tryz.ntmps11
    go_wp2_with fail
    rw [← hW]
    refine (HCK.out 0 HE.out).mono ?_; rintro e w1 ⟨rfl, hb1⟩
    have k2 := blk_keep hb1 C2.out
    have k1 := blk_keep hb1 C1.out
    have x0 := cell_of_blk k1 0
    have r0 := cell_of_blk k2 0
    have r1 := cell_of_blk k2 1
    have f0 := free_of_blk k2 0
    have f1 := free_of_blk k2 1
    simp at r0 r1 x0
    have B1 := Lib.hid (HB.out.trans (hb1.mono HB.out.size))
    clear hb1 k2 k1
    go_wp2_with (first | (go_at_call 26; refine (within_ok _ _ _ false hp).mono ?_; rintro e w' ⟨rfl, rfl⟩))
    rw [HF.out]
    refine bodyPost_ret (v := .tuple #[.agg #[.int .i64 0, .slice none 0 0], .int .i64 13]) (by simp [results, Tryz.results11, go_sem, r0, r1]) rfl ⟨⟨0, [], none, 0⟩, rfl, lm_none _, rfl, ?_⟩
    exact (B1.out.setCell (by dsimp only; omega) _).setCell (by dsimp only; omega) _
  have HOKV := Lib.hid (check_okV l.li HE.out)
  have HF := Lib.hid (show restrL l.li p = (⟨1, l.signs.map (sgWith (restrV p))⟩, 0) by unfold restrL; rw [HE.out, if_neg (by simp), if_neg (by rw [show l.li.per = l.per from rfl, hp]; simp)]; rfl)
  have HNL := Lib.hid (show l.ms.length ≤ 200 by have := HOKV.out.1; rw [show l.li.signs = l.signs from rfl, Lm.length_signs] at this; exact this)
  go_enter Tryz.func11, Tryz.ntmps11
  go_wp2_with fail
  rw [← hW]
  refine (HCK.out 0 HE.out).mono ?_; rintro e w1 ⟨rfl, hb1⟩
  have B1 := Lib.hid hb1
  have K2 := Lib.hid (blk_keep hb1 C2.out)
  have x0 := cell_of_blk (blk_keep hb1 C1.out) 0
  have x1 := cell_of_blk (blk_keep hb1 C1.out) 1
  simp at x0 x1
  have HW1 := Lib.hid (HB.out.trans (hb1.mono HB.out.size))
  clear hb1
  go_wp2_with (first | (go_at_call 26; refine (within_ok _ _ _ true hp).mono ?_; rintro e w' ⟨rfl, rfl⟩) | (go_at_call 23; refine (cloneG_any l.A l.cap l.ms w1 (HL0.out.signs.below HW1.out) (by have := HNL.out; omega)).mono ?_; rintro e w2 ⟨A1, c1, rfl, own1, hb2⟩))
  have OWN := Lib.hid (OwnSigns.cloned own1 (signs_oks HL0.out.signs) (HW1.out.trans (hb2.mono HW1.out.size)) HW1.out.size)
  have AP0 := Lib.hid (show ∀ m ∈ l.ms, ApartG (w.heap.size + 1) m.A m.s.vals from fun m hm => apart_old (signs_oks HL0.out.signs m hm) (by omega))
  have B2 := Lib.hid hb2
  clear own1 hb2 x0 x1 hp
  have hnl := HNL.out
  obtain ⟨n, hn⟩ : ∃ n, n = l.ms.length := ⟨_, rfl⟩
  have HN := Lib.hid hn
  rw [← hn] at hlen hnl ⊢
  clear hn
  go_wp2_with fail
  go_loopw [27] (fun i wr => ∃ k : Nat, k ≤ n ∧ i = .int .i64 k ∧ Hid (∃ cs, cs.length = n ∧ Below w1.heap.size w1 wr ∧ OwnSigns wr w1.heap.size A1 c1 cs ∧ cs.map (·.s) = firstW (restrV p) k l.signs ∧ ∀ m ∈ cs, ApartG (w.heap.size + 1) m.A m.s.vals)) (fun i _ => n - (intOf i).toNat)
  case atStart => exact ⟨0, Nat.zero_le _, rfl, Lib.hid ⟨l.ms, HN.out.symm, B2.out, OWN.out, (firstW_zero _ _).symm, AP0.out⟩⟩
  case round =>
    obtain ⟨k, hk, rfl, hrl⟩ := hrel
    obtain ⟨cs, hcl, hb3, ho3, hm3, ha3⟩ := hrl.out
    have hw1s := hb3.size
    have hws := HW1.out.size
    have hW1 := HS.out
    have hW2 := B1.out.size
    by_cases hlt : k < n
    · have hget : cs[k]? = some (cs[k]'(by omega)) := List.getElem?_eq_getElem _
      obtain ⟨u, hu⟩ : ∃ u, u = cs[k]'(by omega) := ⟨_, rfl⟩
      rw [← hu] at hget
      have hus : l.signs[k]? = some u.s := by
        have h1 : (cs.map (·.s))[k]? = some u.s := by rw [List.getElem?_map, hget]; rfl
        rw [hm3] at h1
        have hkl : k < l.signs.length := by rw [Lm.length_signs, ← HN.out]; exact hlt
        have h2 := firstW_at (restrV p) k l.signs _ (List.getElem?_eq_getElem hkl)
        rw [h2] at h1
        rw [List.getElem?_eq_getElem hkl]
        exact h1
      have HUV := Lib.hid (HOKV.out.2.2.2 u.s (List.mem_of_getElem? hus))
      obtain ⟨A', c', e', hc1, hc1m, hA1, hA1n⟩ := own_slice ho3.own
      injection e' with e1 e2 e3
      subst e1 e3
      cases hA : A1 with
      | none => have := hA1n hA; omega
      | some ad =>
      obtain ⟨g, rfl, hg0, hg1, hcell⟩ := hA1 ad hA
      subst hA
      have hsm := sm_cells_at hcell hget
      have x4 := hsm.c4
      rw [Nat.zero_add] at x4
      have HUO := Lib.hid (ho3.ok u (List.mem_of_getElem? hget))
      have HGET := Lib.hid hget
      have HUS := Lib.hid hus
      have HCS := Lib.hid (And.intro hcl (And.intro hb3 (And.intro ho3 (And.intro hm3 ha3))))
      clear hu hget hus hsm hcell hA1 hA1n hcl hb3 ho3 hm3 ha3 hrl
      obtain ⟨V, hV⟩ : ∃ V, V = usedV u.s.vals p := ⟨_, rfl⟩
      have HV := Lib.hid hV
      have HVL := Lib.hid (show V.length ≤ 12 by have := HUV.out.1; rw [hV]; exact Nat.le_trans (List.length_filter_le _ _) this)
      have HVI := Lib.hid (valuesInR_any u.A u.cap u.s.vals p wr HUO.out.vals HUO.out.len HUO.out.cap (by have := HUV.out.1; omega))
      rw [← hV] at HVI
      clear hV
      obtain ⟨q, hq⟩ : ∃ q, q = V.length := ⟨_, rfl⟩
      have HQ := Lib.hid hq
      have hq12 : q ≤ 12 := by have := HVL.out; omega
      rw [← hq] at HVI
      clear hq
      go_wp2_with fail
      refine HVI.out.mono ?_; rintro e w3 ⟨A2, c2, rfl, own2, hb4⟩
      have OV := Lib.hid (show OwnVals w3 wr.heap.size A2 c2 V from ⟨by rw [← HQ.out]; exact own2, by rw [HV.out]; exact used_sizes HUO.out.vals p⟩)
      have X4 := Lib.hid ((hb4.cell (p := ⟨g, k * 5 + 4, none⟩) hg1).trans x4)
      have OW4 := Lib.hid (HCS.out.2.2.1.below hb4)
      have z4 := OW4.out.own.frozenAt (k * 5 + 4)
      have y4 := X4.out
      have hg3 : g < w3.heap.size := Nat.lt_of_lt_of_le hg1 hb4.size
      have B4 := Lib.hid (HCS.out.2.1.trans (hb4.mono HCS.out.2.1.size))
      have ST := Lib.hid (OW4.out.set HGET.out OV.out.vals.1 OV.out.vals.2.1 OV.out.vals.2.2.1 (fun _ b o e e2 => by have := OV.out.vals.2.2.2 b o e; omega))
      have OV5 := Lib.hid (show OwnVals (w3.setCell ⟨g, k * 5 + 4, none⟩ (.slice A2 q c2)) wr.heap.size A2 c2 V from
        ⟨ownsRow_of_block OV.out.own (fun g' hg' => heap_setCell_other _ _ _ _ (by have := (OV.out.own.lt g' hg').1; dsimp only; omega)), OV.out.sz⟩)
      have HAP := Lib.hid (fun g2 (h : wr.heap.size ≤ g2) => show ∀ m ∈ cs, ApartG g2 m.A m.s.vals from fun m hm => apart_old (HCS.out.2.2.1.ok m hm) h)
      have B5 := Lib.hid (B4.out.setCell (p := ⟨g, k * 5 + 4, none⟩) hg0 (.slice A2 q c2))
      rw [← HQ.out] at ST
      have HS5 := Lib.hid (show wr.heap.size ≤ (w3.setCell ⟨g, k * 5 + 4, none⟩ (.slice A2 q c2)).heap.size by have := hb4.size; simpa using this)
      have HC5 := Lib.hid (show (w3.setCell ⟨g, k * 5 + 4, none⟩ (.slice A2 q c2)).cell? ⟨g, k * 5 + 4, none⟩ = some (.slice A2 q c2) from World.cell?_setCell_same' _ _ _ (by rw [y4]; rfl))
      clear own2 hb4 x4
      go_wp2_with fail
      generalize w3.setCell ⟨g, k * 5 + 4, none⟩ (.slice A2 q c2) = W5 at ST OV5 B5 HS5 HC5 ⊢
      have hB2g := HS.out
      obtain ⟨wo, rfl⟩ : ∃ wo : World, wo = wr := ⟨_, rfl⟩
      go_loopw [47] (fun i wr => ∃ j : Nat, j ≤ q ∧ i = .int .i64 j ∧ Hid (Below w1.heap.size w1 wr ∧ wo.heap.size ≤ wr.heap.size ∧ OwnSigns wr w1.heap.size (some ⟨g, 0, none⟩) c1 (cs.set k (u.with (mixV V j) A2 c2)) ∧ OwnVals wr wo.heap.size A2 c2 (mixV V j))) (fun i _ => q - (intOf i).toNat)
      case atStart => exact ⟨0, Nat.zero_le _, rfl, Lib.hid ⟨B5.out, HS5.out, by rw [mixV_zero]; exact ST.out, by rw [mixV_zero]; exact OV5.out⟩⟩
      case round =>
        obtain ⟨j, hj, rfl, hin⟩ := hrel
        have hsz := hin.out.2.1
        have HX4 := Lib.hid (show wr.cell? ⟨g, k * 5 + 4, none⟩ = some (.slice A2 q c2) by
          obtain ⟨A', c', e', _, _, hA1, _⟩ := own_slice hin.out.2.2.1.own
          injection e' with e1 e2 e3
          obtain ⟨g', e4, _, _, hcell⟩ := hA1 ⟨g, 0, none⟩ e1.symm
          injection e4 with e4 _
          have h1 := (sm_cells_at hcell (k := k) (m := u.with (mixV V j) A2 c2) (by rw [List.getElem?_set_self (by rw [HCS.out.1]; exact hlt)])).c4
          rw [← e4, Nat.zero_add] at h1
          rw [h1]
          show some (Value.slice A2 (mixV V j).length c2) = _
          rw [mixV_len, ← HQ.out])
        have x4 := HX4.out
        by_cases hlj : j < q
        · have hgj : V[j]? = some (V[j]'(by have := HQ.out; omega)) := List.getElem?_eq_getElem _
          obtain ⟨v, hv⟩ : ∃ v, v = V[j]'(by have := HQ.out; omega) := ⟨_, rfl⟩
          rw [← hv] at hgj
          obtain ⟨A', c', e', hc2a, hc2m, hA2, hA2n⟩ := own_slice hin.out.2.2.2.own
          injection e' with e1 e2 e3
          subst e1 e3
          cases hA : A2 with
          | none => have := hA2n hA; have h9 := mixV_len V j; have := HQ.out; omega
          | some ad =>
          obtain ⟨g2, rfl, hh0, hh1, hcell2⟩ := hA2 ad hA
          subst hA
          have hva := (hin.out.2.2.2.vals.1 j v (mixV_at V j v hgj))
          obtain ⟨b', o', e5, hlt5, hva⟩ := hva
          injection e5 with e5; injection e5 with e5 e6
          subst e5 e6
          have v2 := hva.c2
          have v3 := hva.c3
          rw [Nat.zero_add] at v2 v3
          have f2 := hin.out.2.2.2.own.frozenAt (j * 4 + 2)
          have f3 := hin.out.2.2.2.own.frozenAt (j * 4 + 3)
          have hgg : g ≠ g2 := by omega
          have hgg' : g2 ≠ g := by omega
          have hg5 : g < wr.heap.size := by omega
          have hc2b : q ≤ c2 := by rw [mixV_len, ← HQ.out] at hc2a; exact hc2a
          unfold maxLen at hc2m
          have hkj : k < cs.length := by rw [HCS.out.1]; exact hlt
          have OV6 := Lib.hid (hin.out.2.2.2.fr (mixV_at V j v hgj) 1)
          have OV7 := Lib.hid (OV6.out.to (j := j) (v := ⟨v.kind, v.text, 1, v.to⟩) (by rw [List.getElem?_set_self (by rw [mixV_len]; have := HQ.out; omega)]) 1)
          have HM := Lib.hid (mixV_set V j v hgj)
          have hv7 := OV7.out
          rw [HM.out] at hv7
          have OS7 := Lib.hid (OwnSigns.vals_turned (w' := (wr.setCell ⟨g2, j * 4 + 2, none⟩ (.int .i64 1)).setCell ⟨g2, j * 4 + 3, none⟩ (.int .i64 1)) (g2 := g2) (V' := mixV V (j + 1)) hin.out.2.2.1 hkj (HAP.out g2 hh0) (by intro e; injection e with e; exact hgg e) (by simp) (fun b hb hne => by
            rw [heap_setCell_other _ _ _ _ hne, heap_setCell_other _ _ _ _ hne]) (by rw [mixV_len, mixV_len]) hv7.vals.1 (fun _ b o e => by injection e with e; injection e with e _; exact e.symm))
          have OV8 := Lib.hid hv7
          have B6 := Lib.hid ((hin.out.1.setCell (p := ⟨g2, j * 4 + 2, none⟩) (by dsimp only; omega) (.int .i64 1)).setCell (p := ⟨g2, j * 4 + 3, none⟩) (by dsimp only; omega) (.int .i64 1))
          clear hv hgj hA2 hA2n hcell2 hva hlt5 hv7 hc2a
          go_wp2_with fail
          go_roundw
          case rel => exact ⟨j + 1, by omega, by go_num, Lib.hid ⟨B6.out, by simpa using hsz, OS7.out, OV8.out⟩⟩
          case measure => simp [intOf]; omega
        · obtain rfl : j = q := by omega
          have hkj : k < cs.length := by rw [HCS.out.1]; exact hlt
          have HRV := Lib.hid (show mixV V j = restrV p u.s.vals by rw [HQ.out, mixV_all, HV.out]; rfl)
          have OS := Lib.hid (show OwnSigns wr w1.heap.size (some ⟨g, 0, none⟩) c1 (cs.set k (u.with (restrV p u.s.vals) A2 c2)) by rw [← HRV.out]; exact hin.out.2.2.1)
          have AP := Lib.hid (show ∀ m ∈ cs.set k (u.with (restrV p u.s.vals) A2 c2), ApartG (w.heap.size + 1) m.A m.s.vals from fun m hm => by
            rcases List.mem_or_eq_of_mem_set hm with hm | rfl
            · exact HCS.out.2.2.2.2 m hm
            · exact fun _ b o e e2 => by have h1 := hin.out.2.2.2.vals.2.2.2 b o e; omega)
          go_wp2_with fail
          go_roundw
          case rel => exact ⟨k + 1, by omega, by go_num, Lib.hid ⟨_, by rw [List.length_set]; exact HCS.out.1, hin.out.1, OS.out, set_map HCS.out.2.2.2.1 HGET.out HUS.out _ rfl _ _, AP.out⟩⟩
          case measure => simp [intOf]; omega
    · obtain rfl : k = n := by omega
      have k2 := blk_keep hb3 K2.out
      have r0 := cell_of_blk k2 0
      have r1 := cell_of_blk k2 1
      have f0 := free_of_blk k2 0
      have f1 := free_of_blk k2 1
      simp at r0 r1
      have hne : (Value.slice A1 cs.length c1).ownBlock ≠ some (w.heap.size + 1) := fun e => by have := (ho3.own.lt _ e).1; omega
      have HO := Lib.hid ((ho3.other hne ha3 0 (.int .i64 1)).other hne ha3 1 (.slice A1 k c1))
      have HM := Lib.hid (show cs.map (·.s) = l.signs.map (sgWith (restrV p)) by rw [hm3, HN.out, ← Lm.length_signs, firstW_all])
      have HCL := Lib.hid hcl
      have HB3 := Lib.hid (HW1.out.trans (hb3.mono HW1.out.size))
      clear hcl hb3 ho3 hm3 ha3 hrl k2 hne
      go_wp2_with fail
      rw [HF.out]
      refine bodyPost_ret (v := .tuple #[.agg #[.int .i64 1, .slice A1 k c1], .int .i64 0]) (by simp [results, Tryz.results11, go_sem, r0, r1]) rfl ⟨⟨1, cs, A1, c1⟩, ?_, HO.out.lm _, ?_, ?_⟩
      · unfold Lm.val; dsimp only; rw [HCL.out]
      · unfold Lm.li Lm.signs; dsimp only; rw [HM.out]; rfl
      · exact (HB3.out.setCell (by dsimp only; omega) _).setCell (by dsimp only; omega) _

end Go.Proofs.YtleihhkacmgofaaGreatDoor

/- Contract of the specification's Restrict. -/
namespace Go.Proofs.YtleihhkacmgofaaGreatDoor
open Go.RowKit

set_option maxHeartbeats 3200000 in
set_option maxRecDepth 100000 in
theorem rrestrict_any (l : Lm) (p : Int) (w : World) (hl : LmOk w l) :
    Calls Tryz.prog 12 #[l.val, .int .i64 p] w (GotListE w (restrL l.li p)) := by
  obtain ⟨W, hW⟩ : ∃ W, W = ((w.alloc (.cells #[.int .i64 l.per, .slice l.A l.ms.length l.cap] 24)).alloc (.cells #[.int .i64 0, .slice none 0 0] 24)) := ⟨_, rfl⟩
  have HB := Lib.hid (show Below w.heap.size w W from hW ▸ ((Below.refl _ _).alloc (Nat.le_refl _) _).alloc (by simp) _)
  have C1 := Lib.hid (show W.heap[w.heap.size]? = some (.cells #[.int .i64 l.per, .slice l.A l.ms.length l.cap] 24 (0, 0)) by
    rw [hW, heap_alloc_other _ _ _ (by simp)]; exact heap_alloc_new _ _)
  have C2 := Lib.hid (show W.heap[w.heap.size + 1]? = some (.cells #[.int .i64 0, .slice none 0 0] 24 (0, 0)) by
    rw [hW]; have := heap_alloc_new (w.alloc (.cells #[.int .i64 l.per, .slice l.A l.ms.length l.cap] 24)) (.cells #[.int .i64 0, .slice none 0 0] 24); simpa using this)
  have HS := Lib.hid (show W.heap.size = w.heap.size + 1 + 1 by rw [hW]; simp)
  have HL := Lib.hid (hl.below HB.out)
  have HL0 := Lib.hid hl
  have hlen := hl.len
  have hcap := hl.cap
  unfold maxLen at hcap
  clear hl
  obtain ⟨E, hE⟩ : ∃ E, E = checkErr l.li := ⟨_, rfl⟩
  have HE := Lib.hid hE.symm
  have HCK := Lib.hid (fun r (h : checkErr l.li = r) => show Calls Tryz.prog 17 #[.agg #[.int .i64 l.per, .slice l.A l.ms.length l.cap]] W _ from rcheck_is l W HL.out r h)
  show Calls _ _ #[.agg #[.int .i64 l.per, .slice l.A l.ms.length l.cap], .int .i64 p] w _
  by_cases h0 : E = 0
  case neg =>
    have hb : (E != 0) = true := by simpa using h0
    have HF := Lib.hid (show restrL l.li p = (⟨0, []⟩, E) by unfold restrL; rw [HE.out, if_pos h0])
    clear hE h0
    go_enter Tryz.func12, Tryz.ntmps12
    go_wp2_with fail
    rw [← hW]
    refine (HCK.out E HE.out).mono ?_; rintro e w1 ⟨rfl, hb1⟩
    have k2 := blk_keep hb1 C2.out
    have r0 := cell_of_blk k2 0
    have r1 := cell_of_blk k2 1
    have f0 := free_of_blk k2 0
    have f1 := free_of_blk k2 1
    simp at r0 r1
    have B1 := Lib.hid (HB.out.trans (hb1.mono HB.out.size))
    clear hb1 k2
    go_wp2_with fail
    rw [HF.out]
    refine bodyPost_ret (v := .tuple #[.agg #[.int .i64 0, .slice none 0 0], .int .i64 E]) (by simp [results, Tryz.results12, go_sem, r0, r1]) rfl ⟨⟨0, [], none, 0⟩, rfl, lm_none _, rfl, ?_⟩
    exact (B1.out.setCell (by dsimp only; omega) _).setCell (by dsimp only; omega) _
  subst h0
  clear hE
  by_cases hp1 : p < 1
  · have hp : withinB p l.per = false := by simp [withinB]; omega
    have HF := Lib.hid (show restrL l.li p = (⟨0, []⟩, 13) by unfold restrL; rw [HE.out, if_neg (by simp), if_pos (show withinB p l.li.per = false from hp)])
    clear hp
    go_enter Tryz.func12, Tryz.ntmps12
    go_wp2_with fail
    rw [← hW]
    refine (HCK.out 0 HE.out).mono ?_; rintro e w1 ⟨rfl, hb1⟩
    have k2 := blk_keep hb1 C2.out
    have k1 := blk_keep hb1 C1.out
    have x0 := cell_of_blk k1 0
    have r0 := cell_of_blk k2 0
    have r1 := cell_of_blk k2 1
    have f0 := free_of_blk k2 0
    have f1 := free_of_blk k2 1
    simp at r0 r1 x0
    have B1 := Lib.hid (HB.out.trans (hb1.mono HB.out.size))
    clear hb1 k2 k1
    go_wp2_with fail
    rw [HF.out]
    refine bodyPost_ret (v := .tuple #[.agg #[.int .i64 0, .slice none 0 0], .int .i64 13]) (by simp [results, Tryz.results12, go_sem, r0, r1]) rfl ⟨⟨0, [], none, 0⟩, rfl, lm_none _, rfl, ?_⟩
    exact (B1.out.setCell (by dsimp only; omega) _).setCell (by dsimp only; omega) _
  by_cases hp2 : l.per < p
  · have hp : withinB p l.per = false := by simp [withinB]; omega
    have HF := Lib.hid (show restrL l.li p = (⟨0, []⟩, 13) by unfold restrL; rw [HE.out, if_neg (by simp), if_pos (show withinB p l.li.per = false from hp)])
    clear hp
    go_enter Tryz.func12, Tryz.ntmps12
    go_wp2_with fail
    rw [← hW]
    refine (HCK.out 0 HE.out).mono ?_; rintro e w1 ⟨rfl, hb1⟩
    have k2 := blk_keep hb1 C2.out
    have k1 := blk_keep hb1 C1.out
    have x0 := cell_of_blk k1 0
    have r0 := cell_of_blk k2 0
    have r1 := cell_of_blk k2 1
    have f0 := free_of_blk k2 0
    have f1 := free_of_blk k2 1
    simp at r0 r1 x0
    have B1 := Lib.hid (HB.out.trans (hb1.mono HB.out.size))
    clear hb1 k2 k1
    go_wp2_with fail
    rw [HF.out]
    refine bodyPost_ret (v := .tuple #[.agg #[.int .i64 0, .slice none 0 0], .int .i64 13]) (by simp [results, Tryz.results12, go_sem, r0, r1]) rfl ⟨⟨0, [], none, 0⟩, rfl, lm_none _, rfl, ?_⟩
    exact (B1.out.setCell (by dsimp only; omega) _).setCell (by dsimp only; omega) _
  have hp : withinB p l.per = true := by simp [withinB]; omega
  have HOKV := Lib.hid (check_okV l.li HE.out)
  have HF := Lib.hid (show restrL l.li p = (⟨1, l.signs.map (sgWith (restrV p))⟩, 0) by unfold restrL; rw [HE.out, if_neg (by simp), if_neg (by rw [show l.li.per = l.per from rfl, hp]; simp)]; rfl)
  have HNL := Lib.hid (show l.ms.length ≤ 200 by have := HOKV.out.1; rw [show l.li.signs = l.signs from rfl, Lm.length_signs] at this; exact this)
  clear hp
  obtain ⟨is, his, hzs, hss, hbs⟩ := info_hid infoSg
  go_enter Tryz.func12, Tryz.ntmps12
  go_wp2_with fail
  rw [← hW]
  refine (HCK.out 0 HE.out).mono ?_; rintro e w1 ⟨rfl, hb1⟩
  have HW1 := Lib.hid (HB.out.trans (hb1.mono HB.out.size))
  have K1 := Lib.hid (blk_keep hb1 C1.out)
  have K2 := Lib.hid (blk_keep hb1 C2.out)
  have HS1 := Lib.hid hb1.size
  have x0 := cell_of_blk K1.out 0
  simp at x0
  have hnl := HNL.out
  obtain ⟨n, hn⟩ : ∃ n, n = l.ms.length := ⟨_, rfl⟩
  have HN := Lib.hid hn
  rw [← hn] at hlen hnl K1 ⊢
  clear hn hb1
  have hB2 := HS.out
  have hB1 := HS1.out
  go_wp2_with fail
  have BX := Lib.hid (heap_alloc_new w1 (.cells #[.int .i64 1, .slice none 0 0] 24))
  have BWX := Lib.hid (below_alloc w1 (.cells #[.int .i64 1, .slice none 0 0] 24))
  have HSZ := Lib.hid (show (w1.alloc (.cells #[.int .i64 1, .slice none 0 0] 24)).heap.size = w1.heap.size + 1 by simp)
  generalize w1.alloc (.cells #[.int .i64 1, .slice none 0 0] 24) = W3 at BX BWX HSZ ⊢
  clear x0 hp1 hp2
  go_loopw [8, 9, 10] (fun i _ _ wr => ∃ k : Nat, k ≤ n ∧ i = .int .i64 k ∧ Hid (∃ A c cs, cs.length = k ∧ Below w1.heap.size w1 wr ∧ wr.heap[w1.heap.size]? = some (.cells #[.int .i64 1, .slice A k c] 24 (0, 0)) ∧ OwnSigns wr (w1.heap.size + 1) A c cs ∧ cs.map (·.s) = (l.signs.take k).map (sgWith (restrV p)) ∧ ∀ m ∈ cs, ApartG (w.heap.size + 1) m.A m.s.vals ∧ ApartG w1.heap.size m.A m.s.vals)) (fun i _ _ _ => n - (intOf i).toNat)
  case atStart => exact ⟨0, Nat.zero_le _, rfl, Lib.hid ⟨none, 0, [], rfl, BWX.out, BX.out, ⟨World.ownsRow_nil _ _ _ _, (fun m h => (by cases h)), (fun m h => (by cases h))⟩, by simp, (fun m h => (by cases h))⟩⟩
  case round =>
    obtain ⟨k, hk, rfl, hrl⟩ := hrel
    obtain ⟨A, c, cs, hcl, hb3, hk3, ho3, hm3, ha3⟩ := hrl.out
    have hw1s := hb3.size
    have k1 := blk_keep hb3 K1.out
    have q1 := cell_of_blk k1 1
    simp at q1
    have hB3 : w1.heap.size < wr.heap.size := (Array.getElem?_eq_some_iff.1 hk3).1
    by_cases hlt : k < n
    · have hkl : k < l.ms.length := by rw [← HN.out]; exact hlt
      have hgl : l.ms[k]? = some l.ms[k] := List.getElem?_eq_getElem hkl
      obtain ⟨u, hmo⟩ : ∃ m, m = l.ms[k] := ⟨_, rfl⟩
      rw [← hmo] at hgl
      have hsl : l.signs[k]? = some u.s := Lm.getElem_signs hgl
      have HUV := Lib.hid (HOKV.out.2.2.2 u.s (List.mem_of_getElem? hsl))
      obtain ⟨b, o, hlA, hb0, hva, hok⟩ := HL0.out.signs k u hgl
      have HWR := Lib.hid (HW1.out.trans (hb3.mono HW1.out.size))
      obtain ⟨y0, y1, y2, y3, y4⟩ := hva.below HWR.out hb0
      have HUO := Lib.hid (hok.below HWR.out)
      have HSN := Lib.hid (show (l.signs.take (k + 1)).map (sgWith (restrV p)) = (l.signs.take k).map (sgWith (restrV p)) ++ [sgWith (restrV p) u.s] by
        obtain ⟨hk', e⟩ := List.getElem?_eq_some_iff.1 hsl
        rw [List.take_succ_eq_append_getElem hk', e, List.map_append]; rfl)
      have HCS := Lib.hid (And.intro hcl (And.intro hb3 (And.intro hk3 (And.intro ho3 (And.intro hm3 ha3)))))
      rw [hlA] at q1
      have hsb : b < wr.heap.size := by have := HWR.out.size; omega
      clear hgl hsl hmo hva hok hb0 hlA hcl hb3 hk3 ho3 hm3 ha3 hrl k1
      obtain ⟨V, hV⟩ : ∃ V, V = usedV u.s.vals p := ⟨_, rfl⟩
      have HV := Lib.hid hV
      have HVL := Lib.hid (show V.length ≤ 12 by have := HUV.out.1; rw [hV]; exact Nat.le_trans (List.length_filter_le _ _) this)
      have BS := Lib.hid (heap_alloc_new wr (.cells #[.string u.s.code, .int .i64 u.s.wide, .int .i64 u.s.high, .bool u.s.even, .slice u.A u.s.vals.length u.cap] 39))
      have BSW := Lib.hid (below_alloc wr (.cells #[.string u.s.code, .int .i64 u.s.wide, .int .i64 u.s.high, .bool u.s.even, .slice u.A u.s.vals.length u.cap] 39))
      have HVI := Lib.hid (fun wx (hb : Below wr.heap.size wr wx) => show Calls Tryz.prog 18 #[.agg #[.string u.s.code, .int .i64 u.s.wide, .int .i64 u.s.high, .bool u.s.even, .slice u.A u.s.vals.length u.cap], .int .i64 p] wx (GotRow wx 42 4 V.length (V.flatMap Va.cells)) by
        rw [hV]; exact ruseR_any u p wx (HUO.out.below hb) (by have := HUV.out.1; omega))
      clear hV
      obtain ⟨q, hq⟩ : ∃ q, q = V.length := ⟨_, rfl⟩
      have HQ := Lib.hid hq
      have hq12 : q ≤ 12 := by have := HVL.out; omega
      rw [← hq] at HVI
      clear hq
      go_wp2_with fail
      refine (HVI.out _ BSW.out).mono ?_; rintro e w3 ⟨A2, c2, rfl, own2, hb4⟩
      have OV := Lib.hid (show OwnVals w3 (wr.heap.size + 1) A2 c2 V from ⟨by rw [← HQ.out]; simpa using own2, by rw [HV.out]; exact used_sizes HUO.out.vals p⟩)
      have KS := Lib.hid (blk_keep hb4 BS.out)
      have B4 := Lib.hid (BSW.out.trans (hb4.mono BSW.out.size))
      have z0 := cell_of_blk KS.out 0
      have z4 := cell_of_blk KS.out 4
      have zf := free_of_blk KS.out 4
      simp at z0 z4
      have B5 := Lib.hid (B4.out.setCell (p := ⟨wr.heap.size, 4, none⟩) (Nat.le_refl _) (.slice A2 q c2))
      have KS5 := Lib.hid (show (w3.setCell ⟨wr.heap.size, 4, none⟩ (.slice A2 q c2)).heap[wr.heap.size]? = some (.cells #[.string u.s.code, .int .i64 u.s.wide, .int .i64 u.s.high, .bool u.s.even, .slice A2 q c2] 39 (0, 0)) by
        rw [heap_setCell_same _ _ _ _ _ _ KS.out]; rfl)
      have OV5 := Lib.hid (show OwnVals (w3.setCell ⟨wr.heap.size, 4, none⟩ (.slice A2 q c2)) (wr.heap.size + 1) A2 c2 V from
        ⟨ownsRow_of_block OV.out.own (fun g' hg' => heap_setCell_other _ _ _ _ (by have := (OV.out.own.lt g' hg').1; dsimp only; omega)), OV.out.sz⟩)
      clear own2 hb4 y0 y1 y2 y3 y4
      go_wp2_with fail
      generalize w3.setCell ⟨wr.heap.size, 4, none⟩ (.slice A2 q c2) = W5 at B5 KS5 OV5 ⊢
      obtain ⟨wo, rfl⟩ : ∃ wo : World, wo = wr := ⟨_, rfl⟩
      go_loopw [10] (fun i wr => ∃ j : Nat, j ≤ q ∧ i = .int .i64 j ∧ Hid (Below wo.heap.size wo wr ∧ wr.heap[wo.heap.size]? = some (.cells #[.string u.s.code, .int .i64 u.s.wide, .int .i64 u.s.high, .bool u.s.even, .slice A2 q c2] 39 (0, 0)) ∧ OwnVals wr (wo.heap.size + 1) A2 c2 (mixV V j))) (fun i _ => q - (intOf i).toNat)
      case atStart => exact ⟨0, Nat.zero_le _, rfl, Lib.hid ⟨B5.out, KS5.out, by rw [mixV_zero]; exact OV5.out⟩⟩
      case round =>
        obtain ⟨j, hj, rfl, hin⟩ := hrel
        have hsz := hin.out.1.size
        have hsw : wo.heap.size < wr.heap.size := (Array.getElem?_eq_some_iff.1 hin.out.2.1).1
        have p4 := cell_of_blk hin.out.2.1 4
        simp at p4
        by_cases hlj : j < q
        · have hgj : V[j]? = some (V[j]'(by have := HQ.out; omega)) := List.getElem?_eq_getElem _
          obtain ⟨v, hv⟩ : ∃ v, v = V[j]'(by have := HQ.out; omega) := ⟨_, rfl⟩
          rw [← hv] at hgj
          obtain ⟨A', c', e', hc2a, hc2m, hA2, hA2n⟩ := own_slice hin.out.2.2.own
          injection e' with e1 e2 e3
          subst e1 e3
          cases hA : A2 with
          | none => have := hA2n hA; have h9 := mixV_len V j; have := HQ.out; omega
          | some ad =>
          obtain ⟨g2, rfl, hh0, hh1, hcell2⟩ := hA2 ad hA
          subst hA
          obtain ⟨b', o', e5, hlt5, hva⟩ := hin.out.2.2.vals.1 j v (mixV_at V j v hgj)
          injection e5 with e5; injection e5 with e5 e6
          subst e5 e6
          have v2 := hva.c2
          have v3 := hva.c3
          rw [Nat.zero_add] at v2 v3
          have f2 := hin.out.2.2.own.frozenAt (j * 4 + 2)
          have f3 := hin.out.2.2.own.frozenAt (j * 4 + 3)
          have hgg : wo.heap.size ≠ g2 := by omega
          have hgg' : g2 ≠ wo.heap.size := by omega
          have hc2b : q ≤ c2 := by rw [mixV_len, ← HQ.out] at hc2a; exact hc2a
          unfold maxLen at hc2m
          have OV6 := Lib.hid (hin.out.2.2.fr (mixV_at V j v hgj) 1)
          have OV7 := Lib.hid (OV6.out.to (j := j) (v := ⟨v.kind, v.text, 1, v.to⟩) (by rw [List.getElem?_set_self (by rw [mixV_len]; have := HQ.out; omega)]) 1)
          have HM := Lib.hid (mixV_set V j v hgj)
          have hv7 := OV7.out
          rw [HM.out] at hv7
          have OV8 := Lib.hid hv7
          have KS6 := Lib.hid (show ((wr.setCell ⟨g2, j * 4 + 2, none⟩ (.int .i64 1)).setCell ⟨g2, j * 4 + 3, none⟩ (.int .i64 1)).heap[wo.heap.size]? = some (.cells #[.string u.s.code, .int .i64 u.s.wide, .int .i64 u.s.high, .bool u.s.even, .slice (some ⟨g2, 0, none⟩) q c2] 39 (0, 0)) by
            rw [heap_setCell_other _ _ _ _ hgg, heap_setCell_other _ _ _ _ hgg]; exact hin.out.2.1)
          have B6 := Lib.hid ((hin.out.1.setCell (p := ⟨g2, j * 4 + 2, none⟩) (by dsimp only; omega) (.int .i64 1)).setCell (p := ⟨g2, j * 4 + 3, none⟩) (by dsimp only; omega) (.int .i64 1))
          clear hv hgj hA2 hA2n hcell2 hva hlt5 hv7 hc2a
          go_wp2_with fail
          go_roundw
          case rel => exact ⟨j + 1, by omega, by go_num, Lib.hid ⟨B6.out, KS6.out, OV8.out⟩⟩
          case measure => simp [intOf]; omega
        · obtain rfl : j = q := by omega
          have HRV := Lib.hid (show mixV V j = restrV p u.s.vals by rw [HQ.out, mixV_all, HV.out]; rfl)
          have OVR := Lib.hid (show OwnVals wr (wo.heap.size + 1) A2 c2 (restrV p u.s.vals) by rw [← HRV.out]; exact hin.out.2.2)
          have HRL := Lib.hid (show (restrV p u.s.vals).length = j by rw [← HRV.out, mixV_len]; exact HQ.out.symm)
          have hm0 : SmOk wr (u.with (restrV p u.s.vals) A2 c2) := ⟨OVR.out.vals.1, OVR.out.vals.2.1, OVR.out.vals.2.2.1, HUO.out.code⟩
          have HM0 := Lib.hid hm0
          have HOS := Lib.hid (HCS.out.2.2.2.1.below hin.out.1)
          have KM := Lib.hid (blk_keep hin.out.1 HCS.out.2.2.1)
          have m1 := cell_of_blk KM.out 1
          have p0 := cell_of_blk hin.out.2.1 0
          have p1 := cell_of_blk hin.out.2.1 1
          have p2 := cell_of_blk hin.out.2.1 2
          have p3 := cell_of_blk hin.out.2.1 3
          simp at m1 p0 p1 p2 p3
          have BR := Lib.hid (HCS.out.2.1.trans (hin.out.1.mono hw1s))
          have hbr : w1.heap.size < wr.heap.size := by omega
          clear hm0
          go_wp2_with (first
            | (at_builtin; refine wpList_append_src _ rfl (.tmp 61) (.tmp 63) 22 rfl (w1.heap.size + 1) 39 is (.agg #[.string ⟨#[]⟩, .int .i64 0, .int .i64 0, .bool false, .slice none 0 0]) 5 64 Tryz.underlying22 his.out hzs.out hss.out hbs.out rfl (by decide) (.slice A k c) k (cs.flatMap Sm.cells) rfl ?own2 (some ⟨wr.heap.size, 0, none⟩) 1 1 (Sm.cells (u.with (restrV p u.s.vals) A2 c2)) rfl ?l2 ?n2 ?c2 sm_one ?m2 ?b2 ?s2 (k + 1) rfl ?_))
          case own2 => have h := HOS.out.own; rw [HCS.out.1] at h; exact h.alloc _
          case l2 => rfl
          case n2 => intro h; cases h
          case c2 =>
            intro ad had i u' hi
            injection had with had
            subst had
            have := new_cells wr (Sm.cells (u.with (restrV p u.s.vals) A2 c2)) 39 i u' hi
            simpa [Sm.cells, Sm.with, HRL.out] using this
          case m2 => unfold maxLen; omega
          case b2 => omega
          case s2 => simp; omega
          · intro A4 c4 w5 own5 hg5 hat
            have OS5 := Lib.hid (OwnSigns.append (m := u.with (restrV p u.s.vals) A2 c2) HOS.out HM0.out (fun _ b o e e2 => by
              have h1 := OVR.out.vals.2.2.2 b o e
              have h2 := (HCS.out.2.2.2.1.own.lt b e2).2
              omega) (by rw [HCS.out.1]; exact own5) (by rw [HCS.out.1]; exact hg5) (by rw [HCS.out.1]; simpa using hat))
            have hne : (Value.slice A k c).ownBlock ≠ some w1.heap.size := fun e => by
              have h := HCS.out.2.2.2.1.own
              rw [HCS.out.1] at h
              have := (h.lt _ e).1; omega
            have KM5 := Lib.hid (show w5.heap[w1.heap.size]? = some (.cells #[.int .i64 1, .slice A k c] 24 (0, 0)) by
              rw [hg5.block _ (by simp; omega) (fun e => hne e.symm), heap_alloc_other _ _ _ hbr]; exact KM.out)
            have t1 := cell_of_blk KM5.out 1
            have tf := free_of_blk KM5.out 1
            simp at t1
            have B7 := Lib.hid ((BR.out.alloc (by omega) (.cells #[.string u.s.code, .int .i64 u.s.wide, .int .i64 u.s.high, .bool u.s.even, .slice A2 j c2] 39)).grown hg5 (by simp; omega) (fun g hg => by
              have h := HCS.out.2.2.2.1.own
              rw [HCS.out.1] at h
              have := (h.lt g hg).1; omega))
            have HAP := Lib.hid (show ∀ m ∈ cs ++ [u.with (restrV p u.s.vals) A2 c2], ApartG (w.heap.size + 1) m.A m.s.vals ∧ ApartG w1.heap.size m.A m.s.vals from fun m hm => by
              rcases List.mem_append.1 hm with hm | hm
              · exact HCS.out.2.2.2.2.2 m hm
              · simp at hm; subst hm
                exact ⟨fun _ b o e e2 => by have := OVR.out.vals.2.2.2 b o e; omega, fun _ b o e e2 => by have := OVR.out.vals.2.2.2 b o e; omega⟩)
            have HNL2 := Lib.hid (show (cs ++ [u.with (restrV p u.s.vals) A2 c2]).length = k + 1 by rw [List.length_append, HCS.out.1]; rfl)
            have OS6 := Lib.hid (OS5.out.other (b0 := w1.heap.size) (fun e => by have := (OS5.out.own.lt _ e).1; omega) (fun m hm => (HAP.out m hm).2) 1 (.slice A4 (k + 1) c4))
            have KM6 := Lib.hid (show (w5.setCell ⟨w1.heap.size, 1, none⟩ (.slice A4 (k + 1) c4)).heap[w1.heap.size]? = some (.cells #[.int .i64 1, .slice A4 (k + 1) c4] 24 (0, 0)) by
              rw [heap_setCell_same _ _ _ _ _ _ KM5.out]; rfl)
            clear own5 hg5 hat hne
            go_wp2_with fail
            go_roundw
            case rel => exact ⟨k + 1, by omega, by go_num, Lib.hid ⟨A4, c4, _, HNL2.out, B7.out.setCell (p := ⟨w1.heap.size, 1, none⟩) (Nat.le_refl _) _, KM6.out, OS6.out, by rw [List.map_append, HCS.out.2.2.2.2.1, HSN.out]; rfl, HAP.out⟩⟩
            case measure => simp [intOf]; omega
    · obtain rfl : k = n := by omega
      have k2 := blk_keep hb3 K2.out
      have p0 := cell_of_blk hk3 0
      have p1 := cell_of_blk hk3 1
      have r0 := cell_of_blk k2 0
      have r1 := cell_of_blk k2 1
      have f0 := free_of_blk k2 0
      have f1 := free_of_blk k2 1
      simp at p0 p1 r0 r1
      have hne : (Value.slice A cs.length c).ownBlock ≠ some (w.heap.size + 1) := fun e => by have := (ho3.own.lt _ e).1; omega
      have HO := Lib.hid ((ho3.other hne (fun m hm => (ha3 m hm).1) 0 (.int .i64 1)).other hne (fun m hm => (ha3 m hm).1) 1 (.slice A k c))
      have HM := Lib.hid (show cs.map (·.s) = l.signs.map (sgWith (restrV p)) by rw [hm3, HN.out, ← Lm.length_signs, List.take_length])
      have HCL := Lib.hid hcl
      have HB3 := Lib.hid (HW1.out.trans (hb3.mono HW1.out.size))
      clear hcl hb3 ho3 hm3 ha3 hrl k1 k2 hne hk3
      go_wp2_with fail
      rw [HF.out]
      refine bodyPost_ret (v := .tuple #[.agg #[.int .i64 1, .slice A k c], .int .i64 0]) (by simp [results, Tryz.results12, go_sem, r0, r1]) rfl ⟨⟨1, cs, A, c⟩, ?_, HO.out.lm _, ?_, ?_⟩
      · unfold Lm.val; dsimp only; rw [HCL.out]
      · unfold Lm.li Lm.signs; dsimp only; rw [HM.out]; rfl
      · exact (HB3.out.setCell (by dsimp only; omega) _).setCell (by dsimp only; omega) _

end Go.Proofs.YtleihhkacmgofaaGreatDoor

/- The plain functions by which the contracts of Parse are stated. -/
namespace Go.Proofs.YtleihhkacmgofaaGreatDoor
open Go.RowKit

def str (l : List UInt8) : ByteArray := ⟨l.toArray⟩
/-- strings.Cut -/
def cutB (s sep : ByteArray) : ByteArray × ByteArray × Bool := (⟨(Lib.cut s.data.toList sep.data.toList).1.toArray⟩, ⟨(Lib.cut s.data.toList sep.data.toList).2.1.toArray⟩, (Lib.cut s.data.toList sep.data.toList).2.2)
/-- strings.Split at one byte or more -/
def splitS (s sep : ByteArray) : List ByteArray := Lib.splitB sep 0 (Lib.countB s sep) s
def numV (l : List UInt8) : Int := l.foldl (fun n c => n * 10 + ((c.toNat : Int) - 48)) 0
/-- a number of one to three digits without a leading zero -/
def numP (s : ByteArray) : Int × Bool :=
  if withinB s.size 3 && !((bytes s).head? == some 48 && !strEq s ⟨#[48]⟩) && (bytes s).all digB then (numV (bytes s), true) else (0, false)
def looseB (c : UInt8) : Bool := !((c.toNat : Int) == 32 || (c.toNat : Int) == 64 || (c.toNat : Int) == 58 || (c.toNat : Int) == 10)
def nameP (s : ByteArray) : Bool := (bytes s).all looseB && !(bytes s).isEmpty
def kindP (s : ByteArray) : Int × Bool := if strEq ⟨#[115]⟩ s then (1, true) else if strEq ⟨#[119]⟩ s then (2, true) else if strEq ⟨#[99]⟩ s then (3, true) else (0, false)
def pairP (s sep : ByteArray) : Int × Int × Bool :=
  if (numP (cutB s sep).1).2 && (numP (cutB s sep).2.1).2 then ((numP (cutB s sep).1).1, (numP (cutB s sep).2.1).1, true) else (0, 0, false)
def zeroVa : Va := ⟨0, ⟨#[]⟩, 0, 0⟩
def zeroSg : Sg := ⟨⟨#[]⟩, 0, 0, false, []⟩
def valueP (s : ByteArray) : Va × Bool :=
  let c := cutB s ⟨#[58]⟩
  let d := cutB c.2.1 ⟨#[64]⟩
  let p := pairP d.2.1 ⟨#[45]⟩
  if (kindP c.1).2 && nameP d.1 && p.2.2 then (⟨(kindP c.1).1, d.1, p.1, p.2.1⟩, true) else (zeroVa, false)
def valsP : List ByteArray → Option (List Va)
  | [] => some []
  | s :: r => if (valueP s).2 then (valsP r).map ((valueP s).1 :: ·) else none
/-- the fields behind a sign's size: whether it is even, and its values -/
def restP : List ByteArray → Bool × List ByteArray
  | [] => (false, [])
  | s :: r => if strEq s ⟨#[61]⟩ then (true, r) else (false, s :: r)
def signF : List ByteArray → Sg × Bool
  | c :: z :: r =>
    if nameP c && (pairP z ⟨#[120]⟩).2.2 then
      match valsP (restP r).2 with
      | some vs => (⟨c, (pairP z ⟨#[120]⟩).1, (pairP z ⟨#[120]⟩).2.1, (restP r).1, vs⟩, true)
      | none => (zeroSg, false)
    else (zeroSg, false)
  | _ => (zeroSg, false)
def signP (s : ByteArray) : Sg × Bool := signF (splitS s ⟨#[32]⟩)
def headP (s : ByteArray) : Int × Bool := if Lib.hasPrefix s.data.toList [112, 101, 114, 105, 111, 100, 115, 32] then numP ⟨(Lib.trimPrefix s.data.toList [112, 101, 114, 105, 111, 100, 115, 32]).toArray⟩ else (0, false)
/-- the lines behind the first one: the signs, or the number of a bad line -/
def linesP : Nat → ByteArray → Int → List Sg ⊕ Int
  | 0, _, _ => .inl []
  | f + 1, t, n =>
    if (bytes t).isEmpty then .inl [] else
    let c := cutB t ⟨#[10]⟩
    if c.2.2 && (signP c.1).2 then
      match linesP f c.2.1 (n + 1) with
      | .inl ss => .inl ((signP c.1).1 :: ss)
      | .inr b => .inr b
    else .inr n
/-- parseLines -/
def allP (t : ByteArray) : Li × Int :=
  let c := cutB t ⟨#[10]⟩
  if c.2.2 && (headP c.1).2 then
    match linesP (t.size + 1) c.2.1 2 with
    | .inl ss => (⟨(headP c.1).1, ss⟩, 0)
    | .inr b => (⟨0, []⟩, b)
  else (⟨0, []⟩, 1)
/-- Parse: the list, the line, the error -/
def parseP (t : ByteArray) : Li × Int × Int :=
  if 65536 < t.size then (⟨0, []⟩, 0, 2)
  else if 0 < (allP t).2 then (⟨0, []⟩, (allP t).2, 4)
  else if checkErr (allP t).1 ≠ 0 then (⟨0, []⟩, 0, checkErr (allP t).1)
  else ((allP t).1, 0, 0)

theorem cut_len (l p : List UInt8) : (Lib.cut l p).1.length ≤ l.length ∧ (Lib.cut l p).2.1.length ≤ l.length ∧ ((Lib.cut l p).2.2 = true → p ≠ [] → (Lib.cut l p).2.1.length < l.length ∨ l = []) := by
  unfold Lib.cut
  split
  · refine ⟨by simp; omega, by simp, fun _ hp => ?_⟩
    have : 0 < p.length := List.length_pos_iff.2 hp
    cases l with
    | nil => exact .inr rfl
    | cons a r => left; simp; omega
  · simp
theorem cutB_size (s sep : ByteArray) : (cutB s sep).1.size ≤ s.size ∧ (cutB s sep).2.1.size ≤ s.size := by
  obtain ⟨h1, h2, -⟩ := cut_len s.data.toList sep.data.toList
  have e : s.data.toList.length = s.size := Array.length_toList
  rw [e] at h1 h2
  unfold cutB
  exact ⟨by show (Lib.cut s.data.toList sep.data.toList).1.toArray.size ≤ s.size; rw [List.size_toArray]; exact h1, by show (Lib.cut s.data.toList sep.data.toList).2.1.toArray.size ≤ s.size; rw [List.size_toArray]; exact h2⟩
theorem cutB_less (s sep : ByteArray) (hp : sep.data.toList ≠ []) (h : (cutB s sep).2.2 = true) (hs : 0 < s.size) : (cutB s sep).2.1.size < s.size := by
  have h1 := (cut_len s.data.toList sep.data.toList).2.2 h hp
  have e : s.data.toList.length = s.size := Array.length_toList
  show (Lib.cut s.data.toList sep.data.toList).2.1.toArray.size < s.size
  rw [List.size_toArray]
  rcases h1 with h1 | h1
  · rw [e] at h1; exact h1
  · rw [h1] at e; simp at e; omega

example : (parseP (str [112, 101, 114, 105, 111, 100, 115, 32, 50, 10, 65, 49, 32, 52, 120, 54, 32, 115, 58, 110, 102, 114, 64, 49, 45, 50, 10, 66, 50, 32, 51, 120, 51, 32, 61, 32, 115, 58, 110, 102, 114, 64, 50, 45, 50, 10])).2 = (0, 0) := by decide +kernel

end Go.Proofs.YtleihhkacmgofaaGreatDoor

/- Contracts of parseNumber, isName, parseKind, parsePair. -/
namespace Go.Proofs.YtleihhkacmgofaaGreatDoor
open Go.RowKit

/-- what a call finds in the world beside its arguments: the program's own table, and the library's variable -/
structure Env (w : World) : Prop where
  shaped : w.ShapedOpen Tryz.prog
  k1 : w.cell? ⟨1, 1, none⟩ = some (.string ⟨#[115]⟩)
  k2 : w.cell? ⟨1, 2, none⟩ = some (.string ⟨#[119]⟩)
  k3 : w.cell? ⟨1, 3, none⟩ = some (.string ⟨#[99]⟩)
  pow : Lib.TabIs Tryz.prog w "internal/strconv.uint64pow10" .u64 Lib.pow10Tab
theorem cell_lt {w : World} {b o : Nat} {v : Value} (h : w.cell? ⟨b, o, none⟩ = some v) : b < w.heap.size := by
  rcases Nat.lt_or_ge b w.heap.size with h1 | h1
  · exact h1
  · simp [World.cell?, Array.getElem?_eq_none h1] at h
theorem gPow : Tryz.prog.globalNamed "internal/strconv.uint64pow10" = some 2 := by kernel_rfl
theorem Env.below {w w' : World} (h : Env w) (hb : Below w.heap.size w w') : Env w' :=
  ⟨h.shaped.keptBut (hb.frame (fun _ => False)) (fun _ h => h.elim), (hb.cell (p := ⟨_, _, none⟩) (cell_lt h.k1)).trans h.k1, (hb.cell (p := ⟨_, _, none⟩) (cell_lt h.k2)).trans h.k2, (hb.cell (p := ⟨_, _, none⟩) (cell_lt h.k3)).trans h.k3, Go.Joins.tab_stays gPow h.pow hb (Nat.le_refl _)⟩

theorem below_drewN (w : World) (n : Nat) : Below w.heap.size w (w.drewN n) := ⟨rfl, rfl, rfl, Nat.le_refl _, fun _ _ => rfl⟩

theorem cut_any (s sep : ByteArray) (w : World) (hE : Env w) (hs : s.size ≤ 100000) :
    Calls Tryz.prog 52 #[.string s, .string sep] w fun e w' => e = .returned (.tuple #[.string (cutB s sep).1, .string (cutB s sep).2.1, .bool (cutB s sep).2.2]) ∧ Below w.heap.size w w' := by
  refine (Tryz.strings_Cut_shaped s sep w hE.shaped (by omega)).mono ?_
  rintro e w' ⟨rfl, n, rfl⟩
  exact ⟨rfl, below_drewN w n⟩

theorem numV_snoc (l : List UInt8) (c : UInt8) : numV (l ++ [c]) = numV l * 10 + ((c.toNat : Int) - 48) := by simp [numV]
theorem numV_bd (l : List UInt8) (h : l.all digB = true) (hl : l.length ≤ 3) : 0 ≤ numV l ∧ numV l ≤ 999 := by
  match l, h, hl with
  | [], _, _ => simp [numV]
  | [a], h, _ => simp [numV, digB] at *; omega
  | [a, b], h, _ => simp [numV, digB] at *; omega
  | [a, b, c], h, _ => simp [numV, digB] at *; omega
  | a :: b :: c :: d :: r, _, hl => simp at hl

theorem of_two {a a' : Int} {b b' : Bool} (h : (a, b) = (a', b')) : Ending.returned (.tuple #[.int .i64 a, .bool b]) = .returned (.tuple #[.int .i64 a', .bool b']) := by
  injection h with h1 h2; rw [h1, h2]

theorem num_no (s : ByteArray) (h : (withinB s.size 3 && !((bytes s).head? == some 48 && !strEq s ⟨#[48]⟩) && (bytes s).all digB) = false) : numP s = (0, false) := by
  unfold numP; rw [if_neg (by rw [h]; simp)]

theorem ret_ib {a : Int} {b : Bool} {p : Int × Bool} (h : (a, b) = p) : Ending.returned (.tuple #[.int .i64 a, .bool b]) = .returned (.tuple #[.int .i64 p.1, .bool p.2]) := by
  rw [← h]

set_option maxHeartbeats 1600000 in
theorem num_any (s : ByteArray) (w : World) (hs : s.size ≤ maxLen) :
    Calls Tryz.prog 72 #[.string s] w fun e w' => e = .returned (.tuple #[.int .i64 (numP s).1, .bool (numP s).2]) ∧ w = w' := by
  unfold maxLen at hs
  by_cases h1 : withinB s.size 3 = true
  case neg =>
    have h1 : withinB s.size 3 = false := by simpa using h1
    have hf := Lib.hid (num_no s (by rw [h1]; rfl))
    go_enter Tryz.func72, Tryz.ntmps72
    go_wp2_with (first | (go_at_call 26; refine (within_is _ _ _ false h1).mono ?_; rintro e w' ⟨rfl, rfl⟩))
    go_ret2
    exact ⟨ret_ib hf.out.symm, rfl⟩
  have hw : 1 ≤ s.size ∧ s.size ≤ 3 := by simp [withinB] at h1; omega
  obtain ⟨hw0, hw3⟩ := hw
  have hat0 := Lib.hid (show (bytes s).head? = some s[0] by rw [List.head?_eq_getElem?]; exact bytes_at s 0 hw0)
  by_cases h2 : ((s[0].toNat : Int) == 48) = true
  case pos =>
    have h2' := Lib.hid (show s[0] = 48 by
      have h2i : (s[0].toNat : Int) = 48 := by simpa using h2
      have : s[0].toNat = (48 : UInt8).toNat := by show s[0].toNat = 48; omega
      exact UInt8.toNat_inj.1 this)
    by_cases h3 : (s.toList == [48]) = true
    case neg =>
      have h3 : (s.toList == [48]) = false := by simpa using h3
      have hf := Lib.hid (num_no s (by rw [hat0.out, h2'.out]; simp [strEq, ByteArray.toList_eq] at h3 ⊢; simp [h3]))
      go_enter Tryz.func72, Tryz.ntmps72
      go_wp2_with (first | (go_at_call 26; refine (within_is _ _ _ true h1).mono ?_; rintro e w' ⟨rfl, rfl⟩))
      go_ret2
      exact ⟨ret_ib hf.out.symm, rfl⟩
    have hgo := Lib.hid (show (withinB s.size 3 && !((bytes s).head? == some 48 && !strEq s ⟨#[48]⟩)) = true by rw [h1]; simp [strEq, ByteArray.toList_eq] at h3 ⊢; simp [h3])
    go_enter Tryz.func72, Tryz.ntmps72
    go_wp2_with (first | (go_at_call 26; refine (within_is _ _ _ true h1).mono ?_; rintro e w' ⟨rfl, rfl⟩))
    go_loop [2, 20] (fun n i => ∃ k : Nat, k ≤ s.size ∧ i = .int .i64 k ∧ n = .int .i64 (numV ((bytes s).take k)) ∧ Hid (((bytes s).take k).all digB = true)) (fun _ i => s.size - (intOf i).toNat)
    case atStart => exact ⟨0, Nat.zero_le _, rfl, by simp [numV], Lib.hid (by simp)⟩
    case round =>
      obtain ⟨k, hk, rfl, rfl, hall⟩ := hrel
      by_cases hlt : k < s.size
      · have hat := Lib.hid (bytes_at s k hlt)
        by_cases hd : digB s[k] = true
        · have hbd := numV_bd ((bytes s).take k) hall.out (by rw [List.length_take]; omega)
          have hdb : (48 : Int) ≤ (s[k].toNat : Int) ∧ (s[k].toNat : Int) ≤ 57 := by simp [digB] at hd; omega
          obtain ⟨hd1, hd2⟩ := hdb
          obtain ⟨hb1, hb2⟩ := hbd
          have hst := Lib.hid (show numV ((bytes s).take (k + 1)) = numV ((bytes s).take k) * 10 + ((s[k].toNat : Int) - 48) by rw [take_snoc s k hlt, numV_snoc])
          have hal := Lib.hid (all_step s k hlt hall.out hd)
          go_wp2_with (first | (go_at_call 60; refine (dig_any _ _).mono ?_; rintro e w' ⟨rfl, rfl⟩))
          go_round
          case rel => exact ⟨k + 1, by omega, by go_num, by rw [hst.out], hal⟩
          case measure => simp [intOf]; omega
        · have hd : digB s[k] = false := by simpa using hd
          have hf := Lib.hid (num_no s (by rw [all_false_of digB _ _ _ hat.out hd, Bool.and_false]))
          go_wp2_with (first | (go_at_call 60; refine (dig_any _ _).mono ?_; rintro e w' ⟨rfl, rfl⟩))
          go_ret2
          exact ⟨ret_ib hf.out.symm, rfl⟩
      · obtain rfl : k = s.size := by omega
        have hf := Lib.hid (show numP s = (numV ((bytes s).take s.size), true) by
          rw [take_full]
          have := hall.out; rw [take_full] at this
          unfold numP; rw [if_pos (by rw [hgo.out, this]; rfl)])
        go_wp2
        go_ret2
        exact ⟨ret_ib hf.out.symm, rfl⟩
  have h2 : ((s[0].toNat : Int) == 48) = false := by simpa using h2
  have hgo := Lib.hid (show (withinB s.size 3 && !((bytes s).head? == some 48 && !strEq s ⟨#[48]⟩)) = true by
    have : (s[0] == 48) = false := by
      rw [beq_eq_false_iff_ne]; intro e
      rw [e] at h2; simp at h2
    rw [h1, hat0.out]; simp [this])
  go_enter Tryz.func72, Tryz.ntmps72
  go_wp2_with (first | (go_at_call 26; refine (within_is _ _ _ true h1).mono ?_; rintro e w' ⟨rfl, rfl⟩))
  go_loop [2, 20] (fun n i => ∃ k : Nat, k ≤ s.size ∧ i = .int .i64 k ∧ n = .int .i64 (numV ((bytes s).take k)) ∧ Hid (((bytes s).take k).all digB = true)) (fun _ i => s.size - (intOf i).toNat)
  case atStart => exact ⟨0, Nat.zero_le _, rfl, by simp [numV], Lib.hid (by simp)⟩
  case round =>
    obtain ⟨k, hk, rfl, rfl, hall⟩ := hrel
    by_cases hlt : k < s.size
    · have hat := Lib.hid (bytes_at s k hlt)
      by_cases hd : digB s[k] = true
      · have hbd := numV_bd ((bytes s).take k) hall.out (by rw [List.length_take]; omega)
        have hdb : (48 : Int) ≤ (s[k].toNat : Int) ∧ (s[k].toNat : Int) ≤ 57 := by simp [digB] at hd; omega
        obtain ⟨hd1, hd2⟩ := hdb
        obtain ⟨hb1, hb2⟩ := hbd
        have hst := Lib.hid (show numV ((bytes s).take (k + 1)) = numV ((bytes s).take k) * 10 + ((s[k].toNat : Int) - 48) by rw [take_snoc s k hlt, numV_snoc])
        have hal := Lib.hid (all_step s k hlt hall.out hd)
        go_wp2_with (first | (go_at_call 60; refine (dig_any _ _).mono ?_; rintro e w' ⟨rfl, rfl⟩))
        go_round
        case rel => exact ⟨k + 1, by omega, by go_num, by rw [hst.out], hal⟩
        case measure => simp [intOf]; omega
      · have hd : digB s[k] = false := by simpa using hd
        have hf := Lib.hid (num_no s (by rw [all_false_of digB _ _ _ hat.out hd, Bool.and_false]))
        go_wp2_with (first | (go_at_call 60; refine (dig_any _ _).mono ?_; rintro e w' ⟨rfl, rfl⟩))
        go_ret2
        exact ⟨ret_ib hf.out.symm, rfl⟩
    · obtain rfl : k = s.size := by omega
      have hf := Lib.hid (show numP s = (numV ((bytes s).take s.size), true) by
        rw [take_full]
        have := hall.out; rw [take_full] at this
        unfold numP; rw [if_pos (by rw [hgo.out, this]; rfl)])
      go_wp2
      go_ret2
      exact ⟨ret_ib hf.out.symm, rfl⟩

set_option maxHeartbeats 800000 in
theorem name_any (s : ByteArray) (w : World) (hs : s.size ≤ maxLen) :
    Calls Tryz.prog 74 #[.string s] w fun e w' => e = .returned (.bool (nameP s)) ∧ w = w' := by
  unfold maxLen at hs
  go_enter Tryz.func74, Tryz.ntmps74
  go_wp2
  go_loop [6] (fun i => ∃ k : Nat, k ≤ s.size ∧ i = .int .i64 k ∧ Hid (((bytes s).take k).all looseB = true)) (fun i => s.size - (intOf i).toNat)
  case atStart => exact ⟨0, Nat.zero_le _, rfl, Lib.hid (by simp)⟩
  case round =>
    obtain ⟨k, hk, rfl, hall⟩ := hrel
    by_cases hlt : k < s.size
    · have hat := Lib.hid (bytes_at s k hlt)
      by_cases a1 : ((s[k].toNat : Int) == 32) = true
      · have hf := Lib.hid (show nameP s = false by unfold nameP; rw [all_false_of looseB _ _ _ hat.out (by simp [looseB, a1])]; rfl)
        go_wp2
        go_ret
        exact ⟨of_bool hf.out.symm, rfl⟩
      have a1 : ((s[k].toNat : Int) == 32) = false := by simpa using a1
      by_cases a2 : ((s[k].toNat : Int) == 64) = true
      · have hf := Lib.hid (show nameP s = false by unfold nameP; rw [all_false_of looseB _ _ _ hat.out (by simp [looseB, a2])]; rfl)
        go_wp2
        go_ret
        exact ⟨of_bool hf.out.symm, rfl⟩
      have a2 : ((s[k].toNat : Int) == 64) = false := by simpa using a2
      by_cases a3 : ((s[k].toNat : Int) == 58) = true
      · have hf := Lib.hid (show nameP s = false by unfold nameP; rw [all_false_of looseB _ _ _ hat.out (by simp [looseB, a3])]; rfl)
        go_wp2
        go_ret
        exact ⟨of_bool hf.out.symm, rfl⟩
      have a3 : ((s[k].toNat : Int) == 58) = false := by simpa using a3
      by_cases a4 : ((s[k].toNat : Int) == 10) = true
      · have hf := Lib.hid (show nameP s = false by unfold nameP; rw [all_false_of looseB _ _ _ hat.out (by simp [looseB, a4])]; rfl)
        go_wp2
        go_ret
        exact ⟨of_bool hf.out.symm, rfl⟩
      have a4 : ((s[k].toNat : Int) == 10) = false := by simpa using a4
      have hal := Lib.hid (all_step s k hlt hall.out (show looseB s[k] = true by simp [looseB, a1, a2, a3, a4]))
      go_wp2
      go_round
      case rel => exact ⟨k + 1, by omega, by go_num, hal⟩
      case measure => simp [intOf]; omega
    · obtain rfl : k = s.size := by omega
      have hf := Lib.hid (show nameP s = !s.toList.isEmpty by
        have := hall.out; rw [take_full] at this
        unfold nameP; rw [this, ByteArray.toList_eq]; rfl)
      go_wp2
      go_ret
      exact ⟨of_bool hf.out.symm, rfl⟩

theorem num_is (s : ByteArray) (w : World) (hs : s.size ≤ maxLen) (r : Int × Bool) (h : numP s = r) :
    Calls Tryz.prog 72 #[.string s] w fun e w' => e = .returned (.tuple #[.int .i64 r.1, .bool r.2]) ∧ w = w' := by
  rw [← h]; exact num_any s w hs
theorem name_is (s : ByteArray) (w : World) (hs : s.size ≤ maxLen) (r : Bool) (h : nameP s = r) : Calls Tryz.prog 74 #[.string s] w fun e w' => e = .returned (.bool r) ∧ w = w' := by
  rw [← h]; exact name_any s w hs

end Go.Proofs.YtleihhkacmgofaaGreatDoor

/- Contracts of parsePair, parseKind, parseHead, parseValue. -/
namespace Go.Proofs.YtleihhkacmgofaaGreatDoor
open Go.RowKit

theorem le_max {n : Nat} (h : n ≤ 100000) : n ≤ maxLen := by unfold maxLen; omega
theorem ret_iib {a b : Int} {c : Bool} {p : Int × Int × Bool} (h : (a, b, c) = p) : Ending.returned (.tuple #[.int .i64 a, .int .i64 b, .bool c]) = .returned (.tuple #[.int .i64 p.1, .int .i64 p.2.1, .bool p.2.2]) := by
  rw [← h]

set_option maxHeartbeats 800000 in
theorem pair_any (s sep : ByteArray) (w : World) (hE : Env w) (hs : s.size ≤ 100000) :
    Calls Tryz.prog 75 #[.string s, .string sep] w fun e w' => e = .returned (.tuple #[.int .i64 (pairP s sep).1, .int .i64 (pairP s sep).2.1, .bool (pairP s sep).2.2]) ∧ Below w.heap.size w w' := by
  obtain ⟨c, hc⟩ : ∃ c, c = cutB s sep := ⟨_, rfl⟩
  have hcs := cutB_size s sep
  rw [← hc] at hcs
  obtain ⟨hc1, hc2⟩ := hcs
  obtain ⟨c0, c1, c2⟩ := c
  dsimp only at hc1 hc2
  have h1 := le_max (Nat.le_trans hc1 hs)
  have h2 := le_max (Nat.le_trans hc2 hs)
  have HC := Lib.hid hc.symm
  have hcut (w : World) (hE : Env w) : Calls Tryz.prog 52 #[.string s, .string sep] w fun e w' => e = .returned (.tuple #[.string c0, .string c1, .bool c2]) ∧ Below w.heap.size w w' := by
    have := cut_any s sep w hE hs
    rw [← hc] at this; exact this
  have HCUT := Lib.hid hcut
  clear hc hcut hc1 hc2
  obtain ⟨⟨a, ab⟩, ha⟩ : ∃ a, a = numP c0 := ⟨_, rfl⟩
  obtain ⟨⟨b, bb⟩, hb⟩ : ∃ b, b = numP c1 := ⟨_, rfl⟩
  have HA := Lib.hid ha.symm
  have HB := Lib.hid hb.symm
  have hp := Lib.hid (show pairP s sep = if ab && bb then (a, b, true) else (0, 0, false) by unfold pairP; rw [HC.out]; dsimp only; rw [HA.out, HB.out])
  clear ha hb
  cases ab with
  | false =>
    go_enter Tryz.func75, Tryz.ntmps75
    go_wp2_with (first | (go_at_call 52; refine (HCUT.out _ hE).mono ?_; rintro e w1 ⟨rfl, hb1⟩) | (go_at_call 72; refine (num_is c0 _ h1 (a, false) HA.out).mono ?_; rintro e w' ⟨rfl, rfl⟩))
    go_ret3
    exact ⟨ret_iib (by rw [hp.out]; rfl), hb1⟩
  | true =>
    cases bb with
    | false =>
      go_enter Tryz.func75, Tryz.ntmps75
      go_wp2_with fail
      refine (HCUT.out _ hE).mono ?_; rintro e w1 ⟨rfl, hb1⟩
      go_wp2_with fail
      refine (num_is c0 _ h1 (a, true) HA.out).mono ?_; rintro e w' ⟨rfl, rfl⟩
      go_wp2_with fail
      refine (num_is c1 _ h2 (b, false) HB.out).mono ?_; rintro e w' ⟨rfl, rfl⟩
      go_wp2_with fail
      go_ret3
      exact ⟨ret_iib (by rw [hp.out]; rfl), hb1⟩
    | true =>
      go_enter Tryz.func75, Tryz.ntmps75
      go_wp2_with fail
      refine (HCUT.out _ hE).mono ?_; rintro e w1 ⟨rfl, hb1⟩
      go_wp2_with fail
      refine (num_is c0 _ h1 (a, true) HA.out).mono ?_; rintro e w' ⟨rfl, rfl⟩
      go_wp2_with fail
      refine (num_is c1 _ h2 (b, true) HB.out).mono ?_; rintro e w' ⟨rfl, rfl⟩
      go_wp2_with fail
      go_ret3
      exact ⟨ret_iib (by rw [hp.out]; rfl), hb1⟩

set_option maxHeartbeats 800000 in
theorem kindP_any (s : ByteArray) (w : World) (hE : Env w) :
    Calls Tryz.prog 96 #[.string s] w fun e w' => e = .returned (.tuple #[.int .i64 (kindP s).1, .bool (kindP s).2]) ∧ w = w' := by
  have k1 := hE.k1
  have k2 := hE.k2
  have k3 := hE.k3
  by_cases h1 : (([115] : List UInt8) == s.toList) = true
  · have hf := Lib.hid (show kindP s = (1, true) by unfold kindP; rw [if_pos (by simpa [strEq, ByteArray.toList_eq] using h1)])
    go_enter Tryz.func96, Tryz.ntmps96
    go_wp2
    refine wp_loop_rounds 1 ?_
    rw [rounds_succ]
    go_wp2
    go_ret2
    exact ⟨ret_ib hf.out.symm, rfl⟩
  have h1 : (([115] : List UInt8) == s.toList) = false := by simpa using h1
  have g1 := Lib.hid (show ¬ strEq ⟨#[115]⟩ s = true by simpa [strEq, ByteArray.toList_eq] using h1)
  by_cases h2 : (([119] : List UInt8) == s.toList) = true
  · have hf := Lib.hid (show kindP s = (2, true) by unfold kindP; rw [if_neg g1.out, if_pos (by simpa [strEq, ByteArray.toList_eq] using h2)])
    go_enter Tryz.func96, Tryz.ntmps96
    go_wp2
    refine wp_loop_rounds 2 ?_
    iterate 2 (rw [rounds_succ]; go_wp2)
    go_ret2
    exact ⟨ret_ib hf.out.symm, rfl⟩
  have h2 : (([119] : List UInt8) == s.toList) = false := by simpa using h2
  have g2 := Lib.hid (show ¬ strEq ⟨#[119]⟩ s = true by simpa [strEq, ByteArray.toList_eq] using h2)
  by_cases h3 : (([99] : List UInt8) == s.toList) = true
  · have hf := Lib.hid (show kindP s = (3, true) by unfold kindP; rw [if_neg g1.out, if_neg g2.out, if_pos (by simpa [strEq, ByteArray.toList_eq] using h3)])
    go_enter Tryz.func96, Tryz.ntmps96
    go_wp2
    refine wp_loop_rounds 3 ?_
    iterate 3 (rw [rounds_succ]; go_wp2)
    go_ret2
    exact ⟨ret_ib hf.out.symm, rfl⟩
  have h3 : (([99] : List UInt8) == s.toList) = false := by simpa using h3
  have g3 := Lib.hid (show ¬ strEq ⟨#[99]⟩ s = true by simpa [strEq, ByteArray.toList_eq] using h3)
  have hf := Lib.hid (show kindP s = (0, false) by unfold kindP; rw [if_neg g1.out, if_neg g2.out, if_neg g3.out])
  go_enter Tryz.func96, Tryz.ntmps96
  go_wp2
  refine wp_loop_rounds 4 ?_
  iterate 4 (rw [rounds_succ]; go_wp2)
  go_ret2
  exact ⟨ret_ib hf.out.symm, rfl⟩

end Go.Proofs.YtleihhkacmgofaaGreatDoor

/- Contracts of parseHead and parseValue. -/
namespace Go.Proofs.YtleihhkacmgofaaGreatDoor
open Go.RowKit

theorem blk_below {W w' : World} (hb : Below W.heap.size W w') {g : Nat} {cs : Array Value} {t : TypeId} (h : W.heap[g]? = some (.cells cs t (0, 0))) : w'.heap[g]? = some (.cells cs t (0, 0)) :=
  (hb.block g (Array.getElem?_eq_some_iff.1 h).1).trans h
theorem trim_len (l p : List UInt8) : (Lib.trimPrefix l p).length ≤ l.length := by unfold Lib.trimPrefix; split <;> simp

theorem prefix_any (s p : ByteArray) (w : World) : Calls Tryz.prog 71 #[.string s, .string p] w fun e w' => e = .returned (.tuple #[.string ⟨(Lib.trimPrefix s.data.toList p.data.toList).toArray⟩, .bool (Lib.hasPrefix s.data.toList p.data.toList)]) ∧ w = w' :=
  (Tryz.strings_CutPrefix s p w).mono fun _ _ ⟨h1, h2⟩ => ⟨h1, h2.symm⟩

set_option maxHeartbeats 800000 in
theorem head_any (s : ByteArray) (w : World) (hs : s.size ≤ 100000) :
    Calls Tryz.prog 53 #[.string s] w fun e w' => e = .returned (.tuple #[.int .i64 (headP s).1, .bool (headP s).2]) ∧ w = w' := by
  obtain ⟨t, ht⟩ : ∃ t : ByteArray, t = ⟨(Lib.trimPrefix s.data.toList [112, 101, 114, 105, 111, 100, 115, 32]).toArray⟩ := ⟨_, rfl⟩
  obtain ⟨b, hb⟩ : ∃ b, b = Lib.hasPrefix s.data.toList [112, 101, 114, 105, 111, 100, 115, 32] := ⟨_, rfl⟩
  have htl : t.size ≤ maxLen := by
    have h1 := trim_len s.data.toList [112, 101, 114, 105, 111, 100, 115, 32]
    have e : s.data.toList.length = s.size := Array.length_toList
    rw [e] at h1
    have e2 : t.size = (Lib.trimPrefix s.data.toList [112, 101, 114, 105, 111, 100, 115, 32]).length := by rw [ht]; show (Lib.trimPrefix _ _).toArray.size = _; rw [List.size_toArray]
    unfold maxLen; omega
  have hcp (w : World) : Calls Tryz.prog 71 #[.string s, .string ⟨#[112, 101, 114, 105, 111, 100, 115, 32]⟩] w fun e w' => e = .returned (.tuple #[.string t, .bool b]) ∧ w = w' := by
    rw [ht, hb]; exact prefix_any s _ w
  have hh : headP s = if b then numP t else (0, false) := by unfold headP; rw [← hb, ← ht]
  have HCP := Lib.hid hcp
  have HH := Lib.hid hh
  clear hcp hh ht hb
  cases b with
  | false =>
    go_enter Tryz.func53, Tryz.ntmps53
    go_wp2_with (first | (go_at_call 71; refine (HCP.out _).mono ?_; rintro e w' ⟨rfl, rfl⟩))
    go_ret2
    exact ⟨ret_ib (by rw [HH.out]; rfl), rfl⟩
  | true =>
    go_enter Tryz.func53, Tryz.ntmps53
    go_wp2_with (first | (go_at_call 71; refine (HCP.out _).mono ?_; rintro e w' ⟨rfl, rfl⟩) | (go_at_call 72; refine (num_any t _ htl).mono ?_; rintro e w' ⟨rfl, rfl⟩))
    go_ret2
    exact ⟨ret_ib (by rw [HH.out]; rfl), rfl⟩

theorem ret_vb {v : Va} {b : Bool} {p : Va × Bool} (h : (v, b) = p) : Ending.returned (.tuple #[v.val, .bool b]) = .returned (.tuple #[p.1.val, .bool p.2]) := by
  rw [← h]

set_option maxHeartbeats 1600000 in
theorem value_any (s : ByteArray) (w : World) (hE : Env w) (hs : s.size ≤ 100000) :
    Calls Tryz.prog 76 #[.string s] w fun e w' => e = .returned (.tuple #[(valueP s).1.val, .bool (valueP s).2]) ∧ Below w.heap.size w w' := by
  obtain ⟨⟨c0, c1, c2⟩, hc⟩ : ∃ c, c = cutB s ⟨#[58]⟩ := ⟨_, rfl⟩
  obtain ⟨⟨d0, d1, d2⟩, hd⟩ : ∃ d, d = cutB c1 ⟨#[64]⟩ := ⟨_, rfl⟩
  have hcs := cutB_size s ⟨#[58]⟩
  rw [← hc] at hcs
  have hds := cutB_size c1 ⟨#[64]⟩
  rw [← hd] at hds
  dsimp only at hcs hds
  have hc0 := Lib.hid (le_max (Nat.le_trans hcs.1 hs))
  have hc1 := Lib.hid (Nat.le_trans hcs.2 hs)
  have hd0 := Lib.hid (le_max (Nat.le_trans hds.1 hc1.out))
  have hd1 := Lib.hid (Nat.le_trans hds.2 hc1.out)
  obtain ⟨⟨k, kb⟩, hk⟩ : ∃ k, k = kindP c0 := ⟨_, rfl⟩
  obtain ⟨nb, hn⟩ : ∃ n, n = nameP d0 := ⟨_, rfl⟩
  obtain ⟨⟨p0, p1, pb⟩, hp⟩ : ∃ p, p = pairP d1 ⟨#[45]⟩ := ⟨_, rfl⟩
  have HV := Lib.hid (show valueP s = if kb && nb && pb then (⟨k, d0, p0, p1⟩, true) else (zeroVa, false) by
    unfold valueP; rw [← hc]; dsimp only; rw [← hd]; dsimp only; rw [← hk, ← hn, ← hp])
  have A1 := Lib.hid (fun (w : World) (hE : Env w) => show Calls Tryz.prog 52 #[.string s, .string ⟨#[58]⟩] w fun e w' => e = .returned (.tuple #[.string c0, .string c1, .bool c2]) ∧ Below w.heap.size w w' by
    have := cut_any s ⟨#[58]⟩ w hE hs; rw [← hc] at this; exact this)
  have A2 := Lib.hid (fun (w : World) (hE : Env w) => show Calls Tryz.prog 52 #[.string c1, .string ⟨#[64]⟩] w fun e w' => e = .returned (.tuple #[.string d0, .string d1, .bool d2]) ∧ Below w.heap.size w w' by
    have := cut_any c1 ⟨#[64]⟩ w hE hc1.out; rw [← hd] at this; exact this)
  have A3 := Lib.hid (fun (w : World) (hE : Env w) => show Calls Tryz.prog 96 #[.string c0] w fun e w' => e = .returned (.tuple #[.int .i64 k, .bool kb]) ∧ w = w' by
    have := kindP_any c0 w hE; rw [← hk] at this; exact this)
  have A4 := Lib.hid (fun (w : World) => show Calls Tryz.prog 74 #[.string d0] w fun e w' => e = .returned (.bool nb) ∧ w = w' by
    have := name_any d0 w hd0.out; rw [← hn] at this; exact this)
  have A5 := Lib.hid (fun (w : World) (hE : Env w) => show Calls Tryz.prog 75 #[.string d1, .string ⟨#[45]⟩] w fun e w' => e = .returned (.tuple #[.int .i64 p0, .int .i64 p1, .bool pb]) ∧ Below w.heap.size w w' by
    have := pair_any d1 ⟨#[45]⟩ w hE hd1.out; rw [← hp] at this; exact this)
  clear hc hd hk hn hp hcs hds
  have hE0 := Lib.hid (hE.below (below_alloc w (.cells #[.int .i64 0, .string ⟨#[]⟩, .int .i64 0, .int .i64 0] 42)))
  have hB0 := Lib.hid (heap_alloc_new w (.cells #[.int .i64 0, .string ⟨#[]⟩, .int .i64 0, .int .i64 0] 42))
  have hb0 := Lib.hid (below_alloc w (.cells #[.int .i64 0, .string ⟨#[]⟩, .int .i64 0, .int .i64 0] 42))
  go_enter Tryz.func76, Tryz.ntmps76
  go_wp2_with fail
  refine (A1.out _ hE0.out).mono ?_; rintro e w1 ⟨rfl, hb1⟩
  have E1 := Lib.hid (hE0.out.below hb1)
  have b1 := Lib.hid (below_more hb0.out hb1)
  have B1 := Lib.hid (blk_below hb1 hB0.out)
  clear hb1
  go_wp2_with fail
  refine (A2.out _ E1.out).mono ?_; rintro e w2 ⟨rfl, hb2⟩
  have E2 := Lib.hid (E1.out.below hb2)
  have b2 := Lib.hid (below_more b1.out hb2)
  have B2 := Lib.hid (blk_below hb2 B1.out)
  clear hb2
  go_wp2_with fail
  refine (A3.out _ E2.out).mono ?_; rintro e w' ⟨rfl, rfl⟩
  have q0 := cell_of_blk B2.out 0
  have q1 := cell_of_blk B2.out 1
  have q2 := cell_of_blk B2.out 2
  have q3 := cell_of_blk B2.out 3
  simp at q0 q1 q2 q3
  have f0 := free_of_blk B2.out 0
  have f1 := free_of_blk B2.out 1
  have f2 := free_of_blk B2.out 2
  have f3 := free_of_blk B2.out 3
  cases kb with
  | false =>
    go_wp2_with fail
    refine bodyPost_ret (v := .tuple #[zeroVa.val, .bool false]) (by simp [results, Tryz.results76, go_sem, q0, q1, q2, q3, zeroVa, Va.val]) rfl ⟨ret_vb (by rw [HV.out]; rfl), ?_⟩
    exact (((b2.out.setCell (Nat.le_refl _) _).setCell (Nat.le_refl _) _).setCell (Nat.le_refl _) _).setCell (Nat.le_refl _) _
  | true =>
    cases nb with
    | false =>
      go_wp2_with fail
      refine (A4.out _).mono ?_; rintro e w' ⟨rfl, rfl⟩
      go_wp2_with fail
      refine bodyPost_ret (v := .tuple #[zeroVa.val, .bool false]) (by simp [results, Tryz.results76, go_sem, q0, q1, q2, q3, zeroVa, Va.val]) rfl ⟨ret_vb (by rw [HV.out]; rfl), ?_⟩
      exact (((b2.out.setCell (Nat.le_refl _) _).setCell (Nat.le_refl _) _).setCell (Nat.le_refl _) _).setCell (Nat.le_refl _) _
    | true =>
      clear q0 q1 q2 q3 f0 f1 f2 f3
      go_wp2_with fail
      refine (A4.out _).mono ?_; rintro e w' ⟨rfl, rfl⟩
      go_wp2_with fail
      refine (A5.out _ E2.out).mono ?_; rintro e w3 ⟨rfl, hb3⟩
      have b3 := Lib.hid (below_more b2.out hb3)
      have B3 := Lib.hid (blk_below hb3 B2.out)
      clear hb3
      have q0 := cell_of_blk B3.out 0
      have q1 := cell_of_blk B3.out 1
      have q2 := cell_of_blk B3.out 2
      have q3 := cell_of_blk B3.out 3
      simp at q0 q1 q2 q3
      have f0 := free_of_blk B3.out 0
      have f1 := free_of_blk B3.out 1
      have f2 := free_of_blk B3.out 2
      have f3 := free_of_blk B3.out 3
      cases pb with
      | false =>
        go_wp2_with fail
        refine bodyPost_ret (v := .tuple #[zeroVa.val, .bool false]) (by simp [results, Tryz.results76, go_sem, q0, q1, q2, q3, zeroVa, Va.val]) rfl ⟨ret_vb (by rw [HV.out]; rfl), ?_⟩
        exact (((b3.out.setCell (Nat.le_refl _) _).setCell (Nat.le_refl _) _).setCell (Nat.le_refl _) _).setCell (Nat.le_refl _) _
      | true =>
        go_wp2_with fail
        refine bodyPost_ret (v := .tuple #[Va.val ⟨k, d0, p0, p1⟩, .bool true]) (by simp [results, Tryz.results76, go_sem, q0, q1, q2, q3, Va.val]) rfl ⟨ret_vb (by rw [HV.out]; rfl), ?_⟩
        exact (((b3.out.setCell (Nat.le_refl _) _).setCell (Nat.le_refl _) _).setCell (Nat.le_refl _) _).setCell (Nat.le_refl _) _

end Go.Proofs.YtleihhkacmgofaaGreatDoor
