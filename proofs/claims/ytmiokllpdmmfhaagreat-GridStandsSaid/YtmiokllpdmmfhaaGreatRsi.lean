/-
  The natural size of a node (size), by the specification.
-/
import Derived.Test.YtmiokllpdmmfhaaGreatLcA
import Derived.Test.YtmiokllpdmmfhaaGreatLaG
import Derived.Test.YtmiokllpdmmfhaaGreatLaF
import Derived.Deep.DeepCutAuto
import Derived.Test.YtmiokllpdmmfhaaGreatLbC
namespace Go.Proofs.YtmiokllpdmmfhaaGreat
open Go.RowKit
def GotS2 (p : Int × Int) (w : World) (e : Ending) (w' : World) : Prop := e = .returned (.tuple #[.int .i64 p.1, .int .i64 p.2]) ∧ Below w.heap.size w w'
theorem gotS2 {a b : Int} {p : Int × Int} {w w' : World} (h : p = (a, b)) (hb : Below w.heap.size w w') : GotS2 p w (.returned (.tuple #[.int .i64 a, .int .i64 b])) w' := by rw [h]; exact ⟨rfl, hb⟩
theorem ovl_size {l : Li} {cw : Bool} {zs : List Nd} (h : Pln l zs) {i : Nat} {u : Nd} (hu : zs[i]? = some u) (hk : u.kind = 4) (f : Nat) (inner : Bool) : inI inner (shpI l cw zs (f + 2) i) = (shpI l cw zs (f + 1) (i + 1)).size := by
  obtain ⟨n1, n2, h1, h2, k1, k2, hkl, _⟩ := ovl_kids h hu hk
  have e : shpI l cw zs (f + 2) i = ovlI l zs (kidsL zs i) := by
    rw [shpI, kindAt_is hu, hk]; rfl
  have e1 : shpI l cw zs (f + 1) (i + 1) = .gly n1 (glyI l n1).1 (glyI l n1).2 := by
    rw [shpI, kindAt_is h1, k1, getN_at h1]; rfl
  rw [e, e1, hkl]
  unfold ovlI
  have g1 : getN zs ([i + 1, i + 2].getD 0 0) = n1 := getN_at h1
  rw [g1]
  cases inner <;> rfl
set_option maxRecDepth 100000 in
set_option maxHeartbeats 16000000 in
theorem rsz_any (L : Lm) (way len : Int) (A : Option Addr) (cap : Nat) (zs : List Nd) (hp : Pln L.li zs) (hc1 : zs.length ≤ cap) (hc : cap ≤ maxLen) : ∀ (f i : Nat) (u : Nd) (inner : Bool) (w : World), zs[i]? = some u → 5 ≤ u.depth + f → f ≤ 5 → LmOk w L → NdsAt w A zs →
    Calls Tryz.prog 58 #[.agg #[.int .i64 L.per, .slice L.A L.ms.length L.cap], .agg #[.slice A zs.length cap], .agg #[.int .i64 way, .int .i64 len], .int .i64 i, .bool inner] w (GotS2 (inI inner (shpI L.li (cwN way) zs f i)) w)
  | 0, i, u, inner, w, hu, hf, _, _, _ => by have := (hp.full.depth u (List.mem_of_getElem? hu)).2; omega
  | f + 1, i, u, inner, w, hu, hf, hf5, hl, hn => by
    have hud := hp.full.depth u (List.mem_of_getElem? hu)
    have hkin := kind_in hp hu
    have HIH := Lib.hid (fun (j : Nat) (x : Nd) (wx : World) (hb : Below w.heap.size w wx) (hj : zs[j]? = some x) (hd : 5 ≤ x.depth + f) => rsz_any L way len A cap zs hp hc1 hc f j x false wx hj hd (by omega) (hl.below hb) (hn.below hb))
    have HPL := Lib.hid hp
    have HU := Lib.hid hu
    have HL := Lib.hid hl
    have hil := (List.getElem?_eq_some_iff.1 hu).1
    have h200 := (text_ok hp.ok).2.1
    obtain ⟨b, o, rfl, hb, hva⟩ := hn i u hu
    have HKD := Lib.hid (fun wx (hbx : Below w.heap.size w wx) => show Calls Tryz.prog 60 #[.agg #[.slice (some ⟨b, o, none⟩) zs.length cap], .int .i64 i] wx (GotRow wx 3 1 (kidsL zs i).length (intsV (kidsL zs i))) by
      have := rkids_any (some ⟨b, o, none⟩) cap zs i (u.depth + 1) (i + 1) wx (hn.below hbx) hc1 hc (by omega) (.inl ⟨i, u, rfl, hu, rfl, rfl, by omega, by omega⟩)
      rw [kidsG_is hu] at this; exact this)
    have HAT := Lib.hid (fun j (hj : j ∈ kidsL zs i) => kids_at hu hj)
    have HSX := Lib.hid (fits_six hp.fits i)
    have HVA := Lib.hid hva
    have HDU := Lib.hid hf
    have HSP := Lib.hid (fun wx => rspace_any u wx (by omega))
    have HAC := Lib.hid (fun wx => racross_any u way len wx)
    have hspc := spc_bd u (by omega)
    obtain ⟨N, hN⟩ : ∃ N, N = zs.length := ⟨_, rfl⟩
    have HNN := Lib.hid hN
    rw [← hN] at hc1 hil h200 HKD HIH ⊢
    unfold maxLen at hc
    obtain ⟨R, hR⟩ : ∃ R, R = inI inner (shpI L.li (cwN way) zs (f + 1) i) := ⟨_, rfl⟩
    have HR := Lib.hid hR
    rw [← hR]
    clear hR hN hl hn hva hf hu
    obtain ⟨W1, hW1⟩ : ∃ W', W' = w.alloc (.cells #[.int .i64 L.per, .slice L.A L.ms.length L.cap] 24) := ⟨_, rfl⟩; obtain ⟨W2, hW2⟩ : ∃ W', W' = W1.alloc (.cells #[.slice (some ⟨b, o, none⟩) N cap] 27) := ⟨_, rfl⟩; obtain ⟨W, hW⟩ : ∃ W', W' = W2.alloc (.cells #[.int .i64 way, .int .i64 len] 31) := ⟨_, rfl⟩; have szW1 : W1.heap.size = w.heap.size + 1 := (by rw [hW1]; simp); have kbW1 : Below w.heap.size w W1 := hW1 ▸ below_alloc _ _; have szW2 : W2.heap.size = w.heap.size + 1 + 1 := (by rw [hW2]; simp [szW1]); have kbW2 : Below W1.heap.size W1 W2 := hW2 ▸ below_alloc _ _; have szW : W.heap.size = w.heap.size + 1 + 1 + 1 := (by rw [hW]; simp [szW2]); have kbW : Below W2.heap.size W2 W := hW ▸ below_alloc _ _; have HB := Lib.hid (below_more (below_more kbW1 kbW2) kbW); have D0 := Lib.hid (blk_keep kbW (blk_keep kbW2 (show W1.heap[w.heap.size]? = some (.cells #[.int .i64 L.per, .slice L.A L.ms.length L.cap] 24 (0, 0)) by rw [hW1]; exact heap_alloc_new _ _))); have D1 := Lib.hid (blk_keep kbW (show W2.heap[w.heap.size + 1]? = some (.cells #[.slice (some ⟨b, o, none⟩) N cap] 27 (0, 0)) by rw [hW2, ← szW1]; exact heap_alloc_new _ _)); have D2 := Lib.hid (show W.heap[w.heap.size + 1 + 1]? = some (.cells #[.int .i64 way, .int .i64 len] 31 (0, 0)) by rw [hW, ← szW2]; exact heap_alloc_new _ _); have SZW := Lib.hid szW; clear szW1 kbW1 szW2 kbW2 szW kbW
    have x0 := cell_of_blk D0.out 0; have x1 := cell_of_blk D0.out 1; have hz_x := (Array.getElem?_eq_some_iff.1 D0.out).1; simp at x0 x1
    have y0 := cell_of_blk D1.out 0; have hz_y := (Array.getElem?_eq_some_iff.1 D1.out).1; simp at y0
    have p0 := cell_of_blk D2.out 0; have p1 := cell_of_blk D2.out 1; have hz_p := (Array.getElem?_eq_some_iff.1 D2.out).1; simp at p0 p1
    have hb1 : b < w.heap.size + 1 := by omega
    have hb2 : b < w.heap.size + 1 + 1 := by omega
    have hb3 : b < w.heap.size + 1 + 1 + 1 := by omega
    have z0 := HVA.out.c0
    have z1 := HVA.out.c1
    have z2 := HVA.out.c2
    have z3 := HVA.out.c3
    have z4 := HVA.out.c4
    have z5 := HVA.out.c5
    have z6 := HVA.out.c6
    have z7 := HVA.out.c7
    have hi0 : (0 : Int) ≤ (i : Int) := by omega
    have hiN : (i : Int) < (N : Int) := by omega
    obtain ⟨uk, ud, us, ut, um, ust, umn, umx⟩ := u
    unfold Nd.val at HSP HAC
    dsimp only at HSP HAC z0 z1 z2 z3 z4 z5 z6 z7 hkin hud HDU
    go_enter Tryz.func58, Tryz.ntmps58
    go_wp2_with fail
    rw [← hW1, ← hW2, ← hW]; clear hW1 hW2 hW
    obtain ⟨V, hV⟩ : ∃ V, V = W.alloc (.cells #[.int .i64 uk, .int .i64 ud, .int .i64 us, .int .i64 ut, .bool um, .int .i64 ust, .int .i64 umn, .int .i64 umx] 87) := ⟨_, rfl⟩
    have kV : Below W.heap.size W V := hV ▸ below_alloc _ _
    have DV := Lib.hid (show V.heap[w.heap.size + 1 + 1 + 1]? = some (.cells #[.int .i64 uk, .int .i64 ud, .int .i64 us, .int .i64 ut, .bool um, .int .i64 ust, .int .i64 umn, .int .i64 umx] 87 (0, 0)) from SZW.out ▸ hV ▸ heap_alloc_new W _)
    have HBV := Lib.hid (below_more HB.out kV)
    have D0 := Lib.hid (blk_keep kV D0.out)
    have D1 := Lib.hid (blk_keep kV D1.out)
    have D2 := Lib.hid (blk_keep kV D2.out)
    rw [← hV]
    clear hV kV x0 x1 hz_x y0 hz_y p0 p1 hz_p z0 z1 z2 z3 z4 z5 z6 z7 hb1 hb2 hb3
    refine (HKD.out V HBV.out).mono ?_; rintro e w1 ⟨A1, c1, rfl, hown, hb1⟩
    have HB1 := Lib.hid (below_more HBV.out hb1)
    have HO1 := Lib.hid hown
    have E0 := Lib.hid (blk_keep hb1 D0.out)
    have E1 := Lib.hid (blk_keep hb1 D1.out)
    have E2 := Lib.hid (blk_keep hb1 D2.out)
    have EV := Lib.hid (blk_keep hb1 DV.out)
    clear hown hb1 HKD D0 D1 D2 DV hi0 hiN
    have x0 := cell_of_blk E0.out 0; have x1 := cell_of_blk E0.out 1; have hz_x := (Array.getElem?_eq_some_iff.1 E0.out).1; simp at x0 x1
    have n0 := cell_of_blk EV.out 0; have n1 := cell_of_blk EV.out 1; have n2 := cell_of_blk EV.out 2; have n3 := cell_of_blk EV.out 3; have n4 := cell_of_blk EV.out 4; have n5 := cell_of_blk EV.out 5; have n6 := cell_of_blk EV.out 6; have n7 := cell_of_blk EV.out 7; have hz_n := (Array.getElem?_eq_some_iff.1 EV.out).1; simp at n0 n1 n2 n3 n4 n5 n6 n7
    have HKI := Lib.hid hkin
    obtain ⟨ks0, hks0⟩ : ∃ ks0, ks0 = kidsL zs i := ⟨_, rfl⟩
    rw [← hks0] at HO1 HAT HSX ⊢
    have HKL := Lib.hid hks0
    obtain ⟨n, hn⟩ : ∃ n, n = ks0.length := ⟨_, rfl⟩
    have HNK := Lib.hid hn
    rw [← hn] at HO1 HSX ⊢
    have hn6 : n ≤ 6 := HSX.out
    clear hks0 hn
    by_cases hk1 : uk = 1
    · subst hk1
      obtain ⟨⟨q1, q2, q3⟩, hq⟩ : ∃ q, q = sizeR L.li us ut := ⟨_, rfl⟩
      have hgb := gly_bd HPL.out HU.out rfl
      have HF := Lib.hid (show R = (4 * q1, 4 * q2) by
        rw [HR.out, shpI, kindAt_is HU.out, getN_at HU.out]
        dsimp only
        rw [if_pos rfl]
        unfold glyI
        dsimp only
        rw [← hq]
        cases inner <;> rfl)
      unfold glyI at hgb
      dsimp only at hgb
      rw [← hq] at hgb
      dsimp only at hgb
      have HSZ := Lib.hid (fun wx (hbx : Below w.heap.size w wx) => show Calls Tryz.prog 95 #[.agg #[.int .i64 L.per, .slice L.A L.ms.length L.cap], .int .i64 us, .int .i64 ut] wx (fun e w' => e = .returned (.tuple #[.int .i64 q1, .int .i64 q2, .int .i64 q3]) ∧ Below wx.heap.size wx w') by
        have := rsize_any L us ut wx (HL.out.below hbx)
        rw [← hq] at this; exact this)
      obtain ⟨⟨g1, g2⟩, g3, g4⟩ := hgb
      clear hq HR
      go_wp2_with fail
      refine (HSZ.out _ HB1.out).mono ?_; rintro e w2 ⟨rfl, hb2⟩
      have HB2 := Lib.hid (below_more HB1.out hb2)
      clear hb2 x0 x1 hz_x n0 n1 n2 n3 n4 n5 n6 n7 hz_n
      go_wp2_with fail
      go_ret2
      exact gotS2 HF.out HB2.out
    by_cases hk6 : uk = 6
    · subst hk6
      have hgp := gap_in (HPL.out.node HU.out) rfl
      dsimp only at hgp
      have HF := Lib.hid (show R = (12 * umx, 24) by
        rw [HR.out, shpI, kindAt_is HU.out, getN_at HU.out]
        dsimp only
        rw [if_neg (by decide), if_pos rfl]
        cases inner <;> rfl)
      obtain ⟨g1, g2⟩ := hgp
      clear HR
      go_wp2_with fail
      go_ret2
      exact gotS2 HF.out HB1.out
    by_cases hk4 : uk = 4
    · subst hk4
      obtain ⟨f, rfl⟩ : ∃ f', f = f' + 1 := ⟨f - 1, by
        obtain ⟨m1, m2, h1, h2, k1, k2, hkl, _⟩ := ovl_kids HPL.out HU.out rfl
        obtain ⟨v, hv, hvd⟩ := HAT.out (i + 1) (by rw [HKL.out, hkl]; simp)
        have h3 := (HPL.out.full.depth v (List.mem_of_getElem? hv)).2
        have h4 : v.depth = ud + 1 := hvd
        have h5 := HDU.out
        omega⟩
      have HF := Lib.hid (show R = (shpI L.li (cwN way) zs (f + 1) (i + 1)).size by rw [HR.out]; exact ovl_size HPL.out HU.out rfl f inner)
      obtain ⟨m1, m2, h1, h2, k1, k2, hkl, _⟩ := ovl_kids HPL.out HU.out rfl
      rw [← HKL.out] at hkl
      have hn2 : n = 2 := by rw [HNK.out, hkl]; rfl
      obtain ⟨v, hv, hvd⟩ := HAT.out (i + 1) (by rw [hkl]; simp)
      have hvd : v.depth = ud + 1 := hvd
      have hdu := HDU.out
      have HIC := Lib.hid (fun wx (hbx : Below w.heap.size w wx) => show Calls Tryz.prog 58 #[.agg #[.int .i64 L.per, .slice L.A L.ms.length L.cap], .agg #[.slice (some ⟨b, o, none⟩) N cap], .agg #[.int .i64 way, .int .i64 len], .int .i64 ((i + 1 : Nat) : Int), .bool false] wx (fun e w' => e = .returned (.tuple #[.int .i64 R.1, .int .i64 R.2]) ∧ Below wx.heap.size wx w') by
        have := HIH.out (i + 1) v wx hbx hv (by omega)
        rw [inI_false, ← HF.out] at this; exact this)
      obtain ⟨g, rfl, -, hg, -, -, hcell, -⟩ := own_open HO1.out (by omega)
      have z : w1.cell? ⟨g, 0, none⟩ = some (.int .i64 ((i + 1 : Nat) : Int)) := hcell 0 _ (by unfold intsV; rw [hkl]; rfl)
      subst hn2
      have HEQ := Lib.hid (show R = (R.1, R.2) from rfl)
      obtain ⟨r1, hr1⟩ : ∃ r, r = R.1 := ⟨_, rfl⟩
      obtain ⟨r2, hr2⟩ : ∃ r, r = R.2 := ⟨_, rfl⟩
      rw [← hr1, ← hr2] at HEQ HIC
      obtain ⟨ii, hii⟩ : ∃ ii : Int, ii = ((i + 1 : Nat) : Int) := ⟨_, rfl⟩
      rw [← hii] at HIC z
      have y0 := cell_of_blk E1.out 0; have hz_y := (Array.getElem?_eq_some_iff.1 E1.out).1; simp at y0
      have p0 := cell_of_blk E2.out 0; have p1 := cell_of_blk E2.out 1; have hz_p := (Array.getElem?_eq_some_iff.1 E2.out).1; simp at p0 p1
      clear hr1 hr2 hii hkl hv hvd hdu h1 h2 k1 k2 hcell HR HIH HF
      go_wp2_with fail
      refine wp_region_later (by kernel_rfl) (by kernel_rfl) ?_; (repeat (first | go_big_quiet_step (((go_at_call 58; exact Calls.later _ (HIC.out _ (below_more HB1.out (Later.below _)))))) | quiet_step (((go_at_call 58; exact Calls.later _ (HIC.out _ (below_more HB1.out (Later.below _)))))))); refine wpQuiet_nil ?_; rintro _ ⟨s, rfl⟩
      go_wp2_with fail
      go_ret2
      exact gotS2 HEQ.out (below_more HB1.out s.below)
    have hk235 : uk = 2 ∨ uk = 3 ∨ uk = 5 := by have := HKI.out; omega
    have hlow : 1 ≤ n := by rw [HNK.out, HKL.out]; exact low_kids HPL.out HU.out hk1 hk6
    obtain ⟨ks, hks⟩ : ∃ ks, ks = ks0.map (shpI L.li (cwN way) zs f) := ⟨_, rfl⟩
    obtain ⟨acr, hacr⟩ : ∃ a, a = acrB ⟨uk, ud, us, ut, um, ust, umn, umx⟩ way := ⟨_, rfl⟩
    obtain ⟨sp, hsp⟩ : ∃ a, a = spcR ⟨uk, ud, us, ut, um, ust, umn, umx⟩ := ⟨_, rfl⟩
    have HF := Lib.hid (show R = (accW acr sp ks + (if (uk == 5 && !inner) then 24 else 0), accH acr sp ks + (if (uk == 5 && !inner) then 24 else 0)) by
      rw [HR.out, hacr, hsp, hks, HKL.out]
      exact shp_acc HU.out hk235 f (by rw [← HKL.out, ← HNK.out]; exact hlow) inner)
    rw [← hacr] at HAC
    rw [← hsp] at HSP hspc
    have HKB := Lib.hid (show ∀ k ∈ ks, (0 ≤ k.size.1 ∧ k.size.1 ≤ 172084) ∧ (0 ≤ k.size.2 ∧ k.size.2 ≤ 172084) from fun k hk => by
      rw [hks] at hk
      obtain ⟨j, hj, rfl⟩ := List.mem_map.1 hk
      obtain ⟨v, hv, hvd⟩ := HAT.out j hj
      have hvd : v.depth = ud + 1 := hvd
      have h1 := sh_bd (cwN way) HPL.out f j v hv (by have := HDU.out; omega) (by omega)
      have h2 := bndI_le f (by omega)
      omega)
    have HNK2 := Lib.hid (show n = ks.length by rw [HNK.out, hks, List.length_map])
    have HIC := Lib.hid (fun (j : Nat) (kj : Nat) (hkj : ks0[j]? = some kj) => show ∃ k, ks[j]? = some k ∧ ∀ wx, Below w.heap.size w wx → Calls Tryz.prog 58 #[.agg #[.int .i64 L.per, .slice L.A L.ms.length L.cap], .agg #[.slice (some ⟨b, o, none⟩) N cap], .agg #[.int .i64 way, .int .i64 len], .int .i64 (kj : Int), .bool false] wx (fun e w' => e = .returned (.tuple #[.int .i64 k.size.1, .int .i64 k.size.2]) ∧ Below wx.heap.size wx w') by
      obtain ⟨v, hv, hvd⟩ := HAT.out kj (List.mem_of_getElem? hkj)
      have hvd : v.depth = ud + 1 := hvd
      refine ⟨shpI L.li (cwN way) zs f kj, by rw [hks, List.getElem?_map, hkj]; rfl, fun wx hbx => ?_⟩
      have := HIH.out kj v wx hbx hv (by have := HDU.out; omega)
      rw [inI_false] at this; exact this)
    obtain ⟨g, rfl, -, hg, -, -, hcell, -⟩ := own_open HO1.out (by omega)
    have HCE := Lib.hid (fun (j : Nat) (kj : Nat) (hkj : ks0[j]? = some kj) => show w1.cell? ⟨g, j, none⟩ = some (.int .i64 (kj : Int)) from hcell j _ (by unfold intsV; rw [List.getElem?_map, hkj]; rfl))
    have e1 : (uk == 1) = false := by simpa using hk1
    have e4 : (uk == 4) = false := by simpa using hk4
    have e6 : (uk == 6) = false := by simpa using hk6
    obtain ⟨k5, hk5⟩ : ∃ k5, (uk == 5) = k5 := ⟨_, rfl⟩
    have HK5 := Lib.hid hk5
    have HABD := Lib.hid (fun (j : Nat) => acc_bd acr sp (ks.take j) 172084 (fun k hk => HKB.out k (List.mem_of_mem_take hk)) (by omega) (by rw [List.length_take]; have := HNK2.out; omega) hspc)
    obtain ⟨s1, s2⟩ := hspc
    clear hk1 hk4 hk6 hk235 hks hacr hsp hcell hk5 HR HIH x0 x1 hz_x
    go_wp2_with fail
    clear n0 n1 n2 n3 n4 n5 n6 n7 hz_n
    go_loopw [17, 18, 19] (fun a c i wr => ∃ j : Nat, j ≤ n ∧ i = .int .i64 j ∧ Hid (a = .int .i64 (accW acr sp (ks.take j)) ∧ c = .int .i64 (accH acr sp (ks.take j))) ∧ Hid (Below w1.heap.size w1 wr)) (fun _ _ i _ => n - (intOf i).toNat)
    case atStart => exact ⟨0, Nat.zero_le _, rfl, Lib.hid ⟨by cases acr <;> simp [accW, sumW, maxW, spn], by cases acr <;> simp [accH, sumH, maxH, spn]⟩, Lib.hid (Below.refl _ _)⟩
    case round =>
      obtain ⟨j, hj, rfl, hab, hbw⟩ := hrel
      obtain ⟨rfl, rfl⟩ := hab.out
      have HBR := Lib.hid hbw.out
      clear hab hbw
      have hbd := HABD.out j
      obtain ⟨x, hx⟩ : ∃ x, x = accW acr sp (ks.take j) := ⟨_, rfl⟩
      obtain ⟨y, hy⟩ : ∃ y, y = accH acr sp (ks.take j) := ⟨_, rfl⟩
      rw [← hx, ← hy] at hbd ⊢
      have HX := Lib.hid hx
      have HY := Lib.hid hy
      have HBW := Lib.hid (below_more HB1.out HBR.out)
      obtain ⟨⟨bx1, bx2⟩, by1, by2⟩ := hbd
      clear hx hy
      by_cases hlt : j < n
      · obtain ⟨kj, hkj⟩ : ∃ kj, ks0[j]? = some kj := ⟨_, List.getElem?_eq_getElem (by have := HNK.out; omega)⟩
        obtain ⟨k, hk, hcall⟩ := HIC.out j kj hkj
        have z := (HBR.out.cell (p := ⟨g, j, none⟩) hg).trans (HCE.out j kj hkj)
        have hbr : g < wr.heap.size := by have := HBR.out.size; omega
        have hkb := HKB.out k (List.mem_of_getElem? hk)
        have hj0 : (0 : Int) ≤ (j : Int) := by omega
        have hjn : (j : Int) < (n : Int) := by omega
        have HT := Lib.hid (take_snocS hk)
        have HLT := Lib.hid (show (ks.take j).length = j by rw [List.length_take]; have := HNK2.out; omega)
        have HW1 := Lib.hid (accW_step acr sp (ks.take j) k hkb.1.1)
        have HH1 := Lib.hid (accH_step acr sp (ks.take j) k hkb.2.1)
        obtain ⟨⟨sw, sh⟩, hp⟩ : ∃ p, p = k.size := ⟨_, rfl⟩
        have HC2 := Lib.hid hcall
        rw [← hp] at hkb HW1 HH1 HC2
        dsimp only at hkb HW1 HH1 HC2
        obtain ⟨⟨u1, u2⟩, u3, u4⟩ := hkb
        have F0 := Lib.hid (blk_keep HBR.out E0.out)
        have F1 := Lib.hid (blk_keep HBR.out E1.out)
        have F2 := Lib.hid (blk_keep HBR.out E2.out)
        have FV := Lib.hid (blk_keep HBR.out EV.out)
        have x0 := cell_of_blk F0.out 0; have x1 := cell_of_blk F0.out 1; have hz_x := (Array.getElem?_eq_some_iff.1 F0.out).1; simp at x0 x1
        have y0 := cell_of_blk F1.out 0; have hz_y := (Array.getElem?_eq_some_iff.1 F1.out).1; simp at y0
        have p0 := cell_of_blk F2.out 0; have p1 := cell_of_blk F2.out 1; have hz_p := (Array.getElem?_eq_some_iff.1 F2.out).1; simp at p0 p1
        obtain ⟨kz, hkz⟩ : ∃ kz : Int, kz = (kj : Int) := ⟨_, rfl⟩
        rw [← hkz] at z HC2
        clear hkj hk hcall hp hkz
        go_wp2_with fail
        refine wp_region_later (by kernel_rfl) (by kernel_rfl) ?_; (repeat (first | go_big_quiet_step (((go_at_call 58; exact Calls.later _ (HC2.out _ (below_more HBW.out (Later.below _)))))) | quiet_step (((go_at_call 58; exact Calls.later _ (HC2.out _ (below_more HBW.out (Later.below _)))))))); refine wpQuiet_nil ?_; rintro _ ⟨s, rfl⟩
        have HB2 := Lib.hid (below_more HBW.out s.below)
        have HBR2 := Lib.hid (HBR.out.trans (s.below.mono HBR.out.size))
        have F2 := Lib.hid (blk_keep s.below F2.out)
        have FV := Lib.hid (blk_keep s.below FV.out)
        obtain ⟨w2, hw2⟩ : ∃ w2, w2 = s.w := ⟨_, rfl⟩
        rw [← hw2] at HB2 HBR2 F2 FV ⊢
        clear hw2 s z hbr x0 x1 hz_x y0 hz_y p0 p1 hz_p
        have p0 := cell_of_blk F2.out 0; have p1 := cell_of_blk F2.out 1; have hz_p := (Array.getElem?_eq_some_iff.1 F2.out).1; simp at p0 p1
        have n0 := cell_of_blk FV.out 0; have n1 := cell_of_blk FV.out 1; have n2 := cell_of_blk FV.out 2; have n3 := cell_of_blk FV.out 3; have n4 := cell_of_blk FV.out 4; have n5 := cell_of_blk FV.out 5; have n6 := cell_of_blk FV.out 6; have n7 := cell_of_blk FV.out 7; have hz_n := (Array.getElem?_eq_some_iff.1 FV.out).1; simp at n0 n1 n2 n3 n4 n5 n6 n7
        have HS2 := HBR2.out.size
        by_cases hjp : 0 < j
        · have d0 : (0 : Int) < (j : Int) := by omega
          have d1 : decide (0 < j) = true := decide_eq_true hjp
          have HN2 := Lib.hid (show accW acr sp (ks.take (j + 1)) = (if acr then x + sw + sp else max x sw) ∧ accH acr sp (ks.take (j + 1)) = (if acr then max y sh else y + sh + sp) by
            rw [HT.out, HW1.out, HH1.out, HLT.out, if_pos hjp, ← HX.out, ← HY.out]; exact ⟨rfl, rfl⟩)
          clear HX HY HT HW1 HH1
          go_wp2_with fail
          refine (HSP.out _).mono ?_; rintro e w3 ⟨rfl, hb3⟩
          have HBR3 := Lib.hid (HBR2.out.trans (hb3.mono HBR2.out.size))
          have F2 := Lib.hid (blk_keep hb3 F2.out)
          have FV := Lib.hid (blk_keep hb3 FV.out)
          clear hb3 p0 p1 hz_p n0 n1 n2 n3 n4 n5 n6 n7 hz_n
          have p0 := cell_of_blk F2.out 0; have p1 := cell_of_blk F2.out 1; have hz_p := (Array.getElem?_eq_some_iff.1 F2.out).1; simp at p0 p1
          have n0 := cell_of_blk FV.out 0; have n1 := cell_of_blk FV.out 1; have n2 := cell_of_blk FV.out 2; have n3 := cell_of_blk FV.out 3; have n4 := cell_of_blk FV.out 4; have n5 := cell_of_blk FV.out 5; have n6 := cell_of_blk FV.out 6; have n7 := cell_of_blk FV.out 7; have hz_n := (Array.getElem?_eq_some_iff.1 FV.out).1; simp at n0 n1 n2 n3 n4 n5 n6 n7
          go_wp2_with fail
          refine (HAC.out _).mono ?_; rintro e w4 ⟨rfl, hb4⟩
          have HBR4 := Lib.hid (HBR3.out.trans (hb4.mono HBR3.out.size))
          clear hb4 p0 p1 hz_p n0 n1 n2 n3 n4 n5 n6 n7 hz_n
          cases acr
          all_goals (
            go_wp2_with fail
            all_goals go_roundw
            all_goals first
              | exact ⟨j + 1, by omega, by go_num, Lib.hid ⟨by rw [HN2.out.1]; rfl, by rw [HN2.out.2]; rfl⟩, HBR4⟩
              | (simp [intOf]; done)
              | (simp [intOf]; omega))
        · have d0 : ¬ (0 : Int) < (j : Int) := by omega
          have d1 : decide (0 < j) = false := decide_eq_false hjp
          have d2 : decide ((0 : Int) < (j : Int)) = false := decide_eq_false d0
          have HN2 := Lib.hid (show accW acr sp (ks.take (j + 1)) = (if acr then x + sw else max x sw) ∧ accH acr sp (ks.take (j + 1)) = (if acr then max y sh else y + sh) by
            rw [HT.out, HW1.out, HH1.out, HLT.out, if_neg hjp, ← HX.out, ← HY.out, Int.add_zero, Int.add_zero]; exact ⟨rfl, rfl⟩)
          clear HX HY HT HW1 HH1
          go_wp2_with fail
          refine (HAC.out _).mono ?_; rintro e w4 ⟨rfl, hb4⟩
          have HBR4 := Lib.hid (HBR2.out.trans (hb4.mono HBR2.out.size))
          clear hb4 p0 p1 hz_p n0 n1 n2 n3 n4 n5 n6 n7 hz_n
          cases acr
          all_goals (
            go_wp2_with fail
            all_goals go_roundw
            all_goals first
              | exact ⟨j + 1, by omega, by go_num, Lib.hid ⟨by rw [HN2.out.1]; rfl, by rw [HN2.out.2]; rfl⟩, HBR4⟩
              | (simp [intOf]; done)
              | (simp [intOf]; omega))
      · obtain rfl : j = n := by omega
        have HF2 := Lib.hid (show R = (x + (if (k5 && !inner) then 24 else 0), y + (if (k5 && !inner) then 24 else 0)) by
          have e : ks.take j = ks := by rw [HNK2.out, List.take_length]
          rw [HF.out, HX.out, HY.out, e, HK5.out])
        have FV := Lib.hid (blk_keep HBR.out EV.out)
        have n0 := cell_of_blk FV.out 0; have n1 := cell_of_blk FV.out 1; have n2 := cell_of_blk FV.out 2; have n3 := cell_of_blk FV.out 3; have n4 := cell_of_blk FV.out 4; have n5 := cell_of_blk FV.out 5; have n6 := cell_of_blk FV.out 6; have n7 := cell_of_blk FV.out 7; have hz_n := (Array.getElem?_eq_some_iff.1 FV.out).1; simp at n0 n1 n2 n3 n4 n5 n6 n7
        have hk5 := HK5.out
        clear HX HY HF
        cases k5
        · have HF3 := Lib.hid (show R = (x, y) by rw [HF2.out]; simp)
          clear HF2
          go_wp2_with fail
          go_ret2
          exact gotS2 HF3.out HBW.out
        · cases inner
          · have HF3 := Lib.hid (show R = (x + 24, y + 24) by rw [HF2.out]; simp)
            clear HF2
            go_wp2_with fail
            go_ret2
            exact gotS2 HF3.out HBW.out
          · have HF3 := Lib.hid (show R = (x, y) by rw [HF2.out]; simp)
            clear HF2
            go_wp2_with fail
            go_ret2
            exact gotS2 HF3.out HBW.out
end Go.Proofs.YtmiokllpdmmfhaaGreat
