/-
  The boxes and rectangles of a node (placed), by the specification.
-/
import Derived.Test.YtmiokllpdmmfhaaGreatRplN
import Derived.Test.YtmiokllpdmmfhaaGreatLcE
namespace Go.Proofs.YtmiokllpdmmfhaaGreat
open Go.RowKit
theorem cBd_le : ∀ f, f ≤ 5 → cBd f ≤ 100000 := by decide
set_option maxHeartbeats 4000000 in
theorem rpl_any (L : Lm) (way len : Int) (A : Option Addr) (cap : Nat) (zs : List Nd) (hp : Pln L.li zs) (hc1 : zs.length ≤ cap) (hc : cap ≤ maxLen) : ∀ (f i : Nat) (u : Nd) (x y : Int) (w : World), zs[i]? = some u → 5 ≤ u.depth + f → f ≤ 5 → LmOk w L → NdsAt w A zs → (0 ≤ x ∧ x ≤ 2000000 * (6 - (f : Int))) → (0 ≤ y ∧ y ≤ 2000000 * (6 - (f : Int))) →
    Calls Tryz.prog 112 #[.agg #[.int .i64 L.per, .slice L.A L.ms.length L.cap], .agg #[.slice A zs.length cap], .agg #[.int .i64 way, .int .i64 len], .int .i64 i, .agg #[.int .i64 x, .int .i64 y, .int .i64 (shpI L.li (cwN way) zs f i).size.1, .int .i64 (shpI L.li (cwN way) zs f i).size.2]] w (GotPl ((shpI L.li (cwN way) zs f i).pcs x y) w)
  | 0, i, u, x, y, w, hu, hf, _, _, _, _, _ => by have := (hp.full.depth u (List.mem_of_getElem? hu)).2; omega
  | f + 1, i, u, x, y, w, hu, hf, hf5, hl, hn, hx, hy => by
    have hud := hp.full.depth u (List.mem_of_getElem? hu)
    have hkin := kind_in hp hu
    have hbd := (sh_bd (cwN way) hp (f + 1) i u hu hf hf5).2
    have hbl := (bndI_le (f + 1) hf5).2
    have hg := getN_at hu
    have hkA := kindAt_is hu
    have hz := (text_ok hp.ok).2.1
    have h6 := fits_six hp.fits i
    have hat := fun j (hj : j ∈ kidsL zs i) => kids_at hu hj
    have hK : (u.kind = 2 ∨ u.kind = 3 ∨ u.kind = 5) → Calls Tryz.prog 112 #[.agg #[.int .i64 L.per, .slice L.A L.ms.length L.cap], .agg #[.slice A zs.length cap], .agg #[.int .i64 way, .int .i64 len], .int .i64 i, .agg #[.int .i64 x, .int .i64 y, .int .i64 (shpI L.li (cwN way) zs (f + 1) i).size.1, .int .i64 (shpI L.li (cwN way) zs (f + 1) i).size.2]] w (GotPl ((shpI L.li (cwN way) zs (f + 1) i).pcs x y) w) := fun hk => by
      have hlow := low_kids hp hu (by omega) (by omega)
      have hspc := spc_bd u (by omega)
      obtain ⟨S, hS⟩ : ∃ S, S = shpI L.li (cwN way) zs (f + 1) i := ⟨_, rfl⟩
      obtain ⟨ks, hks⟩ : ∃ ks, ks = (kidsL zs i).map (shpI L.li (cwN way) zs f) := ⟨_, rfl⟩
      obtain ⟨k5, hk5⟩ : ∃ b, (u.kind == 5) = b := ⟨_, rfl⟩
      obtain ⟨acr, hacr⟩ : ∃ b, acrB u way = b := ⟨_, rfl⟩
      obtain ⟨g, hgg⟩ : ∃ g : Int, g = if (u.kind == 5) then 12 else 0 := ⟨_, rfl⟩
      obtain ⟨M, hM⟩ : ∃ M : Int, M = (if acrB u way then S.size.2 else S.size.1) - 2 * g := ⟨_, rfl⟩
      obtain ⟨hpc, hfit⟩ := pcs_acc (l := L.li) hu hk f x y S hS ks hks g M hgg hM
      have hac := shp_acc (l := L.li) (way := way) hu hk f hlow true
      rw [← hS] at hbd ⊢
      have hkb : ∀ k ∈ ks, (0 ≤ k.size.1 ∧ k.size.1 ≤ 172084) ∧ (0 ≤ k.size.2 ∧ k.size.2 ≤ 172084) := fun k hk => by
        rw [hks] at hk
        obtain ⟨j, hj, rfl⟩ := List.mem_map.1 hk
        obtain ⟨v, hv, hvd⟩ := hat j hj
        have h1 := (sh_bd (cwN way) hp f j v hv (by omega) (by omega)).2
        have h2 := (bndI_le f (by omega)).2
        omega
      have hfit2 := hfit (fun k hk => by have := hkb k hk; unfold szB; omega)
      have hsub : ∀ j, ∀ k ∈ ks.take j, (0 ≤ k.size.1 ∧ k.size.1 ≤ 172084) ∧ (0 ≤ k.size.2 ∧ k.size.2 ≤ 172084) := fun j k hk => hkb k (List.mem_of_mem_take hk)
      have hkl : ks.length = (kidsL zs i).length := by rw [hks, List.length_map]
      have hgb : (g = 12 ∧ k5 = true) ∨ (g = 0 ∧ k5 = false) := by
        rw [hgg, hk5]; cases k5 <;> simp
      have hne : ∃ k, k ∈ ks := by
        cases hh : ks with
        | nil => rw [hh] at hkl; simp at hkl; omega
        | cons a r => exact ⟨a, List.mem_cons_self ..⟩
      have hS24 : 2 * g ≤ S.size.1 ∧ 2 * g ≤ S.size.2 := by
        rcases hgb with ⟨h1, h2⟩ | ⟨h1, _⟩
        · have hk5' : u.kind = 5 := by rw [h2] at hk5; simpa using hk5
          have e : S = .rng u (ringI (cwN way) ks) := by
            rw [hS, shpI, hkA, hg, ← hks, if_neg (by omega), if_neg (by omega), if_neg (by omega), if_neg (by omega), if_neg (by omega)]
          have hac2 : (ringI (cwN way) ks).size = (accW (acrB u way) (spcR u) ks, accH (acrB u way) (spcR u) ks) := by
            have : inI true S = (ringI (cwN way) ks).size := by rw [e]; rfl
            rw [← this, hS, hac, ← hks]
            simp
          have hb := acc_bd (acrB u way) (spcR u) ks 172084 hkb (by omega) (by omega) hspc
          rw [e, Shp.size, hac2]
          dsimp only
          omega
        · omega
      have hacl : ∀ j, (pcsA acr (spcR u) M (ks.take j) (x + g) (y + g)).length ≤ 600000 := fun j => by
        rw [pcsA_len]
        have h1 := cntS_le (ks.take j) 100000 (fun k hk => by
          have hk := List.mem_of_mem_take hk
          rw [hks] at hk
          obtain ⟨q, _, rfl⟩ := List.mem_map.1 hk
          exact Nat.le_trans (cnt_bd (cwN way) hp f q) (cBd_le f (by omega)))
        have h2 : (ks.take j).length ≤ 6 := by rw [List.length_take]; omega
        have h3 := Nat.mul_le_mul_right 100000 h2
        omega
      rw [hpc, hk5, hacr]
      rw [hacr] at hfit2 hM
      have hT : ks.take ks.length = ks := List.take_length
      have := rplN_any L way len A cap zs i u x y S.size.1 S.size.2 w hl hn hc1 hc (by omega) hu (by unfold leafB; simp; omega) (by omega) (kidsL zs i).length (kidsL zs i) rfl rfl hlow h6 k5 false acr (spcR u) hk5 (by simp; omega) hacr rfl
        (x + g) (y + g) (S.size.1 - 2 * g) (S.size.2 - 2 * g) (by rcases hgb with ⟨h1, h2⟩ | ⟨h1, h2⟩ <;> rw [h1, h2] <;> simp) (by omega) (by omega)
        (fun j => (if k5 then [⟨u, x, y, S.size.1, S.size.2⟩] else []) ++ pcsA acr (spcR u) M (ks.take j) (x + g) (y + g)) (fun j => posR acr (spcR u) (ks.take j))
        (by cases acr <;> simp [pcsA, pcsR, pcsC]) (by cases acr <;> simp [posR, sumW, sumH])
        (fun j _ => by have := posR_bd acr (spcR u) (ks.take j) (hsub j) (by rw [List.length_take]; omega) hspc; omega)
        (fun j _ => by have := hacl j; rw [List.length_append]; cases k5 <;> simp <;> omega)
        (fun j kj hj => by
          obtain ⟨v, hv, hvd⟩ := hat kj (List.mem_of_getElem? hj)
          have hkj : ks[j]? = some (shpI L.li (cwN way) zs f kj) := by rw [hks, List.getElem?_map, hj]; rfl
          have hmem := List.mem_of_getElem? hkj
          have hb := hkb _ hmem
          have hft := hfit2 _ hmem
          have hps := posR_bd acr (spcR u) (ks.take j) (hsub j) (by rw [List.length_take]; omega) hspc
          have hstep := pcsA_step acr (spcR u) M (ks.take j) (shpI L.li (cwN way) zs f kj) (x + g) (y + g)
          have hpst := posR_step acr (spcR u) (ks.take j) (shpI L.li (cwN way) zs f kj)
          rw [← take_snocS hkj] at hstep hpst
          obtain ⟨k, hkk⟩ : ∃ k, k = shpI L.li (cwN way) zs f kj := ⟨_, rfl⟩
          have hSZ : ∀ wx, Below w.heap.size w wx → Calls Tryz.prog 58 #[.agg #[.int .i64 L.per, .slice L.A L.ms.length L.cap], .agg #[.slice A zs.length cap], .agg #[.int .i64 way, .int .i64 len], .int .i64 kj, .bool false] wx (fun e w' => e = .returned (.tuple #[.int .i64 k.size.1, .int .i64 k.size.2]) ∧ Below wx.heap.size wx w') := fun wx hb => by
            have := rsz_any L way len A cap zs hp hc1 hc f kj v false wx hv (by omega) (by omega) (hl.below hb) (hn.below hb)
            rw [inI_false, ← hkk] at this; exact this
          have hPL : ∀ (X Y : Int) (_ : 0 ≤ X ∧ X ≤ x + 2000000) (_ : 0 ≤ Y ∧ Y ≤ y + 2000000) (wx : World), Below w.heap.size w wx → Calls Tryz.prog 112 #[.agg #[.int .i64 L.per, .slice L.A L.ms.length L.cap], .agg #[.slice A zs.length cap], .agg #[.int .i64 way, .int .i64 len], .int .i64 kj, .agg #[.int .i64 X, .int .i64 Y, .int .i64 k.size.1, .int .i64 k.size.2]] wx (GotPl (k.pcs X Y) wx) := fun X Y hX hY wx hb => by
            have := rpl_any L way len A cap zs hp hc1 hc f kj v X Y wx hv (by omega) (by omega) (hl.below hb) (hn.below hb) (by omega) (by omega)
            rw [← hkk] at this; exact this
          rw [← hkk] at hb hft hstep hpst
          cases acr with
          | true =>
            rw [if_pos rfl] at hft hstep hpst hM
            refine ⟨k.size.1, k.size.2, x + g + posR true (spcR u) (ks.take j), y + g + (S.size.2 - 2 * g - k.size.2) / 2, k.size.1, k.size.2, _, hSZ, hPL _ _ (by omega) (by omega), ?_, ?_, ?_, by omega, by omega⟩
            · rw [hstep, ← hM, List.append_assoc]
            · unfold rectB
              rw [if_neg (by decide), if_pos rfl]
              exact ⟨by omega, rfl, rfl, rfl, rfl⟩
            · unfold posB
              rw [if_neg (by decide), if_pos rfl]
              exact hpst
          | false =>
            rw [if_neg (by decide)] at hft hstep hpst hM
            refine ⟨k.size.1, k.size.2, x + g + (S.size.1 - 2 * g - k.size.1) / 2, y + g + posR false (spcR u) (ks.take j), k.size.1, k.size.2, _, hSZ, hPL _ _ (by omega) (by omega), ?_, ?_, ?_, by omega, by omega⟩
            · rw [hstep, ← hM, List.append_assoc]
            · unfold rectB
              rw [if_neg (by decide), if_neg (by decide)]
              exact ⟨by omega, rfl, rfl, rfl, rfl⟩
            · unfold posB
              rw [if_neg (by decide), if_neg (by decide)]
              exact hpst)
      rw [← hkl, hT] at this
      exact this
    rcases hkin with hk | hk | hk | hk | hk | hk
    · have e : shpI L.li (cwN way) zs (f + 1) i = .gly u (glyI L.li u).1 (glyI L.li u).2 := by rw [shpI, hkA, hk, hg]; rfl
      rw [e, Shp.pcs]
      exact rplL_any L way len A cap zs i u x y _ _ w hl hn hc1 hc hu (by rw [hk]; rfl)
    · exact hK (.inl hk)
    · exact hK (.inr (.inl hk))
    · obtain ⟨n1, n2, q1, q2, k1, k2, hkl, _⟩ := ovl_kids hp hu hk
      obtain ⟨v1, hv1, hd1⟩ := hat (i + 1) (by rw [hkl]; simp)
      have hd1' := (hp.full.depth v1 (List.mem_of_getElem? hv1)).2
      obtain ⟨v2, hv2, hd2⟩ := hat (i + 2) (by rw [hkl]; simp)
      obtain ⟨f, rfl⟩ : ∃ f', f = f' + 1 := ⟨f - 1, by omega⟩
      have e : shpI L.li (cwN way) zs (f + 1 + 1) i = .ovl n1 (glyI L.li n1).1 (glyI L.li n1).2 n2 (glyI L.li n2).1 (glyI L.li n2).2 := by
        have g1 : getN zs ([i + 1, i + 2].getD 0 0) = n1 := getN_at q1
        have g2 : getN zs ([i + 1, i + 2].getD 1 0) = n2 := getN_at q2
        rw [shpI, hkA, hk, hkl]
        unfold ovlI
        rw [g1, g2]; rfl
      have e1 : (shpI L.li (cwN way) zs (f + 1) (i + 1)).size = (4 * (glyI L.li n1).1, 4 * (glyI L.li n1).2) := by
        rw [shpI, kindAt_is q1, k1, getN_at q1]; rfl
      have e2 : (shpI L.li (cwN way) zs (f + 1) (i + 2)).size = (4 * (glyI L.li n2).1, 4 * (glyI L.li n2).2) := by
        rw [shpI, kindAt_is q2, k2, getN_at q2]; rfl
      have b1 := gly_bd hp q1 k1
      have b2 := gly_bd hp q2 k2
      rw [e, Shp.pcs, Shp.size]
      obtain ⟨⟨a, b⟩, hab⟩ : ∃ p, p = glyI L.li n1 := ⟨_, rfl⟩
      obtain ⟨⟨c, d⟩, hcd⟩ : ∃ p, p = glyI L.li n2 := ⟨_, rfl⟩
      rw [← hab] at e1 b1 ⊢
      rw [← hcd] at e2 b2
      dsimp only at e1 e2 b1 b2 ⊢
      have hSZ : ∀ (kj : Nat) (v : Nd) (s1 s2 : Int), zs[kj]? = some v → v.depth = u.depth + 1 → (shpI L.li (cwN way) zs (f + 1) kj).size = (s1, s2) → ∀ wx, Below w.heap.size w wx → Calls Tryz.prog 58 #[.agg #[.int .i64 L.per, .slice L.A L.ms.length L.cap], .agg #[.slice A zs.length cap], .agg #[.int .i64 way, .int .i64 len], .int .i64 kj, .bool false] wx (fun e w' => e = .returned (.tuple #[.int .i64 s1, .int .i64 s2]) ∧ Below wx.heap.size wx w') := fun kj v s1 s2 hv hvd hs wx hb => by
        have := rsz_any L way len A cap zs hp hc1 hc (f + 1) kj v false wx hv (by omega) (by omega) (hl.below hb) (hn.below hb)
        rw [inI_false, hs] at this; exact this
      have := rplN_any L way len A cap zs i u x y (4 * a) (4 * b) w hl hn hc1 hc (by omega) hu (by rw [hk]; rfl) (by omega) 2 [i + 1, i + 2] hkl rfl (by omega) (by omega) false true (acrB u way) (spcR u) (by rw [hk]; rfl) (by rw [hk]; rfl) rfl rfl
        x y (4 * a) (4 * b) (by simp) (by omega) (by omega)
        (fun j => [⟨n1, x, y, 4 * a, 4 * b⟩, ⟨n2, x + a, y + b, 2 * a, 2 * b⟩].take j) (fun _ => 0) rfl rfl (fun _ _ => by omega)
        (fun j _ => by rw [List.length_take]; simp only [List.length_cons, List.length_nil]; omega)
        (fun j kj hj => by
          match j, hj with
          | 0, hj =>
            simp at hj; subst hj
            exact ⟨4 * a, 4 * b, x, y, 4 * a, 4 * b, [⟨n1, x, y, 4 * a, 4 * b⟩], hSZ _ v1 _ _ hv1 hd1 e1, fun wx hb => rplL_any L way len A cap zs (i + 1) n1 x y _ _ wx (hl.below hb) (hn.below hb) hc1 hc q1 (by rw [k1]; rfl), rfl, by unfold rectB; simp, rfl, by omega, by omega⟩
          | 1, hj =>
            simp at hj; subst hj
            exact ⟨4 * c, 4 * d, x + a, y + b, 2 * a, 2 * b, [⟨n2, x + a, y + b, 2 * a, 2 * b⟩], hSZ _ v2 _ _ hv2 hd2 e2, fun wx hb => rplL_any L way len A cap zs (i + 2) n2 (x + a) (y + b) _ _ wx (hl.below hb) (hn.below hb) hc1 hc q2 (by rw [k2]; rfl), rfl, by unfold rectB; simp; omega, rfl, by omega, by omega⟩
          | j + 2, hj => simp at hj)
      exact this
    · exact hK (.inr (.inr hk))
    · have e : shpI L.li (cwN way) zs (f + 1) i = .gap u := by rw [shpI, hkA, hk, hg]; rfl
      rw [e, Shp.pcs]
      exact rplL_any L way len A cap zs i u x y _ _ w hl hn hc1 hc hu (by rw [hk]; rfl)
end Go.Proofs.YtmiokllpdmmfhaaGreat
