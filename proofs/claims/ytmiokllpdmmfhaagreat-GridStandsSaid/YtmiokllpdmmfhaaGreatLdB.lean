/-
  The boxes of a layout are placed: their fractions are valid, and they have sizes. And what builds on it.
-/
import Derived.Test.YtmiokllpdmmfhaaGreatLdG
import Derived.Test.YtmiokllpdmmfhaaGreatLdA
import Derived.Test.YtmiokllpdmmfhaaGreatLaN
namespace Go.Proofs.YtmiokllpdmmfhaaGreat
open Go.RowKit
mutual
def Shp.wt : Shp → Nat
  | .gly .. => 1
  | .gap .. => 1
  | .ovl .. => 3
  | .row _ ks => wtS ks + 1
  | .col _ ks => wtS ks + 1
  | .rng _ s => s.wt
def wtS : List Shp → Nat
  | [] => 0
  | k :: r => k.wt + wtS r
end
mutual
theorem wt_nodes (L : Lm) (cw : Bool) : ∀ (s : Shp) (u : Nd) (bl : List Nd), ShOf L cw s u bl → s.wt ≤ 1 + bl.length
  | .gly n a b, u, bl, h => by rw [Shp.wt]; omega
  | .gap n, u, bl, h => by rw [Shp.wt]; omega
  | .ovl n1 a b n2 c d, u, bl, h => by rw [ShOf] at h; obtain ⟨_, rfl, _⟩ := h; rw [Shp.wt]; simp
  | .row sp ks, u, bl, h => by rw [ShOf] at h; have := wtS_nodes L cw ks bl h.2.2.2; rw [Shp.wt]; omega
  | .col sp ks, u, bl, h => by rw [ShOf] at h; have := wtS_nodes L cw ks bl h.2.2.2; rw [Shp.wt]; omega
  | .rng n (.row sp ks), u, bl, h => by rw [ShOf] at h; have := wtS_nodes L cw ks bl h.2.2.2.2; rw [Shp.wt, Shp.wt]; omega
  | .rng n (.col sp ks), u, bl, h => by rw [ShOf] at h; have := wtS_nodes L cw ks bl h.2.2.2.2; rw [Shp.wt, Shp.wt]; omega
  | .rng n (.gly _ _ _), u, bl, h => by simp [ShOf] at h
  | .rng n (.gap _), u, bl, h => by simp [ShOf] at h
  | .rng n (.ovl _ _ _ _ _ _), u, bl, h => by simp [ShOf] at h
  | .rng n (.rng _ _), u, bl, h => by simp [ShOf] at h
theorem wtS_nodes (L : Lm) (cw : Bool) : ∀ (ks : List Shp) (ns : List Nd), ShsOf L cw ks ns → wtS ks ≤ ns.length
  | [], ns, h => by rw [wtS]; omega
  | k :: r, ns, h => by
    rw [ShsOf] at h
    obtain ⟨u, bl, rest, rfl, _, h1, h2⟩ := h
    have a := wt_nodes L cw k u bl h1
    have b := wtS_nodes L cw r rest h2
    rw [wtS, List.length_cons, List.length_append]; omega
end
def isRC : Shp → Bool
  | .row .. => true
  | .col .. => true
  | _ => false
mutual
def Shp.small : Shp → Prop
  | .gly _ a b => (1 ≤ a ∧ a ≤ 12) ∧ (1 ≤ b ∧ b ≤ 12)
  | .gap n => 1 ≤ n.max ∧ n.max ≤ 9
  | .ovl _ a b _ _ _ => (1 ≤ a ∧ a ≤ 12) ∧ (1 ≤ b ∧ b ≤ 12)
  | .row sp ks => (0 ≤ sp ∧ sp ≤ 20) ∧ 1 ≤ ks.length ∧ smallS ks
  | .col sp ks => (0 ≤ sp ∧ sp ≤ 20) ∧ 1 ≤ ks.length ∧ smallS ks
  | .rng _ s => isRC s = true ∧ s.small
def smallS : List Shp → Prop
  | [] => True
  | k :: r => k.small ∧ smallS r
end
theorem smallS_of : ∀ {ks : List Shp}, (∀ k ∈ ks, k.small) → smallS ks
  | [], _ => trivial
  | k :: _r, h => ⟨h k (List.mem_cons_self ..), smallS_of fun x hx => h x (List.mem_cons_of_mem _ hx)⟩
theorem smallS.mem : ∀ {ks : List Shp}, smallS ks → ∀ k ∈ ks, k.small
  | [], _, k, hk => by cases hk
  | x :: r, h, k, hk => by
    rcases List.mem_cons.1 hk with rfl | hk
    · exact h.1
    · exact smallS.mem h.2 k hk
mutual
theorem sz_wt : ∀ (s : Shp), s.small → ((0 ≤ s.size.1 ∧ s.size.1 ≤ 128 * (s.wt : Int) - 20) ∧ (0 ≤ s.size.2 ∧ s.size.2 ≤ 128 * (s.wt : Int) - 20)) ∧ (isRC s = true → s.size.1 ≤ 128 * (s.wt : Int) - 148 ∧ s.size.2 ≤ 128 * (s.wt : Int) - 148)
  | .gly n a b, h => by rw [Shp.small] at h; rw [Shp.size, Shp.wt]; exact ⟨by dsimp only; omega, fun h => by cases h⟩
  | .gap n, h => by rw [Shp.small] at h; rw [Shp.size, Shp.wt]; exact ⟨by dsimp only; omega, fun h => by cases h⟩
  | .ovl n1 a b n2 c d, h => by rw [Shp.small] at h; rw [Shp.size, Shp.wt]; exact ⟨by dsimp only; omega, fun h => by cases h⟩
  | .row sp ks, h => by
    rw [Shp.small] at h
    obtain ⟨hs, hl, hk⟩ := h
    obtain ⟨⟨h1, h2⟩, h3⟩ := szS_wt ks hk
    have h4 := h3.2 hl
    have a := Int.mul_nonneg hs.1 (show 0 ≤ (ks.length : Int) - 1 by omega)
    have b := Int.mul_le_mul_of_nonneg_right hs.2 (show 0 ≤ (ks.length : Int) - 1 by omega)
    rw [Shp.size, Shp.wt]
    dsimp only
    exact ⟨by omega, fun _ => by omega⟩
  | .col sp ks, h => by
    rw [Shp.small] at h
    obtain ⟨hs, hl, hk⟩ := h
    obtain ⟨⟨h1, h2⟩, h3⟩ := szS_wt ks hk
    have h4 := h3.2 hl
    have a := Int.mul_nonneg hs.1 (show 0 ≤ (ks.length : Int) - 1 by omega)
    have b := Int.mul_le_mul_of_nonneg_right hs.2 (show 0 ≤ (ks.length : Int) - 1 by omega)
    rw [Shp.size, Shp.wt]
    dsimp only
    exact ⟨by omega, fun _ => by omega⟩
  | .rng n s, h => by
    rw [Shp.small] at h
    have h1 := sz_wt s h.2
    have h2 := h1.2 h.1
    rw [Shp.size, Shp.wt]
    exact ⟨by dsimp only; omega, fun h => by cases h⟩
theorem szS_wt : ∀ (ks : List Shp), smallS ks → ((0 ≤ sumW ks ∧ sumW ks + 20 * (ks.length : Int) ≤ 128 * (wtS ks : Int)) ∧ (0 ≤ sumH ks ∧ sumH ks + 20 * (ks.length : Int) ≤ 128 * (wtS ks : Int))) ∧ (0 ≤ maxW ks ∧ 0 ≤ maxH ks) ∧ (1 ≤ ks.length → maxW ks + 20 ≤ 128 * (wtS ks : Int) ∧ maxH ks + 20 ≤ 128 * (wtS ks : Int))
  | [], _ => by simp [sumW, sumH, maxW, maxH, wtS]
  | k :: r, h => by
    rw [smallS] at h
    have a := (sz_wt k h.1).1
    obtain ⟨⟨b1, b2⟩, b3, b4⟩ := szS_wt r h.2
    rw [sumW, sumH, maxW, maxH, wtS, List.length_cons]
    have e : 1 ≤ r.length ∨ r = [] := by cases r with
      | nil => exact .inr rfl
      | cons x y => exact .inl (by simp)
    rcases e with e | rfl
    · have b5 := b4 e
      exact ⟨by omega, by omega, fun _ => by omega⟩
    · rw [sumW, sumH, wtS, List.length_nil] at *
      rw [maxW, maxH] at *
      exact ⟨by omega, by omega, fun _ => by omega⟩
end
mutual
theorem pcs_pos : ∀ (s : Shp), s.small → ∀ (x y : Int), ∀ p ∈ s.pcs x y, 1 ≤ p.wd ∧ 1 ≤ p.hg
  | .gly n a b, h, x, y, p, hp => by
    rw [Shp.small] at h
    rw [Shp.pcs, List.mem_singleton] at hp
    subst hp; dsimp only; omega
  | .gap n, h, x, y, p, hp => by
    rw [Shp.small] at h
    rw [Shp.pcs, List.mem_singleton] at hp
    subst hp; dsimp only; omega
  | .ovl n1 a b n2 c d, h, x, y, p, hp => by
    rw [Shp.small] at h
    rw [Shp.pcs] at hp
    rcases List.mem_cons.1 hp with rfl | hp
    · dsimp only; omega
    · rw [List.mem_singleton] at hp; subst hp; dsimp only; omega
  | .row sp ks, h, x, y, p, hp => by
    rw [Shp.small] at h
    rw [Shp.pcs] at hp
    exact pcsR_pos sp _ ks h.2.2 x y p hp
  | .col sp ks, h, x, y, p, hp => by
    rw [Shp.small] at h
    rw [Shp.pcs] at hp
    exact pcsC_pos sp _ ks h.2.2 x y p hp
  | .rng n s, h, x, y, p, hp => by
    rw [Shp.small] at h
    have h1 := (sz_wt s h.2).1
    rw [Shp.pcs] at hp
    rcases List.mem_cons.1 hp with rfl | hp
    · dsimp only; omega
    · exact pcs_pos s h.2 _ _ p hp
theorem pcsR_pos (sp H : Int) : ∀ (ks : List Shp), smallS ks → ∀ (x y : Int), ∀ p ∈ pcsR sp H ks x y, 1 ≤ p.wd ∧ 1 ≤ p.hg
  | [], _, x, y, p, hp => by rw [pcsR] at hp; cases hp
  | k :: r, h, x, y, p, hp => by
    rw [smallS] at h
    rw [pcsR] at hp
    rcases List.mem_append.1 hp with hp | hp
    · exact pcs_pos k h.1 _ _ p hp
    · exact pcsR_pos sp H r h.2 _ _ p hp
theorem pcsC_pos (sp W : Int) : ∀ (ks : List Shp), smallS ks → ∀ (x y : Int), ∀ p ∈ pcsC sp W ks x y, 1 ≤ p.wd ∧ 1 ≤ p.hg
  | [], _, x, y, p, hp => by rw [pcsC] at hp; cases hp
  | k :: r, h, x, y, p, hp => by
    rw [smallS] at h
    rw [pcsC] at hp
    rcases List.mem_append.1 hp with hp | hp
    · exact pcs_pos k h.1 _ _ p hp
    · exact pcsC_pos sp W r h.2 _ _ p hp
end
theorem gly_pos {l : Li} {ns : List Nd} (h : Pln l ns) {i : Nat} {u : Nd} (hu : ns[i]? = some u) (hk : u.kind = 1) : 1 ≤ (glyI l u).1 ∧ 1 ≤ (glyI l u).2 := by
  obtain ⟨h1, h2⟩ := glyph_in (h.node hu) hk
  have hc := (text_ok h.ok).1
  unfold glyI
  rw [size_full hc h1 h2]
  have hw : 1 ≤ (whOf l u.sign).1 ∧ 1 ≤ (whOf l u.sign).2 := by
    unfold whOf
    have hlt : u.sign.toNat < l.signs.length := by omega
    rw [List.getElem?_eq_getElem hlt]
    dsimp only
    have hs : signErr (l.signs[u.sign.toNat]) l.per = 0 := by
      unfold checkErr at hc
      split at hc
      · cases hc
      · split at hc
        · cases hc
        · exact (signsErr_at _ _ _ hc _ _ (List.getElem?_eq_getElem hlt)).2
    unfold signErr at hs
    split at hs
    · cases hs
    · rename_i hw
      simp [withinB] at hw
      omega
  split
  · exact ⟨hw.2, hw.1⟩
  · exact hw
theorem small_shp {l : Li} (cw : Bool) {ns : List Nd} (h : Pln l ns) : ∀ (f i : Nat) (u : Nd), ns[i]? = some u → 5 ≤ u.depth + f → (shpI l cw ns f i).small
  | 0, i, u, hu, hf => by have := (h.full.depth u (List.mem_of_getElem? hu)).2; omega
  | f + 1, i, u, hu, hf => by
    have hg := getN_at hu
    have hkA := kindAt_is hu
    have hdA : depthAt ns i = u.depth := by unfold depthAt; rw [hg]
    have hd := h.full.depth u (List.mem_of_getElem? hu)
    have hkids : ∀ k ∈ (kidsL ns i).map (shpI l cw ns f), k.small := fun k hk => by
      obtain ⟨j, hj, rfl⟩ := List.mem_map.1 hk
      obtain ⟨v, hv, hvd⟩ := kids_at hu hj
      exact small_shp cw h f j v hv (by omega)
    have hlow : u.kind ≠ 1 → u.kind ≠ 6 → 1 ≤ ((kidsL ns i).map (shpI l cw ns f)).length := fun a b => by
      have := fits_low h.fits (List.getElem?_eq_some_iff.1 hu).1
      rw [hkA] at this
      rw [List.length_map]
      unfold kidsR leafB at this
      split at this
      · rename_i hh; simp at hh; omega
      · split at this
        · dsimp only at this; omega
        · split at this <;> (dsimp only at this; omega)
    obtain ⟨ks, hks⟩ : ∃ ks, ks = (kidsL ns i).map (shpI l cw ns f) := ⟨_, rfl⟩
    rw [← hks] at hkids hlow
    have hS := smallS_of hkids
    rw [shpI, hkA, hg, hdA, ← hks]
    rcases kind_in h hu with hk | hk | hk | hk | hk | hk
    · rw [if_pos hk, Shp.small]
      have := gly_bd h hu hk
      have := gly_pos h hu hk
      omega
    · rw [if_neg (by omega), if_neg (by omega), if_neg (by omega), if_pos hk, Shp.small]
      exact ⟨by omega, hlow (by omega) (by omega), hS⟩
    · rw [if_neg (by omega), if_neg (by omega), if_neg (by omega), if_neg (by omega), if_pos hk, Shp.small]
      exact ⟨by omega, hlow (by omega) (by omega), hS⟩
    · rw [if_neg (by omega), if_neg (by omega), if_pos hk]
      obtain ⟨n1, n2, h1, h2, k1, k2, hkl, hbl⟩ := ovl_kids h hu hk
      rw [hkl]
      unfold ovlI
      have e1 : getN ns ([i + 1, i + 2].getD 0 0) = n1 := getN_at h1
      have e2 : getN ns ([i + 1, i + 2].getD 1 0) = n2 := getN_at h2
      rw [e1, e2, Shp.small]
      have := gly_bd h h1 k1
      have := gly_pos h h1 k1
      omega
    · rw [if_neg (by omega), if_neg (by omega), if_neg (by omega), if_neg (by omega), if_neg (by omega), Shp.small]
      have h1 := hlow (by omega) (by omega)
      unfold ringI
      cases cw
      · rw [if_neg (by simp), Shp.small]
        exact ⟨rfl, by omega, h1, hS⟩
      · rw [if_pos rfl, Shp.small]
        exact ⟨rfl, by omega, h1, hS⟩
    · rw [if_neg (by omega), if_pos hk, Shp.small]
      exact gap_in (h.node hu) hk
theorem shps_small {l : Li} (cw : Bool) {ns : List Nd} (h : Pln l ns) : ∀ s ∈ shpsI l cw ns, s.small := fun s hs => by
  obtain ⟨j, hj, rfl⟩ := List.mem_map.1 hs
  obtain ⟨u, hu, hd⟩ := tops_at hj
  exact small_shp cw h 5 j u hu (by omega)
theorem wtS_mem : ∀ (ks : List Shp), ∀ k ∈ ks, k.wt ≤ wtS ks
  | x :: r, k, hk => by
    rw [wtS]
    rcases List.mem_cons.1 hk with rfl | hk
    · omega
    · have := wtS_mem r k hk; omega
theorem shps_size2 {L : Lm} (cw : Bool) {ns : List Nd} (h : Pln L.li ns) : ∀ s ∈ shpsI L.li cw ns, (0 ≤ s.size.1 ∧ s.size.1 ≤ 25580) ∧ (0 ≤ s.size.2 ∧ s.size.2 ≤ 25580) := fun s hs => by
  have h1 := (sz_wt s (shps_small cw h s hs)).1
  have h2 := wtS_mem _ s hs
  have h3 := wtS_nodes L cw _ _ (shs_of cw h)
  have h4 := (text_ok h.ok).2.1
  omega
theorem vF_fr {A Q : Int} (hQ : 0 < Q ∧ Q ≤ 32768) (hA : -2147483647 ≤ A ∧ A ≤ 2147483647) : vF (fracR A Q) = true := by
  obtain ⟨h1, h2⟩ := fr_val (n := A) hQ.1
  have h3 := fracR_num (n := A) (d := Q) (B := 2147483647) hQ.1 hA
  have h4 := fracR_den (n := A) hQ.1
  have e : fracR (fracR A Q).num (fracR A Q).den = fracR A Q := fracR_eq h2 hQ.1 h1
  unfold vF validB inB
  rw [e]
  simp
  omega
theorem fr_one (n : Int) : fracR n 1 = ⟨n, 1⟩ := by
  have : gcdR n 1 = 1 := by unfold gcdR; simp
  unfold fracR; rw [this]; simp
theorem neg_fr (n d : Int) : negF (fracR n d) = fracR (-n) d := by
  have : gcdR (-n) d = gcdR n d := by unfold gcdR; rw [Int.natAbs_neg]
  unfold negF fracR; rw [this]; dsimp only; rw [Int.neg_tdiv]
theorem add_rep {C : Fr} {A D m a : Int} (hC : C = fracR A (D * m)) (hD : 0 < D) (hm : 0 < m) : plusF C (fracR a D) = fracR (A + a * m) (D * m) := by
  have hq := Int.mul_pos hD hm
  obtain ⟨h1, h2⟩ := fr_val (n := A) hq
  obtain ⟨f1, f2⟩ := fr_val (n := a) hD
  rw [hC]
  refine plus_com hq h1 ?_ h2 f2
  rw [← Int.mul_assoc, f1, Int.mul_right_comm]
theorem odd48 : ∀ q : Fin 49, q.val % 2 = 1 → 48 % q.val = 0 → q.val = 1 ∨ q.val = 3 := by decide
theorem scl_rep {cw : Bool} {s : Shp} (h1 : 0 ≤ s.size.1 ∧ s.size.1 ≤ 25580) (h2 : 0 ≤ s.size.2 ∧ s.size.2 ≤ 25580) :
    (1 ≤ (sclR cw s).num ∧ (sclR cw s).num ≤ 48) ∧ (1 ≤ (sclR cw s).den ∧ (sclR cw s).den ≤ 25580) ∧ ((sclR cw s).num % 2 = 1 → (sclR cw s).den * 2 ≤ 32768) := by
  have hac : 0 ≤ acR cw s ∧ acR cw s ≤ 25580 := by unfold acR; split <;> omega
  obtain ⟨M, hM⟩ : ∃ M, M = max 48 (if isRng s then acR cw s else max s.size.1 s.size.2) := ⟨_, rfl⟩
  have hM2 : 48 ≤ M ∧ M ≤ 25580 := by rw [hM]; split <;> omega
  have e : sclR cw s = fracR 48 M := by rw [hM]; rfl
  rw [e]
  obtain ⟨g, g0, gn, gd, g1, _⟩ := fracR_spec (n := 48) (d := M) (by omega)
  obtain ⟨⟨n, D⟩, hf⟩ : ∃ f, f = fracR 48 M := ⟨_, rfl⟩
  rw [← hf] at gn gd g1 ⊢
  dsimp only at gn gd g1 ⊢
  have hn0 : 0 < n := by
    rcases Int.lt_or_le 0 n with h | h
    · exact h
    · have := Int.mul_nonpos_of_nonneg_of_nonpos (show 0 ≤ g by omega) h; omega
  have hn1 : n ≤ 48 := by have := Int.mul_le_mul_of_nonneg_right (show (1 : Int) ≤ g by omega) (show 0 ≤ n by omega); omega
  have hD1 : D ≤ M := by have := Int.mul_le_mul_of_nonneg_right (show (1 : Int) ≤ g by omega) (show 0 ≤ D by omega); omega
  refine ⟨⟨by omega, hn1⟩, ⟨g1, by omega⟩, fun ho => ?_⟩
  obtain ⟨nn, rfl⟩ : ∃ nn : Nat, n = nn := ⟨n.toNat, by omega⟩
  obtain ⟨gg, rfl⟩ : ∃ gg : Nat, g = gg := ⟨g.toNat, by omega⟩
  have hdv : 48 % nn = 0 := by
    have h48 : 48 = gg * nn := by exact_mod_cast gn
    rw [h48]; exact Nat.mul_mod_left ..
  have hk := odd48 ⟨nn, by omega⟩ (by dsimp only; omega) hdv
  dsimp only at hk
  have hg : 16 ≤ (gg : Int) := by
    rcases hk with rfl | rfl
    · omega
    · omega
  have := Int.mul_le_mul_of_nonneg_right hg (show 0 ≤ D by omega)
  omega
def CorRep (D : Int) (C : Fr) : Prop := ∃ m A : Int, (m = 1 ∨ m = 2) ∧ D * m ≤ 32768 ∧ (-1000000000 ≤ A ∧ A ≤ 1000000000) ∧ C = fracR A (D * m)
theorem cor_rep {cw : Bool} {len : Int} {ks : List Shp} {k : Nat} {s : Shp} (hl : 0 ≤ len ∧ len ≤ 4800) (hB : ∀ s ∈ ks, szB s) (hs : ks[k]? = some s) (hk : k ≤ 200) (h1 : 0 ≤ s.size.1 ∧ s.size.1 ≤ 25580) (h2 : 0 ≤ s.size.2 ∧ s.size.2 ≤ 25580) :
    CorRep (sclR cw s).den (corX cw (blA cw len ks k)) ∧ CorRep (sclR cw s).den (corY cw (blA cw len ks k)) := by
  obtain ⟨hst, hln, -, -, e1, e2, e3⟩ : (0 ≤ (blA cw len ks k).st ∧ (blA cw len ks k).st ≤ 4800) ∧ (0 ≤ (blA cw len ks k).ln ∧ (blA cw len ks k).ln ≤ 201) ∧ True ∧ True ∧ (blA cw len ks k).sc = sclR cw s ∧ (blA cw len ks k).ac = fracR ((sclR cw s).num * acR cw s) (sclR cw s).den ∧ True := by
    have hst := st_len (cw := cw) (len := len) hl.1 hB hs
    have hki := (List.getElem?_eq_some_iff.1 hs).1
    have hln := (plA_bd (cw := cw) (len := len) (s := s) (stA_bd (cw := cw) (len := len) hB k (by omega))).1
    have hbl := blA_at (cw := cw) (len := len) hs
    have e3 : (blA cw len ks k).ln = (plA cw len (stA cw len (ks.take k)) s).1 := by rw [hbl]
    rw [← e3] at hln
    exact ⟨by omega, by omega, trivial, trivial, by rw [hbl]; rfl, by rw [hbl]; rfl, trivial⟩
  have hac : 0 ≤ acR cw s ∧ acR cw s ≤ 25580 := by unfold acR; split <;> omega
  obtain ⟨hn, hD, hodd⟩ := scl_rep (cw := cw) h1 h2
  obtain ⟨b, hb⟩ : ∃ b, b = blA cw len ks k := ⟨_, rfl⟩
  rw [← hb] at hst hln e1 e2 ⊢
  obtain ⟨⟨n, D⟩, hf⟩ : ∃ f, f = sclR cw s := ⟨_, rfl⟩
  rw [← hf] at e2 hn hD hodd ⊢
  dsimp only at e2 hn hD hodd ⊢
  have hal : CorRep D ⟨b.st, 1⟩ := by
    refine ⟨1, b.st * D, .inl rfl, by omega, ?_, ?_⟩
    · have := mul_bd2 (a := b.st) (K := 4800) (by omega) (show 0 ≤ D ∧ D ≤ 25580 by omega)
      omega
    · rw [← fr_one]
      exact fracR_eq (by omega) (by omega) (by rw [Int.mul_one, Int.mul_one])
  have hcr : CorRep D (croR b.ac.num b.ac.den b.ln) := by
    rw [e2, cro_com (by omega)]
    have p1 := mul_bd2 (a := 72 * b.ln) (K := 14472) (by omega) (show 0 ≤ D ∧ D ≤ 25580 by omega)
    have p2 := mul_bd2 (a := n) (K := 48) (by omega) hac
    rcases (show n % 2 = 0 ∨ n % 2 = 1 by omega) with he | ho
    · obtain ⟨q, rfl⟩ : ∃ q, n = 2 * q := ⟨n / 2, by omega⟩
      have e : 2 * q * acR cw s = 2 * (q * acR cw s) := Int.mul_assoc ..
      have p3 := mul_bd2 (a := q) (K := 24) (by omega) hac
      refine ⟨1, 72 * b.ln * D + 24 * D - q * acR cw s, .inl rfl, by omega, by omega, ?_⟩
      refine fracR_eq (by omega) (by omega) ?_
      have e3 : 72 * b.ln * (D * 2) = 72 * b.ln * D * 2 := (Int.mul_assoc ..).symm
      have e4 : 72 * b.ln * (D * 2) + (48 * D - 2 * q * acR cw s) = (72 * b.ln * D + 24 * D - q * acR cw s) * 2 := by rw [e, e3]; omega
      rw [e4, Int.mul_one, Int.mul_assoc, Int.mul_comm 2 D]
    · refine ⟨2, 72 * b.ln * (D * 2) + (48 * D - n * acR cw s), .inr rfl, hodd ho, ?_, rfl⟩
      have e3 : 72 * b.ln * (D * 2) = 72 * b.ln * D * 2 := (Int.mul_assoc ..).symm
      rw [e3]; omega
  unfold corX corY
  cases cw
  · exact ⟨hal, hcr⟩
  · exact ⟨hcr, hal⟩
structure PlB (b : Bx) : Prop where
  vx : vF b.x = true
  vy : vF b.y = true
  vw : vF b.w = true
  vh : vF b.h = true
  pw : 0 < b.w.num
  ph : 0 < b.h.num
  ex : vF (plusF b.x b.w) = true
  ey : vF (plusF b.y b.h) = true
theorem fr_pos {n d : Int} (hn : 0 < n) (hd : 0 < d) : 0 < (fracR n d).num := by
  obtain ⟨h1, h2⟩ := fr_val (n := n) hd
  rcases Int.lt_or_le 0 (fracR n d).num with h | h
  · exact h
  · have a := Int.mul_nonpos_of_nonpos_of_nonneg h (show 0 ≤ d by omega)
    have b := Int.mul_pos hn h2
    omega
theorem plB_grp {cw mw : Bool} {len : Int} {ks : List Shp} {k : Nat} {s : Shp} (hl : 0 ≤ len ∧ len ≤ 4800) (hG : ∀ s ∈ ks, s.good) (hs : ks[k]? = some s) (hk : k ≤ 200) (hm : s.small) (h1 : 0 ≤ s.size.1 ∧ s.size.1 ≤ 25580) (h2 : 0 ≤ s.size.2 ∧ s.size.2 ≤ 25580) :
    ∀ x ∈ grpB cw mw (blA cw len ks k), PlB x := fun x hx => by
  have hmem := List.mem_of_getElem? hs
  have hcr := cor_rep (cw := cw) (len := len) hl (fun s hs => (hG s hs).szB) hs hk h1 h2
  obtain ⟨hn, hD, -⟩ := scl_rep (cw := cw) h1 h2
  have hbl := blA_at (cw := cw) (len := len) hs
  have e1 : (blA cw len ks k).sc = sclR cw s := by rw [hbl]; rfl
  have e2 : (blA cw len ks k).s = s := by rw [hbl]
  unfold grpB at hx
  rw [e1, e2] at hx
  obtain ⟨p, hp, rfl⟩ := List.mem_map.1 hx
  have hq := pcs_small (hG s hmem) p hp
  have hpo := pcs_pos s hm 0 0 p hp
  unfold smallQ at hq
  obtain ⟨X, hX⟩ : ∃ X, X = corX cw (blA cw len ks k) := ⟨_, rfl⟩
  obtain ⟨Y, hY⟩ : ∃ Y, Y = corY cw (blA cw len ks k) := ⟨_, rfl⟩
  rw [← hX, ← hY] at hcr ⊢
  obtain ⟨⟨n, D⟩, hf⟩ : ∃ f, f = sclR cw s := ⟨_, rfl⟩
  rw [← hf] at hn hD hcr ⊢
  dsimp only at hn hD hcr
  obtain ⟨⟨m, A, hm1, hm2, hA, hXe⟩, ⟨m', A', hm1', hm2', hA', hYe⟩⟩ := hcr
  have hm0 : 0 < m := by omega
  have hm0' : 0 < m' := by omega
  have qx := mul_bd2 (a := n) (K := 48) (by omega) (show 0 ≤ p.x ∧ p.x ≤ 25580 by omega)
  have qy := mul_bd2 (a := n) (K := 48) (by omega) (show 0 ≤ p.y ∧ p.y ≤ 25580 by omega)
  have qw := mul_bd2 (a := n) (K := 48) (by omega) (show 0 ≤ p.wd ∧ p.wd ≤ 25580 by omega)
  have qh := mul_bd2 (a := n) (K := 48) (by omega) (show 0 ≤ p.hg ∧ p.hg ≤ 25580 by omega)
  have pw := Int.mul_pos (show 0 < n by omega) (show 0 < p.wd by omega)
  have ph := Int.mul_pos (show 0 < n by omega) (show 0 < p.hg by omega)
  have rx := mul_bd2 (a := n * p.x) (K := 1227840) (by omega) (show 0 ≤ m ∧ m ≤ 2 by omega)
  have ry := mul_bd2 (a := n * p.y) (K := 1227840) (by omega) (show 0 ≤ m' ∧ m' ≤ 2 by omega)
  have rw' := mul_bd2 (a := n * p.wd) (K := 1227840) (by omega) (show 0 ≤ m ∧ m ≤ 2 by omega)
  have rh := mul_bd2 (a := n * p.hg) (K := 1227840) (by omega) (show 0 ≤ m' ∧ m' ≤ 2 by omega)
  have hq1 := Int.mul_pos (show 0 < D by omega) hm0
  have hq2 := Int.mul_pos (show 0 < D by omega) hm0'
  obtain ⟨bx, hbx⟩ : ∃ b, b = boxPc ⟨n, D⟩ X Y p := ⟨_, rfl⟩
  have hx1 : bx.x = fracR (A + n * p.x * m) (D * m) := by rw [hbx]; exact add_rep (D := D) (a := n * p.x) hXe (by omega) hm0
  have hy1 : bx.y = fracR (A' + n * p.y * m') (D * m') := by rw [hbx]; exact add_rep (D := D) (a := n * p.y) hYe (by omega) hm0'
  have hw1 : bx.w = fracR (n * p.wd) D := by rw [hbx]; rfl
  have hh1 : bx.h = fracR (n * p.hg) D := by rw [hbx]; rfl
  have hex : plusF bx.x bx.w = fracR (A + n * p.x * m + n * p.wd * m) (D * m) := by rw [hw1]; exact add_rep (D := D) (a := n * p.wd) hx1 (by omega) hm0
  have hey : plusF bx.y bx.h = fracR (A' + n * p.y * m' + n * p.hg * m') (D * m') := by rw [hh1]; exact add_rep (D := D) (a := n * p.hg) hy1 (by omega) hm0'
  have vw : vF bx.w = true := by rw [hw1]; exact vF_fr (by omega) (by omega)
  have vh : vF bx.h = true := by rw [hh1]; exact vF_fr (by omega) (by omega)
  have vy : vF bx.y = true := by rw [hy1]; exact vF_fr (by omega) (by omega)
  have vey : vF (plusF bx.y bx.h) = true := by rw [hey]; exact vF_fr (by omega) (by omega)
  have npw : 0 < bx.w.num := by rw [hw1]; exact fr_pos pw (by omega)
  have nph : 0 < bx.h.num := by rw [hh1]; exact fr_pos ph (by omega)
  rw [← hbx]
  cases mw with
  | false =>
    rw [if_neg (by decide)]
    exact ⟨by rw [hx1]; exact vF_fr (by omega) (by omega), vy, vw, vh, npw, nph, by rw [hex]; exact vF_fr (by omega) (by omega), vey⟩
  | true =>
    rw [if_pos rfl]
    have hmx : bx.mir.x = fracR (-(A + n * p.x * m + n * p.wd * m)) (D * m) := by
      show negF (plusF bx.x bx.w) = _
      rw [hex, neg_fr]
    have hme : plusF bx.mir.x bx.mir.w = fracR (-(A + n * p.x * m + n * p.wd * m) + n * p.wd * m) (D * m) := by
      show plusF bx.mir.x bx.w = _
      rw [hw1]; exact add_rep (D := D) (a := n * p.wd) hmx (by omega) hm0
    exact ⟨by rw [hmx]; exact vF_fr (by omega) (by omega), vy, vw, vh, npw, nph, by rw [hme]; exact vF_fr (by omega) (by omega), vey⟩
theorem layL_placed {L : Lm} (cw mw : Bool) {len : Int} {ns : List Nd} (h : Pln L.li ns) (hl : 0 ≤ len ∧ len ≤ 4800) : ∀ x ∈ layL cw mw len (shpsI L.li cw ns), PlB x := fun x hx => by
  unfold layL at hx
  obtain ⟨k, hk, hx⟩ := List.mem_flatMap.1 hx
  rw [List.mem_range] at hk
  obtain ⟨s, hs⟩ : ∃ s, (shpsI L.li cw ns)[k]? = some s := ⟨_, List.getElem?_eq_getElem hk⟩
  have hm := List.mem_of_getElem? hs
  have hz := shps_size2 cw h s hm
  have hM2 : (shpsI L.li cw ns).length ≤ 200 := by
    have hkl : (shpsI L.li cw ns).length = (topsL ns).length := by unfold shpsI; rw [List.length_map]
    have h1 : (topsL ns).length ≤ ns.length := by
      unfold topsL
      refine Nat.le_trans (List.length_filter_le _ _) ?_
      rw [List.length_range]; exact Nat.le_refl _
    have := (text_ok h.ok).2.1
    omega
  exact plB_grp hl (shps_good cw h) hs (by omega) (shps_small cw h s hm) hz.1 hz.2 x hx
open Go.RowKit
def sepN (a b : Pc) : Prop := (a.x + a.wd ≤ b.x ∨ b.x + b.wd ≤ a.x) ∨ (a.y + a.hg ≤ b.y ∨ b.y + b.hg ≤ a.y)
def inN (a b : Pc) : Prop := (a.x ≤ b.x ∧ b.x + b.wd ≤ a.x + a.wd) ∧ (a.y ≤ b.y ∧ b.y + b.hg ≤ a.y + a.hg)
mutual
def Shp.ovs : Shp → List Bool
  | .gly .. => [false]
  | .gap .. => [false]
  | .ovl .. => [true, false]
  | .row _ ks => ovsS ks
  | .col _ ks => ovsS ks
  | .rng _ s => false :: s.ovs
def ovsS : List Shp → List Bool
  | [] => []
  | k :: r => k.ovs ++ ovsS r
end
def okL : List Pc → List Bool → Prop
  | [], [] => True
  | a :: r, ov :: o => (∀ (j : Nat) (b : Pc), r[j]? = some b → sepN a b ∨ (inN a b ∧ (a.n.kind = 5 ∨ (j = 0 ∧ ov = true)))) ∧ okL r o
  | _, _ => False
theorem okL_app : ∀ {l1 l2 : List Pc} {o1 o2 : List Bool}, okL l1 o1 → okL l2 o2 → (∀ a ∈ l1, ∀ b ∈ l2, sepN a b) → okL (l1 ++ l2) (o1 ++ o2)
  | [], l2, [], o2, _, h, _ => h
  | [], _, _ :: _, _, h, _, _ => h.elim
  | _ :: _, _, [], _, h, _, _ => h.elim
  | a :: r, l2, ov :: o, o2, h, h2, hs => by
    obtain ⟨h1, hr⟩ := h
    refine ⟨fun j b hb => ?_, okL_app hr h2 (fun x hx y hy => hs x (List.mem_cons_of_mem _ hx) y hy)⟩
    have hb : (r ++ l2)[j]? = some b := hb
    rcases Nat.lt_or_ge j r.length with hj | hj
    · rw [List.getElem?_append_left hj] at hb
      exact h1 j b hb
    · rw [List.getElem?_append_right hj] at hb
      exact .inl (hs a (List.mem_cons_self ..) b (List.mem_of_getElem? hb))
mutual
def Shp.rngs : Shp → Prop
  | .gly .. => True
  | .gap .. => True
  | .ovl .. => True
  | .row _ ks => rngsS ks
  | .col _ ks => rngsS ks
  | .rng n s => n.kind = 5 ∧ s.rngs
def rngsS : List Shp → Prop
  | [] => True
  | k :: r => k.rngs ∧ rngsS r
end
mutual
theorem rngs_of (L : Lm) (cw : Bool) : ∀ (s : Shp) (u : Nd) (bl : List Nd), ShOf L cw s u bl → s.rngs
  | .gly n a b, u, bl, h => trivial
  | .gap n, u, bl, h => trivial
  | .ovl n1 a b n2 c d, u, bl, h => trivial
  | .row sp ks, u, bl, h => by rw [ShOf] at h; rw [Shp.rngs]; exact rngsS_of L cw ks bl h.2.2.2
  | .col sp ks, u, bl, h => by rw [ShOf] at h; rw [Shp.rngs]; exact rngsS_of L cw ks bl h.2.2.2
  | .rng n (.row sp ks), u, bl, h => by rw [ShOf] at h; rw [Shp.rngs, Shp.rngs]; exact ⟨by rw [h.1]; exact h.2.1, rngsS_of L cw ks bl h.2.2.2.2⟩
  | .rng n (.col sp ks), u, bl, h => by rw [ShOf] at h; rw [Shp.rngs, Shp.rngs]; exact ⟨by rw [h.1]; exact h.2.1, rngsS_of L cw ks bl h.2.2.2.2⟩
  | .rng n (.gly _ _ _), u, bl, h => by simp [ShOf] at h
  | .rng n (.gap _), u, bl, h => by simp [ShOf] at h
  | .rng n (.ovl _ _ _ _ _ _), u, bl, h => by simp [ShOf] at h
  | .rng n (.rng _ _), u, bl, h => by simp [ShOf] at h
theorem rngsS_of (L : Lm) (cw : Bool) : ∀ (ks : List Shp) (ns : List Nd), ShsOf L cw ks ns → rngsS ks
  | [], ns, h => trivial
  | k :: r, ns, h => by
    rw [ShsOf] at h
    obtain ⟨u, bl, rest, rfl, _, h1, h2⟩ := h
    rw [rngsS]
    exact ⟨rngs_of L cw k u bl h1, rngsS_of L cw r rest h2⟩
end
mutual
theorem okS : ∀ (s : Shp), s.good → s.small → s.rngs → ∀ (x y : Int), okL (s.pcs x y) s.ovs
  | .gly n a b, _, _, _, x, y => by rw [Shp.pcs, Shp.ovs]; exact ⟨fun j b hb => by simp at hb, trivial⟩
  | .gap n, _, _, _, x, y => by rw [Shp.pcs, Shp.ovs]; exact ⟨fun j b hb => by simp at hb, trivial⟩
  | .ovl n1 a b n2 c d, _, h, _, x, y => by
    rw [Shp.small] at h
    rw [Shp.pcs, Shp.ovs]
    refine ⟨fun j q hq => .inr ?_, fun j b hb => by simp at hb, trivial⟩
    cases j with
    | zero =>
      simp at hq
      subst hq
      refine ⟨?_, .inr ⟨rfl, rfl⟩⟩
      unfold inN; dsimp only; omega
    | succ j => simp at hq
  | .row sp ks, hg, h, hr, x, y => by
    rw [Shp.good] at hg
    rw [Shp.small] at h
    rw [Shp.rngs] at hr
    rw [Shp.pcs, Shp.ovs]
    have hm := max_mem ks (fun k hk => (goodS.mem hg.2.2.2 k hk).szB)
    exact okR sp (maxH ks) h.1.1 ks hg.2.2.2 h.2.2 hr (fun k hk => (hm k hk).2) x y
  | .col sp ks, hg, h, hr, x, y => by
    rw [Shp.good] at hg
    rw [Shp.small] at h
    rw [Shp.rngs] at hr
    rw [Shp.pcs, Shp.ovs]
    have hm := max_mem ks (fun k hk => (goodS.mem hg.2.2.2 k hk).szB)
    exact okC sp (maxW ks) h.1.1 ks hg.2.2.2 h.2.2 hr (fun k hk => (hm k hk).1) x y
  | .rng n s, hg, h, hr, x, y => by
    rw [Shp.good] at hg
    rw [Shp.small] at h
    rw [Shp.rngs] at hr
    rw [Shp.pcs, Shp.ovs]
    refine ⟨fun j b hb => .inr ⟨?_, .inl hr.1⟩, okS s hg.2.2 h.2 hr.2 _ _⟩
    have := pcs_in s hg.2.2 (x + 12) (y + 12) b (List.mem_of_getElem? hb)
    unfold inR at this
    unfold inN
    dsimp only
    omega
theorem okR (sp H : Int) (h0 : 0 ≤ sp) : ∀ (ks : List Shp), goodS ks → smallS ks → rngsS ks → (∀ k ∈ ks, k.size.2 ≤ H) → ∀ (x y : Int), okL (pcsR sp H ks x y) (ovsS ks)
  | [], _, _, _, _, x, y => by rw [pcsR, ovsS]; exact trivial
  | k :: r, hg, h, hr, hH, x, y => by
    rw [goodS] at hg
    rw [smallS] at h
    rw [rngsS] at hr
    rw [pcsR, ovsS]
    refine okL_app (okS k hg.1 h.1 hr.1 _ _) (okR sp H h0 r hg.2 h.2 hr.2 (fun q hq => hH q (List.mem_cons_of_mem _ hq)) _ _) (fun a ha b hb => ?_)
    have h1 := pcs_in k hg.1 _ _ a ha
    have h2 := pcsR_in sp H h0 r hg.2 (fun q hq => hH q (List.mem_cons_of_mem _ hq)) _ _ b hb
    unfold inR at h1 h2
    exact .inl (.inl (by omega))
theorem okC (sp W : Int) (h0 : 0 ≤ sp) : ∀ (ks : List Shp), goodS ks → smallS ks → rngsS ks → (∀ k ∈ ks, k.size.1 ≤ W) → ∀ (x y : Int), okL (pcsC sp W ks x y) (ovsS ks)
  | [], _, _, _, _, x, y => by rw [pcsC, ovsS]; exact trivial
  | k :: r, hg, h, hr, hH, x, y => by
    rw [goodS] at hg
    rw [smallS] at h
    rw [rngsS] at hr
    rw [pcsC, ovsS]
    refine okL_app (okS k hg.1 h.1 hr.1 _ _) (okC sp W h0 r hg.2 h.2 hr.2 (fun q hq => hH q (List.mem_cons_of_mem _ hq)) _ _) (fun a ha b hb => ?_)
    have h1 := pcs_in k hg.1 _ _ a ha
    have h2 := pcsC_in sp W h0 r hg.2 (fun q hq => hH q (List.mem_cons_of_mem _ hq)) _ _ b hb
    unfold inR at h1 h2
    exact .inr (.inl (by omega))
end
open Go.RowKit
theorem cmp_scale {u v c x y d : Int} (hc : 0 < c) (hd : 0 < d) (h1 : u * c = x * d) (h2 : v * c = y * d) : u < v ↔ x < y := by
  constructor
  · intro h
    have a := Int.mul_lt_mul_of_pos_right h hc
    rw [h1, h2] at a
    exact Int.lt_of_mul_lt_mul_right a (Int.le_of_lt hd)
  · intro h
    have a := Int.mul_lt_mul_of_pos_right h hd
    rw [← h1, ← h2] at a
    exact Int.lt_of_mul_lt_mul_right a (Int.le_of_lt hc)
theorem fr_lt {A Q B P : Int} (hQ : 0 < Q) (hP : 0 < P) : ((fracR A Q).num * (fracR B P).den < (fracR B P).num * (fracR A Q).den) ↔ A * P < B * Q := by
  obtain ⟨h1, f0⟩ := fr_val (n := A) hQ
  obtain ⟨h2, g0⟩ := fr_val (n := B) hP
  obtain ⟨⟨a, f⟩, hF⟩ : ∃ F, F = fracR A Q := ⟨_, rfl⟩
  obtain ⟨⟨b, g⟩, hG⟩ : ∃ F, F = fracR B P := ⟨_, rfl⟩
  rw [← hF] at h1 f0 ⊢
  rw [← hG] at h2 g0 ⊢
  dsimp only at h1 h2 f0 g0 ⊢
  refine cmp_scale (Int.mul_pos hQ hP) (Int.mul_pos f0 g0) ?_ ?_
  · have e : a * g * (Q * P) = (a * Q) * (g * P) := by ac_rfl
    rw [e, h1]; ac_rfl
  · have e : b * f * (Q * P) = (b * P) * (f * Q) := by ac_rfl
    rw [e, h2]; ac_rfl
structure AxR (F W : Fr) (A S Q : Int) : Prop where
  q : 0 < Q
  f : F = fracR A Q
  w : W = fracR S Q
theorem AxR.en {F W : Fr} {A S Q : Int} (h : AxR F W A S Q) : plusF F W = fracR (A + S) Q := by
  obtain ⟨h1, f0⟩ := fr_val (n := A) h.q
  obtain ⟨h2, g0⟩ := fr_val (n := S) h.q
  rw [h.f, h.w]
  exact plus_com h.q h1 h2 f0 g0
def crossAx (F W G V : Fr) : Bool := decide (F.num * (plusF G V).den < (plusF G V).num * F.den) && decide (G.num * (plusF F W).den < (plusF F W).num * G.den)
theorem no_cross {F W G V : Fr} {A S Q B T P : Int} (h : AxR F W A S Q) (k : AxR G V B T P) (hs : (A + S) * P ≤ B * Q ∨ (B + T) * Q ≤ A * P) : crossAx F W G V = false := by
  unfold crossAx
  rw [h.en, k.en, h.f, k.f]
  rw [Bool.and_eq_false_iff, decide_eq_false_iff_not, decide_eq_false_iff_not, fr_lt h.q k.q, fr_lt k.q h.q]
  omega
theorem no_cross_at {F W G V : Fr} {A S Q B T P : Int} (h : AxR F W A S Q) (k : AxR G V B T P) (t : Int) (h1 : A + S ≤ t * Q) (h2 : t * P ≤ B) : crossAx F W G V = false := by
  refine no_cross h k (.inl ?_)
  have a := Int.mul_le_mul_of_nonneg_right h1 (Int.le_of_lt k.q)
  have b := Int.mul_le_mul_of_nonneg_right h2 (Int.le_of_lt h.q)
  have e : t * Q * P = t * P * Q := by ac_rfl
  omega
theorem no_cross_at' {F W G V : Fr} {A S Q B T P : Int} (h : AxR F W A S Q) (k : AxR G V B T P) (t : Int) (h1 : B + T ≤ t * P) (h2 : t * Q ≤ A) : crossAx F W G V = false := by
  refine no_cross h k (.inr ?_)
  have a := Int.mul_le_mul_of_nonneg_right h1 (Int.le_of_lt h.q)
  have b := Int.mul_le_mul_of_nonneg_right h2 (Int.le_of_lt k.q)
  have e : t * Q * P = t * P * Q := by ac_rfl
  omega
def hldB (X W Y V : Fr) : Bool := !decide (Y.num * X.den < X.num * Y.den) && decide ((Y.num * V.den + V.num * Y.den) * (X.den * W.den) ≤ (X.num * W.den + W.num * X.den) * (Y.den * V.den))
theorem holds_ax {X W Y V : Fr} {A S Q B T : Int} (h : AxR X W A S Q) (k : AxR Y V B T Q) (h1 : A ≤ B) (h2 : B + T ≤ A + S) : hldB X W Y V = true := by
  obtain ⟨a1, a2⟩ := fr_val (n := A) h.q
  obtain ⟨b1, b2⟩ := fr_val (n := S) h.q
  obtain ⟨c1, c2⟩ := fr_val (n := B) h.q
  obtain ⟨d1, d2⟩ := fr_val (n := T) h.q
  unfold hldB
  rw [Bool.and_eq_true, decide_eq_true_eq, Bool.not_eq_true', decide_eq_false_iff_not]
  refine ⟨?_, ?_⟩
  · rw [h.f, k.f, fr_lt k.q h.q]
    have := Int.mul_le_mul_of_nonneg_right h1 (Int.le_of_lt h.q)
    omega
  · rw [← h.f] at a1 a2
    rw [← h.w] at b1 b2
    rw [← k.f] at c1 c2
    rw [← k.w] at d1 d2
    refine Int.not_lt.1 fun hlt => ?_
    rw [cmp_scale (c := Q) (x := A + S) (y := B + T) (d := (X.den * W.den) * (Y.den * V.den)) h.q (Int.mul_pos (Int.mul_pos a2 b2) (Int.mul_pos c2 d2)) ?_ ?_] at hlt
    · omega
    · have e : (X.num * W.den + W.num * X.den) * (Y.den * V.den) * Q = ((X.num * Q) * W.den + (W.num * Q) * X.den) * (Y.den * V.den) := by
        rw [Int.mul_right_comm, Int.add_mul]; congr 2 <;> ac_rfl
      rw [e, a1, b1]
      have e2 : A * X.den * W.den + S * W.den * X.den = (A + S) * (X.den * W.den) := by rw [Int.add_mul]; congr 1 <;> ac_rfl
      rw [e2]; ac_rfl
    · have e : (Y.num * V.den + V.num * Y.den) * (X.den * W.den) * Q = ((Y.num * Q) * V.den + (V.num * Q) * Y.den) * (X.den * W.den) := by
        rw [Int.mul_right_comm, Int.add_mul]; congr 2 <;> ac_rfl
      rw [e, c1, d1]
      have e2 : B * Y.den * V.den + T * V.den * Y.den = (B + T) * (Y.den * V.den) := by rw [Int.add_mul]; congr 1 <;> ac_rfl
      rw [e2]; ac_rfl
theorem st_after {cw : Bool} {len : Int} {ks : List Shp} (hB : ∀ s ∈ ks, szB s) : ∀ k, k ≤ ks.length → ∀ i, i < k →
    (blA cw len ks i).ln < (stA cw len (ks.take k)).1 ∨ ((stA cw len (ks.take k)).1 = (blA cw len ks i).ln ∧ (blA cw len ks i).st + ceilR (blA cw len ks i).al.num (blA cw len ks i).al.den + 24 ≤ (stA cw len (ks.take k)).2)
  | 0, _, i, h => by omega
  | k + 1, hk, i, h => by
    obtain ⟨s, hs⟩ : ∃ s, ks[k]? = some s := ⟨_, List.getElem?_eq_getElem (by omega)⟩
    have hcl := al_le (cw := cw) (hB s (List.mem_of_getElem? hs))
    have hbl := blA_at (cw := cw) (len := len) hs
    rw [stA_step hs]
    unfold nxA
    rcases Nat.lt_or_ge i k with hi | hi
    · have ih := st_after (cw := cw) (len := len) hB k (by omega) i hi
      unfold plA
      split
      · dsimp only; omega
      · dsimp only; omega
    · obtain rfl : i = k := by omega
      rw [hbl]
      dsimp only
      omega
theorem st_order {cw : Bool} {len : Int} {ks : List Shp} (hB : ∀ s ∈ ks, szB s) {i k : Nat} (hi : i < k) (hk : k < ks.length) :
    (blA cw len ks i).ln < (blA cw len ks k).ln ∨ ((blA cw len ks k).ln = (blA cw len ks i).ln ∧ (blA cw len ks i).st + ceilR (blA cw len ks i).al.num (blA cw len ks i).al.den + 24 ≤ (blA cw len ks k).st) := by
  obtain ⟨s, hs⟩ : ∃ s, ks[k]? = some s := ⟨_, List.getElem?_eq_getElem hk⟩
  have h := st_after (cw := cw) (len := len) hB k (by omega) i hi
  rw [blA_at hs]
  dsimp only
  unfold plA
  split
  · dsimp only; omega
  · omega
open Go.RowKit
theorem fr_two (a D : Int) (hD : 0 < D) : fracR a D = fracR (a * 2) (D * 2) := fracR_eq hD (by omega) (by ac_rfl)
structure BRep (x : Bx) (mw : Bool) (ox oy n D : Int) (p : Pc) : Prop where
  ax : AxR x.x x.w (if mw then -(ox + n * p.x * 2 + n * p.wd * 2) else ox + n * p.x * 2) (n * p.wd * 2) (D * 2)
  ay : AxR x.y x.h (oy + n * p.y * 2) (n * p.hg * 2) (D * 2)
  kd : x.kind = p.n.kind
def crossP (a b : Bx) : Bool := crossAx a.x a.w b.x b.w && crossAx a.y a.h b.y b.h
def conP (a b : Bx) : Bool := hldB a.x a.w b.x b.w && hldB a.y a.h b.y b.h
theorem mul_mono {n a b : Int} (hn : 0 ≤ n) (h : a ≤ b) : n * a ≤ n * b := Int.mul_le_mul_of_nonneg_left h hn
theorem pair_sep {x y : Bx} {mw : Bool} {ox oy n D : Int} {p q : Pc} (hn : 0 ≤ n) (h : BRep x mw ox oy n D p) (k : BRep y mw ox oy n D q) (hs : sepN p q) : crossP x y = false := by
  have hQ := h.ax.q
  have e1 : n * (p.x + p.wd) = n * p.x + n * p.wd := Int.mul_add ..
  have e2 : n * (q.x + q.wd) = n * q.x + n * q.wd := Int.mul_add ..
  have e3 : n * (p.y + p.hg) = n * p.y + n * p.hg := Int.mul_add ..
  have e4 : n * (q.y + q.hg) = n * q.y + n * q.hg := Int.mul_add ..
  have mm : ∀ {a b : Int}, a ≤ b → a * (D * 2) ≤ b * (D * 2) := fun h => Int.mul_le_mul_of_nonneg_right h (Int.le_of_lt hQ)
  unfold crossP
  rw [Bool.and_eq_false_iff]
  rcases hs with (hs | hs) | (hs | hs)
  · refine .inl (no_cross h.ax k.ax ?_)
    have := mul_mono hn hs
    cases mw
    · rw [if_neg (by decide), if_neg (by decide)]; exact .inl (mm (by omega))
    · rw [if_pos rfl, if_pos rfl]; exact .inr (mm (by omega))
  · refine .inl (no_cross h.ax k.ax ?_)
    have := mul_mono hn hs
    cases mw
    · rw [if_neg (by decide), if_neg (by decide)]; exact .inr (mm (by omega))
    · rw [if_pos rfl, if_pos rfl]; exact .inl (mm (by omega))
  · refine .inr (no_cross h.ay k.ay (.inl (mm ?_)))
    have := mul_mono hn hs; omega
  · refine .inr (no_cross h.ay k.ay (.inr (mm ?_)))
    have := mul_mono hn hs; omega
theorem pair_in {x y : Bx} {mw : Bool} {ox oy n D : Int} {p q : Pc} (hn : 0 ≤ n) (h : BRep x mw ox oy n D p) (k : BRep y mw ox oy n D q) (hs : inN p q) : conP x y = true := by
  have e1 : n * (p.x + p.wd) = n * p.x + n * p.wd := Int.mul_add ..
  have e2 : n * (q.x + q.wd) = n * q.x + n * q.wd := Int.mul_add ..
  have e3 : n * (p.y + p.hg) = n * p.y + n * p.hg := Int.mul_add ..
  have e4 : n * (q.y + q.hg) = n * q.y + n * q.hg := Int.mul_add ..
  obtain ⟨⟨h1, h2⟩, h3, h4⟩ := hs
  have m1 := mul_mono hn h1
  have m2 := mul_mono hn h2
  have m3 := mul_mono hn h3
  have m4 := mul_mono hn h4
  unfold conP
  rw [Bool.and_eq_true]
  refine ⟨holds_ax h.ax k.ax ?_ ?_, holds_ax h.ay k.ay (by omega) (by omega)⟩
  · cases mw
    · rw [if_neg (by decide), if_neg (by decide)]; omega
    · rw [if_pos rfl, if_pos rfl]; omega
  · cases mw
    · rw [if_neg (by decide), if_neg (by decide)]; omega
    · rw [if_pos rfl, if_pos rfl]; omega
def okBx : List Bx → List Bool → Prop
  | [], [] => True
  | a :: r, ov :: o => (∀ (j : Nat) (b : Bx), r[j]? = some b → crossP a b = true → conP a b = true ∧ (a.kind = 5 ∨ (j = 0 ∧ ov = true))) ∧ okBx r o
  | _, _ => False
theorem okBx_app : ∀ {l1 l2 : List Bx} {o1 o2 : List Bool}, okBx l1 o1 → okBx l2 o2 → (∀ a ∈ l1, ∀ b ∈ l2, crossP a b = false) → okBx (l1 ++ l2) (o1 ++ o2)
  | [], l2, [], o2, _, h, _ => h
  | [], _, _ :: _, _, h, _, _ => h.elim
  | _ :: _, _, [], _, h, _, _ => h.elim
  | a :: r, l2, ov :: o, o2, h, h2, hs => by
    obtain ⟨h1, hr⟩ := h
    refine ⟨fun j b hb hc => ?_, okBx_app hr h2 (fun x hx y hy => hs x (List.mem_cons_of_mem _ hx) y hy)⟩
    have hb : (r ++ l2)[j]? = some b := hb
    rcases Nat.lt_or_ge j r.length with hj | hj
    · rw [List.getElem?_append_left hj] at hb
      exact h1 j b hb hc
    · rw [List.getElem?_append_right hj] at hb
      rw [hs a (List.mem_cons_self ..) b (List.mem_of_getElem? hb)] at hc
      cases hc
theorem okBx_map {f : Pc → Bx} {mw : Bool} {ox oy n D : Int} (hn : 0 ≤ n) : ∀ {l : List Pc} {o : List Bool}, (∀ p ∈ l, BRep (f p) mw ox oy n D p) → okL l o → okBx (l.map f) o
  | [], [], _, _ => trivial
  | [], _ :: _, _, h => h.elim
  | _ :: _, [], _, h => h.elim
  | a :: r, ov :: o, hf, h => by
    obtain ⟨h1, hr⟩ := h
    refine ⟨fun j b hb hc => ?_, okBx_map hn (fun p hp => hf p (List.mem_cons_of_mem _ hp)) hr⟩
    have hb : (r.map f)[j]? = some b := hb
    rw [List.getElem?_map] at hb
    cases hq : r[j]? with
    | none => rw [hq] at hb; cases hb
    | some q =>
      rw [hq] at hb
      injection hb with hb
      subst hb
      have ha := hf a (List.mem_cons_self ..)
      have hq2 := hf q (List.mem_cons_of_mem _ (List.mem_of_getElem? hq))
      rcases h1 j q hq with h3 | ⟨h3, h4⟩
      · rw [pair_sep hn ha hq2 h3] at hc; cases hc
      · exact ⟨pair_in hn ha hq2 h3, by rw [ha.kd]; exact h4⟩
structure GFit (cw : Bool) (b : Bl) (s : Shp) (n D : Int) : Prop where
  n0 : 0 ≤ n
  d0 : 0 < D
  al : n * alR cw s ≤ ceilR b.al.num b.al.den * D
  ac : n * acR cw s ≤ 48 * D
  ac0 : 0 ≤ acR cw s
def oAl (b : Bl) (D : Int) : Int := b.st * (D * 2)
def oAc (cw : Bool) (b : Bl) (s : Shp) (n D : Int) : Int := 72 * b.ln * (D * 2) + (48 * D - n * acR cw s)
def oX (cw : Bool) (b : Bl) (s : Shp) (n D : Int) : Int := if cw then oAc cw b s n D else oAl b D
def oY (cw : Bool) (b : Bl) (s : Shp) (n D : Int) : Int := if cw then oAl b D else oAc cw b s n D
theorem ceil_up {n d : Int} (hd : 0 < d) : n ≤ ceilR n d * d := by
  unfold ceilR
  have h1 := Int.emod_add_mul_ediv (n + d - 1) d
  have h2 := Int.emod_lt_of_pos (n + d - 1) hd
  have e : (n + d - 1) / d * d = d * ((n + d - 1) / d) := Int.mul_comm ..
  omega
theorem grp_fit {cw : Bool} {len : Int} {ks : List Shp} {k : Nat} {s : Shp} (hs : ks[k]? = some s) (h1 : 0 ≤ s.size.1 ∧ s.size.1 ≤ 25580) (h2 : 0 ≤ s.size.2 ∧ s.size.2 ≤ 25580) :
    GFit cw (blA cw len ks k) s (sclR cw s).num (sclR cw s).den := by
  obtain ⟨hn, hD, -⟩ := scl_rep (cw := cw) h1 h2
  have hac : 0 ≤ acR cw s ∧ acR cw s ≤ 25580 := by unfold acR; split <;> omega
  refine ⟨by omega, by omega, ?_, ?_, hac.1⟩
  · have e : (blA cw len ks k).al = fracR ((sclR cw s).num * alR cw s) (sclR cw s).den := by rw [blA_at hs]; rfl
    rw [e]
    obtain ⟨f1, f2⟩ := fr_val (n := (sclR cw s).num * alR cw s) (show 0 < (sclR cw s).den by omega)
    have h := ceil_up (n := (fracR ((sclR cw s).num * alR cw s) (sclR cw s).den).num) f2
    obtain ⟨⟨a, d⟩, hF⟩ : ∃ F, F = fracR ((sclR cw s).num * alR cw s) (sclR cw s).den := ⟨_, rfl⟩
    rw [← hF] at f1 f2 h ⊢
    dsimp only at f1 f2 h ⊢
    have h3 := Int.mul_le_mul_of_nonneg_right h (show 0 ≤ (sclR cw s).den by omega)
    rw [f1] at h3
    have e2 : ceilR a d * d * (sclR cw s).den = ceilR a d * (sclR cw s).den * d := Int.mul_right_comm ..
    rw [e2] at h3
    exact Int.le_of_mul_le_mul_right h3 f2
  · obtain ⟨M, hM⟩ : ∃ M, M = max 48 (if isRng s then acR cw s else max s.size.1 s.size.2) := ⟨_, rfl⟩
    have hM2 : 48 ≤ M ∧ acR cw s ≤ M := by
      rw [hM]
      refine ⟨by omega, ?_⟩
      split
      · omega
      · unfold acR; split <;> omega
    have e : sclR cw s = fracR 48 M := by rw [hM]; rfl
    obtain ⟨f1, f2⟩ := fr_val (n := 48) (show 0 < M by omega)
    rw [← e] at f1
    have := mul_mono (n := (sclR cw s).num) (by omega) hM2.2
    omega
theorem grp_rep {cw mw : Bool} {len : Int} {ks : List Shp} {k : Nat} {s : Shp} (hs : ks[k]? = some s) (hf : GFit cw (blA cw len ks k) s (sclR cw s).num (sclR cw s).den) (p : Pc) :
    BRep (if mw then (boxPc (blA cw len ks k).sc (corX cw (blA cw len ks k)) (corY cw (blA cw len ks k)) p).mir else boxPc (blA cw len ks k).sc (corX cw (blA cw len ks k)) (corY cw (blA cw len ks k)) p) mw (oX cw (blA cw len ks k) s (sclR cw s).num (sclR cw s).den) (oY cw (blA cw len ks k) s (sclR cw s).num (sclR cw s).den) (sclR cw s).num (sclR cw s).den p := by
  have hbl := blA_at (cw := cw) (len := len) hs
  have e1 : (blA cw len ks k).sc = sclR cw s := by rw [hbl]; rfl
  have e2 : (blA cw len ks k).ac = fracR ((sclR cw s).num * acR cw s) (sclR cw s).den := by rw [hbl]; rfl
  obtain ⟨b, hb⟩ : ∃ b, b = blA cw len ks k := ⟨_, rfl⟩
  rw [← hb] at e1 e2 ⊢
  have hD := hf.d0
  obtain ⟨⟨n, D⟩, hsc⟩ : ∃ f, f = sclR cw s := ⟨_, rfl⟩
  rw [← hsc] at e1 e2 hD ⊢
  dsimp only at e2 hD ⊢
  have hal : (⟨b.st, 1⟩ : Fr) = fracR (oAl b D) (D * 2) := by
    rw [← fr_one]; exact fracR_eq (by omega) (by omega) (by unfold oAl; rw [Int.mul_one])
  have hcr : croR b.ac.num b.ac.den b.ln = fracR (oAc cw b s n D) (D * 2) := by rw [e2]; exact cro_com hD
  have hX : corX cw b = fracR (oX cw b s n D) (D * 2) := by
    unfold corX oX
    cases cw
    · exact hal
    · exact hcr
  have hY : corY cw b = fracR (oY cw b s n D) (D * 2) := by
    unfold corY oY
    cases cw
    · exact hcr
    · exact hal
  obtain ⟨x, hx⟩ : ∃ x, x = boxPc b.sc (corX cw b) (corY cw b) p := ⟨_, rfl⟩
  have ax : AxR x.x x.w (oX cw b s n D + n * p.x * 2) (n * p.wd * 2) (D * 2) := by
    refine ⟨by omega, ?_, ?_⟩
    · rw [hx, e1]; exact add_rep (D := D) (a := n * p.x) hX hD (by omega)
    · rw [hx, e1]; exact fr_two _ D hD
  have ay : AxR x.y x.h (oY cw b s n D + n * p.y * 2) (n * p.hg * 2) (D * 2) := by
    refine ⟨by omega, ?_, ?_⟩
    · rw [hx, e1]; exact add_rep (D := D) (a := n * p.y) hY hD (by omega)
    · rw [hx, e1]; exact fr_two _ D hD
  have kd : x.kind = p.n.kind := by rw [hx]; rfl
  rw [← hx]
  cases mw with
  | false => rw [if_neg (by decide)]; exact ⟨by rw [if_neg (by decide)]; exact ax, ay, kd⟩
  | true =>
    rw [if_pos rfl]
    refine ⟨?_, ay, kd⟩
    rw [if_pos rfl]
    refine ⟨ax.q, ?_, ax.w⟩
    show negF (plusF x.x x.w) = _
    rw [ax.en, neg_fr]
theorem grp_apart {cw mw : Bool} {b c : Bl} {s t : Shp} {n D n' D' : Int} (hf : GFit cw b s n D) (hg : GFit cw c t n' D') (hs : s.good) (ht : t.good)
    (ho : b.ln < c.ln ∨ (c.ln = b.ln ∧ b.st + ceilR b.al.num b.al.den + 24 ≤ c.st)) {x y : Bx} {p q : Pc} (hp : p ∈ s.pcs 0 0) (hq : q ∈ t.pcs 0 0)
    (hx : BRep x mw (oX cw b s n D) (oY cw b s n D) n D p) (hy : BRep y mw (oX cw c t n' D') (oY cw c t n' D') n' D' q) : crossP x y = false := by
  have i1 := pcs_in s hs 0 0 p hp
  have i2 := pcs_in t ht 0 0 q hq
  unfold inR at i1 i2
  have e1 : n * (p.x + p.wd) = n * p.x + n * p.wd := Int.mul_add ..
  have e3 : n * (p.y + p.hg) = n * p.y + n * p.hg := Int.mul_add ..
  have m1 := mul_mono hf.n0 (show p.x + p.wd ≤ s.size.1 by omega)
  have m2 := mul_mono hf.n0 (show p.y + p.hg ≤ s.size.2 by omega)
  have z1 := Int.mul_nonneg hg.n0 (show 0 ≤ q.x by omega)
  have z2 := Int.mul_nonneg hg.n0 (show 0 ≤ q.y by omega)
  have d0 := hf.d0
  have d0' := hg.d0
  have hal := hf.al
  have hac := hf.ac
  have hac' := hg.ac
  -- along: a whole number between them, if in one line
  have hA : c.ln = b.ln ∧ b.st + ceilR b.al.num b.al.den + 24 ≤ c.st → oAl b D + n * alR cw s * 2 ≤ c.st * (D * 2) := fun h => by
    unfold oAl
    have h2 := Int.mul_le_mul_of_nonneg_right (show b.st + ceilR b.al.num b.al.den ≤ c.st by omega) (show 0 ≤ D * 2 by omega)
    rw [Int.add_mul] at h2
    have e : ceilR b.al.num b.al.den * (D * 2) = ceilR b.al.num b.al.den * D * 2 := (Int.mul_assoc ..).symm
    omega
  have hC : b.ln < c.ln → oAc cw b s n D + n * acR cw s * 2 ≤ 72 * c.ln * (D * 2) := fun h => by
    unfold oAc
    have h2 := Int.mul_le_mul_of_nonneg_right (show 72 * b.ln + 72 ≤ 72 * c.ln by omega) (show 0 ≤ D * 2 by omega)
    rw [Int.add_mul] at h2
    omega
  have hC' : 72 * c.ln * (D' * 2) ≤ oAc cw c t n' D' := by unfold oAc; omega
  have hax := hx.ax
  have hay := hx.ay
  have kax := hy.ax
  have kay := hy.ay
  unfold crossP
  rw [Bool.and_eq_false_iff]
  cases cw with
  | false =>
    have a1 : alR false s = s.size.1 := rfl
    have a2 : acR false s = s.size.2 := rfl
    have o1 : oX false b s n D = oAl b D := rfl
    have o2 : oY false b s n D = oAc false b s n D := rfl
    have o3 : oX false c t n' D' = oAl c D' := rfl
    have o4 : oY false c t n' D' = oAc false c t n' D' := rfl
    rw [o1] at hax
    rw [o2] at hay
    rw [o3] at kax
    rw [o4] at kay
    rw [a1] at hA hal
    rw [a2] at hC hac
    rcases ho with h | h
    · exact .inr (no_cross_at hay kay (72 * c.ln) (by have := hC h; omega) (by omega))
    · have h1 := hA h
      have h2 : oAl c D' = c.st * (D' * 2) := rfl
      cases mw with
      | false =>
        rw [if_neg (by decide)] at hax kax
        exact .inl (no_cross_at hax kax c.st (by omega) (by omega))
      | true =>
        rw [if_pos rfl] at hax kax
        have e5 : -c.st * (D' * 2) = -(c.st * (D' * 2)) := Int.neg_mul ..
        have e6 : -c.st * (D * 2) = -(c.st * (D * 2)) := Int.neg_mul ..
        exact .inl (no_cross_at' hax kax (-c.st) (by omega) (by omega))
  | true =>
    have a1 : alR true s = s.size.2 := rfl
    have a2 : acR true s = s.size.1 := rfl
    have o1 : oX true b s n D = oAc true b s n D := rfl
    have o2 : oY true b s n D = oAl b D := rfl
    have o3 : oX true c t n' D' = oAc true c t n' D' := rfl
    have o4 : oY true c t n' D' = oAl c D' := rfl
    rw [o1] at hax
    rw [o2] at hay
    rw [o3] at kax
    rw [o4] at kay
    rw [a1] at hA hal
    rw [a2] at hC hac
    rcases ho with h | h
    · have h1 := hC h
      cases mw with
      | false =>
        rw [if_neg (by decide)] at hax kax
        exact .inl (no_cross_at hax kax (72 * c.ln) (by omega) (by omega))
      | true =>
        rw [if_pos rfl] at hax kax
        have e5 : -(72 * c.ln) * (D' * 2) = -(72 * c.ln * (D' * 2)) := Int.neg_mul ..
        have e6 : -(72 * c.ln) * (D * 2) = -(72 * c.ln * (D * 2)) := Int.neg_mul ..
        exact .inl (no_cross_at' hax kax (-(72 * c.ln)) (by omega) (by omega))
    · have h1 := hA h
      have h2 : oAl c D' = c.st * (D' * 2) := rfl
      exact .inr (no_cross_at hay kay c.st (by omega) (by omega))
theorem ovsS_app : ∀ (a : List Shp) (k : Shp), ovsS (a ++ [k]) = ovsS a ++ k.ovs
  | [], k => by simp [ovsS]
  | x :: r, k => by rw [List.cons_append, ovsS, ovsS, ovsS_app r k, List.append_assoc]
theorem layL_ok {L : Lm} (cw mw : Bool) {len : Int} {ns : List Nd} (h : Pln L.li ns) : okBx (layL cw mw len (shpsI L.li cw ns)) (ovsS (shpsI L.li cw ns)) := by
  have hG := shps_good cw h
  have hS := shps_small cw h
  have hZ := shps_size2 cw h
  have hR := rngsS_of L cw _ _ (shs_of cw h)
  obtain ⟨ks, hks⟩ : ∃ ks, ks = shpsI L.li cw ns := ⟨_, rfl⟩
  rw [← hks] at hG hS hZ hR ⊢
  have hRm : ∀ s ∈ ks, s.rngs := by
    clear hG hS hZ hks
    induction ks with
    | nil => intro s hs; cases hs
    | cons a r ih =>
      rw [rngsS] at hR
      intro s hs
      rcases List.mem_cons.1 hs with rfl | hs
      · exact hR.1
      · exact ih hR.2 s hs
  have hB : ∀ s ∈ ks, szB s := fun s hs => (hG s hs).szB
  have key : ∀ k, k ≤ ks.length → okBx ((List.range k).flatMap fun k => grpB cw mw (blA cw len ks k)) (ovsS (ks.take k)) := fun k hk => by
    induction k with
    | zero => simp [ovsS, okBx]
    | succ k ih =>
      obtain ⟨s, hs⟩ : ∃ s, ks[k]? = some s := ⟨_, List.getElem?_eq_getElem (by omega)⟩
      have hm := List.mem_of_getElem? hs
      have hf := grp_fit (cw := cw) (len := len) hs (hZ s hm).1 (hZ s hm).2
      rw [List.range_succ, List.flatMap_append, take_snocS hs, ovsS_app]
      have e2 : (blA cw len ks k).s = s := by rw [blA_at hs]
      have hg : ([k].flatMap fun k => grpB cw mw (blA cw len ks k)) = (s.pcs 0 0).map fun p => if mw then (boxPc (blA cw len ks k).sc (corX cw (blA cw len ks k)) (corY cw (blA cw len ks k)) p).mir else boxPc (blA cw len ks k).sc (corX cw (blA cw len ks k)) (corY cw (blA cw len ks k)) p := by
        rw [List.flatMap_singleton]; unfold grpB; rw [e2]
      rw [hg]
      refine okBx_app (ih (by omega)) (okBx_map hf.n0 (fun p _ => grp_rep hs hf p) (okS s (hG s hm) (hS s hm) (hRm s hm) 0 0)) (fun a ha b hb => ?_)
      obtain ⟨i, hi, ha⟩ := List.mem_flatMap.1 ha
      rw [List.mem_range] at hi
      obtain ⟨t, ht⟩ : ∃ t, ks[i]? = some t := ⟨_, List.getElem?_eq_getElem (by omega)⟩
      have htm := List.mem_of_getElem? ht
      have hft := grp_fit (cw := cw) (len := len) ht (hZ t htm).1 (hZ t htm).2
      have e3 : (blA cw len ks i).s = t := by rw [blA_at ht]
      unfold grpB at ha
      rw [e3] at ha
      obtain ⟨p, hp, rfl⟩ := List.mem_map.1 ha
      obtain ⟨q, hq, rfl⟩ := List.mem_map.1 hb
      exact grp_apart hft hf (hG t htm) (hG s hm) (st_order hB hi (by omega)) hp hq (grp_rep ht hft p) (grp_rep hs hf q)
  have := key ks.length (Nat.le_refl _)
  rw [List.take_length] at this
  exact this
open Go.RowKit
def lrB (k : Int) : Bool := leafB k || (k == 5)
def ovN : List Nd → Bool → List Bool
  | [], _ => []
  | u :: r, fl => if lrB u.kind then fl :: ovN r false else ovN r (fl || (u.kind == 4))
def ovF : List Nd → Bool → Bool
  | [], fl => fl
  | u :: r, fl => if lrB u.kind then ovF r false else ovF r (fl || (u.kind == 4))
theorem ovN_app : ∀ (a b : List Nd) (fl : Bool), ovN (a ++ b) fl = ovN a fl ++ ovN b (ovF a fl)
  | [], b, fl => rfl
  | u :: r, b, fl => by
    rw [List.cons_append, ovN, ovN, ovF, ovN_app r b, ovN_app r b]
    split <;> simp
theorem ovF_app : ∀ (a b : List Nd) (fl : Bool), ovF (a ++ b) fl = ovF b (ovF a fl)
  | [], b, fl => rfl
  | u :: r, b, fl => by
    rw [List.cons_append, ovF, ovF, ovF_app r b, ovF_app r b]
    split <;> simp
def kdsN (ns : List Nd) : List Int := (ns.filter fun u => lrB u.kind).map (·.kind)
theorem kdsN_app (a b : List Nd) : kdsN (a ++ b) = kdsN a ++ kdsN b := by unfold kdsN; rw [List.filter_append, List.map_append]
theorem ovN_len : ∀ (ns : List Nd) (fl : Bool), (ovN ns fl).length = (kdsN ns).length
  | [], fl => rfl
  | u :: r, fl => by
    unfold kdsN
    rw [ovN, List.filter_cons]
    split
    · have := ovN_len r false; unfold kdsN at this; simpa using this
    · exact ovN_len r _
def LeafEnd (ns : List Nd) : Prop := ∀ (i : Nat) (u v : Nd), ns[i]? = some u → ns[i + 1]? = some v → leafB u.kind = true → v.depth ≤ u.depth
theorem LeafEnd.tail {u : Nd} {l : List Nd} (h : LeafEnd (u :: l)) : LeafEnd l := fun i a b ha hb hk => h (i + 1) a b ha hb hk
theorem LeafEnd.left {a b : List Nd} (h : LeafEnd (a ++ b)) : LeafEnd a := fun i u v hu hv hk => by
  have h1 := (List.getElem?_eq_some_iff.1 hu).1
  have h2 := (List.getElem?_eq_some_iff.1 hv).1
  exact h i u v (by rw [List.getElem?_append_left h1]; exact hu) (by rw [List.getElem?_append_left h2]; exact hv) hk
theorem LeafEnd.right {a b : List Nd} (h : LeafEnd (a ++ b)) : LeafEnd b := fun i u v hu hv hk =>
  h (a.length + i) u v (by rw [List.getElem?_append_right (by omega), Nat.add_sub_cancel_left]; exact hu) (by rw [List.getElem?_append_right (by omega), show a.length + i + 1 - a.length = i + 1 by omega]; exact hv) hk
theorem leafEnd_full {ns : List Nd} (h : Full ns) : LeafEnd ns := fun i u v hu hv hk => by
  rcases Int.lt_or_le u.depth v.depth with hd | hd
  · exfalso
    have hr := h.rises i u v hu hv
    have hl := h.leaf i u hu hk
    obtain ⟨hv1, hv2⟩ := List.getElem?_eq_some_iff.1 hv
    have hsp : 1 ≤ spanN ns u.depth i := by
      unfold spanN
      rw [List.drop_eq_getElem_cons hv1, hv2, List.takeWhile_cons, if_pos (by simpa using hd)]
      simp
    have hm : i + 1 ∈ kidsL ns i := by
      unfold kidsL
      rw [hu]
      refine List.mem_filter.2 ⟨List.mem_range'.2 ⟨0, by omega, by omega⟩, ?_⟩
      unfold kidB
      rw [hv]
      simp
      omega
    rw [hl] at hm
    cases hm
  · exact hd
mutual
theorem nd_of (L : Lm) (cw : Bool) : ∀ (s : Shp) (u : Nd) (bl : List Nd), ShOf L cw s u bl → (leafB u.kind = true → bl = []) → LeafEnd bl →
    (∀ x y, (s.pcs x y).map (fun p => p.n.kind) = kdsN (u :: bl)) ∧ s.ovs = ovN (u :: bl) false ∧ ovF (u :: bl) false = false
  | .gly n a b, u, bl, h, hb, _ => by
    rw [ShOf] at h
    obtain ⟨rfl, hg⟩ := h
    have hk := hg.1
    have hbl := hb (by rw [hk]; rfl)
    subst hbl
    have hl : lrB n.kind = true := by rw [hk]; rfl
    exact ⟨fun x y => by rw [Shp.pcs]; simp [kdsN, hl], by rw [Shp.ovs]; simp [ovN, hl], by simp [ovF, hl]⟩
  | .gap n, u, bl, h, hb, _ => by
    rw [ShOf] at h
    obtain ⟨rfl, hk⟩ := h
    have hbl := hb (by rw [hk]; rfl)
    subst hbl
    have hl : lrB n.kind = true := by rw [hk]; rfl
    exact ⟨fun x y => by rw [Shp.pcs]; simp [kdsN, hl], by rw [Shp.ovs]; simp [ovN, hl], by simp [ovF, hl]⟩
  | .ovl n1 a b n2 c d, u, bl, h, _, _ => by
    rw [ShOf] at h
    obtain ⟨hk, rfl, g1, g2⟩ := h
    have hl : lrB u.kind = false := by rw [hk]; rfl
    have h1 : lrB n1.kind = true := by rw [g1.1]; rfl
    have h2 : lrB n2.kind = true := by rw [g2.1]; rfl
    exact ⟨fun x y => by rw [Shp.pcs]; simp [kdsN, hl, h1, h2], by rw [Shp.ovs, ovN, hl, if_neg (by decide)]; simp [ovN, h1, h2, hk], by simp [ovF, hl, h1, h2]⟩
  | .row sp ks, u, bl, h, _, he => by
    rw [ShOf] at h
    obtain ⟨hk, -, -, hs⟩ := h
    obtain ⟨h1, -, h3, h4⟩ := nds_of L cw ks bl hs he
    have hl : lrB u.kind = false := by rw [hk]; rfl
    have e : kdsN (u :: bl) = kdsN bl := by simp [kdsN, hl]
    exact ⟨fun x y => by rw [Shp.pcs, e]; exact h1 _ _ _ _, by rw [Shp.ovs, ovN, hl, h3]; simp [hk], by rw [ovF, hl]; simpa [hk] using h4⟩
  | .col sp ks, u, bl, h, _, he => by
    rw [ShOf] at h
    obtain ⟨hk, -, -, hs⟩ := h
    obtain ⟨-, h1, h3, h4⟩ := nds_of L cw ks bl hs he
    have hl : lrB u.kind = false := by rw [hk]; rfl
    have e : kdsN (u :: bl) = kdsN bl := by simp [kdsN, hl]
    exact ⟨fun x y => by rw [Shp.pcs, e]; exact h1 _ _ _ _, by rw [Shp.ovs, ovN, hl, h3]; simp [hk], by rw [ovF, hl]; simpa [hk] using h4⟩
  | .rng n (.row sp ks), u, bl, h, _, he => by
    rw [ShOf] at h
    obtain ⟨rfl, hk, -, -, hs⟩ := h
    obtain ⟨h1, -, h3, h4⟩ := nds_of L cw ks bl hs he
    have hl : lrB n.kind = true := by rw [hk]; rfl
    have e : kdsN (n :: bl) = n.kind :: kdsN bl := by simp [kdsN, hl]
    exact ⟨fun x y => by rw [Shp.pcs, Shp.pcs, e, List.map_cons, h1], by rw [Shp.ovs, Shp.ovs, ovN, hl, h3]; simp, by rw [ovF, hl]; simpa using h4⟩
  | .rng n (.col sp ks), u, bl, h, _, he => by
    rw [ShOf] at h
    obtain ⟨rfl, hk, -, -, hs⟩ := h
    obtain ⟨-, h1, h3, h4⟩ := nds_of L cw ks bl hs he
    have hl : lrB n.kind = true := by rw [hk]; rfl
    have e : kdsN (n :: bl) = n.kind :: kdsN bl := by simp [kdsN, hl]
    exact ⟨fun x y => by rw [Shp.pcs, Shp.pcs, e, List.map_cons, h1], by rw [Shp.ovs, Shp.ovs, ovN, hl, h3]; simp, by rw [ovF, hl]; simpa using h4⟩
  | .rng n (.gly _ _ _), u, bl, h, _, _ => by simp [ShOf] at h
  | .rng n (.gap _), u, bl, h, _, _ => by simp [ShOf] at h
  | .rng n (.ovl _ _ _ _ _ _), u, bl, h, _, _ => by simp [ShOf] at h
  | .rng n (.rng _ _), u, bl, h, _, _ => by simp [ShOf] at h
theorem nds_of (L : Lm) (cw : Bool) : ∀ (ks : List Shp) (ns : List Nd), ShsOf L cw ks ns → LeafEnd ns →
    (∀ sp H x y, (pcsR sp H ks x y).map (fun p => p.n.kind) = kdsN ns) ∧ (∀ sp H x y, (pcsC sp H ks x y).map (fun p => p.n.kind) = kdsN ns) ∧ ovsS ks = ovN ns false ∧ ovF ns false = false
  | [], ns, h, _ => by
    rw [ShsOf] at h
    subst h
    exact ⟨fun _ _ _ _ => by rw [pcsR]; rfl, fun _ _ _ _ => by rw [pcsC]; rfl, by rw [ovsS]; rfl, rfl⟩
  | k :: r, ns, h, he => by
    rw [ShsOf] at h
    obtain ⟨u, bl, rest, rfl, hsp, h1, h2⟩ := h
    have het := he.tail
    have hb : leafB u.kind = true → bl = [] := fun hk => by
      cases bl with
      | nil => rfl
      | cons v t =>
        exfalso
        have hd := he 0 u v rfl rfl hk
        unfold spanN at hsp
        rw [show (u :: (v :: t ++ rest)).drop (0 + 1) = v :: (t ++ rest) from rfl, List.takeWhile_cons, if_neg (by simp; omega)] at hsp
        simp at hsp
    obtain ⟨a1, a2, a3⟩ := nd_of L cw k u bl h1 hb het.left
    obtain ⟨b1, b2, b3, b4⟩ := nds_of L cw r rest h2 het.right
    have e : u :: (bl ++ rest) = (u :: bl) ++ rest := rfl
    rw [e]
    refine ⟨fun sp H x y => ?_, fun sp H x y => ?_, ?_, ?_⟩
    · rw [pcsR, List.map_append, a1, b1, kdsN_app]
    · rw [pcsC, List.map_append, a1, b2, kdsN_app]
    · rw [ovsS, ovN_app, a2, a3, b3]
    · rw [ovF_app, a3, b4]
end
mutual
def Shp.kds : Shp → List Int
  | .gly n _ _ => [n.kind]
  | .gap n => [n.kind]
  | .ovl n1 _ _ n2 _ _ => [n1.kind, n2.kind]
  | .row _ ks => kdsS ks
  | .col _ ks => kdsS ks
  | .rng n s => n.kind :: s.kds
def kdsS : List Shp → List Int
  | [] => []
  | k :: r => k.kds ++ kdsS r
end
mutual
theorem pcs_kinds : ∀ (s : Shp) (x y : Int), (s.pcs x y).map (fun p => p.n.kind) = s.kds
  | .gly n a b, x, y => by rw [Shp.pcs, Shp.kds]; rfl
  | .gap n, x, y => by rw [Shp.pcs, Shp.kds]; rfl
  | .ovl n1 a b n2 c d, x, y => by rw [Shp.pcs, Shp.kds]; rfl
  | .row sp ks, x, y => by rw [Shp.pcs, Shp.kds]; exact pcsR_kinds sp _ ks x y
  | .col sp ks, x, y => by rw [Shp.pcs, Shp.kds]; exact pcsC_kinds sp _ ks x y
  | .rng n s, x, y => by rw [Shp.pcs, Shp.kds, List.map_cons, pcs_kinds s]
theorem pcsR_kinds (sp H : Int) : ∀ (ks : List Shp) (x y : Int), (pcsR sp H ks x y).map (fun p => p.n.kind) = kdsS ks
  | [], x, y => by rw [pcsR, kdsS]; rfl
  | k :: r, x, y => by rw [pcsR, kdsS, List.map_append, pcs_kinds k, pcsR_kinds sp H r]
theorem pcsC_kinds (sp H : Int) : ∀ (ks : List Shp) (x y : Int), (pcsC sp H ks x y).map (fun p => p.n.kind) = kdsS ks
  | [], x, y => by rw [pcsC, kdsS]; rfl
  | k :: r, x, y => by rw [pcsC, kdsS, List.map_append, pcs_kinds k, pcsC_kinds sp H r]
end
theorem flat_kinds (cw mw : Bool) (len : Int) (ks : List Shp) : ∀ k, k ≤ ks.length → ((List.range k).flatMap fun k => grpB cw mw (blA cw len ks k)).map (·.kind) = (pcsR 0 0 (ks.take k) 0 0).map (fun p => p.n.kind) := fun k hk => by
  have hxy : ∀ (s : Shp) (x y : Int), (s.pcs x y).map (fun p => p.n.kind) = (s.pcs 0 0).map (fun p => p.n.kind) := fun s x y => (pcs_kinds s x y).trans (pcs_kinds s 0 0).symm
  induction k with
  | zero => simp [pcsR]
  | succ k ih =>
    obtain ⟨s, hs⟩ : ∃ s, ks[k]? = some s := ⟨_, List.getElem?_eq_getElem (by omega)⟩
    rw [List.range_succ, List.flatMap_append, List.map_append, ih (by omega), take_snocS hs, pcsR_app, List.map_append, List.flatMap_singleton, hxy s]
    congr 1
    unfold grpB
    rw [blA_at hs]
    dsimp only
    rw [List.map_map]
    refine List.map_congr_left fun p _ => ?_
    dsimp only [Function.comp]
    cases mw <;> rfl
theorem layL_kinds {L : Lm} (cw mw : Bool) {len : Int} {ns : List Nd} (h : Pln L.li ns) :
    (layL cw mw len (shpsI L.li cw ns)).map (·.kind) = kdsN ns ∧ ovsS (shpsI L.li cw ns) = ovN ns false := by
  obtain ⟨h1, -, h3, -⟩ := nds_of L cw _ _ (shs_of cw h) (leafEnd_full h.full)
  refine ⟨?_, h3⟩
  unfold layL
  rw [flat_kinds cw mw len _ _ (Nat.le_refl _), List.take_length]
  exact h1 0 0 0 0
open Go.RowKit
def i64I (x : Int) : Prop := -9223372036854775808 ≤ x ∧ x ≤ 9223372036854775807
structure HldOk (X W Y V : Fr) : Prop where
  a1 : i64I (Y.num * X.den)
  a2 : i64I (X.num * Y.den)
  b1 : i64I (Y.num * V.den)
  b2 : i64I (V.num * Y.den)
  b3 : i64I (Y.num * V.den + V.num * Y.den)
  b4 : i64I (X.den * W.den)
  b5 : i64I ((Y.num * V.den + V.num * Y.den) * (X.den * W.den))
  c1 : i64I (X.num * W.den)
  c2 : i64I (W.num * X.den)
  c3 : i64I (X.num * W.den + W.num * X.den)
  c4 : i64I (Y.den * V.den)
  c5 : i64I ((X.num * W.den + W.num * X.den) * (Y.den * V.den))
structure AxH (F W : Fr) (A S Q H : Int) : Prop where
  r : AxR F W A S Q
  a : -H ≤ A ∧ A ≤ H
  s : -H ≤ S ∧ S ≤ H
  e : -H ≤ A + S ∧ A + S ≤ H
theorem AxH.sum {F W : Fr} {A S Q H : Int} (h : AxH F W A S Q H) :
    (0 < F.den ∧ F.den ≤ Q) ∧ (0 < W.den ∧ W.den ≤ Q) ∧ (-H ≤ F.num ∧ F.num ≤ H) ∧ (-H ≤ W.num ∧ W.num ≤ H) ∧ (-(H * Q) ≤ F.num * W.den + W.num * F.den ∧ F.num * W.den + W.num * F.den ≤ H * Q) := by
  have hq := h.r.q
  obtain ⟨f1, f2⟩ := fr_val (n := A) hq
  obtain ⟨w1, w2⟩ := fr_val (n := S) hq
  have fd := fracR_den (n := A) hq
  have wd := fracR_den (n := S) hq
  have fn := fracR_num hq h.a
  have wn := fracR_num hq h.s
  rw [← h.r.f] at f1 f2 fd fn
  rw [← h.r.w] at w1 w2 wd wn
  refine ⟨by omega, by omega, fn, wn, ?_⟩
  have e : (F.num * W.den + W.num * F.den) * Q = (A + S) * (F.den * W.den) := by
    rw [Int.add_mul, Int.add_mul, Int.mul_right_comm F.num, f1, Int.mul_right_comm W.num, w1]
    congr 1 <;> ac_rfl
  have hdd : 0 ≤ F.den * W.den ∧ F.den * W.den ≤ Q * Q := ⟨Int.mul_nonneg (by omega) (by omega), Int.mul_le_mul fd.2 wd.2 (by omega) (by omega)⟩
  have hb := mul_bd2 h.e hdd
  rw [← e] at hb
  have e2 : H * (Q * Q) = H * Q * Q := (Int.mul_assoc ..).symm
  rw [e2] at hb
  obtain ⟨h1, h2⟩ := hb
  refine ⟨?_, Int.le_of_mul_le_mul_right h2 hq⟩
  have e3 : -(H * Q * Q) = -(H * Q) * Q := (Int.neg_mul ..).symm
  rw [e3] at h1
  exact Int.le_of_mul_le_mul_right h1 hq
theorem hld_ok {X W Y V : Fr} {A S B T Q H : Int} (h : AxH X W A S Q H) (k : AxH Y V B T Q H) (hH : 0 ≤ H) (hb : H * Q * (Q * Q) ≤ 9223372036854775807) (hb2 : Q * Q ≤ 9223372036854775807) : HldOk X W Y V := by
  obtain ⟨x1, w1, x2, w2, x3⟩ := h.sum
  obtain ⟨y1, v1, y2, v2, y3⟩ := k.sum
  have hq := h.r.q
  have hHQ : 0 ≤ H * Q := Int.mul_nonneg hH (by omega)
  have hQQ : 1 ≤ Q * Q := by have := Int.mul_pos hq hq; omega
  have hle : H * Q ≤ H * Q * (Q * Q) := by
    have := Int.mul_le_mul_of_nonneg_left hQQ hHQ
    omega
  have m : ∀ {n d : Int}, (-H ≤ n ∧ n ≤ H) → (0 < d ∧ d ≤ Q) → -(H * Q) ≤ n * d ∧ n * d ≤ H * Q := fun hn hd => mul_bd2 hn ⟨by omega, hd.2⟩
  have dd : ∀ {d e : Int}, (0 < d ∧ d ≤ Q) → (0 < e ∧ e ≤ Q) → 0 ≤ d * e ∧ d * e ≤ Q * Q := fun hd he => ⟨Int.mul_nonneg (by omega) (by omega), Int.mul_le_mul hd.2 he.2 (by omega) (by omega)⟩
  have p1 := m y2 x1
  have p2 := m x2 y1
  have p3 := m y2 v1
  have p4 := m v2 y1
  have p5 := m x2 w1
  have p6 := m w2 x1
  have d1 := dd x1 w1
  have d2 := dd y1 v1
  have q1 := mul_bd2 y3 d1
  have q2 := mul_bd2 x3 d2
  refine ⟨?_, ?_, ?_, ?_, ?_, ?_, ?_, ?_, ?_, ?_, ?_, ?_⟩ <;> (unfold i64I; omega)
theorem axh_of {F W : Fr} {A S Q H : Int} (h : AxR F W A S Q) (ha : 0 ≤ A) (hs : 0 ≤ S) (he : A + S ≤ H) : AxH F W A S Q H := ⟨h, by omega, by omega, by omega⟩
theorem axh_neg {F W : Fr} {A S Q H : Int} (h : AxR F W A S Q) (ha : 0 ≤ A) (hs : 0 ≤ S) (he : A + S ≤ H) : AxH (negF (plusF F W)) W (-(A + S)) S Q H :=
  ⟨⟨h.q, by rw [h.en, neg_fr], h.w⟩, by omega, by omega, by omega⟩
def conOk (a b : Bx) : Prop := HldOk a.x a.w b.x b.w ∧ HldOk a.y a.h b.y b.h
mutual
theorem four_of (L : Lm) (cw : Bool) : ∀ (s : Shp) (u : Nd) (bl : List Nd), ShOf L cw s u bl → s.size.1 % 4 = 0 ∧ s.size.2 % 4 = 0
  | .gly n a b, u, bl, h => by rw [Shp.size]; dsimp only; omega
  | .gap n, u, bl, h => by rw [Shp.size]; dsimp only; omega
  | .ovl n1 a b n2 c d, u, bl, h => by rw [Shp.size]; dsimp only; omega
  | .row sp ks, u, bl, h => by
    rw [ShOf] at h
    obtain ⟨-, -, rfl, hs⟩ := h
    have h1 := fourS_of L cw ks bl hs
    rw [Shp.size, Int.mul_assoc]; dsimp only; omega
  | .col sp ks, u, bl, h => by
    rw [ShOf] at h
    obtain ⟨-, -, rfl, hs⟩ := h
    have h1 := fourS_of L cw ks bl hs
    rw [Shp.size, Int.mul_assoc]; dsimp only; omega
  | .rng n (.row sp ks), u, bl, h => by
    rw [ShOf] at h
    obtain ⟨-, -, -, rfl, hs⟩ := h
    have h1 := fourS_of L cw ks bl hs
    rw [Shp.size, Shp.size]; dsimp only; omega
  | .rng n (.col sp ks), u, bl, h => by
    rw [ShOf] at h
    obtain ⟨-, -, -, rfl, hs⟩ := h
    have h1 := fourS_of L cw ks bl hs
    rw [Shp.size, Shp.size]; dsimp only; omega
  | .rng n (.gly _ _ _), u, bl, h => by simp [ShOf] at h
  | .rng n (.gap _), u, bl, h => by simp [ShOf] at h
  | .rng n (.ovl _ _ _ _ _ _), u, bl, h => by simp [ShOf] at h
  | .rng n (.rng _ _), u, bl, h => by simp [ShOf] at h
theorem fourS_of (L : Lm) (cw : Bool) : ∀ (ks : List Shp) (ns : List Nd), ShsOf L cw ks ns → (sumW ks % 4 = 0 ∧ sumH ks % 4 = 0) ∧ (maxW ks % 4 = 0 ∧ maxH ks % 4 = 0) ∧ (∀ s ∈ ks, s.size.1 % 4 = 0 ∧ s.size.2 % 4 = 0)
  | [], ns, h => by simp [sumW, sumH, maxW, maxH]
  | k :: r, ns, h => by
    rw [ShsOf] at h
    obtain ⟨u, bl, rest, rfl, _, h1, h2⟩ := h
    have a := four_of L cw k u bl h1
    obtain ⟨b1, b2, b3⟩ := fourS_of L cw r rest h2
    rw [sumW, sumH, maxW, maxH]
    refine ⟨by omega, by omega, fun s hs => ?_⟩
    rcases List.mem_cons.1 hs with rfl | hs
    · exact a
    · exact b3 s hs
end
theorem odd12 : ∀ q : Fin 13, q.val % 2 = 1 → 12 % q.val = 0 → q.val = 1 ∨ q.val = 3 := by decide
theorem scl4 {cw : Bool} {s : Shp} {B : Int} (h4 : s.size.1 % 4 = 0 ∧ s.size.2 % 4 = 0) (h1 : 0 ≤ s.size.1 ∧ s.size.1 ≤ 4 * B) (h2 : 0 ≤ s.size.2 ∧ s.size.2 ≤ 4 * B) (hB : 12 ≤ B) :
    (1 ≤ (sclR cw s).num ∧ (sclR cw s).num ≤ 12) ∧ (1 ≤ (sclR cw s).den ∧ (sclR cw s).den ≤ B) ∧ ((sclR cw s).num % 2 = 1 → (sclR cw s).den * 2 ≤ B) := by
  have hac : (0 ≤ acR cw s ∧ acR cw s ≤ 4 * B) ∧ acR cw s % 4 = 0 := by unfold acR; split <;> omega
  obtain ⟨M, hM⟩ : ∃ M, M = max 48 (if isRng s then acR cw s else max s.size.1 s.size.2) := ⟨_, rfl⟩
  have hM2 : (48 ≤ M ∧ M ≤ 4 * B) ∧ M % 4 = 0 := by rw [hM]; split <;> omega
  obtain ⟨m, hm⟩ : ∃ m, M = 4 * m := ⟨M / 4, by omega⟩
  have e0 : sclR cw s = fracR 48 M := by rw [hM]; rfl
  have e : sclR cw s = fracR 12 m := by rw [e0]; exact fracR_eq (by omega) (by omega) (by omega)
  rw [e]
  obtain ⟨g, g0, gn, gd, g1, _⟩ := fracR_spec (n := 12) (d := m) (by omega)
  obtain ⟨⟨n, D⟩, hf⟩ : ∃ f, f = fracR 12 m := ⟨_, rfl⟩
  rw [← hf] at gn gd g1 ⊢
  dsimp only at gn gd g1 ⊢
  have hn0 : 0 < n := by
    rcases Int.lt_or_le 0 n with h | h
    · exact h
    · have := Int.mul_nonpos_of_nonneg_of_nonpos (show 0 ≤ g by omega) h; omega
  have hn1 : n ≤ 12 := by have := Int.mul_le_mul_of_nonneg_right (show (1 : Int) ≤ g by omega) (show 0 ≤ n by omega); omega
  have hD1 : D ≤ m := by have := Int.mul_le_mul_of_nonneg_right (show (1 : Int) ≤ g by omega) (show 0 ≤ D by omega); omega
  refine ⟨⟨by omega, hn1⟩, ⟨g1, by omega⟩, fun ho => ?_⟩
  obtain ⟨nn, rfl⟩ : ∃ nn : Nat, n = nn := ⟨n.toNat, by omega⟩
  obtain ⟨gg, rfl⟩ : ∃ gg : Nat, g = gg := ⟨g.toNat, by omega⟩
  have hdv : 12 % nn = 0 := by
    have h48 : 12 = gg * nn := by exact_mod_cast gn
    rw [h48]; exact Nat.mul_mod_left ..
  have hk := odd12 ⟨nn, by omega⟩ (by dsimp only; omega) hdv
  dsimp only at hk
  have hg : 4 ≤ (gg : Int) := by
    rcases hk with rfl | rfl
    · omega
    · omega
  have := Int.mul_le_mul_of_nonneg_right hg (show 0 ≤ D by omega)
  omega
theorem q4_mono {c c' Q B : Int} (hc : 0 ≤ c ∧ c ≤ c') (hq : 0 ≤ Q ∧ Q ≤ B) : c * Q * Q * (Q * Q) ≤ c' * B * B * (B * B) := by
  have h0 : 0 ≤ c' := by omega
  have hB : 0 ≤ B := by omega
  have a1 := Int.mul_le_mul hc.2 hq.2 hq.1 h0
  have a2 := Int.mul_le_mul a1 hq.2 hq.1 (Int.mul_nonneg h0 hB)
  have a3 := Int.mul_le_mul hq.2 hq.2 hq.1 hB
  exact Int.mul_le_mul a2 a3 (Int.mul_nonneg hq.1 hq.1) (Int.mul_nonneg (Int.mul_nonneg h0 hB) hB)
theorem num_ac : ∀ k : Fin 200, (72 * (k.val + 1) + 48) * (32 * (200 - k.val) - 5) * (32 * (200 - k.val) - 5) * ((32 * (200 - k.val) - 5) * (32 * (200 - k.val) - 5)) ≤ 9223372036854775807 := by decide +kernel
theorem wt_pos : ∀ (s : Shp), 1 ≤ s.wt
  | .gly .. => by rw [Shp.wt]; exact Nat.le_refl _
  | .gap .. => by rw [Shp.wt]; exact Nat.le_refl _
  | .ovl .. => by rw [Shp.wt]; omega
  | .row .. => by rw [Shp.wt]; omega
  | .col .. => by rw [Shp.wt]; omega
  | .rng n s => by rw [Shp.wt]; exact wt_pos s
theorem wtS_at : ∀ (ks : List Shp) (k : Nat) (s : Shp), ks[k]? = some s → k + s.wt ≤ wtS ks
  | [], k, s, h => by simp at h
  | x :: r, 0, s, h => by
    rw [wtS]
    injection h with h
    subst h; omega
  | x :: r, k + 1, s, h => by
    have h1 := wtS_at r k s h
    have h2 := wt_pos x
    rw [wtS]; omega
theorem end_len {cw : Bool} {len : Int} {ks : List Shp} {k : Nat} {s : Shp} (hs : ks[k]? = some s) (hD : 0 < (sclR cw s).den) (h0 : 0 < (blA cw len ks k).st) :
    (blA cw len ks k).st * (sclR cw s).den + (sclR cw s).num * alR cw s ≤ len * (sclR cw s).den := by
  rw [blA_at hs] at h0 ⊢
  dsimp only at h0 ⊢
  unfold plA at h0 ⊢
  split
  · rename_i hb; rw [if_pos hb] at h0; dsimp only at h0; omega
  · rename_i hb
    rw [if_neg hb] at h0
    obtain ⟨st, he⟩ : ∃ st, st = (stA cw len (ks.take k)).2 := ⟨_, rfl⟩
    rw [← he] at h0 hb ⊢
    unfold brkB at hb
    rw [decide_eq_true h0, Bool.true_and, decide_eq_true_eq] at hb
    have e : (newBl cw s).al = fracR ((sclR cw s).num * alR cw s) (sclR cw s).den := rfl
    unfold endR at hb
    rw [e] at hb
    obtain ⟨f1, f2⟩ := fr_val (n := (sclR cw s).num * alR cw s) hD
    obtain ⟨⟨a, d⟩, hF⟩ : ∃ F, F = fracR ((sclR cw s).num * alR cw s) (sclR cw s).den := ⟨_, rfl⟩
    rw [← hF] at f1 f2 hb
    dsimp only at f1 f2 hb
    rw [fracR_lt (by omega), Int.one_mul, Int.mul_one] at hb
    have hb2 : st * d + a ≤ len * d := by omega
    obtain ⟨D, hDe⟩ : ∃ D, D = (sclR cw s).den := ⟨_, rfl⟩
    obtain ⟨x, hx⟩ : ∃ x, x = (sclR cw s).num * alR cw s := ⟨_, rfl⟩
    rw [← hDe, ← hx] at f1
    rw [← hDe] at hD ⊢
    rw [← hx]
    have h3 := Int.mul_le_mul_of_nonneg_right hb2 (Int.le_of_lt hD)
    rw [Int.add_mul, f1] at h3
    have e3 : (st * D + x) * d ≤ len * D * d := by
      rw [Int.add_mul]
      have e4 : st * D * d = st * d * D := by ac_rfl
      have e5 : len * D * d = len * d * D := by ac_rfl
      omega
    exact Int.le_of_mul_le_mul_right e3 f2
structure BH (b : Bx) (Qx Hx Qy Hy : Int) : Prop where
  bx : ∃ A S, AxH b.x b.w A S Qx Hx
  bY : ∃ A S, AxH b.y b.h A S Qy Hy
theorem bh_con {x y : Bx} {Qx Hx Qy Hy : Int} (h : BH x Qx Hx Qy Hy) (k : BH y Qx Hx Qy Hy) (hx : 0 ≤ Hx) (hy : 0 ≤ Hy) (b1 : Hx * Qx * (Qx * Qx) ≤ 9223372036854775807) (b2 : Hy * Qy * (Qy * Qy) ≤ 9223372036854775807) (c1 : Qx * Qx ≤ 9223372036854775807) (c2 : Qy * Qy ≤ 9223372036854775807) : conOk x y := by
  obtain ⟨⟨A, S, h1⟩, ⟨A', S', h2⟩⟩ := h
  obtain ⟨⟨B, T, k1⟩, ⟨B', T', k2⟩⟩ := k
  exact ⟨hld_ok h1 k1 hx b1 c1, hld_ok h2 k2 hy b2 c2⟩
theorem crossP_symm (a b : Bx) : crossP a b = crossP b a := by
  unfold crossP crossAx
  rw [Bool.and_comm (decide (a.x.num * _ < _)), Bool.and_comm (decide (a.y.num * _ < _))]
set_option maxHeartbeats 1000000 in
theorem grp_con {L : Lm} {cw mw : Bool} {len : Int} {ns : List Nd} (h : Pln L.li ns) (hl : 0 ≤ len ∧ len ≤ 4800) {k : Nat} {s : Shp} (hs : (shpsI L.li cw ns)[k]? = some s) :
    ∃ Qx Hx Qy Hy : Int, (0 ≤ Hx ∧ 0 ≤ Hy) ∧ (Hx * Qx * (Qx * Qx) ≤ 9223372036854775807 ∧ Hy * Qy * (Qy * Qy) ≤ 9223372036854775807) ∧ (Qx * Qx ≤ 9223372036854775807 ∧ Qy * Qy ≤ 9223372036854775807) ∧ ∀ x ∈ grpB cw mw (blA cw len (shpsI L.li cw ns) k), BH x Qx Hx Qy Hy := by
  have hG := shps_good cw h
  have hm := List.mem_of_getElem? hs
  have hsm := shps_small cw h s hm
  have hz := (sz_wt s hsm).1
  have hw := wtS_at _ k s hs
  have hw2 := wtS_nodes L cw _ _ (shs_of cw h)
  have h200 := (text_ok h.ok).2.1
  have hw0 := wt_pos s
  have h4 := (fourS_of L cw _ _ (shs_of cw h)).2.2 s hm
  have hB0 : ∀ s ∈ shpsI L.li cw ns, szB s := fun s hs => (hG s hs).szB
  obtain ⟨ks, hks⟩ : ∃ ks, ks = shpsI L.li cw ns := ⟨_, rfl⟩
  rw [← hks] at hs hw hw2 hB0 hG hm ⊢
  obtain ⟨B, hB⟩ : ∃ B : Int, B = 32 * (200 - (k : Int)) - 5 := ⟨_, rfl⟩
  have hkB : (k : Int) ≤ 199 := by omega
  obtain ⟨hn, hD, hodd⟩ := scl4 (cw := cw) (B := B) h4 (by omega) (by omega) (by omega)
  have hki := (List.getElem?_eq_some_iff.1 hs).1
  have hln := (plA_bd (cw := cw) (len := len) (s := s) (stA_bd (cw := cw) (len := len) hB0 k (by omega))).1
  have hbl := blA_at (cw := cw) (len := len) hs
  have e1 : (blA cw len ks k).sc = sclR cw s := by rw [hbl]; rfl
  have e2 : (blA cw len ks k).ac = fracR ((sclR cw s).num * acR cw s) (sclR cw s).den := by rw [hbl]; rfl
  have e3 : (blA cw len ks k).ln = (plA cw len (stA cw len (ks.take k)) s).1 := by rw [hbl]
  have e4 : (blA cw len ks k).s = s := by rw [hbl]
  rw [← e3] at hln
  have hst := st_len (cw := cw) (len := len) hl.1 hB0 hs
  have hend := end_len (cw := cw) (len := len) hs (by omega)
  have hst0 : 0 < (blA cw len ks k).st → 1 ≤ k := fun h0 => by
    rcases Nat.eq_zero_or_pos k with rfl | hk
    · exfalso
      have hb0 : brkB cw len s 0 = false := by unfold brkB; rw [decide_eq_false (by omega), Bool.false_and]
      have hp0 : plA cw len (stA cw len (ks.take 0)) s = (0, 0) := by
        show (if brkB cw len s 0 then _ else _) = _
        rw [hb0, if_neg (by decide)]; rfl
      rw [hbl, hp0] at h0
      dsimp only at h0
      omega
    · exact hk
  have hfit := grp_fit (cw := cw) (len := len) hs (by omega) (by omega)
  have hfac := hfit.ac
  have hac0 := hfit.ac0
  have hal0 : 0 ≤ alR cw s ∧ alR cw s ≤ 25580 := by unfold alR; split <;> omega
  obtain ⟨b, hb⟩ : ∃ b, b = blA cw len ks k := ⟨_, rfl⟩
  have hgr : grpB cw mw b = (s.pcs 0 0).map fun p => if mw then (boxPc b.sc (corX cw b) (corY cw b) p).mir else boxPc b.sc (corX cw b) (corY cw b) p := by unfold grpB; rw [hb, e4]
  rw [← hb] at hln hst hend hst0 e1 e2 ⊢
  rw [hgr]
  obtain ⟨⟨n, D⟩, hsc⟩ : ∃ f, f = sclR cw s := ⟨_, rfl⟩
  rw [← hsc] at hn hD hodd hend hfac e1 e2
  dsimp only at hn hD hodd hend hfac e2
  have hnal := Int.mul_nonneg (show 0 ≤ n by omega) hal0.1
  have hnac := Int.mul_nonneg (show 0 ≤ n by omega) hac0
  -- across: over D * m
  have hcr : ∃ m A : Int, (m = 1 ∨ m = 2) ∧ D * m ≤ B ∧ croR b.ac.num b.ac.den b.ln = fracR A (D * m) ∧ 0 ≤ A ∧ A + n * acR cw s * m ≤ (72 * b.ln + 48) * (D * m) := by
    have hc := cro_com (N := n * acR cw s) (ln := b.ln) (show 0 < D by omega)
    rw [← e2] at hc
    have hL := Int.mul_nonneg (show 0 ≤ 72 * b.ln by omega) (show 0 ≤ D by omega)
    have e5 : 72 * b.ln * (D * 2) = 72 * b.ln * D * 2 := (Int.mul_assoc ..).symm
    rcases (show n % 2 = 0 ∨ n % 2 = 1 by omega) with hev | ho
    · obtain ⟨q, hq⟩ : ∃ q, n = 2 * q := ⟨n / 2, by omega⟩
      have e : n * acR cw s = 2 * (q * acR cw s) := by rw [hq, Int.mul_assoc]
      refine ⟨1, 72 * b.ln * D + 24 * D - q * acR cw s, .inl rfl, by omega, ?_, by omega, ?_⟩
      · rw [hc]
        refine fracR_eq (by omega) (by omega) ?_
        have e4 : 72 * b.ln * (D * 2) + (48 * D - n * acR cw s) = (72 * b.ln * D + 24 * D - q * acR cw s) * 2 := by rw [e, e5]; omega
        rw [e4, Int.mul_one, Int.mul_assoc, Int.mul_comm 2 D]
      · rw [Int.mul_one, Int.mul_one, Int.add_mul]; omega
    · refine ⟨2, 72 * b.ln * (D * 2) + (48 * D - n * acR cw s), .inr rfl, hodd ho, hc, by omega, ?_⟩
      rw [Int.add_mul]; omega
  obtain ⟨m, A, hm12, hmB, hcrE, hA0, hA1⟩ := hcr
  have hm0 : 0 < m := by omega
  have hDm : 0 < D * m := Int.mul_pos (by omega) hm0
  have hacB : (72 * b.ln + 48) * (D * m) * (D * m) * ((D * m) * (D * m)) ≤ 9223372036854775807 := by
    have h1 := q4_mono (c := 72 * b.ln + 48) (c' := 72 * ((k : Int) + 1) + 48) (Q := D * m) (B := B) (by omega) (by omega)
    have h2 := num_ac ⟨k, by omega⟩
    dsimp only at h2
    have h3 : (72 * ((k : Int) + 1) + 48) * B * B * (B * B) ≤ 9223372036854775807 := by
      obtain ⟨bb, hbb⟩ : ∃ bb : Nat, bb = 32 * (200 - k) - 5 := ⟨_, rfl⟩
      obtain ⟨NN, hNN⟩ : ∃ NN : Nat, NN = 9223372036854775807 := ⟨_, rfl⟩
      obtain ⟨cc, hcc⟩ : ∃ cc : Nat, cc = 72 * (k + 1) + 48 := ⟨_, rfl⟩
      rw [← hbb, ← hNN, ← hcc] at h2
      have e : B = (bb : Int) := by omega
      have e' : 72 * ((k : Int) + 1) + 48 = (cc : Int) := by omega
      rw [e, e']
      have h5 : (cc : Int) * bb * bb * (bb * bb) ≤ (NN : Int) := by exact_mod_cast h2
      omega
    omega
  have hBB : B ≤ 6395 := by omega
  have hQQ : ∀ q : Int, 0 ≤ q ∧ q ≤ B → q * q ≤ 9223372036854775807 := fun q hq => by
    have := Int.mul_le_mul hq.2 hq.2 hq.1 (show 0 ≤ B by omega)
    have := Int.mul_le_mul hBB hBB (show 0 ≤ B by omega) (by omega)
    omega
  have hal : (⟨b.st, 1⟩ : Fr) = fracR (b.st * D) (D * 1) := by
    rw [← fr_one]; exact fracR_eq (by omega) (by omega) (by rw [Int.mul_one, Int.mul_one])
  have hstD := Int.mul_nonneg hst.1 (show 0 ≤ D by omega)
  have halB : (b.st * D + n * alR cw s) * (D * 1) * ((D * 1) * (D * 1)) ≤ 9223372036854775807 := by
    rw [Int.mul_one]
    rcases Int.lt_or_le 0 b.st with h0 | h0
    · have h1 := hend h0
      have hk1 := hst0 h0
      have hle : b.st * D + n * alR cw s ≤ 4800 * D := by
        have := Int.mul_le_mul_of_nonneg_right hl.2 (show 0 ≤ D by omega); omega
      have h2 := Int.mul_le_mul_of_nonneg_right (Int.mul_le_mul_of_nonneg_right hle (show 0 ≤ D by omega)) (Int.mul_nonneg (show 0 ≤ D by omega) (show 0 ≤ D by omega))
      have h3 := q4_mono (c := 4800) (c' := 4800) (Q := D) (B := 6363) (by omega) (by omega)
      have h4 : (4800 : Int) * 6363 * 6363 * (6363 * 6363) ≤ 9223372036854775807 := by decide
      omega
    · have hz0 : b.st = 0 := by omega
      rw [hz0, Int.zero_mul, Int.zero_add]
      have h1 : n * alR cw s ≤ 306960 := by have := Int.mul_le_mul hn.2 hal0.2 hal0.1 (by omega); omega
      have h2 := Int.mul_le_mul h1 (show D ≤ 6395 by omega) (show 0 ≤ D by omega) (by omega)
      have h3 := Int.mul_le_mul (show D ≤ 6395 by omega) (show D ≤ 6395 by omega) (show 0 ≤ D by omega) (by omega)
      have h4 := Int.mul_le_mul h2 h3 (Int.mul_nonneg (by omega) (by omega)) (by omega)
      omega
  have hmm : ∀ {a : Int}, 0 ≤ a → 0 ≤ n * a := fun h => Int.mul_nonneg (by omega) h
  have hH2 : 0 ≤ (72 * b.ln + 48) * (D * m) := Int.mul_nonneg (by omega) (by omega)
  have key : ∀ (x : Bx), x ∈ (s.pcs 0 0).map (fun p => if mw then (boxPc b.sc (corX cw b) (corY cw b) p).mir else boxPc b.sc (corX cw b) (corY cw b) p) →
      if cw then BH x (D * m) ((72 * b.ln + 48) * (D * m)) (D * 1) (b.st * D + n * alR cw s) else BH x (D * 1) (b.st * D + n * alR cw s) (D * m) ((72 * b.ln + 48) * (D * m)) := fun x hx => by
    obtain ⟨p, hp, rfl⟩ := List.mem_map.1 hx
    have hq := pcs_in s (hG s hm) 0 0 p hp
    unfold inR at hq
    have e6 : n * (p.x + p.wd) = n * p.x + n * p.wd := Int.mul_add ..
    have e7 : n * (p.y + p.hg) = n * p.y + n * p.hg := Int.mul_add ..
    have z1 := hmm (show 0 ≤ p.x by omega)
    have z2 := hmm (show 0 ≤ p.y by omega)
    have z3 := hmm (show 0 ≤ p.wd by omega)
    have z4 := hmm (show 0 ≤ p.hg by omega)
    have hR : ∀ (C : Fr) (A : Int) (d a w : Int), (d = 1 ∨ d = 2) → C = fracR A (D * d) → AxR (plusF C (fracR (n * a) D)) (fracR (n * w) D) (A + n * a * d) (n * w * d) (D * d) := fun C A d a w hd hC => by
      refine ⟨Int.mul_pos (by omega) (by omega), add_rep (D := D) (a := n * a) hC (by omega) (by omega), ?_⟩
      exact fracR_eq (by omega) (Int.mul_pos (by omega) (by omega)) (by ac_rfl)
    rw [e1]
    cases cw with
    | false =>
      rw [if_neg (by decide)]
      have a1 : alR false s = s.size.1 := rfl
      have a2 : acR false s = s.size.2 := rfl
      have cx : corX false b = fracR (b.st * D) (D * 1) := hal
      have cy : corY false b = fracR A (D * m) := hcrE
      have rx := hR _ _ 1 p.x p.wd (.inl rfl) cx
      have ry := hR _ _ m p.y p.hg hm12 cy
      have m1 := mul_mono (n := n) (by omega) (show p.x + p.wd ≤ alR false s by rw [a1]; omega)
      have m2 := mul_mono (n := n) (by omega) (show p.y + p.hg ≤ acR false s by rw [a2]; omega)
      have m3 := Int.mul_le_mul_of_nonneg_right m2 (Int.le_of_lt hm0)
      rw [e7, Int.add_mul] at m3
      have z5 := Int.mul_nonneg z2 (Int.le_of_lt hm0)
      have z6 := Int.mul_nonneg z4 (Int.le_of_lt hm0)
      have hyy : AxH (plusF (corY false b) (fracR (n * p.y) D)) (fracR (n * p.hg) D) (A + n * p.y * m) (n * p.hg * m) (D * m) ((72 * b.ln + 48) * (D * m)) := axh_of ry (by omega) (by omega) (by omega)
      cases mw with
      | false =>
        rw [if_neg (by decide)]
        exact ⟨⟨_, _, axh_of rx (by omega) (by omega) (by omega)⟩, ⟨_, _, hyy⟩⟩
      | true =>
        rw [if_pos rfl]
        exact ⟨⟨_, _, axh_neg rx (by omega) (by omega) (by omega)⟩, ⟨_, _, hyy⟩⟩
    | true =>
      rw [if_pos rfl]
      have a1 : alR true s = s.size.2 := rfl
      have a2 : acR true s = s.size.1 := rfl
      have cx : corX true b = fracR A (D * m) := hcrE
      have cy : corY true b = fracR (b.st * D) (D * 1) := hal
      have rx := hR _ _ m p.x p.wd hm12 cx
      have ry := hR _ _ 1 p.y p.hg (.inl rfl) cy
      have m1 := mul_mono (n := n) (by omega) (show p.y + p.hg ≤ alR true s by rw [a1]; omega)
      have m2 := mul_mono (n := n) (by omega) (show p.x + p.wd ≤ acR true s by rw [a2]; omega)
      have m3 := Int.mul_le_mul_of_nonneg_right m2 (Int.le_of_lt hm0)
      rw [e6, Int.add_mul] at m3
      have z5 := Int.mul_nonneg z1 (Int.le_of_lt hm0)
      have z6 := Int.mul_nonneg z3 (Int.le_of_lt hm0)
      have hyy : AxH (plusF (corY true b) (fracR (n * p.y) D)) (fracR (n * p.hg) D) (b.st * D + n * p.y * 1) (n * p.hg * 1) (D * 1) (b.st * D + n * alR true s) := axh_of ry (by omega) (by omega) (by omega)
      cases mw with
      | false =>
        rw [if_neg (by decide)]
        exact ⟨⟨_, _, axh_of rx (by omega) (by omega) (by omega)⟩, ⟨_, _, hyy⟩⟩
      | true =>
        rw [if_pos rfl]
        exact ⟨⟨_, _, axh_neg rx (by omega) (by omega) (by omega)⟩, ⟨_, _, hyy⟩⟩
  cases cw with
  | false =>
    refine ⟨D * 1, b.st * D + n * alR false s, D * m, (72 * b.ln + 48) * (D * m), ⟨by omega, hH2⟩, ⟨halB, hacB⟩, ⟨hQQ _ (by omega), hQQ _ (by omega)⟩, fun x hx => ?_⟩
    have := key x hx
    rw [if_neg (by decide)] at this; exact this
  | true =>
    refine ⟨D * m, (72 * b.ln + 48) * (D * m), D * 1, b.st * D + n * alR true s, ⟨hH2, by omega⟩, ⟨hacB, halB⟩, ⟨hQQ _ (by omega), hQQ _ (by omega)⟩, fun x hx => ?_⟩
    have := key x hx
    rw [if_pos rfl] at this; exact this
theorem layL_con {L : Lm} {cw mw : Bool} {len : Int} {ns : List Nd} (h : Pln L.li ns) (hl : 0 ≤ len ∧ len ≤ 4800) : ∀ a ∈ layL cw mw len (shpsI L.li cw ns), ∀ b ∈ layL cw mw len (shpsI L.li cw ns), crossP a b = true → conOk a b := fun a ha b hb hc => by
  have hG := shps_good cw h
  have hZ := shps_size2 cw h
  have hB : ∀ s ∈ shpsI L.li cw ns, szB s := fun s hs => (hG s hs).szB
  unfold layL at ha hb
  obtain ⟨i, hi, ha⟩ := List.mem_flatMap.1 ha
  obtain ⟨k, hk, hb⟩ := List.mem_flatMap.1 hb
  rw [List.mem_range] at hi hk
  obtain ⟨t, ht⟩ : ∃ t, (shpsI L.li cw ns)[i]? = some t := ⟨_, List.getElem?_eq_getElem hi⟩
  obtain ⟨s, hs⟩ : ∃ s, (shpsI L.li cw ns)[k]? = some s := ⟨_, List.getElem?_eq_getElem hk⟩
  have hap : ∀ (i k : Nat) (t s : Shp), i < k → (shpsI L.li cw ns)[i]? = some t → (shpsI L.li cw ns)[k]? = some s → ∀ a ∈ grpB cw mw (blA cw len (shpsI L.li cw ns) i), ∀ b ∈ grpB cw mw (blA cw len (shpsI L.li cw ns) k), crossP a b = false := fun i k t s hik ht hs a ha b hb => by
    have htm := List.mem_of_getElem? ht
    have hsm := List.mem_of_getElem? hs
    have hft := grp_fit (cw := cw) (len := len) ht (hZ t htm).1 (hZ t htm).2
    have hfs := grp_fit (cw := cw) (len := len) hs (hZ s hsm).1 (hZ s hsm).2
    have e3 : (blA cw len (shpsI L.li cw ns) i).s = t := by rw [blA_at ht]
    have e4 : (blA cw len (shpsI L.li cw ns) k).s = s := by rw [blA_at hs]
    unfold grpB at ha hb
    rw [e3] at ha
    rw [e4] at hb
    obtain ⟨p, hp, rfl⟩ := List.mem_map.1 ha
    obtain ⟨q, hq, rfl⟩ := List.mem_map.1 hb
    exact grp_apart hft hfs (hG t htm) (hG s hsm) (st_order hB hik (List.getElem?_eq_some_iff.1 hs).1) hp hq (grp_rep ht hft p) (grp_rep hs hfs q)
  rcases Nat.lt_trichotomy i k with hik | rfl | hik
  · rw [hap i k t s hik ht hs a ha b hb] at hc; cases hc
  · obtain ⟨Qx, Hx, Qy, Hy, h1, h2, h3, h4⟩ := grp_con (mw := mw) h hl ht
    exact bh_con (h4 a ha) (h4 b hb) h1.1 h1.2 h2.1 h2.2 h3.1 h3.2
  · rw [crossP_symm, hap k i s t hik hs ht b hb a ha] at hc; cases hc
structure WiOk (fn fd wn wd ln : Int) : Prop where
  f0 : 0 ≤ fn
  d0 : 0 < fd
  w0 : 0 < wd
  l0 : 0 ≤ ln ∧ ln ≤ 1000
  lq : (fn / fd) / 72 = ln
  le : fn * wd + wn * fd ≤ (72 * ln + 48) * fd * wd
  m1 : i64I (fn * wd)
  m2 : i64I (wn * fd)
  m3 : i64I (fn * wd + wn * fd)
  m4 : i64I ((72 * ln + 48) * fd)
  m5 : i64I ((72 * ln + 48) * fd * wd)
theorem wi_ok {fn fd wn wd A S Q ln R : Int} (hQ : 0 < Q) (hf : fn * Q = A * fd) (hw : wn * Q = S * wd) (hd : 0 < fd ∧ fd ≤ R) (he : 0 < wd ∧ wd ≤ Q) (hS : 0 < S) (h1 : 72 * ln * Q ≤ A) (h2 : A + S ≤ (72 * ln + 48) * Q) (hl : 0 ≤ ln ∧ ln ≤ 1000) (hb : (72 * ln + 48) * R * Q ≤ 9223372036854775807) : WiOk fn fd wn wd ln := by
  have hA0 : 0 ≤ A := by have := Int.mul_nonneg (show 0 ≤ 72 * ln by omega) (Int.le_of_lt hQ); omega
  have le_of : ∀ {a b : Int}, a * Q ≤ b * Q → a ≤ b := fun h => Int.le_of_mul_le_mul_right h hQ
  have hf0 : 0 ≤ fn := by
    refine le_of ?_
    rw [Int.zero_mul, hf]; exact Int.mul_nonneg hA0 (Int.le_of_lt hd.1)
  have hw0 : 0 ≤ wn := by
    refine le_of ?_
    rw [Int.zero_mul, hw]; exact Int.mul_nonneg (Int.le_of_lt hS) (Int.le_of_lt he.1)
  have hlo : 72 * ln * fd ≤ fn := by
    refine le_of ?_
    rw [hf, Int.mul_right_comm]
    exact Int.mul_le_mul_of_nonneg_right h1 (Int.le_of_lt hd.1)
  have hup : fn < (72 * ln + 48) * fd := by
    have h3 : A < (72 * ln + 48) * Q := by omega
    have h4 := Int.mul_lt_mul_of_pos_right h3 hd.1
    rw [← hf] at h4
    rcases Int.lt_or_le fn ((72 * ln + 48) * fd) with h | h
    · exact h
    · have h5 := Int.mul_le_mul_of_nonneg_right h (Int.le_of_lt hQ)
      rw [Int.mul_right_comm ((72 * ln + 48)) fd Q] at h5
      omega
  have hle : fn * wd + wn * fd ≤ (72 * ln + 48) * fd * wd := by
    refine le_of ?_
    have e1 : (fn * wd + wn * fd) * Q = (A + S) * (fd * wd) := by
      rw [Int.add_mul, Int.mul_right_comm fn, hf, Int.mul_right_comm wn, hw, Int.add_mul]
      congr 1 <;> ac_rfl
    have e2 : (72 * ln + 48) * fd * wd * Q = (72 * ln + 48) * Q * (fd * wd) := by ac_rfl
    rw [e1, e2]
    exact Int.mul_le_mul_of_nonneg_right h2 (Int.mul_nonneg (Int.le_of_lt hd.1) (Int.le_of_lt he.1))
  have p0 : 0 ≤ 72 * ln + 48 := by omega
  have p1 : (72 * ln + 48) * fd ≤ (72 * ln + 48) * R := Int.mul_le_mul_of_nonneg_left hd.2 p0
  have p2 : 0 ≤ (72 * ln + 48) * fd := Int.mul_nonneg p0 (Int.le_of_lt hd.1)
  have p3 : (72 * ln + 48) * fd * wd ≤ (72 * ln + 48) * R * Q := Int.mul_le_mul p1 he.2 (Int.le_of_lt he.1) (by omega)
  have p4 : (72 * ln + 48) * fd * 1 ≤ (72 * ln + 48) * fd * wd := Int.mul_le_mul_of_nonneg_left (by omega) p2
  have q1 := Int.mul_nonneg hf0 (Int.le_of_lt he.1)
  have q2 := Int.mul_nonneg hw0 (Int.le_of_lt hd.1)
  have hdiv : (fn / fd) / 72 = ln := by
    have d1 : 72 * ln ≤ fn / fd := (Int.le_ediv_iff_mul_le hd.1).2 hlo
    have d2 : fn / fd < 72 * ln + 48 := (Int.ediv_lt_iff_lt_mul hd.1).2 hup
    omega
  refine ⟨hf0, hd.1, he.1, hl, hdiv, hle, ?_, ?_, ?_, ?_, ?_⟩ <;> (unfold i64I; omega)
open Go.RowKit
def WiB (cw mw : Bool) (x : Bx) (ln : Int) : Prop :=
  if cw then (if mw then WiOk (-x.x.num * x.w.den - x.w.num * x.x.den) (x.x.den * x.w.den) x.w.num x.w.den ln ∧ i64I (-x.x.num) ∧ i64I (-x.x.num * x.w.den) ∧ i64I (x.w.num * x.x.den) ∧ i64I (-x.x.num * x.w.den - x.w.num * x.x.den) ∧ i64I (x.x.den * x.w.den)
    else WiOk x.x.num x.x.den x.w.num x.w.den ln)
  else WiOk x.y.num x.y.den x.h.num x.h.den ln
set_option maxHeartbeats 1000000 in
theorem grp_within {L : Lm} {cw mw : Bool} {len : Int} {ns : List Nd} (h : Pln L.li ns) {k : Nat} {s : Shp} (hs : (shpsI L.li cw ns)[k]? = some s) :
    ∃ ln : Int, ∀ x ∈ grpB cw mw (blA cw len (shpsI L.li cw ns) k), WiB cw mw x ln := by
  have hG := shps_good cw h
  have hm := List.mem_of_getElem? hs
  have hsm := shps_small cw h s hm
  have hz := (sz_wt s hsm).1
  have hw := wtS_at _ k s hs
  have hw2 := wtS_nodes L cw _ _ (shs_of cw h)
  have h200 := (text_ok h.ok).2.1
  have hw0 := wt_pos s
  have h4 := (fourS_of L cw _ _ (shs_of cw h)).2.2 s hm
  have hB0 : ∀ s ∈ shpsI L.li cw ns, szB s := fun s hs => (hG s hs).szB
  obtain ⟨ks, hks⟩ : ∃ ks, ks = shpsI L.li cw ns := ⟨_, rfl⟩
  rw [← hks] at hs hw hw2 hB0 hG hm ⊢
  obtain ⟨B, hB⟩ : ∃ B : Int, B = 32 * (200 - (k : Int)) - 5 := ⟨_, rfl⟩
  have hkB : (k : Int) ≤ 199 := by omega
  obtain ⟨hn, hD, hodd⟩ := scl4 (cw := cw) (B := B) h4 (by omega) (by omega) (by omega)
  have hln := (plA_bd (cw := cw) (len := len) (s := s) (stA_bd (cw := cw) (len := len) hB0 k (by have := (List.getElem?_eq_some_iff.1 hs).1; omega))).1
  have hbl := blA_at (cw := cw) (len := len) hs
  have e1 : (blA cw len ks k).sc = sclR cw s := by rw [hbl]; rfl
  have e2 : (blA cw len ks k).ac = fracR ((sclR cw s).num * acR cw s) (sclR cw s).den := by rw [hbl]; rfl
  have e3 : (blA cw len ks k).ln = (plA cw len (stA cw len (ks.take k)) s).1 := by rw [hbl]
  have e4 : (blA cw len ks k).s = s := by rw [hbl]
  rw [← e3] at hln
  have hfit := grp_fit (cw := cw) (len := len) hs (by omega) (by omega)
  have hfac := hfit.ac
  have hac0 := hfit.ac0
  obtain ⟨b, hb⟩ : ∃ b, b = blA cw len ks k := ⟨_, rfl⟩
  have hgr : grpB cw mw b = (s.pcs 0 0).map fun p => if mw then (boxPc b.sc (corX cw b) (corY cw b) p).mir else boxPc b.sc (corX cw b) (corY cw b) p := by unfold grpB; rw [hb, e4]
  rw [← hb] at hln e1 e2 ⊢
  rw [hgr]
  obtain ⟨⟨n, D⟩, hsc⟩ : ∃ f, f = sclR cw s := ⟨_, rfl⟩
  rw [← hsc] at hn hD hodd hfac e1 e2
  dsimp only at hn hD hodd hfac e2
  have hnac := Int.mul_nonneg (show 0 ≤ n by omega) hac0
  have hcr : ∃ m A : Int, (m = 1 ∨ m = 2) ∧ D * m ≤ B ∧ croR b.ac.num b.ac.den b.ln = fracR A (D * m) ∧ 72 * b.ln * (D * m) ≤ A ∧ A + n * acR cw s * m ≤ (72 * b.ln + 48) * (D * m) := by
    have hc := cro_com (N := n * acR cw s) (ln := b.ln) (show 0 < D by omega)
    rw [← e2] at hc
    have e5 : 72 * b.ln * (D * 2) = 72 * b.ln * D * 2 := (Int.mul_assoc ..).symm
    rcases (show n % 2 = 0 ∨ n % 2 = 1 by omega) with hev | ho
    · obtain ⟨q, hq⟩ : ∃ q, n = 2 * q := ⟨n / 2, by omega⟩
      have e : n * acR cw s = 2 * (q * acR cw s) := by rw [hq, Int.mul_assoc]
      refine ⟨1, 72 * b.ln * D + 24 * D - q * acR cw s, .inl rfl, by omega, ?_, by rw [Int.mul_one]; omega, ?_⟩
      · rw [hc]
        refine fracR_eq (by omega) (by omega) ?_
        have e4 : 72 * b.ln * (D * 2) + (48 * D - n * acR cw s) = (72 * b.ln * D + 24 * D - q * acR cw s) * 2 := by rw [e, e5]; omega
        rw [e4, Int.mul_one, Int.mul_assoc, Int.mul_comm 2 D]
      · rw [Int.mul_one, Int.mul_one, Int.add_mul]; omega
    · refine ⟨2, 72 * b.ln * (D * 2) + (48 * D - n * acR cw s), .inr rfl, hodd ho, hc, by omega, ?_⟩
      rw [Int.add_mul]; omega
  obtain ⟨m, A, hm12, hmB, hcrE, hA0, hA1⟩ := hcr
  have hm0 : 0 < m := by omega
  have hDm : 0 < D * m := Int.mul_pos (by omega) hm0
  obtain ⟨Q, hQ⟩ : ∃ Q, Q = D * m := ⟨_, rfl⟩
  have hacB : (72 * b.ln + 48) * Q * Q * (Q * Q) ≤ 9223372036854775807 := by
    have h1 := q4_mono (c := 72 * b.ln + 48) (c' := 72 * ((k : Int) + 1) + 48) (Q := Q) (B := B) (by omega) (by omega)
    have h2 := num_ac ⟨k, by omega⟩
    dsimp only at h2
    have h3 : (72 * ((k : Int) + 1) + 48) * B * B * (B * B) ≤ 9223372036854775807 := by
      obtain ⟨bb, hbb⟩ : ∃ bb : Nat, bb = 32 * (200 - k) - 5 := ⟨_, rfl⟩
      obtain ⟨NN, hNN⟩ : ∃ NN : Nat, NN = 9223372036854775807 := ⟨_, rfl⟩
      obtain ⟨cc, hcc⟩ : ∃ cc : Nat, cc = 72 * (k + 1) + 48 := ⟨_, rfl⟩
      rw [← hbb, ← hNN, ← hcc] at h2
      have e : B = (bb : Int) := by omega
      have e' : 72 * ((k : Int) + 1) + 48 = (cc : Int) := by omega
      rw [e, e']
      have h5 : (cc : Int) * bb * bb * (bb * bb) ≤ (NN : Int) := by exact_mod_cast h2
      omega
    omega
  have p0 : 0 ≤ (72 * b.ln + 48) * Q := Int.mul_nonneg (by omega) (by omega)
  have p1 : 0 ≤ (72 * b.ln + 48) * Q * Q := Int.mul_nonneg p0 (by omega)
  have hQ1 : 1 ≤ Q := by omega
  have hQ2 : Q ≤ Q * Q := by have := Int.mul_le_mul_of_nonneg_right hQ1 (show 0 ≤ Q by omega); omega
  have b3 : (72 * b.ln + 48) * Q * Q * Q ≤ 9223372036854775807 := by
    have := Int.mul_le_mul_of_nonneg_left hQ2 p1; omega
  have b2 : (72 * b.ln + 48) * Q * Q ≤ 9223372036854775807 := by
    have := Int.mul_le_mul_of_nonneg_left hQ1 p1; omega
  have b3' : (72 * b.ln + 48) * (Q * Q) * Q ≤ 9223372036854775807 := by
    have e : (72 * b.ln + 48) * (Q * Q) * Q = (72 * b.ln + 48) * Q * Q * Q := by ac_rfl
    omega
  refine ⟨b.ln, fun x hx => ?_⟩
  obtain ⟨p, hp, rfl⟩ := List.mem_map.1 hx
  have hq := pcs_in s (hG s hm) 0 0 p hp
  have hpo := pcs_pos s hsm 0 0 p hp
  unfold inR at hq
  have e6 : n * (p.x + p.wd) = n * p.x + n * p.wd := Int.mul_add ..
  have e7 : n * (p.y + p.hg) = n * p.y + n * p.hg := Int.mul_add ..
  have hR : ∀ (a w : Int), AxR (plusF (fracR A (D * m)) (fracR (n * a) D)) (fracR (n * w) D) (A + n * a * m) (n * w * m) Q := fun a w => by
    rw [hQ]
    refine ⟨hDm, add_rep (D := D) (a := n * a) rfl (by omega) (by omega), ?_⟩
    exact fracR_eq (by omega) hDm (by ac_rfl)
  -- a piece across
  have hW : ∀ (a w : Int), 0 ≤ a → 1 ≤ w → a + w ≤ acR cw s → 0 < n * w * m ∧ 72 * b.ln * Q ≤ A + n * a * m ∧ A + n * a * m + n * w * m ≤ (72 * b.ln + 48) * Q := fun a w ha hw haw => by
    have m2 := mul_mono (n := n) (by omega) haw
    have m3 := Int.mul_le_mul_of_nonneg_right m2 (Int.le_of_lt hm0)
    rw [Int.mul_add, Int.add_mul] at m3
    have z5 := Int.mul_nonneg (Int.mul_nonneg (show 0 ≤ n by omega) ha) (Int.le_of_lt hm0)
    have z6 := Int.mul_pos (Int.mul_pos (show 0 < n by omega) (show 0 < w by omega)) hm0
    rw [hQ]
    exact ⟨z6, by omega, by omega⟩
  rw [e1]
  unfold WiB
  cases cw with
  | false =>
    rw [if_neg (by decide)]
    have a2 : acR false s = s.size.2 := rfl
    have cy : corY false b = fracR A (D * m) := hcrE
    obtain ⟨w1, w2, w3⟩ := hW p.y p.hg (by omega) (by omega) (by rw [a2]; omega)
    have r := hR p.y p.hg
    rw [← cy] at r
    obtain ⟨f1, f2⟩ := fr_val (n := A + n * p.y * m) r.q
    obtain ⟨g1, g2⟩ := fr_val (n := n * p.hg * m) r.q
    have f3 := fracR_den (n := A + n * p.y * m) r.q
    have g3 := fracR_den (n := n * p.hg * m) r.q
    rw [← r.f] at f1 f2 f3
    rw [← r.w] at g1 g2 g3
    have := wi_ok (R := Q) r.q f1 g1 ⟨f2, f3.2⟩ ⟨g2, g3.2⟩ w1 w2 w3 (by omega) b2
    cases mw <;> exact this
  | true =>
    rw [if_pos rfl]
    have a2 : acR true s = s.size.1 := rfl
    have cx : corX true b = fracR A (D * m) := hcrE
    obtain ⟨w1, w2, w3⟩ := hW p.x p.wd (by omega) (by omega) (by rw [a2]; omega)
    have r := hR p.x p.wd
    rw [← cx] at r
    cases mw with
    | false =>
      rw [if_neg (by decide), if_neg (by decide)]
      obtain ⟨f1, f2⟩ := fr_val (n := A + n * p.x * m) r.q
      obtain ⟨g1, g2⟩ := fr_val (n := n * p.wd * m) r.q
      have f3 := fracR_den (n := A + n * p.x * m) r.q
      have g3 := fracR_den (n := n * p.wd * m) r.q
      rw [← r.f] at f1 f2 f3
      rw [← r.w] at g1 g2 g3
      exact wi_ok (R := Q) r.q f1 g1 ⟨f2, f3.2⟩ ⟨g2, g3.2⟩ w1 w2 w3 (by omega) b2
    | true =>
      rw [if_pos rfl, if_pos rfl]
      obtain ⟨F, hF⟩ : ∃ F, F = negF (plusF (plusF (corX true b) (fracR (n * p.x) D)) (fracR (n * p.wd) D)) := ⟨_, rfl⟩
      obtain ⟨W, hWe⟩ : ∃ W, W = fracR (n * p.wd) D := ⟨_, rfl⟩
      have hFe : F = fracR (-(A + n * p.x * m + n * p.wd * m)) Q := by rw [hF, r.en, neg_fr]
      have hWq : W = fracR (n * p.wd * m) Q := by rw [hWe]; exact r.w
      have ex9 : (boxPc ⟨n, D⟩ (corX true b) (corY true b) p).mir.x = F := hF.symm
      have ew9 : (boxPc ⟨n, D⟩ (corX true b) (corY true b) p).mir.w = W := hWe.symm
      rw [ex9, ew9]
      show WiOk (-F.num * W.den - W.num * F.den) (F.den * W.den) W.num W.den b.ln ∧ i64I (-F.num) ∧ i64I (-F.num * W.den) ∧ i64I (W.num * F.den) ∧ i64I (-F.num * W.den - W.num * F.den) ∧ i64I (F.den * W.den)
      obtain ⟨f1, f2⟩ := fr_val (n := -(A + n * p.x * m + n * p.wd * m)) r.q
      obtain ⟨g1, g2⟩ := fr_val (n := n * p.wd * m) r.q
      have f3 := fracR_den (n := -(A + n * p.x * m + n * p.wd * m)) r.q
      have g3 := fracR_den (n := n * p.wd * m) r.q
      have hAn : 0 ≤ A + n * p.x * m := by have := Int.mul_nonneg (show 0 ≤ 72 * b.ln by omega) (show 0 ≤ Q by omega); omega
      obtain ⟨H, hH⟩ : ∃ H, H = (72 * b.ln + 48) * Q := ⟨_, rfl⟩
      rw [← hH] at w3 b2 p0
      have f4 := fracR_num (n := -(A + n * p.x * m + n * p.wd * m)) (B := H) r.q (by omega)
      have g4 := fracR_num (n := n * p.wd * m) (B := H) r.q (by omega)
      rw [← hFe] at f1 f2 f3 f4
      rw [← hWq] at g1 g2 g3 g4
      have hHQ : 0 ≤ H * Q := Int.mul_nonneg p0 (by omega)
      have hHle : H ≤ H * Q := by have := Int.mul_le_mul_of_nonneg_left hQ1 p0; omega
      have x1 := mul_bd2 (a := -F.num) (K := H) (by omega) (show 0 ≤ W.den ∧ W.den ≤ Q by omega)
      have x2 := mul_bd2 (a := W.num) (K := H) (by omega) (show 0 ≤ F.den ∧ F.den ≤ Q by omega)
      have hdd : F.den * W.den ≤ Q * Q := Int.mul_le_mul f3.2 g3.2 (by omega) (by omega)
      have hd0 := Int.mul_pos f2 g2
      have hfn : (-F.num * W.den - W.num * F.den) * Q = (A + n * p.x * m) * (F.den * W.den) := by
        rw [Int.sub_mul, Int.mul_right_comm (-F.num), Int.neg_mul, f1, Int.mul_right_comm W.num, g1]
        have e8 : -(-(A + n * p.x * m + n * p.wd * m) * F.den) * W.den = (A + n * p.x * m + n * p.wd * m) * (F.den * W.den) := by
          rw [Int.neg_mul (A + n * p.x * m + n * p.wd * m) F.den, Int.neg_neg, Int.mul_assoc]
        have e9 : n * p.wd * m * W.den * F.den = n * p.wd * m * (F.den * W.den) := by ac_rfl
        rw [e8, e9, Int.add_mul (A + n * p.x * m)]; omega
      have hQQm : Q * Q ≤ H * Q * Q := by
        have h1 : 1 ≤ H := by rw [hH]; have := Int.mul_le_mul (show (1 : Int) ≤ 72 * b.ln + 48 by omega) hQ1 (by omega) (by omega); omega
        have h2 := Int.mul_le_mul_of_nonneg_right h1 (show 0 ≤ Q * Q by omega)
        have e : H * (Q * Q) = H * Q * Q := (Int.mul_assoc ..).symm
        omega
      have b4 : H * Q * Q ≤ 9223372036854775807 := by rw [hH]; exact b3
      have hwi := wi_ok (R := Q * Q) r.q hfn g1 ⟨hd0, hdd⟩ ⟨g2, g3.2⟩ w1 w2 (by omega) (by omega) b3'
      have hm1 := hwi.m1
      have hfub : -F.num * W.den - W.num * F.den ≤ 9223372036854775807 := by
        have h1 := hwi.f0
        have h2 := Int.mul_le_mul_of_nonneg_left (show (1 : Int) ≤ W.den by omega) h1
        unfold i64I at hm1
        omega
      have hf0 := hwi.f0
      refine ⟨hwi, ?_, ?_, ?_, ?_, ?_⟩ <;> (unfold i64I; omega)
theorem layL_within {L : Lm} {cw mw : Bool} {len : Int} {ns : List Nd} (h : Pln L.li ns) : ∀ x ∈ layL cw mw len (shpsI L.li cw ns), ∃ ln, WiB cw mw x ln := fun x hx => by
  unfold layL at hx
  obtain ⟨k, hk, hx⟩ := List.mem_flatMap.1 hx
  rw [List.mem_range] at hk
  obtain ⟨s, hs⟩ : ∃ s, (shpsI L.li cw ns)[k]? = some s := ⟨_, List.getElem?_eq_getElem hk⟩
  obtain ⟨ln, hl⟩ := grp_within (mw := mw) (len := len) h hs
  exact ⟨ln, hl x hx⟩
end Go.Proofs.YtmiokllpdmmfhaaGreat
