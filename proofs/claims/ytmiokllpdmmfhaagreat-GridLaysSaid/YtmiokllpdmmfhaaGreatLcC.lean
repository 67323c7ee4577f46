/-
  Two rows that grow side by side: boxes and rectangles. And what builds on it.
-/
import Derived.Test.YtmiokllpdmmfhaaGreatRplL
import Derived.Test.YtmiokllpdmmfhaaGreatLaM
import Derived.Test.YtmiokllpdmmfhaaGreatLcA
namespace Go.Proofs.YtmiokllpdmmfhaaGreat
open Go.RowKit
structure Two (w : World) (B : Nat) (o a : Value) (l : List Pc) : Prop where
  ob : w.ownsRow B 82 15 o l.length (l.flatMap fun p => (boxZ p).cells)
  oa : w.ownsRow B 174 4 a l.length (l.flatMap rcC)
  ne : ∀ g, o.ownBlock = some g → a.ownBlock ≠ some g
theorem boxZ_one {l : List Pc} : ∀ u ∈ l.flatMap fun p => (boxZ p).cells, u.oneCell' = true := fun u hu => by
  obtain ⟨p, _, h⟩ := List.mem_flatMap.1 hu
  exact bx_one _ u h
theorem rcC_one {l : List Pc} : ∀ u ∈ l.flatMap rcC, u.oneCell' = true := fun u hu => by
  obtain ⟨p, _, h⟩ := List.mem_flatMap.1 hu
  simp [rcC] at h
  rcases h with rfl | rfl | rfl | rfl <;> rfl
theorem Two.nil (w : World) (B : Nat) : Two w B (.slice none 0 0) (.slice none 0 0) [] :=
  ⟨World.ownsRow_nil _ _ _ _, World.ownsRow_nil _ _ _ _, fun g h => by cases h⟩
theorem Two.lt {w : World} {B : Nat} {o a : Value} {l : List Pc} (h : Two w B o a l) : (∀ g, o.ownBlock = some g → B ≤ g ∧ g < w.heap.size) ∧ (∀ g, a.ownBlock = some g → B ≤ g ∧ g < w.heap.size) :=
  ⟨fun g hg => h.ob.lt g hg, fun g hg => h.oa.lt g hg⟩
theorem Two.below {w w' : World} {B : Nat} {o a : Value} {l : List Pc} (h : Two w B o a l) (hb : Below w.heap.size w w') : Two w' B o a l :=
  ⟨ownsRow_of_block h.ob (fun g hg => hb.block g (h.ob.lt g hg).2), ownsRow_of_block h.oa (fun g hg => hb.block g (h.oa.lt g hg).2), h.ne⟩
theorem Two.set {w : World} {B : Nat} {o a : Value} {l : List Pc} (h : Two w B o a l) {b : Nat} (hb : b < B) (k : Nat) (v : Value) : Two (w.setCell ⟨b, k, none⟩ v) B o a l :=
  ⟨ownsRow_of_block h.ob (fun g hg => heap_setCell_other w _ _ g (by have := (h.ob.lt g hg).1; dsimp only; omega)), ownsRow_of_block h.oa (fun g hg => heap_setCell_other w _ _ g (by have := (h.oa.lt g hg).1; dsimp only; omega)), h.ne⟩
theorem own_grown {w w' : World} {B : Nat} {e : TypeId} {size : Nat} {v : Value} {n : Nat} {xs : List Value} {row : Option Nat} (h : w.ownsRow B e size v n xs) (hg : w.grownBy w' row) (hne : ∀ g, v.ownBlock = some g → row ≠ some g) : w'.ownsRow B e size v n xs :=
  ownsRow_of_block h (fun g hv => hg.block g (h.lt g hv).2 (fun e => hne g hv e.symm))
theorem ne_grown {w : World} {v v' a : Value} (hn : v'.ownBlock = v.ownBlock ∨ v'.ownBlock = some w.heap.size) (ha : ∀ g, a.ownBlock = some g → g < w.heap.size) (hne : ∀ g, v.ownBlock = some g → a.ownBlock ≠ some g) : ∀ g, v'.ownBlock = some g → a.ownBlock ≠ some g := fun g hg h => by
  rcases hn with hn | hn
  · exact hne g (hn ▸ hg) h
  · rw [hn] at hg; injection hg with hg; have := ha g h; omega
theorem off_grown {w : World} {v v' : Value} {k : Nat} (hn : v'.ownBlock = v.ownBlock ∨ v'.ownBlock = some w.heap.size) (hk : k < w.heap.size) (hne : v.ownBlock ≠ some k) : v'.ownBlock ≠ some k := fun h => by
  rcases hn with hn | hn
  · exact hne (hn ▸ h)
  · rw [hn] at h; injection h with h; omega
def rectB (O acr : Bool) (j : Nat) (ix iy iw ih sw sh pos X Y Wd Hg : Int) : Prop :=
  if O then (if j = 1 then X = ix + iw / 4 ∧ Y = iy + ih / 4 ∧ Wd = iw / 2 ∧ Hg = ih / 2 else X = ix ∧ Y = iy ∧ Wd = sw ∧ Hg = sh)
  else if acr then sh ≤ ih ∧ X = ix + pos ∧ Y = iy + (ih - sh) / 2 ∧ Wd = sw ∧ Hg = sh
  else sw ≤ iw ∧ X = ix + (iw - sw) / 2 ∧ Y = iy + pos ∧ Wd = sw ∧ Hg = sh
def posB (O acr : Bool) (pos sw sh sp : Int) : Int := if O then pos else if acr then pos + sw + sp else pos + sh + sp
theorem Two.step {w w1 w2 : World} {B : Nat} {o a o' a' : Value} {l k : List Pc} {m q : Nat} (h : Two w B o a l) (hm : m = l.length) (hq : q = k.length)
    (ob : w1.ownsRow B 82 15 o' (m + q) ((l.flatMap fun p => (boxZ p).cells) ++ (k.flatMap fun p => (boxZ p).cells))) (hg : w.grownBy w1 o.ownBlock) (hn : o'.ownBlock = o.ownBlock ∨ o'.ownBlock = some w.heap.size)
    (oa : w2.ownsRow B 174 4 a' (m + q) (l.flatMap rcC ++ k.flatMap rcC)) (hg2 : w1.grownBy w2 a.ownBlock) (hn2 : a'.ownBlock = a.ownBlock ∨ a'.ownBlock = some w1.heap.size) : Two w2 B o' a' (l ++ k) := by
  have n1 := ne_grown hn (fun g hg => (h.oa.lt g hg).2) h.ne
  have hsz : ∀ g, a.ownBlock = some g → g < w1.heap.size := fun g hg3 => by
    have := (own_grown h.oa hg (fun g hga e => h.ne g e hga)).lt g hg3
    exact this.2
  have n2 : ∀ g, a'.ownBlock = some g → o'.ownBlock ≠ some g := ne_grown hn2 (fun g hg => (ob.lt g hg).2) (fun g ha ho => n1 g ho ha)
  subst hm hq
  refine ⟨?_, ?_, fun g ho ha => n2 g ha ho⟩
  · rw [List.length_append, List.flatMap_append]
    exact own_grown ob hg2 (fun g ho ha => n1 g ho ha)
  · rw [List.length_append, List.flatMap_append]
    exact oa
open Go.RowKit
def smallQ (p : Pc) (w h : Int) : Prop := (0 ≤ p.x ∧ p.x ≤ w) ∧ (0 ≤ p.y ∧ p.y ≤ h) ∧ (0 ≤ p.wd ∧ p.wd ≤ w) ∧ (0 ≤ p.hg ∧ p.hg ≤ h)
def inR (p : Pc) (x y w h : Int) : Prop := (x ≤ p.x ∧ p.x + p.wd ≤ x + w) ∧ (y ≤ p.y ∧ p.y + p.hg ≤ y + h) ∧ 0 ≤ p.wd ∧ 0 ≤ p.hg
theorem spnI (sp : Int) (n : Nat) : sp * (((n + 1 : Nat) : Int) - 1) = sp * (n : Int) ∧ sp * ((n : Int) - 1) = sp * (n : Int) - sp := by
  refine ⟨by congr 1; omega, by rw [Int.mul_sub, Int.mul_one]⟩
mutual
theorem pcs_in : ∀ (s : Shp), s.good → ∀ (x y : Int), ∀ p ∈ s.pcs x y, inR p x y s.size.1 s.size.2
  | .gly n a b, h, x, y, p, hp => by
    rw [Shp.good] at h
    rw [Shp.pcs, List.mem_singleton] at hp
    subst hp
    rw [Shp.size]; unfold inR; dsimp only; omega
  | .gap n, h, x, y, p, hp => by
    rw [Shp.good] at h
    rw [Shp.pcs, List.mem_singleton] at hp
    subst hp
    rw [Shp.size]; unfold inR; dsimp only; omega
  | .ovl n1 a b n2 c d, h, x, y, p, hp => by
    rw [Shp.good] at h
    rw [Shp.pcs] at hp
    rw [Shp.size]; unfold inR; dsimp only
    rcases List.mem_cons.1 hp with rfl | hp
    · dsimp only; omega
    · rw [List.mem_singleton] at hp; subst hp; dsimp only; omega
  | .row sp ks, h, x, y, p, hp => by
    rw [Shp.good] at h
    rw [Shp.pcs] at hp
    have hm := max_mem ks (fun k hk => (goodS.mem h.2.2.2 k hk).szB)
    have := pcsR_in sp (maxH ks) h.1.1 ks h.2.2.2 (fun k hk => (hm k hk).2) x y p hp
    rw [Shp.size]; unfold inR at this ⊢; dsimp only; omega
  | .col sp ks, h, x, y, p, hp => by
    rw [Shp.good] at h
    rw [Shp.pcs] at hp
    have hm := max_mem ks (fun k hk => (goodS.mem h.2.2.2 k hk).szB)
    have := pcsC_in sp (maxW ks) h.1.1 ks h.2.2.2 (fun k hk => (hm k hk).1) x y p hp
    rw [Shp.size]; unfold inR at this ⊢; dsimp only; omega
  | .rng n s, h, x, y, p, hp => by
    have hz := h.szB
    rw [Shp.good] at h
    rw [Shp.pcs] at hp
    have hs := h.2.1
    unfold szB at hs hz
    rw [Shp.size] at hz ⊢
    dsimp only at hz
    rcases List.mem_cons.1 hp with rfl | hp
    · unfold inR; dsimp only; omega
    · have := pcs_in s h.2.2 (x + 12) (y + 12) p hp
      unfold inR at this ⊢; dsimp only; omega
theorem pcsR_in (sp H : Int) (h0 : 0 ≤ sp) : ∀ (ks : List Shp), goodS ks → (∀ k ∈ ks, k.size.2 ≤ H) → ∀ (x y : Int), ∀ p ∈ pcsR sp H ks x y, inR p x y (sp * ((ks.length : Int) - 1) + sumW ks) H
  | [], _, _, x, y, p, hp => by rw [pcsR] at hp; cases hp
  | k :: r, h, hH, x, y, p, hp => by
    rw [goodS] at h
    have hk := h.1.szB
    have hkh := hH k (List.mem_cons_self ..)
    have hsr := sum_bd r (fun k hk => (goodS.mem h.2 k hk).szB)
    have hsp := spnI sp r.length
    have hsn := Int.mul_nonneg h0 (show (0 : Int) ≤ (r.length : Int) by omega)
    unfold szB at hk
    rw [pcsR] at hp
    rw [List.length_cons, hsp.1, sumW]
    rcases List.mem_append.1 hp with hp | hp
    · have := pcs_in k h.1 x (y + (H - k.size.2) / 2) p hp
      unfold inR at this ⊢
      omega
    · have := pcsR_in sp H h0 r h.2 (fun k hk => hH k (List.mem_cons_of_mem _ hk)) _ y p hp
      rw [hsp.2] at this
      unfold inR at this ⊢
      omega
theorem pcsC_in (sp W : Int) (h0 : 0 ≤ sp) : ∀ (ks : List Shp), goodS ks → (∀ k ∈ ks, k.size.1 ≤ W) → ∀ (x y : Int), ∀ p ∈ pcsC sp W ks x y, inR p x y W (sp * ((ks.length : Int) - 1) + sumH ks)
  | [], _, _, x, y, p, hp => by rw [pcsC] at hp; cases hp
  | k :: r, h, hW, x, y, p, hp => by
    rw [goodS] at h
    have hk := h.1.szB
    have hkw := hW k (List.mem_cons_self ..)
    have hsr := sum_bd r (fun k hk => (goodS.mem h.2 k hk).szB)
    have hsp := spnI sp r.length
    have hsn := Int.mul_nonneg h0 (show (0 : Int) ≤ (r.length : Int) by omega)
    unfold szB at hk
    rw [pcsC] at hp
    rw [List.length_cons, hsp.1, sumH]
    rcases List.mem_append.1 hp with hp | hp
    · have := pcs_in k h.1 (x + (W - k.size.1) / 2) y p hp
      unfold inR at this ⊢
      omega
    · have := pcsC_in sp W h0 r h.2 (fun k hk => hW k (List.mem_cons_of_mem _ hk)) x _ p hp
      rw [hsp.2] at this
      unfold inR at this ⊢
      omega
end
theorem pcs_small {s : Shp} (h : s.good) : ∀ p ∈ s.pcs 0 0, smallQ p s.size.1 s.size.2 := fun p hp => by
  have := pcs_in s h 0 0 p hp
  unfold inR at this
  unfold smallQ
  omega
open Go.RowKit
def posR (a : Bool) (sp : Int) (ks : List Shp) : Int := (if a then sumW ks else sumH ks) + sp * (ks.length : Int)
def pcsA (a : Bool) (sp M : Int) (ks : List Shp) (x y : Int) : List Pc := if a then pcsR sp M ks x y else pcsC sp M ks x y
theorem posR_step (a : Bool) (sp : Int) (ks : List Shp) (k : Shp) : posR a sp (ks ++ [k]) = posR a sp ks + (if a then k.size.1 else k.size.2) + sp := by
  have e : sp * ((ks.length + 1 : Nat) : Int) = sp * (ks.length : Int) + sp := by push_cast; rw [Int.mul_add, Int.mul_one]
  unfold posR
  rw [List.length_append, List.length_singleton, e]
  cases a
  · simp only [Bool.false_eq_true, if_false]; rw [sumH_app]; omega
  · simp only [if_true]; rw [sumW_app]; omega
theorem pcsA_step (a : Bool) (sp M : Int) (ks : List Shp) (k : Shp) (x y : Int) : pcsA a sp M (ks ++ [k]) x y = pcsA a sp M ks x y ++ (if a then k.pcs (x + posR a sp ks) (y + (M - k.size.2) / 2) else k.pcs (x + (M - k.size.1) / 2) (y + posR a sp ks)) := by
  unfold pcsA posR
  cases a
  · simp only [Bool.false_eq_true, if_false]; exact pcsC_app sp M k ks x y
  · simp only [if_true]; exact pcsR_app sp M k ks x y
theorem posR_bd (a : Bool) (sp : Int) (ks : List Shp) (h : ∀ k ∈ ks, (0 ≤ k.size.1 ∧ k.size.1 ≤ 172084) ∧ (0 ≤ k.size.2 ∧ k.size.2 ≤ 172084)) (hl : ks.length ≤ 6) (hs : 0 ≤ sp ∧ sp ≤ 20) : 0 ≤ posR a sp ks ∧ posR a sp ks ≤ 1100000 := by
  have hsum := sum_le ks 172084 h (by omega)
  have h1 := Int.mul_nonneg hs.1 (show (0 : Int) ≤ (ks.length : Int) by omega)
  have h2 := Int.mul_le_mul hs.2 (show (ks.length : Int) ≤ 6 by omega) (by omega) (by omega)
  unfold posR
  cases a
  · simp only [Bool.false_eq_true, if_false]; omega
  · simp only [if_true]; omega
theorem pcs_acc {l : Li} {way : Int} {zs : List Nd} {i : Nat} {u : Nd} (hu : zs[i]? = some u) (hk : u.kind = 2 ∨ u.kind = 3 ∨ u.kind = 5) (f : Nat) (x y : Int) (S : Shp) (hS0 : S = shpI l (cwN way) zs (f + 1) i) (ks : List Shp) (hks : ks = (kidsL zs i).map (shpI l (cwN way) zs f)) (g M : Int)
    (hgg : g = if (u.kind == 5) then 12 else 0) (hM0 : M = (if acrB u way then S.size.2 else S.size.1) - 2 * g) :
    S.pcs x y = (if (u.kind == 5) then [⟨u, x, y, S.size.1, S.size.2⟩] else []) ++ pcsA (acrB u way) (spcR u) M ks (x + g) (y + g) ∧
    ((∀ k ∈ ks, szB k) → ∀ k ∈ ks, (if acrB u way then k.size.2 else k.size.1) ≤ M) := by
  have hg := getN_at hu
  have hkA := kindAt_is hu
  have hdA : depthAt zs i = u.depth := by unfold depthAt; rw [hg]
  have hc : cwN way = !decide (way ≤ 2) := by unfold cwN; by_cases h : way ≤ 2 <;> simp [h] <;> omega
  have hmx := max_mem ks
  have hS := hS0
  rw [shpI, hkA, hg, hdA, ← hks] at hS
  clear hS0 hks
  rcases hk with hk | hk | hk
  · rw [if_neg (by omega), if_neg (by omega), if_neg (by omega), if_pos hk] at hS
    have ha : acrB u way = true := by unfold acrB; simp [hk]
    have hs : spcR u = 4 * (5 - u.depth) := by unfold spcR; rw [if_neg (by omega)]
    have h5 : (u.kind == 5) = false := by simp [hk]
    rw [h5, if_neg (by decide)] at hgg
    have hS2 : S.size.2 = maxH ks := by rw [hS, Shp.size]
    rw [ha, if_pos rfl, hS2] at hM0
    have hM : M = maxH ks := by omega
    refine ⟨?_, fun hb k hk => by rw [hM, ha, if_pos rfl]; exact (hmx hb k hk).2⟩
    rw [h5, hM, hgg, ha, hs, hS, Shp.pcs]
    simp [pcsA]
  · rw [if_neg (by omega), if_neg (by omega), if_neg (by omega), if_neg (by omega), if_pos hk] at hS
    have ha : acrB u way = false := by unfold acrB; simp [hk]
    have hs : spcR u = 4 * (5 - u.depth) := by unfold spcR; rw [if_neg (by omega)]
    have h5 : (u.kind == 5) = false := by simp [hk]
    rw [h5, if_neg (by decide)] at hgg
    have hS1 : S.size.1 = maxW ks := by rw [hS, Shp.size]
    rw [ha, if_neg (by decide), hS1] at hM0
    have hM : M = maxW ks := by omega
    refine ⟨?_, fun hb k hk => by rw [hM, ha, if_neg (by decide)]; exact (hmx hb k hk).1⟩
    rw [h5, hM, hgg, ha, hs, hS, Shp.pcs]
    simp [pcsA]
  · rw [if_neg (by omega), if_neg (by omega), if_neg (by omega), if_neg (by omega), if_neg (by omega)] at hS
    have ha : acrB u way = decide (way ≤ 2) := by unfold acrB; simp [hk]
    have hs : spcR u = 20 := by unfold spcR; rw [if_pos hk]
    have h5 : (u.kind == 5) = true := by simp [hk]
    rw [h5, if_pos rfl] at hgg
    have hSS : S.size = ((ringI (cwN way) ks).size.1 + 24, (ringI (cwN way) ks).size.2 + 24) := by rw [hS, Shp.size]
    rw [ha] at hM0 ⊢
    obtain ⟨R, hR⟩ : ∃ R, R = decide (way ≤ 2) := ⟨_, rfl⟩
    rw [← hR] at hc hM0 ⊢
    cases R with
    | true =>
      have hr : ringI (cwN way) ks = .row 20 ks := by unfold ringI; rw [hc]; rfl
      rw [if_pos rfl, hSS, hr, Shp.size] at hM0
      dsimp only at hM0
      have hM : M = maxH ks := by omega
      refine ⟨?_, fun hb k hk => by rw [hM, if_pos rfl]; exact (hmx hb k hk).2⟩
      rw [h5, hM, hgg, hs, hSS, hS, Shp.pcs, hr, Shp.pcs]
      simp [pcsA]
    | false =>
      have hr : ringI (cwN way) ks = .col 20 ks := by unfold ringI; rw [hc]; rfl
      rw [if_neg (by decide), hSS, hr, Shp.size] at hM0
      dsimp only at hM0
      have hM : M = maxW ks := by omega
      refine ⟨?_, fun hb k hk => by rw [hM, if_neg (by decide)]; exact (hmx hb k hk).1⟩
      rw [h5, hM, hgg, hs, hSS, hS, Shp.pcs, hr, Shp.pcs]
      simp [pcsA]
theorem pcsA_len (a : Bool) (sp M : Int) (ks : List Shp) (x y : Int) : (pcsA a sp M ks x y).length = cntS ks := by
  unfold pcsA
  cases a
  · exact pcsC_cnt sp M ks x y
  · exact pcsR_cnt sp M ks x y
end Go.Proofs.YtmiokllpdmmfhaaGreat
