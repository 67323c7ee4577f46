/-
  The natural size of a row or a column of kids, one after the other.
-/
import Derived.Test.YtcijomljopbelaaGreatGbD
import Derived.Test.YtcijomljopbelaaGreatRsp
import Derived.Test.YtcijomljopbelaaGreatGbC
namespace Go.Proofs.YtcijomljopbelaaGreat
open Go.RowKit

def spn (sp : Int) (k : Nat) : Int := if k = 0 then 0 else sp * ((k : Int) - 1)
theorem spn_step (sp : Int) (k : Nat) : spn sp (k + 1) = spn sp k + if 0 < k then sp else 0 := by
  unfold spn
  cases k with
  | zero => simp
  | succ k =>
    rw [if_neg (by omega), if_neg (by omega), if_pos (by omega)]
    have e : ((k + 1 + 1 : Nat) : Int) - 1 = (((k + 1 : Nat) : Int) - 1) + 1 := by omega
    rw [e, Int.mul_add, Int.mul_one]
def accW (a : Bool) (sp : Int) (ks : List Shp) : Int := if a then sumW ks + spn sp ks.length else maxW ks
def accH (a : Bool) (sp : Int) (ks : List Shp) : Int := if a then maxH ks else sumH ks + spn sp ks.length
theorem maxW_app2 : ∀ (a : List Shp) (k : Shp), 0 ≤ k.size.1 → maxW (a ++ [k]) = max (maxW a) k.size.1
  | [], k, h => by simp only [List.nil_append, maxW]; omega
  | x :: r, k, h => by rw [List.cons_append, maxW, maxW, maxW_app2 r k h]; omega
theorem accW_step (a : Bool) (sp : Int) (ks : List Shp) (k : Shp) (h : 0 ≤ k.size.1) : accW a sp (ks ++ [k]) = if a then accW a sp ks + k.size.1 + (if 0 < ks.length then sp else 0) else max (accW a sp ks) k.size.1 := by
  unfold accW
  cases a
  · simp only [Bool.false_eq_true, if_false]; exact maxW_app2 ks k h
  · simp only [if_true]
    rw [sumW_app, List.length_append, List.length_singleton, spn_step]; omega
theorem accH_step (a : Bool) (sp : Int) (ks : List Shp) (k : Shp) (h : 0 ≤ k.size.2) : accH a sp (ks ++ [k]) = if a then max (accH a sp ks) k.size.2 else accH a sp ks + k.size.2 + (if 0 < ks.length then sp else 0) := by
  unfold accH
  cases a
  · simp only [Bool.false_eq_true, if_false]
    rw [sumH_app, List.length_append, List.length_singleton, spn_step]; omega
  · simp only [if_true]; exact maxH_app ks k h
theorem acc_bd (a : Bool) (sp : Int) (ks : List Shp) (B : Int) (h : ∀ k ∈ ks, (0 ≤ k.size.1 ∧ k.size.1 ≤ B) ∧ (0 ≤ k.size.2 ∧ k.size.2 ≤ B)) (hB : 0 ≤ B) (hl : ks.length ≤ 6) (hs : 0 ≤ sp ∧ sp ≤ 20) :
    (0 ≤ accW a sp ks ∧ accW a sp ks ≤ 6 * B + 100) ∧ (0 ≤ accH a sp ks ∧ accH a sp ks ≤ 6 * B + 100) := by
  have hsum := sum_le ks B h hB
  have hm : (ks.length : Int) * B ≤ 6 * B := Int.mul_le_mul_of_nonneg_right (by omega) hB
  have hsp : 0 ≤ spn sp ks.length ∧ spn sp ks.length ≤ 100 := by
    unfold spn
    split
    · omega
    · have a := Int.mul_nonneg hs.1 (show 0 ≤ (ks.length : Int) - 1 by omega)
      have b := Int.mul_le_mul hs.2 (show (ks.length : Int) - 1 ≤ 5 by omega) (by omega) (by omega)
      omega
  unfold accW accH
  cases a <;> simp only [Bool.false_eq_true, if_false, if_true] <;> omega
theorem spc_bd (u : Nd) (h : 0 ≤ u.depth ∧ u.depth ≤ 5) : 0 ≤ spcR u ∧ spcR u ≤ 20 := by unfold spcR; split <;> omega
/-- what the loop over the kids comes to -/
theorem shp_acc {l : Li} {way : Int} {zs : List Nd} {i : Nat} {u : Nd} (hu : zs[i]? = some u) (hk : u.kind = 2 ∨ u.kind = 3 ∨ u.kind = 5) (f : Nat) (hl : 1 ≤ (kidsL zs i).length) (inner : Bool) :
    inI inner (shpI l (cwN way) zs (f + 1) i) = ((accW (acrB u way) (spcR u) ((kidsL zs i).map (shpI l (cwN way) zs f))) + (if (u.kind == 5 && !inner) then 24 else 0), (accH (acrB u way) (spcR u) ((kidsL zs i).map (shpI l (cwN way) zs f))) + (if (u.kind == 5 && !inner) then 24 else 0)) := by
  have hg := getN_at hu
  have hkA := kindAt_is hu
  have hdA : depthAt zs i = u.depth := by unfold depthAt; rw [hg]
  obtain ⟨ks, hks⟩ : ∃ ks, ks = (kidsL zs i).map (shpI l (cwN way) zs f) := ⟨_, rfl⟩
  have hlen : 1 ≤ ks.length := by rw [hks, List.length_map]; exact hl
  have hsp : ∀ sp : Int, spn sp ks.length = sp * ((ks.length : Int) - 1) := fun sp => by unfold spn; rw [if_neg (by omega)]
  have hc : cwN way = !decide (way ≤ 2) := by unfold cwN; by_cases h : way ≤ 2 <;> simp [h] <;> omega
  rw [shpI, hkA, hg, hdA, ← hks]
  rcases hk with hk | hk | hk
  · rw [if_neg (by omega), if_neg (by omega), if_neg (by omega), if_pos hk]
    have ha : acrB u way = true := by unfold acrB; simp [hk]
    have hs : spcR u = 4 * (5 - u.depth) := by unfold spcR; rw [if_neg (by omega)]
    have h5 : (u.kind == 5 && !inner) = false := by simp [hk]
    rw [ha, hs, h5]
    have e : ∀ b, inI b (.row (4 * (5 - u.depth)) ks) = (Shp.row (4 * (5 - u.depth)) ks).size := fun b => by cases b <;> rfl
    rw [e, Shp.size]
    unfold accW accH
    simp only [if_true, Bool.false_eq_true, if_false, hsp, Int.add_zero]
    rw [Int.add_comm]
  · rw [if_neg (by omega), if_neg (by omega), if_neg (by omega), if_neg (by omega), if_pos hk]
    have ha : acrB u way = false := by unfold acrB; simp [hk]
    have hs : spcR u = 4 * (5 - u.depth) := by unfold spcR; rw [if_neg (by omega)]
    have h5 : (u.kind == 5 && !inner) = false := by simp [hk]
    rw [ha, hs, h5]
    have e : ∀ b, inI b (.col (4 * (5 - u.depth)) ks) = (Shp.col (4 * (5 - u.depth)) ks).size := fun b => by cases b <;> rfl
    rw [e, Shp.size]
    unfold accW accH
    simp only [Bool.false_eq_true, if_false, hsp, Int.add_zero]
    rw [Int.add_comm]
  · rw [if_neg (by omega), if_neg (by omega), if_neg (by omega), if_neg (by omega), if_neg (by omega)]
    have ha : acrB u way = decide (way ≤ 2) := by unfold acrB; simp [hk]
    have hs : spcR u = 20 := by unfold spcR; rw [if_pos hk]
    have e : inI inner (.rng u (ringI (cwN way) ks)) = ((ringI (cwN way) ks).size.1 + (if (u.kind == 5 && !inner) then 24 else 0), (ringI (cwN way) ks).size.2 + (if (u.kind == 5 && !inner) then 24 else 0)) := by
      have h5 : (u.kind == 5) = true := by simp [hk]
      rw [h5]
      cases inner
      · rfl
      · show (ringI (cwN way) ks).size = _
        simp
    have e2 : (ringI (cwN way) ks).size = (accW (acrB u way) (spcR u) ks, accH (acrB u way) (spcR u) ks) := by
      rw [hc, ha, hs]
      unfold ringI accW accH
      cases decide (way ≤ 2)
      · simp only [Bool.not_false, if_true, Bool.false_eq_true, if_false]
        rw [Shp.size, hsp]
        simp only [Int.add_comm]
      · simp only [Bool.not_true, if_true, Bool.false_eq_true, if_false]
        rw [Shp.size, hsp]
        simp only [Int.add_comm]
    rw [e, e2]
theorem low_kids {l : Li} {zs : List Nd} (h : Pln l zs) {i : Nat} {u : Nd} (hu : zs[i]? = some u) (h1 : u.kind ≠ 1) (h6 : u.kind ≠ 6) : 1 ≤ (kidsL zs i).length := by
  have := fits_low h.fits (List.getElem?_eq_some_iff.1 hu).1
  rw [kindAt_is hu] at this
  unfold kidsR leafB at this
  split at this
  · rename_i hh; simp at hh; omega
  · split at this
    · dsimp only at this; omega
    · split at this <;> (dsimp only at this; omega)

end Go.Proofs.YtcijomljopbelaaGreat
