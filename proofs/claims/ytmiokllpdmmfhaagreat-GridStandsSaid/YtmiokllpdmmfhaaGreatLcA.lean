/-
  Rows, the space between kids and how they stand (rows, space, across), by the specification. And what builds on it.
-/
import Derived.Test.YtmiokllpdmmfhaaGreatLbC
import Derived.Test.YtmiokllpdmmfhaaGreatLbD
import Derived.Test.YtmiokllpdmmfhaaGreatLaC
import Derived.Test.YtmiokllpdmmfhaaGreatLaA
namespace Go.Proofs.YtmiokllpdmmfhaaGreat
open Go.RowKit
set_option maxRecDepth 100000 in
set_option maxHeartbeats 4000000 in
theorem rrows_any (way len : Int) (w : World) : Calls Tryz.prog 104 #[.agg #[.int .i64 way, .int .i64 len]] w fun e w' => e = .returned (.bool (decide (way ≤ 2))) ∧ Below w.heap.size w w' := by
  go_enter Tryz.func104, Tryz.ntmps104
  go_wp2
  go_ret
  exact ⟨rfl, below_alloc _ _⟩
def spcR (u : Nd) : Int := if u.kind = 5 then 20 else 4 * (5 - u.depth)
set_option maxRecDepth 100000 in
set_option maxHeartbeats 4000000 in
theorem rspace_any (u : Nd) (w : World) (h : 0 ≤ u.depth ∧ u.depth ≤ 5) : Calls Tryz.prog 96 #[u.val] w fun e w' => e = .returned (.int .i64 (spcR u)) ∧ Below w.heap.size w w' := by
  obtain ⟨k, d, s, t, m, st, mn, mx⟩ := u
  dsimp only at h
  obtain ⟨h1, h2⟩ := h
  unfold Nd.val spcR
  dsimp only
  by_cases hk : k = 5
  · subst hk
    rw [if_pos rfl]
    go_enter Tryz.func96, Tryz.ntmps96
    go_wp2
    go_ret
    exact ⟨rfl, below_alloc _ _⟩
  · rw [if_neg hk]
    have hb : (k == 5) = false := by simpa using hk
    clear hk
    go_enter Tryz.func96, Tryz.ntmps96
    go_wp2_with fail
    go_ret
    exact ⟨rfl, below_alloc _ _⟩
def acrB (u : Nd) (way : Int) : Bool := (u.kind == 2) || ((u.kind == 5) && decide (way ≤ 2))
set_option maxRecDepth 100000 in
set_option maxHeartbeats 4000000 in
theorem racross_any (u : Nd) (way len : Int) (w : World) : Calls Tryz.prog 97 #[u.val, .agg #[.int .i64 way, .int .i64 len]] w fun e w' => e = .returned (.bool (acrB u way)) ∧ Below w.heap.size w w' := by
  have HR := Lib.hid (fun wx => rrows_any way len wx)
  obtain ⟨k, d, s, t, m, st, mn, mx⟩ := u
  unfold Nd.val acrB
  dsimp only
  obtain ⟨R, hR⟩ : ∃ R, R = decide (way ≤ 2) := ⟨_, rfl⟩
  rw [← hR] at HR ⊢
  clear hR
  obtain ⟨W1, hW1⟩ : ∃ W', W' = w.alloc (.cells #[.int .i64 k, .int .i64 d, .int .i64 s, .int .i64 t, .bool m, .int .i64 st, .int .i64 mn, .int .i64 mx] 87) := ⟨_, rfl⟩; obtain ⟨W, hW⟩ : ∃ W', W' = W1.alloc (.cells #[.int .i64 way, .int .i64 len] 31) := ⟨_, rfl⟩; have szW1 : W1.heap.size = w.heap.size + 1 := (by rw [hW1]; simp); have kbW1 : Below w.heap.size w W1 := hW1 ▸ below_alloc _ _; have szW : W.heap.size = w.heap.size + 1 + 1 := (by rw [hW]; simp [szW1]); have kbW : Below W1.heap.size W1 W := hW ▸ below_alloc _ _; have HB := Lib.hid (below_more kbW1 kbW); have D0 := Lib.hid (blk_keep kbW (show W1.heap[w.heap.size]? = some (.cells #[.int .i64 k, .int .i64 d, .int .i64 s, .int .i64 t, .bool m, .int .i64 st, .int .i64 mn, .int .i64 mx] 87 (0, 0)) by rw [hW1]; exact heap_alloc_new _ _)); have D1 := Lib.hid (show W.heap[w.heap.size + 1]? = some (.cells #[.int .i64 way, .int .i64 len] 31 (0, 0)) by rw [hW, ← szW1]; exact heap_alloc_new _ _); have SZW := Lib.hid szW; clear szW1 kbW1 szW kbW
  obtain ⟨K2, hK2⟩ : ∃ K, (k == 2) = K := ⟨_, rfl⟩
  obtain ⟨K5, hK5⟩ : ∃ K, (k == 5) = K := ⟨_, rfl⟩
  rw [hK2, hK5]
  cases K2
  case true =>
    go_enter Tryz.func97, Tryz.ntmps97
    go_wp2_with fail
    rw [← hW1, ← hW]; clear hW1 hW
    go_wp2_with fail
    go_ret
    exact ⟨rfl, HB.out⟩
  cases K5
  case false =>
    go_enter Tryz.func97, Tryz.ntmps97
    go_wp2_with fail
    rw [← hW1, ← hW]; clear hW1 hW
    go_wp2_with fail
    go_ret
    exact ⟨rfl, HB.out⟩
  have p0 := cell_of_blk D1.out 0; have p1 := cell_of_blk D1.out 1; have hz_p := (Array.getElem?_eq_some_iff.1 D1.out).1; simp at p0 p1
  go_enter Tryz.func97, Tryz.ntmps97
  go_wp2_with fail
  rw [← hW1, ← hW]; clear hW1 hW
  go_wp2_with fail
  refine (HR.out _).mono ?_; rintro e w2 ⟨rfl, hb⟩
  have HB2 := Lib.hid (below_more HB.out hb)
  clear hb
  go_wp2_with fail
  go_ret
  exact ⟨rfl, HB2.out⟩
open Go.RowKit
def spn (sp : Int) (k : Nat) : Int := if k = 0 then 0 else sp * ((k : Int) - 1)
theorem spn_step (sp : Int) (k : Nat) : spn sp (k + 1) = spn sp k + if 0 < k then sp else 0 := by
  unfold spn
  cases k with
  | zero => simp
  | succ k =>
    rw [if_neg (by omega), if_neg (by omega), if_pos (by omega)]
    have e : ((k + 1 + 1 : Nat) : Int) - 1 = (((k + 1 : Nat) : Int) - 1) + 1 := by omega
    rw [e, Int.mul_add, Int.mul_one]
def accW (a : Bool) (sp : Int) (ks : List Shp) : Int := if a then sumW ks + spn sp ks.length else maxW ks
def accH (a : Bool) (sp : Int) (ks : List Shp) : Int := if a then maxH ks else sumH ks + spn sp ks.length
theorem maxW_app2 : ∀ (a : List Shp) (k : Shp), 0 ≤ k.size.1 → maxW (a ++ [k]) = max (maxW a) k.size.1
  | [], k, h => by simp only [List.nil_append, maxW]; omega
  | x :: r, k, h => by rw [List.cons_append, maxW, maxW, maxW_app2 r k h]; omega
theorem accW_step (a : Bool) (sp : Int) (ks : List Shp) (k : Shp) (h : 0 ≤ k.size.1) : accW a sp (ks ++ [k]) = if a then accW a sp ks + k.size.1 + (if 0 < ks.length then sp else 0) else max (accW a sp ks) k.size.1 := by
  unfold accW
  cases a
  · simp only [Bool.false_eq_true, if_false]; exact maxW_app2 ks k h
  · simp only [if_true]
    rw [sumW_app, List.length_append, List.length_singleton, spn_step]; omega
theorem accH_step (a : Bool) (sp : Int) (ks : List Shp) (k : Shp) (h : 0 ≤ k.size.2) : accH a sp (ks ++ [k]) = if a then max (accH a sp ks) k.size.2 else accH a sp ks + k.size.2 + (if 0 < ks.length then sp else 0) := by
  unfold accH
  cases a
  · simp only [Bool.false_eq_true, if_false]
    rw [sumH_app, List.length_append, List.length_singleton, spn_step]; omega
  · simp only [if_true]; exact maxH_app ks k h
theorem acc_bd (a : Bool) (sp : Int) (ks : List Shp) (B : Int) (h : ∀ k ∈ ks, (0 ≤ k.size.1 ∧ k.size.1 ≤ B) ∧ (0 ≤ k.size.2 ∧ k.size.2 ≤ B)) (hB : 0 ≤ B) (hl : ks.length ≤ 6) (hs : 0 ≤ sp ∧ sp ≤ 20) :
    (0 ≤ accW a sp ks ∧ accW a sp ks ≤ 6 * B + 100) ∧ (0 ≤ accH a sp ks ∧ accH a sp ks ≤ 6 * B + 100) := by
  have hsum := sum_le ks B h hB
  have hm : (ks.length : Int) * B ≤ 6 * B := Int.mul_le_mul_of_nonneg_right (by omega) hB
  have hsp : 0 ≤ spn sp ks.length ∧ spn sp ks.length ≤ 100 := by
    unfold spn
    split
    · omega
    · have a := Int.mul_nonneg hs.1 (show 0 ≤ (ks.length : Int) - 1 by omega)
      have b := Int.mul_le_mul hs.2 (show (ks.length : Int) - 1 ≤ 5 by omega) (by omega) (by omega)
      omega
  unfold accW accH
  cases a <;> simp only [Bool.false_eq_true, if_false, if_true] <;> omega
theorem spc_bd (u : Nd) (h : 0 ≤ u.depth ∧ u.depth ≤ 5) : 0 ≤ spcR u ∧ spcR u ≤ 20 := by unfold spcR; split <;> omega
theorem shp_acc {l : Li} {way : Int} {zs : List Nd} {i : Nat} {u : Nd} (hu : zs[i]? = some u) (hk : u.kind = 2 ∨ u.kind = 3 ∨ u.kind = 5) (f : Nat) (hl : 1 ≤ (kidsL zs i).length) (inner : Bool) :
    inI inner (shpI l (cwN way) zs (f + 1) i) = ((accW (acrB u way) (spcR u) ((kidsL zs i).map (shpI l (cwN way) zs f))) + (if (u.kind == 5 && !inner) then 24 else 0), (accH (acrB u way) (spcR u) ((kidsL zs i).map (shpI l (cwN way) zs f))) + (if (u.kind == 5 && !inner) then 24 else 0)) := by
  have hg := getN_at hu
  have hkA := kindAt_is hu
  have hdA : depthAt zs i = u.depth := by unfold depthAt; rw [hg]
  obtain ⟨ks, hks⟩ : ∃ ks, ks = (kidsL zs i).map (shpI l (cwN way) zs f) := ⟨_, rfl⟩
  have hlen : 1 ≤ ks.length := by rw [hks, List.length_map]; exact hl
  have hsp : ∀ sp : Int, spn sp ks.length = sp * ((ks.length : Int) - 1) := fun sp => by unfold spn; rw [if_neg (by omega)]
  have hc : cwN way = !decide (way ≤ 2) := by unfold cwN; by_cases h : way ≤ 2 <;> simp [h] <;> omega
  rw [shpI, hkA, hg, hdA, ← hks]
  rcases hk with hk | hk | hk
  · rw [if_neg (by omega), if_neg (by omega), if_neg (by omega), if_pos hk]
    have ha : acrB u way = true := by unfold acrB; simp [hk]
    have hs : spcR u = 4 * (5 - u.depth) := by unfold spcR; rw [if_neg (by omega)]
    have h5 : (u.kind == 5 && !inner) = false := by simp [hk]
    rw [ha, hs, h5]
    have e : ∀ b, inI b (.row (4 * (5 - u.depth)) ks) = (Shp.row (4 * (5 - u.depth)) ks).size := fun b => by cases b <;> rfl
    rw [e, Shp.size]
    unfold accW accH
    simp only [if_true, Bool.false_eq_true, if_false, hsp, Int.add_zero]
    rw [Int.add_comm]
  · rw [if_neg (by omega), if_neg (by omega), if_neg (by omega), if_neg (by omega), if_pos hk]
    have ha : acrB u way = false := by unfold acrB; simp [hk]
    have hs : spcR u = 4 * (5 - u.depth) := by unfold spcR; rw [if_neg (by omega)]
    have h5 : (u.kind == 5 && !inner) = false := by simp [hk]
    rw [ha, hs, h5]
    have e : ∀ b, inI b (.col (4 * (5 - u.depth)) ks) = (Shp.col (4 * (5 - u.depth)) ks).size := fun b => by cases b <;> rfl
    rw [e, Shp.size]
    unfold accW accH
    simp only [Bool.false_eq_true, if_false, hsp, Int.add_zero]
    rw [Int.add_comm]
  · rw [if_neg (by omega), if_neg (by omega), if_neg (by omega), if_neg (by omega), if_neg (by omega)]
    have ha : acrB u way = decide (way ≤ 2) := by unfold acrB; simp [hk]
    have hs : spcR u = 20 := by unfold spcR; rw [if_pos hk]
    have e : inI inner (.rng u (ringI (cwN way) ks)) = ((ringI (cwN way) ks).size.1 + (if (u.kind == 5 && !inner) then 24 else 0), (ringI (cwN way) ks).size.2 + (if (u.kind == 5 && !inner) then 24 else 0)) := by
      have h5 : (u.kind == 5) = true := by simp [hk]
      rw [h5]
      cases inner
      · rfl
      · show (ringI (cwN way) ks).size = _
        simp
    have e2 : (ringI (cwN way) ks).size = (accW (acrB u way) (spcR u) ks, accH (acrB u way) (spcR u) ks) := by
      rw [hc, ha, hs]
      unfold ringI accW accH
      cases decide (way ≤ 2)
      · simp only [Bool.not_false, if_true, Bool.false_eq_true, if_false]
        rw [Shp.size, hsp]
        simp only [Int.add_comm]
      · simp only [Bool.not_true, if_true, Bool.false_eq_true, if_false]
        rw [Shp.size, hsp]
        simp only [Int.add_comm]
    rw [e, e2]
theorem low_kids {l : Li} {zs : List Nd} (h : Pln l zs) {i : Nat} {u : Nd} (hu : zs[i]? = some u) (h1 : u.kind ≠ 1) (h6 : u.kind ≠ 6) : 1 ≤ (kidsL zs i).length := by
  have := fits_low h.fits (List.getElem?_eq_some_iff.1 hu).1
  rw [kindAt_is hu] at this
  unfold kidsR leafB at this
  split at this
  · rename_i hh; simp at hh; omega
  · split at this
    · dsimp only at this; omega
    · split at this <;> (dsimp only at this; omega)
open Go.RowKit
set_option maxHeartbeats 3200000 in
theorem rsize_any (l : Lm) (i t : Int) (w : World) (hl : LmOk w l) :
    Calls Tryz.prog 95 #[l.val, .int .i64 i, .int .i64 t] w (GotSize w (sizeR l.li i t)) := by
  have H0 := Lib.hid (show LmOk (w.alloc (.cells #[.int .i64 l.per, .slice l.A l.ms.length l.cap] 24)) l from hl.below (below_alloc _ _))
  have C0 := Lib.hid (heap_alloc_new w (.cells #[.int .i64 l.per, .slice l.A l.ms.length l.cap] 24))
  have HCK := Lib.hid (fun (w : World) (hl : LmOk w l) (r : Int) (h : checkErr l.li = r) => show Calls Tryz.prog 73 #[.agg #[.int .i64 l.per, .slice l.A l.ms.length l.cap]] w (fun e w' => e = .returned (.int .i64 r) ∧ Below w.heap.size w w') by rw [← h]; exact rcheck_any l w hl)
  have hll : l.li.signs.length = l.ms.length := l.length_signs
  have HG := Lib.hid (show ∀ i t, sizeR l.li i t = if checkErr l.li ≠ 0 then (0, 0, checkErr l.li) else if hasB l.ms.length i = false ∨ t < 0 ∨ 3 < t then (0, 0, 1) else if t = 1 ∨ t = 3 then ((whOf l.li i).2, (whOf l.li i).1, 0) else ((whOf l.li i).1, (whOf l.li i).2, 0) from fun i t => by
    unfold sizeR; rw [hll])
  have hlen := hl.len
  have hcap := hl.cap
  have hcap' := hcap
  unfold maxLen at hcap'
  clear hll
  show Calls _ _ #[.agg #[.int .i64 l.per, .slice l.A l.ms.length l.cap], .int .i64 i, .int .i64 t] w _
  obtain ⟨E, hE⟩ : ∃ E, E = checkErr l.li := ⟨_, rfl⟩
  have HE := Lib.hid hE.symm
  by_cases h0 : E = 0
  case neg =>
    have hb : (E != 0) = true := by simpa using h0
    have HF := Lib.hid (show sizeR l.li i t = (0, 0, E) by rw [HG.out, HE.out, if_pos h0])
    clear hE h0
    go_enter Tryz.func95, Tryz.ntmps95
    go_wp2_with fail
    refine (HCK.out _ H0.out E HE.out).mono ?_; rintro e w1 ⟨rfl, hb1⟩
    go_wp2
    refine bodyPost_ret (v := .tuple #[.int .i64 0, .int .i64 0, .int .i64 E]) (by simp [results, Tryz.results95, go_sem]) rfl ?_
    rw [HF.out]
    exact ⟨rfl, below_of hb1⟩
  subst h0
  clear hE
  have HG1 := Lib.hid (show ∀ i t, sizeR l.li i t = if hasB l.ms.length i = false ∨ t < 0 ∨ 3 < t then (0, 0, 1) else if t = 1 ∨ t = 3 then ((whOf l.li i).2, (whOf l.li i).1, 0) else ((whOf l.li i).1, (whOf l.li i).2, 0) from fun i t => by rw [HG.out, HE.out]; rfl)
  have bad : ∀ (hi : i < 0 ∨ (0 ≤ i ∧ (l.ms.length : Int) ≤ i) ∨ (0 ≤ i ∧ i < l.ms.length ∧ t < 0) ∨ (0 ≤ i ∧ i < l.ms.length ∧ 0 ≤ t ∧ 3 < t)), Calls Tryz.prog 95 #[.agg #[.int .i64 l.per, .slice l.A l.ms.length l.cap], .int .i64 i, .int .i64 t] w (GotSize w (sizeR l.li i t)) := by
    intro hi
    have HF := Lib.hid (show sizeR l.li i t = (0, 0, 1) by
      rw [HG1.out, if_pos]
      rcases hi with h | ⟨h, h2⟩ | ⟨h, h2, h3⟩ | ⟨h, h2, h3, h4⟩
      · exact .inl (by simp [hasB]; omega)
      · exact .inl (by simp [hasB]; omega)
      · exact .inr (.inl h3)
      · exact .inr (.inr h4))
    rcases hi with h | ⟨h, h2⟩ | ⟨h, h2, h3⟩ | ⟨h, h2, h3, h4⟩
    · go_enter Tryz.func95, Tryz.ntmps95
      go_wp2_with fail
      refine (HCK.out _ H0.out 0 HE.out).mono ?_; rintro e w1 ⟨rfl, hb1⟩
      have x0 := cell_of_blk (blk_keep hb1 C0.out) 0
      have x1 := cell_of_blk (blk_keep hb1 C0.out) 1
      simp at x0 x1
      go_wp2
      refine bodyPost_ret (v := .tuple #[.int .i64 0, .int .i64 0, .int .i64 1]) (by simp [results, Tryz.results95, go_sem]) rfl ?_
      rw [HF.out]
      exact ⟨rfl, below_of hb1⟩
    · go_enter Tryz.func95, Tryz.ntmps95
      go_wp2_with fail
      refine (HCK.out _ H0.out 0 HE.out).mono ?_; rintro e w1 ⟨rfl, hb1⟩
      have x0 := cell_of_blk (blk_keep hb1 C0.out) 0
      have x1 := cell_of_blk (blk_keep hb1 C0.out) 1
      simp at x0 x1
      go_wp2
      refine bodyPost_ret (v := .tuple #[.int .i64 0, .int .i64 0, .int .i64 1]) (by simp [results, Tryz.results95, go_sem]) rfl ?_
      rw [HF.out]
      exact ⟨rfl, below_of hb1⟩
    · go_enter Tryz.func95, Tryz.ntmps95
      go_wp2_with fail
      refine (HCK.out _ H0.out 0 HE.out).mono ?_; rintro e w1 ⟨rfl, hb1⟩
      have x0 := cell_of_blk (blk_keep hb1 C0.out) 0
      have x1 := cell_of_blk (blk_keep hb1 C0.out) 1
      simp at x0 x1
      go_wp2
      refine bodyPost_ret (v := .tuple #[.int .i64 0, .int .i64 0, .int .i64 1]) (by simp [results, Tryz.results95, go_sem]) rfl ?_
      rw [HF.out]
      exact ⟨rfl, below_of hb1⟩
    · go_enter Tryz.func95, Tryz.ntmps95
      go_wp2_with fail
      refine (HCK.out _ H0.out 0 HE.out).mono ?_; rintro e w1 ⟨rfl, hb1⟩
      have x0 := cell_of_blk (blk_keep hb1 C0.out) 0
      have x1 := cell_of_blk (blk_keep hb1 C0.out) 1
      simp at x0 x1
      go_wp2
      refine bodyPost_ret (v := .tuple #[.int .i64 0, .int .i64 0, .int .i64 1]) (by simp [results, Tryz.results95, go_sem]) rfl ?_
      rw [HF.out]
      exact ⟨rfl, below_of hb1⟩
  by_cases hi0 : i < 0
  · exact bad (.inl hi0)
  by_cases hi1 : (l.ms.length : Int) ≤ i
  · exact bad (.inr (.inl ⟨by omega, hi1⟩))
  by_cases ht0 : t < 0
  · exact bad (.inr (.inr (.inl ⟨by omega, by omega, ht0⟩)))
  by_cases ht3 : 3 < t
  · exact bad (.inr (.inr (.inr ⟨by omega, by omega, by omega, ht3⟩)))
  clear bad
  have ht : t = 0 ∨ t = 1 ∨ t = 2 ∨ t = 3 := by omega
  have hB : hasB l.ms.length i = true := by simp [hasB]; omega
  have HBB := Lib.hid hB
  obtain ⟨k, u, rfl, hk, hget⟩ := has_at (l := l) (i := i) (by rw [Lm.length_signs]; exact hB)
  have HW := Lib.hid (show whOf l.li k = (u.s.wide, u.s.high) by
    unfold whOf
    rw [show l.li.signs[(k : Int).toNat]? = some u.s by rw [Int.toNat_natCast]; exact Lm.getElem_signs hget])
  obtain ⟨b, o, hA, hb0, hva, hok⟩ := hl.signs k u hget
  have HVA := Lib.hid hva
  clear hget hva hok hl hB hi0 hi1 ht0 ht3 HG
  obtain ⟨per, ms, A, cap⟩ := l
  dsimp only at hA hk hlen hcap H0 C0 HE HBB HG1 HW HCK hcap' ⊢
  subst hA
  generalize hnn : ms.length = n at *
  clear hnn
  have HG2 := Lib.hid (show ∀ t, ¬ (t < 0 ∨ 3 < t) → sizeR (Lm.mk per ms (some ⟨b, o, none⟩) cap).li k t = if t = 1 ∨ t = 3 then (u.s.high, u.s.wide, 0) else (u.s.wide, u.s.high, 0) from fun t ht => by
    rw [HG1.out, if_neg (by rw [HBB.out]; simpa using ht), HW.out])
  clear HG1
  rcases ht with rfl | rfl | rfl | rfl
  · have HF := Lib.hid (show sizeR (Lm.mk per ms (some ⟨b, o, none⟩) cap).li k 0 = (u.s.wide, u.s.high, 0) by rw [HG2.out _ (by decide)]; simp)
    go_enter Tryz.func95, Tryz.ntmps95
    go_wp2_with fail
    refine (HCK.out _ H0.out 0 HE.out).mono ?_; rintro e w2 ⟨rfl, hb2⟩
    have z0 := cell_of_blk (blk_keep hb2 C0.out) 0
    have z1 := cell_of_blk (blk_keep hb2 C0.out) 1
    simp at z0 z1
    have b2 := Lib.hid (below_of hb2)
    obtain ⟨y0, y1, y2, y3, y4⟩ := HVA.out.below b2.out hb0
    have hb0' : b < w2.heap.size := by have := b2.out.size; omega
    have hw0' : w.heap.size < w2.heap.size := by have := hb2.size; simp at this; omega
    clear hb2
    go_wp2_with fail
    refine wp_region_later (by kernel_rfl) (by kernel_rfl) ?_; (repeat (first | go_big_quiet_step (fail) | quiet_step (fail))); refine wpQuiet_nil ?_; rintro _ ⟨s, rfl⟩
    go_wp2
    refine bodyPost_ret (v := .tuple #[.int .i64 u.s.wide, .int .i64 u.s.high, .int .i64 0]) (by simp [results, Tryz.results95, go_sem]) rfl ?_
    rw [HF.out]
    exact ⟨rfl, below_more b2.out s.below⟩
  · have HF := Lib.hid (show sizeR (Lm.mk per ms (some ⟨b, o, none⟩) cap).li k 1 = (u.s.high, u.s.wide, 0) by rw [HG2.out _ (by decide)]; simp)
    go_enter Tryz.func95, Tryz.ntmps95
    go_wp2_with fail
    refine (HCK.out _ H0.out 0 HE.out).mono ?_; rintro e w2 ⟨rfl, hb2⟩
    have z0 := cell_of_blk (blk_keep hb2 C0.out) 0
    have z1 := cell_of_blk (blk_keep hb2 C0.out) 1
    simp at z0 z1
    have b2 := Lib.hid (below_of hb2)
    obtain ⟨y0, y1, y2, y3, y4⟩ := HVA.out.below b2.out hb0
    have hb0' : b < w2.heap.size := by have := b2.out.size; omega
    have hw0' : w.heap.size < w2.heap.size := by have := hb2.size; simp at this; omega
    clear hb2
    go_wp2_with fail
    refine wp_region_later (by kernel_rfl) (by kernel_rfl) ?_; (repeat (first | go_big_quiet_step (fail) | quiet_step (fail))); refine wpQuiet_nil ?_; rintro _ ⟨s, rfl⟩
    go_wp2
    refine bodyPost_ret (v := .tuple #[.int .i64 u.s.high, .int .i64 u.s.wide, .int .i64 0]) (by simp [results, Tryz.results95, go_sem]) rfl ?_
    rw [HF.out]
    exact ⟨rfl, below_more b2.out s.below⟩
  · have HF := Lib.hid (show sizeR (Lm.mk per ms (some ⟨b, o, none⟩) cap).li k 2 = (u.s.wide, u.s.high, 0) by rw [HG2.out _ (by decide)]; simp)
    go_enter Tryz.func95, Tryz.ntmps95
    go_wp2_with fail
    refine (HCK.out _ H0.out 0 HE.out).mono ?_; rintro e w2 ⟨rfl, hb2⟩
    have z0 := cell_of_blk (blk_keep hb2 C0.out) 0
    have z1 := cell_of_blk (blk_keep hb2 C0.out) 1
    simp at z0 z1
    have b2 := Lib.hid (below_of hb2)
    obtain ⟨y0, y1, y2, y3, y4⟩ := HVA.out.below b2.out hb0
    have hb0' : b < w2.heap.size := by have := b2.out.size; omega
    have hw0' : w.heap.size < w2.heap.size := by have := hb2.size; simp at this; omega
    clear hb2
    go_wp2_with fail
    refine wp_region_later (by kernel_rfl) (by kernel_rfl) ?_; (repeat (first | go_big_quiet_step (fail) | quiet_step (fail))); refine wpQuiet_nil ?_; rintro _ ⟨s, rfl⟩
    go_wp2
    refine bodyPost_ret (v := .tuple #[.int .i64 u.s.wide, .int .i64 u.s.high, .int .i64 0]) (by simp [results, Tryz.results95, go_sem]) rfl ?_
    rw [HF.out]
    exact ⟨rfl, below_more b2.out s.below⟩
  · have HF := Lib.hid (show sizeR (Lm.mk per ms (some ⟨b, o, none⟩) cap).li k 3 = (u.s.high, u.s.wide, 0) by rw [HG2.out _ (by decide)]; simp)
    go_enter Tryz.func95, Tryz.ntmps95
    go_wp2_with fail
    refine (HCK.out _ H0.out 0 HE.out).mono ?_; rintro e w2 ⟨rfl, hb2⟩
    have z0 := cell_of_blk (blk_keep hb2 C0.out) 0
    have z1 := cell_of_blk (blk_keep hb2 C0.out) 1
    simp at z0 z1
    have b2 := Lib.hid (below_of hb2)
    obtain ⟨y0, y1, y2, y3, y4⟩ := HVA.out.below b2.out hb0
    have hb0' : b < w2.heap.size := by have := b2.out.size; omega
    have hw0' : w.heap.size < w2.heap.size := by have := hb2.size; simp at this; omega
    clear hb2
    go_wp2_with fail
    refine wp_region_later (by kernel_rfl) (by kernel_rfl) ?_; (repeat (first | go_big_quiet_step (fail) | quiet_step (fail))); refine wpQuiet_nil ?_; rintro _ ⟨s, rfl⟩
    go_wp2
    refine bodyPost_ret (v := .tuple #[.int .i64 u.s.high, .int .i64 u.s.wide, .int .i64 0]) (by simp [results, Tryz.results95, go_sem]) rfl ?_
    rw [HF.out]
    exact ⟨rfl, below_more b2.out s.below⟩
end Go.Proofs.YtmiokllpdmmfhaaGreat
