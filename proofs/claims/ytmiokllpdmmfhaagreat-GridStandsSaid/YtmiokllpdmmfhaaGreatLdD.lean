/-
  What the law of GridStands sees of a layout. And what builds on it.
-/
import Derived.Test.YtmiokllpdmmfhaaGreatLdG
import Derived.Test.YtmiokllpdmmfhaaGreatLdB
import Derived.Test.YtmiokllpdmmfhaaGreatLdC
import Derived.Test.YtmiokllpdmmfhaaGreatLcF
import Derived.Test.YtmiokllpdmmfhaaGreatLbC
import Derived.Deep.RegionHeld3
import Derived.Deep.DeepCutAuto
namespace Go.Proofs.YtmiokllpdmmfhaaGreat
open Go.RowKit
theorem okBx_at (l : List Bx) : ∀ (o : List Bool), okBx l o → ∀ (i k : Nat) (a b : Bx), i < k → l[i]? = some a → l[k]? = some b → crossP a b = true → conP a b = true ∧ (a.kind = 5 ∨ (k = i + 1 ∧ o[i]? = some true)) := by
  induction l with
  | nil => intro o h i k a b hik ha; simp at ha
  | cons x r ih =>
    intro o h i k a b hik ha hb hc
    cases o with
    | nil => exact h.elim
    | cons ov o =>
      obtain ⟨h1, h2⟩ := h
      cases k with
      | zero => omega
      | succ k =>
        rw [List.getElem?_cons_succ] at hb
        cases i with
        | zero =>
          rw [List.getElem?_cons_zero] at ha
          injection ha with ha
          subst ha
          have h3 := h1 k b hb hc
          refine ⟨h3.1, ?_⟩
          rcases h3.2 with h4 | ⟨h4, h5⟩
          · exact .inl h4
          · exact .inr ⟨by omega, by rw [h5]; rfl⟩
        | succ i =>
          rw [List.getElem?_cons_succ] at ha
          have h3 := ih o h2 i k a b (by omega) ha hb hc
          refine ⟨h3.1, ?_⟩
          rcases h3.2 with h4 | ⟨h4, h5⟩
          · exact .inl h4
          · exact .inr ⟨by omega, by rw [List.getElem?_cons_succ]; exact h5⟩
theorem plB_both {x : Bx} (h : PlB x) : bothB x = true ∧ placedR x = true := by
  have hb : bothB x = true := by
    unfold bothB placedB Bx.en Bx.st Bx.sz
    simp [h.vx, h.vy, h.vw, h.vh, h.pw, h.ph, h.ex, h.ey]
  exact ⟨hb, by rw [← placed_both]; exact hb⟩
theorem crossP_is (x y : Bx) : (crossB false x y && crossB true x y) = crossP x y := rfl
def ovC (kp : Nat) (ns : List Nd) : List Value := (ovN ns false ++ ovF ns false :: List.replicate (kp - (kdsN ns).length) false).map Value.bool
theorem kds_snoc (ns : List Nd) (u : Nd) : kdsN (ns ++ [u]) = kdsN ns ++ (if lrB u.kind then [u.kind] else []) := by
  rw [kdsN_app]
  unfold kdsN
  cases h : lrB u.kind <;> simp [h]
theorem ovC_lr {kp : Nat} {ns : List Nd} {u : Nd} (h : lrB u.kind = true) (hk : (kdsN ns).length < kp) : ovC kp (ns ++ [u]) = ovC kp ns := by
  unfold ovC
  rw [ovN_app, ovF_app, kds_snoc, h, if_pos rfl]
  have e1 : ovN [u] (ovF ns false) = [ovF ns false] := by simp [ovN, h]
  have e2 : ovF [u] (ovF ns false) = false := by simp [ovF, h]
  rw [e1, e2, List.length_append, List.length_singleton]
  obtain ⟨m, hm⟩ : ∃ m, kp - (kdsN ns).length = m + 1 := ⟨kp - (kdsN ns).length - 1, by omega⟩
  have hm2 : kp - ((kdsN ns).length + 1) = m := by omega
  rw [hm, hm2, List.replicate_succ, List.append_assoc]; rfl
theorem ovC_no {kp : Nat} {ns : List Nd} {u : Nd} (h : lrB u.kind = false) (h4 : (u.kind == 4) = false) : ovC kp (ns ++ [u]) = ovC kp ns := by
  unfold ovC
  rw [ovN_app, ovF_app, kds_snoc, h, if_neg (by decide)]
  have e1 : ovN [u] (ovF ns false) = [] := by simp [ovN, h]
  have e2 : ovF [u] (ovF ns false) = ovF ns false := by simp [ovF, h, h4]
  rw [e1, e2, List.append_nil, List.append_nil]
theorem ovC_ov {kp : Nat} {ns : List Nd} {u : Nd} (h : lrB u.kind = false) (h4 : (u.kind == 4) = true) : ovC kp (ns ++ [u]) = (ovC kp ns).set (kdsN ns).length (.bool true) := by
  unfold ovC
  rw [ovN_app, ovF_app, kds_snoc, h, if_neg (by decide)]
  have e1 : ovN [u] (ovF ns false) = [] := by simp [ovN, h]
  have e2 : ovF [u] (ovF ns false) = true := by simp [ovF, h, h4]
  rw [e1, e2, List.append_nil, List.append_nil, ← List.map_set]
  congr 1
  rw [← ovN_len ns false, List.set_append_right _ _ (Nat.le_refl _), Nat.sub_self]
  rfl
theorem ovC_len {kp : Nat} {ns : List Nd} (h : (kdsN ns).length ≤ kp) : (ovC kp ns).length = kp + 1 := by
  unfold ovC
  rw [List.length_map, List.length_append, ovN_len, List.length_cons, List.length_replicate]; omega
theorem ovC_all {kp : Nat} {ns : List Nd} {i : Nat} (h : (ovN ns false)[i]? = some true) : (ovC kp ns)[i]? = some (.bool true) := by
  unfold ovC
  rw [List.getElem?_map, List.getElem?_append_left (List.getElem?_eq_some_iff.1 h).1, h]; rfl
theorem ovC_nil (kp : Nat) : ovC kp [] = (List.replicate (kp + 1) false).map Value.bool := by
  unfold ovC
  show (false :: List.replicate (kp - 0) false).map Value.bool = _
  rw [List.replicate_succ]; rfl
theorem kds_at {bs : List Bx} {zs : List Nd} (h : bs.map (·.kind) = kdsN zs) {j : Nat} {u : Nd} (hu : zs[j]? = some u) (hl : lrB u.kind = true) : ∃ x, bs[(kdsN (zs.take j)).length]? = some x ∧ x.kind = u.kind := by
  obtain ⟨hj, he⟩ := List.getElem?_eq_some_iff.1 hu
  have e : zs = zs.take j ++ ([u] ++ zs.drop (j + 1)) := by
    rw [← he, List.singleton_append, List.getElem_cons_drop, List.take_append_drop]
  have h1 : (bs.map (·.kind))[(kdsN (zs.take j)).length]? = some u.kind := by
    rw [h, e, kdsN_app, kdsN_app]
    have e2 : kdsN [u] = [u.kind] := by unfold kdsN; simp [hl]
    rw [e2, ← e, List.getElem?_append_right (Nat.le_refl _), Nat.sub_self]; rfl
  rw [List.getElem?_map] at h1
  cases hx : bs[(kdsN (zs.take j)).length]? with
  | none => rw [hx] at h1; cases h1
  | some x => rw [hx] at h1; injection h1 with h1; exact ⟨x, rfl, h1⟩
theorem kds_le {bs : List Bx} {zs : List Nd} (h : bs.map (·.kind) = kdsN zs) (j : Nat) : (kdsN (zs.take j)).length ≤ bs.length := by
  have e : (kdsN zs).length = bs.length := by rw [← h, List.length_map]
  have e2 : kdsN zs = kdsN (zs.take j) ++ kdsN (zs.drop j) := by rw [← kdsN_app, List.take_append_drop]
  rw [← e, e2, List.length_append]; omega
open Go.RowKit
theorem i64_wrap {x : Int} (h : i64I x) : IntKind.i64.wrap x = x := IntWalk.i64_in _ (by unfold i64I at h; omega)
set_option maxRecDepth 100000 in
set_option maxHeartbeats 8000000 in
theorem hld_any (X W Y V : Fr) (w : World) (h : HldOk X W Y V) :
    Calls Tryz.prog 92 #[.agg #[.int .i64 X.num, .int .i64 X.den], .agg #[.int .i64 W.num, .int .i64 W.den], .agg #[.int .i64 Y.num, .int .i64 Y.den], .agg #[.int .i64 V.num, .int .i64 V.den]] w fun e w' => e = .returned (.bool (hldB X W Y V)) ∧ Below w.heap.size w w' := by
  obtain ⟨h1, h2, h3, h4, h5, h6, h7, h8, h9, h10, h11, h12⟩ := h
  have e1 := i64_wrap h1
  have e2 := i64_wrap h2
  have e3 := i64_wrap h3
  have e4 := i64_wrap h4
  have e5 := i64_wrap h5
  have e6 := i64_wrap h6
  have e7 := i64_wrap h7
  have e8 := i64_wrap h8
  have e9 := i64_wrap h9
  have e10 := i64_wrap h10
  have e11 := i64_wrap h11
  have e12 := i64_wrap h12
  clear h1 h2 h3 h4 h5 h6 h7 h8 h9 h10 h11 h12
  obtain ⟨R, hR⟩ : ∃ R, R = hldB X W Y V := ⟨_, rfl⟩
  rw [← hR]
  unfold hldB at hR
  obtain ⟨xn, xd⟩ := X
  obtain ⟨wn, wd⟩ := W
  obtain ⟨yn, yd⟩ := Y
  obtain ⟨vn, vd⟩ := V
  dsimp only at e1 e2 e3 e4 e5 e6 e7 e8 e9 e10 e11 e12 hR ⊢
  obtain ⟨a1, g1⟩ : ∃ a, a = yn * xd := ⟨_, rfl⟩
  obtain ⟨a2, g2⟩ : ∃ a, a = xn * yd := ⟨_, rfl⟩
  obtain ⟨a3, g3⟩ : ∃ a, a = yn * vd := ⟨_, rfl⟩
  obtain ⟨a4, g4⟩ : ∃ a, a = vn * yd := ⟨_, rfl⟩
  obtain ⟨a6, g6⟩ : ∃ a, a = xd * wd := ⟨_, rfl⟩
  obtain ⟨a8, g8⟩ : ∃ a, a = xn * wd := ⟨_, rfl⟩
  obtain ⟨a9, g9⟩ : ∃ a, a = wn * xd := ⟨_, rfl⟩
  obtain ⟨a11, g11⟩ : ∃ a, a = yd * vd := ⟨_, rfl⟩
  rw [← g1, ← g2, ← g3, ← g4, ← g6, ← g8, ← g9, ← g11] at hR
  rw [← g3, ← g4, ← g6] at e7
  rw [← g3, ← g4] at e5
  rw [← g8, ← g9, ← g11] at e12
  rw [← g8, ← g9] at e10
  have f1 : IntKind.i64.wrap (yn * xd) = a1 := e1.trans g1.symm
  have f2 : IntKind.i64.wrap (xn * yd) = a2 := e2.trans g2.symm
  have f3 : IntKind.i64.wrap (yn * vd) = a3 := e3.trans g3.symm
  have f4 : IntKind.i64.wrap (vn * yd) = a4 := e4.trans g4.symm
  have f6 : IntKind.i64.wrap (xd * wd) = a6 := e6.trans g6.symm
  have f8 : IntKind.i64.wrap (xn * wd) = a8 := e8.trans g8.symm
  have f9 : IntKind.i64.wrap (wn * xd) = a9 := e9.trans g9.symm
  have f11 : IntKind.i64.wrap (yd * vd) = a11 := e11.trans g11.symm
  clear g1 g2 g3 g4 g6 g8 g9 g11
  obtain ⟨a5, g5⟩ : ∃ a, a = a3 + a4 := ⟨_, rfl⟩
  obtain ⟨a10, g10⟩ : ∃ a, a = a8 + a9 := ⟨_, rfl⟩
  rw [← g5, ← g10] at hR
  rw [← g5] at e7
  rw [← g10] at e12
  have f5 : IntKind.i64.wrap (a3 + a4) = a5 := e5.trans g5.symm
  have f10 : IntKind.i64.wrap (a8 + a9) = a10 := e10.trans g10.symm
  clear g5 g10
  obtain ⟨a7, g7⟩ : ∃ a, a = a5 * a6 := ⟨_, rfl⟩
  obtain ⟨a12, g12⟩ : ∃ a, a = a10 * a11 := ⟨_, rfl⟩
  rw [← g7, ← g12] at hR
  have f7 : IntKind.i64.wrap (a5 * a6) = a7 := e7.trans g7.symm
  have f12 : IntKind.i64.wrap (a10 * a11) = a12 := e12.trans g12.symm
  clear g7 g12
  clear e1 e2 e3 e4 e5 e6 e7 e8 e9 e10 e11 e12
  have HR := Lib.hid hR
  clear hR
  obtain ⟨W1, hW1⟩ : ∃ W', W' = w.alloc (.cells #[.int .i64 xn, .int .i64 xd] 40) := ⟨_, rfl⟩; obtain ⟨W2, hW2⟩ : ∃ W', W' = W1.alloc (.cells #[.int .i64 wn, .int .i64 wd] 40) := ⟨_, rfl⟩; obtain ⟨W3, hW3⟩ : ∃ W', W' = W2.alloc (.cells #[.int .i64 yn, .int .i64 yd] 40) := ⟨_, rfl⟩; obtain ⟨W, hW⟩ : ∃ W', W' = W3.alloc (.cells #[.int .i64 vn, .int .i64 vd] 40) := ⟨_, rfl⟩; have szW1 : W1.heap.size = w.heap.size + 1 := (by rw [hW1]; simp); have kbW1 : Below w.heap.size w W1 := hW1 ▸ below_alloc _ _; have szW2 : W2.heap.size = w.heap.size + 1 + 1 := (by rw [hW2]; simp [szW1]); have kbW2 : Below W1.heap.size W1 W2 := hW2 ▸ below_alloc _ _; have szW3 : W3.heap.size = w.heap.size + 1 + 1 + 1 := (by rw [hW3]; simp [szW2]); have kbW3 : Below W2.heap.size W2 W3 := hW3 ▸ below_alloc _ _; have szW : W.heap.size = w.heap.size + 1 + 1 + 1 + 1 := (by rw [hW]; simp [szW3]); have kbW : Below W3.heap.size W3 W := hW ▸ below_alloc _ _; have HB := Lib.hid (below_more (below_more (below_more kbW1 kbW2) kbW3) kbW); have D0 := Lib.hid (blk_keep kbW (blk_keep kbW3 (blk_keep kbW2 (show W1.heap[w.heap.size]? = some (.cells #[.int .i64 xn, .int .i64 xd] 40 (0, 0)) by rw [hW1]; exact heap_alloc_new _ _)))); have D1 := Lib.hid (blk_keep kbW (blk_keep kbW3 (show W2.heap[w.heap.size + 1]? = some (.cells #[.int .i64 wn, .int .i64 wd] 40 (0, 0)) by rw [hW2, ← szW1]; exact heap_alloc_new _ _))); have D2 := Lib.hid (blk_keep kbW (show W3.heap[w.heap.size + 1 + 1]? = some (.cells #[.int .i64 yn, .int .i64 yd] 40 (0, 0)) by rw [hW3, ← szW2]; exact heap_alloc_new _ _)); have D3 := Lib.hid (show W.heap[w.heap.size + 1 + 1 + 1]? = some (.cells #[.int .i64 vn, .int .i64 vd] 40 (0, 0)) by rw [hW, ← szW3]; exact heap_alloc_new _ _); have SZW := Lib.hid szW; clear szW1 kbW1 szW2 kbW2 szW3 kbW3 szW kbW
  have p0 := cell_of_blk D0.out 0; have p1 := cell_of_blk D0.out 1; have hz_p := (Array.getElem?_eq_some_iff.1 D0.out).1; simp at p0 p1
  have q0 := cell_of_blk D1.out 0; have q1 := cell_of_blk D1.out 1; have hz_q := (Array.getElem?_eq_some_iff.1 D1.out).1; simp at q0 q1
  have r0 := cell_of_blk D2.out 0; have r1 := cell_of_blk D2.out 1; have hz_r := (Array.getElem?_eq_some_iff.1 D2.out).1; simp at r0 r1
  have t0 := cell_of_blk D3.out 0; have t1 := cell_of_blk D3.out 1; have hz_t := (Array.getElem?_eq_some_iff.1 D3.out).1; simp at t0 t1
  go_enter Tryz.func92, Tryz.ntmps92
  go_upto_region 1 with fail
  rw [← hW1, ← hW2, ← hW3, ← hW]; clear hW1 hW2 hW3 hW
  by_cases hlt : a1 < a2
  · have d1 : decide (a1 < a2) = true := decide_eq_true hlt
    go_wp2_with fail
    go_ret
    exact ⟨by rw [HR.out, d1]; rfl, HB.out⟩
  · have d1 : decide (a1 < a2) = false := decide_eq_false hlt
    go_wp2_with fail
    go_ret
    exact ⟨by rw [HR.out, d1]; rfl, HB.out⟩
set_option maxRecDepth 100000 in
set_option maxHeartbeats 8000000 in
theorem contains_any (x y : Bx) (w : World) (h : conOk x y) :
    Calls Tryz.prog 49 #[x.val, y.val] w fun e w' => e = .returned (.bool (conP x y)) ∧ Below w.heap.size w w' := by
  have HH1 := Lib.hid (fun wx => hld_any x.x x.w y.x y.w wx h.1)
  have HH2 := Lib.hid (fun wx => hld_any x.y x.h y.y y.h wx h.2)
  have HR := Lib.hid (show conP x y = (hldB x.x x.w y.x y.w && hldB x.y x.h y.y y.h) from rfl)
  rw [HR.out]
  obtain ⟨B1, hB1⟩ : ∃ B, B = hldB x.x x.w y.x y.w := ⟨_, rfl⟩
  obtain ⟨B2, hB2⟩ : ∃ B, B = hldB x.y x.h y.y y.h := ⟨_, rfl⟩
  rw [← hB1] at HH1 ⊢
  rw [← hB2] at HH2 ⊢
  clear hB1 hB2 HR h
  obtain ⟨k, sg, t, m, st, mn, mx, ⟨x1, x2⟩, ⟨y1, y2⟩, ⟨w1, w2⟩, ⟨h1, h2⟩⟩ := x
  obtain ⟨k', sg', t', m', st', mn', mx', ⟨x1', x2'⟩, ⟨y1', y2'⟩, ⟨w1', w2'⟩, ⟨h1', h2'⟩⟩ := y
  unfold Bx.val
  dsimp only at HH1 HH2 ⊢
  obtain ⟨W1, hW1⟩ : ∃ W', W' = w.alloc (.cells #[.int .i64 k, .int .i64 sg, .int .i64 t, .bool m, .int .i64 st, .int .i64 mn, .int .i64 mx, .int .i64 x1, .int .i64 x2, .int .i64 y1, .int .i64 y2, .int .i64 w1, .int .i64 w2, .int .i64 h1, .int .i64 h2] 82) := ⟨_, rfl⟩; obtain ⟨W, hW⟩ : ∃ W', W' = W1.alloc (.cells #[.int .i64 k', .int .i64 sg', .int .i64 t', .bool m', .int .i64 st', .int .i64 mn', .int .i64 mx', .int .i64 x1', .int .i64 x2', .int .i64 y1', .int .i64 y2', .int .i64 w1', .int .i64 w2', .int .i64 h1', .int .i64 h2'] 82) := ⟨_, rfl⟩; have szW1 : W1.heap.size = w.heap.size + 1 := (by rw [hW1]; simp); have kbW1 : Below w.heap.size w W1 := hW1 ▸ below_alloc _ _; have szW : W.heap.size = w.heap.size + 1 + 1 := (by rw [hW]; simp [szW1]); have kbW : Below W1.heap.size W1 W := hW ▸ below_alloc _ _; have HB := Lib.hid (below_more kbW1 kbW); have D0 := Lib.hid (blk_keep kbW (show W1.heap[w.heap.size]? = some (.cells #[.int .i64 k, .int .i64 sg, .int .i64 t, .bool m, .int .i64 st, .int .i64 mn, .int .i64 mx, .int .i64 x1, .int .i64 x2, .int .i64 y1, .int .i64 y2, .int .i64 w1, .int .i64 w2, .int .i64 h1, .int .i64 h2] 82 (0, 0)) by rw [hW1]; exact heap_alloc_new _ _)); have D1 := Lib.hid (show W.heap[w.heap.size + 1]? = some (.cells #[.int .i64 k', .int .i64 sg', .int .i64 t', .bool m', .int .i64 st', .int .i64 mn', .int .i64 mx', .int .i64 x1', .int .i64 x2', .int .i64 y1', .int .i64 y2', .int .i64 w1', .int .i64 w2', .int .i64 h1', .int .i64 h2'] 82 (0, 0)) by rw [hW, ← szW1]; exact heap_alloc_new _ _); have SZW := Lib.hid szW; clear szW1 kbW1 szW kbW
  have c7 : W.cell? ⟨w.heap.size, 7, none⟩ = some (.int .i64 x1) := cell_of_blk D0.out 7
  have c8 : W.cell? ⟨w.heap.size, 8, none⟩ = some (.int .i64 x2) := cell_of_blk D0.out 8
  have c11 : W.cell? ⟨w.heap.size, 11, none⟩ = some (.int .i64 w1) := cell_of_blk D0.out 11
  have c12 : W.cell? ⟨w.heap.size, 12, none⟩ = some (.int .i64 w2) := cell_of_blk D0.out 12
  have d7 : W.cell? ⟨w.heap.size + 1, 7, none⟩ = some (.int .i64 x1') := cell_of_blk D1.out 7
  have d8 : W.cell? ⟨w.heap.size + 1, 8, none⟩ = some (.int .i64 x2') := cell_of_blk D1.out 8
  have d11 : W.cell? ⟨w.heap.size + 1, 11, none⟩ = some (.int .i64 w1') := cell_of_blk D1.out 11
  have d12 : W.cell? ⟨w.heap.size + 1, 12, none⟩ = some (.int .i64 w2') := cell_of_blk D1.out 12
  have hzc := (Array.getElem?_eq_some_iff.1 D0.out).1
  have hzd := (Array.getElem?_eq_some_iff.1 D1.out).1
  go_enter Tryz.func49, Tryz.ntmps49
  go_upto_region 1 with fail
  rw [← hW1, ← hW]; clear hW1 hW
  go_wp2_with fail
  refine (HH1.out _).mono ?_; rintro e v1 ⟨rfl, hb1⟩
  have HB1 := Lib.hid (below_more HB.out hb1)
  have D0 := Lib.hid (blk_keep hb1 D0.out)
  have D1 := Lib.hid (blk_keep hb1 D1.out)
  clear hb1 c7 c8 c11 c12 d7 d8 d11 d12 hzc hzd
  cases B1 with
  | false =>
    go_wp2_with fail
    go_ret
    exact ⟨rfl, HB1.out⟩
  | true =>
    have c9 : v1.cell? ⟨w.heap.size, 9, none⟩ = some (.int .i64 y1) := cell_of_blk D0.out 9
    have c10 : v1.cell? ⟨w.heap.size, 10, none⟩ = some (.int .i64 y2) := cell_of_blk D0.out 10
    have c13 : v1.cell? ⟨w.heap.size, 13, none⟩ = some (.int .i64 h1) := cell_of_blk D0.out 13
    have c14 : v1.cell? ⟨w.heap.size, 14, none⟩ = some (.int .i64 h2) := cell_of_blk D0.out 14
    have d9 : v1.cell? ⟨w.heap.size + 1, 9, none⟩ = some (.int .i64 y1') := cell_of_blk D1.out 9
    have d10 : v1.cell? ⟨w.heap.size + 1, 10, none⟩ = some (.int .i64 y2') := cell_of_blk D1.out 10
    have d13 : v1.cell? ⟨w.heap.size + 1, 13, none⟩ = some (.int .i64 h1') := cell_of_blk D1.out 13
    have d14 : v1.cell? ⟨w.heap.size + 1, 14, none⟩ = some (.int .i64 h2') := cell_of_blk D1.out 14
    have hzc := (Array.getElem?_eq_some_iff.1 D0.out).1
    have hzd := (Array.getElem?_eq_some_iff.1 D1.out).1
    go_wp2_with fail
    refine (HH2.out _).mono ?_; rintro e v2 ⟨rfl, hb2⟩
    have HB2 := Lib.hid (below_more HB1.out hb2)
    clear hb2 c9 c10 c13 c14 d9 d10 d13 d14 hzc hzd
    go_wp2_with fail
    go_ret
    exact ⟨rfl, HB2.out⟩
open Go.RowKit
set_option maxRecDepth 100000 in
set_option maxHeartbeats 16000000 in
theorem wthn_any (x : Bx) (way len ln : Int) (w : World) (hwb : 1 ≤ way ∧ way ≤ 4) (h : WiB (cwN way) (mwN way) x ln) :
    Calls Tryz.prog 47 #[x.val, .agg #[.int .i64 way, .int .i64 len]] w fun e w' => e = .returned (.bool true) ∧ Below w.heap.size w w' := by
  obtain ⟨k, sg, t, m, st, mn, mx, ⟨x1, x2⟩, ⟨y1, y2⟩, ⟨w1, w2⟩, ⟨h1, h2⟩⟩ := x
  obtain ⟨fn, fd, wn, wd, hwi, hnum⟩ : ∃ fn fd wn wd, WiOk fn fd wn wd ln ∧ ((way ≤ 2 ∧ fn = y1 ∧ fd = y2 ∧ wn = h1 ∧ wd = h2) ∨ (way = 3 ∧ fn = x1 ∧ fd = x2 ∧ wn = w1 ∧ wd = w2) ∨ (way = 4 ∧ (fn = -x1 * w2 - w1 * x2 ∧ i64I (-x1) ∧ i64I (-x1 * w2) ∧ i64I (w1 * x2) ∧ i64I (-x1 * w2 - w1 * x2) ∧ i64I (x2 * w2)) ∧ fd = x2 * w2 ∧ wn = w1 ∧ wd = w2)) := by
    unfold WiB at h
    obtain rfl | rfl | rfl | rfl : way = 1 ∨ way = 2 ∨ way = 3 ∨ way = 4 := by omega
    · exact ⟨_, _, _, _, h, .inl ⟨by omega, rfl, rfl, rfl, rfl⟩⟩
    · exact ⟨_, _, _, _, h, .inl ⟨by omega, rfl, rfl, rfl, rfl⟩⟩
    · exact ⟨_, _, _, _, h, .inr (.inl ⟨rfl, rfl, rfl, rfl, rfl⟩)⟩
    · exact ⟨_, _, _, _, h.1, .inr (.inr ⟨rfl, ⟨rfl, h.2⟩, rfl, rfl, rfl⟩)⟩
  have HN := Lib.hid hnum
  have HW := Lib.hid hwi
  clear h hnum hwi
  unfold Bx.val
  dsimp only
  obtain ⟨W1, hW1⟩ : ∃ W', W' = w.alloc (.cells #[.int .i64 k, .int .i64 sg, .int .i64 t, .bool m, .int .i64 st, .int .i64 mn, .int .i64 mx, .int .i64 x1, .int .i64 x2, .int .i64 y1, .int .i64 y2, .int .i64 w1, .int .i64 w2, .int .i64 h1, .int .i64 h2] 82) := ⟨_, rfl⟩; obtain ⟨W, hW⟩ : ∃ W', W' = W1.alloc (.cells #[.int .i64 way, .int .i64 len] 31) := ⟨_, rfl⟩; have szW1 : W1.heap.size = w.heap.size + 1 := (by rw [hW1]; simp); have kbW1 : Below w.heap.size w W1 := hW1 ▸ below_alloc _ _; have szW : W.heap.size = w.heap.size + 1 + 1 := (by rw [hW]; simp [szW1]); have kbW : Below W1.heap.size W1 W := hW ▸ below_alloc _ _; have HB := Lib.hid (below_more kbW1 kbW); have D0 := Lib.hid (blk_keep kbW (show W1.heap[w.heap.size]? = some (.cells #[.int .i64 k, .int .i64 sg, .int .i64 t, .bool m, .int .i64 st, .int .i64 mn, .int .i64 mx, .int .i64 x1, .int .i64 x2, .int .i64 y1, .int .i64 y2, .int .i64 w1, .int .i64 w2, .int .i64 h1, .int .i64 h2] 82 (0, 0)) by rw [hW1]; exact heap_alloc_new _ _)); have D1 := Lib.hid (show W.heap[w.heap.size + 1]? = some (.cells #[.int .i64 way, .int .i64 len] 31 (0, 0)) by rw [hW, ← szW1]; exact heap_alloc_new _ _); have SZW := Lib.hid szW; clear szW1 kbW1 szW kbW
  have HKS := Lib.hid (fun wx (h : Below W.heap.size W wx) => show (wx.cell? ⟨w.heap.size, 7, none⟩ = some (.int .i64 x1) ∧ wx.cell? ⟨w.heap.size, 8, none⟩ = some (.int .i64 x2) ∧ wx.cell? ⟨w.heap.size, 9, none⟩ = some (.int .i64 y1) ∧ wx.cell? ⟨w.heap.size, 10, none⟩ = some (.int .i64 y2) ∧ wx.cell? ⟨w.heap.size, 11, none⟩ = some (.int .i64 w1) ∧ wx.cell? ⟨w.heap.size, 12, none⟩ = some (.int .i64 w2) ∧ wx.cell? ⟨w.heap.size, 13, none⟩ = some (.int .i64 h1) ∧ wx.cell? ⟨w.heap.size, 14, none⟩ = some (.int .i64 h2)) from
    have d := blk_keep h D0.out
    ⟨cell_of_blk d 7, cell_of_blk d 8, cell_of_blk d 9, cell_of_blk d 10, cell_of_blk d 11, cell_of_blk d 12, cell_of_blk d 13, cell_of_blk d 14⟩)
  have HDR := Lib.hid (show Below W.heap.size W W.drew from (Below.refl _ _).drew)
  go_enter Tryz.func47, Tryz.ntmps47
  go_upto_region 1 with fail
  rw [← hW1, ← hW]; clear hW1 hW
  go_cut [5, 6] (fun p q wx => ∃ x6 x7, p = .pointer (some ⟨x6, 0, none⟩) ∧ q = .pointer (some ⟨x7, 0, none⟩) ∧ Hid (New2 W x6 x7 ⟨y1, y2⟩ ⟨h1, h2⟩ wx))
  case first => as_aux_lemma =>
    go_region_held3 (fun wx => (wx.cell? ⟨w.heap.size, 7, none⟩ = some (.int .i64 x1) ∧ wx.cell? ⟨w.heap.size, 8, none⟩ = some (.int .i64 x2) ∧ wx.cell? ⟨w.heap.size, 9, none⟩ = some (.int .i64 y1) ∧ wx.cell? ⟨w.heap.size, 10, none⟩ = some (.int .i64 y2) ∧ wx.cell? ⟨w.heap.size, 11, none⟩ = some (.int .i64 w1) ∧ wx.cell? ⟨w.heap.size, 12, none⟩ = some (.int .i64 w2) ∧ wx.cell? ⟨w.heap.size, 13, none⟩ = some (.int .i64 h1) ∧ wx.cell? ⟨w.heap.size, 14, none⟩ = some (.int .i64 h2)))
      ((refine HKS.out _ ?_; (repeat (first | with_reducible exact Below.refl _ _ | with_reducible refine Below.drew ?_ | (with_reducible refine Below.alloc ?_ (by first | omega | (simp; omega) | simp) _) | (with_reducible refine Below.setCell ?_ (by first | omega | (simp; omega) | simp) _))))) (fail)
    all_goals (
      go_wp2_with fail
      go_meet
      first
      | exact ⟨_, _, rfl, rfl, Lib.hid (New2.none_ (Below.refl _ _)).drew⟩
      | exact ⟨_, _, rfl, rfl, Lib.hid (New2.rev (Below.refl _ _)).drew⟩
      | fail)
  case rest =>
  obtain ⟨g5, g6, rfl, rfl, h2⟩ := hcut
  obtain ⟨V, hV⟩ : ∃ V, V = wc := ⟨_, rfl⟩
  rw [← hV] at h2 ⊢
  have N2 := Lib.hid h2.out
  clear hV h2 HKS HDR
  have NE := Lib.hid (show g5 ≠ g6 ∧ W.heap.size ≤ g5 ∧ W.heap.size ≤ g6 from ⟨N2.out.ne, N2.out.l1, N2.out.l2⟩)
  have HBV := Lib.hid (below_more HB.out N2.out.bel)
  have E1 := Lib.hid (blk_keep N2.out.bel D1.out)
  have p0 := cell_of_blk E1.out 0; have p1 := cell_of_blk E1.out 1; have hz_p := (Array.getElem?_eq_some_iff.1 E1.out).1; simp at p0 p1
  go_upto_if 14 with fail
  clear p0 p1 hz_p
  go_cut [] (fun wx => Hid (Has g5 fn fd wx) ∧ Hid (Has g6 wn wd wx) ∧ Hid (Below W.heap.size W wx))
  case first =>
    have hnum := HN.out
    rcases hnum with ⟨hw, rfl, rfl, rfl, rfl⟩ | ⟨hw, rfl, rfl, rfl, rfl⟩ | ⟨hw, ⟨he, i1, i2, i3, i4, i5⟩, hfd, rfl, rfl⟩
    · have hd : decide (2 < way) = false := decide_eq_false (by omega)
      go_wp2_with fail
      go_meet
      exact ⟨Lib.hid N2.out.h1, Lib.hid N2.out.h2, Lib.hid N2.out.bel⟩
    · subst hw
      have E0 := Lib.hid (blk_keep N2.out.bel D0.out)
      have c7 : V.cell? ⟨w.heap.size, 7, none⟩ = some (.int .i64 fn) := cell_of_blk E0.out 7
      have c8 : V.cell? ⟨w.heap.size, 8, none⟩ = some (.int .i64 fd) := cell_of_blk E0.out 8
      have hzc := (Array.getElem?_eq_some_iff.1 E0.out).1
      have a0 := ((N2.out.h1)).c0; have a1 := ((N2.out.h1)).c1; have af0 := ((N2.out.h1)).f0; have af1 := ((N2.out.h1)).f1; have az := ((N2.out.h1)).lt
      go_upto_region 4 with fail
      have b5 := Lib.hid (N2.out.h1.set2 fn fd)
      have b6 := Lib.hid (N2.out.h2.other (u := .int .i64 fn) (v := .int .i64 fd) (Ne.symm NE.out.1))
      have bb := Lib.hid (show Below W.heap.size W ((V.setCell ⟨g5, 0, none⟩ (.int .i64 fn)).setCell ⟨g5, 1, none⟩ (.int .i64 fd)) from (N2.out.bel.setCell NE.out.2.1 _).setCell NE.out.2.1 _)
      obtain ⟨V1, hV1⟩ : ∃ v, v = (V.setCell ⟨g5, 0, none⟩ (.int .i64 fn)).setCell ⟨g5, 1, none⟩ (.int .i64 fd) := ⟨_, rfl⟩
      rw [← hV1] at b5 b6 bb ⊢
      clear hV1 c7 c8 hzc a0 a1 af0 af1 az E0
      have E0 := Lib.hid (blk_keep bb.out D0.out)
      have c11 : V1.cell? ⟨w.heap.size, 11, none⟩ = some (.int .i64 wn) := cell_of_blk E0.out 11
      have c12 : V1.cell? ⟨w.heap.size, 12, none⟩ = some (.int .i64 wd) := cell_of_blk E0.out 12
      have hzc := (Array.getElem?_eq_some_iff.1 E0.out).1
      have a0 := ((b6.out)).c0; have a1 := ((b6.out)).c1; have af0 := ((b6.out)).f0; have af1 := ((b6.out)).f1; have az := ((b6.out)).lt
      go_upto_region 5 with fail
      have d6 := Lib.hid (b6.out.set2 wn wd)
      have d5 := Lib.hid (b5.out.other (u := .int .i64 wn) (v := .int .i64 wd) NE.out.1)
      have dd := Lib.hid (show Below W.heap.size W ((V1.setCell ⟨g6, 0, none⟩ (.int .i64 wn)).setCell ⟨g6, 1, none⟩ (.int .i64 wd)) from (bb.out.setCell NE.out.2.2 _).setCell NE.out.2.2 _)
      obtain ⟨V2, hV2⟩ : ∃ v, v = (V1.setCell ⟨g6, 0, none⟩ (.int .i64 wn)).setCell ⟨g6, 1, none⟩ (.int .i64 wd) := ⟨_, rfl⟩
      rw [← hV2] at d5 d6 dd ⊢
      clear hV2 c11 c12 hzc a0 a1 af0 af1 az E0
      have E1 := Lib.hid (blk_keep dd.out D1.out)
      have p0 := cell_of_blk E1.out 0; have p1 := cell_of_blk E1.out 1; have hz_p := (Array.getElem?_eq_some_iff.1 E1.out).1; simp at p0 p1
      go_wp2_with fail
      go_meet
      exact ⟨d5, d6, dd⟩
    · subst hw
      have E0 := Lib.hid (blk_keep N2.out.bel D0.out)
      have c7 : V.cell? ⟨w.heap.size, 7, none⟩ = some (.int .i64 x1) := cell_of_blk E0.out 7
      have c8 : V.cell? ⟨w.heap.size, 8, none⟩ = some (.int .i64 x2) := cell_of_blk E0.out 8
      have hzc := (Array.getElem?_eq_some_iff.1 E0.out).1
      have a0 := ((N2.out.h1)).c0; have a1 := ((N2.out.h1)).c1; have af0 := ((N2.out.h1)).f0; have af1 := ((N2.out.h1)).f1; have az := ((N2.out.h1)).lt
      go_upto_region 4 with fail
      have b5 := Lib.hid (N2.out.h1.set2 x1 x2)
      have b6 := Lib.hid (N2.out.h2.other (u := .int .i64 x1) (v := .int .i64 x2) (Ne.symm NE.out.1))
      have bb := Lib.hid (show Below W.heap.size W ((V.setCell ⟨g5, 0, none⟩ (.int .i64 x1)).setCell ⟨g5, 1, none⟩ (.int .i64 x2)) from (N2.out.bel.setCell NE.out.2.1 _).setCell NE.out.2.1 _)
      obtain ⟨V1, hV1⟩ : ∃ v, v = (V.setCell ⟨g5, 0, none⟩ (.int .i64 x1)).setCell ⟨g5, 1, none⟩ (.int .i64 x2) := ⟨_, rfl⟩
      rw [← hV1] at b5 b6 bb ⊢
      clear hV1 c7 c8 hzc a0 a1 af0 af1 az E0
      have E0 := Lib.hid (blk_keep bb.out D0.out)
      have c11 : V1.cell? ⟨w.heap.size, 11, none⟩ = some (.int .i64 wn) := cell_of_blk E0.out 11
      have c12 : V1.cell? ⟨w.heap.size, 12, none⟩ = some (.int .i64 wd) := cell_of_blk E0.out 12
      have hzc := (Array.getElem?_eq_some_iff.1 E0.out).1
      have a0 := ((b6.out)).c0; have a1 := ((b6.out)).c1; have af0 := ((b6.out)).f0; have af1 := ((b6.out)).f1; have az := ((b6.out)).lt
      go_upto_region 5 with fail
      have d6 := Lib.hid (b6.out.set2 wn wd)
      have d5 := Lib.hid (b5.out.other (u := .int .i64 wn) (v := .int .i64 wd) NE.out.1)
      have dd := Lib.hid (show Below W.heap.size W ((V1.setCell ⟨g6, 0, none⟩ (.int .i64 wn)).setCell ⟨g6, 1, none⟩ (.int .i64 wd)) from (bb.out.setCell NE.out.2.2 _).setCell NE.out.2.2 _)
      obtain ⟨V2, hV2⟩ : ∃ v, v = (V1.setCell ⟨g6, 0, none⟩ (.int .i64 wn)).setCell ⟨g6, 1, none⟩ (.int .i64 wd) := ⟨_, rfl⟩
      rw [← hV2] at d5 d6 dd ⊢
      clear hV2 c11 c12 hzc a0 a1 af0 af1 az E0
      have E0 := Lib.hid (blk_keep dd.out D0.out)
      have E1 := Lib.hid (blk_keep dd.out D1.out)
      have c7 : V2.cell? ⟨w.heap.size, 7, none⟩ = some (.int .i64 x1) := cell_of_blk E0.out 7
      have c8 : V2.cell? ⟨w.heap.size, 8, none⟩ = some (.int .i64 x2) := cell_of_blk E0.out 8
      have c11 : V2.cell? ⟨w.heap.size, 11, none⟩ = some (.int .i64 wn) := cell_of_blk E0.out 11
      have c12 : V2.cell? ⟨w.heap.size, 12, none⟩ = some (.int .i64 wd) := cell_of_blk E0.out 12
      have hzc := (Array.getElem?_eq_some_iff.1 E0.out).1
      have p0 := cell_of_blk E1.out 0; have p1 := cell_of_blk E1.out 1; have hz_p := (Array.getElem?_eq_some_iff.1 E1.out).1; simp at p0 p1
      have a0 := ((d5.out)).c0; have a1 := ((d5.out)).c1; have af0 := ((d5.out)).f0; have af1 := ((d5.out)).f1; have az := ((d5.out)).lt
      have q1 := i64_wrap i1
      have q2 := i64_wrap i2
      have q3 := i64_wrap i3
      have q4 := i64_wrap i4
      have q5 := i64_wrap i5
      obtain ⟨u0, hu0⟩ : ∃ u, u = -x1 := ⟨_, rfl⟩
      have r1 : IntKind.i64.wrap (-x1) = u0 := q1.trans hu0.symm
      rw [← hu0] at q2 q4 he
      obtain ⟨u1, hu1⟩ : ∃ u, u = u0 * wd := ⟨_, rfl⟩
      obtain ⟨u2, hu2⟩ : ∃ u, u = wn * x2 := ⟨_, rfl⟩
      obtain ⟨u3, hu3⟩ : ∃ u, u = x2 * wd := ⟨_, rfl⟩
      have r2 : IntKind.i64.wrap (u0 * wd) = u1 := q2.trans hu1.symm
      have r3 : IntKind.i64.wrap (wn * x2) = u2 := q3.trans hu2.symm
      have r5 : IntKind.i64.wrap (x2 * wd) = u3 := q5.trans hu3.symm
      rw [← hu1, ← hu2] at q4 he
      rw [← hu3] at hfd
      have r4 : IntKind.i64.wrap (u1 - u2) = fn := q4.trans he.symm
      subst hfd
      clear q1 q2 q3 q4 q5 i1 i2 i3 i4 i5 hu0 hu1 hu2 hu3 he
      go_upto_region 7 with fail
      have e5 := heap_setCell_same V2 g5 0 (.int .i64 fn) _ _ d5.out
      have e6 := Lib.hid (show Has g6 wn wd (V2.setCell ⟨g5, 0, none⟩ (.int .i64 fn)) from (heap_setCell_other _ _ _ _ (by dsimp only; exact Ne.symm NE.out.1)).trans d6.out)
      have eb := Lib.hid (show Below W.heap.size W (V2.setCell ⟨g5, 0, none⟩ (.int .i64 fn)) from dd.out.setCell NE.out.2.1 _)
      obtain ⟨V3, hV3⟩ : ∃ v, v = V2.setCell ⟨g5, 0, none⟩ (.int .i64 fn) := ⟨_, rfl⟩
      rw [← hV3] at e5 e6 eb ⊢
      have E5 := Lib.hid (show Has g5 fn x2 V3 by unfold Has; simpa using e5)
      clear hV3 e5 c7 c8 c11 c12 hzc a0 a1 af0 af1 az E0 p0 p1 hz_p r1 r2 r3 r4
      have E0 := Lib.hid (blk_keep eb.out D0.out)
      have c8 : V3.cell? ⟨w.heap.size, 8, none⟩ = some (.int .i64 x2) := cell_of_blk E0.out 8
      have c12 : V3.cell? ⟨w.heap.size, 12, none⟩ = some (.int .i64 wd) := cell_of_blk E0.out 12
      have hzc := (Array.getElem?_eq_some_iff.1 E0.out).1
      have a0 := ((E5.out)).c0; have a1 := ((E5.out)).c1; have af0 := ((E5.out)).f0; have af1 := ((E5.out)).f1; have az := ((E5.out)).lt
      go_wp2_with fail
      go_meet
      have e7 := heap_setCell_same V3 g5 1 (.int .i64 fd) _ _ E5.out
      exact ⟨Lib.hid (by unfold Has; simpa using e7), Lib.hid ((heap_setCell_other _ _ _ _ (by dsimp only; exact Ne.symm NE.out.1)).trans e6.out), Lib.hid (eb.out.setCell NE.out.2.1 _)⟩
  case rest =>
  obtain ⟨hh5, hh6, hbb⟩ := hcut
  obtain ⟨U, rfl⟩ : ∃ z, z = wc := ⟨_, rfl⟩
  have HBU := Lib.hid (below_more HB.out hbb.out)
  have a0 := ((hh5.out)).c0; have a1 := ((hh5.out)).c1; have af0 := ((hh5.out)).f0; have af1 := ((hh5.out)).f1; have az := ((hh5.out)).lt
  have b0 := ((hh6.out)).c0; have b1 := ((hh6.out)).c1; have bf0 := ((hh6.out)).f0; have bf1 := ((hh6.out)).f1; have bz := ((hh6.out)).lt
  obtain ⟨f0, d0, w0, l0, lq, le, m1, m2, m3, m4, m5⟩ := HW.out
  have q1 := i64_wrap m1
  have q2 := i64_wrap m2
  have q3 := i64_wrap m3
  have q4 := i64_wrap m4
  have q5 := i64_wrap m5
  have t1 : fn.tdiv fd = fn / fd := Int.tdiv_eq_ediv_of_nonneg f0
  have hq0 : 0 ≤ fn / fd := Int.ediv_nonneg f0 (Int.le_of_lt d0)
  obtain ⟨q, hq⟩ : ∃ q, q = fn / fd := ⟨_, rfl⟩
  rw [← hq] at t1 lq hq0
  have t2 : q.tdiv 72 = ln := (Int.tdiv_eq_ediv_of_nonneg hq0).trans lq
  have hqb : 0 ≤ q ∧ q ≤ 80000 := by omega
  have hfd0 : (fd == 0) = false := by simp; omega
  have hfd1 : fd ≠ 0 := by omega
  have hfn0 : decide (fn < 0) = false := decide_eq_false (by omega)
  obtain ⟨a1', ha1⟩ : ∃ a, a = fn * wd := ⟨_, rfl⟩
  obtain ⟨a2', ha2⟩ : ∃ a, a = wn * fd := ⟨_, rfl⟩
  rw [← ha1, ← ha2] at q3 le
  have r1 : IntKind.i64.wrap (fn * wd) = a1' := q1.trans ha1.symm
  have r2 : IntKind.i64.wrap (wn * fd) = a2' := q2.trans ha2.symm
  obtain ⟨a3, ha3⟩ : ∃ a, a = a1' + a2' := ⟨_, rfl⟩
  have r3 : IntKind.i64.wrap (a1' + a2') = a3 := q3.trans ha3.symm
  rw [← ha3] at le
  obtain ⟨l4, hl4⟩ : ∃ a, a = 72 * ln + 48 := ⟨_, rfl⟩
  rw [← hl4] at q4 q5 le
  obtain ⟨l3, hl3⟩ : ∃ a, a = 72 * ln := ⟨_, rfl⟩
  have r6 : IntKind.i64.wrap (72 * ln) = l3 := (IntWalk.i64_in _ (by omega)).trans hl3.symm
  have r7 : IntKind.i64.wrap (l3 + 48) = l4 := (IntWalk.i64_in _ (by omega)).trans (by omega)
  obtain ⟨a4, ha4⟩ : ∃ a, a = l4 * fd := ⟨_, rfl⟩
  rw [← ha4] at q5 le
  have r4 : IntKind.i64.wrap (l4 * fd) = a4 := q4.trans ha4.symm
  obtain ⟨a5, ha5⟩ : ∃ a, a = a4 * wd := ⟨_, rfl⟩
  have r5 : IntKind.i64.wrap (a4 * wd) = a5 := q5.trans ha5.symm
  rw [← ha5] at le
  have hle : decide (a3 ≤ a5) = true := decide_eq_true le
  clear q1 q2 q3 q4 q5 m1 m2 m3 m4 m5 ha1 ha2 ha3 ha4 ha5 hl3 hl4 le lq hq HW HN
  go_wp2_with fail
  go_ret
  first
  | exact ⟨rfl, HBU.out⟩
  | exact ⟨by rw [hle], HBU.out⟩
end Go.Proofs.YtmiokllpdmmfhaaGreat
