/-
  The specification's Lay. And what builds on it.
-/
import Derived.Test.YtmiokllpdmmfhaaGreatRlay
import Derived.Test.YtmiokllpdmmfhaaGreatLbC
import Derived.Test.YtmiokllpdmmfhaaGreatLbD
import Derived.Test.YtmiokllpdmmfhaaGreatLaN
import Derived.Test.YtmiokllpdmmfhaaGreatLaF
import Derived.Deep.RegionHeld
import Derived.Test.YtmiokllpdmmfhaaGreatLcJ
import Derived.Test.YtmiokllpdmmfhaaGreatLcE
import Derived.Test.YtmiokllpdmmfhaaGreatLbA
import Derived.Deep.RegionHeld3
import Derived.Deep.DeepCutAuto
namespace Go.Proofs.YtmiokllpdmmfhaaGreat
open Go.RowKit
set_option maxRecDepth 100000 in
set_option maxHeartbeats 16000000 in
theorem rlayE_any (L : Lm) (A : Option Addr) (cap : Nat) (ns : List Nd) (way len : Int) (w : World) (hl : LmOk w L) (hn : NdsAt w A ns) (hc1 : ns.length ≤ cap) (hc : cap ≤ maxLen) :
    Calls Tryz.prog 27 #[.agg #[.int .i64 L.per, .slice L.A L.ms.length L.cap], .agg #[.slice A ns.length cap], .agg #[.int .i64 way, .int .i64 len]] w (GotLayE (layQ L.li way len ns) w) := by
  obtain ⟨E, hE⟩ : ∃ E, bothE L.li ns way len = E := ⟨_, rfl⟩
  have HBO := Lib.hid (fun wx (hb : Below w.heap.size w wx) => rboth_is L A cap ns way len wx (hl.below hb) (hn.below hb) hc1 hc E hE)
  obtain ⟨Q, hQ⟩ : ∃ Q, Q = layQ L.li way len ns := ⟨_, rfl⟩
  have HQ := Lib.hid (show Q = if E ≠ 0 then ([], E) else (layL (cwN way) (mwN way) len (shpsI L.li (cwN way) (regQ plainP L.li ns).1), 0) by rw [hQ]; unfold layQ; rw [hE])
  rw [← hQ]
  have HEE := Lib.hid hE
  have HL := Lib.hid hl
  have HPL := Lib.hid (fun wx (hb : Below w.heap.size w wx) => rplain_any2 L A cap ns wx (hl.below hb) (hn.below hb) hc1 hc)
  obtain ⟨N, hN⟩ : ∃ N, N = ns.length := ⟨_, rfl⟩
  rw [← hN] at HBO HPL hc1 ⊢
  unfold maxLen at hc
  clear hl hn hE hQ hN
  obtain ⟨W1, hW1⟩ : ∃ W', W' = w.alloc (.cells #[.int .i64 L.per, .slice L.A L.ms.length L.cap] 24) := ⟨_, rfl⟩; obtain ⟨W2, hW2⟩ : ∃ W', W' = W1.alloc (.cells #[.slice A N cap] 27) := ⟨_, rfl⟩; obtain ⟨W, hW⟩ : ∃ W', W' = W2.alloc (.cells #[.int .i64 way, .int .i64 len] 31) := ⟨_, rfl⟩; have szW1 : W1.heap.size = w.heap.size + 1 := (by rw [hW1]; simp); have kbW1 : Below w.heap.size w W1 := hW1 ▸ below_alloc _ _; have szW2 : W2.heap.size = w.heap.size + 1 + 1 := (by rw [hW2]; simp [szW1]); have kbW2 : Below W1.heap.size W1 W2 := hW2 ▸ below_alloc _ _; have szW : W.heap.size = w.heap.size + 1 + 1 + 1 := (by rw [hW]; simp [szW2]); have kbW : Below W2.heap.size W2 W := hW ▸ below_alloc _ _; have HB := Lib.hid (below_more (below_more kbW1 kbW2) kbW); have D0 := Lib.hid (blk_keep kbW (blk_keep kbW2 (show W1.heap[w.heap.size]? = some (.cells #[.int .i64 L.per, .slice L.A L.ms.length L.cap] 24 (0, 0)) by rw [hW1]; exact heap_alloc_new _ _))); have D1 := Lib.hid (blk_keep kbW (show W2.heap[w.heap.size + 1]? = some (.cells #[.slice A N cap] 27 (0, 0)) by rw [hW2, ← szW1]; exact heap_alloc_new _ _)); have D2 := Lib.hid (show W.heap[w.heap.size + 1 + 1]? = some (.cells #[.int .i64 way, .int .i64 len] 31 (0, 0)) by rw [hW, ← szW2]; exact heap_alloc_new _ _); have SZW := Lib.hid szW; clear szW1 kbW1 szW2 kbW2 szW kbW
  have x0 := cell_of_blk D0.out 0; have x1 := cell_of_blk D0.out 1; have hz_x := (Array.getElem?_eq_some_iff.1 D0.out).1; simp at x0 x1
  have y0 := cell_of_blk D1.out 0; have hz_y := (Array.getElem?_eq_some_iff.1 D1.out).1; simp at y0
  have p0 := cell_of_blk D2.out 0; have p1 := cell_of_blk D2.out 1; have hz_p := (Array.getElem?_eq_some_iff.1 D2.out).1; simp at p0 p1
  go_enter Tryz.func27, Tryz.ntmps27
  go_wp2_with fail
  rw [← hW1, ← hW2, ← hW]; clear hW1 hW2 hW
  go_wp2_with fail
  refine (HBO.out _ HB.out).mono ?_; rintro e w1 ⟨rfl, hb1⟩
  have HB1 := Lib.hid (below_more HB.out hb1)
  have D0 := Lib.hid (blk_keep hb1 D0.out)
  have D1 := Lib.hid (blk_keep hb1 D1.out)
  have D2 := Lib.hid (blk_keep hb1 D2.out)
  clear hb1 HBO x0 x1 hz_x y0 hz_y p0 p1 hz_p
  have hq := HB1.out.size
  by_cases h0 : E = 0
  case neg =>
    have hb : (E != 0) = true := by simpa using h0
    have HF := Lib.hid (show Q = ([], E) by rw [HQ.out, if_pos h0])
    clear HQ h0
    go_wp2_with fail
    go_ret2
    rw [HF.out]
    exact ⟨none, 0, rfl, Lib.hid (World.ownsRow_nil _ _ _ _), HB1.out⟩
  subst h0
  have ht := both_ok HEE.out
  have hq2 : regQ plainP L.li ns = ((regQ plainP L.li ns).1, 0) := by rw [plainT_is ht.1]
  obtain ⟨zs, hzs⟩ : ∃ zs, zs = (regQ plainP L.li ns).1 := ⟨_, rfl⟩
  rw [← hzs] at hq2 HQ
  rw [hq2] at HPL
  dsimp only at HPL
  have hp := plain_pln ht.1 hq2
  have HQ := Lib.hid (show Q = (layL (cwN way) (mwN way) len (shpsI L.li (cwN way) zs), 0) by rw [HQ.out]; simp)
  have hlb : (48 ≤ len ∧ len ≤ 4800) ∧ (1 ≤ way ∧ way ≤ 4) := by
    have := ht.2
    unfold pageErr at this
    split at this <;> omega
  have HSD := Lib.hid (fun wx (hb : Below w.heap.size w wx) (Ap : Option Addr) (cp : Nat) (hz : NdsAt wx Ap zs) (h1 : zs.length ≤ cp) (h2 : cp ≤ maxLen) => rlay_any L way len Ap cp zs wx (HL.out.below hb) hz hp h1 h2 hlb.1 hlb.2)
  obtain ⟨R, hR⟩ : ∃ R, R = layL (cwN way) (mwN way) len (shpsI L.li (cwN way) zs) := ⟨_, rfl⟩
  rw [← hR] at HSD HQ
  clear ht hq2 hzs hp hlb hR
  have x0 := cell_of_blk D0.out 0; have x1 := cell_of_blk D0.out 1; have hz_x := (Array.getElem?_eq_some_iff.1 D0.out).1; simp at x0 x1
  have y0 := cell_of_blk D1.out 0; have hz_y := (Array.getElem?_eq_some_iff.1 D1.out).1; simp at y0
  go_wp2_with fail
  refine (HPL.out _ HB1.out).mono ?_; rintro e w2 ⟨Ap, kp, cp, rfl, hkp, hown, hb2⟩
  have HB2 := Lib.hid (below_more HB1.out hb2)
  have D0 := Lib.hid (blk_keep hb2 D0.out)
  have D2 := Lib.hid (blk_keep hb2 D2.out)
  have hkz := hkp.out
  subst hkz
  have HO := Lib.hid hown.out
  clear hkp hown hb2 HPL x0 x1 hz_x y0 hz_y D1
  go_upto_region 5 with fail
  obtain ⟨V3, hV3⟩ : ∃ V3, V3 = w2.alloc (.cells #[.slice Ap zs.length cp] 27) := ⟨_, rfl⟩
  have k3 : Below w2.heap.size w2 V3 := hV3 ▸ below_alloc _ _
  have DT := Lib.hid (show V3.heap[w2.heap.size]? = some (.cells #[.slice Ap zs.length cp] 27 (0, 0)) from hV3 ▸ heap_alloc_new _ _)
  have HB3 := Lib.hid (below_more HB2.out k3)
  have D0 := Lib.hid (blk_keep k3 D0.out)
  have D2 := Lib.hid (blk_keep k3 D2.out)
  have HZ := Lib.hid ((own_nodes HO.out).below k3)
  obtain ⟨hz1, hz2, -⟩ := own_len HO.out
  have HZ2 := Lib.hid hz2
  unfold maxLen at hz2
  rw [← hV3]
  clear hV3 k3 HO
  have x0 := cell_of_blk D0.out 0; have x1 := cell_of_blk D0.out 1; have hz_x := (Array.getElem?_eq_some_iff.1 D0.out).1; simp at x0 x1
  have p0 := cell_of_blk D2.out 0; have p1 := cell_of_blk D2.out 1; have hz_p := (Array.getElem?_eq_some_iff.1 D2.out).1; simp at p0 p1
  have t0 := cell_of_blk DT.out 0; have hz_t := (Array.getElem?_eq_some_iff.1 DT.out).1; simp at t0
  go_wp2_with fail
  refine (HSD.out V3 HB3.out Ap cp HZ.out hz1 HZ2.out).mono ?_; rintro e v1 ⟨Ab, cb, rfl, hown, hb4⟩
  have HB1 := Lib.hid (below_more HB3.out hb4)
  have hsz3 := HB3.out.size
  have HOF := Lib.hid (own_base hown hsz3)
  clear hown hb4 x0 x1 hz_x p0 p1 hz_p t0 hz_t hsz3
  go_wp2_with fail
  go_ret2
  rw [HQ.out]
  exact ⟨Ab, cb, rfl, HOF, HB1.out⟩
open Go.RowKit
theorem neBx_self (k s t st mn mx a1 a2 a3 a4 a5 a6 a7 a8 : Int) (m : Bool) (w : World) :
    (binOp .neq 82 (.agg #[.int .i64 k, .int .i64 s, .int .i64 t, .bool m, .int .i64 st, .int .i64 mn, .int .i64 mx, .int .i64 a1, .int .i64 a2, .int .i64 a3, .int .i64 a4, .int .i64 a5, .int .i64 a6, .int .i64 a7, .int .i64 a8]) (.agg #[.int .i64 k, .int .i64 s, .int .i64 t, .bool m, .int .i64 st, .int .i64 mn, .int .i64 mx, .int .i64 a1, .int .i64 a2, .int .i64 a3, .int .i64 a4, .int .i64 a5, .int .i64 a6, .int .i64 a7, .int .i64 a8])).run Tryz.prog w =
      .ok (.bool false) w := by
  rw [run_neq_struct]
  simp [go_sem]
set_option maxHeartbeats 8000000 in
set_option maxRecDepth 100000 in
theorem sameBx_eq (A B : Option Addr) (n m c d : Nat) (l : List Bx) (w : World) (hn : n = l.length) (hm : m = l.length) (hA : BxsAt w A l) (hB : BxsAt w B l) (hz : l.length ≤ 100000000) :
    Calls Tryz.prog 28 #[.slice A n c, .slice B m d] w fun e w' => e = .returned (.bool true) ∧ Below w.heap.size w w' := by
  have hmn : m = n := by omega
  subst hmn
  have HN := Lib.hid hn
  have HA := Lib.hid hA
  have HB := Lib.hid hB
  have hz : m ≤ 100000000 := by omega
  have he3 : ((m : Int) != (m : Int)) = false := by simp
  clear hA hB hn hm
  go_enter Tryz.func28, Tryz.ntmps28
  go_wp2_with fail
  go_loopw [5] (fun i wr => ∃ k : Nat, k ≤ m ∧ i = .int .i64 k ∧ Hid (Below w.heap.size w wr)) (fun i _ => m - (intOf i).toNat)
  case atStart => exact ⟨0, Nat.zero_le _, rfl, Lib.hid (Below.refl _ _)⟩
  case round =>
    obtain ⟨k, hk, rfl, hb⟩ := hrel
    have HBR := Lib.hid hb.out
    clear hb
    by_cases hlt : k < m
    · obtain ⟨x, hx⟩ : ∃ x, l[k]? = some x := ⟨_, List.getElem?_eq_getElem (by have := HN.out; omega)⟩
      obtain ⟨b, o, rfl, hb1, hva⟩ := (HA.out.below HBR.out) k x hx
      obtain ⟨b', o', rfl, hb2, hvb⟩ := (HB.out.below HBR.out) k x hx
      have hki : (0 : Int) ≤ (k : Int) := by omega
      have hkm : (k : Int) < (m : Int) := by omega
      obtain ⟨y0, y1, y2, y3, y4, y5, y6, y7, y8, y9, y10, y11, y12, y13, y14⟩ := hva
      obtain ⟨z0, z1, z2, z3, z4, z5, z6, z7, z8, z9, z10, z11, z12, z13, z14⟩ := hvb
      obtain ⟨xk, sg, t, mi, st, mn, mx, ⟨x1, x2⟩, ⟨x3, x4⟩, ⟨x5, x6⟩, ⟨x7, x8⟩⟩ := x
      dsimp only at y0 y1 y2 y3 y4 y5 y6 y7 y8 y9 y10 y11 y12 y13 y14 z0 z1 z2 z3 z4 z5 z6 z7 z8 z9 z10 z11 z12 z13 z14
      have he := fun wx => neBx_self xk sg t st mn mx x1 x2 x3 x4 x5 x6 x7 x8 mi wx
      clear hx
      go_upto_region 6 with fail
      refine wp_region_later (by kernel_rfl) (by kernel_rfl) ?_; (repeat (first | go_big_quiet_step (fail) | quiet_step (fail))); refine wpQuiet_nil ?_; rintro _ ⟨s, rfl⟩
      have HB9 := Lib.hid (HBR.out.trans (s.below.mono HBR.out.size))
      clear y0 y1 y2 y3 y4 y5 y6 y7 y8 y9 y10 y11 y12 y13 y14 z0 z1 z2 z3 z4 z5 z6 z7 z8 z9 z10 z11 z12 z13 z14 he
      go_wp2_with fail
      go_roundw
      case rel => exact ⟨k + 1, by omega, by go_num, HB9⟩
      case measure => simp [intOf]; omega
    · obtain rfl : k = m := by omega
      go_wp2_with fail
      go_ret
      exact ⟨rfl, HBR.out⟩
open Go.RowKit
theorem ey_lay : layQ eyLi 1 4800 eyNs = (lay1 eyS, 0) := by kernel_rfl
set_option maxRecDepth 100000 in
set_option maxHeartbeats 8000000 in
theorem works4b_any (w : World) : Calls Tryz.prog 14 #[] w fun e w' => e = .returned (.bool true) ∧ Below w.heap.size w w' := by
  obtain ⟨W1, hW1⟩ : ∃ W, W = w.alloc (.cells #[.string ⟨#[65, 49]⟩, .int .i64 12, .int .i64 12, .bool false, .slice none 0 0, .string ⟨#[66, 50]⟩, .int .i64 6, .int .i64 3, .bool false, .slice none 0 0] 95) := ⟨_, rfl⟩
  obtain ⟨W2, hW2⟩ : ∃ W, W = W1.alloc (.cells #[.int .i64 1, .slice (some ⟨w.heap.size, 0, none⟩) 2 2] 24) := ⟨_, rfl⟩
  obtain ⟨W3, hW3⟩ : ∃ W, W = W2.alloc (.cells #[.int .i64 2, .int .i64 0, .int .i64 0, .int .i64 0, .bool false, .int .i64 0, .int .i64 0, .int .i64 0, .int .i64 1, .int .i64 1, .int .i64 0, .int .i64 0, .bool false, .int .i64 0, .int .i64 0, .int .i64 0, .int .i64 1, .int .i64 1, .int .i64 1, .int .i64 0, .bool false, .int .i64 0, .int .i64 0, .int .i64 0] 87) := ⟨_, rfl⟩
  obtain ⟨W4, hW4⟩ : ∃ W, W = W3.alloc (.cells #[.slice (some ⟨w.heap.size + 1 + 1, 0, none⟩) 3 3] 27) := ⟨_, rfl⟩
  have s1 : W1.heap.size = w.heap.size + 1 := by rw [hW1]; simp
  have s2 : W2.heap.size = w.heap.size + 1 + 1 := by rw [hW2]; simp [s1]
  have s3 : W3.heap.size = w.heap.size + 1 + 1 + 1 := by rw [hW3]; simp [s2]
  have hb1 : Below w.heap.size w W1 := by rw [hW1]; exact below_alloc _ _
  have hb2 : Below W1.heap.size W1 W2 := by rw [hW2]; exact below_alloc _ _
  have hb3 : Below W2.heap.size W2 W3 := by rw [hW3]; exact below_alloc _ _
  have hb4 : Below W3.heap.size W3 W4 := by rw [hW4]; exact below_alloc _ _
  have HB := Lib.hid (show Below w.heap.size w W4 from below_more (below_more (below_more hb1 hb2) hb3) hb4)
  have x1 : W4.heap[w.heap.size]? = some (.cells #[.string ⟨#[65, 49]⟩, .int .i64 12, .int .i64 12, .bool false, .slice none 0 0, .string ⟨#[66, 50]⟩, .int .i64 6, .int .i64 3, .bool false, .slice none 0 0] 95 (0, 0)) := by
    refine blk_keep (below_more (below_more hb2 hb3) hb4) ?_
    rw [hW1]; exact heap_alloc_new _ _
  have D1 := Lib.hid (show W4.heap[w.heap.size + 1]? = some (.cells #[.int .i64 1, .slice (some ⟨w.heap.size, 0, none⟩) 2 2] 24 (0, 0)) by
    refine blk_keep (below_more hb3 hb4) ?_
    rw [hW2, ← s1]; exact heap_alloc_new _ _)
  have x3 : W4.heap[w.heap.size + 1 + 1]? = some (.cells #[.int .i64 2, .int .i64 0, .int .i64 0, .int .i64 0, .bool false, .int .i64 0, .int .i64 0, .int .i64 0, .int .i64 1, .int .i64 1, .int .i64 0, .int .i64 0, .bool false, .int .i64 0, .int .i64 0, .int .i64 0, .int .i64 1, .int .i64 1, .int .i64 1, .int .i64 0, .bool false, .int .i64 0, .int .i64 0, .int .i64 0] 87 (0, 0)) := by
    refine blk_keep hb4 ?_
    rw [hW3, ← s2]; exact heap_alloc_new _ _
  have D3 := Lib.hid (show W4.heap[w.heap.size + 1 + 1 + 1]? = some (.cells #[.slice (some ⟨w.heap.size + 1 + 1, 0, none⟩) 3 3] 27 (0, 0)) by rw [hW4, ← s3]; exact heap_alloc_new _ _)
  have l1 := (Array.getElem?_eq_some_iff.1 x1).1
  have l3 := (Array.getElem?_eq_some_iff.1 x3).1
  have hcell1 : ∀ q, W4.cell? ⟨w.heap.size, q, none⟩ = _ := fun q => cell_of_blk x1 q
  have hcell3 : ∀ q, W4.cell? ⟨w.heap.size + 1 + 1, q, none⟩ = _ := fun q => cell_of_blk x3 q
  have HL := Lib.hid (show LmOk W4 ⟨1, [⟨⟨ey1, 12, 12, false, []⟩, none, 0⟩, ⟨⟨ey2, 6, 3, false, []⟩, none, 0⟩], some ⟨w.heap.size, 0, none⟩, 2⟩ from
    ⟨fun k m hk => by
      match k, hk with
      | 0, hk => injection hk with hk; subst hk; exact ⟨w.heap.size, 0, rfl, l1, ⟨hcell1 _, hcell1 _, hcell1 _, hcell1 _, hcell1 _⟩, ⟨ValsAt.nil _, Nat.le_refl _, Nat.zero_le _, by unfold maxLen; decide⟩⟩
      | 1, hk => injection hk with hk; subst hk; exact ⟨w.heap.size, 0, rfl, l1, ⟨hcell1 _, hcell1 _, hcell1 _, hcell1 _, hcell1 _⟩, ⟨ValsAt.nil _, Nat.le_refl _, Nat.zero_le _, by unfold maxLen; decide⟩⟩
      | k + 2, hk => simp at hk, Nat.le_refl _, show 2 ≤ maxLen by unfold maxLen; decide⟩)
  have HN := Lib.hid (show NdsAt W4 (some ⟨w.heap.size + 1 + 1, 0, none⟩) eyNs from fun k n hk => by
      match k, hk with
      | 0, hk => injection hk with hk; subst hk; exact ⟨_, 0, rfl, l3, ⟨hcell3 _, hcell3 _, hcell3 _, hcell3 _, hcell3 _, hcell3 _, hcell3 _, hcell3 _⟩⟩
      | 1, hk => injection hk with hk; subst hk; exact ⟨_, 0, rfl, l3, ⟨hcell3 _, hcell3 _, hcell3 _, hcell3 _, hcell3 _, hcell3 _, hcell3 _, hcell3 _⟩⟩
      | 2, hk => injection hk with hk; subst hk; exact ⟨_, 0, rfl, l3, ⟨hcell3 _, hcell3 _, hcell3 _, hcell3 _, hcell3 _, hcell3 _, hcell3 _, hcell3 _⟩⟩
      | k + 3, hk => simp [eyNs] at hk)
  have HLA := Lib.hid (fun wx (hb : Below W4.heap.size W4 wx) => show Calls Tryz.prog 26 #[.agg #[.int .i64 1, .slice (some ⟨w.heap.size, 0, none⟩) 2 2], .agg #[.slice (some ⟨w.heap.size + 1 + 1, 0, none⟩) 3 3], .agg #[.int .i64 1, .int .i64 4800]] wx (GotLay (lay1 eyS) wx) from
    by
      have := glay_any ⟨1, [⟨⟨ey1, 12, 12, false, []⟩, none, 0⟩, ⟨⟨ey2, 6, 3, false, []⟩, none, 0⟩], some ⟨w.heap.size, 0, none⟩, 2⟩ (some ⟨w.heap.size + 1 + 1, 0, none⟩) 3 eyNs 1 4800 wx (HL.out.below hb) (HN.out.below hb) (by decide) (by unfold maxLen; decide)
      rw [show layQ (Lm.li ⟨1, [⟨⟨ey1, 12, 12, false, []⟩, none, 0⟩, ⟨⟨ey2, 6, 3, false, []⟩, none, 0⟩], some ⟨w.heap.size, 0, none⟩, 2⟩) 1 4800 eyNs = (lay1 eyS, 0) from ey_lay] at this
      exact this)
  have HPG := Lib.hid page_any
  have HLEN := Lib.hid (show (lay1 eyS).length = 2 by kernel_rfl)
  have HC0 := Lib.hid (show ((lay1 eyS).flatMap Bx.cells)[22]? = some (.int .i64 816) ∧ ((lay1 eyS).flatMap Bx.cells)[23]? = some (.int .i64 23) ∧ ((lay1 eyS).flatMap Bx.cells)[24]? = some (.int .i64 480) ∧ ((lay1 eyS).flatMap Bx.cells)[25]? = some (.int .i64 23) from ⟨by kernel_rfl, by kernel_rfl, by kernel_rfl, by kernel_rfl⟩)
  clear x1 x3 l1 l3 s1 s2 s3 hb1 hb2 hb3 hb4 hcell1 hcell3
  have HKS := Lib.hid (fun wx (hb : Below W4.heap.size W4 wx) => show wx.cell? ⟨w.heap.size + 1, 0, none⟩ = some (.int .i64 1) ∧ wx.cell? ⟨w.heap.size + 1, 1, none⟩ = some (.slice (some ⟨w.heap.size, 0, none⟩) 2 2) ∧ wx.cell? ⟨w.heap.size + 1 + 1 + 1, 0, none⟩ = some (.slice (some ⟨w.heap.size + 1 + 1, 0, none⟩) 3 3) from
    ⟨cell_of_blk (blk_keep hb D1.out) 0, cell_of_blk (blk_keep hb D1.out) 1, cell_of_blk (blk_keep hb D3.out) 0⟩)
  have HDR := Lib.hid (show Below W4.heap.size W4 W4.drew from (Below.refl _ _).drew)
  have e1 := fun wx => eqFr 816 23 816 23 wx
  have e2 := fun wx => eqFr 480 23 480 23 wx
  go_enter Tryz.func14, Tryz.ntmps14
  go_wp2_with fail
  rw [← hW1, ← hW2, ← hW3, ← hW4]
  clear hW1 hW2 hW3 hW4
  go_region_held3 (fun wx => wx.cell? ⟨w.heap.size + 1, 0, none⟩ = some (.int .i64 1) ∧ wx.cell? ⟨w.heap.size + 1, 1, none⟩ = some (.slice (some ⟨w.heap.size, 0, none⟩) 2 2) ∧ wx.cell? ⟨w.heap.size + 1 + 1 + 1, 0, none⟩ = some (.slice (some ⟨w.heap.size + 1 + 1, 0, none⟩) 3 3))
    ((refine HKS.out _ ?_; first | exact HDR.out | assumption))
    (first
      | (go_at_call 50; refine (HPG.out _).mono ?_; rintro e y1 ⟨rfl, hy1⟩; have ky1 := below_more HDR.out hy1)
      | (go_at_call 26; refine (HLA.out _ ky1).mono ?_; rintro e y2 ⟨A, c, rfl, hown, hy2⟩; have ky2 := below_more ky1 hy2)
      | fail)
  have HB5 := Lib.hid (below_more HB.out ky2)
  have hown2 := hown.out
  obtain ⟨A2, c2, hv, -, -, h3, h4⟩ := own_slice hown2
  injection hv with e1' e2' e3'
  subst e1' e3'
  rw [HLEN.out] at h4 ⊢
  cases A with
  | none => have := h4 rfl; simp at this
  | some ad =>
    obtain ⟨g, rfl, -, hg, hc⟩ := h3 ad rfl
    have z0 := hc 22 _ HC0.out.1
    have z1 := hc 23 _ HC0.out.2.1
    have z2 := hc 24 _ HC0.out.2.2.1
    have z3 := hc 25 _ HC0.out.2.2.2
    clear hown hown2 hy1 hy2 ky1 ky2 h3 h4 hc HKS HDR HLA
    go_wp2_with fail
    go_ret
    exact ⟨rfl, HB5.out⟩
open Go.RowKit
def GotLayX (w : World) (bs : List Bx) (er : Int) (e : Ending) (w' : World) : Prop := ∃ (A : Option Addr) (k c : Nat), e = .returned (.tuple #[.slice A k c, .int .i64 er]) ∧ Hid (k = bs.length) ∧ Hid (BxsAt w' A bs) ∧ Below w.heap.size w w'
theorem GotLayE.x {bs : List Bx} {er : Int} {w : World} {e : Ending} {w' : World} (h : GotLayE (bs, er) w e w') : GotLayX w bs er e w' := by
  obtain ⟨A, c, rfl, h1, h2⟩ := h
  exact ⟨A, bs.length, c, rfl, Lib.hid rfl, Lib.hid (own_boxes h1.out), h2⟩
theorem layQ_small (l : Li) (way len : Int) (ns : List Nd) : (layQ l way len ns).1.length ≤ 30000000 := by
  unfold layQ
  by_cases h : bothE l ns way len = 0
  · rw [if_neg (by omega)]
    obtain ⟨hT, hP⟩ := both_ok h
    have hq : regQ plainP l ns = ((regQ plainP l ns).1, 0) := by rw [plainT_is hT]
    have hp := plain_pln hT hq
    obtain ⟨zs, hzs⟩ : ∃ zs, zs = (regQ plainP l ns).1 := ⟨_, rfl⟩
    rw [← hzs] at hp ⊢
    dsimp only
    have hM2 : (shpsI l (cwN way) zs).length ≤ 200 := by
      have hkl : (shpsI l (cwN way) zs).length = (topsL zs).length := by unfold shpsI; rw [List.length_map]
      have h1 : (topsL zs).length ≤ zs.length := by
        unfold topsL
        refine Nat.le_trans (List.length_filter_le _ _) ?_
        rw [List.length_range]; exact Nat.le_refl _
      have := (text_ok hp.ok).2.1
      omega
    have hC : ∀ s ∈ shpsI l (cwN way) zs, s.cnt ≤ 100000 := fun s hs => by
      obtain ⟨j, _, rfl⟩ := List.mem_map.1 hs
      exact Nat.le_trans (cnt_bd (cwN way) hp 5 j) (by decide)
    obtain ⟨ks, hks⟩ : ∃ ks, ks = shpsI l (cwN way) zs := ⟨_, rfl⟩
    rw [← hks] at hM2 hC ⊢
    have hb : ∀ k, k ≤ ks.length → (layT (cwN way) (mwN way) len ks k).length ≤ k * 100000 := fun k hk => by
      induction k with
      | zero => simp [layT]
      | succ k ih =>
        have h1 := ih (by omega)
        obtain ⟨s, hs⟩ : ∃ s, ks[k]? = some s := ⟨_, List.getElem?_eq_getElem (by omega)⟩
        have h2 := hC s (List.mem_of_getElem? hs)
        rw [layT_step, List.length_append]
        have h3 : (grpB (cwN way) (mwN way) (blA (cwN way) len ks k)).length ≤ 100000 := by unfold grpB; rw [List.length_map, blA_at hs, pcs_cnt]; exact h2
        omega
    have h1 := hb ks.length (Nat.le_refl _)
    have h2 := Nat.mul_le_mul_right 100000 hM2
    have h3 : layL (cwN way) (mwN way) len ks = layT (cwN way) (mwN way) len ks ks.length := rfl
    rw [h3]; omega
  · rw [if_pos h]; simp
set_option maxHeartbeats 16000000 in
set_option maxRecDepth 100000 in
theorem law_glays (L : Lm) (A : Option Addr) (cap : Nat) (ns : List Nd) (way len : Int) (w : World) (hl : LmOk w L) (hn : NdsAt w A ns) (hc1 : ns.length ≤ cap) (hc : cap ≤ maxLen)  :
    Calls Tryz.prog 5 #[.agg #[.int .i64 L.per, .slice L.A L.ms.length L.cap, .slice A ns.length cap], .agg #[.int .i64 way, .int .i64 len]] w fun e w' => e = .returned (.bool true) ∧ Below w.heap.size w w' := by
  have HNS0 := Lib.hid hn
  have HL0 := Lib.hid hl
  have HC1 := Lib.hid hc1
  have HCM := Lib.hid hc
  have hnm : ns.length ≤ maxLen := Nat.le_trans hc1 hc
  have HBG := Lib.hid (fun wx (hb : Below w.heap.size w wx) r (h : bigG L.li ns.length = r) => show Calls Tryz.prog 13 #[.agg #[.int .i64 L.per, .slice L.A L.ms.length L.cap, .slice A ns.length cap]] wx _ from bigG_is L A ns.length cap wx (hl.below hb) hnm r h)
  clear hl hn hc1 hc hnm
  obtain ⟨B, hB⟩ : ∃ B, bigG L.li ns.length = B := ⟨_, rfl⟩
  have HBB := Lib.hid hB
  clear hB
  obtain ⟨N, hN⟩ : ∃ N, N = ns.length := ⟨_, rfl⟩
  have HN := Lib.hid hN
  rw [← hN] at HBG HC1 HBB ⊢
  clear hN
  obtain ⟨W1, hW1⟩ : ∃ W', W' = w.alloc (.cells #[.int .i64 L.per, .slice L.A L.ms.length L.cap, .slice A N cap] 29) := ⟨_, rfl⟩; obtain ⟨W, hW⟩ : ∃ W', W' = W1.alloc (.cells #[.int .i64 way, .int .i64 len] 31) := ⟨_, rfl⟩; have szW1 : W1.heap.size = w.heap.size + 1 := (by rw [hW1]; simp); have kbW1 : Below w.heap.size w W1 := hW1 ▸ below_alloc _ _; have szW : W.heap.size = w.heap.size + 1 + 1 := (by rw [hW]; simp [szW1]); have kbW : Below W1.heap.size W1 W := hW ▸ below_alloc _ _; have HB := Lib.hid (below_more kbW1 kbW); have D0 := Lib.hid (blk_keep kbW (show W1.heap[w.heap.size]? = some (.cells #[.int .i64 L.per, .slice L.A L.ms.length L.cap, .slice A N cap] 29 (0, 0)) by rw [hW1]; exact heap_alloc_new _ _)); have D1 := Lib.hid (show W.heap[w.heap.size + 1]? = some (.cells #[.int .i64 way, .int .i64 len] 31 (0, 0)) by rw [hW, ← szW1]; exact heap_alloc_new _ _); have SZW := Lib.hid szW; clear szW1 kbW1 szW kbW
  have HL := Lib.hid (HL0.out.below HB.out)
  have HNS := Lib.hid (HNS0.out.below HB.out)
  go_enter Tryz.func5, Tryz.ntmps5
  go_wp2_with fail
  rw [← hW1, ← hW]; clear hW1 hW
  refine (HBG.out _ HB.out _ HBB.out).mono ?_; rintro e w1 ⟨rfl, hb1⟩
  have B1 := Lib.hid hb1
  have D := Lib.hid (blk_keep hb1 D0.out)
  have G := Lib.hid (blk_keep hb1 D1.out)
  clear hb1 HL0 HNS0 HBG D0 D1
  cases B with
  | true =>
    go_wp2_with fail
    refine (works4b_any _).mono ?_; rintro e w2 ⟨rfl, hb2⟩
    go_wp2
    go_ret
    exact ⟨rfl, below_more (below_more HB.out B1.out) hb2⟩
  | false =>
    have HNB := Lib.hid (not_bigG (L := L) HBB.out)
    have L1 := Lib.hid (HL.out.below B1.out)
    have N1 := Lib.hid (HNS.out.below B1.out)
    have BC := Lib.hid (Below.refl w1.heap.size w1)
    obtain ⟨⟨bs, er⟩, hQ0⟩ : ∃ q, q = layQ L.li way len ns := ⟨_, rfl⟩
    have HQ0 := Lib.hid hQ0
    have HSL := Lib.hid (show bs.length ≤ 30000000 by have := layQ_small L.li way len ns; rw [← hQ0] at this; exact this)
    clear hQ0
    have HTX := Lib.hid (fun wx (hb : Below w1.heap.size w1 wx) => show Calls Tryz.prog 17 #[.agg #[.int .i64 L.per, .slice L.A L.ms.length L.cap, .slice A N cap]] wx (GotTextX wx ns) by
      have := text4_any L A cap ns wx (N1.out.below (below_more BC.out hb)) (by rw [← HN.out]; exact HC1.out) HCM.out (by rw [← HN.out]; have := HNB.out.1; omega)
      rw [← HN.out] at this; exact this.mono fun _ _ h => h.x)
    have x0 := cell_of_blk D.out 0; have x1 := cell_of_blk D.out 1; have x2 := cell_of_blk D.out 2; have hz_x := (Array.getElem?_eq_some_iff.1 D.out).1; simp at x0 x1 x2
    go_wp2_with fail
    refine (HTX.out _ (Below.refl _ _)).mono ?_; rintro e wt ⟨A2, kt, c2, rfl, hkt, hnt, hkc, hcm, hbt⟩
    have KT := Lib.hid hkt.out
    have NT := Lib.hid hnt.out
    have hb2 := Lib.hid hbt
    unfold maxLen at hcm
    clear hkt hnt hbt HTX x0 x1 x2 hz_x
    go_upto_region 4 with fail
    obtain ⟨V, hV⟩ : ∃ V, V = wt.alloc (.cells #[.slice A2 kt c2] 27) := ⟨_, rfl⟩
    have kv : Below wt.heap.size wt V := hV ▸ below_alloc _ _
    have DT := Lib.hid (show V.heap[wt.heap.size]? = some (.cells #[.slice A2 kt c2] 27 (0, 0)) from hV ▸ heap_alloc_new _ _)
    have BC := Lib.hid (below_more hb2.out kv)
    have D := Lib.hid (blk_keep BC.out D.out)
    have G := Lib.hid (blk_keep BC.out G.out)
    have NT := Lib.hid (NT.out.below kv)
    rw [← hV]
    clear hV kv hb2
    have HK := Lib.hid (fun w' (hb : Below V.heap.size V w') => show w'.cell? ⟨w.heap.size, 0, none⟩ = some (.int .i64 L.per) ∧ w'.cell? ⟨w.heap.size, 1, none⟩ = some (.slice L.A L.ms.length L.cap) ∧ w'.cell? ⟨w.heap.size, 2, none⟩ = some (.slice A N cap) ∧ w'.cell? ⟨w.heap.size + 1, 0, none⟩ = some (.int .i64 way) ∧ w'.cell? ⟨w.heap.size + 1, 1, none⟩ = some (.int .i64 len) ∧ w'.cell? ⟨wt.heap.size, 0, none⟩ = some (.slice A2 kt c2) ∧ Below V.heap.size V w' from
      ⟨cell_of_blk (blk_keep hb D.out) 0, cell_of_blk (blk_keep hb D.out) 1, cell_of_blk (blk_keep hb D.out) 2, cell_of_blk (blk_keep hb G.out) 0, cell_of_blk (blk_keep hb G.out) 1, cell_of_blk (blk_keep hb DT.out) 0, hb⟩)
    have HDR := Lib.hid (show Below V.heap.size V V.drew from (Below.refl _ _).drew)
    have HSB := Lib.hid (fun wx (h : wx.cell? ⟨w.heap.size, 0, none⟩ = some (.int .i64 L.per) ∧ wx.cell? ⟨w.heap.size, 1, none⟩ = some (.slice L.A L.ms.length L.cap) ∧ wx.cell? ⟨w.heap.size, 2, none⟩ = some (.slice A N cap) ∧ wx.cell? ⟨w.heap.size + 1, 0, none⟩ = some (.int .i64 way) ∧ wx.cell? ⟨w.heap.size + 1, 1, none⟩ = some (.int .i64 len) ∧ wx.cell? ⟨wt.heap.size, 0, none⟩ = some (.slice A2 kt c2) ∧ Below V.heap.size V wx) => h.2.2.2.2.2.2)
    have HLS := Lib.hid (fun wx (hb : Below V.heap.size V wx) => show Calls Tryz.prog 16 #[.agg #[.int .i64 L.per, .slice L.A L.ms.length L.cap, .slice A N cap]] wx (GotListX wx L.li) from
      (list4_any L A N cap wx (L1.out.below (below_more BC.out hb)) (by have := HNB.out.2.1; omega) (fun m hm => by have := (HNB.out.2.2 m hm).1; omega)).mono fun _ _ h => h.x)
    have HPJ := Lib.hid (fun wx (pm : Int) (mm : List Sm) (Am : Option Addr) (km cm : Nat) (hkm : km = mm.length) (hok : LmOk wx ⟨pm, mm, Am, cm⟩) (hli : (Lm.mk pm mm Am cm).li = L.li) (hb : Below V.heap.size V wx) => show Calls Tryz.prog 26 #[.agg #[.int .i64 pm, .slice Am km cm], .agg #[.slice A2 kt c2], .agg #[.int .i64 way, .int .i64 len]] wx (GotLayX wx bs er) by
      have hk := KT.out
      subst hk hkm
      have := glay_any ⟨pm, mm, Am, cm⟩ A2 c2 ns way len wx hok (NT.out.below hb) hkc (by unfold maxLen; exact hcm)
      rw [hli, ← HQ0.out] at this; exact this.mono fun _ _ h => h.x)
    go_region_held3 (fun w' => w'.cell? ⟨w.heap.size, 0, none⟩ = some (.int .i64 L.per) ∧ w'.cell? ⟨w.heap.size, 1, none⟩ = some (.slice L.A L.ms.length L.cap) ∧ w'.cell? ⟨w.heap.size, 2, none⟩ = some (.slice A N cap) ∧ w'.cell? ⟨w.heap.size + 1, 0, none⟩ = some (.int .i64 way) ∧ w'.cell? ⟨w.heap.size + 1, 1, none⟩ = some (.int .i64 len) ∧ w'.cell? ⟨wt.heap.size, 0, none⟩ = some (.slice A2 kt c2) ∧ Below V.heap.size V w')
      ((refine HK.out _ ?_; first | assumption | exact HDR.out))
      (first
      | (go_at_call 16; refine (HLS.out _ (HSB.out _ (by assumption))).mono ?_; rintro e wl ⟨pm, mm, Am, km, cm, rfl, hkm, hokl, hlil, hbl⟩; have hbwl := below_more (HSB.out _ (by assumption)) hbl)
      | (go_at_call 26; refine (HPJ.out _ pm mm Am km cm hkm.out hokl.out hlil.out hbwl).mono ?_; rintro e wp0 ⟨Ap, kp, cp, rfl, hkp, hap, hbp0⟩; have hbwp0 := below_more hbwl hbp0))
    have KP := Lib.hid hkp.out
    have PA := Lib.hid hap.out
    clear hkp hap
    have BC := Lib.hid (below_more BC.out hbwp0)
    have D := Lib.hid (blk_keep hbwp0 D.out)
    have G := Lib.hid (blk_keep hbwp0 G.out)
    have DT := Lib.hid (blk_keep hbwp0 DT.out)
    have NT := Lib.hid (NT.out.below hbwp0)
    clear HK HDR HSB HLS HPJ hbwl hbwp0 hbp0 hbl hkm hokl hlil
    have x0 := cell_of_blk D.out 0; have x1 := cell_of_blk D.out 1; have x2 := cell_of_blk D.out 2; have hz_x := (Array.getElem?_eq_some_iff.1 D.out).1; simp at x0 x1 x2
    have p0 := cell_of_blk G.out 0; have p1 := cell_of_blk G.out 1; have hz_p := (Array.getElem?_eq_some_iff.1 G.out).1; simp at p0 p1
    have HRJ := Lib.hid (show Calls Tryz.prog 27 #[.agg #[.int .i64 L.per, .slice L.A L.ms.length L.cap], .agg #[.slice A N cap], .agg #[.int .i64 way, .int .i64 len]] wp0 (GotLayX wp0 bs er) by
      have hn := N1.out.below BC.out
      have hok := L1.out.below BC.out
      have h1 : ns.length ≤ cap := by rw [← HN.out]; exact HC1.out
      have h2 := HCM.out
      have := rlayE_any L A cap ns way len wp0 hok hn h1 h2
      rw [← HQ0.out, ← HN.out] at this; exact this.mono fun _ _ h => h.x)
    go_wp2_with fail
    refine HRJ.out.mono ?_; rintro e wr0 ⟨Ar, kr, cr, rfl, hkr, har, hbr0⟩
    have KR := Lib.hid hkr.out
    have RA := Lib.hid har.out
    have PA := Lib.hid (PA.out.below hbr0)
    have BC := Lib.hid (below_more BC.out hbr0)
    have D := Lib.hid (blk_keep hbr0 D.out)
    have DT := Lib.hid (blk_keep hbr0 DT.out)
    have NT := Lib.hid (NT.out.below hbr0)
    clear HRJ hbr0 hkr har x0 x1 x2 hz_x p0 p1 hz_p HQ0 G
    have HSS := Lib.hid (sameBx_eq Ap Ar kp kr cp cr bs wr0 KP.out KR.out PA.out RA.out (by have := HSL.out; omega))
    go_wp2_with fail
    refine HSS.out.mono ?_; rintro e wy ⟨rfl, hby⟩
    have BC := Lib.hid (below_more BC.out hby)
    have D := Lib.hid (blk_keep hby D.out)
    have DT := Lib.hid (blk_keep hby DT.out)
    have NT := Lib.hid (NT.out.below hby)
    clear HSS hby
    have he1 : (er == er) = true := by simp
    have x2 : wy.cell? ⟨w.heap.size, 2, none⟩ = some (.slice A N cap) := cell_of_blk D.out 2
    have t0 : wy.cell? ⟨wt.heap.size, 0, none⟩ = some (.slice A2 kt c2) := cell_of_blk DT.out 0
    have hzx := (Array.getElem?_eq_some_iff.1 D.out).1
    have hzt := (Array.getElem?_eq_some_iff.1 DT.out).1
    have HSJ := Lib.hid (show Calls Tryz.prog 29 #[.agg #[.slice A2 kt c2], .agg #[.slice A N cap]] wy (fun e w' => e = .returned (.bool true) ∧ Below wy.heap.size wy w') from
      rsameT_eq _ _ _ _ _ _ ns wy KT.out HN.out NT.out (N1.out.below BC.out) (by have := HNB.out.1; have := HN.out; omega))
    go_wp2_with fail
    refine HSJ.out.mono ?_; rintro e ws ⟨rfl, hbs⟩
    have BC := Lib.hid (below_more BC.out hbs)
    clear HSJ hbs x2 t0 hzx hzt
    go_wp2_with fail
    refine (works4b_any _).mono ?_; rintro e wz ⟨rfl, hbz⟩
    go_wp2
    go_ret
    exact ⟨rfl, below_more HB.out (below_more B1.out (below_more BC.out hbz))⟩
end Go.Proofs.YtmiokllpdmmfhaaGreat
