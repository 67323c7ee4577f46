/-
  The natural size of a node (Natural), by the specification, with its errors.
-/
import Derived.Test.YtcijomljopbelaaGreatRsi
import Derived.Test.YtcijomljopbelaaGreatGbD
import Derived.Test.YtcijomljopbelaaGreatRnQ
import Derived.Test.YtcijomljopbelaaGreatGaH
namespace Go.Proofs.YtcijomljopbelaaGreat
open Go.RowKit

set_option maxRecDepth 100000 in
set_option maxHeartbeats 8000000 in
theorem rboth_any (L : Lm) (A : Option Addr) (cap : Nat) (ns : List Nd) (way len : Int) (w : World) (hl : LmOk w L) (hn : NdsAt w A ns) (hc1 : ns.length ≤ cap) (hc : cap ≤ maxLen) :
    Calls Tryz.prog 57 #[.agg #[.int .i64 L.per, .slice L.A L.ms.length L.cap], .agg #[.slice A ns.length cap], .agg #[.int .i64 way, .int .i64 len]] w fun e w' => e = .returned (.int .i64 (bothE L.li ns way len)) ∧ Below w.heap.size w w' := by
  obtain ⟨E, hE⟩ : ∃ E, textErr L.li ns = E := ⟨_, rfl⟩
  have HCK := Lib.hid (fun wx (hb : Below w.heap.size w wx) => show Calls Tryz.prog 43 #[.agg #[.int .i64 L.per, .slice L.A L.ms.length L.cap], .agg #[.slice A ns.length cap]] wx (fun e w' => e = .returned (.int .i64 E) ∧ Below wx.heap.size wx w') from rgcheck_is L A cap ns wx (hl.below hb) (hn.below hb) hc1 hc E hE)
  have HPG := Lib.hid (fun wx => rpage_any way len wx)
  have HR := Lib.hid (show bothE L.li ns way len = if E ≠ 0 then E else pageErr way len by unfold bothE; rw [hE])
  obtain ⟨R, hR⟩ : ∃ R, R = bothE L.li ns way len := ⟨_, rfl⟩
  obtain ⟨G, hG⟩ : ∃ G, G = pageErr way len := ⟨_, rfl⟩
  rw [← hR, ← hG] at HR
  rw [← hG] at HPG
  rw [← hR]
  obtain ⟨N, hN⟩ : ∃ N, N = ns.length := ⟨_, rfl⟩
  rw [← hN] at HCK hc1 ⊢
  unfold maxLen at hc
  clear hl hn hE hR hG hN
  obtain ⟨W1, hW1⟩ : ∃ W', W' = w.alloc (.cells #[.int .i64 L.per, .slice L.A L.ms.length L.cap] 24) := ⟨_, rfl⟩; obtain ⟨W2, hW2⟩ : ∃ W', W' = W1.alloc (.cells #[.slice A N cap] 27) := ⟨_, rfl⟩; obtain ⟨W, hW⟩ : ∃ W', W' = W2.alloc (.cells #[.int .i64 way, .int .i64 len] 31) := ⟨_, rfl⟩; have szW1 : W1.heap.size = w.heap.size + 1 := (by rw [hW1]; simp); have kbW1 : Below w.heap.size w W1 := hW1 ▸ below_alloc _ _; have szW2 : W2.heap.size = w.heap.size + 1 + 1 := (by rw [hW2]; simp [szW1]); have kbW2 : Below W1.heap.size W1 W2 := hW2 ▸ below_alloc _ _; have szW : W.heap.size = w.heap.size + 1 + 1 + 1 := (by rw [hW]; simp [szW2]); have kbW : Below W2.heap.size W2 W := hW ▸ below_alloc _ _; have HB := Lib.hid (below_more (below_more kbW1 kbW2) kbW); have D0 := Lib.hid (blk_keep kbW (blk_keep kbW2 (show W1.heap[w.heap.size]? = some (.cells #[.int .i64 L.per, .slice L.A L.ms.length L.cap] 24 (0, 0)) by rw [hW1]; exact heap_alloc_new _ _))); have D1 := Lib.hid (blk_keep kbW (show W2.heap[w.heap.size + 1]? = some (.cells #[.slice A N cap] 27 (0, 0)) by rw [hW2, ← szW1]; exact heap_alloc_new _ _)); have D2 := Lib.hid (show W.heap[w.heap.size + 1 + 1]? = some (.cells #[.int .i64 way, .int .i64 len] 31 (0, 0)) by rw [hW, ← szW2]; exact heap_alloc_new _ _); have SZW := Lib.hid szW; clear szW1 kbW1 szW2 kbW2 szW kbW
  have x0 := cell_of_blk D0.out 0; have x1 := cell_of_blk D0.out 1; have hz_x := (Array.getElem?_eq_some_iff.1 D0.out).1; simp at x0 x1
  have y0 := cell_of_blk D1.out 0; have hz_y := (Array.getElem?_eq_some_iff.1 D1.out).1; simp at y0
  go_enter Tryz.func57, Tryz.ntmps57
  go_wp2_with fail
  rw [← hW1, ← hW2, ← hW]; clear hW1 hW2 hW
  go_wp2_with fail
  refine (HCK.out _ HB.out).mono ?_; rintro e w1 ⟨rfl, hb1⟩
  have HB1 := Lib.hid (below_more HB.out hb1)
  have D2 := Lib.hid (blk_keep hb1 D2.out)
  clear hb1 x0 x1 hz_x y0 hz_y
  by_cases h0 : E = 0
  · subst h0
    have HF := Lib.hid (show R = G by rw [HR.out]; simp)
    clear HR
    have p0 := cell_of_blk D2.out 0; have p1 := cell_of_blk D2.out 1; have hz_p := (Array.getElem?_eq_some_iff.1 D2.out).1; simp at p0 p1
    go_wp2_with fail
    refine (HPG.out _).mono ?_; rintro e w2 ⟨rfl, hb2⟩
    have HB2 := Lib.hid (below_more HB1.out hb2)
    clear hb2 p0 p1 hz_p
    go_wp2_with fail
    go_ret
    exact ⟨of_int HF.out.symm, HB2.out⟩
  · have hb : (E != 0) = true := by simpa using h0
    have HF := Lib.hid (show R = E by rw [HR.out, if_pos h0])
    clear HR h0
    go_wp2_with fail
    go_ret
    exact ⟨of_int HF.out.symm, HB1.out⟩
theorem rboth_is (L : Lm) (A : Option Addr) (cap : Nat) (ns : List Nd) (way len : Int) (w : World) (hl : LmOk w L) (hn : NdsAt w A ns) (hc1 : ns.length ≤ cap) (hc : cap ≤ maxLen) (E : Int) (h : bothE L.li ns way len = E) :
    Calls Tryz.prog 57 #[.agg #[.int .i64 L.per, .slice L.A L.ms.length L.cap], .agg #[.slice A ns.length cap], .agg #[.int .i64 way, .int .i64 len]] w fun e w' => e = .returned (.int .i64 E) ∧ Below w.heap.size w w' := by
  rw [← h]; exact rboth_any L A cap ns way len w hl hn hc1 hc

set_option maxRecDepth 100000 in
set_option maxHeartbeats 16000000 in
theorem rnat_any (L : Lm) (A : Option Addr) (cap : Nat) (ns : List Nd) (way len node : Int) (w : World) (hl : LmOk w L) (hn : NdsAt w A ns) (hc1 : ns.length ≤ cap) (hc : cap ≤ maxLen) :
    Calls Tryz.prog 18 #[.agg #[.int .i64 L.per, .slice L.A L.ms.length L.cap], .agg #[.slice A ns.length cap], .agg #[.int .i64 way, .int .i64 len], .int .i64 node] w (GotIII (natQ L.li way len ns node) w) := by
  obtain ⟨E, hE⟩ : ∃ E, bothE L.li ns way len = E := ⟨_, rfl⟩
  have HBO := Lib.hid (fun wx (hb : Below w.heap.size w wx) => rboth_is L A cap ns way len wx (hl.below hb) (hn.below hb) hc1 hc E hE)
  obtain ⟨Q, hQ⟩ : ∃ Q, Q = natQ L.li way len ns node := ⟨_, rfl⟩
  have HQ := Lib.hid (show Q = if E ≠ 0 then (0, 0, E) else if outB ns.length node then (0, 0, 1)
      else ((natR L.li (cwN way) ns (regQ plainP L.li ns).1 node.toNat).1, (natR L.li (cwN way) ns (regQ plainP L.li ns).1 node.toNat).2, 0) by rw [hQ]; unfold natQ; rw [hE])
  rw [← hQ]
  have HEE := Lib.hid hE
  have HL := Lib.hid hl
  have HNS := Lib.hid hn
  have HCM := Lib.hid hc
  have HPL := Lib.hid (fun wx (hb : Below w.heap.size w wx) => rplain_any2 L A cap ns wx (hl.below hb) (hn.below hb) hc1 hc)
  obtain ⟨N, hN⟩ : ∃ N, N = ns.length := ⟨_, rfl⟩
  have HNN := Lib.hid hN
  rw [← hN] at HBO HPL HQ hc1 ⊢
  unfold maxLen at hc
  clear hl hn hE hQ hN
  obtain ⟨W1, hW1⟩ : ∃ W', W' = w.alloc (.cells #[.int .i64 L.per, .slice L.A L.ms.length L.cap] 24) := ⟨_, rfl⟩; obtain ⟨W2, hW2⟩ : ∃ W', W' = W1.alloc (.cells #[.slice A N cap] 27) := ⟨_, rfl⟩; obtain ⟨W, hW⟩ : ∃ W', W' = W2.alloc (.cells #[.int .i64 way, .int .i64 len] 31) := ⟨_, rfl⟩; have szW1 : W1.heap.size = w.heap.size + 1 := (by rw [hW1]; simp); have kbW1 : Below w.heap.size w W1 := hW1 ▸ below_alloc _ _; have szW2 : W2.heap.size = w.heap.size + 1 + 1 := (by rw [hW2]; simp [szW1]); have kbW2 : Below W1.heap.size W1 W2 := hW2 ▸ below_alloc _ _; have szW : W.heap.size = w.heap.size + 1 + 1 + 1 := (by rw [hW]; simp [szW2]); have kbW : Below W2.heap.size W2 W := hW ▸ below_alloc _ _; have HB := Lib.hid (below_more (below_more kbW1 kbW2) kbW); have D0 := Lib.hid (blk_keep kbW (blk_keep kbW2 (show W1.heap[w.heap.size]? = some (.cells #[.int .i64 L.per, .slice L.A L.ms.length L.cap] 24 (0, 0)) by rw [hW1]; exact heap_alloc_new _ _))); have D1 := Lib.hid (blk_keep kbW (show W2.heap[w.heap.size + 1]? = some (.cells #[.slice A N cap] 27 (0, 0)) by rw [hW2, ← szW1]; exact heap_alloc_new _ _)); have D2 := Lib.hid (show W.heap[w.heap.size + 1 + 1]? = some (.cells #[.int .i64 way, .int .i64 len] 31 (0, 0)) by rw [hW, ← szW2]; exact heap_alloc_new _ _); have SZW := Lib.hid szW; clear szW1 kbW1 szW2 kbW2 szW kbW
  have x0 := cell_of_blk D0.out 0; have x1 := cell_of_blk D0.out 1; have hz_x := (Array.getElem?_eq_some_iff.1 D0.out).1; simp at x0 x1
  have y0 := cell_of_blk D1.out 0; have hz_y := (Array.getElem?_eq_some_iff.1 D1.out).1; simp at y0
  have p0 := cell_of_blk D2.out 0; have p1 := cell_of_blk D2.out 1; have hz_p := (Array.getElem?_eq_some_iff.1 D2.out).1; simp at p0 p1
  go_enter Tryz.func18, Tryz.ntmps18
  go_wp2_with fail
  rw [← hW1, ← hW2, ← hW]; clear hW1 hW2 hW
  go_wp2_with fail
  refine (HBO.out _ HB.out).mono ?_; rintro e w1 ⟨rfl, hb1⟩
  have HB1 := Lib.hid (below_more HB.out hb1)
  have D0 := Lib.hid (blk_keep hb1 D0.out)
  have D1 := Lib.hid (blk_keep hb1 D1.out)
  have D2 := Lib.hid (blk_keep hb1 D2.out)
  clear hb1 HBO x0 x1 hz_x y0 hz_y p0 p1 hz_p
  have y0 := cell_of_blk D1.out 0; have hz_y := (Array.getElem?_eq_some_iff.1 D1.out).1; simp at y0
  by_cases h0 : E = 0
  case neg =>
    have hb : (E != 0) = true := by simpa using h0
    have HF := Lib.hid (show Q = (0, 0, E) by rw [HQ.out, if_pos h0])
    clear HQ h0
    go_wp2_with fail
    go_ret3
    exact gotIII HF.out HB1.out
  subst h0
  have HQ := Lib.hid (show Q = if outB N node then (0, 0, 1) else ((natR L.li (cwN way) ns (regQ plainP L.li ns).1 node.toNat).1, (natR L.li (cwN way) ns (regQ plainP L.li ns).1 node.toNat).2, 0) by rw [HQ.out]; simp)
  by_cases hneg : node < 0
  · have HF := Lib.hid (show Q = (0, 0, 1) by rw [HQ.out, if_pos (by unfold outB; simp [hneg])])
    clear HQ
    go_wp2_with fail
    go_ret3
    exact gotIII HF.out HB1.out
  by_cases hbig : (N : Int) ≤ node
  · have HF := Lib.hid (show Q = (0, 0, 1) by rw [HQ.out, if_pos (by unfold outB; simp [hbig])])
    have d1 : decide (node < 0) = false := decide_eq_false hneg
    have d2 : decide ((N : Int) ≤ node) = true := decide_eq_true hbig
    clear HQ
    go_wp2_with fail
    go_ret3
    exact gotIII HF.out HB1.out
  obtain ⟨i, rfl⟩ : ∃ i : Nat, node = (i : Int) := ⟨node.toNat, by omega⟩
  have hiN : i < N := by omega
  have ht : textErr L.li ns = 0 ∧ pageErr way len = 0 := by
    have := HEE.out
    unfold bothE at this
    split at this
    · omega
    · exact ⟨by omega, this⟩
  obtain ⟨u, hu⟩ : ∃ u, ns[i]? = some u := ⟨_, List.getElem?_eq_getElem (by have := HNN.out; omega)⟩
  have hq : regQ plainP L.li ns = ((regQ plainP L.li ns).1, 0) := by rw [plainT_is ht.1]
  obtain ⟨zs, hzs⟩ : ∃ zs, zs = (regQ plainP L.li ns).1 := ⟨_, rfl⟩
  rw [← hzs] at hq
  have hp := plain_pln ht.1 hq
  have HF := Lib.hid (show Q = ((natR L.li (cwN way) ns zs i).1, (natR L.li (cwN way) ns zs i).2, 0) by
    rw [HQ.out, if_neg (by unfold outB; simp; omega), Int.toNat_natCast, hzs])
  obtain ⟨a, v, hv, hsum, hnr, -⟩ := nat_both (cwN way) ht.1 hq hu
  have hpl := (text_ok hp.ok).2.1
  have h200 := (text_ok ht.1).2.1
  obtain ⟨V, hV⟩ : ∃ V, V = wrB u := ⟨_, rfl⟩
  rw [← hV] at hsum hnr
  have HWH := Lib.hid (fun (x : Nd) (j : Nat) (hx : ns[j]? = some x) => wr_hon ht.1 hx)
  have HU := Lib.hid hu
  have HVV := Lib.hid hV
  have HSZ := Lib.hid (fun wx (hb : Below w.heap.size w wx) (Ap : Option Addr) (cp : Nat) (hz : NdsAt wx Ap zs) (h1 : zs.length ≤ cp) (h2 : cp ≤ maxLen) => show Calls Tryz.prog 58 #[.agg #[.int .i64 L.per, .slice L.A L.ms.length L.cap], .agg #[.slice Ap zs.length cp], .agg #[.int .i64 way, .int .i64 len], .int .i64 (a : Int), .bool V] wx (fun e w' => e = .returned (.tuple #[.int .i64 (natR L.li (cwN way) ns zs i).1, .int .i64 (natR L.li (cwN way) ns zs i).2]) ∧ Below wx.heap.size wx w') by
    rw [hnr]
    exact rsz_any L way len Ap cp zs hp h1 h2 5 a v V wx hv (by have := (hp.full.depth v (List.mem_of_getElem? hv)).1; omega) (Nat.le_refl _) (HL.out.below hb) hz)
  rw [hq] at HPL
  dsimp only at HPL
  obtain ⟨⟨r1, r2⟩, hr⟩ : ∃ r, r = natR L.li (cwN way) ns zs i := ⟨_, rfl⟩
  rw [← hr] at HSZ HF
  dsimp only at HSZ HF
  obtain ⟨c, hcc⟩ : ∃ c, c = cntW (ns.take i) := ⟨_, rfl⟩
  have HCC := Lib.hid hcc
  rw [← hcc] at hsum
  have HSM := Lib.hid hsum
  have hca : c ≤ i := by omega
  have d1 : decide ((i : Int) < 0) = false := decide_eq_false (by omega)
  have d2 : decide ((N : Int) ≤ (i : Int)) = false := decide_eq_false (by omega)
  have d3 : decide (N ≤ i) = false := decide_eq_false (by omega)
  clear hneg hbig ht hu hq hzs hp hv hsum hnr hV hr hcc HQ hpl
  rw [← HNN.out] at h200
  have x0 := cell_of_blk D0.out 0; have x1 := cell_of_blk D0.out 1; have hz_x := (Array.getElem?_eq_some_iff.1 D0.out).1; simp at x0 x1
  go_wp2_with fail
  refine (HPL.out _ HB1.out).mono ?_; rintro e w2 ⟨Ap, kp, cp, rfl, hkp, hown, hb2⟩
  have HB2 := Lib.hid (below_more HB1.out hb2)
  have D0 := Lib.hid (blk_keep hb2 D0.out)
  have D1 := Lib.hid (blk_keep hb2 D1.out)
  have D2 := Lib.hid (blk_keep hb2 D2.out)
  have hkz := hkp.out
  subst hkz
  have HO := Lib.hid hown.out
  clear hkp hown hb2 HPL x0 x1 hz_x y0 hz_y d1 d2 d3
  have y0 := cell_of_blk D1.out 0; have hz_y := (Array.getElem?_eq_some_iff.1 D1.out).1; simp at y0
  go_wp2_with fail
  obtain ⟨V3, hV3⟩ : ∃ V3, V3 = w2.alloc (.cells #[.slice Ap zs.length cp] 27) := ⟨_, rfl⟩
  have k3 : Below w2.heap.size w2 V3 := hV3 ▸ below_alloc _ _
  have D3 := Lib.hid (show V3.heap[w2.heap.size]? = some (.cells #[.slice Ap zs.length cp] 27 (0, 0)) from hV3 ▸ heap_alloc_new _ _)
  have HB3 := Lib.hid (below_more HB2.out k3)
  have D0 := Lib.hid (blk_keep k3 D0.out)
  have D1 := Lib.hid (blk_keep k3 D1.out)
  have D2 := Lib.hid (blk_keep k3 D2.out)
  have HZ := Lib.hid ((own_nodes HO.out).below k3)
  obtain ⟨hz1, hz2, -⟩ := own_len HO.out
  have HZ2 := Lib.hid hz2
  unfold maxLen at hz2
  rw [← hV3]
  clear hV3 k3 HO y0 hz_y
  have y0 := cell_of_blk D1.out 0; have hz_y := (Array.getElem?_eq_some_iff.1 D1.out).1; simp at y0
  go_loop [14, 15] (fun g j => ∃ k m : Nat, k ≤ i ∧ j = .int .i64 k ∧ m ≤ k ∧ g = .int .i64 m ∧ Hid (m = cntW (ns.take k))) (fun _ j => i - (intOf j).toNat)
  case atStart => exact ⟨0, 0, Nat.zero_le _, rfl, Nat.le_refl _, rfl, Lib.hid (by simp [cntW])⟩
  case round =>
    obtain ⟨k, m, hk, rfl, hmk, rfl, hmm⟩ := hrel
    have HM := Lib.hid hmm.out
    clear hmm
    by_cases hlt : k < i
    · obtain ⟨x, hx⟩ : ∃ x, ns[k]? = some x := ⟨_, List.getElem?_eq_getElem (by have := HNN.out; omega)⟩
      obtain ⟨b, o, hA, hbl, v0⟩ := HNS.out k x hx
      subst hA
      have z0 := (v0.below HB3.out hbl).c0
      have z1 := (v0.below HB3.out hbl).c1
      have HS := Lib.hid (cntW_step hx)
      have hw := HWH.out x k hx
      obtain ⟨K7, hK7⟩ : ∃ K, (x.kind == 7) = K := ⟨_, rfl⟩
      obtain ⟨D1', hD1⟩ : ∃ K, (x.depth == 1) = K := ⟨_, rfl⟩
      rw [hK7, hD1] at hw
      rw [hw] at HS
      have hbr : b < V3.heap.size := by have := HB3.out.size; omega
      have hki : (0 : Int) ≤ (k : Int) := by omega
      have hkN : (k : Int) < (N : Int) := by omega
      have hkI : (k : Int) < (i : Int) := by omega
      clear hx v0 hw
      cases K7
      · have HS2 := Lib.hid (show m = cntW (ns.take (k + 1)) by rw [HS.out, HM.out]; rfl)
        clear HS
        go_wp2_with fail
        go_round
        case rel => exact ⟨k + 1, m, by omega, by go_num, by omega, rfl, HS2⟩
        case measure => simp [intOf]; omega
      · cases D1'
        · have HS2 := Lib.hid (show m = cntW (ns.take (k + 1)) by rw [HS.out, HM.out]; rfl)
          clear HS
          go_wp2_with fail
          go_round
          case rel => exact ⟨k + 1, m, by omega, by go_num, by omega, rfl, HS2⟩
          case measure => simp [intOf]; omega
        · have HS2 := Lib.hid (show m + 1 = cntW (ns.take (k + 1)) by rw [HS.out, HM.out]; rfl)
          clear HS
          go_wp2_with fail
          go_round
          case rel => exact ⟨k + 1, m + 1, by omega, by go_num, by omega, by go_num, HS2⟩
          case measure => simp [intOf]; omega
    · obtain rfl : k = i := by omega
      obtain rfl : m = c := by rw [HM.out, HCC.out]
      have hu := HU.out
      obtain ⟨b, o, hA, hbl, v0⟩ := HNS.out k u hu
      subst hA
      have z0 := (v0.below HB3.out hbl).c0
      have z1 := (v0.below HB3.out hbl).c1
      have hw := HWH.out u k hu
      rw [← HVV.out] at hw
      obtain ⟨K7, hK7⟩ : ∃ K, (u.kind == 7) = K := ⟨_, rfl⟩
      obtain ⟨D1', hD1⟩ : ∃ K, (u.depth == 1) = K := ⟨_, rfl⟩
      rw [hK7, hD1] at hw
      have hbr : b < V3.heap.size := by have := HB3.out.size; omega
      have hki : (0 : Int) ≤ (k : Int) := by omega
      have hkN : (k : Int) < (N : Int) := by omega
      have HSC := Lib.hid (HSZ.out V3 HB3.out Ap cp HZ.out hz1 HZ2.out)
      have hsm := HSM.out
      have x0 := cell_of_blk D0.out 0; have x1 := cell_of_blk D0.out 1; have hz_x := (Array.getElem?_eq_some_iff.1 D0.out).1; simp at x0 x1
      have p0 := cell_of_blk D2.out 0; have p1 := cell_of_blk D2.out 1; have hz_p := (Array.getElem?_eq_some_iff.1 D2.out).1; simp at p0 p1
      have q0 := cell_of_blk D3.out 0; have hz_q := (Array.getElem?_eq_some_iff.1 D3.out).1; simp at q0
      clear hu v0 HSZ HWH hlt
      cases K7
      · have hV : V = false := by rw [hw]; rfl
        subst hV
        clear hw
        have hpre : (k : Int) - (m : Int) = (a : Int) := by simp at hsm; omega
        clear hsm
        go_wp2_with fail
        refine (HSC.out).mono ?_; rintro e w4 ⟨rfl, hb4⟩
        have HB4 := Lib.hid (below_more HB3.out hb4)
        clear hb4
        go_wp2_with fail
        go_ret3
        exact gotIII HF.out HB4.out
      · cases D1'
        · have hV : V = false := by rw [hw]; rfl
          subst hV
          clear hw
          have hpre : (k : Int) - (m : Int) = (a : Int) := by simp at hsm; omega
          clear hsm
          go_wp2_with fail
          refine (HSC.out).mono ?_; rintro e w4 ⟨rfl, hb4⟩
          have HB4 := Lib.hid (below_more HB3.out hb4)
          clear hb4
          go_wp2_with fail
          go_ret3
          exact gotIII HF.out HB4.out
        · have hV : V = true := by rw [hw]; rfl
          subst hV
          clear hw
          have hpre : (k : Int) - 1 - (m : Int) = (a : Int) := by simp at hsm; omega
          clear hsm
          go_wp2_with fail
          refine (HSC.out).mono ?_; rintro e w4 ⟨rfl, hb4⟩
          have HB4 := Lib.hid (below_more HB3.out hb4)
          clear hb4
          go_wp2_with fail
          go_ret3
          exact gotIII HF.out HB4.out

end Go.Proofs.YtcijomljopbelaaGreat
