/-
  The specification's Fisher (layer 9).
-/
import Derived.Test.YtcpfhaoecggflaaZRch
import Derived.Test.YtcpfhaoecggflaaZGood
import Derived.Test.YtcpfhaoecggflaaZFis
namespace Go.Proofs.Ytcpfhaoecggflaa
open Go.RowKit

set_option maxRecDepth 100000 in
set_option maxHeartbeats 8000000 in
theorem rfisher_any (a b c d : Int) (w : World) : Calls Try.prog 28 #[.agg #[.int .i64 a, .int .i64 b], .agg #[.int .i64 c, .int .i64 d]] w (GotFrac w (fishQ a b c d)) := by
  obtain ⟨W1, hW1⟩ : ∃ W', W' = w.alloc (.cells #[.int .i64 a, .int .i64 b] 51) := ⟨_, rfl⟩; obtain ⟨W2, hW2⟩ : ∃ W', W' = W1.alloc (.cells #[.int .i64 c, .int .i64 d] 51) := ⟨_, rfl⟩; obtain ⟨W, hW⟩ : ∃ W', W' = W2.alloc (.cells #[.int .i64 0, .int .i64 0] 56) := ⟨_, rfl⟩; have szW1 : W1.heap.size = w.heap.size + 1 := (by rw [hW1]; simp); have kbW1 : Below w.heap.size w W1 := hW1 ▸ below_alloc _ _; have szW2 : W2.heap.size = w.heap.size + 1 + 1 := (by rw [hW2]; simp [szW1]); have kbW2 : Below W1.heap.size W1 W2 := hW2 ▸ below_alloc _ _; have szW : W.heap.size = w.heap.size + 1 + 1 + 1 := (by rw [hW]; simp [szW2]); have kbW : Below W2.heap.size W2 W := hW ▸ below_alloc _ _; have HB := Lib.hid (below_more (below_more kbW1 kbW2) kbW); have D0 := Lib.hid (blk_keep kbW (blk_keep kbW2 (show W1.heap[w.heap.size]? = some (.cells #[.int .i64 a, .int .i64 b] 51 (0, 0)) by rw [hW1]; exact heap_alloc_new _ _))); have D1 := Lib.hid (blk_keep kbW (show W2.heap[w.heap.size + 1]? = some (.cells #[.int .i64 c, .int .i64 d] 51 (0, 0)) by rw [hW2, ← szW1]; exact heap_alloc_new _ _)); have D2 := Lib.hid (show W.heap[w.heap.size + 1 + 1]? = some (.cells #[.int .i64 0, .int .i64 0] 56 (0, 0)) by rw [hW, ← szW2]; exact heap_alloc_new _ _); have SZW := Lib.hid szW; clear szW1 kbW1 szW2 kbW2 szW kbW
  obtain ⟨V, hV⟩ : ∃ V, V = tallyB a b c d := ⟨_, rfl⟩
  have HV := Lib.hid hV
  have HGD := Lib.hid (show Calls Try.prog 67 #[.agg #[.int .i64 a, .int .i64 b], .agg #[.int .i64 c, .int .i64 d]] W (fun e w' => e = .returned (.bool V) ∧ Below W.heap.size W w') by rw [hV]; exact good_any a b c d W)
  clear hV
  go_enter Try.func28, Try.ntmps28
  go_wp2_with fail
  rw [← hW1, ← hW2, ← hW]; clear hW1 hW2 hW
  refine HGD.out.mono ?_; rintro e U ⟨rfl, kU⟩
  have HB := Lib.hid (below_more HB.out kU)
  have D0 := Lib.hid (blk_keep kU D0.out)
  have D1 := Lib.hid (blk_keep kU D1.out)
  have D2 := Lib.hid (blk_keep kU D2.out)
  clear kU HGD
  cases V with
  | false =>
    have HQ := Lib.hid (show fishQ a b c d = ((0, 0), 80) by unfold fishQ; rw [← HV.out]; rfl)
    have z0 := cell_of_blk D2.out 0; have zf0 := free_of_blk D2.out 0; have z1 := cell_of_blk D2.out 1; have zf1 := free_of_blk D2.out 1; have hz_z := (Array.getElem?_eq_some_iff.1 D2.out).1; simp at z0 z1
    go_wp2
    rw [HQ.out]
    refine bodyPost_ret (v := .tuple #[.agg #[.int .i64 0, .int .i64 0], .int .i64 80]) ?_ rfl ⟨rfl, ?_⟩
    · simp [results, Try.results28, go_sem, z0, z1]
    · exact (HB.out.setCell (by simp; omega) _).setCell (by simp; omega) _
  | true =>
    have HT := tally_in HV.out.symm
    obtain ⟨p, rfl⟩ := Int.eq_ofNat_of_zero_le HT.1
    obtain ⟨q, rfl⟩ := Int.eq_ofNat_of_zero_le HT.2.1
    obtain ⟨c1, rfl⟩ := Int.eq_ofNat_of_zero_le HT.2.2.1
    obtain ⟨d1, rfl⟩ := Int.eq_ofNat_of_zero_le HT.2.2.2.1
    have hsum : p + q + c1 + d1 ≤ 60 := by have := HT.2.2.2.2; omega
    have HQ := Lib.hid (show fishQ p q c1 d1 = ((((((fishN (p + q) (c1 + d1) (p + c1) p).1 / Nat.gcd (fishN (p + q) (c1 + d1) (p + c1) p).1 (fishN (p + q) (c1 + d1) (p + c1) p).2 : Nat) : Int), (((fishN (p + q) (c1 + d1) (p + c1) p).2 / Nat.gcd (fishN (p + q) (c1 + d1) (p + c1) p).1 (fishN (p + q) (c1 + d1) (p + c1) p).2 : Nat) : Int))), 0) by
      unfold fishQ; rw [← HV.out, if_pos rfl]; rfl)
    clear HT HV
    go_wp2_with fail
    have x0 := cell_of_blk D0.out 0; have x1 := cell_of_blk D0.out 1; have hz_x := (Array.getElem?_eq_some_iff.1 D0.out).1; simp at x0 x1
    have y0 := cell_of_blk D1.out 0; have y1 := cell_of_blk D1.out 1; have hz_y := (Array.getElem?_eq_some_iff.1 D1.out).1; simp at y0 y1
    obtain ⟨m, hm⟩ : ∃ m, m = p + q := ⟨_, rfl⟩
    obtain ⟨n, hn⟩ : ∃ n, n = c1 + d1 := ⟨_, rfl⟩
    obtain ⟨r, hr⟩ : ∃ r, r = p + c1 := ⟨_, rfl⟩
    obtain ⟨M, hM⟩ : ∃ M, M = m + n := ⟨_, rfl⟩
    have hpr : p ≤ m ∧ p ≤ r ∧ r - p ≤ n ∧ r ≤ m + n ∧ m + n ≤ 60 ∧ r - n ≤ p := by omega
    have em : (p : Int) + (q : Int) = (m : Int) := by omega
    have er : (p : Int) + (c1 : Int) = (r : Int) := by omega
    have eM : (m : Int) + (c1 : Int) + (d1 : Int) = (M : Int) := by omega
    have hsr : r - p = c1 := by omega
    rw [← hm, ← hn, ← hr] at HQ
    have HEM := Lib.hid em
    have HER := Lib.hid er
    have HEE := Lib.hid eM
    have HMM := Lib.hid hM
    have HRP := Lib.hid hsr
    have HPR := Lib.hid hpr
    have hm6 : m ≤ 60 := by omega
    have hn6 : n ≤ 60 := by omega
    have hr6 : r ≤ 60 := by omega
    have hM6 : M ≤ 60 := by omega
    have hs6 : c1 ≤ 60 := by omega
    have ht6 : d1 ≤ 60 := by omega
    have hpm : p ≤ m := by omega
    have hsn : c1 ≤ n := by omega
    have w1 : IntKind.i64.wrap ((p : Int) + (q : Int)) = (m : Int) := by rw [em]; exact IntWalk.i64_in _ (by omega)
    have w2 : IntKind.i64.wrap ((p : Int) + (c1 : Int)) = (r : Int) := by rw [er]; exact IntWalk.i64_in _ (by omega)
    clear hm hn hr hM em er eM hsr hpr hsum
    refine wp_region_later (by kernel_rfl) (by kernel_rfl) ?_; (repeat (first | go_big_quiet_step (fail) | quiet_step (fail))); refine wpQuiet_nil ?_; rintro _ ⟨s, rfl⟩
    clear w1 w2
    have HU := Lib.hid (below_more HB.out s.below)
    have D0 := Lib.hid (blk_keep s.below D0.out)
    have D1 := Lib.hid (blk_keep s.below D1.out)
    have D2 := Lib.hid (blk_keep s.below D2.out)
    obtain ⟨Y, hY⟩ : ∃ Y, Y = s.w := ⟨_, rfl⟩
    rw [← hY] at HU D0 D1 D2 ⊢
    clear hY s x0 x1 hz_x y0 y1 hz_y
    have x0 := cell_of_blk D0.out 0; have x1 := cell_of_blk D0.out 1; have hz_x := (Array.getElem?_eq_some_iff.1 D0.out).1; simp at x0 x1
    have y0 := cell_of_blk D1.out 0; have y1 := cell_of_blk D1.out 1; have hz_y := (Array.getElem?_eq_some_iff.1 D1.out).1; simp at y0 y1
    go_upto_region 5 with fail
    rw [HEE.out]
    have HCH := Lib.hid (fun (k1 k2 : Nat) wx (h1 : k1 ≤ 60) (h2 : k2 ≤ k1) => rchoose_any k1 k2 wx h1 h2)
    obtain ⟨lo, hlo⟩ : ∃ lo, lo = r - n := ⟨_, rfl⟩
    obtain ⟨mn, hmn⟩ : ∃ mn, mn = min r m := ⟨_, rfl⟩
    obtain ⟨N, hN⟩ : ∃ N, N = mn + 1 - lo := ⟨_, rfl⟩
    have hpr := HPR.out
    have hMM := HMM.out
    have hrp := HRP.out
    have HN := Lib.hid (show fishN m n r p = (someW m n r (wt m n r p) lo N, allW m n r lo N) by rw [hN, hlo, hmn]; rfl)
    have HLT := Lib.hid (show lo ≤ mn ∧ p ≤ mn ∧ lo ≤ p ∧ mn ≤ r ∧ mn ≤ m ∧ mn ≤ 60 ∧ lo + N = mn + 1 by omega)
    have HLM := Lib.hid (show (∀ y, lo ≤ y → y ≤ mn → y ≤ m ∧ y ≤ r ∧ r - y ≤ n) by intro y h1 h2; omega)
    have HIN := Lib.hid (fishN_in (m := m) (n := n) (r := r) (a := p) hpr.2.2.2.2.1 hpr.1 hpr.2.1 hpr.2.2.1)
    have HMN := Lib.hid hmn
    have HLO := Lib.hid hlo
    have HMn := Lib.hid (show (M : Int) - (m : Int) = (n : Int) by omega)
    have v1 : IntKind.i64.wrap ((M : Int) - (m : Int)) = (n : Int) := by rw [HMn.out]; exact IntWalk.i64_in _ (by omega)
    have v2 : IntKind.i64.wrap ((r : Int) - (p : Int)) = (c1 : Int) := by rw [show (r : Int) - (p : Int) = (c1 : Int) by omega]; exact IntWalk.i64_in _ (by omega)
    have hwp := wt_60 (m := m) (n := n) r p hpr.2.2.2.2.1
    have HWP := Lib.hid (show ((bin m p : Nat) : Int) * ((bin n c1 : Nat) : Int) = ((wt m n r p : Nat) : Int) by unfold wt; rw [hrp]; exact (Int.natCast_mul _ _).symm)
    have v3 : IntKind.i64.wrap (((bin m p : Nat) : Int) * ((bin n c1 : Nat) : Int)) = ((wt m n r p : Nat) : Int) := by rw [HWP.out]; exact IntWalk.i64_in _ (by omega)
    clear hN hlo hmn hpr hMM hrp
    refine wp_region_later (by kernel_rfl) (by kernel_rfl) ?_; (repeat (first | go_big_quiet_step ((((go_at_call 68; exact Calls.later _ (HCH.out _ _ _ (by assumption) (by assumption)))))) | quiet_step ((((go_at_call 68; exact Calls.later _ (HCH.out _ _ _ (by assumption) (by assumption)))))))); refine wpQuiet_nil ?_; rintro _ ⟨s, rfl⟩
    clear v1 v2 v3
    have HU := Lib.hid (below_more HU.out s.below)
    have D0 := Lib.hid (blk_keep s.below D0.out)
    have D1 := Lib.hid (blk_keep s.below D1.out)
    have D2 := Lib.hid (blk_keep s.below D2.out)
    obtain ⟨V, hV⟩ : ∃ V, V = s.w := ⟨_, rfl⟩
    rw [← hV] at HU D0 D1 D2 ⊢
    clear hV s x0 x1 hz_x y0 y1 hz_y
    obtain ⟨f, hf⟩ : ∃ f, f = wt m n r := ⟨_, rfl⟩
    have HF6 := Lib.hid (show ∀ y, f y ≤ 1152921504606846976 from fun y => by rw [hf]; exact wt_60 (m := m) (n := n) r y HPR.out.2.2.2.2.1)
    have HFF := Lib.hid hf
    have hfp := HF6.out p
    rw [← hf] at hwp ⊢
    clear hf
    go_upto_region 7 with fail
    go_cut [12] (fun x wx => x = .int .i64 lo ∧ wx = V)
    case first =>
      have hmr : M ≤ 60 := hM6
      have e1 := HMn.out
      by_cases h : n < r
      · have e2 : (r : Int) - (n : Int) = (lo : Int) := by have := HLO.out; omega
        go_wp2_with fail
        all_goals (go_meet; exact ⟨by first | rfl | (congr 1; omega), rfl⟩)
      · have e2 : lo = 0 := by have := HLO.out; omega
        subst e2
        go_wp2_with fail
        all_goals (go_meet; exact ⟨by first | rfl | (congr 1; omega), rfl⟩)
    case rest =>
      obtain ⟨rfl, hwx⟩ := hcut
      rw [hwx]
      clear hwx
      go_wp2_with fail
      go_loopw [10, 11, 12] (fun u v x wr => ∃ (S T X k : Nat), k ≤ N ∧ u = .int .i64 S ∧ v = .int .i64 T ∧ x = .int .i64 X ∧ Hid (X = lo + k ∧ S = someW m n r (wt m n r p) lo k ∧ T = allW m n r lo k) ∧ Hid (Below V.heap.size V wr)) (fun _ _ x _ => mn + 1 - (intOf x).toNat)
      case atStart => exact ⟨0, 0, lo, 0, Nat.zero_le _, rfl, rfl, rfl, Lib.hid ⟨rfl, rfl, rfl⟩, Lib.hid (Below.refl _ _)⟩
      case round =>
        obtain ⟨S, T, X, k, hk, rfl, rfl, rfl, he, hb⟩ := hrel
        have HVR := Lib.hid hb.out
        rw [← HFF.out] at he
        clear hb
        by_cases hlt : X ≤ mn
        · have hX := HLM.out X (by rw [he.out.1]; omega) hlt
          have hXm : X ≤ m := hX.1
          have hXr : X ≤ r := hX.2.1
          have hXn : r - X ≤ n := hX.2.2
          have hkN : k < N := by have := HLT.out; have := he.out.1; omega
          clear hX
          have b1 := HF6.out X
          have b2 := Lib.hid (show S + f X ≤ 1152921504606846976 ∧ T + f X ≤ 1152921504606846976 by
            have h1 := someW_le m n r (f p) lo (k + 1)
            have h2 := allW_60 (m := m) (n := n) r lo (k + 1) HPR.out.2.2.2.2.1
            have h3 := someW_le m n r (f p) lo k
            obtain ⟨e1, e2, e3⟩ := he.out
            rw [allW, ← e1, ← e3, ← HFF.out] at h2
            rw [← e2, ← e3] at h3
            omega)
          have b3 := b2.out.1
          have b4 := b2.out.2
          have hT := Lib.hid (show T + f X = allW m n r lo (k + 1) by rw [allW, ← he.out.1, ← he.out.2.2, ← HFF.out])
          have HC1 := Lib.hid (fun wx => HCH.out m X wx hm6 hXm)
          have HC2 := Lib.hid (fun wx => HCH.out n (r - X) wx hn6 hXn)
          have HE1 := Lib.hid (show (r : Int) - (X : Int) = ((r - X : Nat) : Int) by omega)
          have HPP := Lib.hid (show ((bin m X : Nat) : Int) * ((bin n (r - X) : Nat) : Int) = ((f X : Nat) : Int) by rw [HFF.out]; unfold wt; exact (Int.natCast_mul _ _).symm)
          have v3 : IntKind.i64.wrap (((bin m X : Nat) : Int) * ((bin n (r - X) : Nat) : Int)) = ((f X : Nat) : Int) := by rw [HPP.out]; exact IntWalk.i64_in _ (by omega)
          have V3 := Lib.hid v3
          clear v3
          have hM0 := hM6
          go_upto_region 8 with fail
          go_cut [60] (fun b wx => b = .bool true ∧ wx = wr)
          case first =>
            rcases Nat.lt_or_ge m r with hrm | hrm
            all_goals
              go_wp2_with fail
              all_goals (go_meet; exact ⟨rfl, rfl⟩)
          case rest =>
            obtain ⟨rfl, hwx⟩ := hcut
            rw [hwx]
            clear hwx
            go_wp2_with fail
            refine (HC1.out _).mono ?_; rintro e v1 ⟨rfl, hb1⟩
            have hk1 := Lib.hid hb1
            clear hb1
            go_wp2_with fail
            rw [HMn.out, HE1.out]
            refine (HC2.out _).mono ?_; rintro e v2 ⟨rfl, hb2⟩
            have hk2 := Lib.hid (below_more hk1.out hb2)
            clear hb2
            have HPPo := HPP.out
            by_cases hle : f X ≤ f p
            · have hS := Lib.hid (show S + f X = someW m n r (f p) lo (k + 1) by rw [someW, ← he.out.1, ← he.out.2.1, ← HFF.out, if_pos hle])
              have hd1 : decide (f X ≤ f p) = true := by simpa using hle
              have hd2 : decide ((f X : Int) ≤ (f p : Int)) = true := by simpa using hle
              have V3o := V3.out
              go_wp2
              go_roundw
              case rel => exact ⟨S + f X, T + f X, X + 1, k + 1, hkN, by go_num, by go_num, by go_num, Lib.hid ⟨by rw [he.out.1]; rfl, by rw [← HFF.out]; exact hS.out, hT.out⟩, Lib.hid (below_more HVR.out hk2.out)⟩
              case measure => simp [intOf]; omega
            · have hS := Lib.hid (show S = someW m n r (f p) lo (k + 1) by rw [someW, ← he.out.1, ← he.out.2.1, ← HFF.out, if_neg hle]; rfl)
              have hd1 : decide (f X ≤ f p) = false := by simpa using hle
              have hd2 : decide ((f X : Int) ≤ (f p : Int)) = false := by simpa using hle
              have V3o := V3.out
              go_wp2
              go_roundw
              case rel => exact ⟨S, T + f X, X + 1, k + 1, hkN, by go_num, by go_num, by go_num, Lib.hid ⟨by rw [he.out.1]; rfl, by rw [← HFF.out]; exact hS.out, hT.out⟩, Lib.hid (below_more HVR.out hk2.out)⟩
              case measure => simp [intOf]; omega
        · have hkN : k = N := by have := HLT.out; have := he.out.1; omega
          subst hkN
          go_upto_region 8 with fail
          go_cut [60] (fun b wx => b = .bool false ∧ wx = wr)
          case first =>
            rcases Nat.lt_or_ge m r with hrm | hrm
            · have hq : m < X := by have := HMN.out; omega
              have hd : decide (X ≤ m) = false := by simp; omega
              go_wp2_with fail
              all_goals (go_meet; exact ⟨rfl, rfl⟩)
            · have hq : r < X := by have := HMN.out; omega
              have hd : decide (X ≤ r) = false := by simp; omega
              go_wp2_with fail
              all_goals (go_meet; exact ⟨rfl, rfl⟩)
          case rest =>
            obtain ⟨rfl, hwx⟩ := hcut
            rw [hwx]
            clear hwx
            have hST := Lib.hid (show fishN m n r p = (S, T) by rw [HN.out, ← HFF.out, ← he.out.2.1, ← he.out.2.2])
            have hin := Lib.hid (by have := HIN.out; rw [hST.out] at this; exact this)
            have hS1 : 1 ≤ S := hin.out.1
            have hS2 : S ≤ 1152921504606846976 := hin.out.2.1
            have hT2 : T ≤ 1152921504606846976 := hin.out.2.2
            have D2r := Lib.hid (blk_keep HVR.out D2.out)
            have HD := Lib.hid (rgcd_any S T wr (by omega) (by omega))
            have hg : 1 ≤ Nat.gcd S T := Nat.gcd_pos_of_pos_left _ hS1
            have hgS : Nat.gcd S T ≤ S := Nat.gcd_le_left _ hS1
            have hsg1 : S / Nat.gcd S T ≤ S := Nat.div_le_self _ _
            have htg1 : T / Nat.gcd S T ≤ T := Nat.div_le_self _ _
            have hqs : ((S : Int) / (Nat.gcd S T : Int)) = ((S / Nat.gcd S T : Nat) : Int) := (Int.natCast_ediv S _).symm
            have hqt : ((T : Int) / (Nat.gcd S T : Int)) = ((T / Nat.gcd S T : Nat) : Int) := (Int.natCast_ediv T _).symm
            have HRES := Lib.hid (show fishQ p q c1 d1 = ((((S / Nat.gcd S T : Nat) : Int), ((T / Nat.gcd S T : Nat) : Int)), 0) by rw [HQ.out, hST.out])
            obtain ⟨G, hG⟩ : ∃ G, G = Nat.gcd S T := ⟨_, rfl⟩
            rw [← hG] at HD hg hgS HRES hsg1 htg1 hqs hqt
            obtain ⟨sg, hsg⟩ : ∃ sg, sg = S / G := ⟨_, rfl⟩
            obtain ⟨tg, htg⟩ : ∃ tg, tg = T / G := ⟨_, rfl⟩
            rw [← hsg] at hsg1 hqs HRES
            rw [← htg] at htg1 hqt HRES
            have HQS := Lib.hid hqs
            have HQT := Lib.hid hqt
            clear hsg htg hqs hqt
            clear hG he hin
            go_wp2_with fail
            refine HD.out.mono ?_; rintro e v1 ⟨rfl, hb1⟩
            have HBV := Lib.hid (below_more (below_more HU.out HVR.out) hb1)
            have D2r := Lib.hid (blk_keep hb1 D2r.out)
            clear hb1 HD
            go_wp2_with fail
            have z0 := cell_of_blk D2r.out 0; have zf0 := free_of_blk D2r.out 0; have z1 := cell_of_blk D2r.out 1; have zf1 := free_of_blk D2r.out 1; have hz_z := (Array.getElem?_eq_some_iff.1 D2r.out).1; simp at z0 z1
            have i1 : ((G : Int) == 0) = false := by simp; omega
            have i2 : ¬ (G : Int) = 0 := by omega
            have i3 : (1 : Int) ≤ (G : Int) := by omega
            have t1 := Lib.hid (show (S : Int).tdiv (G : Int) = (sg : Int) by rw [Int.tdiv_eq_ediv_of_nonneg (by omega)]; exact HQS.out)
            have t2 := Lib.hid (show (T : Int).tdiv (G : Int) = (tg : Int) by rw [Int.tdiv_eq_ediv_of_nonneg (by omega)]; exact HQT.out)
            have w1 := IntWalk.i64_in (sg : Int) (by omega)
            have w2 := IntWalk.i64_in (tg : Int) (by omega)
            have q1 := HQS.out
            have q2 := HQT.out
            have t1 := t1.out
            have t2 := t2.out
            go_region
            go_wp2_with fail
            rw [HRES.out]
            clear q1 q2 t1 t2 w1 w2
            refine bodyPost_ret (v := .tuple #[.agg #[.int .i64 sg, .int .i64 tg], .int .i64 0]) ?_ rfl ⟨rfl, ?_⟩
            · simp [results, Try.results28, go_sem, z0, z1]
            · exact ((HBV.out.setCell (by simp; omega) _).setCell (by simp; omega) _).drew

end Go.Proofs.Ytcpfhaoecggflaa
