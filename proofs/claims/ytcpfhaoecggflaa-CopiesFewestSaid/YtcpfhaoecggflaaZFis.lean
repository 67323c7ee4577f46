/-
  The program's Fisher (layer 9).
-/
import Derived.Test.YtcpfhaoecggflaaZWgt
import Derived.Deep.RegionHeld3
import Derived.Deep.DeepCutAuto
namespace Go.Proofs.Ytcpfhaoecggflaa
open Go.RowKit

/-- what Fisher returns: the two numbers of the fraction, and the error -/
def fishN (m n r a : Nat) : Nat × Nat := (someW m n r (wt m n r a) (r - n) (min r m + 1 - (r - n)), allW m n r (r - n) (min r m + 1 - (r - n)))
def fishQ (a b c d : Int) : (Int × Int) × Int :=
  if tallyB a b c d = true then
    let q := fishN (a + b).toNat (c + d).toNat (a + c).toNat a.toNat
    ((((q.1 / Nat.gcd q.1 q.2 : Nat) : Int), ((q.2 / Nat.gcd q.1 q.2 : Nat) : Int)), 0)
  else ((0, 0), 80)
def GotFrac (w : World) (q : (Int × Int) × Int) (e : Ending) (w' : World) : Prop := e = .returned (.tuple #[.agg #[.int .i64 q.1.1, .int .i64 q.1.2], .int .i64 q.2]) ∧ Below w.heap.size w w'
theorem fishN_in {m n r a : Nat} (h : m + n ≤ 60) (ha : a ≤ m) (har : a ≤ r) (hrn : r - a ≤ n) : 1 ≤ (fishN m n r a).1 ∧ (fishN m n r a).1 ≤ 1152921504606846976 ∧ (fishN m n r a).2 ≤ 1152921504606846976 := by
  unfold fishN
  dsimp only
  have h1 := someW_le m n r (wt m n r a) (r - n) (min r m + 1 - (r - n))
  have h2 := allW_60 (m := m) (n := n) r (r - n) (min r m + 1 - (r - n)) h
  have h3 : 1 ≤ wt m n r a := Nat.mul_pos (bin_pos m a ha) (bin_pos n (r - a) hrn)
  have e : r - n + (a - (r - n)) = a := by omega
  have h4 := someW_pos (m := m) (n := n) (r := r) (own := wt m n r a) (lo := r - n) (j := a - (r - n)) (by rw [e]; exact Nat.le_refl _) (by rw [e]; exact h3) (min r m + 1 - (r - n)) (by omega)
  exact ⟨h4, by omega, h2⟩

/-- a number whose weight can be asked -/
def InR (lo mn y : Nat) : Prop := lo ≤ y ∧ y ≤ mn

set_option maxRecDepth 100000 in
set_option maxHeartbeats 8000000 in
theorem fisher_any (a b c d : Int) (w : World) : Calls Try.prog 27 #[.agg #[.int .i64 a, .int .i64 b], .agg #[.int .i64 c, .int .i64 d]] w (GotFrac w (fishQ a b c d)) := by
  obtain ⟨W1, hW1⟩ : ∃ W', W' = w.alloc (.cells #[.int .i64 a, .int .i64 b] 51) := ⟨_, rfl⟩; obtain ⟨W2, hW2⟩ : ∃ W', W' = W1.alloc (.cells #[.int .i64 c, .int .i64 d] 51) := ⟨_, rfl⟩; obtain ⟨W, hW⟩ : ∃ W', W' = W2.alloc (.cells #[.int .i64 0, .int .i64 0] 53) := ⟨_, rfl⟩; have szW1 : W1.heap.size = w.heap.size + 1 := (by rw [hW1]; simp); have kbW1 : Below w.heap.size w W1 := hW1 ▸ below_alloc _ _; have szW2 : W2.heap.size = w.heap.size + 1 + 1 := (by rw [hW2]; simp [szW1]); have kbW2 : Below W1.heap.size W1 W2 := hW2 ▸ below_alloc _ _; have szW : W.heap.size = w.heap.size + 1 + 1 + 1 := (by rw [hW]; simp [szW2]); have kbW : Below W2.heap.size W2 W := hW ▸ below_alloc _ _; have HB := Lib.hid (below_more (below_more kbW1 kbW2) kbW); have D0 := Lib.hid (blk_keep kbW (blk_keep kbW2 (show W1.heap[w.heap.size]? = some (.cells #[.int .i64 a, .int .i64 b] 51 (0, 0)) by rw [hW1]; exact heap_alloc_new _ _))); have D1 := Lib.hid (blk_keep kbW (show W2.heap[w.heap.size + 1]? = some (.cells #[.int .i64 c, .int .i64 d] 51 (0, 0)) by rw [hW2, ← szW1]; exact heap_alloc_new _ _)); have D2 := Lib.hid (show W.heap[w.heap.size + 1 + 1]? = some (.cells #[.int .i64 0, .int .i64 0] 53 (0, 0)) by rw [hW, ← szW2]; exact heap_alloc_new _ _); have SZW := Lib.hid szW; clear szW1 kbW1 szW2 kbW2 szW kbW
  obtain ⟨V, hV⟩ : ∃ V, V = tallyB a b c d := ⟨_, rfl⟩
  have HV := Lib.hid hV
  have HFW := Lib.hid (fun (U : World) (hU : U.heap[W.heap.size]? = some (.cells #[.int .i64 a, .int .i64 b, .int .i64 c, .int .i64 d] 3 (0, 0))) => show Calls Try.prog 63 #[.slice (some ⟨W.heap.size, 0, none⟩) 4 4] U (fun e w' => e = .returned (.bool V) ∧ U = w') by
    rw [hV]
    refine few_any (some ⟨W.heap.size, 0, none⟩) 4 [a, b, c, d] U (fun k z hk => ⟨_, 0, rfl, (Array.getElem?_eq_some_iff.1 hU).1, ?_⟩) (by simp)
    rw [Nat.zero_add, cell_of_blk hU]
    have hj := (List.getElem?_eq_some_iff.1 hk).1
    match k, hj, hk with
    | 0, _, h => simp at h; subst h; rfl
    | 1, _, h => simp at h; subst h; rfl
    | 2, _, h => simp at h; subst h; rfl
    | 3, _, h => simp at h; subst h; rfl)
  clear hV
  rw [SZW.out] at HFW
  go_enter Try.func27, Try.ntmps27
  go_wp2_with fail
  rw [← hW1, ← hW2, ← hW]; clear hW1 hW2 hW
  obtain ⟨U, hU⟩ : ∃ U, U = W.alloc (.cells #[.int .i64 a, .int .i64 b, .int .i64 c, .int .i64 d] 3) := ⟨_, rfl⟩
  have kU : Below W.heap.size W U := hU ▸ below_alloc _ _
  have DU := Lib.hid (show U.heap[w.heap.size + 1 + 1 + 1]? = some (.cells #[.int .i64 a, .int .i64 b, .int .i64 c, .int .i64 d] 3 (0, 0)) by rw [← SZW.out, hU]; exact heap_alloc_new _ _)
  rw [← hU]
  have HSU := Lib.hid (show U.heap.size = w.heap.size + 1 + 1 + 1 + 1 by rw [hU]; simp [SZW.out])
  clear hU
  have HB := Lib.hid (below_more HB.out kU)
  have D0 := Lib.hid (blk_keep kU D0.out)
  have D1 := Lib.hid (blk_keep kU D1.out)
  have D2 := Lib.hid (blk_keep kU D2.out)
  clear kU
  refine (HFW.out U DU.out).mono ?_; rintro e w' ⟨rfl, rfl⟩
  clear HFW DU
  cases V with
  | false =>
    have HQ := Lib.hid (show fishQ a b c d = ((0, 0), 80) by unfold fishQ; rw [← HV.out]; rfl)
    have z0 := cell_of_blk D2.out 0; have zf0 := free_of_blk D2.out 0; have z1 := cell_of_blk D2.out 1; have zf1 := free_of_blk D2.out 1; have hz_z := (Array.getElem?_eq_some_iff.1 D2.out).1; simp at z0 z1
    go_wp2
    rw [HQ.out]
    refine bodyPost_ret (v := .tuple #[.agg #[.int .i64 0, .int .i64 0], .int .i64 80]) ?_ rfl ⟨rfl, ?_⟩
    · simp [results, Try.results27, go_sem, z0, z1]
    · exact (HB.out.setCell (by simp; omega) _).setCell (by simp; omega) _
  | true =>
    have HT := tally_in HV.out.symm
    obtain ⟨p, rfl⟩ := Int.eq_ofNat_of_zero_le HT.1
    obtain ⟨q, rfl⟩ := Int.eq_ofNat_of_zero_le HT.2.1
    obtain ⟨s, rfl⟩ := Int.eq_ofNat_of_zero_le HT.2.2.1
    obtain ⟨t, rfl⟩ := Int.eq_ofNat_of_zero_le HT.2.2.2.1
    have hsum : p + q + s + t ≤ 60 := by have := HT.2.2.2.2; omega
    have HQ := Lib.hid (show fishQ p q s t = ((((((fishN (p + q) (s + t) (p + s) p).1 / Nat.gcd (fishN (p + q) (s + t) (p + s) p).1 (fishN (p + q) (s + t) (p + s) p).2 : Nat) : Int), (((fishN (p + q) (s + t) (p + s) p).2 / Nat.gcd (fishN (p + q) (s + t) (p + s) p).1 (fishN (p + q) (s + t) (p + s) p).2 : Nat) : Int))), 0) by
      unfold fishQ; rw [← HV.out, if_pos rfl]; rfl)
    clear HT HV
    have hub : w.heap.size + 1 + 1 + 1 < U.heap.size := by rw [HSU.out]; omega
    go_wp2_with fail
    have x0 := cell_of_blk D0.out 0; have x1 := cell_of_blk D0.out 1; have hz_x := (Array.getElem?_eq_some_iff.1 D0.out).1; simp at x0 x1
    have y0 := cell_of_blk D1.out 0; have y1 := cell_of_blk D1.out 1; have hz_y := (Array.getElem?_eq_some_iff.1 D1.out).1; simp at y0 y1
    go_region_held3 (fun wx => wx.cell? ⟨w.heap.size, 0, none⟩ = some (.int .i64 p) ∧ wx.cell? ⟨w.heap.size, 1, none⟩ = some (.int .i64 q) ∧ wx.cell? ⟨w.heap.size + 1, 0, none⟩ = some (.int .i64 s) ∧ wx.cell? ⟨w.heap.size + 1, 1, none⟩ = some (.int .i64 t)) (go_keep) (fail)
    go_wp2_with fail
    obtain ⟨V1, hV1⟩ : ∃ V1, V1 = (U.alloc (.cells #[.int .i64 ((p : Int) + (s : Int))] 3)).drew := ⟨_, rfl⟩
    have k1 : Below U.heap.size U V1 := hV1 ▸ (below_alloc _ _).drew
    have DR := Lib.hid (show V1.heap[U.heap.size]? = some (.cells #[.int .i64 ((p + s : Nat) : Int)] 3 (0, 0)) by rw [hV1, Int.natCast_add]; exact heap_alloc_new _ _)
    rw [← hV1]
    clear hV1 x0 x1 hz_x y0 y1 hz_y
    have HC1 := choices_any (p + q) V1 (by omega)
    rw [Int.natCast_add] at HC1
    refine HC1.mono ?_; rintro e V2 ⟨A1, c1, rfl, own1, k2⟩
    clear HC1
    have HC2 := Lib.hid (by have := choices_any (s + t) V2 (by omega); rw [Int.natCast_add] at this; exact this)
    go_wp2_with fail
    refine HC2.out.mono ?_; rintro e V3 ⟨A2, c2, rfl, own2, k3⟩
    clear HC2
    obtain ⟨m, hm⟩ : ∃ m, m = p + q := ⟨_, rfl⟩
    obtain ⟨n, hn⟩ : ∃ n, n = s + t := ⟨_, rfl⟩
    obtain ⟨r, hr⟩ : ∃ r, r = p + s := ⟨_, rfl⟩
    have hpr : p ≤ m ∧ p ≤ r ∧ r - p ≤ n ∧ r ≤ m + n ∧ m + n ≤ 60 ∧ r - n ≤ p := by omega
    have em : (p : Int) + (q : Int) = (m : Int) := by omega
    have en : (s : Int) + (t : Int) = (n : Int) := by omega
    have er : (p : Int) + (s : Int) = (r : Int) := by omega
    rw [← hm, ← hn, ← hr] at HQ
    rw [← hm] at own1 ⊢
    rw [← hn] at own2 ⊢
    rw [← hr] at DR
    rw [em, en]
    clear hm hn hr em en er hsum
    obtain ⟨V, hV⟩ : ∃ V, V = (V3.alloc (.cells #[.slice A1 (m + 1) c1] 22)).alloc (.cells #[.slice A2 (n + 1) c2] 22) := ⟨_, rfl⟩
    have k4 : Below V3.heap.size V3 V := hV ▸ (below_alloc _ _).alloc (by simp) _
    have HB5 := Lib.hid (below_more (below_more (below_more (below_more HB.out k1) k2) k3) k4)
    have DRV := Lib.hid (blk_keep k4 (blk_keep k3 (blk_keep k2 DR.out)))
    have D0 := Lib.hid (blk_keep k4 (blk_keep k3 (blk_keep k2 (blk_keep k1 D0.out))))
    have D2 := Lib.hid (blk_keep k4 (blk_keep k3 (blk_keep k2 (blk_keep k1 D2.out))))
    have HWA := Lib.hid (show WgtAt V V3.heap.size (V3.heap.size + 1) U.heap.size m n r by
      have o1 := own_below (own_below own1.out k3) k4
      have o2 := own_below own2.out k4
      have ea : V.heap[V3.heap.size]? = some (.cells #[.slice A1 (m + 1) c1] 22 (0, 0)) := by rw [hV, heap_alloc_other _ _ _ (by simp)]; exact heap_alloc_new _ _
      have eb : V.heap[V3.heap.size + 1]? = some (.cells #[.slice A2 (n + 1) c2] 22 (0, 0)) := by
        have := heap_alloc_new (V3.alloc (.cells #[.slice A1 (m + 1) c1] 22)) (.cells #[.slice A2 (n + 1) c2] 22)
        rw [hV]; simpa using this
      have hsz : V.heap.size = V3.heap.size + 1 + 1 := by rw [hV]; simp
      have hur := (Array.getElem?_eq_some_iff.1 DRV.out).1
      refine ⟨?_, ?_, (cell_of_blk DRV.out 0), by omega, by omega, hur⟩
      · obtain ⟨A, c, hv, -, -, h3, h4⟩ := own_slice o1
        injection hv with e1 e2 e3
        subst e1 e3
        cases A1 with
        | none => have := h4 rfl; omega
        | some ad =>
          obtain ⟨g, rfl, -, hg, -⟩ := h3 ad rfl
          exact ⟨g, c1, cell_of_blk ea 0, hg, fun j hj => by rw [o1.cellAt j (by omega), natC_at _ _ _ (by omega)]⟩
      · obtain ⟨A, c, hv, -, -, h3, h4⟩ := own_slice o2
        injection hv with e1 e2 e3
        subst e1 e3
        cases A2 with
        | none => have := h4 rfl; omega
        | some ad =>
          obtain ⟨g, rfl, -, hg, -⟩ := h3 ad rfl
          exact ⟨g, c2, cell_of_blk eb 0, hg, fun j hj => by rw [o2.cellAt j (by omega), natC_at _ _ _ (by omega)]⟩)
    have DR3 := blk_keep k3 (blk_keep k2 DR.out)
    obtain ⟨lo, hlo⟩ : ∃ lo, lo = r - n := ⟨_, rfl⟩
    obtain ⟨mn, hmn⟩ : ∃ mn, mn = min r m := ⟨_, rfl⟩
    obtain ⟨N, hN⟩ : ∃ N, N = mn + 1 - lo := ⟨_, rfl⟩
    have HN := Lib.hid (show fishN m n r p = (someW m n r (wt m n r p) lo N, allW m n r lo N) by rw [hN, hlo, hmn]; rfl)
    have HLT := Lib.hid (show lo ≤ mn ∧ p ≤ mn ∧ lo ≤ p ∧ mn ≤ r ∧ mn ≤ m ∧ mn ≤ 60 ∧ lo + N = mn + 1 by omega)
    have HLM := Lib.hid (show (∀ y, lo ≤ y → y ≤ mn → y ≤ m ∧ y ≤ r ∧ r - y ≤ n) by intro y h1 h2; omega)
    have HIN := Lib.hid (fishN_in (m := m) (n := n) (r := r) (a := p) hpr.2.2.2.2.1 hpr.1 hpr.2.1 hpr.2.2.1)
    have HSM := Lib.hid hpr
    have hm6 : m ≤ 60 := by omega
    have hn6 : n ≤ 60 := by omega
    have hr6 : r ≤ 60 := by omega
    clear hpr
    have HMN := Lib.hid hmn
    have HLO := Lib.hid hlo
    clear hN hlo hmn
    have DR3 := blk_keep k3 (blk_keep k2 DR.out)
    have c8 : V3.cell? ⟨U.heap.size, 0, none⟩ = some (.int .i64 r) := cell_of_blk DR3 0
    have z8 := (Array.getElem?_eq_some_iff.1 DR3).1
    have C9 := Lib.hid (show V.cell? ⟨U.heap.size, 0, none⟩ = some (.int .i64 r) from cell_of_blk DRV.out 0)
    clear DR DR3 k1 k2 k3 own1 own2
    have HVV := Lib.hid hV
    have K4 := Lib.hid k4
    clear hV k4
    have ZU := Lib.hid (Array.getElem?_eq_some_iff.1 DRV.out).1
    go_upto_region 7 with fail
    rw [← HVV.out]
    clear HVV c8
    go_cut [14] (fun x wx => x = .int .i64 lo ∧ wx = V)
    case first =>
      have zu := ZU.out
      have c9 := C9.out
      by_cases h : n < r
      · go_wp2_with fail
        all_goals (go_meet; exact ⟨by rw [show (r : Int) - (n : Int) = (lo : Int) by have := HLO.out; omega], rfl⟩)
      · go_wp2_with fail
        all_goals (go_meet; exact ⟨by rw [show lo = 0 by have := HLO.out; omega]; rfl, rfl⟩)
    case rest =>
      obtain ⟨rfl, hwx⟩ := hcut
      rw [hwx]
      clear hwx
      go_wp2_with fail
      go_loopw [12, 13, 14] (fun u v x wr => ∃ (S T X k : Nat), k ≤ N ∧ u = .int .i64 S ∧ v = .int .i64 T ∧ x = .int .i64 X ∧ Hid (X = lo + k ∧ S = someW m n r (wt m n r p) lo k ∧ T = allW m n r lo k) ∧ Hid (Below V.heap.size V wr)) (fun _ _ x _ => mn + 1 - (intOf x).toNat)
      case atStart => exact ⟨0, 0, lo, 0, Nat.zero_le _, rfl, rfl, rfl, Lib.hid ⟨rfl, rfl, rfl⟩, Lib.hid (Below.refl _ _)⟩
      case round =>
        obtain ⟨S, T, X, k, hk, rfl, rfl, rfl, he, hb⟩ := hrel
        have zu := ZU.out
        have c9 : wr.cell? ⟨U.heap.size, 0, none⟩ = some (.int .i64 r) := ((bcell hb.out).1 _ _ zu).trans C9.out
        have zu : U.heap.size < wr.heap.size := Nat.lt_of_lt_of_le zu hb.out.size
        have D0r := Lib.hid (blk_keep hb.out D0.out)
        obtain ⟨f, hf⟩ : ∃ f, f = wt m n r := ⟨_, rfl⟩
        have HWG := Lib.hid (fun (y : Nat) (wx : World) (hy : InR lo mn y) (hbx : Below wr.heap.size wr wx) => show Calls Try.prog 65 #[.int .i64 y, .pointer (some ⟨V3.heap.size, 0, none⟩), .pointer (some ⟨V3.heap.size + 1, 0, none⟩), .pointer (some ⟨U.heap.size, 0, none⟩)] wx (fun e w' => e = .returned (.int .i64 (f y : Nat)) ∧ Below wx.heap.size wx w') by
          have h1 := HLM.out y hy.1 hy.2
          have h2 := HSM.out
          rw [hf]
          exact weight_any y m n r _ _ _ wx ((HWA.out.below hb.out).below hbx) h1.1 h1.2.1 h1.2.2 hm6 hn6 hr6 h2.2.2.2.2.1)
        have HF6 := Lib.hid (show ∀ y, f y ≤ 1152921504606846976 from fun y => by rw [hf]; exact wt_60 (m := m) (n := n) r y HSM.out.2.2.2.2.1)
        have HFF := Lib.hid hf
        rw [← hf] at he
        have HVR := Lib.hid hb.out
        clear hf hb
        by_cases hlt : X ≤ mn
        · have HX := (show InR lo mn X from ⟨by rw [he.out.1]; omega, hlt⟩)
          have HP := (show InR lo mn p from ⟨HLT.out.2.2.1, HLT.out.2.1⟩)
          have hXr : X ≤ r := (HLM.out X HX.1 hlt).2.1
          have hXm : X ≤ m := (HLM.out X HX.1 hlt).1
          have hkN : k < N := by have := HLT.out; have := he.out.1; omega
          go_upto_region 8 with fail
          go_cut [56] (fun b wx => b = .bool true ∧ wx = wr)
          case first =>
            rcases Nat.lt_or_ge m r with hrm | hrm
            all_goals
              go_wp2_with fail
              all_goals (go_meet; exact ⟨rfl, rfl⟩)
          case rest =>
            obtain ⟨rfl, hwx⟩ := hcut
            rw [hwx]
            clear hwx
            have x0 := cell_of_blk D0r.out 0; have x1 := cell_of_blk D0r.out 1; have hz_x := (Array.getElem?_eq_some_iff.1 D0r.out).1; simp at x0 x1
            go_wp2_with fail
            refine wp_region_later (by kernel_rfl) (by kernel_rfl) ?_; (repeat (first | go_big_quiet_step ((((go_at_call 65; exact Calls.later _ (HWG.out _ _ (by assumption) (Later.below _)))))) | quiet_step ((((go_at_call 65; exact Calls.later _ (HWG.out _ _ (by assumption) (Later.below _)))))))); refine wpQuiet_nil ?_; rintro _ ⟨s, rfl⟩
            have hkb := Lib.hid (show Below V.heap.size V s.w from below_more HVR.out s.below)
            have hsw := Lib.hid s.below
            have b1 := HF6.out X
            have b2 := Lib.hid (show S + f X ≤ 1152921504606846976 ∧ T + f X ≤ 1152921504606846976 by
              have h1 := someW_le m n r (f p) lo (k + 1)
              have h2 := allW_60 (m := m) (n := n) r lo (k + 1) HSM.out.2.2.2.2.1
              have h3 := someW_le m n r (f p) lo k
              obtain ⟨e1, e2, e3⟩ := he.out
              rw [allW, ← e1, ← e3, ← HFF.out] at h2
              rw [← e2, ← e3] at h3
              omega)
            have b3 := b2.out.1
            have b4 := b2.out.2
            have hT := Lib.hid (show T + f X = allW m n r lo (k + 1) by rw [allW, ← he.out.1, ← he.out.2.2, ← HFF.out])
            by_cases hle : f X ≤ f p
            · have hS := Lib.hid (show S + f X = someW m n r (f p) lo (k + 1) by rw [someW, ← he.out.1, ← he.out.2.1, ← HFF.out, if_pos hle])
              have hd1 : decide (f X ≤ f p) = true := by simpa using hle
              have hd2 : decide ((f X : Int) ≤ (f p : Int)) = true := by simpa using hle
              go_wp2_with fail
              refine (HWG.out X s.w HX hsw.out).mono ?_; rintro e v1 ⟨rfl, hb1⟩
              have hk1 := Lib.hid (below_more hsw.out hb1)
              clear hb1
              go_wp2_with fail
              refine (HWG.out X v1 HX hk1.out).mono ?_; rintro e v2 ⟨rfl, hb2⟩
              have hk2 := Lib.hid (below_more hk1.out hb2)
              clear hb2
              go_wp2_with fail
              go_roundw
              case rel => exact ⟨S + f X, T + f X, X + 1, k + 1, hkN, by go_num, by go_num, by go_num, Lib.hid ⟨by rw [he.out.1]; rfl, by rw [← HFF.out]; exact hS.out, hT.out⟩, Lib.hid (below_more HVR.out hk2.out)⟩
              case measure => simp [intOf]; omega
            · have hS := Lib.hid (show S = someW m n r (f p) lo (k + 1) by rw [someW, ← he.out.1, ← he.out.2.1, ← HFF.out, if_neg hle]; rfl)
              have hd1 : decide (f X ≤ f p) = false := by simpa using hle
              have hd2 : decide ((f X : Int) ≤ (f p : Int)) = false := by simpa using hle
              go_wp2_with fail
              refine (HWG.out X s.w HX hsw.out).mono ?_; rintro e v1 ⟨rfl, hb1⟩
              have hk1 := Lib.hid (below_more hsw.out hb1)
              clear hb1
              go_wp2_with fail
              go_roundw
              case rel => exact ⟨S, T + f X, X + 1, k + 1, hkN, by go_num, by go_num, by go_num, Lib.hid ⟨by rw [he.out.1]; rfl, by rw [← HFF.out]; exact hS.out, hT.out⟩, Lib.hid (below_more HVR.out hk1.out)⟩
              case measure => simp [intOf]; omega
        · have hkN : k = N := by have := HLT.out; have := he.out.1; omega
          subst hkN
          go_upto_region 8 with fail
          go_cut [56] (fun b wx => b = .bool false ∧ wx = wr)
          case first =>
            rcases Nat.lt_or_ge m r with hrm | hrm
            · have hq : m < X := by have := HMN.out; omega
              have hd : decide (X ≤ m) = false := by simp; omega
              go_wp2_with fail
              all_goals (go_meet; exact ⟨rfl, rfl⟩)
            · have hq : r < X := by have := HMN.out; omega
              have hd : decide (X ≤ r) = false := by simp; omega
              go_wp2_with fail
              all_goals (go_meet; exact ⟨rfl, rfl⟩)
          case rest =>
            obtain ⟨rfl, hwx⟩ := hcut
            rw [hwx]
            clear hwx
            have hST := Lib.hid (show fishN m n r p = (S, T) by rw [HN.out, ← HFF.out, ← he.out.2.1, ← he.out.2.2])
            have hin := Lib.hid (by have := HIN.out; rw [hST.out] at this; exact this)
            have hS1 : 1 ≤ S := hin.out.1
            have hS2 : S ≤ 1152921504606846976 := hin.out.2.1
            have hT2 : T ≤ 1152921504606846976 := hin.out.2.2
            have D2r := Lib.hid (blk_keep HVR.out D2.out)
            have HD := Lib.hid (divisor_any S T wr (by omega) (by omega))
            have hg : 1 ≤ Nat.gcd S T := Nat.gcd_pos_of_pos_left _ hS1
            have hgS : Nat.gcd S T ≤ S := Nat.gcd_le_left _ hS1
            have hsg1 : S / Nat.gcd S T ≤ S := Nat.div_le_self _ _
            have htg1 : T / Nat.gcd S T ≤ T := Nat.div_le_self _ _
            have hqs : ((S : Int) / (Nat.gcd S T : Int)) = ((S / Nat.gcd S T : Nat) : Int) := (Int.natCast_ediv S _).symm
            have hqt : ((T : Int) / (Nat.gcd S T : Int)) = ((T / Nat.gcd S T : Nat) : Int) := (Int.natCast_ediv T _).symm
            have HRES := Lib.hid (show fishQ p q s t = ((((S / Nat.gcd S T : Nat) : Int), ((T / Nat.gcd S T : Nat) : Int)), 0) by rw [HQ.out, hST.out])
            obtain ⟨G, hG⟩ : ∃ G, G = Nat.gcd S T := ⟨_, rfl⟩
            rw [← hG] at HD hg hgS HRES hsg1 htg1 hqs hqt
            obtain ⟨sg, hsg⟩ : ∃ sg, sg = S / G := ⟨_, rfl⟩
            obtain ⟨tg, htg⟩ : ∃ tg, tg = T / G := ⟨_, rfl⟩
            rw [← hsg] at hsg1 hqs HRES
            rw [← htg] at htg1 hqt HRES
            have HQS := Lib.hid hqs
            have HQT := Lib.hid hqt
            clear hsg htg hqs hqt
            clear hG he hin
            go_wp2_with fail
            refine HD.out.mono ?_; rintro e v1 ⟨rfl, hb1⟩
            have HBV := Lib.hid (below_more (below_more HB5.out HVR.out) hb1)
            have D2r := Lib.hid (blk_keep hb1 D2r.out)
            clear hb1 HD
            go_wp2_with fail
            have z0 := cell_of_blk D2r.out 0; have zf0 := free_of_blk D2r.out 0; have z1 := cell_of_blk D2r.out 1; have zf1 := free_of_blk D2r.out 1; have hz_z := (Array.getElem?_eq_some_iff.1 D2r.out).1; simp at z0 z1
            have i1 : ((G : Int) == 0) = false := by simp; omega
            have i2 : ¬ (G : Int) = 0 := by omega
            have i3 : (1 : Int) ≤ (G : Int) := by omega
            have t1 := Lib.hid (show (S : Int).tdiv (G : Int) = (sg : Int) by rw [Int.tdiv_eq_ediv_of_nonneg (by omega)]; exact HQS.out)
            have t2 := Lib.hid (show (T : Int).tdiv (G : Int) = (tg : Int) by rw [Int.tdiv_eq_ediv_of_nonneg (by omega)]; exact HQT.out)
            have w1 := IntWalk.i64_in (sg : Int) (by omega)
            have w2 := IntWalk.i64_in (tg : Int) (by omega)
            have q1 := HQS.out
            have q2 := HQT.out
            have t1 := t1.out
            have t2 := t2.out
            go_region
            go_wp2_with fail
            rw [HRES.out]
            clear q1 q2 t1 t2 w1 w2
            refine bodyPost_ret (v := .tuple #[.agg #[.int .i64 sg, .int .i64 tg], .int .i64 0]) ?_ rfl ⟨rfl, ?_⟩
            · simp [results, Try.results27, go_sem, z0, z1]
            · exact ((HBV.out.setCell (by simp; omega) _).setCell (by simp; omega) _).drew

end Go.Proofs.Ytcpfhaoecggflaa
