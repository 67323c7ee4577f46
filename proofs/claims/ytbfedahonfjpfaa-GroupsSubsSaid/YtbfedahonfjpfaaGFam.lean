/-
  The specification's family of a node.
-/
import Derived.Test.YtbfedahonfjpfaaGEqv
namespace Go.Proofs.Ytbfedahonfjpfaa
open Go.RowKit

set_option maxRecDepth 100000 in
set_option maxHeartbeats 16000000 in
theorem rfamily_any (A : Option Addr) (cap i : Nat) (p : Int) (ns : List Nd) (u : Nd) (w : World) (hn : NdsAt w A ns) (hc1 : ns.length ≤ cap) (hc : cap ≤ maxLen) (hsm : ns.length ≤ 1000000) (hi : ns[i]? = some u) (hd : ∀ x ∈ ns, 0 ≤ x.depth ∧ x.depth ≤ 4)
    (hp : u.kind = 7 → 0 < u.depth → ∃ q : Nat, p = (q : Int) ∧ q < ns.length) :
    Calls Try.prog 62 #[.agg #[.slice A ns.length cap], .int .i64 i, .int .i64 p] w fun e w' => e = .returned (.bool (famB ns i p)) ∧ Below w.heap.size w w' := by
  have hin : i < ns.length := (List.getElem?_eq_some_iff.1 hi).1
  have HNS := Lib.hid hn
  have HKD := Lib.hid (fun (q : Nat) (x : Nd) (hq : ns[q]? = some x) wx (hb : Below w.heap.size w wx) => show Calls Try.prog 67 #[.agg #[.slice A ns.length cap], .int .i64 q] wx (GotRow wx 3 1 (kidsL ns q).length (intsV (kidsL ns q))) by
    have hx := hd x (List.mem_of_getElem? hq)
    have := rkids_any A cap ns q (x.depth + 1) (q + 1) wx (hn.below hb) hc1 hc hsm (.inl ⟨q, x, rfl, hq, rfl, rfl, by omega, by omega⟩)
    rw [kidsG_is hq] at this; exact this)
  have HKA := Lib.hid (fun j (hj : j ∈ kidsL ns i) => kids_at hi hj)
  obtain ⟨b, o, hA, hblt, hva⟩ := hn i u hi
  subst hA
  obtain ⟨y0, y1, y2, y3, y4, y5, y6, y7⟩ := hva
  have hka : kindAt ns i = u.kind := by unfold kindAt; rw [getN_at hi]
  have hda : depthAt ns i = u.depth := depthAt_is hi
  obtain ⟨R, hR⟩ : ∃ R, R = famB ns i p := ⟨_, rfl⟩
  obtain ⟨ks, hks⟩ : ∃ ks, ks = kidsL ns i := ⟨_, rfl⟩
  have HE := Lib.hid (show R = (!decide ((ks.length : Int) < (kidsR u.kind).1) && !decide ((kidsR u.kind).2 < (ks.length : Int)) && !((u.kind == 5) && decide (0 < u.depth)) && !((u.kind == 7) && decide (0 < u.depth) && ((kindAt ns p.toNat != 5) || ((kidsL ns p.toNat).length != 1))) && ks.all fun j => !famBad u.kind (kindAt ns j)) by
    rw [hR, hks, ← hka, ← hda]; rfl)
  have HKI := Lib.hid (fun wx (hb : Below w.heap.size w wx) => HKD.out i u hi wx hb)
  obtain ⟨N, hN⟩ : ∃ N, N = ns.length := ⟨_, rfl⟩
  have HN := Lib.hid hN
  have HP := Lib.hid hp
  rw [← hR]
  rw [← hN] at hc1 hsm hin HKD HKI ⊢
  rw [← hks] at HKI HKA
  unfold maxLen at hc
  clear hn hi hR hks hka hda hN hp
  obtain ⟨kind, depth, sign, turn, mirror, state, mn, mx⟩ := u
  dsimp only at y0 y1 y2 y3 y4 y5 y6 y7 HE HP
  obtain ⟨n, hnn⟩ : ∃ n, n = ks.length := ⟨_, rfl⟩
  have HNK := Lib.hid hnn
  rw [← hnn] at HE HKI
  clear hnn
  obtain ⟨W, hW⟩ : ∃ W, W = (w.alloc (.cells #[.slice (some ⟨b, o, none⟩) N cap] 27)).alloc (.cells #[.int .i64 kind, .int .i64 depth, .int .i64 sign, .int .i64 turn, .bool mirror, .int .i64 state, .int .i64 mn, .int .i64 mx] 78) := ⟨_, rfl⟩
  have HB := Lib.hid (show Below w.heap.size w W from hW ▸ two_under _ _ _)
  have HX0 := Lib.hid (show W.heap[w.heap.size]? = some (.cells #[.slice (some ⟨b, o, none⟩) N cap] 27 (0, 0)) by rw [hW, heap_alloc_other _ _ _ (by simp)]; exact heap_alloc_new _ _)
  have HX1 := Lib.hid (show W.heap[w.heap.size + 1]? = some (.cells #[.int .i64 kind, .int .i64 depth, .int .i64 sign, .int .i64 turn, .bool mirror, .int .i64 state, .int .i64 mn, .int .i64 mx] 78 (0, 0)) by
    rw [hW]; have := heap_alloc_new (w.alloc (.cells #[.slice (some ⟨b, o, none⟩) N cap] 27)) (.cells #[.int .i64 kind, .int .i64 depth, .int .i64 sign, .int .i64 turn, .bool mirror, .int .i64 state, .int .i64 mn, .int .i64 mx] 78); simpa using this)
  go_enter Try.func62, Try.ntmps62
  go_wp2_with fail
  rw [← hW]
  clear hW y0 y1 y2 y3 y4 y5 y6 y7
  refine (HKI.out W HB.out).mono ?_; rintro e w1 ⟨Ak, ck, rfl, hown, hb⟩
  have HB1 := Lib.hid (below_more HB.out hb)
  have HY0 := Lib.hid (blk_keep hb HX0.out)
  have HY1 := Lib.hid (blk_keep hb HX1.out)
  have HNA := Lib.hid (row_ints hown)
  have hol := own_len hown
  have hck := hol.1
  have hcm := hol.2.1
  unfold maxLen at hcm
  clear hown hb hol HX0 HX1 HKI HB
  have x0 := cell_of_blk HY1.out 0
  have x1 := cell_of_blk HY1.out 1
  have t0 := cell_of_blk HY0.out 0
  simp at x0 x1 t0
  obtain ⟨lf, hlf⟩ : ∃ lf, leafB kind = lf := ⟨_, rfl⟩
  have HLF := Lib.hid (fun wx => leaf_is kind wx lf hlf)
  have HLL := Lib.hid hlf
  clear hlf
  have HLO := Lib.hid (show (kidsR kind).1 = if (kind == 5) = true then 1 else if lf = true then 0 else 2 by
    unfold kidsR
    by_cases k5 : kind = 5
    · subst k5; rfl
    · rw [HLL.out, if_neg (show ¬ (kind == 5) = true by simpa using k5)]
      cases lf <;> simp [k5] <;> split <;> rfl)
  have HHI := Lib.hid (show (kidsR kind).2 = if (kind == 4) = true then 2 else if lf = true then 0 else 6 by
    unfold kidsR
    by_cases k4 : kind = 4
    · subst k4; rfl
    · rw [HLL.out, if_neg (show ¬ (kind == 4) = true by simpa using k4)]
      cases lf <;> simp [k4] <;> split <;> rfl)
  go_wp2_with fail
  refine (HLF.out _).mono ?_; rintro e w1' ⟨rfl, rfl⟩
  obtain ⟨K5, hK5⟩ : ∃ K5, (kind == 5) = K5 := ⟨_, rfl⟩
  obtain ⟨K4, hK4⟩ : ∃ K4, (kind == 4) = K4 := ⟨_, rfl⟩
  rw [hK5] at HLO
  rw [hK4] at HHI
  go_upto_if 24 with fail
  go_cut [9, 10] (fun a c wx => a = .int .i64 (if lf = true then 0 else 2) ∧ c = .int .i64 (if lf = true then 0 else 6) ∧ wx = w1)
  case first =>
    cases lf with
    | true => go_wp2_with fail; go_meet; exact ⟨rfl, rfl, rfl⟩
    | false => go_wp2_with fail; go_meet; exact ⟨rfl, rfl, rfl⟩
  case rest =>
  obtain ⟨rfl, rfl, rfl⟩ := hcut
  obtain ⟨w1, rfl⟩ : ∃ w1, w1 = wc := ⟨_, rfl⟩
  obtain ⟨la, hla⟩ : ∃ la : Int, la = if lf = true then 0 else 2 := ⟨_, rfl⟩
  obtain ⟨lb, hlb⟩ : ∃ lb : Int, lb = if lf = true then 0 else 6 := ⟨_, rfl⟩
  rw [← hla] at HLO ⊢
  rw [← hlb] at HHI ⊢
  clear hla hlb
  go_upto_if 27 with fail
  go_cut [9] (fun a wx => a = .int .i64 (kidsR kind).1 ∧ wx = w1)
  case first =>
    cases K5 with
    | true => go_wp2_with fail; go_meet; exact ⟨by rw [HLO.out]; rfl, rfl⟩
    | false => go_wp2_with fail; go_meet; exact ⟨by rw [HLO.out]; rfl, rfl⟩
  case rest =>
  obtain ⟨rfl, rfl⟩ := hcut
  obtain ⟨w1, rfl⟩ : ∃ w1, w1 = wc := ⟨_, rfl⟩
  go_upto_if 30 with fail
  go_cut [10] (fun c wx => c = .int .i64 (kidsR kind).2 ∧ wx = w1)
  case first =>
    cases K4 with
    | true => go_wp2_with fail; go_meet; exact ⟨by rw [HHI.out]; rfl, rfl⟩
    | false => go_wp2_with fail; go_meet; exact ⟨by rw [HHI.out]; rfl, rfl⟩
  case rest =>
  obtain ⟨rfl, rfl⟩ := hcut
  obtain ⟨w1, rfl⟩ : ∃ w1, w1 = wc := ⟨_, rfl⟩
  clear HLO HHI HLF HLL lf la lb
  obtain ⟨lo, hlo⟩ : ∃ lo, lo = (kidsR kind).1 := ⟨_, rfl⟩
  obtain ⟨hi2, hhi⟩ : ∃ h, h = (kidsR kind).2 := ⟨_, rfl⟩
  rw [← hlo, ← hhi] at HE ⊢
  clear hlo hhi
  obtain ⟨D0, hD0⟩ : ∃ D, decide (0 < depth) = D := ⟨_, rfl⟩
  obtain ⟨K7, hK7⟩ : ∃ K, (kind == 7) = K := ⟨_, rfl⟩
  have HK7 := Lib.hid hK7
  have HD0 := Lib.hid hD0
  rw [hK5, hD0, hK7] at HE
  obtain ⟨T1, hT1⟩ : ∃ T, decide ((n : Int) < lo) = T := ⟨_, rfl⟩
  obtain ⟨T2, hT2⟩ : ∃ T, decide (hi2 < (n : Int)) = T := ⟨_, rfl⟩
  rw [hT1, hT2] at HE
  obtain ⟨P4, hP4⟩ : ∃ P, P = (K7 && D0 && ((kindAt ns p.toNat != 5) || ((kidsL ns p.toNat).length != 1))) := ⟨_, rfl⟩
  rw [← hP4] at HE
  have HP4 := Lib.hid hP4
  clear hP4
  go_upto_region 11 with fail
  go_cut [50] (fun s wx => s = .bool (T1 || T2 || (K5 && D0)) ∧ wx = w1)
  case first =>
    cases T1 with
    | true => go_wp2_with fail; go_meet; exact ⟨rfl, rfl⟩
    | false =>
      cases T2 with
      | true => go_wp2_with fail; go_meet; exact ⟨rfl, rfl⟩
      | false =>
        cases K5 with
        | false => go_wp2_with fail; go_meet; exact ⟨rfl, rfl⟩
        | true => cases D0 with
          | true => go_wp2_with fail; go_meet; exact ⟨rfl, rfl⟩
          | false => go_wp2_with fail; go_meet; exact ⟨rfl, rfl⟩
  case rest =>
  obtain ⟨rfl, rfl⟩ := hcut
  obtain ⟨w1, rfl⟩ : ∃ w1, w1 = wc := ⟨_, rfl⟩
  cases hv : (T1 || T2 || (K5 && D0)) with
  | true =>
    have HRF := Lib.hid (show R = false by
      rw [HE.out]; revert hv; cases T1 <;> cases T2 <;> cases K5 <;> cases D0 <;> simp)
    clear HE
    go_wp2_with fail
    go_ret
    exact ⟨of_bool HRF.out.symm, HB1.out⟩
  | false =>
  have HR2 := Lib.hid (show R = (!P4 && ks.all fun j => !famBad kind (kindAt ns j)) by
    rw [HE.out]; revert hv; cases T1 <;> cases T2 <;> cases K5 <;> cases D0 <;> simp)
  clear HE hv hT1 hT2
  go_upto_region 13 with fail
  go_cut [74] (fun s wx => s = .bool P4 ∧ Below w1.heap.size w1 wx)
  case first =>
    cases K7 with
    | false => go_wp2_with fail; go_meet; exact ⟨by rw [HP4.out]; rfl, Below.refl _ _⟩
    | true => cases D0 with
      | false => go_wp2_with fail; go_meet; exact ⟨by rw [HP4.out]; rfl, Below.refl _ _⟩
      | true =>
        obtain ⟨q, hpq, hqN⟩ := HP.out (by simpa using hK7) (of_decide_eq_true hD0)
        subst hpq
        obtain ⟨x, hx⟩ : ∃ x, ns[q]? = some x := ⟨_, List.getElem?_eq_getElem hqN⟩
        rw [← HN.out] at hqN
        obtain ⟨b', o', e, hb', hvx⟩ := HNS.out q x hx
        injection e with e; injection e with e1 e2
        subst e1 e2
        have z0 := (hvx.below HB1.out hb').c0
        have HKC := Lib.hid (fun wx (hb : Below w.heap.size w wx) => HKD.out q x hx wx hb)
        have HKQ := Lib.hid (show kindAt ns q = x.kind by unfold kindAt; rw [getN_at hx])
        obtain ⟨kq, hkq⟩ : ∃ kq, kq = x.kind := ⟨_, rfl⟩
        rw [← hkq] at z0 HKQ
        obtain ⟨m, hm⟩ : ∃ m, m = (kidsL ns q).length := ⟨_, rfl⟩
        have HP5 := Lib.hid (show P4 = ((kq != 5) || (m != 1)) by
          rw [HP4.out, Int.toNat_natCast, HKQ.out, hm]; rfl)
        rw [← hm] at HKC
        clear hm hx hvx hkq
        cases hq5 : (kq != 5) with
        | true => go_wp2_with fail; go_meet; exact ⟨by rw [HP5.out, hq5]; rfl, Below.refl _ _⟩
        | false =>
          have HP6 := Lib.hid (show P4 = ((m : Int) != 1) by
            rw [HP5.out, hq5, Bool.false_or, Bool.eq_iff_iff]; simp; omega)
          go_wp2_with fail
          refine (HKC.out _ HB1.out).mono ?_; rintro e w2 ⟨Aq, cq, rfl, hown2, hb2⟩
          have HB2 := Lib.hid hb2
          clear hown2 hb2
          go_wp2_with fail
          go_meet
          exact ⟨by rw [HP6.out], HB2.out⟩
  case rest =>
  obtain ⟨rfl, hbc⟩ := hcut
  have HBC := Lib.hid hbc
  clear hbc x0 x1 t0 HP HP4 HKD
  cases P4 with
  | true =>
    have HRF := Lib.hid (show R = false by rw [HR2.out]; rfl)
    clear HR2
    go_wp2_with fail
    go_ret
    exact ⟨of_bool HRF.out.symm, below_more HB1.out HBC.out⟩
  | false =>
  have HF := Lib.hid (show R = ks.all fun j => !famBad kind (kindAt ns j) by rw [HR2.out]; simp)
  clear HR2 hK4 hK5 hD0 hK7 HK7 HD0
  go_wp2_with fail
  go_loopw [11, 12, 13] (fun c _ _ wr => ∃ k : Nat, k ≤ n ∧ c = .int .i64 k ∧ Hid (((ks.take k).all fun j => !famBad kind (kindAt ns j)) = true) ∧ Hid (Below w1.heap.size w1 wr)) (fun c _ _ _ => n - (intOf c).toNat)
  case atStart => exact ⟨0, Nat.zero_le _, rfl, Lib.hid (by simp), HBC⟩
  case round =>
    obtain ⟨k, hk, rfl, hall, hbw⟩ := hrel
    have HBW := Lib.hid hbw.out
    have HAL := Lib.hid hall.out
    clear hbw hall
    by_cases hlt : k < n
    · obtain ⟨j, hj⟩ : ∃ j, ks[k]? = some j := ⟨_, List.getElem?_eq_getElem (by have := HNK.out; omega)⟩
      obtain ⟨ux, hux, -⟩ := HKA.out j (List.mem_of_getElem? hj)
      obtain ⟨kb, ko, hAk, hkb, hkc⟩ := HNA.out k j hj
      subst hAk
      obtain ⟨b', o', e, hb', hvx⟩ := HNS.out j ux hux
      injection e with e; injection e with e1 e2
      subst e1 e2
      have hjn : j < N := by rw [HN.out]; exact (List.getElem?_eq_some_iff.1 hux).1
      have y0 := (hvx.below (below_more HB1.out HBW.out) hb').c0
      have z0 := (HBW.out.cell (p := ⟨kb, ko + k, none⟩) hkb).trans hkc
      have x0 := cell_of_blk (blk_keep HBW.out HY1.out) 0
      have t0 := cell_of_blk (blk_keep HBW.out HY0.out) 0
      simp at x0 t0
      have hs0 : w.heap.size < wr.heap.size := (Array.getElem?_eq_some_iff.1 (blk_keep HBW.out HY0.out)).1
      have hs2 : w.heap.size + 1 < wr.heap.size := (Array.getElem?_eq_some_iff.1 (blk_keep HBW.out HY1.out)).1
      have hs1 : b < wr.heap.size := by have := HBW.out.size; have := HB1.out.size; omega
      have hs3 : kb < wr.heap.size := by have := HBW.out.size; omega
      have HKJ := Lib.hid (show kindAt ns j = ux.kind by unfold kindAt; rw [getN_at hux])
      obtain ⟨kx, hkx⟩ : ∃ kx, kx = ux.kind := ⟨_, rfl⟩
      rw [← hkx] at y0 HKJ
      have HTK := Lib.hid (show (ks.take (k + 1)).all (fun j => !famBad kind (kindAt ns j)) = ((ks.take k).all (fun j => !famBad kind (kindAt ns j)) && !famBad kind kx) by
        obtain ⟨hk', e⟩ := List.getElem?_eq_some_iff.1 hj
        rw [List.take_succ_eq_append_getElem hk', e, List.all_append]; simp [HKJ.out])
      have HJM := Lib.hid (List.mem_of_getElem? hj)
      clear hux hvx hkx hj hkc
      go_wp2_with fail
      refine wp_region_later (by kernel_rfl) (by kernel_rfl) ?_; (repeat (first | go_big_quiet_step (fail) | quiet_step (fail))); refine wpQuiet_nil ?_; rintro _ ⟨s, rfl⟩
      have HB5 := Lib.hid (below_more HBW.out s.below)
      generalize s.w = W5 at HB5 ⊢
      have x0 := cell_of_blk (blk_keep HB5.out HY1.out) 0
      simp at x0
      obtain ⟨K2, hK2⟩ : ∃ K, (kind == 2) = K := ⟨_, rfl⟩
      obtain ⟨K3, hK3⟩ : ∃ K, (kind == 3) = K := ⟨_, rfl⟩
      obtain ⟨K4, hK4⟩ : ∃ K, (kind == 4) = K := ⟨_, rfl⟩
      obtain ⟨K5, hK5⟩ : ∃ K, (kind == 5) = K := ⟨_, rfl⟩
      obtain ⟨K7, hK7⟩ : ∃ K, (kind == 7) = K := ⟨_, rfl⟩
      obtain ⟨J1, hJ1⟩ : ∃ K, (kx != 1) = K := ⟨_, rfl⟩
      obtain ⟨J2, hJ2⟩ : ∃ K, (kx == 2) = K := ⟨_, rfl⟩
      obtain ⟨J3, hJ3⟩ : ∃ K, (kx == 3) = K := ⟨_, rfl⟩
      obtain ⟨J7, hJ7⟩ : ∃ K, (kx == 7) = K := ⟨_, rfl⟩
      have HBD := Lib.hid (show famBad kind kx = ((K4 && J1) || ((K2 || K5 || K7) && J2) || (K3 && J3) || (K7 && J7)) by
        unfold famBad; rw [hK2, hK3, hK4, hK5, hK7, hJ1, hJ2, hJ3, hJ7])
      go_upto_region 19 with fail
      go_cut [13] (fun s wx => s = .bool (K2 || K5 || K7) ∧ wx = W5)
      case first =>
        cases K2 with
        | true => go_wp2_with fail; go_meet; exact ⟨rfl, rfl⟩
        | false => cases K5 with
          | true => go_wp2_with fail; go_meet; exact ⟨rfl, rfl⟩
          | false => cases K7 with
            | true => go_wp2_with fail; go_meet; exact ⟨rfl, rfl⟩
            | false => go_wp2_with fail; go_meet; exact ⟨rfl, rfl⟩
      case rest =>
      obtain ⟨rfl, rfl⟩ := hcut
      obtain ⟨W5, rfl⟩ : ∃ w, w = wc := ⟨_, rfl⟩
      obtain ⟨KX, hKX⟩ : ∃ K, (K2 || K5 || K7) = K := ⟨_, rfl⟩
      rw [hKX] at HBD ⊢
      clear hKX hK2 hK5
      go_upto_region 20 with fail
      go_cut [134] (fun s wx => s = .bool ((K4 && J1) || (KX && J2) || (K3 && J3) || (K7 && J7)) ∧ wx = W5)
      case first =>
        cases K4 with
        | true =>
          cases J1 with
          | true =>
            go_wp2_with fail; go_meet; exact ⟨rfl, rfl⟩
          | false =>
            cases KX with
            | true =>
              cases J2 with
              | true =>
                go_wp2_with fail; go_meet; exact ⟨rfl, rfl⟩
              | false =>
                cases K3 with
                | true =>
                  cases J3 with
                  | true =>
                    go_wp2_with fail; go_meet; exact ⟨rfl, rfl⟩
                  | false =>
                    cases K7 with
                    | true =>
                      cases J7 with
                      | true =>
                        go_wp2_with fail; go_meet; exact ⟨rfl, rfl⟩
                      | false =>
                        go_wp2_with fail; go_meet; exact ⟨rfl, rfl⟩
                    | false =>
                      go_wp2_with fail; go_meet; exact ⟨rfl, rfl⟩
                | false =>
                  cases K7 with
                  | true =>
                    cases J7 with
                    | true =>
                      go_wp2_with fail; go_meet; exact ⟨rfl, rfl⟩
                    | false =>
                      go_wp2_with fail; go_meet; exact ⟨rfl, rfl⟩
                  | false =>
                    go_wp2_with fail; go_meet; exact ⟨rfl, rfl⟩
            | false =>
              cases K3 with
              | true =>
                cases J3 with
                | true =>
                  go_wp2_with fail; go_meet; exact ⟨rfl, rfl⟩
                | false =>
                  cases K7 with
                  | true =>
                    cases J7 with
                    | true =>
                      go_wp2_with fail; go_meet; exact ⟨rfl, rfl⟩
                    | false =>
                      go_wp2_with fail; go_meet; exact ⟨rfl, rfl⟩
                  | false =>
                    go_wp2_with fail; go_meet; exact ⟨rfl, rfl⟩
              | false =>
                cases K7 with
                | true =>
                  cases J7 with
                  | true =>
                    go_wp2_with fail; go_meet; exact ⟨rfl, rfl⟩
                  | false =>
                    go_wp2_with fail; go_meet; exact ⟨rfl, rfl⟩
                | false =>
                  go_wp2_with fail; go_meet; exact ⟨rfl, rfl⟩
        | false =>
          cases KX with
          | true =>
            cases J2 with
            | true =>
              go_wp2_with fail; go_meet; exact ⟨rfl, rfl⟩
            | false =>
              cases K3 with
              | true =>
                cases J3 with
                | true =>
                  go_wp2_with fail; go_meet; exact ⟨rfl, rfl⟩
                | false =>
                  cases K7 with
                  | true =>
                    cases J7 with
                    | true =>
                      go_wp2_with fail; go_meet; exact ⟨rfl, rfl⟩
                    | false =>
                      go_wp2_with fail; go_meet; exact ⟨rfl, rfl⟩
                  | false =>
                    go_wp2_with fail; go_meet; exact ⟨rfl, rfl⟩
              | false =>
                cases K7 with
                | true =>
                  cases J7 with
                  | true =>
                    go_wp2_with fail; go_meet; exact ⟨rfl, rfl⟩
                  | false =>
                    go_wp2_with fail; go_meet; exact ⟨rfl, rfl⟩
                | false =>
                  go_wp2_with fail; go_meet; exact ⟨rfl, rfl⟩
          | false =>
            cases K3 with
            | true =>
              cases J3 with
              | true =>
                go_wp2_with fail; go_meet; exact ⟨rfl, rfl⟩
              | false =>
                cases K7 with
                | true =>
                  cases J7 with
                  | true =>
                    go_wp2_with fail; go_meet; exact ⟨rfl, rfl⟩
                  | false =>
                    go_wp2_with fail; go_meet; exact ⟨rfl, rfl⟩
                | false =>
                  go_wp2_with fail; go_meet; exact ⟨rfl, rfl⟩
            | false =>
              cases K7 with
              | true =>
                cases J7 with
                | true =>
                  go_wp2_with fail; go_meet; exact ⟨rfl, rfl⟩
                | false =>
                  go_wp2_with fail; go_meet; exact ⟨rfl, rfl⟩
              | false =>
                go_wp2_with fail; go_meet; exact ⟨rfl, rfl⟩
      case rest =>
      obtain ⟨rfl, rfl⟩ := hcut
      obtain ⟨W5, rfl⟩ : ∃ w, w = wc := ⟨_, rfl⟩
      rw [← HBD.out]
      clear HBD hK3 hK4 hK7 hJ1 hJ2 hJ3 hJ7
      cases hbd : famBad kind kx with
      | true =>
        have HRF := Lib.hid (show R = false by
          rw [HF.out, List.all_eq_false]
          exact ⟨j, HJM.out, by rw [HKJ.out, hbd]; simp⟩)
        clear hbd
        go_wp2_with fail
        go_ret
        exact ⟨of_bool HRF.out.symm, below_more HB1.out HB5.out⟩
      | false =>
        have HT2 := Lib.hid (show (ks.take (k + 1)).all (fun j => !famBad kind (kindAt ns j)) = true by rw [HTK.out, HAL.out, hbd]; rfl)
        clear hbd
        go_wp2_with fail
        go_roundw
        case rel => exact ⟨k + 1, by omega, by go_num, HT2, HB5⟩
        case measure => simp [intOf]; omega
    · obtain rfl : k = n := by omega
      have HRT := Lib.hid (show R = true by
        rw [HF.out]
        have h := HAL.out
        rw [HNK.out, List.take_length] at h
        exact h)
      go_wp2_with fail
      go_ret
      exact ⟨of_bool HRT.out.symm, below_more HB1.out HBW.out⟩

end Go.Proofs.Ytbfedahonfjpfaa
