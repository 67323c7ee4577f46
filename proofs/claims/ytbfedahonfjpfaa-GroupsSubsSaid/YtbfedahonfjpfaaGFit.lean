/-
  Whether a node has the kids that its kind asks for (kidsFit); the check of a text (groups.Check).
-/
import Derived.Test.YtbfedahonfjpfaaGChk
namespace Go.Proofs.Ytbfedahonfjpfaa
open Go.RowKit

def kindAt (ns : List Nd) (j : Nat) : Int := (getN ns j).kind
def kidsFitB (ns : List Nd) (i : Nat) : Bool :=
  !decide (((kidsL ns i).length : Int) < (kidsR (kindAt ns i)).1) && !decide ((kidsR (kindAt ns i)).2 < ((kidsL ns i).length : Int)) && (kidsL ns i).all fun j => holdsB (kindAt ns i) (kindAt ns j) (kidsL ns i).length
theorem holds_is (kind kid n : Int) (w : World) (r : Bool) (h : holdsB kind kid n = r) : Calls Try.prog 93 #[.int .i64 kind, .int .i64 kid, .int .i64 n] w fun e w' => e = .returned (.bool r) ∧ w = w' := by
  rw [← h]; exact holds_any kind kid n w

set_option maxRecDepth 100000 in
set_option maxHeartbeats 8000000 in
theorem kidsFit_any (A : Option Addr) (cap i : Nat) (ns : List Nd) (u : Nd) (w : World) (hn : NdsAt w A ns) (hc1 : ns.length ≤ cap) (hc : cap ≤ maxLen) (hsm : ns.length ≤ 1000000) (hi : ns[i]? = some u) (hd : 0 ≤ u.depth ∧ u.depth ≤ 4) :
    Calls Try.prog 59 #[.slice A ns.length cap, .int .i64 i] w fun e w' => e = .returned (.bool (kidsFitB ns i)) ∧ Below w.heap.size w w' := by
  have hin : i < ns.length := (List.getElem?_eq_some_iff.1 hi).1
  have HKO := Lib.hid (fun wx (hb : Below w.heap.size w wx) => kidsOf_any A cap i ns u hi hc1 hc hsm (by omega) wx (hn.below hb))
  have HKA := Lib.hid (fun j (hj : j ∈ kidsL ns i) => kids_at hi hj)
  have HNS := Lib.hid hn
  obtain ⟨b, o, hA, hblt, hva⟩ := hn i u hi
  subst hA
  obtain ⟨y0, y1, y2, y3, y4, y5, y6, y7⟩ := hva
  have hkl : (kidsL ns i).length ≤ 1000000 := by
    unfold kidsL
    rw [hi]
    have h1 := List.length_filter_le (kidB ns u.depth) (List.range' (i + 1) (spanN ns u.depth i))
    have h2 := spanN_le ns u.depth i hin
    rw [List.length_range'] at h1
    show (List.filter (kidB ns u.depth) (List.range' (i + 1) (spanN ns u.depth i))).length ≤ _
    omega
  have hka : kindAt ns i = u.kind := by unfold kindAt; rw [getN_at hi]
  obtain ⟨N, hN⟩ : ∃ N, N = ns.length := ⟨_, rfl⟩
  obtain ⟨ks, hks⟩ : ∃ ks, ks = kidsL ns i := ⟨_, rfl⟩
  have HE := Lib.hid (show kidsFitB ns i = (!decide ((ks.length : Int) < (kidsR u.kind).1) && !decide ((kidsR u.kind).2 < (ks.length : Int)) && ks.all fun j => holdsB u.kind (kindAt ns j) ks.length) by
    unfold kidsFitB; rw [hka, hks])
  obtain ⟨⟨lo, hi2⟩, hkr⟩ : ∃ p, p = kidsR u.kind := ⟨_, rfl⟩
  have HKK := Lib.hid (fun wx => kidsOfKind_any u.kind wx)
  rw [← hkr] at HE HKK
  dsimp only at HE HKK
  rw [← hN] at hc1 hin HKO ⊢
  rw [← hks] at HKO HKA hkl
  have HN := Lib.hid hN
  generalize kidsFitB ns i = R at HE ⊢
  obtain ⟨kind, depth, sign, turn, mirror, state, mn, mx⟩ := u
  dsimp only at y0 y1 y2 y3 y4 y5 y6 y7 HE HKK
  unfold maxLen at hc
  clear hn hi hN hks hka hkr hd
  obtain ⟨n, hnn⟩ : ∃ n, n = ks.length := ⟨_, rfl⟩
  have HNK := Lib.hid hnn
  rw [← hnn] at hkl HE HKO
  clear hnn
  obtain ⟨W, hW⟩ : ∃ W, W = w.alloc (.cells #[.int .i64 kind, .int .i64 depth, .int .i64 sign, .int .i64 turn, .bool mirror, .int .i64 state, .int .i64 mn, .int .i64 mx] 78) := ⟨_, rfl⟩
  have HB := Lib.hid (show Below w.heap.size w W from hW ▸ below_alloc _ _)
  have HX := Lib.hid (show W.heap[w.heap.size]? = some (.cells #[.int .i64 kind, .int .i64 depth, .int .i64 sign, .int .i64 turn, .bool mirror, .int .i64 state, .int .i64 mn, .int .i64 mx] 78 (0, 0)) by rw [hW]; exact heap_alloc_new _ _)
  go_enter Try.func59, Try.ntmps59
  go_wp2_with fail
  rw [← hW]
  clear hW y0 y1 y2 y3 y4 y5 y6 y7
  refine (HKO.out W HB.out).mono ?_; rintro e w1 ⟨Ak, ck, rfl, hown, hb⟩
  have HB1 := Lib.hid (below_more HB.out hb)
  have HX1 := Lib.hid (blk_keep hb HX.out)
  have HNA := Lib.hid (row_ints hown)
  have hol := own_len hown
  have hck := hol.1
  have hcm := hol.2.1
  unfold maxLen at hcm
  clear hown hb hol HX HKO HB
  have x0 := cell_of_blk HX1.out 0
  simp at x0
  go_wp2_with fail
  refine (HKK.out _).mono ?_; rintro e w1' ⟨rfl, rfl⟩
  by_cases h1 : (n : Int) < lo
  · have HF := Lib.hid (show R = false by rw [HE.out, decide_eq_true h1]; rfl)
    clear HE
    go_wp2_with fail
    go_ret
    exact ⟨of_bool HF.out.symm, HB1.out⟩
  by_cases h2 : hi2 < (n : Int)
  · have HF := Lib.hid (show R = false by rw [HE.out, decide_eq_true h2]; simp)
    clear HE
    go_wp2_with fail
    go_ret
    exact ⟨of_bool HF.out.symm, HB1.out⟩
  have HF := Lib.hid (show R = ks.all fun j => holdsB kind (kindAt ns j) n by rw [HE.out, decide_eq_false h1, decide_eq_false h2]; rfl)
  clear HE x0
  go_wp2_with fail
  go_loopw [10, 36] (fun _ c wr => ∃ k : Nat, k ≤ n ∧ c = .int .i64 k ∧ Hid (((ks.take k).all fun j => holdsB kind (kindAt ns j) n) = true) ∧ Hid (Below w1.heap.size w1 wr)) (fun _ c _ => n - (intOf c).toNat)
  case atStart => exact ⟨0, Nat.zero_le _, rfl, Lib.hid (by simp), Lib.hid (Below.refl _ _)⟩
  case round =>
    obtain ⟨k, hk, rfl, hall, hbw⟩ := hrel
    have HBW := Lib.hid hbw.out
    have HAL := Lib.hid hall.out
    clear hbw hall
    by_cases hlt : k < n
    · obtain ⟨j, hj⟩ : ∃ j, ks[k]? = some j := ⟨_, List.getElem?_eq_getElem (by have := HNK.out; omega)⟩
      obtain ⟨ux, hux, -⟩ := HKA.out j (List.mem_of_getElem? hj)
      obtain ⟨kb, ko, hAk, hkb, hkc⟩ := HNA.out k j hj
      subst hAk
      obtain ⟨b', o', e, hb', hvx⟩ := HNS.out j ux hux
      injection e with e; injection e with e1 e2
      subst e1 e2
      have hjn : j < N := by rw [HN.out]; exact (List.getElem?_eq_some_iff.1 hux).1
      have y0 := (hvx.below (below_more HB1.out HBW.out) hb').c0
      have z0 := (HBW.out.cell (p := ⟨kb, ko + k, none⟩) hkb).trans hkc
      have x0 := cell_of_blk (blk_keep HBW.out HX1.out) 0
      simp at x0
      have hs0 : w.heap.size < wr.heap.size := (Array.getElem?_eq_some_iff.1 (blk_keep HBW.out HX1.out)).1
      have hs1 : b < wr.heap.size := by have := HBW.out.size; have := HB1.out.size; omega
      have HKJ := Lib.hid (show kindAt ns j = ux.kind by unfold kindAt; rw [getN_at hux])
      obtain ⟨kx, hkx⟩ : ∃ kx, kx = ux.kind := ⟨_, rfl⟩
      rw [← hkx] at y0 HKJ
      have HTK := Lib.hid (show (ks.take (k + 1)).all (fun j => holdsB kind (kindAt ns j) n) = ((ks.take k).all (fun j => holdsB kind (kindAt ns j) n) && holdsB kind kx n) by
        obtain ⟨hk', e⟩ := List.getElem?_eq_some_iff.1 hj
        rw [List.take_succ_eq_append_getElem hk', e, List.all_append]; simp [HKJ.out])
      have HJM := Lib.hid (List.mem_of_getElem? hj)
      clear hux hvx hkx hj hkc
      cases hh : holdsB kind kx n with
      | true =>
        have HH := Lib.hid (fun wx => holds_is kind kx n wx true hh)
        have HT2 := Lib.hid (show (ks.take (k + 1)).all (fun j => holdsB kind (kindAt ns j) n) = true by rw [HTK.out, HAL.out, hh]; rfl)
        clear hh
        go_wp2_with fail
        refine wp_region_later (by kernel_rfl) (by kernel_rfl) ?_; (repeat (first | go_big_quiet_step (((go_at_call 93; exact Calls.later_same _ (HH.out _)))) | quiet_step (((go_at_call 93; exact Calls.later_same _ (HH.out _)))))); refine wpQuiet_nil ?_; rintro _ ⟨s, rfl⟩
        have HB5 := Lib.hid (below_more HBW.out s.below)
        generalize s.w = W5 at HB5 ⊢
        go_wp2_with fail
        go_roundw
        case rel => exact ⟨k + 1, by omega, by go_num, HT2, HB5⟩
        case measure => simp [intOf]; omega
      | false =>
        have HH := Lib.hid (fun wx => holds_is kind kx n wx false hh)
        have HRF := Lib.hid (show R = false by
          rw [HF.out, List.all_eq_false]
          exact ⟨j, HJM.out, by rw [HKJ.out, hh]; simp⟩)
        clear hh
        go_wp2_with fail
        refine wp_region_later (by kernel_rfl) (by kernel_rfl) ?_; (repeat (first | go_big_quiet_step (((go_at_call 93; exact Calls.later_same _ (HH.out _)))) | quiet_step (((go_at_call 93; exact Calls.later_same _ (HH.out _)))))); refine wpQuiet_nil ?_; rintro _ ⟨s, rfl⟩
        have HB5 := Lib.hid (below_more (below_more HB1.out HBW.out) s.below)
        generalize s.w = W5 at HB5 ⊢
        go_wp2_with fail
        go_ret
        exact ⟨of_bool HRF.out.symm, HB5.out⟩
    · obtain rfl : k = n := by omega
      have HRT := Lib.hid (show R = true by
        rw [HF.out]
        have h := HAL.out
        rw [HNK.out, List.take_length] at h
        rw [HNK.out]; exact h)
      go_wp2_with fail
      go_ret
      exact ⟨of_bool HRT.out.symm, below_more HB1.out HBW.out⟩

end Go.Proofs.Ytbfedahonfjpfaa
