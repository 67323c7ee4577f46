/-
  Same, whatever the lists: the program's, by slices.EqualFunc.
-/
import Derived.Test.YthnhpgmohhaeaaaDoorSameP
namespace Go.Proofs.YthnhpgmohhaeaaaDoor
open Go.RowKit

set_option maxHeartbeats 1600000 in
theorem eqFunc_any (A B : Option Addr) (c d : Nat) (ms us : List Sm) (w : World) (hA : SignsAt w A ms) (hB : SignsAt w B us) (hz : ms.length ≤ 1000000) (hz2 : us.length ≤ 1000000)
    (hv : ∀ m ∈ ms, m.s.vals.length ≤ 1000000) (hv2 : ∀ m ∈ us, m.s.vals.length ≤ 1000000) :
    Calls Tryd.prog 66 #[.slice A ms.length c, .slice B us.length d, .func (.func 67) #[] #[]] w fun e w' => e = .returned (.bool (eqUp sgEq (ms.map (·.s)) (us.map (·.s)))) ∧ Below w.heap.size w w' := by
  by_cases hlen : ms.length = us.length
  case neg =>
    have HF := Lib.hid (eqUp_len sgEq (ms.map (·.s)) (us.map (·.s)) (by simpa using hlen))
    generalize ms.length = n at hlen hz ⊢
    generalize us.length = m at hlen hz2 ⊢
    have hne : ((n : Int) == (m : Int)) = false := by rw [beq_eq_false_iff_ne]; omega
    go_enter Tryd.func66, Tryd.ntmps66
    go_wp2
    go_ret
    exact ⟨of_bool HF.out.symm, Below.refl _ _⟩
  obtain ⟨n, hn⟩ : ∃ n, n = ms.length := ⟨_, rfl⟩
  have HT := Lib.hid (fun k (hk : k = n) h0 => eqUp_true sgEq (ms.map (·.s)) (us.map (·.s)) k (by simpa using hlen) (by simpa using hk.trans hn) h0)
  have HX := Lib.hid (fun k u v h1 h2 h => eqUp_false sgEq (ms.map (·.s)) (us.map (·.s)) k u v h1 h2 h)
  rw [← hlen, ← hn]
  rw [← hn] at hz
  have HN := Lib.hid hn
  have HN2 := Lib.hid (hn.trans hlen)
  generalize eqUp sgEq (ms.map (·.s)) (us.map (·.s)) = R at HT HX ⊢
  clear hn hlen hz2
  go_enter Tryd.func66, Tryd.ntmps66
  go_wp2
  go_loopw [17] (fun i wr => ∃ k : Nat, k ≤ n ∧ i = .int .i64 k ∧ Hid (Below w.heap.size w wr) ∧ Hid ((((ms.map (·.s)).zip (us.map (·.s))).take k).all (fun p => sgEq p.1 p.2) = true)) (fun i _ => n - (intOf i).toNat)
  case atStart => exact ⟨0, Nat.zero_le _, rfl, Lib.hid (Below.refl _ _), Lib.hid (by simp)⟩
  case round =>
    obtain ⟨k, hk, rfl, hb, hall⟩ := hrel
    by_cases hlt : k < n
    · have hget : ms[k]? = some (ms[k]'(by have := HN.out; omega)) := List.getElem?_eq_getElem _
      obtain ⟨u, hu⟩ : ∃ u, u = ms[k]'(by have := HN.out; omega) := ⟨_, rfl⟩
      rw [← hu] at hget
      have hget2 : us[k]? = some (us[k]'(by have := HN2.out; omega)) := List.getElem?_eq_getElem _
      obtain ⟨v, hv'⟩ : ∃ v, v = us[k]'(by have := HN2.out; omega) := ⟨_, rfl⟩
      rw [← hv'] at hget2
      obtain ⟨b, o, e1, hb1, hva, hok⟩ := hA k u hget
      obtain ⟨b', o', e1', hb1', hva', hok'⟩ := hB k v hget2
      subst e1 e1'
      have HSS := Lib.hid (fun w (h : SmOk w u) (h' : SmOk w v) => sameSign_any u v w h h' (hv u (List.mem_of_getElem? hget)) (hv2 v (List.mem_of_getElem? hget2)))
      have GET := Lib.hid (show (ms.map (·.s))[k]? = some u.s by rw [List.getElem?_map, hget]; rfl)
      have GET2 := Lib.hid (show (us.map (·.s))[k]? = some v.s by rw [List.getElem?_map, hget2]; rfl)
      obtain ⟨Q, hQ⟩ : ∃ Q, sgEq u.s v.s = Q := ⟨_, rfl⟩
      have HQ := Lib.hid hQ
      rw [hQ] at HSS
      have Y := Lib.hid (hva.below hb.out hb1)
      have Z := Lib.hid (hva'.below hb.out hb1')
      have OU := Lib.hid (hok.below hb.out)
      have OV := Lib.hid (hok'.below hb.out)
      have h1 : b < wr.heap.size := by have := hb.out.size; omega
      have h2 : b' < wr.heap.size := by have := hb.out.size; omega
      clear hQ hu hv' hget hget2 hva hva' hok hok' hA hB hv hv2
      obtain ⟨⟨code, wide, high, even, vs⟩, A, cap⟩ := u
      obtain ⟨⟨code2, wide2, high2, even2, vs2⟩, A2, cap2⟩ := v
      obtain ⟨y0, y1, y2, y3, y4⟩ := Y.out
      obtain ⟨z0, z1, z2, z3, z4⟩ := Z.out
      unfold Sm.val at HSS
      dsimp only at y0 y1 y2 y3 y4 z0 z1 z2 z3 z4 HSS
      go_wp2_with fail
      have BA := Lib.hid (show Below wr.heap.size wr ((wr.alloc (.cells #[.string code, .int .i64 wide, .int .i64 high, .bool even, .slice A vs.length cap] 63)).alloc (.cells #[.string code2, .int .i64 wide2, .int .i64 high2, .bool even2, .slice A2 vs2.length cap2] 63)) from ((Below.refl _ _).alloc (Nat.le_refl _) _).alloc (by simp) _)
      refine (HSS.out _ (OU.out.below BA.out) (OV.out.below BA.out)).mono ?_; rintro e w5 ⟨rfl, hb5⟩
      have b5 := Lib.hid (below_more BA.out hb5)
      clear hb5 y0 y1 y2 y3 y4 z0 z1 z2 z3 z4
      cases Q with
      | true =>
        go_wp2
        go_roundw
        case rel => exact ⟨k + 1, by omega, by go_num, Lib.hid (hb.out.trans (b5.out.mono hb.out.size)), Lib.hid (allz_step _ _ k (_, _) (zip_at GET.out GET2.out) hall.out HQ.out)⟩
        case measure => simp [intOf]; omega
      | false =>
        have HR := Lib.hid (HX.out k _ _ GET.out GET2.out HQ.out)
        go_wp2
        go_ret
        exact ⟨of_bool HR.out.symm, hb.out.trans (b5.out.mono hb.out.size)⟩
    · obtain rfl : k = n := by omega
      have HR := Lib.hid (HT.out k rfl hall.out)
      go_wp2
      go_ret
      exact ⟨of_bool HR.out.symm, hb.out⟩

/-- Same -/
theorem same_any (L M : Lm) (w : World) (hL : LmOk w L) (hM : LmOk w M) (hz : L.ms.length ≤ 1000000) (hz2 : M.ms.length ≤ 1000000) (hv : ∀ m ∈ L.ms, m.s.vals.length ≤ 1000000) (hv2 : ∀ m ∈ M.ms, m.s.vals.length ≤ 1000000) :
    Calls Tryd.prog 36 #[L.val, M.val] w fun e w' => e = .returned (.bool (liEq L.li M.li)) ∧ Below w.heap.size w w' := by
  have HE := Lib.hid (fun w (h : LmOk w L) (h2 : LmOk w M) => eqFunc_any L.A M.A L.cap M.cap L.ms M.ms w h.signs h2.signs hz hz2 hv hv2)
  have HL := Lib.hid hL
  have HM := Lib.hid hM
  obtain ⟨S, hS⟩ : ∃ S, eqUp sgEq (L.ms.map (·.s)) (M.ms.map (·.s)) = S := ⟨_, rfl⟩
  rw [hS] at HE
  have HF := Lib.hid (show liEq L.li M.li = ((L.per == M.per) && S) from by rw [← hS]; rfl)
  clear hS hL hM hz hz2 hv hv2
  obtain ⟨per, ms, A, cap⟩ := L
  obtain ⟨per2, ms2, A2, cap2⟩ := M
  unfold Lm.val
  dsimp only at HE HL HM HF ⊢
  have BA := Lib.hid (show Below w.heap.size w ((w.alloc (.cells #[.int .i64 per, .slice A ms.length cap] 24)).alloc (.cells #[.int .i64 per2, .slice A2 ms2.length cap2] 24)) from ((Below.refl _ _).alloc (Nat.le_refl _) _).alloc (by simp) _)
  by_cases hp : (per == per2) = true
  case neg =>
    have hp : (per == per2) = false := by simpa using hp
    have HF2 := Lib.hid (show liEq ⟨per, ms.map (·.s)⟩ ⟨per2, ms2.map (·.s)⟩ = false by
      have := HF.out; rw [hp] at this; exact this)
    go_enter Tryd.func36, Tryd.ntmps36
    go_wp2
    go_ret
    exact ⟨of_bool HF2.out.symm, BA.out⟩
  have HF2 := Lib.hid (show liEq ⟨per, ms.map (·.s)⟩ ⟨per2, ms2.map (·.s)⟩ = S by
      have := HF.out; rw [hp, Bool.true_and] at this; exact this)
  go_enter Tryd.func36, Tryd.ntmps36
  go_wp2_with fail
  refine (HE.out _ (HL.out.below BA.out) (HM.out.below BA.out)).mono ?_; rintro e w5 ⟨rfl, hb5⟩
  go_wp2
  go_ret
  exact ⟨of_bool HF2.out.symm, below_more BA.out hb5⟩

end Go.Proofs.YthnhpgmohhaeaaaDoor
