/-
  Contract of Big.
-/
import Derived.Test.YtcijomljopbelaaGreatGaA
namespace Go.Proofs.YtcijomljopbelaaGreat
open Go.RowKit

def vaBig (v : Va) : Bool := decide (100 < v.text.size)
def sgBig (s : Sg) : Bool := decide (20 < s.vals.length) || decide (100 < s.code.size) || s.vals.any vaBig
def bigB (l : List Sg) : Bool := decide (210 < l.length) || l.any sgBig
theorem sgBig_of {s : Sg} (h1 : s.vals.length ≤ 20) (h2 : s.code.size ≤ 100) : sgBig s = s.vals.any vaBig := by
  simp [sgBig, Nat.not_lt.2 h1, Nat.not_lt.2 h2]

set_option maxHeartbeats 1600000 in
theorem big_any (l : Lm) (w : World) (hl : LmOk w l) :
    Calls Tryz.prog 66 #[l.val] w fun e w' => e = .returned (.bool (bigB l.signs)) ∧ Below w.heap.size w w' := by
  have hs := hl.signs
  obtain ⟨per, ms, A, cap⟩ := l
  obtain ⟨-, hlen, hcap⟩ := hl
  dsimp only at hs hlen hcap
  unfold Lm.val Lm.signs
  dsimp only
  obtain ⟨n, hn⟩ : ∃ n, n = ms.length := ⟨_, rfl⟩
  rw [← hn] at hlen ⊢
  have hcap' := hcap
  unfold maxLen at hcap'
  have HN := Lib.hid hn
  have HNL := Lib.hid (show (ms.map (·.s)).length = n by rw [List.length_map]; exact hn.symm)
  clear hn
  by_cases h1 : n ≤ 210
  case neg =>
    have hf := Lib.hid (show bigB (ms.map (·.s)) = true by simp [bigB, HNL.out]; exact .inl (by have := HN.out; omega))
    go_enter Tryz.func66, Tryz.ntmps66
    go_wp2
    go_ret
    exact ⟨of_bool hf.out.symm, below_alloc _ _⟩
  have HF := Lib.hid (show bigB (ms.map (·.s)) = (ms.map (·.s)).any sgBig by unfold bigB; rw [HNL.out]; simp [Nat.not_lt.2 h1])
  go_enter Tryz.func66, Tryz.ntmps66
  go_wp2
  have HWb := Lib.hid (below_alloc w (.cells #[.int .i64 per, .slice A n cap] 24))
  go_loop [3] (fun i => ∃ k : Nat, k ≤ n ∧ i = .int .i64 k ∧ Hid (((ms.map (·.s)).take k).any sgBig = false)) (fun i => n - (intOf i).toNat)
  case atStart => exact ⟨0, Nat.zero_le _, rfl, Lib.hid (by simp)⟩
  case round =>
    obtain ⟨k, hk, rfl, hno⟩ := hrel
    by_cases hlt : k < n
    · have hget : ms[k]? = some (ms[k]'(by have := HN.out; omega)) := List.getElem?_eq_getElem _
      obtain ⟨u, hu⟩ : ∃ u, u = ms[k]'(by have := HN.out; omega) := ⟨_, rfl⟩
      rw [← hu] at hget
      obtain ⟨b, o, hA, hb1, hva, hok⟩ := hs k u hget
      subst hA
      obtain ⟨y0, y1, y2, y3, y4⟩ := hva.below HWb.out hb1
      have GET := Lib.hid (show (ms.map (·.s))[k]? = some u.s by rw [List.getElem?_map, hget]; rfl)
      obtain ⟨hvs, hvl, hvc, hcode⟩ := hok
      obtain ⟨⟨code, wide, high, even, vs⟩, A', cap'⟩ := u
      dsimp only at y0 y1 y2 y3 y4 hvs hvl hvc hcode GET
      obtain ⟨m, hm⟩ : ∃ m, m = vs.length := ⟨_, rfl⟩
      rw [← hm] at hvl y4
      have HM := Lib.hid hm
      unfold maxLen at hvc hcode
      have hsb : b < w.heap.size + 1 := by omega
      clear hu hget hva hs hm
      by_cases h20 : m ≤ 20
      case neg =>
        have hfin := Lib.hid (any_true sgBig _ k _ GET.out (by simp [sgBig]; exact .inl (.inl (by have := HM.out; omega))))
        go_wp2
        go_ret
        exact ⟨of_bool (by rw [HF.out, hfin.out]), HWb.out⟩
      by_cases h100 : code.size ≤ 100
      case neg =>
        have hfin := Lib.hid (any_true sgBig _ k _ GET.out (by simp [sgBig]; exact .inl (.inr (by omega))))
        go_wp2
        go_ret
        exact ⟨of_bool (by rw [HF.out, hfin.out]), HWb.out⟩
      have HS := Lib.hid (sgBig_of (s := ⟨code, wide, high, even, vs⟩) (by have := HM.out; dsimp only; omega) (by dsimp only; omega))
      go_wp2
      go_loop [4] (fun i => ∃ j : Nat, j ≤ m ∧ i = .int .i64 j ∧ Hid ((vs.take j).any vaBig = false)) (fun i => m - (intOf i).toNat)
      case atStart => exact ⟨0, Nat.zero_le _, rfl, Lib.hid (by simp)⟩
      case round =>
        obtain ⟨j, hj, rfl, hno2⟩ := hrel
        by_cases hlt2 : j < m
        · have hget : vs[j]? = some (vs[j]'(by have := HM.out; omega)) := List.getElem?_eq_getElem _
          obtain ⟨x, hx⟩ : ∃ x, x = vs[j]'(by have := HM.out; omega) := ⟨_, rfl⟩
          rw [← hx] at hget
          obtain ⟨b2, o2, hA2, hb2, hva2⟩ := hvs j x hget
          subst hA2
          obtain ⟨z0, z1, z2, z3, zsz⟩ := hva2.below HWb.out hb2
          have GET2 := Lib.hid hget
          unfold maxLen at zsz
          have hsb2 : b2 < w.heap.size + 1 := by omega
          clear hx hget hva2 hvs
          by_cases ht : x.text.size ≤ 100
          case neg =>
            have hfin := Lib.hid (any_true sgBig _ k _ GET.out (by rw [HS.out]; exact any_true vaBig _ j x GET2.out (by simp [vaBig]; omega)))
            go_wp2
            go_ret
            exact ⟨of_bool (by rw [HF.out, hfin.out]), HWb.out⟩
          have hst := Lib.hid (any_step vaBig _ j x GET2.out hno2.out (by simp [vaBig]; omega))
          go_wp2
          go_round
          case rel => exact ⟨j + 1, by omega, by go_num, hst⟩
          case measure => simp [intOf]; omega
        · obtain rfl : j = m := by omega
          have hst := Lib.hid (any_step sgBig _ k _ GET.out hno.out (by rw [HS.out]; have := hno2.out; rw [HM.out, List.take_length] at this; exact this))
          go_wp2
          go_round
          case rel => exact ⟨k + 1, by omega, by go_num, hst⟩
          case measure => simp [intOf]; omega
    · obtain rfl : k = n := by omega
      have hfin := Lib.hid (show (ms.map (·.s)).any sgBig = false by have := hno.out; rw [← HNL.out, List.take_length] at this; exact this)
      go_wp2
      go_ret
      exact ⟨of_bool (by rw [HF.out, hfin.out]), HWb.out⟩
theorem big_is (l : Lm) (w : World) (hl : LmOk w l) (r : Bool) (h : bigB l.signs = r) :
    Calls Tryz.prog 66 #[l.val] w fun e w' => e = .returned (.bool r) ∧ Below w.heap.size w w' := by
  rw [← h]; exact big_any l w hl
theorem not_big {l : Lm} (h : bigB l.signs = false) : l.ms.length ≤ 210 ∧ ∀ m ∈ l.ms, m.s.vals.length ≤ 20 ∧ m.s.code.size ≤ 100 ∧ ∀ v ∈ m.s.vals, v.text.size ≤ 100 := by
  simp only [bigB, Bool.or_eq_false_iff, decide_eq_false_iff_not] at h
  rw [Lm.length_signs] at h
  refine ⟨by omega, fun m hm => ?_⟩
  have h2 := List.any_eq_false.1 h.2 m.s (List.mem_map.2 ⟨m, hm, rfl⟩)
  simp [sgBig, vaBig] at h2
  refine ⟨by omega, by omega, fun v hv => ?_⟩
  have := h2.2 v hv
  omega

end Go.Proofs.YtcijomljopbelaaGreat
