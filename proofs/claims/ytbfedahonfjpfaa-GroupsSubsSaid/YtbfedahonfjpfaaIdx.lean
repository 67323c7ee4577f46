/-
  Contracts of the specification's index, and of its Check.
-/
import Derived.Test.YtbfedahonfjpfaaRsign
namespace Go.Proofs.Ytbfedahonfjpfaa
open Go.RowKit

/-- the first place of a code; -1: there is none -/
def indexI (l : List Sg) (code : ByteArray) : Int := match l.findIdx? (fun s => strEq s.code code) with
  | some i => (i : Int)
  | none => -1
theorem indexI_at (l : List Sg) (code : ByteArray) (k : Nat) (s : Sg) (h : l[k]? = some s) (hs : strEq s.code code = true) (hno : (l.take k).any (fun s => strEq s.code code) = false) : indexI l code = k := by
  have : l.findIdx? (fun s => strEq s.code code) = some k := by
    rw [List.findIdx?_eq_some_iff_getElem]
    obtain ⟨hk, rfl⟩ := List.getElem?_eq_some_iff.1 h
    refine ⟨hk, hs, fun j hj => ?_⟩
    have := List.any_eq_false.1 hno (l[j]'(by omega)) (List.mem_take_iff_getElem.2 ⟨j, by omega, rfl⟩)
    simpa using this
  simp [indexI, this]
theorem indexI_none (l : List Sg) (code : ByteArray) (hno : l.any (fun s => strEq s.code code) = false) : indexI l code = -1 := by
  have : l.findIdx? (fun s => strEq s.code code) = none := by
    rw [List.findIdx?_eq_none_iff]
    intro x hx
    simpa using List.any_eq_false.1 hno x hx
  simp [indexI, this]

set_option maxHeartbeats 1600000 in
theorem index_any (l : Lm) (code : ByteArray) (w : World) (hl : LmOk w l) :
    Calls Try.prog 95 #[l.val, .string code] w fun e w' => e = .returned (.int .i64 (indexI l.signs code)) ∧ Below w.heap.size w w' := by
  have hs := hl.signs
  obtain ⟨per, ms, A, cap⟩ := l
  obtain ⟨-, hlen, hcap⟩ := hl
  dsimp only at hs hlen hcap
  unfold Lm.val Lm.signs
  dsimp only
  obtain ⟨n, hn⟩ : ∃ n, n = ms.length := ⟨_, rfl⟩
  rw [← hn] at hlen ⊢
  have hcap' := hcap
  unfold maxLen at hcap'
  have HN := Lib.hid hn
  clear hn
  go_enter Try.func95, Try.ntmps95
  go_wp2
  have HWb := Lib.hid (below_alloc w (.cells #[.int .i64 per, .slice A n cap] 24))
  go_loop [5] (fun i => ∃ k : Nat, k ≤ n ∧ i = .int .i64 k ∧ Hid (((ms.map (·.s)).take k).any (fun s => strEq s.code code) = false)) (fun i => n - (intOf i).toNat)
  case atStart => exact ⟨0, Nat.zero_le _, rfl, Lib.hid (by simp)⟩
  case round =>
    obtain ⟨k, hk, rfl, hno⟩ := hrel
    by_cases hlt : k < n
    · have hget : ms[k]? = some (ms[k]'(by have := HN.out; omega)) := List.getElem?_eq_getElem _
      obtain ⟨u, hu⟩ : ∃ u, u = ms[k]'(by have := HN.out; omega) := ⟨_, rfl⟩
      rw [← hu] at hget
      obtain ⟨b, o, hA, hb1, hva, -⟩ := hs k u hget
      subst hA
      obtain ⟨y0, -, -, -, -⟩ := hva
      have GET := Lib.hid (show (ms.map (·.s))[k]? = some u.s by rw [List.getElem?_map, hget]; rfl)
      clear hu hget hs
      by_cases hc : (u.s.code.toList == code.toList) = true
      · have hfin := Lib.hid (indexI_at _ code k u.s GET.out hc hno.out)
        go_wp2
        go_ret
        exact ⟨of_int hfin.out.symm, HWb.out⟩
      · have hc : (u.s.code.toList == code.toList) = false := by simpa using hc
        have hstep := Lib.hid (any_step (fun s : Sg => strEq s.code code) _ k u.s GET.out hno.out hc)
        go_wp2
        go_round
        case rel => exact ⟨k + 1, by omega, by go_num, hstep⟩
        case measure => simp [intOf]; omega
    · obtain rfl : k = n := by omega
      have hfin := Lib.hid (show indexI (ms.map (·.s)) code = -1 from indexI_none _ _ (by have := hno.out; rw [HN.out, ← List.length_map (f := (·.s)), List.take_length] at this; exact this))
      go_wp2
      go_ret
      exact ⟨of_int hfin.out.symm, HWb.out⟩

end Go.Proofs.Ytbfedahonfjpfaa
