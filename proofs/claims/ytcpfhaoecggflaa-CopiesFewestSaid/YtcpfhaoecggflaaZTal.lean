/-
  Which tallies may be tested, on both sides (layer 9).
-/
import Derived.Test.YtcpfhaoecggflaaZKit
namespace Go.Proofs.Ytcpfhaoecggflaa
open Go.RowKit

/-- the numbers fit, one after the other -/
def fewB : Int → List Int → Bool
  | _, [] => true
  | r, x :: l => if (decide (x < 0) || decide (r < x)) = true then false else fewB (r - x) l
def tallyB (a b c d : Int) : Bool := fewB 60 [a, b, c, d]
theorem few_len : ∀ (l : List Int) (r : Int), 0 ≤ r → fewB r l = true → (∀ x ∈ l, 0 ≤ x) ∧ l.sum ≤ r
  | [], r, h, _ => ⟨(fun x hx => by cases hx), by simpa using h⟩
  | x :: l, r, h, hf => by
    rw [fewB] at hf
    split at hf
    · cases hf
    · rename_i hc
      simp at hc
      obtain ⟨h1, h2⟩ := few_len l (r - x) (by omega) hf
      refine ⟨fun y hy => ?_, by simp; omega⟩
      rcases List.mem_cons.1 hy with rfl | hy
      · omega
      · exact h1 y hy
theorem few_of : ∀ (l : List Int) (r : Int), (∀ x ∈ l, 0 ≤ x) → l.sum ≤ r → fewB r l = true
  | [], _, _, _ => rfl
  | x :: l, r, h, hs => by
    have h1 := h x (by simp)
    have h2 : ∀ y ∈ l, 0 ≤ y := fun y hy => h y (by simp [hy])
    have h3 : 0 ≤ l.sum := by
      clear hs h
      induction l with
      | nil => simp
      | cons y l ih => have := ih (fun z hz => h2 z (by simp [hz])); have := h2 y (by simp); simp; omega
    simp at hs
    rw [fewB, if_neg (by simp; omega)]
    exact few_of l (r - x) h2 (by omega)
theorem tally_in {a b c d : Int} (h : tallyB a b c d = true) : 0 ≤ a ∧ 0 ≤ b ∧ 0 ≤ c ∧ 0 ≤ d ∧ a + b + c + d ≤ 60 := by
  obtain ⟨h1, h2⟩ := few_len _ _ (by omega) h
  simp at h1 h2
  omega
theorem tally_out {a b c d : Int} (h : tallyB a b c d = false) : ¬ (0 ≤ a ∧ 0 ≤ b ∧ 0 ≤ c ∧ 0 ≤ d ∧ a + b + c + d ≤ 60) := fun hh => by
  have : tallyB a b c d = true := few_of _ _ (by simp; omega) (by simp; omega)
  rw [h] at this; cases this

set_option maxHeartbeats 1600000 in
theorem few_any (A : Option Addr) (cap : Nat) (zs : List Int) (w : World) (hz : IntsIn w A zs) (hl : zs.length ≤ 1000000) : Calls Try.prog 63 #[.slice A zs.length cap] w fun e w' => e = .returned (.bool (fewB 60 zs)) ∧ w = w' := by
  obtain ⟨n, hn⟩ : ∃ n, n = zs.length := ⟨_, rfl⟩
  rw [← hn] at hl ⊢
  have HN := Lib.hid hn
  clear hn
  go_enter Try.func63, Try.ntmps63
  go_wp2
  go_loop [3, 8] (fun r i => ∃ (j : Nat) (q : Int), j ≤ n ∧ i = .int .i64 j ∧ r = .int .i64 q ∧ 0 ≤ q ∧ q ≤ 60 ∧ Hid (fewB 60 zs = fewB q (zs.drop j))) (fun _ i => n - (intOf i).toNat)
  case atStart => exact ⟨0, 60, Nat.zero_le _, rfl, rfl, by omega, by omega, Lib.hid rfl⟩
  case round =>
    obtain ⟨j, q, hj, rfl, rfl, hq0, hq1, hf⟩ := hrel
    by_cases hlt : j < n
    · have hget : zs[j]? = some (zs[j]'(by have := HN.out; omega)) := List.getElem?_eq_getElem _
      have hd := List.drop_eq_getElem_cons (l := zs) (i := j) (by have := HN.out; omega)
      obtain ⟨x, hx⟩ : ∃ x, x = zs[j]'(by have := HN.out; omega) := ⟨_, rfl⟩
      rw [← hx] at hget hd
      obtain ⟨b, o, rfl, hb, hc⟩ := hz j x hget
      have hf := Lib.hid (show fewB 60 zs = if (decide (x < 0) || decide (q < x)) = true then false else fewB (q - x) (zs.drop (j + 1)) by rw [hf.out, hd]; rfl)
      clear hx hget hd
      by_cases h1 : x < 0
      · have hr := Lib.hid (show fewB 60 zs = false by rw [hf.out]; simp [h1])
        clear hf
        go_wp2
        go_ret
        exact ⟨of_bool hr.out.symm, rfl⟩
      · by_cases h2 : q < x
        · have hr := Lib.hid (show fewB 60 zs = false by rw [hf.out]; simp [h2])
          clear hf
          go_wp2
          go_ret
          exact ⟨of_bool hr.out.symm, rfl⟩
        · have hr := Lib.hid (show fewB 60 zs = fewB (q - x) (zs.drop (j + 1)) by rw [hf.out, if_neg (by simp; omega)])
          clear hf
          go_wp2
          go_round
          case rel => exact ⟨j + 1, q - x, by omega, by go_num, rfl, by omega, by omega, hr⟩
          case measure => simp [intOf]; omega
    · obtain rfl : j = n := by omega
      have hr := Lib.hid (show fewB 60 zs = true by rw [hf.out, List.drop_eq_nil_of_le (by have := HN.out; omega)]; rfl)
      clear hf
      go_wp2
      go_ret
      exact ⟨of_bool hr.out.symm, rfl⟩

end Go.Proofs.Ytcpfhaoecggflaa
