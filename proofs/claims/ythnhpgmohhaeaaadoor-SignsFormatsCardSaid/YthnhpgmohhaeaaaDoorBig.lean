/-
  Contracts of Big and SameInts.
-/
import Derived.Test.YthnhpgmohhaeaaaDoorWorks
namespace Go.Proofs.YthnhpgmohhaeaaaDoor
open Go.RowKit

def vaBig (v : Va) : Bool := decide (100 < v.text.size)
def sgBig (s : Sg) : Bool := decide (20 < s.vals.length) || decide (100 < s.code.size) || s.vals.any vaBig
def bigB (l : List Sg) : Bool := decide (210 < l.length) || l.any sgBig
theorem sgBig_of {s : Sg} (h1 : s.vals.length ≤ 20) (h2 : s.code.size ≤ 100) : sgBig s = s.vals.any vaBig := by
  simp [sgBig, Nat.not_lt.2 h1, Nat.not_lt.2 h2]

set_option maxHeartbeats 1600000 in
theorem big_any (l : Lm) (w : World) (hl : LmOk w l) :
    Calls Tryd.prog 12 #[l.val] w fun e w' => e = .returned (.bool (bigB l.signs)) ∧ Below w.heap.size w w' := by
  have hs := hl.signs
  obtain ⟨per, ms, A, cap⟩ := l
  obtain ⟨-, hlen, hcap⟩ := hl
  dsimp only at hs hlen hcap
  unfold Lm.val Lm.signs
  dsimp only
  obtain ⟨n, hn⟩ : ∃ n, n = ms.length := ⟨_, rfl⟩
  rw [← hn] at hlen ⊢
  have hcap' := hcap
  unfold maxLen at hcap'
  have HN := Lib.hid hn
  have HNL := Lib.hid (show (ms.map (·.s)).length = n by rw [List.length_map]; exact hn.symm)
  clear hn
  by_cases h1 : n ≤ 210
  case neg =>
    have hf := Lib.hid (show bigB (ms.map (·.s)) = true by simp [bigB, HNL.out]; exact .inl (by have := HN.out; omega))
    go_enter Tryd.func12, Tryd.ntmps12
    go_wp2
    go_ret
    exact ⟨of_bool hf.out.symm, below_alloc _ _⟩
  have HF := Lib.hid (show bigB (ms.map (·.s)) = (ms.map (·.s)).any sgBig by unfold bigB; rw [HNL.out]; simp [Nat.not_lt.2 h1])
  go_enter Tryd.func12, Tryd.ntmps12
  go_wp2
  have HWb := Lib.hid (below_alloc w (.cells #[.int .i64 per, .slice A n cap] 24))
  go_loop [3] (fun i => ∃ k : Nat, k ≤ n ∧ i = .int .i64 k ∧ Hid (((ms.map (·.s)).take k).any sgBig = false)) (fun i => n - (intOf i).toNat)
  case atStart => exact ⟨0, Nat.zero_le _, rfl, Lib.hid (by simp)⟩
  case round =>
    obtain ⟨k, hk, rfl, hno⟩ := hrel
    by_cases hlt : k < n
    · have hget : ms[k]? = some (ms[k]'(by have := HN.out; omega)) := List.getElem?_eq_getElem _
      obtain ⟨u, hu⟩ : ∃ u, u = ms[k]'(by have := HN.out; omega) := ⟨_, rfl⟩
      rw [← hu] at hget
      obtain ⟨b, o, hA, hb1, hva, hok⟩ := hs k u hget
      subst hA
      obtain ⟨y0, y1, y2, y3, y4⟩ := hva.below HWb.out hb1
      have GET := Lib.hid (show (ms.map (·.s))[k]? = some u.s by rw [List.getElem?_map, hget]; rfl)
      obtain ⟨hvs, hvl, hvc, hcode⟩ := hok
      obtain ⟨⟨code, wide, high, even, vs⟩, A', cap'⟩ := u
      dsimp only at y0 y1 y2 y3 y4 hvs hvl hvc hcode GET
      obtain ⟨m, hm⟩ : ∃ m, m = vs.length := ⟨_, rfl⟩
      rw [← hm] at hvl y4
      have HM := Lib.hid hm
      unfold maxLen at hvc hcode
      have hsb : b < w.heap.size + 1 := by omega
      clear hu hget hva hs hm
      by_cases h20 : m ≤ 20
      case neg =>
        have hfin := Lib.hid (any_true sgBig _ k _ GET.out (by simp [sgBig]; exact .inl (.inl (by have := HM.out; omega))))
        go_wp2
        go_ret
        exact ⟨of_bool (by rw [HF.out, hfin.out]), HWb.out⟩
      by_cases h100 : code.size ≤ 100
      case neg =>
        have hfin := Lib.hid (any_true sgBig _ k _ GET.out (by simp [sgBig]; exact .inl (.inr (by omega))))
        go_wp2
        go_ret
        exact ⟨of_bool (by rw [HF.out, hfin.out]), HWb.out⟩
      have HS := Lib.hid (sgBig_of (s := ⟨code, wide, high, even, vs⟩) (by have := HM.out; dsimp only; omega) (by dsimp only; omega))
      go_wp2
      go_loop [4] (fun i => ∃ j : Nat, j ≤ m ∧ i = .int .i64 j ∧ Hid ((vs.take j).any vaBig = false)) (fun i => m - (intOf i).toNat)
      case atStart => exact ⟨0, Nat.zero_le _, rfl, Lib.hid (by simp)⟩
      case round =>
        obtain ⟨j, hj, rfl, hno2⟩ := hrel
        by_cases hlt2 : j < m
        · have hget : vs[j]? = some (vs[j]'(by have := HM.out; omega)) := List.getElem?_eq_getElem _
          obtain ⟨x, hx⟩ : ∃ x, x = vs[j]'(by have := HM.out; omega) := ⟨_, rfl⟩
          rw [← hx] at hget
          obtain ⟨b2, o2, hA2, hb2, hva2⟩ := hvs j x hget
          subst hA2
          obtain ⟨z0, z1, z2, z3, zsz⟩ := hva2.below HWb.out hb2
          have GET2 := Lib.hid hget
          unfold maxLen at zsz
          have hsb2 : b2 < w.heap.size + 1 := by omega
          clear hx hget hva2 hvs
          by_cases ht : x.text.size ≤ 100
          case neg =>
            have hfin := Lib.hid (any_true sgBig _ k _ GET.out (by rw [HS.out]; exact any_true vaBig _ j x GET2.out (by simp [vaBig]; omega)))
            go_wp2
            go_ret
            exact ⟨of_bool (by rw [HF.out, hfin.out]), HWb.out⟩
          have hst := Lib.hid (any_step vaBig _ j x GET2.out hno2.out (by simp [vaBig]; omega))
          go_wp2
          go_round
          case rel => exact ⟨j + 1, by omega, by go_num, hst⟩
          case measure => simp [intOf]; omega
        · obtain rfl : j = m := by omega
          have hst := Lib.hid (any_step sgBig _ k _ GET.out hno.out (by rw [HS.out]; have := hno2.out; rw [HM.out, List.take_length] at this; exact this))
          go_wp2
          go_round
          case rel => exact ⟨k + 1, by omega, by go_num, hst⟩
          case measure => simp [intOf]; omega
    · obtain rfl : k = n := by omega
      have hfin := Lib.hid (show (ms.map (·.s)).any sgBig = false by have := hno.out; rw [← HNL.out, List.take_length] at this; exact this)
      go_wp2
      go_ret
      exact ⟨of_bool (by rw [HF.out, hfin.out]), HWb.out⟩

set_option maxHeartbeats 800000 in
theorem sameInts_eq (A B : Option Addr) (c d : Nat) (zs : List Int) (w : World) (hA : IntsAt w A zs) (hB : IntsAt w B zs) (hA0 : A = none → zs = []) (hB0 : B = none → zs = []) (hz : zs.length ≤ 1000000) :
    Calls Tryd.prog 27 #[.slice A zs.length c, .slice B zs.length d] w fun e w' => e = .returned (.bool true) ∧ Below w.heap.size w w' := by
  obtain ⟨n, hn⟩ : ∃ n, n = zs.length := ⟨_, rfl⟩
  rw [← hn] at hz ⊢
  have HN := Lib.hid hn
  clear hn
  go_enter Tryd.func27, Tryd.ntmps27
  go_wp2
  go_loopw [5] (fun i wr => ∃ k : Nat, k ≤ n ∧ i = .int .i64 k ∧ Hid (Below w.heap.size w wr)) (fun i _ => n - (intOf i).toNat)
  case atStart => exact ⟨0, Nat.zero_le _, rfl, Lib.hid (Below.refl _ _)⟩
  case round =>
    obtain ⟨k, hk, rfl, hb⟩ := hrel
    by_cases hlt : k < n
    · have hne : zs ≠ [] := by intro h; have := HN.out; rw [h] at this; simp at this; omega
      cases A with
      | none => exact absurd (hA0 rfl) hne
      | some a =>
        cases B with
        | none => exact absurd (hB0 rfl) hne
        | some b =>
          obtain ⟨g, rfl, hg, hc⟩ := hA a rfl
          obtain ⟨g', rfl, hg', hc'⟩ := hB b rfl
          have x := hc k (by have := HN.out; omega)
          have y := hc' k (by have := HN.out; omega)
          have x := (World.cell?_of_block (a := ⟨g, k, none⟩) (hb.out.block g hg)).trans x
          have y := (World.cell?_of_block (a := ⟨g', k, none⟩) (hb.out.block g' hg')).trans y
          have e1 : g < wr.heap.size := by have := hb.out.size; omega
          have e2 : g' < wr.heap.size := by have := hb.out.size; omega
          clear hc hc' hne
          generalize zs.getD k 0 = z at x y
          go_wp2
          refine wp_region_later (by kernel_rfl) (by kernel_rfl) ?_; (repeat (first | go_big_quiet_step (fail) | quiet_step (fail))); refine wpQuiet_nil ?_; rintro _ ⟨s, rfl⟩
          go_wp2
          go_roundw
          case rel => exact ⟨k + 1, by omega, by go_num, Lib.hid (hb.out.trans (s.below.mono hb.out.size))⟩
          case measure => simp [intOf]; omega
    · obtain rfl : k = n := by omega
      go_wp2
      go_ret
      exact ⟨rfl, hb.out⟩

end Go.Proofs.YthnhpgmohhaeaaaDoor
