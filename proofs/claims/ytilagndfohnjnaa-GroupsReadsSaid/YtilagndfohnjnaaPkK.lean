/-
  Rows of marks, of stretches and of nodes are compared: both sides. And what builds on it.
-/
import Derived.Test.YtilagndfohnjnaaPkJ
import Derived.Deep.RegionHeld3
import Derived.RegionTactic

/- Rows of marks, of stretches and of nodes are compared: both sides. -/
namespace Go.Proofs.Ytilagndfohnjnaa
open Go.RowKit

def rgEq (u v : Nat × Nat) : Bool := (u.1 : Int) == v.1 && (u.2 : Int) == v.2
theorem eqSpan (k k2 t t2 : Int) (w : World) : (binOp .neq 92 (.agg #[.int .i64 k, .int .i64 t]) (.agg #[.int .i64 k2, .int .i64 t2])).run Try.prog w = .ok (.bool (!(k == k2 && t == t2))) w := by
  rw [run_neq_struct]
  simp [go_sem]
  by_cases h1 : k = k2
  case neg => simp [h1]
  by_cases h2 : t = t2 <;> simp [h1, h2]
theorem eqMk2 (a b : Mk) (w : World) : (binOp .neq 69 (.agg #[.int .i64 a.sign, .int .i64 a.state, .int .i64 a.min, .int .i64 a.max]) (.agg #[.int .i64 b.sign, .int .i64 b.state, .int .i64 b.min, .int .i64 b.max])).run Try.prog w = .ok (.bool (!mkEq a b)) w := by
  rw [eqMk]; rfl
theorem eqR2b (a b : Nat × Nat) (w : World) : (binOp .neq 71 (.agg #[.int .i64 a.1, .int .i64 a.2]) (.agg #[.int .i64 b.1, .int .i64 b.2])).run Try.prog w = .ok (.bool (!rgEq a b)) w := by
  rw [eqR2]; rfl
theorem eqSpan2 (a b : Nat × Nat) (w : World) : (binOp .neq 92 (.agg #[.int .i64 a.1, .int .i64 a.2]) (.agg #[.int .i64 b.1, .int .i64 b.2])).run Try.prog w = .ok (.bool (!rgEq a b)) w := by
  rw [eqSpan]; rfl

set_option maxHeartbeats 3200000 in
theorem rsameM_any (A B : Option Addr) (ca cb : Nat) (ns ms : List Mk) (w : World) (hA : MksAt w A ns) (hB : MksAt w B ms) (hz : ns.length ≤ 2000000) (hz2 : ms.length ≤ 2000000) :
    Calls Try.prog 34 #[.slice A ns.length ca, .slice B ms.length cb] w fun e w' => e = .returned (.bool (eqUp mkEq ns ms)) ∧ Below w.heap.size w w' := by
  by_cases hlen : ns.length = ms.length
  case neg =>
    have HF := Lib.hid (eqUp_len mkEq ns ms hlen)
    generalize ns.length = n at hlen hz ⊢
    generalize ms.length = m at hlen hz2 ⊢
    have hne : ((n : Int) == (m : Int)) = false := by rw [beq_eq_false_iff_ne]; omega
    clear hA hB
    go_enter Try.func34, Try.ntmps34
    go_wp2
    go_ret
    exact ⟨of_bool HF.out.symm, Below.refl _ _⟩
  obtain ⟨n, hn⟩ : ∃ n, n = ns.length := ⟨_, rfl⟩
  have HT := Lib.hid (fun k (hk : k = n) h0 => eqUp_true mkEq ns ms k hlen (hk.trans hn) h0)
  have HX := Lib.hid (fun k u v h1 h2 h => eqUp_false mkEq ns ms k u v h1 h2 h)
  rw [← hlen, ← hn]
  rw [← hn] at hz
  have HN := Lib.hid hn
  have HN2 := Lib.hid (hn.trans hlen)
  have HNA := Lib.hid hA
  have HNB := Lib.hid hB
  generalize eqUp mkEq ns ms = R at HT HX ⊢
  clear hn hlen hz2 hA hB
  go_enter Try.func34, Try.ntmps34
  go_wp2
  go_loopw [5] (fun i wr => ∃ k : Nat, k ≤ n ∧ i = .int .i64 k ∧ Hid (Below w.heap.size w wr) ∧ Hid (((ns.zip ms).take k).all (fun p => mkEq p.1 p.2) = true)) (fun i _ => n - (intOf i).toNat)
  case atStart => exact ⟨0, Nat.zero_le _, rfl, Lib.hid (Below.refl _ _), Lib.hid (by simp)⟩
  case round =>
    obtain ⟨k, hk, rfl, hb, hall⟩ := hrel
    by_cases hlt : k < n
    · have hget : ns[k]? = some (ns[k]'(by have := HN.out; omega)) := List.getElem?_eq_getElem _
      obtain ⟨u, hu⟩ : ∃ u, u = ns[k]'(by have := HN.out; omega) := ⟨_, rfl⟩
      rw [← hu] at hget
      have hget2 : ms[k]? = some (ms[k]'(by have := HN2.out; omega)) := List.getElem?_eq_getElem _
      obtain ⟨v, hv⟩ : ∃ v, v = ms[k]'(by have := HN2.out; omega) := ⟨_, rfl⟩
      rw [← hv] at hget2
      obtain ⟨b, o, e1, hb1, hva⟩ := (HNA.out.below hb.out) k u hget
      obtain ⟨b', o', e1', hb1', hva'⟩ := (HNB.out.below hb.out) k v hget2
      subst e1 e1'
      have GET := Lib.hid hget
      have GET2 := Lib.hid hget2
      obtain ⟨y0, y1, y2, y3⟩ := hva
      obtain ⟨z0, z1, z2, z3⟩ := hva'
      obtain ⟨ua, ub, uc, ud⟩ := u
      obtain ⟨va, vb, vc, vd⟩ := v
      dsimp only at y0 y1 y2 y3 z0 z1 z2 z3
      clear hu hv hget hget2
      have he := fun w => eqMk2 ⟨ua, ub, uc, ud⟩ ⟨va, vb, vc, vd⟩ w
      obtain ⟨Q, hQ⟩ : ∃ Q, (mkEq ⟨ua, ub, uc, ud⟩ ⟨va, vb, vc, vd⟩) = Q := ⟨_, rfl⟩
      rw [hQ] at he
      have HQ := Lib.hid hQ
      clear hQ
      cases Q with
      | true =>
        simp only [Bool.not_true] at he
        go_wp2
        refine wp_region_later (by kernel_rfl) (by kernel_rfl) ?_; (repeat (first | go_big_quiet_step (fail) | quiet_step (fail))); refine wpQuiet_nil ?_; rintro _ ⟨s, rfl⟩
        go_wp2
        go_roundw
        case rel => exact ⟨k + 1, by omega, by go_num, Lib.hid (hb.out.trans (s.below.mono hb.out.size)), Lib.hid (allz_step _ _ k (_, _) (zip_at GET.out GET2.out) hall.out HQ.out)⟩
        case measure => simp [intOf]; omega
      | false =>
        simp only [Bool.not_false] at he
        have HR := Lib.hid (HX.out k _ _ GET.out GET2.out HQ.out)
        go_wp2
        refine wp_region_later (by kernel_rfl) (by kernel_rfl) ?_; (repeat (first | go_big_quiet_step (fail) | quiet_step (fail))); refine wpQuiet_nil ?_; rintro _ ⟨s, rfl⟩
        go_wp2
        go_ret
        exact ⟨of_bool HR.out.symm, hb.out.trans (s.below.mono hb.out.size)⟩
    · obtain rfl : k = n := by omega
      have HR := Lib.hid (HT.out k rfl hall.out)
      go_wp2
      go_ret
      exact ⟨of_bool HR.out.symm, hb.out⟩

set_option maxHeartbeats 3200000 in
theorem equalM_any (A B : Option Addr) (ca cb : Nat) (ns ms : List Mk) (w : World) (hA : MksAt w A ns) (hB : MksAt w B ms) (hz : ns.length ≤ 2000000) (hz2 : ms.length ≤ 2000000) :
    Calls Try.prog 75 #[.slice A ns.length ca, .slice B ms.length cb] w fun e w' => e = .returned (.bool (eqUp mkEq ns ms)) ∧ Below w.heap.size w w' := by
  by_cases hlen : ns.length = ms.length
  case neg =>
    have HF := Lib.hid (eqUp_len mkEq ns ms hlen)
    generalize ns.length = n at hlen hz ⊢
    generalize ms.length = m at hlen hz2 ⊢
    have hne : ((n : Int) == (m : Int)) = false := by rw [beq_eq_false_iff_ne]; omega
    clear hA hB
    go_enter Try.func75, Try.ntmps75
    go_wp2
    go_ret
    exact ⟨of_bool HF.out.symm, Below.refl _ _⟩
  obtain ⟨n, hn⟩ : ∃ n, n = ns.length := ⟨_, rfl⟩
  have HT := Lib.hid (fun k (hk : k = n) h0 => eqUp_true mkEq ns ms k hlen (hk.trans hn) h0)
  have HX := Lib.hid (fun k u v h1 h2 h => eqUp_false mkEq ns ms k u v h1 h2 h)
  rw [← hlen, ← hn]
  rw [← hn] at hz
  have HN := Lib.hid hn
  have HN2 := Lib.hid (hn.trans hlen)
  have HNA := Lib.hid hA
  have HNB := Lib.hid hB
  generalize eqUp mkEq ns ms = R at HT HX ⊢
  clear hn hlen hz2 hA hB
  go_enter Try.func75, Try.ntmps75
  go_wp2
  go_loopw [13] (fun i wr => ∃ k : Nat, k ≤ n ∧ i = .int .i64 k ∧ Hid (Below w.heap.size w wr) ∧ Hid (((ns.zip ms).take k).all (fun p => mkEq p.1 p.2) = true)) (fun i _ => n - (intOf i).toNat)
  case atStart => exact ⟨0, Nat.zero_le _, rfl, Lib.hid (Below.refl _ _), Lib.hid (by simp)⟩
  case round =>
    obtain ⟨k, hk, rfl, hb, hall⟩ := hrel
    by_cases hlt : k < n
    · have hget : ns[k]? = some (ns[k]'(by have := HN.out; omega)) := List.getElem?_eq_getElem _
      obtain ⟨u, hu⟩ : ∃ u, u = ns[k]'(by have := HN.out; omega) := ⟨_, rfl⟩
      rw [← hu] at hget
      have hget2 : ms[k]? = some (ms[k]'(by have := HN2.out; omega)) := List.getElem?_eq_getElem _
      obtain ⟨v, hv⟩ : ∃ v, v = ms[k]'(by have := HN2.out; omega) := ⟨_, rfl⟩
      rw [← hv] at hget2
      obtain ⟨b, o, e1, hb1, hva⟩ := (HNA.out.below hb.out) k u hget
      obtain ⟨b', o', e1', hb1', hva'⟩ := (HNB.out.below hb.out) k v hget2
      subst e1 e1'
      have GET := Lib.hid hget
      have GET2 := Lib.hid hget2
      obtain ⟨y0, y1, y2, y3⟩ := hva
      obtain ⟨z0, z1, z2, z3⟩ := hva'
      obtain ⟨ua, ub, uc, ud⟩ := u
      obtain ⟨va, vb, vc, vd⟩ := v
      dsimp only at y0 y1 y2 y3 z0 z1 z2 z3
      clear hu hv hget hget2
      have he := fun w => eqMk2 ⟨ua, ub, uc, ud⟩ ⟨va, vb, vc, vd⟩ w
      obtain ⟨Q, hQ⟩ : ∃ Q, (mkEq ⟨ua, ub, uc, ud⟩ ⟨va, vb, vc, vd⟩) = Q := ⟨_, rfl⟩
      rw [hQ] at he
      have HQ := Lib.hid hQ
      clear hQ
      cases Q with
      | true =>
        simp only [Bool.not_true] at he
        go_wp2
        refine wp_region_later (by kernel_rfl) (by kernel_rfl) ?_; (repeat (first | go_big_quiet_step (fail) | quiet_step (fail))); refine wpQuiet_nil ?_; rintro _ ⟨s, rfl⟩
        go_wp2
        go_roundw
        case rel => exact ⟨k + 1, by omega, by go_num, Lib.hid (hb.out.trans (s.below.mono hb.out.size)), Lib.hid (allz_step _ _ k (_, _) (zip_at GET.out GET2.out) hall.out HQ.out)⟩
        case measure => simp [intOf]; omega
      | false =>
        simp only [Bool.not_false] at he
        have HR := Lib.hid (HX.out k _ _ GET.out GET2.out HQ.out)
        go_wp2
        refine wp_region_later (by kernel_rfl) (by kernel_rfl) ?_; (repeat (first | go_big_quiet_step (fail) | quiet_step (fail))); refine wpQuiet_nil ?_; rintro _ ⟨s, rfl⟩
        go_wp2
        go_ret
        exact ⟨of_bool HR.out.symm, hb.out.trans (s.below.mono hb.out.size)⟩
    · obtain rfl : k = n := by omega
      have HR := Lib.hid (HT.out k rfl hall.out)
      go_wp2
      go_ret
      exact ⟨of_bool HR.out.symm, hb.out⟩

set_option maxHeartbeats 3200000 in
theorem rsameG_any (A B : Option Addr) (ca cb : Nat) (ns ms : List (Nat × Nat)) (w : World) (hA : RgsAt w A ns) (hB : RgsAt w B ms) (hz : ns.length ≤ 2000000) (hz2 : ms.length ≤ 2000000) :
    Calls Try.prog 35 #[.slice A ns.length ca, .slice B ms.length cb] w fun e w' => e = .returned (.bool (eqUp rgEq ns ms)) ∧ Below w.heap.size w w' := by
  by_cases hlen : ns.length = ms.length
  case neg =>
    have HF := Lib.hid (eqUp_len rgEq ns ms hlen)
    generalize ns.length = n at hlen hz ⊢
    generalize ms.length = m at hlen hz2 ⊢
    have hne : ((n : Int) == (m : Int)) = false := by rw [beq_eq_false_iff_ne]; omega
    clear hA hB
    go_enter Try.func35, Try.ntmps35
    go_wp2
    go_ret
    exact ⟨of_bool HF.out.symm, Below.refl _ _⟩
  obtain ⟨n, hn⟩ : ∃ n, n = ns.length := ⟨_, rfl⟩
  have HT := Lib.hid (fun k (hk : k = n) h0 => eqUp_true rgEq ns ms k hlen (hk.trans hn) h0)
  have HX := Lib.hid (fun k u v h1 h2 h => eqUp_false rgEq ns ms k u v h1 h2 h)
  rw [← hlen, ← hn]
  rw [← hn] at hz
  have HN := Lib.hid hn
  have HN2 := Lib.hid (hn.trans hlen)
  have HNA := Lib.hid hA
  have HNB := Lib.hid hB
  generalize eqUp rgEq ns ms = R at HT HX ⊢
  clear hn hlen hz2 hA hB
  go_enter Try.func35, Try.ntmps35
  go_wp2
  go_loopw [5] (fun i wr => ∃ k : Nat, k ≤ n ∧ i = .int .i64 k ∧ Hid (Below w.heap.size w wr) ∧ Hid (((ns.zip ms).take k).all (fun p => rgEq p.1 p.2) = true)) (fun i _ => n - (intOf i).toNat)
  case atStart => exact ⟨0, Nat.zero_le _, rfl, Lib.hid (Below.refl _ _), Lib.hid (by simp)⟩
  case round =>
    obtain ⟨k, hk, rfl, hb, hall⟩ := hrel
    by_cases hlt : k < n
    · have hget : ns[k]? = some (ns[k]'(by have := HN.out; omega)) := List.getElem?_eq_getElem _
      obtain ⟨u, hu⟩ : ∃ u, u = ns[k]'(by have := HN.out; omega) := ⟨_, rfl⟩
      rw [← hu] at hget
      have hget2 : ms[k]? = some (ms[k]'(by have := HN2.out; omega)) := List.getElem?_eq_getElem _
      obtain ⟨v, hv⟩ : ∃ v, v = ms[k]'(by have := HN2.out; omega) := ⟨_, rfl⟩
      rw [← hv] at hget2
      obtain ⟨b, o, e1, hb1, hva⟩ := (HNA.out.below hb.out) k u hget
      obtain ⟨b', o', e1', hb1', hva'⟩ := (HNB.out.below hb.out) k v hget2
      subst e1 e1'
      have GET := Lib.hid hget
      have GET2 := Lib.hid hget2
      obtain ⟨y0, y1⟩ := hva
      obtain ⟨z0, z1⟩ := hva'
      obtain ⟨ua, ub⟩ := u
      obtain ⟨va, vb⟩ := v
      dsimp only at y0 y1 z0 z1
      clear hu hv hget hget2
      have he := fun w => eqR2b (ua, ub) (va, vb) w
      obtain ⟨Q, hQ⟩ : ∃ Q, (rgEq ⟨ua, ub⟩ ⟨va, vb⟩) = Q := ⟨_, rfl⟩
      rw [hQ] at he
      have HQ := Lib.hid hQ
      clear hQ
      cases Q with
      | true =>
        simp only [Bool.not_true] at he
        go_wp2
        refine wp_region_later (by kernel_rfl) (by kernel_rfl) ?_; (repeat (first | go_big_quiet_step (fail) | quiet_step (fail))); refine wpQuiet_nil ?_; rintro _ ⟨s, rfl⟩
        go_wp2
        go_roundw
        case rel => exact ⟨k + 1, by omega, by go_num, Lib.hid (hb.out.trans (s.below.mono hb.out.size)), Lib.hid (allz_step _ _ k (_, _) (zip_at GET.out GET2.out) hall.out HQ.out)⟩
        case measure => simp [intOf]; omega
      | false =>
        simp only [Bool.not_false] at he
        have HR := Lib.hid (HX.out k _ _ GET.out GET2.out HQ.out)
        go_wp2
        refine wp_region_later (by kernel_rfl) (by kernel_rfl) ?_; (repeat (first | go_big_quiet_step (fail) | quiet_step (fail))); refine wpQuiet_nil ?_; rintro _ ⟨s, rfl⟩
        go_wp2
        go_ret
        exact ⟨of_bool HR.out.symm, hb.out.trans (s.below.mono hb.out.size)⟩
    · obtain rfl : k = n := by omega
      have HR := Lib.hid (HT.out k rfl hall.out)
      go_wp2
      go_ret
      exact ⟨of_bool HR.out.symm, hb.out⟩

set_option maxHeartbeats 3200000 in
theorem equalG_any (A B : Option Addr) (ca cb : Nat) (ns ms : List (Nat × Nat)) (w : World) (hA : RgsAt w A ns) (hB : RgsAt w B ms) (hz : ns.length ≤ 2000000) (hz2 : ms.length ≤ 2000000) :
    Calls Try.prog 76 #[.slice A ns.length ca, .slice B ms.length cb] w fun e w' => e = .returned (.bool (eqUp rgEq ns ms)) ∧ Below w.heap.size w w' := by
  by_cases hlen : ns.length = ms.length
  case neg =>
    have HF := Lib.hid (eqUp_len rgEq ns ms hlen)
    generalize ns.length = n at hlen hz ⊢
    generalize ms.length = m at hlen hz2 ⊢
    have hne : ((n : Int) == (m : Int)) = false := by rw [beq_eq_false_iff_ne]; omega
    clear hA hB
    go_enter Try.func76, Try.ntmps76
    go_wp2
    go_ret
    exact ⟨of_bool HF.out.symm, Below.refl _ _⟩
  obtain ⟨n, hn⟩ : ∃ n, n = ns.length := ⟨_, rfl⟩
  have HT := Lib.hid (fun k (hk : k = n) h0 => eqUp_true rgEq ns ms k hlen (hk.trans hn) h0)
  have HX := Lib.hid (fun k u v h1 h2 h => eqUp_false rgEq ns ms k u v h1 h2 h)
  rw [← hlen, ← hn]
  rw [← hn] at hz
  have HN := Lib.hid hn
  have HN2 := Lib.hid (hn.trans hlen)
  have HNA := Lib.hid hA
  have HNB := Lib.hid hB
  generalize eqUp rgEq ns ms = R at HT HX ⊢
  clear hn hlen hz2 hA hB
  go_enter Try.func76, Try.ntmps76
  go_wp2
  go_loopw [13] (fun i wr => ∃ k : Nat, k ≤ n ∧ i = .int .i64 k ∧ Hid (Below w.heap.size w wr) ∧ Hid (((ns.zip ms).take k).all (fun p => rgEq p.1 p.2) = true)) (fun i _ => n - (intOf i).toNat)
  case atStart => exact ⟨0, Nat.zero_le _, rfl, Lib.hid (Below.refl _ _), Lib.hid (by simp)⟩
  case round =>
    obtain ⟨k, hk, rfl, hb, hall⟩ := hrel
    by_cases hlt : k < n
    · have hget : ns[k]? = some (ns[k]'(by have := HN.out; omega)) := List.getElem?_eq_getElem _
      obtain ⟨u, hu⟩ : ∃ u, u = ns[k]'(by have := HN.out; omega) := ⟨_, rfl⟩
      rw [← hu] at hget
      have hget2 : ms[k]? = some (ms[k]'(by have := HN2.out; omega)) := List.getElem?_eq_getElem _
      obtain ⟨v, hv⟩ : ∃ v, v = ms[k]'(by have := HN2.out; omega) := ⟨_, rfl⟩
      rw [← hv] at hget2
      obtain ⟨b, o, e1, hb1, hva⟩ := (HNA.out.below hb.out) k u hget
      obtain ⟨b', o', e1', hb1', hva'⟩ := (HNB.out.below hb.out) k v hget2
      subst e1 e1'
      have GET := Lib.hid hget
      have GET2 := Lib.hid hget2
      obtain ⟨y0, y1⟩ := hva
      obtain ⟨z0, z1⟩ := hva'
      obtain ⟨ua, ub⟩ := u
      obtain ⟨va, vb⟩ := v
      dsimp only at y0 y1 z0 z1
      clear hu hv hget hget2
      have he := fun w => eqSpan2 (ua, ub) (va, vb) w
      obtain ⟨Q, hQ⟩ : ∃ Q, (rgEq ⟨ua, ub⟩ ⟨va, vb⟩) = Q := ⟨_, rfl⟩
      rw [hQ] at he
      have HQ := Lib.hid hQ
      clear hQ
      cases Q with
      | true =>
        simp only [Bool.not_true] at he
        go_wp2
        refine wp_region_later (by kernel_rfl) (by kernel_rfl) ?_; (repeat (first | go_big_quiet_step (fail) | quiet_step (fail))); refine wpQuiet_nil ?_; rintro _ ⟨s, rfl⟩
        go_wp2
        go_roundw
        case rel => exact ⟨k + 1, by omega, by go_num, Lib.hid (hb.out.trans (s.below.mono hb.out.size)), Lib.hid (allz_step _ _ k (_, _) (zip_at GET.out GET2.out) hall.out HQ.out)⟩
        case measure => simp [intOf]; omega
      | false =>
        simp only [Bool.not_false] at he
        have HR := Lib.hid (HX.out k _ _ GET.out GET2.out HQ.out)
        go_wp2
        refine wp_region_later (by kernel_rfl) (by kernel_rfl) ?_; (repeat (first | go_big_quiet_step (fail) | quiet_step (fail))); refine wpQuiet_nil ?_; rintro _ ⟨s, rfl⟩
        go_wp2
        go_ret
        exact ⟨of_bool HR.out.symm, hb.out.trans (s.below.mono hb.out.size)⟩
    · obtain rfl : k = n := by omega
      have HR := Lib.hid (HT.out k rfl hall.out)
      go_wp2
      go_ret
      exact ⟨of_bool HR.out.symm, hb.out⟩

set_option maxHeartbeats 3200000 in
theorem equalN_any (A B : Option Addr) (ca cb : Nat) (ns ms : List Nd) (w : World) (hA : NdsAt w A ns) (hB : NdsAt w B ms) (hz : ns.length ≤ 2000000) (hz2 : ms.length ≤ 2000000) :
    Calls Try.prog 77 #[.slice A ns.length ca, .slice B ms.length cb] w fun e w' => e = .returned (.bool (eqUp ndEq ns ms)) ∧ Below w.heap.size w w' := by
  by_cases hlen : ns.length = ms.length
  case neg =>
    have HF := Lib.hid (eqUp_len ndEq ns ms hlen)
    generalize ns.length = n at hlen hz ⊢
    generalize ms.length = m at hlen hz2 ⊢
    have hne : ((n : Int) == (m : Int)) = false := by rw [beq_eq_false_iff_ne]; omega
    clear hA hB
    go_enter Try.func77, Try.ntmps77
    go_wp2
    go_ret
    exact ⟨of_bool HF.out.symm, Below.refl _ _⟩
  obtain ⟨n, hn⟩ : ∃ n, n = ns.length := ⟨_, rfl⟩
  have HT := Lib.hid (fun k (hk : k = n) h0 => eqUp_true ndEq ns ms k hlen (hk.trans hn) h0)
  have HX := Lib.hid (fun k u v h1 h2 h => eqUp_false ndEq ns ms k u v h1 h2 h)
  rw [← hlen, ← hn]
  rw [← hn] at hz
  have HN := Lib.hid hn
  have HN2 := Lib.hid (hn.trans hlen)
  have HNA := Lib.hid hA
  have HNB := Lib.hid hB
  generalize eqUp ndEq ns ms = R at HT HX ⊢
  clear hn hlen hz2 hA hB
  go_enter Try.func77, Try.ntmps77
  go_wp2
  go_loopw [13] (fun i wr => ∃ k : Nat, k ≤ n ∧ i = .int .i64 k ∧ Hid (Below w.heap.size w wr) ∧ Hid (((ns.zip ms).take k).all (fun p => ndEq p.1 p.2) = true)) (fun i _ => n - (intOf i).toNat)
  case atStart => exact ⟨0, Nat.zero_le _, rfl, Lib.hid (Below.refl _ _), Lib.hid (by simp)⟩
  case round =>
    obtain ⟨k, hk, rfl, hb, hall⟩ := hrel
    by_cases hlt : k < n
    · have hget : ns[k]? = some (ns[k]'(by have := HN.out; omega)) := List.getElem?_eq_getElem _
      obtain ⟨u, hu⟩ : ∃ u, u = ns[k]'(by have := HN.out; omega) := ⟨_, rfl⟩
      rw [← hu] at hget
      have hget2 : ms[k]? = some (ms[k]'(by have := HN2.out; omega)) := List.getElem?_eq_getElem _
      obtain ⟨v, hv⟩ : ∃ v, v = ms[k]'(by have := HN2.out; omega) := ⟨_, rfl⟩
      rw [← hv] at hget2
      obtain ⟨b, o, e1, hb1, hva⟩ := (HNA.out.below hb.out) k u hget
      obtain ⟨b', o', e1', hb1', hva'⟩ := (HNB.out.below hb.out) k v hget2
      subst e1 e1'
      have GET := Lib.hid hget
      have GET2 := Lib.hid hget2
      obtain ⟨y0, y1, y2, y3, y4, y5, y6, y7⟩ := hva
      obtain ⟨z0, z1, z2, z3, z4, z5, z6, z7⟩ := hva'
      obtain ⟨uk, ud, us, ut, um, ust, umn, umx⟩ := u
      obtain ⟨vk, vd, vs, vt, vm, vst, vmn, vmx⟩ := v
      dsimp only at y0 y1 y2 y3 y4 y5 y6 y7 z0 z1 z2 z3 z4 z5 z6 z7
      clear hu hv hget hget2
      have he := fun w => eqNd uk vk ud vd us vs ut vt ust vst umn vmn umx vmx um vm w
      obtain ⟨Q, hQ⟩ : ∃ Q, (ndEq ⟨uk, ud, us, ut, um, ust, umn, umx⟩ ⟨vk, vd, vs, vt, vm, vst, vmn, vmx⟩) = Q := ⟨_, rfl⟩
      rw [hQ] at he
      have HQ := Lib.hid hQ
      clear hQ
      cases Q with
      | true =>
        simp only [Bool.not_true] at he
        go_wp2
        refine wp_region_later (by kernel_rfl) (by kernel_rfl) ?_; (repeat (first | go_big_quiet_step (fail) | quiet_step (fail))); refine wpQuiet_nil ?_; rintro _ ⟨s, rfl⟩
        go_wp2
        go_roundw
        case rel => exact ⟨k + 1, by omega, by go_num, Lib.hid (hb.out.trans (s.below.mono hb.out.size)), Lib.hid (allz_step _ _ k (_, _) (zip_at GET.out GET2.out) hall.out HQ.out)⟩
        case measure => simp [intOf]; omega
      | false =>
        simp only [Bool.not_false] at he
        have HR := Lib.hid (HX.out k _ _ GET.out GET2.out HQ.out)
        go_wp2
        refine wp_region_later (by kernel_rfl) (by kernel_rfl) ?_; (repeat (first | go_big_quiet_step (fail) | quiet_step (fail))); refine wpQuiet_nil ?_; rintro _ ⟨s, rfl⟩
        go_wp2
        go_ret
        exact ⟨of_bool HR.out.symm, hb.out.trans (s.below.mono hb.out.size)⟩
    · obtain rfl : k = n := by omega
      have HR := Lib.hid (HT.out k rfl hall.out)
      go_wp2
      go_ret
      exact ⟨of_bool HR.out.symm, hb.out⟩

end Go.Proofs.Ytilagndfohnjnaa

/- Whether two texts are read alike (Alike), and are equal (Same): the program's. -/
namespace Go.Proofs.Ytilagndfohnjnaa
open Go.RowKit

def alikeQ (l : Li) (ns ms : List Nd) : Bool × Int :=
  if textErr l ns ≠ 0 then (false, textErr l ns) else if textErr l ms ≠ 0 then (false, textErr l ms) else (eqUp mkEq (lineR ns) (lineR ms) && eqUp rgEq (ringsR ns) (ringsR ms), 0)
def GotBE (w : World) (q : Bool) (er : Int) (e : Ending) (w' : World) : Prop := e = .returned (.tuple #[.bool q, .int .i64 er]) ∧ Below w.heap.size w w'
theorem ringsR_len (ns : List Nd) : (ringsR ns).length ≤ ns.length := Nat.le_trans (ringsG_len _ _ _) (tops_len ns)

theorem gsame_any (A B : Option Addr) (ca cb : Nat) (ns ms : List Nd) (w : World) (hA : NdsAt w A ns) (hB : NdsAt w B ms) (hz : ns.length ≤ 2000000) (hz2 : ms.length ≤ 2000000) :
    Calls Try.prog 44 #[.agg #[.slice A ns.length ca], .agg #[.slice B ms.length cb]] w fun e w' => e = .returned (.bool (eqUp ndEq ns ms)) ∧ Below w.heap.size w w' := by
  obtain ⟨W, hW⟩ : ∃ W, W = (w.alloc (.cells #[.slice A ns.length ca] 27)).alloc (.cells #[.slice B ms.length cb] 27) := ⟨_, rfl⟩
  have HB := Lib.hid (show Below w.heap.size w W from hW ▸ two_under _ _ _)
  have HEQ := Lib.hid (equalN_any A B ca cb ns ms W (hA.below HB.out) (hB.below HB.out) hz hz2)
  have x0 : W.cell? ⟨w.heap.size, 0, none⟩ = some (.slice A ns.length ca) := by
    have h : W.heap[w.heap.size]? = some (.cells #[.slice A ns.length ca] 27 (0, 0)) := by rw [hW, heap_alloc_other _ _ _ (by simp)]; exact heap_alloc_new _ _
    rw [cell_of_blk h 0]; rfl
  have x1 : W.cell? ⟨w.heap.size + 1, 0, none⟩ = some (.slice B ms.length cb) := by
    have h : W.heap[w.heap.size + 1]? = some (.cells #[.slice B ms.length cb] 27 (0, 0)) := by
      rw [hW]; have := heap_alloc_new (w.alloc (.cells #[.slice A ns.length ca] 27)) (.cells #[.slice B ms.length cb] 27); simpa using this
    rw [cell_of_blk h 0]; rfl
  have hsz : W.heap.size = w.heap.size + 2 := by rw [hW]; simp
  generalize eqUp ndEq ns ms = R at HEQ ⊢
  clear hA hB
  go_enter Try.func44, Try.ntmps44
  go_wp2_with fail
  rw [← hW]
  clear hW
  go_wp2_with fail
  refine HEQ.out.mono ?_; rintro e w1 ⟨rfl, hb⟩
  go_wp2_with fail
  go_ret
  exact ⟨rfl, below_more HB.out hb⟩

set_option maxRecDepth 100000 in
set_option maxHeartbeats 8000000 in
theorem alikeP_any (L : Lm) (A B : Option Addr) (ca cb : Nat) (ns ms : List Nd) (w : World) (hl : LmOk w L) (hn : NdsAt w A ns) (hm : NdsAt w B ms) (h1 : ns.length ≤ ca) (h2 : ca ≤ maxLen) (h3 : ms.length ≤ cb) (h4 : cb ≤ maxLen) :
    Calls Try.prog 41 #[.agg #[.int .i64 L.per, .slice L.A L.ms.length L.cap], .agg #[.slice A ns.length ca], .agg #[.slice B ms.length cb]] w (GotBE w (alikeQ L.li ns ms).1 (alikeQ L.li ns ms).2) := by
  obtain ⟨E, hE⟩ : ∃ E, textErr L.li ns = E := ⟨_, rfl⟩
  obtain ⟨F, hF⟩ : ∃ F, textErr L.li ms = F := ⟨_, rfl⟩
  obtain ⟨R, hR⟩ : ∃ R, R = alikeQ L.li ns ms := ⟨_, rfl⟩
  have HE := Lib.hid (show R = if E ≠ 0 then (false, E) else if F ≠ 0 then (false, F) else (eqUp mkEq (lineR ns) (lineR ms) && eqUp rgEq (ringsR ns) (ringsR ms), 0) by rw [hR, ← hE, ← hF]; rfl)
  have HEE := Lib.hid hE
  have HFF := Lib.hid hF
  have HCK := Lib.hid (fun wx (hb : Below w.heap.size w wx) => gcheck_is L A ca ns wx (hl.below hb) (hn.below hb) h1 h2 E hE)
  have HCK2 := Lib.hid (fun wx (hb : Below w.heap.size w wx) => gcheck_is L B cb ms wx (hl.below hb) (hm.below hb) h3 h4 F hF)
  have HNA := Lib.hid hn
  have HNB := Lib.hid hm
  have H1 := Lib.hid h1
  have H2 := Lib.hid h2
  have H3 := Lib.hid h3
  have H4 := Lib.hid h4
  rw [← hR]
  obtain ⟨N, hN⟩ : ∃ N, N = ns.length := ⟨_, rfl⟩
  obtain ⟨M, hM⟩ : ∃ M, M = ms.length := ⟨_, rfl⟩
  have HN := Lib.hid hN
  have HM := Lib.hid hM
  rw [← hN, ← hM]
  rw [← hN] at HCK
  rw [← hM] at HCK2
  obtain ⟨W, hW⟩ : ∃ W, W = ((w.alloc (.cells #[.int .i64 L.per, .slice L.A L.ms.length L.cap] 24)).alloc (.cells #[.slice A N ca] 27)).alloc (.cells #[.slice B M cb] 27) := ⟨_, rfl⟩
  have HB := Lib.hid (show Below w.heap.size w W from hW ▸ (((Below.refl _ _).alloc (Nat.le_refl _) _).alloc (by simp) _).alloc (by simp; omega) _)
  have D0 := Lib.hid (show W.heap[w.heap.size]? = some (.cells #[.int .i64 L.per, .slice L.A L.ms.length L.cap] 24 (0, 0)) by
    rw [hW, heap_alloc_other _ _ _ (by simp; omega), heap_alloc_other _ _ _ (by simp)]; exact heap_alloc_new _ _)
  have D1 := Lib.hid (show W.heap[w.heap.size + 1]? = some (.cells #[.slice A N ca] 27 (0, 0)) by
    rw [hW, heap_alloc_other _ _ _ (by simp)]; have := heap_alloc_new (w.alloc (.cells #[.int .i64 L.per, .slice L.A L.ms.length L.cap] 24)) (.cells #[.slice A N ca] 27); simpa using this)
  have D2 := Lib.hid (show W.heap[w.heap.size + 2]? = some (.cells #[.slice B M cb] 27 (0, 0)) by
    rw [hW]; have := heap_alloc_new ((w.alloc (.cells #[.int .i64 L.per, .slice L.A L.ms.length L.cap] 24)).alloc (.cells #[.slice A N ca] 27)) (.cells #[.slice B M cb] 27); simpa using this)
  clear hl hn hm hE hF hR hN hM h1 h2 h3 h4
  go_enter Try.func41, Try.ntmps41
  go_wp2_with fail
  rw [← hW]
  refine (HCK.out W HB.out).mono ?_; rintro e w1 ⟨rfl, hb⟩
  have HB1 := Lib.hid (below_more HB.out hb)
  have D0 := Lib.hid (blk_keep hb D0.out)
  have D1 := Lib.hid (blk_keep hb D1.out)
  have D2 := Lib.hid (blk_keep hb D2.out)
  have x0 := cell_of_blk D0.out 0
  have x1 := cell_of_blk D0.out 1
  have x2 := cell_of_blk D2.out 0
  have hs1 := (Array.getElem?_eq_some_iff.1 D0.out).1
  simp at x0 x1 x2
  clear hb hW HCK HB
  by_cases h0 : E = 0
  case neg =>
    have hbE : (E != 0) = true := by simpa using h0
    have HG := Lib.hid (show R = (false, E) by rw [HE.out, if_pos h0])
    clear h0 HE
    go_wp2_with fail
    go_ret2
    rw [HG.out]
    exact ⟨rfl, HB1.out⟩
  subst h0
  go_wp2_with fail
  refine (HCK2.out w1 HB1.out).mono ?_; rintro e w2 ⟨rfl, hb⟩
  have HB2 := Lib.hid (below_more HB1.out hb)
  have D1 := Lib.hid (blk_keep hb D1.out)
  have D2 := Lib.hid (blk_keep hb D2.out)
  clear hb HCK2 HB1 D0 x0 x1 x2 hs1
  by_cases h0 : F = 0
  case neg =>
    have hbE : (F != 0) = true := by simpa using h0
    have HG := Lib.hid (show R = (false, F) by rw [HE.out, if_neg (by simp), if_pos h0])
    clear h0 HE
    go_wp2_with fail
    go_ret2
    rw [HG.out]
    exact ⟨rfl, HB2.out⟩
  subst h0
  have hka := text_ok HEE.out
  have hkb := text_ok HFF.out
  have HLA := Lib.hid (fun wx (hb : Below w2.heap.size w2 wx) => show Calls Try.prog 68 #[.agg #[.slice A N ca]] wx (GotRow wx 69 4 (lineR ns).length ((lineR ns).flatMap Mk.cells)) by
    have := line_any A ca ns hka.2.2.2.2.2 H1.out H2.out (by have := hka.2.1; omega) wx (HNA.out.below (below_more HB2.out hb))
    rw [← HN.out] at this; exact this)
  have HLB := Lib.hid (fun wx (hb : Below w2.heap.size w2 wx) => show Calls Try.prog 68 #[.agg #[.slice B M cb]] wx (GotRow wx 69 4 (lineR ms).length ((lineR ms).flatMap Mk.cells)) by
    have := line_any B cb ms hkb.2.2.2.2.2 H3.out H4.out (by have := hkb.2.1; omega) wx (HNB.out.below (below_more HB2.out hb))
    rw [← HM.out] at this; exact this)
  have HRA := Lib.hid (fun wx (hb : Below w2.heap.size w2 wx) => show Calls Try.prog 71 #[.agg #[.slice A N ca]] wx (GotRow wx 92 2 (ringsR ns).length ((ringsR ns).flatMap rgCells)) by
    have := rings_any A ca ns (shape_of HEE.out) hka.2.2.2.2.2 H1.out H2.out (by have := hka.2.1; omega) wx (HNA.out.below (below_more HB2.out hb))
    rw [← HN.out] at this; exact this)
  have HRB := Lib.hid (fun wx (hb : Below w2.heap.size w2 wx) => show Calls Try.prog 71 #[.agg #[.slice B M cb]] wx (GotRow wx 92 2 (ringsR ms).length ((ringsR ms).flatMap rgCells)) by
    have := rings_any B cb ms (shape_of HFF.out) hkb.2.2.2.2.2 H3.out H4.out (by have := hkb.2.1; omega) wx (HNB.out.below (below_more HB2.out hb))
    rw [← HM.out] at this; exact this)
  have HEM := Lib.hid (fun (A B : Option Addr) (ca cb : Nat) (wx : World) (hA : MksAt wx A (lineR ns)) (hB : MksAt wx B (lineR ms)) => equalM_any A B ca cb _ _ wx hA hB (lineR_len HEE.out) (lineR_len HFF.out))
  have HEG := Lib.hid (fun (A B : Option Addr) (ca cb : Nat) (wx : World) (hA : RgsAt wx A (ringsR ns)) (hB : RgsAt wx B (ringsR ms)) => equalG_any A B ca cb _ _ wx hA hB (by have := ringsR_len ns; have := hka.2.1; omega) (by have := ringsR_len ms; have := hkb.2.1; omega))
  obtain ⟨X, hX⟩ : ∃ X, eqUp mkEq (lineR ns) (lineR ms) = X := ⟨_, rfl⟩
  obtain ⟨Y, hY⟩ : ∃ Y, eqUp rgEq (ringsR ns) (ringsR ms) = Y := ⟨_, rfl⟩
  have HG := Lib.hid (show R = (X && Y, 0) by rw [HE.out, if_neg (by simp), if_neg (by simp), hX, hY])
  rw [hX] at HEM
  rw [hY] at HEG
  generalize lineR ns = la at HLA HEM
  generalize lineR ms = lb at HLB HEM
  generalize ringsR ns = ra at HRA HEG
  generalize ringsR ms = rb at HRB HEG
  clear hX hY hka hkb HE
  have HK := Lib.hid (fun wx (hb : Below w2.heap.size w2 wx) => show wx.cell? ⟨w.heap.size + 1, 0, none⟩ = some (.slice A N ca) ∧ wx.cell? ⟨w.heap.size + 2, 0, none⟩ = some (.slice B M cb) ∧ Below w2.heap.size w2 wx from
    ⟨by have := cell_of_blk (blk_keep hb D1.out) 0; simpa using this, by have := cell_of_blk (blk_keep hb D2.out) 0; simpa using this, hb⟩)
  have HDR := Lib.hid (show Below w2.heap.size w2 w2.drew from (Below.refl _ _).drew)
  have HSB := Lib.hid (fun wx (h : wx.cell? ⟨w.heap.size + 1, 0, none⟩ = some (.slice A N ca) ∧ wx.cell? ⟨w.heap.size + 2, 0, none⟩ = some (.slice B M cb) ∧ Below w2.heap.size w2 wx) => h.2.2)
  cases X with
  | false =>
    obtain ⟨c1, c2, -⟩ := HK.out _ HDR.out
    go_wp2_with fail
    go_region_with (first
      | (go_at_call 68; have hseen := howa; clear hseen; refine (HLB.out _ hbwa).mono ?_; rintro e wb ⟨Ab, kb, rfl, howb, hbb⟩; have hbwb := below_more hbwa hbb; obtain ⟨c1b, c2b, -⟩ := HK.out _ hbwb)
      | (go_at_call 68; refine (HLA.out _ HDR.out).mono ?_; rintro e wa ⟨Aa, ka, rfl, howa, hba⟩; have hbwa := below_more HDR.out hba; obtain ⟨c1a, c2a, -⟩ := HK.out _ hbwa)
      | (go_at_call 75; refine (HEM.out Aa Ab ka kb _ ((own_marks howa).below hbb) (own_marks howb)).mono ?_; rintro e we ⟨rfl, hbe⟩; have hbwe := below_more hbwb hbe))
    all_goals go_wp2_with fail
    all_goals go_ret2
    all_goals rw [HG.out]
    all_goals exact ⟨rfl, below_more HB2.out hbwe⟩
  | true =>
    go_wp2_with fail
    go_region_held3 (fun wx => wx.cell? ⟨w.heap.size + 1, 0, none⟩ = some (.slice A N ca) ∧ wx.cell? ⟨w.heap.size + 2, 0, none⟩ = some (.slice B M cb) ∧ Below w2.heap.size w2 wx)
      ((refine HK.out _ ?_; first | assumption | exact HDR.out))
      (first
        | (go_at_call 68; have hseen := howa; clear hseen; refine (HLB.out _ (HSB.out _ (by assumption))).mono ?_; rintro e wb ⟨Ab, kb, rfl, howb, hbb⟩; have hbwb := below_more (HSB.out _ (by assumption)) hbb)
        | (go_at_call 68; refine (HLA.out _ (HSB.out _ (by assumption))).mono ?_; rintro e wa ⟨Aa, ka, rfl, howa, hba⟩; have hbwa := below_more (HSB.out _ (by assumption)) hba)
        | (go_at_call 75; refine (HEM.out Aa Ab ka kb _ ((own_marks howa).below hbb) (own_marks howb)).mono ?_; rintro e we ⟨rfl, hbe⟩; have hbwe := below_more (HSB.out _ (by assumption)) hbe)
        | (go_at_call 71; have hseen := howc; clear hseen; refine (HRB.out _ (HSB.out _ (by assumption))).mono ?_; rintro e wd ⟨Ad, kd, rfl, howd, hbd⟩; have hbwd := below_more (HSB.out _ (by assumption)) hbd)
        | (go_at_call 71; refine (HRA.out _ (HSB.out _ (by assumption))).mono ?_; rintro e wc ⟨Ac, kc, rfl, howc, hbc⟩; have hbwc := below_more (HSB.out _ (by assumption)) hbc)
        | (go_at_call 76; refine (HEG.out Ac Ad kc kd _ ((own_rings howc).below hbd) (own_rings howd)).mono ?_; rintro e wf ⟨rfl, hbf⟩; have hbwf := below_more (HSB.out _ (by assumption)) hbf))
    go_wp2_with fail
    go_ret2
    rw [HG.out]
    exact ⟨rfl, below_more HB2.out hbwf⟩

end Go.Proofs.Ytilagndfohnjnaa

/- Whether two texts are read alike: the specification's. -/
namespace Go.Proofs.Ytilagndfohnjnaa
open Go.RowKit

set_option maxRecDepth 100000 in
set_option maxHeartbeats 8000000 in
theorem ralike_any (L : Lm) (A B : Option Addr) (ca cb : Nat) (ns ms : List Nd) (w : World) (hl : LmOk w L) (hn : NdsAt w A ns) (hm : NdsAt w B ms) (h1 : ns.length ≤ ca) (h2 : ca ≤ maxLen) (h3 : ms.length ≤ cb) (h4 : cb ≤ maxLen) :
    Calls Try.prog 43 #[.agg #[.int .i64 L.per, .slice L.A L.ms.length L.cap], .agg #[.slice A ns.length ca], .agg #[.slice B ms.length cb]] w (GotBE w (alikeQ L.li ns ms).1 (alikeQ L.li ns ms).2) := by
  obtain ⟨E, hE⟩ : ∃ E, textErr L.li ns = E := ⟨_, rfl⟩
  obtain ⟨F, hF⟩ : ∃ F, textErr L.li ms = F := ⟨_, rfl⟩
  obtain ⟨R, hR⟩ : ∃ R, R = alikeQ L.li ns ms := ⟨_, rfl⟩
  have HE := Lib.hid (show R = if E ≠ 0 then (false, E) else if F ≠ 0 then (false, F) else (eqUp mkEq (lineR ns) (lineR ms) && eqUp rgEq (ringsR ns) (ringsR ms), 0) by rw [hR, ← hE, ← hF]; rfl)
  have HEE := Lib.hid hE
  have HFF := Lib.hid hF
  have HCK := Lib.hid (fun wx (hb : Below w.heap.size w wx) => rline3_any L A ca ns wx (hl.below hb) (hn.below hb) h1 h2)
  have HCK2 := Lib.hid (fun wx (hb : Below w.heap.size w wx) => rline3_any L B cb ms wx (hl.below hb) (hm.below hb) h3 h4)
  have HRA := Lib.hid (fun wx (hb : Below w.heap.size w wx) => rrings_any L A ca ns wx (hl.below hb) (hn.below hb) h1 h2)
  have HRB := Lib.hid (fun wx (hb : Below w.heap.size w wx) => rrings_any L B cb ms wx (hl.below hb) (hm.below hb) h3 h4)
  have QA := Lib.hid (show lineQ L.li ns = if E ≠ 0 then ([], E) else (lineR ns, 0) by rw [← hE]; rfl)
  have QB := Lib.hid (show lineQ L.li ms = if F ≠ 0 then ([], F) else (lineR ms, 0) by rw [← hF]; rfl)
  have QRA := Lib.hid (show ringQ L.li ns = if E ≠ 0 then ([], E) else (ringsR ns, 0) by rw [← hE]; rfl)
  have QRB := Lib.hid (show ringQ L.li ms = if F ≠ 0 then ([], F) else (ringsR ms, 0) by rw [← hF]; rfl)
  have HNA := Lib.hid hn
  have HNB := Lib.hid hm
  have H1 := Lib.hid h1
  have H2 := Lib.hid h2
  have H3 := Lib.hid h3
  have H4 := Lib.hid h4
  rw [← hR]
  obtain ⟨N, hN⟩ : ∃ N, N = ns.length := ⟨_, rfl⟩
  obtain ⟨M, hM⟩ : ∃ M, M = ms.length := ⟨_, rfl⟩
  have HN := Lib.hid hN
  have HM := Lib.hid hM
  rw [← hN, ← hM]
  rw [← hN] at HCK HRA
  rw [← hM] at HCK2 HRB
  obtain ⟨W, hW⟩ : ∃ W, W = ((w.alloc (.cells #[.int .i64 L.per, .slice L.A L.ms.length L.cap] 24)).alloc (.cells #[.slice A N ca] 27)).alloc (.cells #[.slice B M cb] 27) := ⟨_, rfl⟩
  have HB := Lib.hid (show Below w.heap.size w W from hW ▸ (((Below.refl _ _).alloc (Nat.le_refl _) _).alloc (by simp) _).alloc (by simp; omega) _)
  have D0 := Lib.hid (show W.heap[w.heap.size]? = some (.cells #[.int .i64 L.per, .slice L.A L.ms.length L.cap] 24 (0, 0)) by
    rw [hW, heap_alloc_other _ _ _ (by simp; omega), heap_alloc_other _ _ _ (by simp)]; exact heap_alloc_new _ _)
  have D1 := Lib.hid (show W.heap[w.heap.size + 1]? = some (.cells #[.slice A N ca] 27 (0, 0)) by
    rw [hW, heap_alloc_other _ _ _ (by simp)]; have := heap_alloc_new (w.alloc (.cells #[.int .i64 L.per, .slice L.A L.ms.length L.cap] 24)) (.cells #[.slice A N ca] 27); simpa using this)
  have D2 := Lib.hid (show W.heap[w.heap.size + 2]? = some (.cells #[.slice B M cb] 27 (0, 0)) by
    rw [hW]; have := heap_alloc_new ((w.alloc (.cells #[.int .i64 L.per, .slice L.A L.ms.length L.cap] 24)).alloc (.cells #[.slice A N ca] 27)) (.cells #[.slice B M cb] 27); simpa using this)
  clear hl hn hm hE hF hR hN hM h1 h2 h3 h4
  go_enter Try.func43, Try.ntmps43
  go_wp2_with fail
  rw [← hW]
  refine (HCK.out W HB.out).mono ?_; rintro e w1 ⟨Aa, na, ka, rfl, hna, howa, hb⟩
  have HB1 := Lib.hid (below_more HB.out hb)
  have D0 := Lib.hid (blk_keep hb D0.out)
  have D1 := Lib.hid (blk_keep hb D1.out)
  have D2 := Lib.hid (blk_keep hb D2.out)
  have x0 := cell_of_blk D0.out 0
  have x1 := cell_of_blk D0.out 1
  have x2 := cell_of_blk D2.out 0
  have hs1 := (Array.getElem?_eq_some_iff.1 D0.out).1
  simp at x0 x1 x2
  have NA := Lib.hid hna.out
  have OA := Lib.hid (own_marks howa.out)
  rw [QA.out] at NA OA ⊢
  clear hb hW HCK HB hna howa
  by_cases h0 : E = 0
  case neg =>
    have hbE : (E != 0) = true := by simpa using h0
    have HG := Lib.hid (show R = (false, E) by rw [HE.out, if_pos h0])
    rw [if_pos h0]
    clear h0 HE
    dsimp only
    go_wp2_with fail
    go_ret2
    rw [HG.out]
    exact ⟨rfl, HB1.out⟩
  subst h0
  rw [if_neg (by simp)] at NA OA ⊢
  dsimp only at NA OA ⊢
  go_wp2_with fail
  refine (HCK2.out w1 HB1.out).mono ?_; rintro e w2 ⟨Ab, nb, kb, rfl, hnb, howb, hb⟩
  have HB2 := Lib.hid (below_more HB1.out hb)
  have D0 := Lib.hid (blk_keep hb D0.out)
  have D1 := Lib.hid (blk_keep hb D1.out)
  have D2 := Lib.hid (blk_keep hb D2.out)
  have OA := Lib.hid (OA.out.below hb)
  have NB := Lib.hid hnb.out
  have OB := Lib.hid (own_marks howb.out)
  rw [QB.out] at NB OB ⊢
  clear hb HCK2 HB1 x0 x1 x2 hs1 hnb howb
  by_cases h0 : F = 0
  case neg =>
    have hbE : (F != 0) = true := by simpa using h0
    have HG := Lib.hid (show R = (false, F) by rw [HE.out, if_neg (by simp), if_pos h0])
    rw [if_pos h0]
    clear h0 HE
    dsimp only
    go_wp2_with fail
    go_ret2
    rw [HG.out]
    exact ⟨rfl, HB2.out⟩
  subst h0
  rw [if_neg (by simp)] at NB OB ⊢
  dsimp only at NB OB ⊢
  have x0 := cell_of_blk D0.out 0
  have x1 := cell_of_blk D0.out 1
  have x2 := cell_of_blk D1.out 0
  have hs1 := (Array.getElem?_eq_some_iff.1 D0.out).1
  simp at x0 x1 x2
  go_wp2_with fail
  refine (HRA.out w2 HB2.out).mono ?_; rintro e w3 ⟨Ac, nc, kc, rfl, hnc, howc, hb⟩
  have HB3 := Lib.hid (below_more HB2.out hb)
  have D0 := Lib.hid (blk_keep hb D0.out)
  have D2 := Lib.hid (blk_keep hb D2.out)
  have OA := Lib.hid (OA.out.below hb)
  have OB := Lib.hid (OB.out.below hb)
  have NC := Lib.hid hnc.out
  have OC := Lib.hid (own_rings howc.out)
  rw [QRA.out, if_neg (by simp)] at NC OC ⊢
  dsimp only at NC OC ⊢
  clear hb HRA HB2 x0 x1 x2 hs1 hnc howc D1
  have x0 := cell_of_blk D0.out 0
  have x1 := cell_of_blk D0.out 1
  have x2 := cell_of_blk D2.out 0
  have hs1 := (Array.getElem?_eq_some_iff.1 D0.out).1
  simp at x0 x1 x2
  go_wp2_with fail
  refine (HRB.out w3 HB3.out).mono ?_; rintro e w4 ⟨Ad, nd, kd, rfl, hnd, howd, hb⟩
  have HB4 := Lib.hid (below_more HB3.out hb)
  have OA := Lib.hid (OA.out.below hb)
  have OB := Lib.hid (OB.out.below hb)
  have OC := Lib.hid (OC.out.below hb)
  have ND := Lib.hid hnd.out
  have OD := Lib.hid (own_rings howd.out)
  rw [QRB.out, if_neg (by simp)] at ND OD ⊢
  dsimp only at ND OD ⊢
  clear hb HRB HB3 x0 x1 x2 hs1 hnd howd D0 D2
  have hka := text_ok HEE.out
  have hkb := text_ok HFF.out
  have HEM := Lib.hid (rsameM_any Aa Ab ka kb _ _ w4 OA.out OB.out (lineR_len HEE.out) (lineR_len HFF.out))
  have HEG := Lib.hid (fun wx (hb : Below w4.heap.size w4 wx) => rsameG_any Ac Ad kc kd _ _ wx (OC.out.below hb) (OD.out.below hb) (by have := ringsR_len ns; have := hka.2.1; omega) (by have := ringsR_len ms; have := hkb.2.1; omega))
  obtain ⟨X, hX⟩ : ∃ X, eqUp mkEq (lineR ns) (lineR ms) = X := ⟨_, rfl⟩
  obtain ⟨Y, hY⟩ : ∃ Y, eqUp rgEq (ringsR ns) (ringsR ms) = Y := ⟨_, rfl⟩
  have HG := Lib.hid (show R = (X && Y, 0) by rw [HE.out, if_neg (by simp), if_neg (by simp), hX, hY])
  rw [hX, ← NA.out, ← NB.out] at HEM
  rw [hY, ← NC.out, ← ND.out] at HEG
  clear hX hY hka hkb HE
  go_wp2_with fail
  refine HEM.out.mono ?_; rintro e w5 ⟨rfl, hb5⟩
  cases X with
  | false =>
    go_wp2_with fail
    go_ret2
    rw [HG.out]
    exact ⟨rfl, below_more HB4.out hb5⟩
  | true =>
    go_wp2_with fail
    refine (HEG.out w5 hb5).mono ?_; rintro e w6 ⟨rfl, hb6⟩
    go_wp2_with fail
    go_ret2
    rw [HG.out]
    exact ⟨rfl, below_more (below_more HB4.out hb5) hb6⟩

end Go.Proofs.Ytilagndfohnjnaa
