/-
  The law of the least cost: it returns true (layer 9).
-/
import Derived.Test.YthnhfdeddehfcaaZPal
import Derived.Test.YthnhfdeddehfcaaZCof
import Derived.Test.YthnhfdeddehfcaaZWrk
namespace Go.Proofs.Ythnhfdeddehfcaa
open Go.RowKit

theorem own_pairs2 {w : World} {base : Nat} {A : Option Addr} {k c : Nat} {ps : List (Int × Int)} (h : w.ownsRow base 28 2 (.slice A k c) k (ps.flatMap pairC)) : PairsIn2 w A ps := fun j p hj => by
  obtain ⟨A2, c2, hv, -, -, h3, h4⟩ := own_slice h
  injection hv with e1 e2 e3
  subst e1 e3
  have f0 := flat_at (f := pairC) (c := 2) (fun _ => rfl) ps j p hj 0 (by omega)
  have f1 := flat_at (f := pairC) (c := 2) (fun _ => rfl) ps j p hj 1 (by omega)
  cases A with
  | none =>
    have h0 := h4 rfl
    have := h.1
    rw [h0] at this
    have hl := (List.getElem?_eq_some_iff.1 hj).1
    rw [flat_len (c := 2) (fun _ => rfl)] at this
    omega
  | some ad =>
    obtain ⟨g, rfl, -, hg, hc⟩ := h3 ad rfl
    exact ⟨g, 0, rfl, hg, by rw [Nat.zero_add]; exact hc _ _ f0, by rw [Nat.zero_add]; exact hc _ _ f1⟩
def GotOk (w : World) (C : Int) (ps : List (Int × Int)) (e : Ending) (w' : World) : Prop := ∃ A k c, e = .returned (.tuple #[.slice A k c, .int .i64 C, .int .i64 0]) ∧ Hid (k = ps.length) ∧ Hid (PairsIn2 w' A ps) ∧ Below w.heap.size w w'
def GotEr (w : World) (E : Int) (e : Ending) (w' : World) : Prop := ∃ A k c, e = .returned (.tuple #[.slice A k c, .int .i64 0, .int .i64 E]) ∧ Below w.heap.size w w'
theorem al_ok {a b : List Int} (h : alErr a b = 0) {w : World} {e : Ending} {w' : World} (H : GotAl w a b e w') : GotOk w (cst a b) (pairsQ a b) e w' := by
  obtain ⟨A, k, c, ps, he, hps, hk, ⟨base, ho⟩, hb⟩ := H
  have hps := hps.out
  rw [h, if_neg (by simp)] at he
  rw [h, if_neg (by simp)] at hps
  subst hps
  exact ⟨A, k, c, he, hk, Lib.hid (own_pairs2 ho), hb⟩
theorem al_er {a b : List Int} (h : alErr a b ≠ 0) {w : World} {e : Ending} {w' : World} (H : GotAl w a b e w') : GotEr w (alErr a b) e w' := by
  obtain ⟨A, k, c, ps, he, hps, hk, ho, hb⟩ := H
  rw [if_pos h] at he
  exact ⟨A, k, c, he, hb⟩
theorem alErr_zero {a b : List Int} : alErr a b = 0 ↔ lnErr a = 0 ∧ lnErr b = 0 := by
  unfold alErr
  by_cases h : lnErr a = 0
  · rw [if_neg (by simpa using h)]; simp [h]
  · rw [if_pos h]; simp [h]
theorem alErr_two (a b : List Int) : alErr a b = 0 ↔ alErr b a = 0 := by
  rw [alErr_zero, alErr_zero, and_comm]

set_option maxRecDepth 100000 in
set_option maxHeartbeats 12800000 in
theorem law_cleast (A : Option Addr) (ca : Nat) (a : List Int) (B : Option Addr) (cb : Nat) (b : List Int) (C : Option Addr) (cc : Nat) (ps : List (Int × Int)) (w : World) (hA : IntsIn w A a) (hla : a.length ≤ ca) (hca : ca ≤ maxLen) (hB : IntsIn w B b) (hlb : b.length ≤ cb) (hcb : cb ≤ maxLen) (hC : PairsIn2 w C ps) (hlc : ps.length ≤ cc) (hcc : cc ≤ maxLen) :
    Calls Try.prog 11 #[.slice A a.length ca, .slice B b.length cb, .slice C ps.length cc] w fun e w' => e = .returned (.bool true) ∧ Below w.heap.size w w' := by
  have hma := Nat.le_trans hla hca
  have hmb := Nat.le_trans hlb hcb
  have hmc := Nat.le_trans hlc hcc
  by_cases h : alErr a b = 0
  case neg =>
    have h2 : alErr b a ≠ 0 := fun e => h ((alErr_two a b).2 e)
    have HP1 := Lib.hid ((alignP_any A B ca cb a b w hA hB hma hmb).mono fun e w' H => al_er h H)
    have HP2 := Lib.hid (fun wx (hb : Below w.heap.size w wx) => (alignP_any B A cb ca b a wx (hB.below hb) (hA.below hb) hmb hma).mono fun e w' H => al_er h2 H)
    obtain ⟨E1, hE1⟩ : ∃ E, E = alErr a b := ⟨_, rfl⟩
    obtain ⟨E2, hE2⟩ : ∃ E, E = alErr b a := ⟨_, rfl⟩
    rw [← hE1] at HP1 h
    rw [← hE2] at HP2 h2
    obtain ⟨n, hn⟩ : ∃ n, n = a.length := ⟨_, rfl⟩
    obtain ⟨m, hm⟩ : ∃ m, m = b.length := ⟨_, rfl⟩
    obtain ⟨N, hN⟩ : ∃ N, N = ps.length := ⟨_, rfl⟩
    rw [← hn] at HP1 HP2 ⊢
    rw [← hm] at HP1 HP2 ⊢
    rw [← hN]
    clear hE1 hE2 hn hm hN hA hB hC hla hlb hlc hca hcb hcc hma hmb hmc
    have f1 : (E1 != 0) = true := by simpa using h
    have f2 : (E2 != 0) = true := by simpa using h2
    clear h h2
    go_enter Try.func11, Try.ntmps11
    go_wp2_with fail
    refine HP1.out.mono ?_; rintro e w1 ⟨A1, k1, c1, rfl, hb1⟩
    have HB1 := Lib.hid hb1
    have HP2 := Lib.hid (HP2.out w1 hb1)
    clear hb1 HP1
    go_wp2_with fail
    refine HP2.out.mono ?_; rintro e w2 ⟨A2, k2, c2, rfl, hb2⟩
    have HB2 := Lib.hid (below_more HB1.out hb2)
    clear hb2 HP2
    go_wp2_with fail
    refine (works_any _).mono ?_; rintro e w3 ⟨rfl, hb3⟩
    go_wp2
    go_ret
    exact ⟨rfl, below_more HB2.out hb3⟩
  case pos =>
    have h2 : alErr b a = 0 := (alErr_two a b).1 h
    have l1 : a.length ≤ 60 := lnErr_60 (alErr_zero.1 h).1
    have l2 : b.length ≤ 60 := lnErr_60 (alErr_zero.1 h).2
    have l3 : (pairsQ a b).length ≤ 200 := by
      have := prs_len a b (a.length + b.length) 0 0
      unfold pairsQ; omega
    have HP1 := Lib.hid ((alignP_any A B ca cb a b w hA hB hma hmb).mono fun e w' H => al_ok h H)
    have HP2 := Lib.hid (fun wx (hb : Below w.heap.size w wx) => (alignP_any B A cb ca b a wx (hB.below hb) (hA.below hb) hmb hma).mono fun e w' H => al_ok h2 H)
    have HC1 := Lib.hid (fun wx A1 c1 (hb : Below w.heap.size w wx) (hP : PairsIn2 wx A1 (pairsQ a b)) => show Calls Try.prog 44 #[.slice A a.length ca, .slice B b.length cb, .slice A1 (pairsQ a b).length c1] wx (fun e w' => e = .returned (.tuple #[.int .i64 (cst a b), .bool true]) ∧ Below wx.heap.size wx w') from
      (costOf_any A B A1 ca cb c1 a b (pairsQ a b) wx (hA.below hb) (hB.below hb) hP l1 l2 l3).mono fun e w' H => by
        unfold GotCost at H
        rw [costF_pairs] at H
        exact H)
    have HSI := Lib.hid (fun wx (hb : Below w.heap.size w wx) => sameI_any A B ca cb a b wx (hA.below hb) (hB.below hb) hma hmb)
    have HC2 := Lib.hid (fun wx (hb : Below w.heap.size w wx) (l4 : ps.length ≤ 200) => costOf_any A B C ca cb cc a b ps wx (hA.below hb) (hB.below hb) (hC.below hb) l1 l2 l4)
    have HLE := Lib.hid (fun v => costF_least a b ps 0 0 0 v)
    rw [List.drop_zero, List.drop_zero] at HLE
    have HZ := Lib.hid (cst_zero a b)
    rw [cst_comm b a] at HP2
    obtain ⟨K, hK⟩ : ∃ K, K = cst a b := ⟨_, rfl⟩
    obtain ⟨D, hD⟩ : ∃ D, D = decide (a = b) := ⟨_, rfl⟩
    obtain ⟨R, hR⟩ : ∃ R, R = costF a b 0 0 0 ps := ⟨_, rfl⟩
    rw [← hK] at HP1 HP2 HC1 HLE HZ
    rw [← hR] at HC2 HLE
    rw [← hD] at HSI
    have f0 : (K == 0) = D := by
      rw [hD]
      by_cases e : a = b
      · rw [HZ.out.2 e]; simp [e]
      · have : K ≠ 0 := fun e2 => e (HZ.out.1 e2)
        simp [this, e]
    obtain ⟨n, hn⟩ : ∃ n, n = a.length := ⟨_, rfl⟩
    obtain ⟨m, hm⟩ : ∃ m, m = b.length := ⟨_, rfl⟩
    obtain ⟨N, hN⟩ : ∃ N, N = ps.length := ⟨_, rfl⟩
    rw [← hn] at HP1 HP2 HC1 HC2 HSI ⊢
    rw [← hm] at HP1 HP2 HC1 HC2 HSI ⊢
    rw [← hN] at HC2 ⊢
    obtain ⟨qs, hqs⟩ : ∃ qs, qs = pairsQ a b := ⟨_, rfl⟩
    rw [← hqs] at HP1 HC1
    unfold maxLen at hmc
    rw [← hN] at hmc
    clear hK hD hR hqs hn hm hN hA hB hC hla hlb hlc hca hcb hcc hma hmb h h2 l1 l2 l3 HZ
    have g1 : ((0 : Int) != 0) = false := by decide
    have g2 : (K != K) = false := by simp
    have g3 : (D != D) = false := by simp
    go_enter Try.func11, Try.ntmps11
    go_wp2_with fail
    refine HP1.out.mono ?_; rintro e w1 ⟨A1, k1, c1, rfl, hk1, hP1, hb1⟩
    have HB1 := Lib.hid hb1
    have HP2 := Lib.hid (HP2.out w1 hb1)
    clear hb1 HP1
    go_wp2_with fail
    refine HP2.out.mono ?_; rintro e w2 ⟨A2, k2, c2, rfl, -, -, hb2⟩
    have HB2 := Lib.hid (below_more HB1.out hb2)
    have HC1 := Lib.hid (HC1.out w2 A1 c1 HB2.out (hP1.out.below hb2))
    have hk := hk1.out
    rw [← hk] at HC1
    clear hb2 HP2 hP1 hk hk1
    go_wp2_with fail
    refine HC1.out.mono ?_; rintro e w3 ⟨rfl, hb3⟩
    have HB3 := Lib.hid (below_more HB2.out hb3)
    clear hb3 HC1
    have HSI := Lib.hid (HSI.out w3 HB3.out)
    go_wp2_with fail
    refine HSI.out.mono ?_; rintro e w4 ⟨rfl, hb4⟩
    have HB4 := Lib.hid (below_more HB3.out hb4)
    clear hb4 HSI
    by_cases h200 : 200 < N
    · have k1 : (200 : Int) < (N : Int) := by omega
      go_wp2_with fail
      refine (works_any _).mono ?_; rintro e w5 ⟨rfl, hb5⟩
      go_wp2
      go_ret
      exact ⟨rfl, below_more HB4.out hb5⟩
    · have k1 : ¬ (200 : Int) < (N : Int) := by omega
      have HC2 := Lib.hid (HC2.out w4 HB4.out (by omega))
      obtain ⟨v, t⟩ := R
      go_wp2_with fail
      refine HC2.out.mono ?_; rintro e w5 ⟨rfl, hb5⟩
      have HB5 := Lib.hid (below_more HB4.out hb5)
      clear hb5 HC2
      cases t with
      | false =>
        clear HLE
        go_wp2_with fail
        refine (works_any _).mono ?_; rintro e w6 ⟨rfl, hb6⟩
        go_wp2
        go_ret
        exact ⟨rfl, below_more HB5.out hb6⟩
      | true =>
        have k2 : K ≤ v := by have := HLE.out v rfl; omega
        clear HLE
        go_wp2_with fail
        refine (works_any _).mono ?_; rintro e w6 ⟨rfl, hb6⟩
        go_wp2
        go_ret
        exact ⟨rfl, below_more HB5.out hb6⟩

end Go.Proofs.Ythnhfdeddehfcaa
