/-
  The law's cost of pairs of two lines (layer 9).
-/
import Derived.Test.YthnhfdeddehfcaaZLst
import Derived.Test.YthnhfdeddehfcaaZKit
namespace Go.Proofs.Ythnhfdeddehfcaa
open Go.RowKit

/-- pairs as they lie in memory, wherever their row begins -/
def PairsIn2 (w : World) (A : Option Addr) (ps : List (Int × Int)) : Prop := ∀ k p, ps[k]? = some p → ∃ g o, A = some ⟨g, o, none⟩ ∧ g < w.heap.size ∧ w.cell? ⟨g, o + k * 2, none⟩ = some (.int .i64 p.1) ∧ w.cell? ⟨g, o + k * 2 + 1, none⟩ = some (.int .i64 p.2)
theorem PairsIn2.below {w w' : World} {A : Option Addr} {ps : List (Int × Int)} (h : PairsIn2 w A ps) (hb : Below w.heap.size w w') : PairsIn2 w' A ps := fun k p hk => by
  obtain ⟨g, o, e, hlt, h1, h2⟩ := h k p hk
  exact ⟨g, o, e, Nat.lt_of_lt_of_le hlt hb.size, (hb.cell (p := ⟨g, _, none⟩) hlt).trans h1, (hb.cell (p := ⟨g, _, none⟩) hlt).trans h2⟩
def GotCost (w : World) (R : Int × Bool) (e : Ending) (w' : World) : Prop := e = .returned (.tuple #[.int .i64 R.1, .bool R.2]) ∧ Below w.heap.size w w'
theorem got_bad {w w' : World} {R : Int × Bool} (h : R = (0, false)) (hb : Below w.heap.size w w') : GotCost w R (.returned (.tuple #[.int .i64 0, .bool false])) w' := by subst h; exact ⟨rfl, hb⟩
theorem got_cost {w w' : World} {R : Int × Bool} {c : Int} {t : Bool} (h : (c, t) = R) (hb : Below w.heap.size w w') : GotCost w R (.returned (.tuple #[.int .i64 c, .bool t])) w' := by subst h; exact ⟨rfl, hb⟩

set_option maxRecDepth 100000 in
set_option maxHeartbeats 12800000 in
theorem costOf_any (A B C : Option Addr) (ca cb cc : Nat) (a b : List Int) (ps : List (Int × Int)) (w : World) (hA : IntsIn w A a) (hB : IntsIn w B b) (hC : PairsIn2 w C ps) (hla : a.length ≤ 60) (hlb : b.length ≤ 60) (hlc : ps.length ≤ 200) :
    Calls Try.prog 44 #[.slice A a.length ca, .slice B b.length cb, .slice C ps.length cc] w (GotCost w (costF a b 0 0 0 ps)) := by
  obtain ⟨R, hR⟩ : ∃ R, R = costF a b 0 0 0 ps := ⟨_, rfl⟩
  have HR := Lib.hid hR.symm
  rw [← hR]
  have HIA := Lib.hid hA
  have HIB := Lib.hid hB
  have HIC := Lib.hid hC
  obtain ⟨n, hn⟩ : ∃ n, n = a.length := ⟨_, rfl⟩
  obtain ⟨m, hm⟩ : ∃ m, m = b.length := ⟨_, rfl⟩
  obtain ⟨N, hN⟩ : ∃ N, N = ps.length := ⟨_, rfl⟩
  have HN := Lib.hid hn
  have HM := Lib.hid hm
  have HK := Lib.hid hN
  rw [← hn] at hla ⊢
  rw [← hm] at hlb ⊢
  rw [← hN] at hlc ⊢
  clear hn hm hN hA hB hC hR
  go_enter Try.func44, Try.ntmps44
  go_wp2
  go_loopw [8, 9, 10, 11] (fun x y z t wr => ∃ (i k j : Nat) (c : Int), i ≤ n ∧ k ≤ m ∧ j ≤ N ∧ 0 ≤ c ∧ c ≤ 3 * (j : Int) ∧ x = .int .i64 i ∧ y = .int .i64 k ∧ z = .int .i64 c ∧ t = .int .i64 j ∧ Hid (costF a b i k c (ps.drop j) = R) ∧ Hid (Below w.heap.size w wr)) (fun _ _ _ t _ => N - (intOf t).toNat)
  case atStart => exact ⟨0, 0, 0, 0, Nat.zero_le _, Nat.zero_le _, Nat.zero_le _, by omega, by omega, rfl, rfl, rfl, rfl, Lib.hid (by rw [List.drop_zero]; exact HR.out), Lib.hid (Below.refl _ _)⟩
  case round =>
    obtain ⟨i, k, j, c, hi, hk, hj, hc0, hc1, rfl, rfl, rfl, rfl, hF, hb⟩ := hrel
    by_cases hlt : j < N
    · have hjl : j < ps.length := by have := HK.out; omega
      obtain ⟨g, o, rfl, hg, x0, x1⟩ := (HIC.out.below hb.out) j _ (List.getElem?_eq_getElem hjl)
      have HD := Lib.hid (show ps.drop j = ps[j] :: ps.drop (j + 1) from List.drop_eq_getElem_cons hjl)
      obtain ⟨pp, hp⟩ : ∃ pp, pp = ps[j] := ⟨_, rfl⟩
      rw [← hp] at x0 x1 HD
      obtain ⟨x, y⟩ := pp
      dsimp only at x0 x1
      have HF := Lib.hid (show costF a b i k c ((x, y) :: ps.drop (j + 1)) = R by rw [← hF.out, HD.out])
      clear hp hjl hF HD
      by_cases hx : x = -1
      · subst hx
        have b1 : ((-1 : Int) == -1) = true := by decide
        have b2 : ((-1 : Int) != -1) = false := by decide
        by_cases hy : y = -1
        · subst hy
          have hr := Lib.hid (show R = (0, false) by rw [← HF.out]; exact costF_bad (.inl ⟨rfl, rfl⟩))
          clear HF
          go_wp2
          go_ret2
          exact got_bad hr.out (below_more hb.out (below_alloc _ _))
        · by_cases hyk : y = k
          · subst hyk
            have b3 : ((k : Int) == -1) = false := by simp
            have b4 : ((k : Int) != -1) = true := by simp
            have b5 : ((k : Int) != (k : Int)) = false := by simp
            have b6 : ¬ ((n : Int) < (i : Int)) := by omega
            by_cases hm2 : m < k + 1
            · have b7 : (m : Int) < (k : Int) + 1 := by omega
              have hr := Lib.hid (show R = (0, false) by rw [← HF.out, costF_right, if_pos (by have := HM.out; omega)])
              clear HF
              go_wp2
              go_ret2
              exact got_bad hr.out (below_more hb.out (below_alloc _ _))
            · have b7 : ¬ ((m : Int) < (k : Int) + 1) := by omega
              have hr := Lib.hid (show costF a b i (k + 1) (c + 2) (ps.drop (j + 1)) = R by rw [← HF.out, costF_right, if_neg (by have := HM.out; omega)])
              clear HF
              go_wp2
              go_roundw
              case rel => exact ⟨i, k + 1, j + 1, c + 2, by omega, by omega, by omega, by omega, by omega, rfl, by go_num, by go_num, by go_num, hr, Lib.hid (below_more hb.out (below_alloc _ _))⟩
              case measure => simp [intOf]; omega
          · have b3 : (y == -1) = false := by simpa using hy
            have b4 : (y != -1) = true := by simpa using hy
            have b5 : (y != (k : Int)) = true := by simpa using hyk
            have hr := Lib.hid (show R = (0, false) by rw [← HF.out]; exact costF_bad (.inr (.inr ⟨hy, hyk⟩)))
            clear HF
            go_wp2
            go_ret2
            exact got_bad hr.out (below_more hb.out (below_alloc _ _))
      · by_cases hxi : x = i
        · subst hxi
          have b1 : ((i : Int) == -1) = false := by simp
          have b2 : ((i : Int) != -1) = true := by simp
          have b3 : ((i : Int) != (i : Int)) = false := by simp
          by_cases hy : y = -1
          · subst hy
            have b4 : ((-1 : Int) == -1) = true := by decide
            have b5 : ((-1 : Int) != -1) = false := by decide
            have b6 : ¬ ((m : Int) < (k : Int)) := by omega
            by_cases hn2 : n < i + 1
            · have b7 : (n : Int) < (i : Int) + 1 := by omega
              have hr := Lib.hid (show R = (0, false) by rw [← HF.out, costF_left, if_pos (by have := HN.out; omega)])
              clear HF
              go_wp2
              go_ret2
              exact got_bad hr.out (below_more hb.out (below_alloc _ _))
            · have b7 : ¬ ((n : Int) < (i : Int) + 1) := by omega
              have hr := Lib.hid (show costF a b (i + 1) k (c + 2) (ps.drop (j + 1)) = R by rw [← HF.out, costF_left, if_neg (by have := HN.out; omega)])
              clear HF
              go_wp2
              go_roundw
              case rel => exact ⟨i + 1, k, j + 1, c + 2, by omega, by omega, by omega, by omega, by omega, by go_num, rfl, by go_num, by go_num, hr, Lib.hid (below_more hb.out (below_alloc _ _))⟩
              case measure => simp [intOf]; omega
          · by_cases hyk : y = k
            · subst hyk
              have b4 : ((k : Int) == -1) = false := by simp
              have b5 : ((k : Int) != -1) = true := by simp
              have b6 : ((k : Int) != (k : Int)) = false := by simp
              by_cases hn2 : i < n
              · have b7 : ¬ ((n : Int) ≤ (i : Int)) := by omega
                by_cases hm2 : k < m
                · have b8 : ¬ ((m : Int) ≤ (k : Int)) := by omega
                  have b9 : ¬ ((n : Int) < (i : Int) + 1) := by omega
                  have b10 : ¬ ((m : Int) < (k : Int) + 1) := by omega
                  have hia : i < a.length := by have := HN.out; omega
                  have hkb : k < b.length := by have := HM.out; omega
                  obtain ⟨ga, oa, rfl, hga, xa⟩ := (HIA.out.below hb.out) i _ (List.getElem?_eq_getElem hia)
                  obtain ⟨gb, ob, rfl, hgb, xb⟩ := (HIB.out.below hb.out) k _ (List.getElem?_eq_getElem hkb)
                  have HF := Lib.hid (show costF a b (i + 1) (k + 1) (if a[i] = b[k] then c else c + 3) (ps.drop (j + 1)) = R by
                    rw [← HF.out, costF_both, if_neg (show ¬ (a.length ≤ i ∨ b.length ≤ k) by omega), getD_at hia, getD_at hkb])
                  obtain ⟨u, hu⟩ : ∃ u, u = a[i] := ⟨_, rfl⟩
                  obtain ⟨v, hv⟩ : ∃ v, v = b[k] := ⟨_, rfl⟩
                  rw [← hu] at xa HF
                  rw [← hv] at xb HF
                  clear hu hv hia hkb
                  by_cases huv : u = v
                  · have hd : (u != v) = false := by simpa using huv
                    have hr := Lib.hid (show costF a b (i + 1) (k + 1) c (ps.drop (j + 1)) = R by rw [← HF.out, if_pos huv])
                    clear HF huv
                    go_wp2
                    refine wp_region_later (by kernel_rfl) (by kernel_rfl) ?_; (repeat (first | go_big_quiet_step (fail) | quiet_step (fail))); refine wpQuiet_nil ?_; rintro _ ⟨s, rfl⟩
                    go_wp2
                    go_roundw
                    case rel => exact ⟨i + 1, k + 1, j + 1, c, by omega, by omega, by omega, by omega, by omega, by go_num, by go_num, rfl, by go_num, hr, Lib.hid (below_more (below_more hb.out (below_alloc _ _)) s.below)⟩
                    case measure => simp [intOf]; omega
                  · have hd : (u != v) = true := by simpa using huv
                    have hr := Lib.hid (show costF a b (i + 1) (k + 1) (c + 3) (ps.drop (j + 1)) = R by rw [← HF.out, if_neg huv])
                    clear HF huv
                    go_wp2
                    refine wp_region_later (by kernel_rfl) (by kernel_rfl) ?_; (repeat (first | go_big_quiet_step (fail) | quiet_step (fail))); refine wpQuiet_nil ?_; rintro _ ⟨s, rfl⟩
                    go_wp2
                    go_roundw
                    case rel => exact ⟨i + 1, k + 1, j + 1, c + 3, by omega, by omega, by omega, by omega, by omega, by go_num, by go_num, by go_num, by go_num, hr, Lib.hid (below_more (below_more hb.out (below_alloc _ _)) s.below)⟩
                    case measure => simp [intOf]; omega
                · have b8 : (m : Int) ≤ (k : Int) := by omega
                  have hr := Lib.hid (show R = (0, false) by rw [← HF.out, costF_both, if_pos (by have := HM.out; omega)])
                  clear HF
                  go_wp2
                  go_ret2
                  exact got_bad hr.out (below_more hb.out (below_alloc _ _))
              · have b7 : (n : Int) ≤ (i : Int) := by omega
                have hr := Lib.hid (show R = (0, false) by rw [← HF.out, costF_both, if_pos (by have := HN.out; omega)])
                clear HF
                go_wp2
                go_ret2
                exact got_bad hr.out (below_more hb.out (below_alloc _ _))
            · have b4 : (y == -1) = false := by simpa using hy
              have b5 : (y != -1) = true := by simpa using hy
              have b6 : (y != (k : Int)) = true := by simpa using hyk
              have hr := Lib.hid (show R = (0, false) by rw [← HF.out]; exact costF_bad (.inr (.inr ⟨hy, hyk⟩)))
              clear HF
              go_wp2
              go_ret2
              exact got_bad hr.out (below_more hb.out (below_alloc _ _))
        · have b1 : (x == -1) = false := by simpa using hx
          have b2 : (x != -1) = true := by simpa using hx
          have b3 : (x != (i : Int)) = true := by simpa using hxi
          have hr := Lib.hid (show R = (0, false) by rw [← HF.out]; exact costF_bad (.inr (.inl ⟨hx, hxi⟩)))
          clear HF
          go_wp2
          go_ret2
          exact got_bad hr.out (below_more hb.out (below_alloc _ _))
    · obtain rfl : j = N := by omega
      have hq := Lib.hid (show (c, decide (i = n ∧ k = m)) = R by
        rw [← hF.out, List.drop_of_length_le (by have := HK.out; omega), costF, HN.out, HM.out])
      clear hF
      by_cases h1 : i = n
      · subst h1
        have b1 : ((i : Int) == (i : Int)) = true := by simp
        by_cases h2 : k = m
        · subst h2
          have b2 : ((k : Int) == (k : Int)) = true := by simp
          have hr := Lib.hid (show (c, true) = R by rw [← hq.out]; simp)
          clear hq
          go_wp2
          go_ret2
          exact got_cost hr.out hb.out
        · have b2 : ((k : Int) == (m : Int)) = false := by simp; omega
          have hr := Lib.hid (show (c, false) = R by rw [← hq.out]; simp [h2])
          clear hq
          go_wp2
          go_ret2
          exact got_cost hr.out hb.out
      · have b1 : ((i : Int) == (n : Int)) = false := by simp; omega
        have hr := Lib.hid (show (c, false) = R by rw [← hq.out]; simp [h1])
        clear hq
        go_wp2
        go_ret2
        exact got_cost hr.out hb.out

end Go.Proofs.Ythnhfdeddehfcaa
