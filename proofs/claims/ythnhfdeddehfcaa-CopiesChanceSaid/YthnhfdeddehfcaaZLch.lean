/-
  Contract of the law of the fraction of Fisher: it returns true.
-/
import Derived.Test.YthnhfdeddehfcaaZChn
import Derived.Test.YthnhfdeddehfcaaZWrk
namespace Go.Proofs.Ythnhfdeddehfcaa
open Go.RowKit

theorem neChance (n d : Int) (w : World) : (binOp .neq 53 (.agg #[.int .i64 n, .int .i64 d]) (.agg #[.int .i64 n, .int .i64 d])).run Try.prog w = .ok (.bool false) w := by
  rw [run_neq_struct]
  simp [go_sem]
theorem eqTally (n d p q : Int) (w : World) : (binOp .eql 51 (.agg #[.int .i64 n, .int .i64 d]) (.agg #[.int .i64 p, .int .i64 q])).run Try.prog w = .ok (.bool (n == p && d == q)) w := by
  rw [run_eql_struct]
  simp [go_sem]
  by_cases h1 : n = p <;> by_cases h2 : d = q <;> simp [h1, h2]

set_option maxRecDepth 100000 in
set_option maxHeartbeats 8000000 in
theorem law_cchance (a b c d : Int) (w : World) : Calls Try.prog 13 #[.agg #[.int .i64 a, .int .i64 b], .agg #[.int .i64 c, .int .i64 d]] w fun e w' => e = .returned (.bool true) ∧ Below w.heap.size w w' := by
  obtain ⟨W1, hW1⟩ : ∃ W', W' = w.alloc (.cells #[.int .i64 a, .int .i64 b] 51) := ⟨_, rfl⟩; obtain ⟨W, hW⟩ : ∃ W', W' = W1.alloc (.cells #[.int .i64 c, .int .i64 d] 51) := ⟨_, rfl⟩; have szW1 : W1.heap.size = w.heap.size + 1 := (by rw [hW1]; simp); have kbW1 : Below w.heap.size w W1 := hW1 ▸ below_alloc _ _; have szW : W.heap.size = w.heap.size + 1 + 1 := (by rw [hW]; simp [szW1]); have kbW : Below W1.heap.size W1 W := hW ▸ below_alloc _ _; have HB := Lib.hid (below_more kbW1 kbW); have D0 := Lib.hid (blk_keep kbW (show W1.heap[w.heap.size]? = some (.cells #[.int .i64 a, .int .i64 b] 51 (0, 0)) by rw [hW1]; exact heap_alloc_new _ _)); have D1 := Lib.hid (show W.heap[w.heap.size + 1]? = some (.cells #[.int .i64 c, .int .i64 d] 51 (0, 0)) by rw [hW, ← szW1]; exact heap_alloc_new _ _); have SZW := Lib.hid szW; clear szW1 kbW1 szW kbW
  obtain ⟨X1, hX1⟩ : ∃ q, q = fishQ a b c d := ⟨_, rfl⟩
  obtain ⟨X2, hX2⟩ : ∃ q, q = fishQ c d a b := ⟨_, rfl⟩
  obtain ⟨X3, hX3⟩ : ∃ q, q = fishQ b a d c := ⟨_, rfl⟩
  have HP1 := Lib.hid (fun wx => show Calls Try.prog 27 #[.agg #[.int .i64 a, .int .i64 b], .agg #[.int .i64 c, .int .i64 d]] wx (GotFrac wx X1) by rw [hX1]; exact fisher_any a b c d wx)
  have HP2 := Lib.hid (fun wx => show Calls Try.prog 27 #[.agg #[.int .i64 c, .int .i64 d], .agg #[.int .i64 a, .int .i64 b]] wx (GotFrac wx X2) by rw [hX2]; exact fisher_any c d a b wx)
  have HP3 := Lib.hid (fun wx => show Calls Try.prog 27 #[.agg #[.int .i64 b, .int .i64 a], .agg #[.int .i64 d, .int .i64 c]] wx (GotFrac wx X3) by rw [hX3]; exact fisher_any b a d c wx)
  have HX1 := Lib.hid hX1
  have HX2 := Lib.hid hX2
  have HX3 := Lib.hid hX3
  obtain ⟨⟨x1, y1⟩, e1⟩ := X1
  obtain ⟨⟨x2, y2⟩, e2⟩ := X2
  obtain ⟨⟨x3, y3⟩, e3⟩ := X3
  clear hX1 hX2 hX3
  go_enter Try.func13, Try.ntmps13
  go_wp2_with fail
  rw [← hW1, ← hW]; clear hW1 hW
  refine (HP1.out _).mono ?_; rintro e w1 ⟨rfl, hb1⟩
  have HB1 := Lib.hid (below_more HB.out hb1)
  have D0 := Lib.hid (blk_keep hb1 D0.out)
  have D1 := Lib.hid (blk_keep hb1 D1.out)
  clear hb1 HP1
  have ka0 := cell_of_blk D0.out 0; have ka1 := cell_of_blk D0.out 1; have hz_ka := (Array.getElem?_eq_some_iff.1 D0.out).1; simp at ka0 ka1
  have kb0 := cell_of_blk D1.out 0; have kb1 := cell_of_blk D1.out 1; have hz_kb := (Array.getElem?_eq_some_iff.1 D1.out).1; simp at kb0 kb1
  go_wp2_with fail
  obtain ⟨V, hV⟩ : ∃ V, V = w1.alloc (.cells #[.int .i64 x1, .int .i64 y1] 53) := ⟨_, rfl⟩
  have kV : Below w1.heap.size w1 V := hV ▸ below_alloc _ _
  have C1 := Lib.hid (show V.heap[w1.heap.size]? = some (.cells #[.int .i64 x1, .int .i64 y1] 53 (0, 0)) from hV ▸ heap_alloc_new _ _)
  rw [← hV]
  clear hV ka0 ka1 hz_ka kb0 kb1 hz_kb
  refine (HP2.out _).mono ?_; rintro e w2 ⟨rfl, hb2⟩
  have HB2 := Lib.hid (below_more (below_more HB1.out kV) hb2)
  have C1 := Lib.hid (blk_keep hb2 C1.out)
  have D0 := Lib.hid (blk_keep hb2 (blk_keep kV D0.out))
  have D1 := Lib.hid (blk_keep hb2 (blk_keep kV D1.out))
  clear kV hb2 HP2
  have ka0 := cell_of_blk D0.out 0; have ka1 := cell_of_blk D0.out 1; have hz_ka := (Array.getElem?_eq_some_iff.1 D0.out).1; simp at ka0 ka1
  have kb0 := cell_of_blk D1.out 0; have kb1 := cell_of_blk D1.out 1; have hz_kb := (Array.getElem?_eq_some_iff.1 D1.out).1; simp at kb0 kb1
  go_wp2_with fail
  obtain ⟨V, hV⟩ : ∃ V, V = w2.alloc (.cells #[.int .i64 x2, .int .i64 y2] 53) := ⟨_, rfl⟩
  have kV : Below w2.heap.size w2 V := hV ▸ below_alloc _ _
  have C2 := Lib.hid (show V.heap[w2.heap.size]? = some (.cells #[.int .i64 x2, .int .i64 y2] 53 (0, 0)) from hV ▸ heap_alloc_new _ _)
  rw [← hV]
  clear hV ka0 ka1 hz_ka kb0 kb1 hz_kb
  refine (HP3.out _).mono ?_; rintro e w3 ⟨rfl, hb3⟩
  have HB3 := Lib.hid (below_more (below_more HB2.out kV) hb3)
  have C2 := Lib.hid (blk_keep hb3 C2.out)
  have C1 := Lib.hid (blk_keep hb3 (blk_keep kV C1.out))
  have D0 := Lib.hid (blk_keep hb3 (blk_keep kV D0.out))
  have D1 := Lib.hid (blk_keep hb3 (blk_keep kV D1.out))
  clear kV hb3 HP3
  cases hT : tallyB a b c d with
  | false =>
    obtain ⟨q1, q2, q3⟩ := fishQ_not hT
    have h1 := HX1.out.trans q1
    have h2 := HX2.out.trans q2
    have h3 := HX3.out.trans q3
    injection h1 with h1 h1'
    injection h2 with h2 h2'
    injection h3 with h3 h3'
    subst h1' h2' h3'
    clear q1 q2 q3 h1 h2 h3 hT HX1 HX2 HX3
    have f1 : ((80 : Int) != 0) = true := by decide
    have f2 : ((80 : Int) == 80) = true := by decide
    go_wp2_with fail
    refine (works_any _).mono ?_; rintro e w4 ⟨rfl, hb4⟩
    go_wp2
    go_ret
    exact ⟨rfl, below_more HB3.out (below_more (below_alloc _ _) hb4)⟩
  | true =>
    have HT := tally_in hT
    obtain ⟨p, rfl⟩ := Int.eq_ofNat_of_zero_le HT.1
    obtain ⟨q, rfl⟩ := Int.eq_ofNat_of_zero_le HT.2.1
    obtain ⟨c1, rfl⟩ := Int.eq_ofNat_of_zero_le HT.2.2.1
    obtain ⟨d1, rfl⟩ := Int.eq_ofNat_of_zero_le HT.2.2.2.1
    have hsum : p + q + c1 + d1 ≤ 60 := by have := HT.2.2.2.2; omega
    obtain ⟨x, y, hok⟩ := fish_ok p q c1 d1 hsum
    have h1 := HX1.out.trans hok.one
    have h2 := HX2.out.trans hok.two
    have h3 := HX3.out.trans hok.three
    injection h1 with h1 h1'
    injection h2 with h2 h2'
    injection h3 with h3 h3'
    injection h1 with h1 k1
    injection h2 with h2 k2
    injection h3 with h3 k3
    subst h1 h1' h2 h2' h3 h3' k1 k2 k3
    have HO := Lib.hid hok
    have hx1 := hok.pos
    have hxy := hok.le
    have hyb := hok.big
    clear hok HX1 HX2 HX3 hT HT
    have f1 : ((0 : Int) != 0) = false := by decide
    have f2 := fun wx => neChance x y wx
    have f3 : ¬ ((x : Int) < 1) := by omega
    have f4 : ¬ ((y : Int) < (x : Int)) := by omega
    have kc0 := cell_of_blk C1.out 0; have kc1 := cell_of_blk C1.out 1; have hz_kc := (Array.getElem?_eq_some_iff.1 C1.out).1; simp at kc0 kc1
    have kd0 := cell_of_blk C2.out 0; have kd1 := cell_of_blk C2.out 1; have hz_kd := (Array.getElem?_eq_some_iff.1 C2.out).1; simp at kd0 kd1
    go_wp2_with fail
    refine wp_region_later (by kernel_rfl) (by kernel_rfl) ?_; (repeat (first | go_big_quiet_step (fail) | quiet_step (fail))); refine wpQuiet_nil ?_; rintro _ ⟨s, rfl⟩
    have HY := Lib.hid (below_more HB3.out (below_more (below_alloc _ _) s.below))
    have C1 := Lib.hid (blk_keep s.below (blk_keep (below_alloc _ _) C1.out))
    have D0 := Lib.hid (blk_keep s.below (blk_keep (below_alloc _ _) D0.out))
    have D1 := Lib.hid (blk_keep s.below (blk_keep (below_alloc _ _) D1.out))
    obtain ⟨Y, hY⟩ : ∃ Y, Y = s.w := ⟨_, rfl⟩
    rw [← hY] at HY C1 D0 D1 ⊢
    clear hY s kc0 kc1 hz_kc kd0 kd1 hz_kd C2
    go_wp2_with fail
    go_loop [11, 12] (fun u v => ∃ i j : Nat, u = .int .i64 i ∧ v = .int .i64 j ∧ i ≤ 2000000000000000000 ∧ j ≤ 2000000000000000000 ∧ Hid (Nat.gcd i j = 1)) (fun u _ => (intOf u).toNat)
    case atStart => exact ⟨x, y, rfl, rfl, by omega, by omega, Lib.hid HO.out.low⟩
    case round =>
      obtain ⟨i, j, rfl, rfl, hi, hj, hg⟩ := hrel
      by_cases h : i = 0
      case neg =>
        have hn : 0 < i := by omega
        have hn2 : ((i : Int) == 0) = false := by simp; omega
        have hn3 : ¬ (i : Int) = 0 := by omega
        have hlt : j % i < i := Nat.mod_lt _ (by omega)
        have hg2 := Lib.hid (show Nat.gcd (j % i) i = 1 by rw [← hg.out, Nat.gcd_rec i j])
        go_wp2
        go_round
        case rel => exact ⟨j % i, i, by first | rfl | simp, rfl, by omega, by omega, hg2⟩
        case measure => simp [intOf]; omega
      case pos =>
        subst h
        have hj1 : j = 1 := by have := hg.out; rwa [Nat.gcd_zero_left] at this
        subst hj1
        have hz : decide ((0 : Int) < ((0 : Nat) : Int)) = false := by decide
        go_upto_region 11 with fail
        have ka0 := cell_of_blk D0.out 0; have ka1 := cell_of_blk D0.out 1; have hz_ka := (Array.getElem?_eq_some_iff.1 D0.out).1; simp at ka0 ka1
        have kb0 := cell_of_blk D1.out 0; have kb1 := cell_of_blk D1.out 1; have hz_kb := (Array.getElem?_eq_some_iff.1 D1.out).1; simp at kb0 kb1
        obtain ⟨O, hO⟩ : ∃ O, O = decide (p + c1 = 0 ∨ q + d1 = 0 ∨ p + q = 0 ∨ c1 + d1 = 0 ∨ (p = c1 ∧ q = d1)) := ⟨_, rfl⟩
        have HOO := Lib.hid hO
        clear hO
        go_cut [13] (fun b X => b = .bool O ∧ X = Y)
        case first =>
          have e5 := fun wx => eqTally p q c1 d1 wx
          by_cases o1 : p + c1 = 0
          · have k1 : (((p : Int) + (c1 : Int)) == 0) = true := by simp; omega
            have HR := Lib.hid (show O = true by rw [HOO.out, decide_eq_true_eq]; exact .inl o1)
            clear o1
            go_wp2_with fail
            all_goals (go_meet; exact ⟨by rw [HR.out], rfl⟩)
          have k1 : (((p : Int) + (c1 : Int)) == 0) = false := by simp; omega
          by_cases o2 : q + d1 = 0
          · have k2 : (((q : Int) + (d1 : Int)) == 0) = true := by simp; omega
            have HR := Lib.hid (show O = true by rw [HOO.out, decide_eq_true_eq]; exact .inr (.inl o2))
            clear o1 o2
            go_wp2_with fail
            all_goals (go_meet; exact ⟨by rw [HR.out], rfl⟩)
          have k2 : (((q : Int) + (d1 : Int)) == 0) = false := by simp; omega
          by_cases o3 : p + q = 0
          · have k3 : (((p : Int) + (q : Int)) == 0) = true := by simp; omega
            have HR := Lib.hid (show O = true by rw [HOO.out, decide_eq_true_eq]; exact .inr (.inr (.inl o3)))
            clear o1 o2 o3
            go_wp2_with fail
            all_goals (go_meet; exact ⟨by rw [HR.out], rfl⟩)
          have k3 : (((p : Int) + (q : Int)) == 0) = false := by simp; omega
          by_cases o4 : c1 + d1 = 0
          · have k4 : (((c1 : Int) + (d1 : Int)) == 0) = true := by simp; omega
            have HR := Lib.hid (show O = true by rw [HOO.out, decide_eq_true_eq]; exact .inr (.inr (.inr (.inl o4))))
            clear o1 o2 o3 o4
            go_wp2_with fail
            all_goals (go_meet; exact ⟨by rw [HR.out], rfl⟩)
          have k4 : (((c1 : Int) + (d1 : Int)) == 0) = false := by simp; omega
          have HR := Lib.hid (show O = (((p : Int) == (c1 : Int)) && ((q : Int) == (d1 : Int))) by
            rw [HOO.out, Bool.eq_iff_iff, decide_eq_true_eq, Bool.and_eq_true, beq_iff_eq, beq_iff_eq]; omega)
          obtain ⟨E, hE⟩ : ∃ E, E = (((p : Int) == (c1 : Int)) && ((q : Int) == (d1 : Int))) := ⟨_, rfl⟩
          rw [← hE] at HR e5
          clear hE o1 o2 o3 o4
          go_wp2_with fail
          all_goals (go_meet; exact ⟨by rw [HR.out], rfl⟩)
        case rest =>
          obtain ⟨rfl, hX⟩ := hcut
          rw [hX]
          clear hX
          have g1 : ((((1 : Nat) : Int)) == 1) = true := by decide
          have kc0 := cell_of_blk C1.out 0; have kc1 := cell_of_blk C1.out 1; have hz_kc := (Array.getElem?_eq_some_iff.1 C1.out).1; simp at kc0 kc1
          cases O with
          | true =>
            have hy1 : y = 1 := HO.out.whole (by have := HOO.out; rw [eq_comm, decide_eq_true_eq] at this; exact this)
            subst hy1
            go_wp2_with fail
            refine (works_any _).mono ?_; rintro e w4 ⟨rfl, hb4⟩
            go_wp2
            go_ret
            exact ⟨rfl, below_more HY.out hb4⟩
          | false =>
            go_wp2_with fail
            refine (works_any _).mono ?_; rintro e w4 ⟨rfl, hb4⟩
            go_wp2
            go_ret
            exact ⟨rfl, below_more HY.out hb4⟩

end Go.Proofs.Ythnhfdeddehfcaa
