/-
  The specification's align (layer 9).
-/
import Derived.Test.YtcpfhaoecggflaaZRco
import Derived.Test.YtcpfhaoecggflaaZPrs
namespace Go.Proofs.Ytcpfhaoecggflaa
open Go.RowKit

def GotRal (w : World) (a b : List Int) (e : Ending) (w' : World) : Prop :=
  ∃ A k c, e = .returned (.tuple #[.slice A k c, .int .i64 (cst a b)]) ∧ Hid (k = (pairsQ a b).length) ∧ Hid (∃ base, w'.ownsRow base 28 2 (.slice A k c) k ((pairsQ a b).flatMap pairC)) ∧ Below w.heap.size w w'
theorem pair_new1 (w : World) (x y : Int) : ∀ ad, (some ⟨w.heap.size, 0, none⟩ : Option Addr) = some ad → ∀ (j : Nat) u, [Value.int .i64 x, .int .i64 y][j]? = some u → (w.alloc (.cells #[.int .i64 x, .int .i64 y] 28)).cell? (ad.add j) = some u := fun ad h j u hj => by
  have h := Option.some.inj h
  subst h
  exact new_cells w [.int .i64 x, .int .i64 y] 28 j u hj

set_option maxRecDepth 100000 in
set_option maxHeartbeats 25600000 in
theorem ralign_any (A B : Option Addr) (ca cb : Nat) (a b : List Int) (w : World) (hA : IntsIn w A a) (hB : IntsIn w B b) (hla : a.length ≤ 60) (hlb : b.length ≤ 60) :
    Calls Try.prog 52 #[.slice A a.length ca, .slice B b.length cb] w (GotRal w a b) := by
  have HCO := Lib.hid (costs_any A B ca cb a b w hA hB hla hlb)
  have HIA := Lib.hid hA
  have HIB := Lib.hid hB
  obtain ⟨n, hn⟩ : ∃ n, n = a.length := ⟨_, rfl⟩
  obtain ⟨m, hm⟩ : ∃ m, m = b.length := ⟨_, rfl⟩
  have HN := Lib.hid hn
  have HM := Lib.hid hm
  rw [← hn] at HCO hla ⊢
  rw [← hm] at HCO hlb ⊢
  clear hn hm hA hB
  obtain ⟨ip, hip, hzp, hsp, hbp⟩ := info_hid infoPair
  go_enter Try.func52, Try.ntmps52
  go_wp2_with fail
  refine HCO.out.mono ?_; rintro e w1 ⟨go, rfl, hrt, hb1⟩
  have HRT := Lib.hid hrt.out
  have HB1 := Lib.hid hb1
  clear hrt hb1 HCO
  go_wp2_with fail
  go_loopw [7, 8, 9] (fun v i j wr => ∃ (p q f k : Nat) (ps : List (Int × Int)), i = .int .i64 p ∧ j = .int .i64 q ∧ p ≤ n ∧ q ≤ m ∧ k ≤ p + q ∧ Hid (n - p + (m - q) ≤ f) ∧ Hid (ps ++ prs a b f p q = pairsQ a b) ∧ Hid (k = ps.length) ∧ Hid (wr.ownsRow w1.heap.size 28 2 v k (ps.flatMap pairC)) ∧ Hid (Below w1.heap.size w1 wr)) (fun _ i j _ => n + m - (intOf i).toNat - (intOf j).toNat)
  case atStart => exact ⟨0, 0, n + m, 0, [], rfl, rfl, Nat.zero_le _, Nat.zero_le _, Nat.le_refl _, Lib.hid (by omega), Lib.hid (by rw [HN.out, HM.out]; rfl), Lib.hid rfl, Lib.hid (by simpa using World.ownsRow_nil _ _ _ _), Lib.hid (Below.refl _ _)⟩
  case round =>
    obtain ⟨p, q, f, k, ps, rfl, rfl, hp, hq, hkk, hf, hps, hk, hown, hb⟩ := hrel
    have HRW := Lib.hid (HRT.out.below hb.out)
    have HWS := Lib.hid (show w1.heap.size ≤ wr.heap.size from hb.out.size)
    by_cases hend : p < n ∨ q < m
    · cases f with
      | zero => have := hf.out; omega
      | succ f =>
      have HS := Lib.hid (fun f' => prs_step a b f' p q (by have := HN.out; have := HM.out; omega))
      by_cases hpl : p < n
      · have hpa : p < a.length := by have := HN.out; omega
        obtain ⟨r, c0, -, hrl, hgl, hval, -, -⟩ := HRW.out.at (i := p) (Nat.zero_le _) (by omega)
        obtain ⟨r1, c1, -, hrl1, -, dval, -, -⟩ := HRW.out.at (i := p + 1) (Nat.zero_le _) (by omega)
        rw [← HM.out] at c0 c1
        have cy := hval q (by have := HM.out; omega) trivial
        have cu := dval q (by have := HM.out; omega) trivial
        have by' := cst_bd (a.drop p) (b.drop q)
        have bu := cst_bd (a.drop (p + 1)) (b.drop q)
        rw [List.length_drop, List.length_drop] at by' bu
        have t1 : ((p : Int) + 1).toNat = p + 1 := by omega
        have t3 : 0 ≤ (p : Int) + 1 := by omega
        have t5 : (p : Int) + 1 < (n : Int) + 1 := by omega
        have t7 : p + 1 < n + 1 := by omega
        have t11 : (p : Int) < (n : Int) + 1 := by omega
        have t12 : (q : Int) < (m : Int) + 1 := by omega
        have t13 : p < n + 1 := by omega
        have t14 : q < m + 1 := by omega
        have H0 := Lib.hid (nxt_left a b p q hpa)
        have H1 := Lib.hid (nxt_right a b p q hpa)
        by_cases hql : q < m
        · have hqb : q < b.length := by have := HM.out; omega
          have cz := dval (q + 1) (by omega) trivial
          have bz := cst_bd (a.drop (p + 1)) (b.drop (q + 1))
          rw [List.length_drop, List.length_drop] at bz
          obtain ⟨ba, oa, rfl, hba, ca1⟩ := (HIA.out.below (below_more HB1.out hb.out)) p a[p] (List.getElem?_eq_getElem hpa)
          obtain ⟨bb, ob, rfl, hbb, cb1⟩ := (HIB.out.below (below_more HB1.out hb.out)) q b[q] (List.getElem?_eq_getElem hqb)
          have HPC := Lib.hid (fun wx => pairC_any a[p] b[q] wx)
          have H2 := Lib.hid (nxt_both a b p q hpa hqb)
          have H0 := Lib.hid (fun (e : ¬ bth a[p] b[q] (cst (a.drop (p + 1)) (b.drop (q + 1))) = cst (a.drop p) (b.drop q)) => H0.out (fun _ => e))
          have H1 := Lib.hid (fun (e : ¬ bth a[p] b[q] (cst (a.drop (p + 1)) (b.drop (q + 1))) = cst (a.drop p) (b.drop q)) => H1.out (fun _ => e))
          obtain ⟨pc, hpc⟩ : ∃ pc : Int, pc = if a[p] = b[q] then 0 else 3 := ⟨_, rfl⟩
          have hbt : bth a[p] b[q] (cst (a.drop (p + 1)) (b.drop (q + 1))) = pc + cst (a.drop (p + 1)) (b.drop (q + 1)) := by rw [hpc]; unfold bth; split <;> omega
          have hpc0 : 0 ≤ pc ∧ pc ≤ 3 := by rw [hpc]; split <;> omega
          rw [hbt] at H0 H1 H2
          rw [← hpc] at HPC
          obtain ⟨x, hx⟩ : ∃ x, x = a[p] := ⟨_, rfl⟩
          obtain ⟨x2, hx2⟩ : ∃ x2, x2 = b[q] := ⟨_, rfl⟩
          obtain ⟨y, hy⟩ : ∃ y, y = cst (a.drop p) (b.drop q) := ⟨_, rfl⟩
          obtain ⟨u, hu⟩ : ∃ u, u = cst (a.drop (p + 1)) (b.drop q) := ⟨_, rfl⟩
          obtain ⟨z, hz⟩ : ∃ z, z = cst (a.drop (p + 1)) (b.drop (q + 1)) := ⟨_, rfl⟩
          rw [← hx] at ca1 HPC
          rw [← hx2] at cb1 HPC
          rw [← hy] at cy by' H0 H1 H2
          rw [← hu] at cu bu H0 H1
          rw [← hz] at cz bz H0 H1 H2
          have u0' := bu.1
          have u1' : u ≤ 300 := by have := HN.out; have := HM.out; omega
          have z0' := bz.1
          have z1' : z ≤ 300 := by have := HN.out; have := HM.out; omega
          have p0' := hpc0.1
          have p1' := hpc0.2
          have t2 : ((q : Int) + 1).toNat = q + 1 := by omega
          have t4 : 0 ≤ (q : Int) + 1 := by omega
          have t6 : (q : Int) + 1 < (m : Int) + 1 := by omega
          have t8 : q + 1 < m + 1 := by omega
          clear hx hx2 hy hu hz hpc hbt hpc0 bu bz by' dval hval
          by_cases k1 : pc + z = y
          · have e1 : (y == pc + z) = true := by simp; omega
            have HNX := Lib.hid (H2.out k1)
            have hps2 := Lib.hid (show (ps ++ [((p : Int), (q : Int))]) ++ prs a b f (p + 1) (q + 1) = pairsQ a b by
              rw [← hps.out, HS.out f, HNX.out, List.append_assoc]; unfold adv; rw [if_neg (by dsimp only; omega), if_neg (by dsimp only; omega)]; rfl)
            clear k1 H0 H1 H2 HS HNX
            go_wp2_with fail
            have w1' := IntWalk.i64_in ((p : Int) + 1) (by omega)
            have w2' := IntWalk.i64_in ((q : Int) + 1) (by omega)
            have w3' := IntWalk.i64_in (pc + z) (by omega)
            refine wp_region_later (by kernel_rfl) (by kernel_rfl) ?_; (repeat (first | go_big_quiet_step ((((go_at_call 88; exact Calls.later_same _ (HPC.out _))))) | quiet_step ((((go_at_call 88; exact Calls.later_same _ (HPC.out _))))))); refine wpQuiet_nil ?_; rintro _ ⟨s, rfl⟩
            clear w1' w2' w3'
            have kX := Lib.hid (Below.refl wr.heap.size wr)
            have kY := Lib.hid (below_more kX.out s.below)
            obtain ⟨Y, hY⟩ : ∃ Y, Y = s.w := ⟨_, rfl⟩
            rw [← hY] at kY ⊢
            clear hY s
            have HBY := Lib.hid (hb.out.trans (kY.out.mono hb.out.size))
            have own1 := Lib.hid ((own_below hown.out kY.out).alloc (.cells #[.int .i64 (p : Int), .int .i64 (q : Int)] 28))
            have hyz : w1.heap.size ≤ Y.heap.size := Nat.le_trans HWS.out kY.out.size
            go_wp2_with (first
              | (at_builtin; refine wpList_append_src _ rfl (.tmp 70) (.tmp 74) 23 rfl w1.heap.size 28 ip (.agg #[.int .i64 0, .int .i64 0]) 2 16 Try.underlying23 hip.out hzp.out hsp.out hbp.out rfl (by decide) u7 k (ps.flatMap pairC) rfl own1.out (some ⟨Y.heap.size, 0, none⟩) 1 1 [.int .i64 (p : Int), .int .i64 (q : Int)] rfl rfl pair_some (pair_new1 Y _ _) (pair_one _ _) (by unfold maxLen; omega) (by omega) (by simp; omega) (k + 1) rfl ?_))
            intro A3 c3 w3 own3 hg3 _
            have b3 := Lib.hid ((HBY.out.alloc hyz (.cells #[.int .i64 (p : Int), .int .i64 (q : Int)] 28)).grown hg3 (by simp; omega) (fun g hg => (own1.out.lt g hg).1))
            have own3 := Lib.hid own3
            clear hg3
            go_wp2
            go_roundw
            case rel => exact ⟨(p + 1), (q + 1), f, k + 1, ps ++ [((p : Int), (q : Int))], by go_num, by go_num, by omega, by omega, by omega, Lib.hid (by have := hf.out; omega), hps2, Lib.hid (by rw [List.length_append, ← hk.out]; rfl), Lib.hid (by rw [List.flatMap_append]; exact own3.out), b3⟩
            case measure => simp [intOf]; omega
          · have e1 : (y == pc + z) = false := by simp; omega
            by_cases k2 : u + 2 = y
            · have e2 : (y == 2 + u) = true := by simp; omega
              have HNX := Lib.hid (H0.out k1 k2)
              have hps2 := Lib.hid (show (ps ++ [((p : Int), -1)]) ++ prs a b f (p + 1) q = pairsQ a b by
                rw [← hps.out, HS.out f, HNX.out, List.append_assoc]; unfold adv; rw [if_neg (by dsimp only; omega), if_pos rfl]; rfl)
              clear k1 k2 H0 H1 H2 HS HNX
              go_wp2_with fail
              have w1' := IntWalk.i64_in ((p : Int) + 1) (by omega)
              have w2' := IntWalk.i64_in ((q : Int) + 1) (by omega)
              have w3' := IntWalk.i64_in (pc + z) (by omega)
              refine wp_region_later (by kernel_rfl) (by kernel_rfl) ?_; (repeat (first | go_big_quiet_step ((((go_at_call 88; exact Calls.later_same _ (HPC.out _))))) | quiet_step ((((go_at_call 88; exact Calls.later_same _ (HPC.out _))))))); refine wpQuiet_nil ?_; rintro _ ⟨s, rfl⟩
              clear w1' w2' w3'
              have kX := Lib.hid s.below
              obtain ⟨X, hX⟩ : ∃ X, X = s.w := ⟨_, rfl⟩
              rw [← hX] at kX ⊢
              clear hX s
              have c0 := ((bcell kX.out).1 _ _ hgl).trans c0
              have c1 := ((bcell kX.out).1 _ _ hgl).trans c1
              have cy := ((bcell kX.out).1 _ _ hrl).trans cy
              have cu := ((bcell kX.out).1 _ _ hrl1).trans cu
              have hgl := Nat.lt_of_lt_of_le hgl kX.out.size
              have hrl := Nat.lt_of_lt_of_le hrl kX.out.size
              have hrl1 := Nat.lt_of_lt_of_le hrl1 kX.out.size
              go_wp2_with fail
              have w1' := IntWalk.i64_in ((p : Int) + 1) (by omega)
              have w4' := IntWalk.i64_in (2 + u) (by omega)
              refine wp_region_later (by kernel_rfl) (by kernel_rfl) ?_; (repeat (first | go_big_quiet_step (fail) | quiet_step (fail))); refine wpQuiet_nil ?_; rintro _ ⟨s, rfl⟩
              clear w1' w4'
              have kY := Lib.hid (below_more kX.out s.below)
              obtain ⟨Y, hY⟩ : ∃ Y, Y = s.w := ⟨_, rfl⟩
              rw [← hY] at kY ⊢
              clear hY s
              have HBY := Lib.hid (hb.out.trans (kY.out.mono hb.out.size))
              have own1 := Lib.hid ((own_below hown.out kY.out).alloc (.cells #[.int .i64 (p : Int), .int .i64 (-1)] 28))
              have hyz : w1.heap.size ≤ Y.heap.size := Nat.le_trans HWS.out kY.out.size
              go_wp2_with (first
                | (at_builtin; refine wpList_append_src _ rfl (.tmp 104) (.tmp 107) 23 rfl w1.heap.size 28 ip (.agg #[.int .i64 0, .int .i64 0]) 2 16 Try.underlying23 hip.out hzp.out hsp.out hbp.out rfl (by decide) u7 k (ps.flatMap pairC) rfl own1.out (some ⟨Y.heap.size, 0, none⟩) 1 1 [.int .i64 (p : Int), .int .i64 (-1)] rfl rfl pair_some (pair_new1 Y _ _) (pair_one _ _) (by unfold maxLen; omega) (by omega) (by simp; omega) (k + 1) rfl ?_))
              intro A3 c3 w3 own3 hg3 _
              have b3 := Lib.hid ((HBY.out.alloc hyz (.cells #[.int .i64 (p : Int), .int .i64 (-1)] 28)).grown hg3 (by simp; omega) (fun g hg => (own1.out.lt g hg).1))
              have own3 := Lib.hid own3
              clear hg3
              go_wp2
              go_roundw
              case rel => exact ⟨(p + 1), q, f, k + 1, ps ++ [((p : Int), (-1))], by go_num, by go_num, by omega, by omega, by omega, Lib.hid (by have := hf.out; omega), hps2, Lib.hid (by rw [List.length_append, ← hk.out]; rfl), Lib.hid (by rw [List.flatMap_append]; exact own3.out), b3⟩
              case measure => simp [intOf]; omega
            · have e2 : (y == 2 + u) = false := by simp; omega
              have HNX := Lib.hid (H1.out k1 k2).1
              have hps2 := Lib.hid (show (ps ++ [(-1, (q : Int))]) ++ prs a b f p (q + 1) = pairsQ a b by
                rw [← hps.out, HS.out f, HNX.out, List.append_assoc]; unfold adv; rw [if_pos rfl, if_neg (by dsimp only; omega)]; rfl)
              clear k1 k2 H0 H1 H2 HS HNX
              go_wp2_with fail
              have w1' := IntWalk.i64_in ((p : Int) + 1) (by omega)
              have w2' := IntWalk.i64_in ((q : Int) + 1) (by omega)
              have w3' := IntWalk.i64_in (pc + z) (by omega)
              refine wp_region_later (by kernel_rfl) (by kernel_rfl) ?_; (repeat (first | go_big_quiet_step ((((go_at_call 88; exact Calls.later_same _ (HPC.out _))))) | quiet_step ((((go_at_call 88; exact Calls.later_same _ (HPC.out _))))))); refine wpQuiet_nil ?_; rintro _ ⟨s, rfl⟩
              clear w1' w2' w3'
              have kX := Lib.hid s.below
              obtain ⟨X, hX⟩ : ∃ X, X = s.w := ⟨_, rfl⟩
              rw [← hX] at kX ⊢
              clear hX s
              have c0 := ((bcell kX.out).1 _ _ hgl).trans c0
              have c1 := ((bcell kX.out).1 _ _ hgl).trans c1
              have cy := ((bcell kX.out).1 _ _ hrl).trans cy
              have cu := ((bcell kX.out).1 _ _ hrl1).trans cu
              have hgl := Nat.lt_of_lt_of_le hgl kX.out.size
              have hrl := Nat.lt_of_lt_of_le hrl kX.out.size
              have hrl1 := Nat.lt_of_lt_of_le hrl1 kX.out.size
              go_wp2_with fail
              have w1' := IntWalk.i64_in ((p : Int) + 1) (by omega)
              have w4' := IntWalk.i64_in (2 + u) (by omega)
              refine wp_region_later (by kernel_rfl) (by kernel_rfl) ?_; (repeat (first | go_big_quiet_step (fail) | quiet_step (fail))); refine wpQuiet_nil ?_; rintro _ ⟨s, rfl⟩
              clear w1' w4'
              have kY := Lib.hid (below_more kX.out s.below)
              obtain ⟨Y, hY⟩ : ∃ Y, Y = s.w := ⟨_, rfl⟩
              rw [← hY] at kY ⊢
              clear hY s
              have HBY := Lib.hid (hb.out.trans (kY.out.mono hb.out.size))
              have own1 := Lib.hid ((own_below hown.out kY.out).alloc (.cells #[.int .i64 (-1), .int .i64 (q : Int)] 28))
              have hyz : w1.heap.size ≤ Y.heap.size := Nat.le_trans HWS.out kY.out.size
              go_wp2_with (first
                | (at_builtin; refine wpList_append_src _ rfl (.tmp 23) (.tmp 26) 23 rfl w1.heap.size 28 ip (.agg #[.int .i64 0, .int .i64 0]) 2 16 Try.underlying23 hip.out hzp.out hsp.out hbp.out rfl (by decide) u7 k (ps.flatMap pairC) rfl own1.out (some ⟨Y.heap.size, 0, none⟩) 1 1 [.int .i64 (-1), .int .i64 (q : Int)] rfl rfl pair_some (pair_new1 Y _ _) (pair_one _ _) (by unfold maxLen; omega) (by omega) (by simp; omega) (k + 1) rfl ?_))
              intro A3 c3 w3 own3 hg3 _
              have b3 := Lib.hid ((HBY.out.alloc hyz (.cells #[.int .i64 (-1), .int .i64 (q : Int)] 28)).grown hg3 (by simp; omega) (fun g hg => (own1.out.lt g hg).1))
              have own3 := Lib.hid own3
              clear hg3
              go_wp2
              go_roundw
              case rel => exact ⟨p, (q + 1), f, k + 1, ps ++ [((-1), (q : Int))], by go_num, by go_num, by omega, by omega, by omega, Lib.hid (by have := hf.out; omega), hps2, Lib.hid (by rw [List.length_append, ← hk.out]; rfl), Lib.hid (by rw [List.flatMap_append]; exact own3.out), b3⟩
              case measure => simp [intOf]; omega
        · have k2 : cst (a.drop (p + 1)) (b.drop q) + 2 = cst (a.drop p) (b.drop q) := by
            have e1 := HM.out
            rw [List.drop_eq_nil_of_le (show b.length ≤ q by omega), cst_right, cst_right, List.length_drop, List.length_drop]; omega
          have HNX := Lib.hid (H0.out (fun h => absurd h (by have := HM.out; omega)) k2)
          have hps2 := Lib.hid (show (ps ++ [((p : Int), -1)]) ++ prs a b f (p + 1) q = pairsQ a b by
            rw [← hps.out, HS.out f, HNX.out, List.append_assoc]; unfold adv; rw [if_neg (by dsimp only; omega), if_pos rfl]; rfl)
          obtain ⟨y, hy⟩ : ∃ y, y = cst (a.drop p) (b.drop q) := ⟨_, rfl⟩
          obtain ⟨u, hu⟩ : ∃ u, u = cst (a.drop (p + 1)) (b.drop q) := ⟨_, rfl⟩
          rw [← hy] at cy by' k2
          rw [← hu] at cu bu k2
          have u0' := bu.1
          have u1' : u ≤ 300 := by have := HN.out; have := HM.out; omega
          have e2 : (y == 2 + u) = true := by simp; omega
          clear hy hu k2 bu by' hpa dval hval H0 H1 HS HNX
          go_wp2_with fail
          refine wp_region_later (by kernel_rfl) (by kernel_rfl) ?_; (repeat (first | go_big_quiet_step (fail) | quiet_step (fail))); refine wpQuiet_nil ?_; rintro _ ⟨s, rfl⟩
          have kX := Lib.hid s.below
          obtain ⟨X, hX⟩ : ∃ X, X = s.w := ⟨_, rfl⟩
          rw [← hX] at kX ⊢
          clear hX s
          have c0 := ((bcell kX.out).1 _ _ hgl).trans c0
          have c1 := ((bcell kX.out).1 _ _ hgl).trans c1
          have cy := ((bcell kX.out).1 _ _ hrl).trans cy
          have cu := ((bcell kX.out).1 _ _ hrl1).trans cu
          have hgl := Nat.lt_of_lt_of_le hgl kX.out.size
          have hrl := Nat.lt_of_lt_of_le hrl kX.out.size
          have hrl1 := Nat.lt_of_lt_of_le hrl1 kX.out.size
          go_wp2_with fail
          have w1' := IntWalk.i64_in ((p : Int) + 1) (by omega)
          have w4' := IntWalk.i64_in (2 + u) (by omega)
          refine wp_region_later (by kernel_rfl) (by kernel_rfl) ?_; (repeat (first | go_big_quiet_step (fail) | quiet_step (fail))); refine wpQuiet_nil ?_; rintro _ ⟨s, rfl⟩
          clear w1' w4'
          have kY := Lib.hid (below_more kX.out s.below)
          obtain ⟨Y, hY⟩ : ∃ Y, Y = s.w := ⟨_, rfl⟩
          rw [← hY] at kY ⊢
          clear hY s
          have HBY := Lib.hid (hb.out.trans (kY.out.mono hb.out.size))
          have own1 := Lib.hid ((own_below hown.out kY.out).alloc (.cells #[.int .i64 (p : Int), .int .i64 (-1)] 28))
          have hyz : w1.heap.size ≤ Y.heap.size := Nat.le_trans HWS.out kY.out.size
          go_wp2_with (first
            | (at_builtin; refine wpList_append_src _ rfl (.tmp 104) (.tmp 107) 23 rfl w1.heap.size 28 ip (.agg #[.int .i64 0, .int .i64 0]) 2 16 Try.underlying23 hip.out hzp.out hsp.out hbp.out rfl (by decide) u7 k (ps.flatMap pairC) rfl own1.out (some ⟨Y.heap.size, 0, none⟩) 1 1 [.int .i64 (p : Int), .int .i64 (-1)] rfl rfl pair_some (pair_new1 Y _ _) (pair_one _ _) (by unfold maxLen; omega) (by omega) (by simp; omega) (k + 1) rfl ?_))
          intro A3 c3 w3 own3 hg3 _
          have b3 := Lib.hid ((HBY.out.alloc hyz (.cells #[.int .i64 (p : Int), .int .i64 (-1)] 28)).grown hg3 (by simp; omega) (fun g hg => (own1.out.lt g hg).1))
          have own3 := Lib.hid own3
          clear hg3
          go_wp2
          go_roundw
          case rel => exact ⟨(p + 1), q, f, k + 1, ps ++ [((p : Int), (-1))], by go_num, by go_num, by omega, by omega, by omega, Lib.hid (by have := hf.out; omega), hps2, Lib.hid (by rw [List.length_append, ← hk.out]; rfl), Lib.hid (by rw [List.flatMap_append]; exact own3.out), b3⟩
          case measure => simp [intOf]; omega
      · have hql : q < m := by omega
        have HNX := Lib.hid (nxt_none a b p q (by have := HN.out; omega))
        have hps2 := Lib.hid (show (ps ++ [(-1, (q : Int))]) ++ prs a b f p (q + 1) = pairsQ a b by
          rw [← hps.out, HS.out f, HNX.out, List.append_assoc]; unfold adv; rw [if_pos rfl, if_neg (by dsimp only; omega)]; rfl)
        clear HS HNX
        go_wp2_with fail
        refine wp_region_later (by kernel_rfl) (by kernel_rfl) ?_; (repeat (first | go_big_quiet_step (fail) | quiet_step (fail))); refine wpQuiet_nil ?_; rintro _ ⟨s, rfl⟩
        have kX := Lib.hid s.below
        obtain ⟨X, hX⟩ : ∃ X, X = s.w := ⟨_, rfl⟩
        rw [← hX] at kX ⊢
        clear hX s
        go_wp2_with fail
        refine wp_region_later (by kernel_rfl) (by kernel_rfl) ?_; (repeat (first | go_big_quiet_step (fail) | quiet_step (fail))); refine wpQuiet_nil ?_; rintro _ ⟨s, rfl⟩
        have kY := Lib.hid (below_more kX.out s.below)
        obtain ⟨Y, hY⟩ : ∃ Y, Y = s.w := ⟨_, rfl⟩
        rw [← hY] at kY ⊢
        clear hY s
        have HBY := Lib.hid (hb.out.trans (kY.out.mono hb.out.size))
        have own1 := Lib.hid ((own_below hown.out kY.out).alloc (.cells #[.int .i64 (-1), .int .i64 (q : Int)] 28))
        have hyz : w1.heap.size ≤ Y.heap.size := Nat.le_trans HWS.out kY.out.size
        go_wp2_with (first
          | (at_builtin; refine wpList_append_src _ rfl (.tmp 23) (.tmp 26) 23 rfl w1.heap.size 28 ip (.agg #[.int .i64 0, .int .i64 0]) 2 16 Try.underlying23 hip.out hzp.out hsp.out hbp.out rfl (by decide) u7 k (ps.flatMap pairC) rfl own1.out (some ⟨Y.heap.size, 0, none⟩) 1 1 [.int .i64 (-1), .int .i64 (q : Int)] rfl rfl pair_some (pair_new1 Y _ _) (pair_one _ _) (by unfold maxLen; omega) (by omega) (by simp; omega) (k + 1) rfl ?_))
        intro A3 c3 w3 own3 hg3 _
        have b3 := Lib.hid ((HBY.out.alloc hyz (.cells #[.int .i64 (-1), .int .i64 (q : Int)] 28)).grown hg3 (by simp; omega) (fun g hg => (own1.out.lt g hg).1))
        have own3 := Lib.hid own3
        clear hg3
        go_wp2
        go_roundw
        case rel => exact ⟨p, (q + 1), f, k + 1, ps ++ [((-1), (q : Int))], by go_num, by go_num, by omega, by omega, by omega, Lib.hid (by have := hf.out; omega), hps2, Lib.hid (by rw [List.length_append, ← hk.out]; rfl), Lib.hid (by rw [List.flatMap_append]; exact own3.out), b3⟩
        case measure => simp [intOf]; omega
    · have hnp : ¬ p < n := fun h => hend (.inl h)
      have hnq : ¬ q < m := fun h => hend (.inr h)
      have he := Lib.hid (show ps = pairsQ a b by rw [← hps.out, prs_end a b f p q (by have := HN.out; omega) (by have := HM.out; omega), List.append_nil])
      obtain ⟨r, c0, -, hrl, hgl, hval, -, -⟩ := HRW.out.at (i := 0) (Nat.zero_le _) (Nat.zero_le _)
      rw [← HM.out] at c0
      have cy : wr.cell? ⟨r, 0, none⟩ = some (.int .i64 (cst a b)) := hval 0 (Nat.zero_le _) trivial
      have HO := hown.out
      obtain ⟨A4, c4, hv, -, -, -, -⟩ := own_slice HO
      subst hv
      have t1 : (0 : Int) < (n : Int) + 1 := by omega
      have t2 : (0 : Int) < (m : Int) + 1 := by omega
      have t3 : 0 < n + 1 := by omega
      have t4 : 0 < m + 1 := by omega
      clear hval hend
      go_wp2_with fail
      refine wp_region_later (by kernel_rfl) (by kernel_rfl) ?_; (repeat (first | go_big_quiet_step (fail) | quiet_step (fail))); refine wpQuiet_nil ?_; rintro _ ⟨s, rfl⟩
      go_wp2
      go_ret2
      exact ⟨A4, k, c4, rfl, Lib.hid (by rw [← he.out]; exact hk.out), Lib.hid ⟨_, by rw [← he.out]; exact own_below HO s.below⟩, below_more HB1.out (below_more hb.out s.below)⟩

end Go.Proofs.Ytcpfhaoecggflaa
