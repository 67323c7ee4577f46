/-
  Fractions and boxes: what only the law of GridStands needs.
-/
import Derived.Test.YtmiokllpdmmfhaaGreatLaB
import Derived.Laws.StructEq
import Derived.IntWalk
import Derived.Deep.QuietTactic
import Derived.BigQuiet
import Derived.Deep.RegionHeld3
import Derived.Deep.DeepCutAuto
import Derived.Test.YtmiokllpdmmfhaaGreatLaC
import Derived.Test.YtmiokllpdmmfhaaGreatBox
import Derived.Test.YtmiokllpdmmfhaaGreatLaN
import Derived.Test.YtmiokllpdmmfhaaGreatLcF
import Derived.Test.YtmiokllpdmmfhaaGreatEnd2
import Derived.Test.YtmiokllpdmmfhaaGreatLbE
namespace Go.Proofs.YtmiokllpdmmfhaaGreat
open Go.RowKit
def Fr.val (f : Fr) : Value := .agg #[.int .i64 f.num, .int .i64 f.den]
def inB (n d : Int) : Bool := decide (1 ≤ d) && decide (d ≤ 32768) && decide (-2147483647 ≤ n) && decide (n ≤ 2147483647)
def validB (n d : Int) : Bool := inB n d && (n == (fracR n d).num && d == (fracR n d).den)
set_option maxRecDepth 100000 in
set_option maxHeartbeats 8000000 in
theorem isValid_any (n d : Int) (w : World) :
    Calls Tryz.prog 81 #[.agg #[.int .i64 n, .int .i64 d]] w fun e w' => e = .returned (.bool (validB n d)) ∧ Below w.heap.size w w' := by
  obtain ⟨W, hW⟩ : ∃ W, W = w.alloc (.cells #[.int .i64 n, .int .i64 d] 40) := ⟨_, rfl⟩
  have HB := Lib.hid (show Below w.heap.size w W from hW ▸ below_alloc _ _)
  by_cases hin : 1 ≤ d ∧ d ≤ 32768 ∧ -2147483647 ≤ n ∧ n ≤ 2147483647
  · obtain ⟨h1, h2, h3, h4⟩ := hin
    have HV := Lib.hid (show validB n d = (n == (fracR n d).num && d == (fracR n d).den) by
      unfold validB inB
      rw [decide_eq_true h1, decide_eq_true h2, decide_eq_true h3, decide_eq_true h4]; rfl)
    have HF := Lib.hid (fun wx => fraction_any n d wx (by omega) (by omega))
    obtain ⟨p, hp⟩ : ∃ p, p = (fracR n d).num := ⟨_, rfl⟩
    obtain ⟨q, hq⟩ : ∃ q, q = (fracR n d).den := ⟨_, rfl⟩
    rw [← hp, ← hq] at HF HV
    have D := Lib.hid (show W.heap[w.heap.size]? = some (.cells #[.int .i64 n, .int .i64 d] 40 (0, 0)) by rw [hW]; exact heap_alloc_new _ _)
    have HK := Lib.hid (fun wx (hb : Below W.heap.size W wx) => show wx.cell? ⟨w.heap.size, 0, none⟩ = some (.int .i64 n) ∧ wx.cell? ⟨w.heap.size, 1, none⟩ = some (.int .i64 d) ∧ Below W.heap.size W wx from
      ⟨cell_of_blk (blk_keep hb D.out) 0, cell_of_blk (blk_keep hb D.out) 1, hb⟩)
    have HDR := Lib.hid (show Below W.heap.size W W.drew from (Below.refl _ _).drew)
    have HSB := Lib.hid (fun wx (h : wx.cell? ⟨w.heap.size, 0, none⟩ = some (.int .i64 n) ∧ wx.cell? ⟨w.heap.size, 1, none⟩ = some (.int .i64 d) ∧ Below W.heap.size W wx) => h.2.2)
    have HEQ := eqFr n d p q
    clear hp hq
    go_enter Tryz.func81, Tryz.ntmps81
    go_wp2_with fail
    rw [← hW]
    clear hW
    go_region_held3 (fun wx => wx.cell? ⟨w.heap.size, 0, none⟩ = some (.int .i64 n) ∧ wx.cell? ⟨w.heap.size, 1, none⟩ = some (.int .i64 d) ∧ Below W.heap.size W wx)
      ((refine HK.out _ ?_; first | assumption | exact HDR.out))
      (first
        | (go_at_call 137; refine (HF.out _).mono ?_; rintro e wf ⟨rfl, hbf⟩; have hbw := below_more (HSB.out _ (by assumption)) hbf))
    all_goals go_wp2
    all_goals go_ret
    all_goals exact ⟨of_bool (by rw [HV.out]), below_more HB.out hbw⟩
  · have HV := Lib.hid (show validB n d = false by
      unfold validB
      have : inB n d = false := by unfold inB; simp; omega
      rw [this]; rfl)
    rw [HV.out]
    by_cases h1 : d < 1
    · go_enter Tryz.func81, Tryz.ntmps81
      go_wp2
      go_ret
      exact ⟨rfl, below_alloc _ _⟩
    by_cases h2 : 32768 < d
    · go_enter Tryz.func81, Tryz.ntmps81
      go_wp2
      go_ret
      exact ⟨rfl, below_alloc _ _⟩
    by_cases h3 : n < -2147483647
    · go_enter Tryz.func81, Tryz.ntmps81
      go_wp2
      go_ret
      exact ⟨rfl, below_alloc _ _⟩
    have h4 : 2147483647 < n := by omega
    go_enter Tryz.func81, Tryz.ntmps81
    go_wp2
    go_ret
    exact ⟨rfl, below_alloc _ _⟩
set_option maxRecDepth 100000 in
set_option maxHeartbeats 8000000 in
theorem rvalid_any (n d : Int) (w : World) :
    Calls Tryz.prog 86 #[.agg #[.int .i64 n, .int .i64 d]] w fun e w' => e = .returned (.bool (validB n d)) ∧ Below w.heap.size w w' := by
  obtain ⟨W, hW⟩ : ∃ W, W = w.alloc (.cells #[.int .i64 n, .int .i64 d] 40) := ⟨_, rfl⟩
  have HB := Lib.hid (show Below w.heap.size w W from hW ▸ below_alloc _ _)
  have D := Lib.hid (show W.heap[w.heap.size]? = some (.cells #[.int .i64 n, .int .i64 d] 40 (0, 0)) by rw [hW]; exact heap_alloc_new _ _)
  have HK := Lib.hid (fun wx (hb : Below W.heap.size W wx) => show wx.cell? ⟨w.heap.size, 0, none⟩ = some (.int .i64 n) ∧ wx.cell? ⟨w.heap.size, 1, none⟩ = some (.int .i64 d) ∧ Below W.heap.size W wx from
    ⟨cell_of_blk (blk_keep hb D.out) 0, cell_of_blk (blk_keep hb D.out) 1, hb⟩)
  have HDR := Lib.hid (show Below W.heap.size W W.drew from (Below.refl _ _).drew)
  have HSB := Lib.hid (fun wx (h : wx.cell? ⟨w.heap.size, 0, none⟩ = some (.int .i64 n) ∧ wx.cell? ⟨w.heap.size, 1, none⟩ = some (.int .i64 d) ∧ Below W.heap.size W wx) => h.2.2)
  by_cases hin : 1 ≤ d ∧ d ≤ 32768 ∧ -2147483647 ≤ n ∧ n ≤ 2147483647
  · obtain ⟨h1, h2, h3, h4⟩ := hin
    have HV := Lib.hid (show validB n d = ((fracR n d).num == n && (fracR n d).den == d) by
      unfold validB inB
      rw [decide_eq_true h1, decide_eq_true h2, decide_eq_true h3, decide_eq_true h4, Bool.beq_comm (a := n), Bool.beq_comm (a := d)]; rfl)
    have HF := Lib.hid (fun wx => rfrac_any n d wx (by omega) (by omega))
    obtain ⟨p, hp⟩ : ∃ p, p = (fracR n d).num := ⟨_, rfl⟩
    obtain ⟨q, hq⟩ : ∃ q, q = (fracR n d).den := ⟨_, rfl⟩
    rw [← hp, ← hq] at HF HV
    have HEQ := eqFr p q n d
    clear hp hq
    go_enter Tryz.func86, Tryz.ntmps86
    go_wp2_with fail
    rw [← hW]
    clear hW
    go_region_held3 (fun wx => wx.cell? ⟨w.heap.size, 0, none⟩ = some (.int .i64 n) ∧ wx.cell? ⟨w.heap.size, 1, none⟩ = some (.int .i64 d) ∧ Below W.heap.size W wx)
      ((refine HK.out _ ?_; first | assumption | exact HDR.out))
      (first
        | (go_at_call 105; refine (HF.out _).mono ?_; rintro e wf ⟨rfl, hbf⟩; have hbw := below_more (HSB.out _ (by assumption)) hbf))
    all_goals go_wp2
    all_goals go_ret
    all_goals exact ⟨of_bool (by rw [HV.out]), below_more HB.out hbw⟩
  · have HV := Lib.hid (show validB n d = false by
      unfold validB
      have : inB n d = false := by unfold inB; simp; omega
      rw [this]; rfl)
    rw [HV.out]
    have x0 := cell_of_blk D.out 0
    have x1 := cell_of_blk D.out 1
    have hs := (Array.getElem?_eq_some_iff.1 D.out).1
    simp at x0 x1
    by_cases h1 : 1 ≤ d
    · by_cases h2 : d ≤ 32768
      · by_cases h3 : -2147483647 ≤ n
        · skip
          have d4 : decide (n ≤ 2147483647) = false := decide_eq_false (by omega)
          have d1 : decide (1 ≤ d) = true := decide_eq_true h1
          have d2 : decide (d ≤ 32768) = true := decide_eq_true h2
          have d3 : decide (-2147483647 ≤ n) = true := decide_eq_true h3
          clear h1 h2 h3 hin
          go_enter Tryz.func86, Tryz.ntmps86
          go_wp2_with fail
          rw [← hW]
          clear hW
          go_quiet (fail)
          go_wp2
          go_ret
          exact ⟨rfl, HB.out.trans ⟨rfl, rfl, rfl, Nat.le_refl _, fun _ _ => rfl⟩⟩
        · skip
          have d1 : decide (1 ≤ d) = true := decide_eq_true h1
          have d2 : decide (d ≤ 32768) = true := decide_eq_true h2
          have d3 : decide (-2147483647 ≤ n) = false := decide_eq_false h3
          clear h1 h2 h3 hin
          go_enter Tryz.func86, Tryz.ntmps86
          go_wp2_with fail
          rw [← hW]
          clear hW
          go_quiet (fail)
          go_wp2
          go_ret
          exact ⟨rfl, HB.out.trans ⟨rfl, rfl, rfl, Nat.le_refl _, fun _ _ => rfl⟩⟩
      · skip
        have d1 : decide (1 ≤ d) = true := decide_eq_true h1
        have d2 : decide (d ≤ 32768) = false := decide_eq_false h2
        clear h1 h2 hin
        go_enter Tryz.func86, Tryz.ntmps86
        go_wp2_with fail
        rw [← hW]
        clear hW
        go_quiet (fail)
        go_wp2
        go_ret
        exact ⟨rfl, HB.out.trans ⟨rfl, rfl, rfl, Nat.le_refl _, fun _ _ => rfl⟩⟩
    · skip
      have d1 : decide (1 ≤ d) = false := decide_eq_false h1
      clear h1 hin
      go_enter Tryz.func86, Tryz.ntmps86
      go_wp2_with fail
      rw [← hW]
      clear hW
      go_quiet (fail)
      go_wp2
      go_ret
      exact ⟨rfl, HB.out.trans ⟨rfl, rfl, rfl, Nat.le_refl _, fun _ _ => rfl⟩⟩
theorem valid_in {n d : Int} (h : validB n d = true) : 1 ≤ d ∧ d ≤ 32768 ∧ -2147483647 ≤ n ∧ n ≤ 2147483647 := by
  unfold validB inB at h
  simp only [Bool.and_eq_true, decide_eq_true_eq] at h
  omega
theorem mul_small {n q : Int} (h1 : -2147483647 ≤ n ∧ n ≤ 2147483647) (h2 : 1 ≤ q ∧ q ≤ 32768) : smallI (n * q) := by
  have a : n * q ≤ 2147483647 * q := Int.mul_le_mul_of_nonneg_right h1.2 (by omega)
  have b : -2147483647 * q ≤ n * q := Int.mul_le_mul_of_nonneg_right h1.1 (by omega)
  unfold smallI; omega
theorem cmp_neg (x y : Int) : decide (cmpR x y < 0) = decide (x < y) := by
  unfold cmpR
  split
  · rename_i h; simp [h]
  · rename_i h; split <;> simp [h]
def vF (f : Fr) : Bool := validB f.num f.den
def placedB (s : Bool) (x : Bx) : Bool := (vF (x.st s) && vF (x.sz s)) && (decide (0 < (x.sz s).num) && vF (x.en s))
theorem sum_small {n q p d : Int} (h1 : -2147483647 ≤ n ∧ n ≤ 2147483647) (h2 : 1 ≤ q ∧ q ≤ 32768) (h3 : -2147483647 ≤ p ∧ p ≤ 2147483647) (h4 : 1 ≤ d ∧ d ≤ 32768) : smallI (n * q + p * d) := by
  have bd : ∀ {a b : Int}, -2147483647 ≤ a ∧ a ≤ 2147483647 → 1 ≤ b ∧ b ≤ 32768 → -100000000000000 ≤ a * b ∧ a * b ≤ 100000000000000 := fun {a b} ha hb => by
    rcases Int.le_total 0 a with h | h
    · have m1 := Int.mul_nonneg h (show 0 ≤ b by omega)
      have m2 := Int.mul_le_mul ha.2 hb.2 (by omega) (by omega)
      omega
    · have m1 := Int.mul_nonneg (show 0 ≤ -a by omega) (show 0 ≤ b by omega)
      have m2 := Int.mul_le_mul (show -a ≤ 2147483647 by omega) hb.2 (by omega) (by omega)
      rw [Int.neg_mul] at m1 m2
      omega
  have a := bd h1 h2
  have b := bd h3 h4
  unfold smallI
  omega
set_option maxRecDepth 100000 in
set_option maxHeartbeats 8000000 in
theorem endS_any (p : Nat) (x : Bx) (w : World) (hs : vF (x.st false) = true) (hz : vF (x.sz false) = true) :
    Calls Tryz.prog 133 #[.agg #[.func (.func 131) #[] #[], .func (.func 132) #[] #[], .func (.func 172) #[] #[.pointer (some ⟨p, 0, none⟩)]], x.val] w (GotFr w (x.en false)) := by
  have HS := Lib.hid (fun wx => show Calls Tryz.prog 131 #[x.val] wx (GotFr wx (x.st false)) from stN_any false x wx)
  have HZ := Lib.hid (fun wx => show Calls Tryz.prog 132 #[x.val] wx (GotFr wx (x.sz false)) from szN_any false x wx)
  unfold vF at hs hz
  obtain ⟨a1, a2, a3, a4⟩ := valid_in hs
  obtain ⟨b1, b2, b3, b4⟩ := valid_in hz
  have m1 := mul_small ⟨a3, a4⟩ ⟨b1, b2⟩
  have m2 := mul_small ⟨b3, b4⟩ ⟨a1, a2⟩
  have HP := Lib.hid (fun wx => show Calls Tryz.prog 109 #[.agg #[.int .i64 (x.st false).num, .int .i64 (x.st false).den], .agg #[.int .i64 (x.sz false).num, .int .i64 (x.sz false).den]] wx (GotFr wx (x.en false)) from
    plus_any _ _ _ _ wx m1 m2 (sum_small ⟨a3, a4⟩ ⟨b1, b2⟩ ⟨b3, b4⟩ ⟨a1, a2⟩) (Int.mul_pos (by omega) (by omega)) (mul_small ⟨by omega, by omega⟩ ⟨b1, b2⟩))
  obtain ⟨S, hS⟩ : ∃ S, S = x.st false := ⟨_, rfl⟩
  obtain ⟨Z, hZ⟩ : ∃ Z, Z = x.sz false := ⟨_, rfl⟩
  obtain ⟨E, hE⟩ : ∃ E, E = x.en false := ⟨_, rfl⟩
  rw [← hS] at HS HP
  rw [← hZ] at HZ HP
  rw [← hE] at HP ⊢
  clear hs hz a1 a2 a3 a4 b1 b2 b3 b4 m1 m2 hS hZ hE
  obtain ⟨k, sg, t, m, st, mn, mx, ⟨x1, x2⟩, ⟨y1, y2⟩, ⟨w1, w2⟩, ⟨h1, h2⟩⟩ := x
  unfold Bx.val at HS HZ ⊢
  dsimp only at HS HZ ⊢
  unfold GotFr at HS HZ HP ⊢
  obtain ⟨W1, hW1⟩ : ∃ W1, W1 = w.alloc (.cells #[.func (.func 131) #[] #[], .func (.func 132) #[] #[], .func (.func 172) #[] #[.pointer (some ⟨p, 0, none⟩)]] 100) := ⟨_, rfl⟩
  obtain ⟨W2, hW2⟩ : ∃ W2, W2 = W1.alloc (.cells #[.int .i64 k, .int .i64 sg, .int .i64 t, .bool m, .int .i64 st, .int .i64 mn, .int .i64 mx, .int .i64 x1, .int .i64 x2, .int .i64 y1, .int .i64 y2, .int .i64 w1, .int .i64 w2, .int .i64 h1, .int .i64 h2] 82) := ⟨_, rfl⟩
  obtain ⟨W, hW⟩ : ∃ W, W = W2.alloc (.cells #[.int .i64 0, .int .i64 0] 40) := ⟨_, rfl⟩
  have s1 : W1.heap.size = w.heap.size + 1 := by rw [hW1]; simp
  have s2 : W2.heap.size = w.heap.size + 1 + 1 := by rw [hW2]; simp [s1]
  have s3 : W.heap.size = w.heap.size + 1 + 1 + 1 := by rw [hW]; simp [s2]
  have k1 : Below w.heap.size w W1 := hW1 ▸ below_alloc _ _
  have k2 : Below W1.heap.size W1 W2 := hW2 ▸ below_alloc _ _
  have k3 : Below W2.heap.size W2 W := hW ▸ below_alloc _ _
  have HB := Lib.hid (below_more (below_more k1 k2) k3)
  have D0 := Lib.hid (blk_keep k3 (blk_keep k2 (show W1.heap[w.heap.size]? = some (.cells #[.func (.func 131) #[] #[], .func (.func 132) #[] #[], .func (.func 172) #[] #[.pointer (some ⟨p, 0, none⟩)]] 100 (0, 0)) by rw [hW1]; exact heap_alloc_new _ _)))
  have D1 := Lib.hid (blk_keep k3 (show W2.heap[w.heap.size + 1]? = some (.cells #[.int .i64 k, .int .i64 sg, .int .i64 t, .bool m, .int .i64 st, .int .i64 mn, .int .i64 mx, .int .i64 x1, .int .i64 x2, .int .i64 y1, .int .i64 y2, .int .i64 w1, .int .i64 w2, .int .i64 h1, .int .i64 h2] 82 (0, 0)) by rw [hW2, ← s1]; exact heap_alloc_new _ _))
  have D2 := Lib.hid (show W.heap[w.heap.size + 1 + 1]? = some (.cells #[.int .i64 0, .int .i64 0] 40 (0, 0)) by rw [hW, ← s2]; exact heap_alloc_new _ _)
  have hz0 : w.heap.size < W.heap.size := by omega
  have hz1 : w.heap.size + 1 < W.heap.size := by omega
  clear s1 s2 s3 k1 k2 k3
  have c0 := cell_of_blk D0.out 0
  have c1 := cell_of_blk D0.out 1
  have b0 := cell_of_blk D1.out 0
  have b1 := cell_of_blk D1.out 1
  have b2 := cell_of_blk D1.out 2
  have b3 := cell_of_blk D1.out 3
  have b4 := cell_of_blk D1.out 4
  have b5 := cell_of_blk D1.out 5
  have b6 := cell_of_blk D1.out 6
  have b7 := cell_of_blk D1.out 7
  have b8 := cell_of_blk D1.out 8
  have b9 := cell_of_blk D1.out 9
  have b10 := cell_of_blk D1.out 10
  have b11 := cell_of_blk D1.out 11
  have b12 := cell_of_blk D1.out 12
  have b13 := cell_of_blk D1.out 13
  have b14 := cell_of_blk D1.out 14
  simp at c0 c1 b0 b1 b2 b3 b4 b5 b6 b7 b8 b9 b10 b11 b12 b13 b14
  go_enter Tryz.func133, Tryz.ntmps133
  go_wp2_with fail
  rw [← hW1, ← hW2, ← hW]
  clear hW1 hW2 hW
  refine wp_region_later_tail 9 (by kernel_rfl) (by kernel_rfl) ?_; simp only [List.take_succ_cons, List.take_zero, List.drop_succ_cons, List.drop_zero]; (repeat (first | go_big_quiet_step ((first | ((go_at_call 131; exact Calls.later _ (HS.out _))) | ((go_at_call 132; exact Calls.later _ (HZ.out _))) | ((go_at_call 109; exact Calls.later _ (HP.out _))))) | quiet_step ((first | ((go_at_call 131; exact Calls.later _ (HS.out _))) | ((go_at_call 132; exact Calls.later _ (HZ.out _))) | ((go_at_call 109; exact Calls.later _ (HP.out _))))))); refine wpQuiet_nil ?_; rintro _ ⟨s, rfl⟩
  have HBS := Lib.hid (below_more HB.out s.below)
  have K1 := Lib.hid (blk_keep s.below D2.out)
  obtain ⟨X, hX⟩ : ∃ X, X = s.w := ⟨_, rfl⟩
  rw [← hX] at HBS K1 ⊢
  clear hX s c0 c1 b0 b1 b2 b3 b4 b5 b6 b7 b8 b9 b10 b11 b12 b13 b14 hz0 hz1
  have q0 := cell_of_blk K1.out 0
  have q1 := cell_of_blk K1.out 1
  have f0 := free_of_blk K1.out 0
  have f1 := free_of_blk K1.out 1
  have hs := (Array.getElem?_eq_some_iff.1 K1.out).1
  simp at q0 q1
  go_wp2_with fail
  refine bodyPost_ret (v := .agg #[.int .i64 E.num, .int .i64 E.den]) (by simp [results, Tryz.results133, go_sem, q0, q1]) rfl ⟨rfl, ?_⟩
  exact (HBS.out.setCell (by dsimp only; omega) _).setCell (by dsimp only; omega) _
set_option maxRecDepth 100000 in
set_option maxHeartbeats 8000000 in
theorem endD_any (p : Nat) (x : Bx) (w : World) (hs : vF (x.st true) = true) (hz : vF (x.sz true) = true) :
    Calls Tryz.prog 133 #[.agg #[.func (.func 135) #[] #[], .func (.func 136) #[] #[], .func (.func 172) #[] #[.pointer (some ⟨p, 0, none⟩)]], x.val] w (GotFr w (x.en true)) := by
  have HS := Lib.hid (fun wx => show Calls Tryz.prog 135 #[x.val] wx (GotFr wx (x.st true)) from stN_any true x wx)
  have HZ := Lib.hid (fun wx => show Calls Tryz.prog 136 #[x.val] wx (GotFr wx (x.sz true)) from szN_any true x wx)
  unfold vF at hs hz
  obtain ⟨a1, a2, a3, a4⟩ := valid_in hs
  obtain ⟨b1, b2, b3, b4⟩ := valid_in hz
  have m1 := mul_small ⟨a3, a4⟩ ⟨b1, b2⟩
  have m2 := mul_small ⟨b3, b4⟩ ⟨a1, a2⟩
  have HP := Lib.hid (fun wx => show Calls Tryz.prog 109 #[.agg #[.int .i64 (x.st true).num, .int .i64 (x.st true).den], .agg #[.int .i64 (x.sz true).num, .int .i64 (x.sz true).den]] wx (GotFr wx (x.en true)) from
    plus_any _ _ _ _ wx m1 m2 (sum_small ⟨a3, a4⟩ ⟨b1, b2⟩ ⟨b3, b4⟩ ⟨a1, a2⟩) (Int.mul_pos (by omega) (by omega)) (mul_small ⟨by omega, by omega⟩ ⟨b1, b2⟩))
  obtain ⟨S, hS⟩ : ∃ S, S = x.st true := ⟨_, rfl⟩
  obtain ⟨Z, hZ⟩ : ∃ Z, Z = x.sz true := ⟨_, rfl⟩
  obtain ⟨E, hE⟩ : ∃ E, E = x.en true := ⟨_, rfl⟩
  rw [← hS] at HS HP
  rw [← hZ] at HZ HP
  rw [← hE] at HP ⊢
  clear hs hz a1 a2 a3 a4 b1 b2 b3 b4 m1 m2 hS hZ hE
  obtain ⟨k, sg, t, m, st, mn, mx, ⟨x1, x2⟩, ⟨y1, y2⟩, ⟨w1, w2⟩, ⟨h1, h2⟩⟩ := x
  unfold Bx.val at HS HZ ⊢
  dsimp only at HS HZ ⊢
  unfold GotFr at HS HZ HP ⊢
  obtain ⟨W1, hW1⟩ : ∃ W1, W1 = w.alloc (.cells #[.func (.func 135) #[] #[], .func (.func 136) #[] #[], .func (.func 172) #[] #[.pointer (some ⟨p, 0, none⟩)]] 100) := ⟨_, rfl⟩
  obtain ⟨W2, hW2⟩ : ∃ W2, W2 = W1.alloc (.cells #[.int .i64 k, .int .i64 sg, .int .i64 t, .bool m, .int .i64 st, .int .i64 mn, .int .i64 mx, .int .i64 x1, .int .i64 x2, .int .i64 y1, .int .i64 y2, .int .i64 w1, .int .i64 w2, .int .i64 h1, .int .i64 h2] 82) := ⟨_, rfl⟩
  obtain ⟨W, hW⟩ : ∃ W, W = W2.alloc (.cells #[.int .i64 0, .int .i64 0] 40) := ⟨_, rfl⟩
  have s1 : W1.heap.size = w.heap.size + 1 := by rw [hW1]; simp
  have s2 : W2.heap.size = w.heap.size + 1 + 1 := by rw [hW2]; simp [s1]
  have s3 : W.heap.size = w.heap.size + 1 + 1 + 1 := by rw [hW]; simp [s2]
  have k1 : Below w.heap.size w W1 := hW1 ▸ below_alloc _ _
  have k2 : Below W1.heap.size W1 W2 := hW2 ▸ below_alloc _ _
  have k3 : Below W2.heap.size W2 W := hW ▸ below_alloc _ _
  have HB := Lib.hid (below_more (below_more k1 k2) k3)
  have D0 := Lib.hid (blk_keep k3 (blk_keep k2 (show W1.heap[w.heap.size]? = some (.cells #[.func (.func 135) #[] #[], .func (.func 136) #[] #[], .func (.func 172) #[] #[.pointer (some ⟨p, 0, none⟩)]] 100 (0, 0)) by rw [hW1]; exact heap_alloc_new _ _)))
  have D1 := Lib.hid (blk_keep k3 (show W2.heap[w.heap.size + 1]? = some (.cells #[.int .i64 k, .int .i64 sg, .int .i64 t, .bool m, .int .i64 st, .int .i64 mn, .int .i64 mx, .int .i64 x1, .int .i64 x2, .int .i64 y1, .int .i64 y2, .int .i64 w1, .int .i64 w2, .int .i64 h1, .int .i64 h2] 82 (0, 0)) by rw [hW2, ← s1]; exact heap_alloc_new _ _))
  have D2 := Lib.hid (show W.heap[w.heap.size + 1 + 1]? = some (.cells #[.int .i64 0, .int .i64 0] 40 (0, 0)) by rw [hW, ← s2]; exact heap_alloc_new _ _)
  have hz0 : w.heap.size < W.heap.size := by omega
  have hz1 : w.heap.size + 1 < W.heap.size := by omega
  clear s1 s2 s3 k1 k2 k3
  have c0 := cell_of_blk D0.out 0
  have c1 := cell_of_blk D0.out 1
  have b0 := cell_of_blk D1.out 0
  have b1 := cell_of_blk D1.out 1
  have b2 := cell_of_blk D1.out 2
  have b3 := cell_of_blk D1.out 3
  have b4 := cell_of_blk D1.out 4
  have b5 := cell_of_blk D1.out 5
  have b6 := cell_of_blk D1.out 6
  have b7 := cell_of_blk D1.out 7
  have b8 := cell_of_blk D1.out 8
  have b9 := cell_of_blk D1.out 9
  have b10 := cell_of_blk D1.out 10
  have b11 := cell_of_blk D1.out 11
  have b12 := cell_of_blk D1.out 12
  have b13 := cell_of_blk D1.out 13
  have b14 := cell_of_blk D1.out 14
  simp at c0 c1 b0 b1 b2 b3 b4 b5 b6 b7 b8 b9 b10 b11 b12 b13 b14
  go_enter Tryz.func133, Tryz.ntmps133
  go_wp2_with fail
  rw [← hW1, ← hW2, ← hW]
  clear hW1 hW2 hW
  refine wp_region_later_tail 9 (by kernel_rfl) (by kernel_rfl) ?_; simp only [List.take_succ_cons, List.take_zero, List.drop_succ_cons, List.drop_zero]; (repeat (first | go_big_quiet_step ((first | ((go_at_call 135; exact Calls.later _ (HS.out _))) | ((go_at_call 136; exact Calls.later _ (HZ.out _))) | ((go_at_call 109; exact Calls.later _ (HP.out _))))) | quiet_step ((first | ((go_at_call 135; exact Calls.later _ (HS.out _))) | ((go_at_call 136; exact Calls.later _ (HZ.out _))) | ((go_at_call 109; exact Calls.later _ (HP.out _))))))); refine wpQuiet_nil ?_; rintro _ ⟨s, rfl⟩
  have HBS := Lib.hid (below_more HB.out s.below)
  have K1 := Lib.hid (blk_keep s.below D2.out)
  obtain ⟨X, hX⟩ : ∃ X, X = s.w := ⟨_, rfl⟩
  rw [← hX] at HBS K1 ⊢
  clear hX s c0 c1 b0 b1 b2 b3 b4 b5 b6 b7 b8 b9 b10 b11 b12 b13 b14 hz0 hz1
  have q0 := cell_of_blk K1.out 0
  have q1 := cell_of_blk K1.out 1
  have f0 := free_of_blk K1.out 0
  have f1 := free_of_blk K1.out 1
  have hs := (Array.getElem?_eq_some_iff.1 K1.out).1
  simp at q0 q1
  go_wp2_with fail
  refine bodyPost_ret (v := .agg #[.int .i64 E.num, .int .i64 E.den]) (by simp [results, Tryz.results133, go_sem, q0, q1]) rfl ⟨rfl, ?_⟩
  exact (HBS.out.setCell (by dsimp only; omega) _).setCell (by dsimp only; omega) _
theorem New2.drew {V wb : World} {g h : Nat} {a b : Fr} (k : New2 V g h a b wb) : New2 V g h a b wb.drew := { k with bel := k.bel.drew, h1 := k.h1.drew, h2 := k.h2.drew }
end Go.Proofs.YtmiokllpdmmfhaaGreat
