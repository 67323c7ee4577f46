/-
  Contract of the law of Less: it returns true.
-/
import Derived.Test.YtedknhneepmgfaaWk4
namespace Go.Proofs.Ytedknhneepmgfaa
open Go.RowKit

/-- of two fractions in lowest terms whose products across are equal both are equal -/
theorem low_eq {n d p q : Int} (h1 : validB n d = true) (h2 : validB p q = true) (h : n * q = p * d) : n = p ∧ d = q := by
  have v1 := valid_in h1
  have v2 := valid_in h2
  have red : ∀ {a b : Int}, validB a b = true → 1 ≤ b → Nat.gcd a.natAbs b.natAbs = 1 := fun {a b} hv hb => by
    unfold validB at hv
    simp only [Bool.and_eq_true, beq_iff_eq] at hv
    obtain ⟨-, -, hd⟩ := hv
    have hg := gcdR_pos (n := a) (show 0 < b by omega)
    have hdv : Nat.gcd a.natAbs b.natAbs ∣ b.natAbs := Nat.gcd_dvd_right _ _
    have e : b = b / ((gcdR a b : Nat) : Int) := by
      have : (fracR a b).den = b / ((gcdR a b : Nat) : Int) := by show b.tdiv _ = _; exact Int.tdiv_eq_ediv_of_nonneg (by omega)
      rw [← this]; exact hd
    have e2 : b.natAbs = b.natAbs / gcdR a b := by
      obtain ⟨bn, rfl⟩ : ∃ bn : Nat, b = bn := ⟨b.toNat, by omega⟩
      rw [Int.natAbs_natCast]
      have : ((bn : Nat) : Int) = ((bn / gcdR a (bn : Int) : Nat) : Int) := by rw [Int.natCast_ediv]; exact e
      exact Int.ofNat.inj this
    unfold gcdR at e2 hg
    obtain ⟨k, hk⟩ := hdv
    have hb0 : 0 < b.natAbs := by omega
    generalize hG : Nat.gcd a.natAbs b.natAbs = G at *
    have hkk : b.natAbs / G = k := by rw [hk]; exact Nat.mul_div_cancel_left k hg
    rw [hkk] at e2
    rw [e2] at hk
    have hk0 : 0 < k := by omega
    have : 1 * k = G * k := by rw [Nat.one_mul]; exact hk
    exact (Nat.eq_of_mul_eq_mul_right hk0 this).symm
  have c1 := red h1 (by omega)
  have c2 := red h2 (by omega)
  have ha : n.natAbs * q.natAbs = p.natAbs * d.natAbs := by rw [← Int.natAbs_mul, ← Int.natAbs_mul, h]
  have d1 : d.natAbs ∣ q.natAbs := by
    have hd : d.natAbs ∣ n.natAbs * q.natAbs := ⟨p.natAbs, by rw [ha, Nat.mul_comm]⟩
    exact (Nat.Coprime.dvd_of_dvd_mul_left (by rw [Nat.coprime_comm]; exact c1 : Nat.Coprime d.natAbs n.natAbs) hd)
  have d2 : q.natAbs ∣ d.natAbs := by
    have hd : q.natAbs ∣ p.natAbs * d.natAbs := ⟨n.natAbs, by rw [← ha, Nat.mul_comm]⟩
    exact (Nat.Coprime.dvd_of_dvd_mul_left (by rw [Nat.coprime_comm]; exact c2 : Nat.Coprime q.natAbs p.natAbs) hd)
  have e : d.natAbs = q.natAbs := Nat.dvd_antisymm d1 d2
  have e3 : d = q := by omega
  refine ⟨?_, e3⟩
  rw [e3] at h
  exact Int.eq_of_mul_eq_mul_right (by omega) h

set_option maxRecDepth 100000 in
set_option maxHeartbeats 16000000 in
theorem law_gless (n d p q : Int) (w : World) : Calls Try.prog 3 #[.agg #[.int .i64 n, .int .i64 d], .agg #[.int .i64 p, .int .i64 q]] w fun e w' => e = .returned (.bool true) ∧ Below w.heap.size w w' := by
  obtain ⟨W, hW⟩ : ∃ W, W = (w.alloc (.cells #[.int .i64 n, .int .i64 d] 23)).alloc (.cells #[.int .i64 p, .int .i64 q] 23) := ⟨_, rfl⟩
  have HB := Lib.hid (show Below w.heap.size w W from hW ▸ two_under _ _ _)
  have D0 := Lib.hid (show W.heap[w.heap.size]? = some (.cells #[.int .i64 n, .int .i64 d] 23 (0, 0)) by rw [hW, heap_alloc_other _ _ _ (by simp)]; exact heap_alloc_new _ _)
  have D1 := Lib.hid (show W.heap[w.heap.size + 1]? = some (.cells #[.int .i64 p, .int .i64 q] 23 (0, 0)) by rw [hW]; have := heap_alloc_new (w.alloc (.cells #[.int .i64 n, .int .i64 d] 23)) (.cells #[.int .i64 p, .int .i64 q] 23); simpa using this)
  obtain ⟨⟨X, E⟩, hX⟩ : ∃ r, r = lessQ n d p q := ⟨_, rfl⟩
  obtain ⟨⟨Z, G⟩, hZ⟩ : ∃ r, r = lessQ p q n d := ⟨_, rfl⟩
  have HL1 := Lib.hid (fun wx => show Calls Try.prog 4 #[.agg #[.int .i64 n, .int .i64 d], .agg #[.int .i64 p, .int .i64 q]] wx (fun e w' => e = .returned (.tuple #[.bool X, .int .i64 E]) ∧ Below wx.heap.size wx w') by
    have := less_any n d p q wx; unfold GotBI at this; rw [← hX] at this; exact this)
  have HL2 := Lib.hid (fun wx => show Calls Try.prog 5 #[.agg #[.int .i64 n, .int .i64 d], .agg #[.int .i64 p, .int .i64 q]] wx (fun e w' => e = .returned (.tuple #[.bool X, .int .i64 E]) ∧ Below wx.heap.size wx w') by
    have := rless2_any n d p q wx; unfold GotBI at this; rw [← hX] at this; exact this)
  have HL3 := Lib.hid (fun wx => show Calls Try.prog 4 #[.agg #[.int .i64 p, .int .i64 q], .agg #[.int .i64 n, .int .i64 d]] wx (fun e w' => e = .returned (.tuple #[.bool Z, .int .i64 G]) ∧ Below wx.heap.size wx w') by
    have := less_any p q n d wx; unfold GotBI at this; rw [← hZ] at this; exact this)
  have HC : (X = false ∧ E = 1) ∨ (E = 0 ∧ G = 0 ∧ ((X = true ∧ Z = false) ∨ (X = false ∧ Z = true) ∨ (X = false ∧ Z = false ∧ n = p ∧ d = q))) := by
    unfold lessQ at hX hZ
    by_cases hv : validB n d = true
    case neg => left; rw [if_neg (by simp [hv])] at hX; injection hX with a b; exact ⟨a, b⟩
    by_cases hu : validB p q = true
    case neg => left; rw [if_neg (by simp [hu])] at hX; injection hX with a b; exact ⟨a, b⟩
    right
    rw [if_pos (by simp [hv, hu])] at hX hZ
    injection hX with a b
    injection hZ with a2 b2
    refine ⟨b, b2, ?_⟩
    rcases Int.lt_trichotomy (n * q) (p * d) with h | h | h
    · left; exact ⟨by rw [a]; simpa using h, by rw [a2]; simp; omega⟩
    · right; right; exact ⟨by rw [a]; simp; omega, by rw [a2]; simp; omega, low_eq hv hu h⟩
    · right; left; exact ⟨by rw [a]; simp; omega, by rw [a2]; simpa using h⟩
  have HWK := Lib.hid works4_any
  clear hX hZ
  go_enter Try.func3, Try.ntmps3
  go_wp2_with fail
  rw [← hW]
  clear hW
  have x0 := cell_of_blk D0.out 0
  have x1 := cell_of_blk D0.out 1
  have y0 := cell_of_blk D1.out 0
  have y1 := cell_of_blk D1.out 1
  have hx := (Array.getElem?_eq_some_iff.1 D0.out).1
  have hy := (Array.getElem?_eq_some_iff.1 D1.out).1
  simp at x0 x1 y0 y1
  go_wp2_with fail
  refine (HL1.out _).mono ?_; rintro e w1 ⟨rfl, hb⟩
  have HB1 := Lib.hid (below_more HB.out hb)
  have D0 := Lib.hid (blk_keep hb D0.out)
  have D1 := Lib.hid (blk_keep hb D1.out)
  clear hb x0 x1 y0 y1 hx hy
  have x0 := cell_of_blk D0.out 0
  have x1 := cell_of_blk D0.out 1
  have y0 := cell_of_blk D1.out 0
  have y1 := cell_of_blk D1.out 1
  have hx := (Array.getElem?_eq_some_iff.1 D0.out).1
  have hy := (Array.getElem?_eq_some_iff.1 D1.out).1
  simp at x0 x1 y0 y1
  go_wp2_with fail
  refine (HL2.out _).mono ?_; rintro e w2 ⟨rfl, hb⟩
  have HB2 := Lib.hid (below_more HB1.out hb)
  have D0 := Lib.hid (blk_keep hb D0.out)
  have D1 := Lib.hid (blk_keep hb D1.out)
  clear hb x0 x1 y0 y1 hx hy
  have x0 := cell_of_blk D0.out 0
  have x1 := cell_of_blk D0.out 1
  have y0 := cell_of_blk D1.out 0
  have y1 := cell_of_blk D1.out 1
  have hx := (Array.getElem?_eq_some_iff.1 D0.out).1
  have hy := (Array.getElem?_eq_some_iff.1 D1.out).1
  simp at x0 x1 y0 y1
  have hxx : (X != X) = false := by cases X <;> rfl
  have hee : (E != E) = false := by simp
  go_wp2_with fail
  refine (HL3.out _).mono ?_; rintro e w3 ⟨rfl, hb⟩
  have HB3 := Lib.hid (below_more HB2.out hb)
  have D0 := Lib.hid (blk_keep hb D0.out)
  have D1 := Lib.hid (blk_keep hb D1.out)
  clear hb x0 x1 y0 y1 hx hy hxx hee
  have x0 := cell_of_blk D0.out 0
  have x1 := cell_of_blk D0.out 1
  have y0 := cell_of_blk D1.out 0
  have y1 := cell_of_blk D1.out 1
  have hx := (Array.getElem?_eq_some_iff.1 D0.out).1
  have hy := (Array.getElem?_eq_some_iff.1 D1.out).1
  simp at x0 x1 y0 y1
  have hne := fun wx => neFr n d p q wx
  rcases HC with ⟨rfl, rfl⟩ | ⟨rfl, rfl, ⟨rfl, rfl⟩ | ⟨rfl, rfl⟩ | ⟨rfl, rfl, rfl, rfl⟩⟩
  all_goals (
    go_wp2_with fail
    refine (HWK.out _).mono ?_; rintro e w4 ⟨rfl, hb4⟩
    go_wp2_with fail
    go_ret
    exact ⟨rfl, below_more HB3.out hb4⟩)

end Go.Proofs.Ytedknhneepmgfaa
