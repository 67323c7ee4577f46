/-
  What is said of the fraction of Fisher without the specification (layer 9): no walk.
-/
import Derived.Test.YtcpfhaoecggflaaZFis
import Derived.Test.YtcpfhaoecggflaaZGood
namespace Go.Proofs.Ytcpfhaoecggflaa
open Go.RowKit

theorem bin_sym : ∀ n k, k ≤ n → bin n k = bin n (n - k)
  | n, 0, _ => by rw [bin_zero, Nat.sub_zero, bin_self]
  | 0, k + 1, h => by omega
  | n + 1, k + 1, h => by
    by_cases e : k = n
    · subst e; rw [bin_self, Nat.sub_self, bin_zero]
    · have h1 := bin_sym n k (by omega)
      have h2 := bin_sym n (k + 1) (by omega)
      obtain ⟨j, hj⟩ : ∃ j, n - k = j + 1 := ⟨n - k - 1, by omega⟩
      rw [show n + 1 - (k + 1) = j + 1 by omega]
      rw [hj] at h1
      rw [show n - (k + 1) = j by omega] at h2
      rw [bin, bin, h1, h2]; omega
theorem bin_ratio : ∀ n k, (k + 1) * bin n (k + 1) = (n - k) * bin n k
  | 0, k => by rw [bin_over 0 (k + 1) (by omega)]; simp
  | n + 1, 0 => by
    have h := bin_ratio n 0
    rw [bin_zero] at h ⊢
    rw [bin, bin_zero]; omega
  | n + 1, j + 1 => by
    have h1 := bin_ratio n (j + 1)
    have h2 := bin_ratio n j
    by_cases hj : j ≤ n
    · have e1 : bin (n + 1) (j + 1 + 1) = bin n (j + 1) + bin n (j + 1 + 1) := rfl
      have e2 : bin (n + 1) (j + 1) = bin n j + bin n (j + 1) := rfl
      rw [e1, e2, Nat.mul_add, Nat.mul_add, h1, show n + 1 - (j + 1) = n - j by omega, ← h2]
      rw [← Nat.add_mul, ← Nat.add_mul]
      by_cases hj2 : j = n
      · subst hj2; rw [bin_over j (j + 1) (by omega)]; simp
      · rw [show j + 1 + 1 + (n - (j + 1)) = j + 1 + (n - j) by omega]
    · rw [bin_over (n + 1) (j + 1 + 1) (by omega), bin_over (n + 1) (j + 1) (by omega)]; simp
theorem bin_step (m a j : Nat) (h : j + 1 ≤ a) : bin m (a - (j + 1)) * bin m (a + (j + 1)) ≤ bin m (a - j) * bin m (a + j) := by
  by_cases hm : m < a + (j + 1)
  · rw [bin_over m (a + (j + 1)) hm, Nat.mul_zero]; exact Nat.zero_le _
  · have h1 := bin_ratio m (a + j)
    have h2 := bin_ratio m (a - (j + 1))
    rw [show a - (j + 1) + 1 = a - j by omega] at h2
    rw [show a + j + 1 = a + (j + 1) by omega] at h1
    generalize bin m (a - (j + 1)) = v at *
    generalize bin m (a + (j + 1)) = t at *
    generalize bin m (a - j) = u at *
    generalize bin m (a + j) = s at *
    have k1 : (a + (j + 1)) * (m - (a - (j + 1))) * (v * t) = (m - (a + j)) * (a - j) * (u * s) := by
      calc (a + (j + 1)) * (m - (a - (j + 1))) * (v * t) = ((a + (j + 1)) * t) * ((m - (a - (j + 1))) * v) := by ac_rfl
        _ = ((m - (a + j)) * s) * ((a - j) * u) := by rw [h1, h2]
        _ = (m - (a + j)) * (a - j) * (u * s) := by ac_rfl
    have k2 : (m - (a + j)) * (a - j) ≤ (a + (j + 1)) * (m - (a - (j + 1))) := by
      rw [Nat.mul_comm]
      exact Nat.mul_le_mul (by omega) (by omega)
    have k3 : 0 < (a + (j + 1)) * (m - (a - (j + 1))) := Nat.mul_pos (by omega) (by omega)
    refine Nat.le_of_mul_le_mul_left ?_ k3
    rw [k1]
    exact Nat.mul_le_mul_right _ k2
theorem bin_top (m a : Nat) : ∀ j, j ≤ a → bin m (a - j) * bin m (a + j) ≤ bin m a * bin m a
  | 0, _ => Nat.le_refl _
  | j + 1, h => Nat.le_trans (bin_step m a j h) (bin_top m a j (by omega))
theorem wt_top (m a x : Nat) (h : x ≤ a + a) : wt m m (a + a) x ≤ wt m m (a + a) a := by
  unfold wt
  rw [show a + a - a = a by omega]
  by_cases hx : x ≤ a
  · have := bin_top m a (a - x) (by omega)
    rw [show a - (a - x) = x by omega, show a + (a - x) = a + a - x by omega] at this
    exact this
  · have := bin_top m a (x - a) (by omega)
    rw [show a - (x - a) = a + a - x by omega, show a + (x - a) = x by omega, Nat.mul_comm] at this
    exact this
/-- a sum of k numbers -/
def sm (f : Nat → Nat) (lo : Nat) : Nat → Nat
  | 0 => 0
  | k + 1 => sm f lo k + f (lo + k)
theorem sm_front (f : Nat → Nat) : ∀ (k lo : Nat), sm f lo (k + 1) = f lo + sm f (lo + 1) k
  | 0, lo => by simp [sm]
  | k + 1, lo => by rw [sm, sm_front f k lo, sm, show lo + 1 + k = lo + (k + 1) by omega]; omega
theorem sm_rev (f g : Nat → Nat) : ∀ (N lo lo' : Nat), (∀ i, i < N → f (lo + i) = g (lo' + (N - 1 - i))) → sm f lo N = sm g lo' N
  | 0, _, _, _ => rfl
  | N + 1, lo, lo', h => by
    rw [sm_front g N lo', sm, h N (by omega), show lo' + (N + 1 - 1 - N) = lo' by omega, sm_rev f g N lo (lo' + 1) (fun i hi => by
      rw [h i (by omega), show lo' + (N + 1 - 1 - i) = lo' + 1 + (N - 1 - i) by omega])]
    omega
theorem allW_sm (m n r lo : Nat) : ∀ k, allW m n r lo k = sm (wt m n r) lo k
  | 0 => rfl
  | k + 1 => by rw [allW, sm, allW_sm m n r lo k]
def cut (o x : Nat) : Nat := if x ≤ o then x else 0
theorem someW_sm (m n r own lo : Nat) : ∀ k, someW m n r own lo k = sm (fun x => cut own (wt m n r x)) lo k
  | 0 => rfl
  | k + 1 => by rw [someW, sm, someW_sm m n r own lo k]; rfl
theorem some_all (m n r own lo : Nat) : ∀ k, (∀ i, i < k → wt m n r (lo + i) ≤ own) → someW m n r own lo k = allW m n r lo k
  | 0, _ => rfl
  | k + 1, h => by rw [someW, allW, some_all m n r own lo k (fun i hi => h i (by omega)), if_pos (h k (by omega))]
/-- the two copies exchanged -/
theorem fishN_copies (m n r a : Nat) (ha : a ≤ r) (hr : r ≤ m + n) : fishN m n r a = fishN n m r (r - a) := by
  have hw : ∀ x, x ≤ r → wt m n r x = wt n m r (r - x) := fun x hx => by
    unfold wt; rw [show r - (r - x) = x by omega, Nat.mul_comm]
  have hN : min r m + 1 - (r - n) = min r n + 1 - (r - m) := by omega
  unfold fishN
  rw [← hw a ha, hN]
  congr 1
  · rw [someW_sm, someW_sm]
    exact sm_rev _ _ _ _ _ fun i hi => by
      rw [hw (r - n + i) (by omega), show r - (r - n + i) = r - m + (min r n + 1 - (r - m) - 1 - i) by omega]
  · rw [allW_sm, allW_sm]
    exact sm_rev _ _ _ _ _ fun i hi => by
      rw [hw (r - n + i) (by omega), show r - (r - n + i) = r - m + (min r n + 1 - (r - m) - 1 - i) by omega]
/-- the two variants exchanged -/
theorem fishN_variants (m n r a : Nat) (ha : a ≤ m) (har : a ≤ r) (hra : r - a ≤ n) (hr : r ≤ m + n) : fishN m n r a = fishN m n (m + n - r) (m - a) := by
  have hw : ∀ x, x ≤ m → x ≤ r → r - x ≤ n → wt m n r x = wt m n (m + n - r) (m - x) := fun x h1 h2 h3 => by
    unfold wt
    rw [bin_sym m x h1, bin_sym n (r - x) h3, show n - (r - x) = m + n - r - (m - x) by omega]
  have hN : min r m + 1 - (r - n) = min (m + n - r) m + 1 - (m + n - r - n) := by omega
  unfold fishN
  rw [← hw a ha har hra, hN]
  congr 1
  · rw [someW_sm, someW_sm]
    exact sm_rev _ _ _ _ _ fun i hi => by
      rw [hw (r - n + i) (by omega) (by omega) (by omega), show m - (r - n + i) = m + n - r - n + (min (m + n - r) m + 1 - (m + n - r - n) - 1 - i) by omega]
  · rw [allW_sm, allW_sm]
    exact sm_rev _ _ _ _ _ fun i hi => by
      rw [hw (r - n + i) (by omega) (by omega) (by omega), show m - (r - n + i) = m + n - r - n + (min (m + n - r) m + 1 - (m + n - r - n) - 1 - i) by omega]
/-- all weights are at most one's own -/
theorem fishN_one (m n r a : Nat) (h : (r - n = a ∧ min r m = a) ∨ (m = n ∧ r = a + a)) : (fishN m n r a).1 = (fishN m n r a).2 := by
  unfold fishN
  dsimp only
  refine some_all m n r _ _ _ fun i hi => ?_
  rcases h with ⟨h1, h2⟩ | ⟨rfl, rfl⟩
  · rw [show r - n + i = a by omega]; exact Nat.le_refl _
  · exact wt_top m a _ (by omega)

/-- the fraction of two sums in lowest terms -/
def fishV (x : Nat × Nat) : (Int × Int) × Int := ((((x.1 / Nat.gcd x.1 x.2 : Nat) : Int), ((x.2 / Nat.gcd x.1 x.2 : Nat) : Int)), 0)
theorem fishQ_nat (p q s t : Nat) (h : p + q + s + t ≤ 60) : fishQ p q s t = fishV (fishN (p + q) (s + t) (p + s) p) := by
  have ht : tallyB p q s t = true := by rw [good_is, decide_eq_true_eq]; omega
  unfold fishQ
  rw [if_pos ht]
  rfl
theorem fishQ_not {a b c d : Int} (h : tallyB a b c d = false) : fishQ a b c d = ((0, 0), 80) ∧ fishQ c d a b = ((0, 0), 80) ∧ fishQ b a d c = ((0, 0), 80) := by
  have hn := tally_out h
  have h2 : tallyB c d a b = false := by rw [good_is, decide_eq_false_iff_not]; omega
  have h3 : tallyB b a d c = false := by rw [good_is, decide_eq_false_iff_not]; omega
  refine ⟨?_, ?_, ?_⟩
  · unfold fishQ; rw [h]; rfl
  · unfold fishQ; rw [h2]; rfl
  · unfold fishQ; rw [h3]; rfl
/-- what the law asks of the fraction -/
structure FishOk (p q s t : Nat) (x y : Nat) : Prop where
  one : fishQ p q s t = (((x : Int), (y : Int)), 0)
  two : fishQ s t p q = (((x : Int), (y : Int)), 0)
  three : fishQ q p t s = (((x : Int), (y : Int)), 0)
  pos : 1 ≤ x
  le : x ≤ y
  big : y ≤ 1152921504606846976
  low : Nat.gcd x y = 1
  whole : (p + s = 0 ∨ q + t = 0 ∨ p + q = 0 ∨ s + t = 0 ∨ (p = s ∧ q = t)) → y = 1
theorem fish_ok (p q s t : Nat) (h : p + q + s + t ≤ 60) : ∃ x y, FishOk p q s t x y := by
  obtain ⟨⟨S, T⟩, hX⟩ : ∃ X, X = fishN (p + q) (s + t) (p + s) p := ⟨_, rfl⟩
  have hin := fishN_in (m := p + q) (n := s + t) (r := p + s) (a := p) (by omega) (by omega) (by omega) (by omega)
  rw [← hX] at hin
  have hle : S ≤ T := by
    have h1 : S = (fishN (p + q) (s + t) (p + s) p).1 := by rw [← hX]
    have h2 : T = (fishN (p + q) (s + t) (p + s) p).2 := by rw [← hX]
    rw [h1, h2]
    exact someW_le _ _ _ _ _ _
  have e1 := fishQ_nat p q s t h
  have e2 := fishQ_nat s t p q (by omega)
  have e3 := fishQ_nat q p t s (by omega)
  have f2 := fishN_copies (p + q) (s + t) (p + s) p (by omega) (by omega)
  have f3 := fishN_variants (p + q) (s + t) (p + s) p (by omega) (by omega) (by omega) (by omega)
  rw [show p + s - p = s by omega] at f2
  rw [show p + q + (s + t) - (p + s) = q + t by omega, show p + q - p = q by omega] at f3
  rw [show s + p = p + s by omega, ← f2, ← hX] at e2
  rw [show q + p = p + q by omega, show t + s = s + t by omega, ← f3, ← hX] at e3
  rw [← hX] at e1
  obtain ⟨hS, hS2, hT⟩ := hin
  dsimp only at hS hS2 hT
  have hg : 0 < Nat.gcd S T := Nat.gcd_pos_of_pos_left _ hS
  refine ⟨S / Nat.gcd S T, T / Nat.gcd S T, e1, e2, e3, ?_, Nat.div_le_div_right hle, Nat.le_trans (Nat.div_le_self _ _) hT, Nat.coprime_div_gcd_div_gcd hg, fun ho => ?_⟩
  · exact Nat.div_pos (Nat.gcd_le_left _ hS) hg
  · have h1 := fishN_one (p + q) (s + t) (p + s) p (by omega)
    rw [← hX] at h1
    have h1 : S = T := h1
    subst h1
    rw [Nat.gcd_self]
    exact Nat.div_self hS

end Go.Proofs.Ytcpfhaoecggflaa
