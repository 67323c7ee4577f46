/-
  What the law on texts made twice needs: the rings' bounds; a flat text is read alike. And what builds on it.
-/
import Derived.Test.YtilagndfohnjnaaPkP
import Derived.Test.YtilagndfohnjnaaPkK
import Derived.Test.YtilagndfohnjnaaPkL
import Derived.Test.YtilagndfohnjnaaPkH

/- What the law on texts made twice needs: the rings' bounds; a flat text is read alike. -/
namespace Go.Proofs.Ytilagndfohnjnaa
open Go.RowKit

theorem ringsP_bd : ∀ (G : List (List Nd)) (a : Nat) (p : Nat × Nat), p ∈ ringsP a G → p.1 ≤ p.2 ∧ p.2 ≤ a + (G.map fun x => (leavesL x).length).sum
  | [], _, _, h => by cases h
  | g :: r, a, p, h => by
    rw [ringsP] at h
    rw [List.map_cons, List.sum_cons]
    rcases List.mem_append.1 h with h | h
    · split at h
      · rw [List.mem_singleton] at h; subst h; dsimp only; omega
      · cases h
    · have := ringsP_bd r _ p h
      omega
theorem leaves_sum {l : Li} : ∀ (G : List (List Nd)), (∀ g ∈ G, GV l g) → (G.map fun x => (leavesL x).length).sum ≤ G.flatten.length
  | [], _ => Nat.le_refl _
  | g :: r, h => by
    have h1 : (leavesL g).length ≤ g.length := by
      rw [(leaves_all (h g (List.mem_cons_self ..))).length_eq]; exact List.length_filter_le _ _
    have h2 := leaves_sum r (fun x hx => h x (List.mem_cons_of_mem _ hx))
    rw [List.map_cons, List.sum_cons, List.flatten_cons, List.length_append]; omega
theorem rings_bd {l : Li} {ns : List Nd} (h : textErr l ns = 0) : ∀ p ∈ ringsR ns, p.1 ≤ p.2 ∧ p.2 ≤ 200 := by
  obtain ⟨_, h2, h3⟩ := valid_parts h
  have hs := leaves_sum (l := l) (partsN ns) h3
  rw [partsN_all] at hs
  intro p hp
  rw [rings_is h] at hp
  have := ringsP_bd _ _ p hp
  omega
theorem ring_valid {l : Li} {ns : List Nd} (h : textErr l ns = 0) : ringQ l ns = (ringsR ns, 0) := by
  unfold ringQ; rw [if_neg (by omega)]
theorem flat_alike {l : Li} {ns : List Nd} (h : textErr l ns = 0) (hs : ∀ p ∈ ringsR ns, p.2 - p.1 ≤ 6) : alikeQ l ns ((partsN ns).flatMap flatGs).flatten = (true, 0) := by
  unfold alikeQ
  rw [if_neg (by omega), if_neg (by rw [flat_valid h]; simp), flat_line h, flat_rings h hs, eqUp_refl mkEq mkEq_refl, eqUp_refl rgEq (fun p => by simp [rgEq])]
  rfl
theorem mirror_valid2 {l : Li} {ns : List Nd} (h : textErr l ns = 0) : mirrorQ l ns = (ns.map (flipN l), 0) := by
  unfold mirrorQ; rw [if_neg (by omega)]
theorem mirror_back {l : Li} {ns : List Nd} (h : textErr l ns = 0) : mirrorQ l (ns.map (flipN l)) = (ns, 0) := by
  rw [mirror_valid2 (mirror_valid h), mirror_twice]

end Go.Proofs.Ytilagndfohnjnaa
