/-
  No stretch begins behind the base's end (layer 9).
-/
import Derived.Test.YtcpfhaoecggflaaZVpu
namespace Go.Proofs.Ytcpfhaoecggflaa

theorem next_pl (a b : List Int) (s : Sts) (p : Int × Int) : (s.next a b p).pl = adv p.1 s.pl := by
  unfold Sts.next; split <;> rfl
theorem prs_pl (a b : List Int) : ∀ (n i j : Nat) (s : Sts), s.pl = i → i ≤ a.length → ((prs a b n i j).foldl (Sts.next a b) s).pl ≤ a.length
  | 0, i, j, s, h, hi => by rw [prs]; simp only [List.foldl_nil]; omega
  | n + 1, i, j, s, h, hi => by
    by_cases he : a.length ≤ i ∧ b.length ≤ j
    · rw [prs_end a b _ i j he.1 he.2]; simp only [List.foldl_nil]; omega
    · rw [prs_step a b n i j he, List.foldl_cons]
      have hok := (nxt_ok a b i j (by omega)).2.1
      refine prs_pl a b n _ _ _ (by rw [next_pl, h]) ?_
      unfold adv
      rcases hok with h1 | ⟨h1, h2⟩
      · rw [if_pos h1]; exact hi
      · split <;> omega
theorem strs_end (a b : List Int) : ∀ x ∈ strsQ a b, x.at' < a.length + 1 := fun x hx => by
  have h1 := (sts_inc a b (pairsQ a b) ⟨0, true, []⟩ ⟨List.Pairwise.nil, fun _ h => by cases h⟩).2 x hx
  have h2 := prs_pl a b (a.length + b.length) 0 0 ⟨0, true, []⟩ rfl (Nat.zero_le _)
  have h3 : (List.foldl (Sts.next a b) ⟨0, true, []⟩ (pairsQ a b)).pl ≤ a.length := h2
  split at h1 <;> omega
end Go.Proofs.Ytcpfhaoecggflaa
