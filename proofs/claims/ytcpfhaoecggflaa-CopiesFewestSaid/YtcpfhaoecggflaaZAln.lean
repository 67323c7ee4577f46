/-
  Alignments of two lines and the stretches in which they do not agree (layer 9): no program is imported here.
-/
namespace Go.Proofs.Ytcpfhaoecggflaa
/-- the cost of two rests whose first places are paired, by what the rests behind them cost -/
def bth (x y c : Int) : Int := if x = y then c else c + 3
def cstRow (x : Int) (xs : List Int) (f : List Int → Int) : List Int → Int
  | [] => 2 * ((xs.length : Int) + 1)
  | y :: ys => min (min (bth x y (f ys)) (f (y :: ys) + 2)) (cstRow x xs f ys + 2)
/-- the least cost of aligning two lines -/
def cst : List Int → List Int → Int
  | [], b => 2 * (b.length : Int)
  | x :: xs, b => cstRow x xs (cst xs) b
theorem cst_nil (b : List Int) : cst [] b = 2 * (b.length : Int) := rfl
theorem cst_right : ∀ a : List Int, cst a [] = 2 * (a.length : Int)
  | [] => rfl
  | x :: xs => by simp [cst, cstRow]
theorem cst_cons (x y : Int) (xs ys : List Int) : cst (x :: xs) (y :: ys) = min (min (bth x y (cst xs ys)) (cst xs (y :: ys) + 2)) (cst (x :: xs) ys + 2) := rfl
theorem cst_bd : ∀ a b : List Int, 0 ≤ cst a b ∧ cst a b ≤ 2 * ((a.length : Int) + b.length)
  | [], b => by rw [cst_nil]; simp; omega
  | x :: xs, [] => by rw [cst_right]; simp; omega
  | x :: xs, y :: ys => by
    rw [cst_cons]
    have h1 := cst_bd xs ys
    have h2 := cst_bd xs (y :: ys)
    have h3 := cst_bd (x :: xs) ys
    simp only [List.length_cons] at h1 h2 h3 ⊢
    unfold bth
    split <;> omega
/-- which pair comes first: 0 both, 1 the left one alone, 2 the right one alone -/
def stp : List Int → List Int → Nat
  | x :: xs, y :: ys => if bth x y (cst xs ys) = cst (x :: xs) (y :: ys) then 0 else if cst xs (y :: ys) + 2 = cst (x :: xs) (y :: ys) then 1 else 2
  | _ :: _, [] => 1
  | [], _ => 2
/-- the pairs from two places on -/
def prs (a b : List Int) : Nat → Nat → Nat → List (Int × Int)
  | 0, _, _ => []
  | n + 1, i, j =>
    if a.length ≤ i ∧ b.length ≤ j then []
    else match stp (a.drop i) (b.drop j) with
      | 0 => ((i : Int), (j : Int)) :: prs a b n (i + 1) (j + 1)
      | 1 => ((i : Int), -1) :: prs a b n (i + 1) j
      | _ => (-1, (j : Int)) :: prs a b n i (j + 1)
def pairsQ (a b : List Int) : List (Int × Int) := prs a b (a.length + b.length) 0 0
theorem prs_end (a b : List Int) (n i j : Nat) (hi : a.length ≤ i) (hj : b.length ≤ j) : prs a b n i j = [] := by
  cases n with
  | zero => rfl
  | succ n => rw [prs, if_pos ⟨hi, hj⟩]
/-- what a pair is -/
def okP (la lb : Nat) (p : Int × Int) : Prop := (p.1 = -1 ∨ (0 ≤ p.1 ∧ p.1 < la)) ∧ (p.2 = -1 ∨ (0 ≤ p.2 ∧ p.2 < lb)) ∧ ¬ (p.1 = -1 ∧ p.2 = -1)
theorem drop_lt {l : List Int} {i : Nat} (h : i < l.length) : l.drop i = l[i] :: l.drop (i + 1) := List.drop_eq_getElem_cons h
/-- the pair that comes first of the rests from two places on -/
def nxt (a b : List Int) (i j : Nat) : Int × Int :=
  match stp (a.drop i) (b.drop j) with
  | 0 => ((i : Int), (j : Int))
  | 1 => ((i : Int), -1)
  | _ => (-1, (j : Int))
theorem nxt_both (a b : List Int) (i j : Nat) (h1 : i < a.length) (h2 : j < b.length) (h : bth a[i] b[j] (cst (a.drop (i + 1)) (b.drop (j + 1))) = cst (a.drop i) (b.drop j)) : nxt a b i j = ((i : Int), (j : Int)) := by
  unfold nxt
  rw [drop_lt h1, drop_lt h2] at h ⊢
  rw [stp, if_pos h]; rfl
theorem nxt_left (a b : List Int) (i j : Nat) (h1 : i < a.length) (h0 : ∀ h2 : j < b.length, ¬ bth a[i] b[j] (cst (a.drop (i + 1)) (b.drop (j + 1))) = cst (a.drop i) (b.drop j)) (h : cst (a.drop (i + 1)) (b.drop j) + 2 = cst (a.drop i) (b.drop j)) : nxt a b i j = ((i : Int), -1) := by
  unfold nxt
  by_cases h2 : j < b.length
  · have h0 := h0 h2
    rw [drop_lt h1, drop_lt h2] at h h0 ⊢
    rw [stp, if_neg h0, if_pos h]; rfl
  · rw [List.drop_eq_nil_of_le (show b.length ≤ j by omega), drop_lt h1]
    rfl
theorem nxt_none (a b : List Int) (i j : Nat) (h1 : a.length ≤ i) : nxt a b i j = (-1, (j : Int)) := by
  unfold nxt
  rw [List.drop_eq_nil_of_le h1]
  cases hh : b.drop j <;> rfl
theorem nxt_right (a b : List Int) (i j : Nat) (h1 : i < a.length) (h0 : ∀ h2 : j < b.length, ¬ bth a[i] b[j] (cst (a.drop (i + 1)) (b.drop (j + 1))) = cst (a.drop i) (b.drop j)) (h : ¬ cst (a.drop (i + 1)) (b.drop j) + 2 = cst (a.drop i) (b.drop j)) : nxt a b i j = (-1, (j : Int)) ∧ j < b.length := by
  have h2 : j < b.length := by
    refine Classical.byContradiction fun hn => h ?_
    rw [List.drop_eq_nil_of_le (show b.length ≤ j by omega), cst_right, cst_right]
    simp; omega
  refine ⟨?_, h2⟩
  unfold nxt
  have h0 := h0 h2
  rw [drop_lt h1, drop_lt h2] at h h0 ⊢
  rw [stp, if_neg h0, if_neg h]; rfl
/-- how far a pair goes -/
def adv (p : Int) (i : Nat) : Nat := if p = -1 then i else i + 1
theorem prs_step (a b : List Int) (n i j : Nat) (h : ¬ (a.length ≤ i ∧ b.length ≤ j)) : prs a b (n + 1) i j = nxt a b i j :: prs a b n (adv (nxt a b i j).1 i) (adv (nxt a b i j).2 j) := by
  have e1 : ¬ ((i : Int) = -1) := by omega
  have e2 : ¬ ((j : Int) = -1) := by omega
  rw [prs, if_neg h]
  unfold nxt adv
  split <;> simp [*]
/-- the pair that comes first is one of both lines -/
theorem nxt_ok (a b : List Int) (i j : Nat) (h : i < a.length ∨ j < b.length) : okP a.length b.length (nxt a b i j) ∧ ((nxt a b i j).1 = -1 ∨ ((nxt a b i j).1 = i ∧ i < a.length)) ∧ ((nxt a b i j).2 = -1 ∨ ((nxt a b i j).2 = j ∧ j < b.length)) := by
  unfold okP
  by_cases h1 : i < a.length
  · by_cases h0 : ∃ h2 : j < b.length, bth a[i] b[j] (cst (a.drop (i + 1)) (b.drop (j + 1))) = cst (a.drop i) (b.drop j)
    · obtain ⟨h2, h0⟩ := h0
      rw [nxt_both a b i j h1 h2 h0]
      refine ⟨⟨.inr ⟨?_, ?_⟩, .inr ⟨?_, ?_⟩, ?_⟩, .inr ⟨rfl, h1⟩, .inr ⟨rfl, h2⟩⟩ <;> (try dsimp only) <;> omega
    · have h0 : ∀ h2 : j < b.length, ¬ bth a[i] b[j] (cst (a.drop (i + 1)) (b.drop (j + 1))) = cst (a.drop i) (b.drop j) := fun h2 e => h0 ⟨h2, e⟩
      by_cases h3 : cst (a.drop (i + 1)) (b.drop j) + 2 = cst (a.drop i) (b.drop j)
      · rw [nxt_left a b i j h1 h0 h3]
        refine ⟨⟨.inr ⟨?_, ?_⟩, .inl rfl, ?_⟩, .inr ⟨rfl, h1⟩, .inl rfl⟩ <;> (try dsimp only) <;> omega
      · obtain ⟨e, h2⟩ := nxt_right a b i j h1 h0 h3
        rw [e]
        refine ⟨⟨.inl rfl, .inr ⟨?_, ?_⟩, ?_⟩, .inl rfl, .inr ⟨rfl, h2⟩⟩ <;> (try dsimp only) <;> omega
  · rw [nxt_none a b i j (by omega)]
    refine ⟨⟨.inl rfl, .inr ⟨?_, ?_⟩, ?_⟩, .inl rfl, .inr ⟨rfl, ?_⟩⟩ <;> (try dsimp only) <;> omega
theorem prs_ok (a b : List Int) : ∀ n i j, ∀ p ∈ prs a b n i j, okP a.length b.length p
  | 0, _, _, p, hp => by cases hp
  | n + 1, i, j, p, hp => by
    by_cases h : a.length ≤ i ∧ b.length ≤ j
    · rw [prs, if_pos h] at hp; cases hp
    · rw [prs_step a b n i j h] at hp
      rcases List.mem_cons.1 hp with rfl | hp
      · exact (nxt_ok a b i j (by omega)).1
      · exact prs_ok a b n _ _ p hp
theorem prs_len (a b : List Int) : ∀ n i j, (prs a b n i j).length ≤ n
  | 0, _, _ => Nat.le_refl _
  | n + 1, i, j => by
    by_cases h : a.length ≤ i ∧ b.length ≤ j
    · rw [prs, if_pos h]; simp
    · rw [prs_step a b n i j h, List.length_cons]
      have := prs_len a b n (adv (nxt a b i j).1 i) (adv (nxt a b i j).2 j)
      omega
/-- a stretch in which two lines do not agree -/
structure St where
  at' : Nat
  ext : Nat
  sg : List Int
/-- whether a pair agrees -/
def agr (a b : List Int) (p : Int × Int) : Bool := !(p.1 == -1) && !(p.2 == -1) && (a.getD p.1.toNat 0 == b.getD p.2.toNat 0)
/-- a pair added to a stretch -/
def St.add (b : List Int) (s : St) (p : Int × Int) : St := ⟨s.at', if p.1 = -1 then s.ext else s.ext + 1, if p.2 = -1 then s.sg else s.sg ++ [b.getD p.2.toNat 0]⟩
/-- the last one changed -/
def lastF (f : St → St) : List St → List St
  | [] => []
  | [s] => [f s]
  | s :: r => s :: lastF f r
theorem lastF_snoc (f : St → St) : ∀ (l : List St) (s : St), lastF f (l ++ [s]) = l ++ [f s]
  | [], s => rfl
  | [x], s => rfl
  | x :: y :: l, s => by
    have := lastF_snoc f (y :: l) s
    simp only [List.cons_append] at this ⊢
    rw [lastF, this]
    simp
/-- how far the stretches are found -/
structure Sts where
  pl : Nat
  ag : Bool
  all : List St
def Sts.next (a b : List Int) (s : Sts) (p : Int × Int) : Sts :=
  if agr a b p then ⟨adv p.1 s.pl, true, s.all⟩
  else ⟨adv p.1 s.pl, false, if s.ag then s.all ++ [St.add b ⟨s.pl, 0, []⟩ p] else lastF (St.add b · p) s.all⟩
def stsL (a b : List Int) (ps : List (Int × Int)) : Sts := ps.foldl (Sts.next a b) ⟨0, true, []⟩
def strsQ (a b : List Int) : List St := (stsL a b (pairsQ a b)).all
theorem stsL_snoc (a b : List Int) (ps : List (Int × Int)) (p : Int × Int) : stsL a b (ps ++ [p]) = (stsL a b ps).next a b p := by
  unfold stsL; rw [List.foldl_append]; rfl
end Go.Proofs.Ytcpfhaoecggflaa
