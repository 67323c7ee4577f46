/-
  A valid text can be read: its groups have the kids that they have in the text.
-/
import Derived.Test.YtbfedahonfjpfaaGTxt
namespace Go.Proofs.Ytbfedahonfjpfaa

theorem spanN_drop (ns : List Nd) (d : Int) (q i : Nat) : spanN (ns.drop q) d i = spanN ns d (q + i) := by
  unfold spanN; rw [List.drop_drop, Nat.add_assoc]
theorem kidB_drop (ns : List Nd) (d : Int) (q j : Nat) : kidB (ns.drop q) d j = kidB ns d (q + j) := by
  unfold kidB; rw [List.getElem?_drop]
theorem kidsL_drop (ns : List Nd) (q i : Nat) : kidsL ns (q + i) = (kidsL (ns.drop q) i).map (fun j => q + j) := by
  unfold kidsL
  rw [List.getElem?_drop]
  cases h : ns[q + i]? with
  | none => rfl
  | some u =>
    dsimp only
    rw [spanN_drop, List.filter_congr (q := fun j => kidB ns u.depth (q + j)) (fun j _ => kidB_drop ns u.depth q j)]
    rw [show q + i + 1 = q + (i + 1) by omega, ← List.map_add_range', List.filter_map]
    rfl
theorem takeWhile_take {α : Type} (p : α → Bool) : ∀ (l : List α) (n : Nat), (l.takeWhile p).length ≤ n → (l.take n).takeWhile p = l.takeWhile p
  | [], n, _ => by simp
  | x :: l, 0, h => by
    cases hp : p x with
    | false => simp [hp]
    | true => simp [hp] at h
  | x :: l, n + 1, h => by
    rw [List.take_succ_cons, List.takeWhile_cons, List.takeWhile_cons]
    cases hp : p x with
    | false => rfl
    | true =>
      rw [List.takeWhile_cons, hp] at h
      simp only [if_true, List.length_cons] at h
      simp only [if_true]
      rw [takeWhile_take p l n (by omega)]
/-- what lies below a node of a group lies in the group -/
theorem span_in {l : List Nd} {u0 u : Nd} {m i : Nat} (h0 : l[0]? = some u0) (hm : m = 1 + spanN l u0.depth 0) (hi : l[i]? = some u) (him : i < m) : i + 1 + spanN l u.depth i ≤ m := by
  have hl : 0 < l.length := (List.getElem?_eq_some_iff.1 h0).1
  have hil : i < l.length := (List.getElem?_eq_some_iff.1 hi).1
  have hd : i = 0 ∧ u.depth = u0.depth ∨ u0.depth < u.depth := by
    rcases Nat.eq_zero_or_pos i with h | h
    · subst h
      rw [h0] at hi; injection hi with hi; subst hi
      exact .inl ⟨rfl, rfl⟩
    · obtain ⟨x, h1, h2⟩ := spanN_at (ns := l) (d := u0.depth) (i := 0) (k := i - 1) (by omega)
      rw [show 0 + 1 + (i - 1) = i by omega, hi] at h1
      injection h1 with h1; subst h1
      exact .inr h2
  rcases Nat.lt_or_ge m (i + 1 + spanN l u.depth i) with hlt | hge
  · exfalso
    obtain ⟨x, h1, h2⟩ := spanN_at (ns := l) (d := u.depth) (i := i) (k := m - (i + 1)) (by omega)
    rw [show i + 1 + (m - (i + 1)) = m by omega] at h1
    rcases spanN_end l u0.depth 0 hl with he | ⟨y, h3, h4⟩
    · have := (List.getElem?_eq_some_iff.1 h1).1; omega
    · rw [show 0 + 1 + spanN l u0.depth 0 = m by omega, h1] at h3
      injection h3 with h3; subst h3
      rcases hd with ⟨_, hd⟩ | hd <;> omega
  · exact hge
theorem kidsL_take {l : List Nd} {u0 : Nd} {m i : Nat} (h0 : l[0]? = some u0) (hm : m = 1 + spanN l u0.depth 0) (him : i < m) : kidsL (l.take m) i = kidsL l i := by
  unfold kidsL
  have e1 : (l.take m)[i]? = l[i]? := by rw [List.getElem?_take, if_pos him]
  rw [e1]
  cases hu : l[i]? with
  | none => rfl
  | some u =>
    dsimp only
    have h1 := span_in h0 hm hu him
    have e2 : spanN (l.take m) u.depth i = spanN l u.depth i := by
      unfold spanN
      have e3 : (l.take m).drop (i + 1) = (l.drop (i + 1)).take (m - (i + 1)) := by rw [List.drop_take]
      rw [e3, takeWhile_take]
      have : ((l.drop (i + 1)).takeWhile fun n => decide (u.depth < n.depth)).length = spanN l u.depth i := rfl
      omega
    rw [e2]
    refine List.filter_congr fun j hj => ?_
    rw [List.mem_range'_1] at hj
    unfold kidB
    rw [List.getElem?_take, if_pos (by omega)]

theorem partsW_grp : ∀ (n o : Nat) (l : List Nd), l.length ≤ n → ∀ p ∈ partsW o l, ∃ q u, p.1 = o + q ∧ (l.drop q)[0]? = some u ∧ p.2 = (l.drop q).take (1 + spanN (l.drop q) u.depth 0) := by
  intro n
  induction n with
  | zero => intro o l hl p hp; rw [List.eq_nil_of_length_eq_zero (by omega : l.length = 0), partsW_nil] at hp; cases hp
  | succ n ih =>
    intro o l hl p hp
    cases l with
    | nil => rw [partsW_nil] at hp; cases hp
    | cons u r =>
      rw [partsW_cons] at hp
      rcases List.mem_cons.1 hp with rfl | hp
      · exact ⟨0, u, rfl, rfl, rfl⟩
      · obtain ⟨q, x, h1, h2, h3⟩ := ih _ _ (by simp at hl ⊢; omega) p hp
        rw [List.drop_drop] at h2 h3
        exact ⟨1 + spanN (u :: r) u.depth 0 + q, x, by omega, h2, h3⟩

theorem kidsR_six (k : Int) : (kidsR k).2 ≤ 6 := by
  unfold kidsR; split
  · simp
  · split
    · simp
    · split <;> simp
theorem fits_at {ns : List Nd} (h : fitsB ns = true) (i : Nat) (hi : i < ns.length) : kidsFitB ns i = true := (List.all_eq_true.1 h) i (List.mem_range.2 hi)
theorem fits_six {ns : List Nd} (h : fitsB ns = true) (i : Nat) : (kidsL ns i).length ≤ 6 := by
  rcases Nat.lt_or_ge i ns.length with hi | hi
  · have h1 := fits_at h i hi
    unfold kidsFitB at h1
    simp only [Bool.and_eq_true, Bool.not_eq_true', decide_eq_false_iff_not] at h1
    have := kidsR_six (kindAt ns i)
    omega
  · unfold kidsL; rw [List.getElem?_eq_none hi]; simp
theorem fits_hon {ns : List Nd} (h : fitsB ns = true) {i : Nat} {u : Nd} (hu : ns[i]? = some u) (hk : u.kind = 7) : 2 ≤ (kidsL ns i).length := by
  have h1 := fits_at h i (List.getElem?_eq_some_iff.1 hu).1
  unfold kidsFitB kindAt at h1
  rw [getN_at hu, hk] at h1
  simp only [Bool.and_eq_true, Bool.not_eq_true', decide_eq_false_iff_not] at h1
  have e : (kidsR 7).1 = 2 := by decide
  rw [e] at h1
  omega
/-- a text whose nodes fit and have depths can be read -/
theorem lin_ok {ns : List Nd} (hd : ∀ x ∈ ns, 0 ≤ x.depth ∧ x.depth ≤ 4) (hf : fitsB ns = true) : LinOk ns := by
  intro p hp
  obtain ⟨q, u0, _, h0, h2⟩ := partsW_grp ns.length 0 ns (Nat.le_refl _) p hp
  have hlen : ∀ i, (kidsL p.2 i).length ≤ (kidsL ns (q + i)).length ∧ (i < p.2.length → (kidsL p.2 i).length = (kidsL ns (q + i)).length) := fun i => by
    rw [kidsL_drop, List.length_map]
    rcases Nat.lt_or_ge i p.2.length with hi | hi
    · have him : i < 1 + spanN (ns.drop q) u0.depth 0 := by rw [h2, List.length_take] at hi; omega
      have e : kidsL p.2 i = kidsL (ns.drop q) i := by rw [h2]; exact kidsL_take h0 rfl him
      rw [e]; exact ⟨Nat.le_refl _, fun _ => rfl⟩
    · refine ⟨?_, fun h => absurd h (by omega)⟩
      unfold kidsL; rw [List.getElem?_eq_none hi]; simp
  refine ⟨fun x hx => hd x ?_, fun i u hi hk => ?_, fun i => Nat.le_trans (hlen i).1 (fits_six hf _)⟩
  · rw [h2] at hx; exact List.mem_of_mem_drop (List.mem_of_mem_take hx)
  · have hil := (List.getElem?_eq_some_iff.1 hi).1
    rw [(hlen i).2 hil]
    have hu : ns[q + i]? = some u := by
      rw [h2, List.getElem?_take] at hi
      split at hi
      · rw [List.getElem?_drop] at hi; exact hi
      · cases hi
    have := fits_hon hf hu hk
    omega
theorem nodes_depth (l : Li) : ∀ (r done : List Nd), nodesErr l done r = 0 → (∀ x ∈ done, 0 ≤ x.depth ∧ x.depth ≤ 4) → ∀ x ∈ r, 0 ≤ x.depth ∧ x.depth ≤ 4
  | [], _, _, _ => fun x hx => by cases hx
  | n :: r, done, h, hd => by
    rw [nodesErr] at h
    split at h
    · rename_i h1; exact absurd h h1
    · rename_i h1
      have h1 : nodeErr l done n = 0 := by simpa using h1
      have hn := nodeErr_depth h1 hd
      intro x hx
      rcases List.mem_cons.1 hx with rfl | hx
      · exact hn
      · exact nodes_depth l r (done ++ [n]) h (fun y hy => by
          rcases List.mem_append.1 hy with hy | hy
          · exact hd y hy
          · simp at hy; subst hy; exact hn) x hx
/-- a valid text -/
theorem text_ok {l : Li} {ns : List Nd} (h : textErr l ns = 0) : checkErr l = 0 ∧ ns.length ≤ 200 ∧ nodesErr l [] ns = 0 ∧ fitsB ns = true ∧ (∀ x ∈ ns, 0 ≤ x.depth ∧ x.depth ≤ 4) ∧ LinOk ns := by
  unfold textErr at h
  split at h
  · rename_i h1; exact absurd h h1
  · rename_i h1
    split at h
    · omega
    · rename_i h2
      split at h
      · rename_i h3; exact absurd h h3
      · rename_i h3
        split at h
        · rename_i h4
          have h3 : nodesErr l [] ns = 0 := by simpa using h3
          have hd := nodes_depth l ns [] h3 (fun x hx => by cases hx)
          exact ⟨by simpa using h1, by omega, h3, h4, hd, lin_ok hd h4⟩
        · omega

end Go.Proofs.Ytbfedahonfjpfaa
