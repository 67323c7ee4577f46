/-
  Tidy, plain: the specification's way (a value for each period, put in order, then joined) gives the list that merging sorted values gives.
-/
import Derived.Test.YtleihhkacmgofaaGreatDoorTidP
namespace Go.Proofs.YtleihhkacmgofaaGreatDoor

/-- two values are equal -/
def veq (a b : Va) : Bool := meq a b && ((a.fr == b.fr) && (a.to == b.to))
theorem veq_iff (a b : Va) : veq a b = true ↔ a = b := by
  unfold veq
  simp only [Bool.and_eq_true, beq_iff_eq]
  exact ⟨fun h => Va.ext' h.1 h.2.1 h.2.2, fun h => by subst h; exact ⟨meq_refl a, rfl, rfl⟩⟩
/-- how many come before a value -/
def beforeR (l : List Va) (v : Va) : Nat := (l.takeWhile fun x => vlt x v).length
/-- a value put into a sorted list, if it is not there -/
def putR (l : List Va) (v : Va) : List Va :=
  (l.takeWhile fun x => vlt x v) ++ ((if (l.dropWhile fun x => vlt x v).head?.any (fun x => veq x v) then [] else [v]) ++ l.dropWhile fun x => vlt x v)
/-- one period of a value -/
def day (v : Va) (p : Int) : Va := { v with fr := p, to := p }
/-- the first periods of a value put into a list -/
def putDays (v : Va) (l : List Va) (k : Nat) : List Va := (List.range k).foldl (fun l (j : Nat) => putR l (day v (v.fr + (j : Int)))) l
def putV (l : List Va) (v : Va) : List Va := putDays v l (v.to + 1 - v.fr).toNat
def pointsR (ss : List (List Va)) : List Va := ss.foldl (fun l vs => vs.foldl putV l) []
def runStep (out : List Va) (v : Va) : List Va :=
  match out.getLast? with
  | none => [v]
  | some l => if (meq l v && (l.to + 1 == v.fr)) = true then out.dropLast ++ [{ l with to := v.to }] else out ++ [v]
def runsR (l : List Va) : List Va := l.foldl runStep []
/-- the values of signs, united: longest stretches in order -/
def tidiedR (ss : List (List Va)) : List Va := runsR (pointsR ss)

/-- strictly sorted values of one period each -/
def points (l : List Va) : Prop := (l.Pairwise fun a b => vlt a b = true) ∧ ∀ v ∈ l, v.fr = v.to

theorem points_sorted {l : List Va} (h : points l) : sortedV l := h.1.imp fun {a b} hab => by
  cases h : vlt b a
  · rfl
  · have := vlt_trans hab h; rw [vlt_irr] at this; cases this

theorem cov_perm {a b : List Va} (h : ∀ v, v ∈ a ↔ v ∈ b) (m : Va) (p : Int) : cov a m p ↔ cov b m p :=
  ⟨fun ⟨v, h1, h2⟩ => ⟨v, (h v).1 h1, h2⟩, fun ⟨v, h1, h2⟩ => ⟨v, (h v).2 h1, h2⟩⟩

theorem dropWhile_head {α : Type} (p : α → Bool) : ∀ (l : List α) (x : α) (r : List α), l.dropWhile p = x :: r → p x = false
  | [], _, _, h => by simp at h
  | y :: l, x, r, h => by
    rw [List.dropWhile_cons] at h
    split at h
    · exact dropWhile_head p l x r h
    · rename_i hq
      injection h with h1 _
      subst h1
      simpa using hq
theorem takeWhile_all {α : Type} (p : α → Bool) : ∀ (l : List α) (x : α), x ∈ l.takeWhile p → p x = true
  | [], _, h => by simp at h
  | y :: l, x, h => by
    rw [List.takeWhile_cons] at h
    split at h
    · rcases List.mem_cons.1 h with rfl | h
      · assumption
      · exact takeWhile_all p l x h
    · cases h

theorem putR_mem (l : List Va) (v x : Va) : x ∈ putR l v ↔ x ∈ l ∨ x = v := by
  have hl : x ∈ l ↔ x ∈ (l.takeWhile fun x => vlt x v) ∨ x ∈ (l.dropWhile fun x => vlt x v) := by
    rw [← List.mem_append, List.takeWhile_append_dropWhile]
  unfold putR
  rw [List.mem_append, List.mem_append, hl]
  split
  · rename_i h
    have hv : v ∈ (l.dropWhile fun x => vlt x v) := by
      cases hd : (l.dropWhile fun x => vlt x v) with
      | nil => rw [hd] at h; simp at h
      | cons y r =>
        rw [hd] at h
        simp only [List.head?_cons, Option.any_some] at h
        rw [veq_iff] at h; subst h; simp
    constructor
    · rintro (h1 | h1 | h1)
      · exact .inl (.inl h1)
      · cases h1
      · exact .inl (.inr h1)
    · rintro ((h1 | h1) | h1)
      · exact .inl h1
      · exact .inr (.inr h1)
      · subst h1; exact .inr (.inr hv)
  · constructor
    · rintro (h1 | h1 | h1)
      · exact .inl (.inl h1)
      · exact .inr (by simpa using h1)
      · exact .inl (.inr h1)
    · rintro ((h1 | h1) | h1)
      · exact .inl h1
      · exact .inr (.inr h1)
      · subst h1; exact .inr (.inl (by simp))

theorem putR_points (l : List Va) (v : Va) (h : points l) (hv : v.fr = v.to) : points (putR l v) := by
  refine ⟨?_, fun x hx => ?_⟩
  · have hsp : (l.takeWhile fun x => vlt x v) ++ (l.dropWhile fun x => vlt x v) = l := List.takeWhile_append_dropWhile
    have hp := h.1
    rw [← hsp] at hp
    have hp := List.pairwise_append.1 hp
    unfold putR
    split
    · rw [List.nil_append]
      exact List.pairwise_append.2 hp
    · rename_i hne
      refine List.pairwise_append.2 ⟨hp.1, ?_, fun x hx y hy => ?_⟩
      · rw [List.singleton_append]
        refine List.pairwise_cons.2 ⟨fun y hy => ?_, hp.2.1⟩
        cases hd : (l.dropWhile fun x => vlt x v) with
        | nil => rw [hd] at hy; cases hy
        | cons z r =>
          rw [hd] at hy hne
          have hz := dropWhile_head _ _ _ _ hd
          have hz2 : vlt v z = true := by
            cases hvz : vlt v z
            · exfalso
              obtain ⟨e1, e2⟩ := vlt_tie hz hvz
              have hzl : z ∈ l := by rw [← hsp, hd]; simp
              have := h.2 z hzl
              apply hne
              simp only [List.head?_cons, Option.any_some]
              rw [veq_iff]
              exact Va.ext' e1 e2 (by omega)
            · rfl
          rcases List.mem_cons.1 hy with rfl | hy
          · exact hz2
          · have h3 := hp.2.1
            rw [hd] at h3
            exact vlt_trans hz2 ((List.pairwise_cons.1 h3).1 y hy)
      · have hxv := takeWhile_all _ _ _ hx
        rcases List.mem_append.1 hy with hy | hy
        · simp at hy; subst hy; exact hxv
        · exact hp.2.2 x hx y hy
  · rcases (putR_mem l v x).1 hx with hx | rfl
    · exact h.2 x hx
    · exact hv

theorem putDays_succ (v : Va) (l : List Va) (k : Nat) : putDays v l (k + 1) = putR (putDays v l k) (day v (v.fr + (k : Int))) := by
  unfold putDays
  rw [List.range_succ, List.foldl_append]
  rfl
theorem putDays_points (v : Va) (l : List Va) (h : points l) : ∀ k, points (putDays v l k)
  | 0 => h
  | k + 1 => by rw [putDays_succ]; exact putR_points _ _ (putDays_points v l h k) rfl
theorem putDays_cov (v : Va) (l : List Va) (m : Va) (p : Int) : ∀ k : Nat, cov (putDays v l k) m p ↔ cov l m p ∨ (meq v m = true ∧ v.fr ≤ p ∧ p < v.fr + k)
  | 0 => by
    show cov l m p ↔ _
    exact ⟨.inl, fun h => h.resolve_right (by intro ⟨_, h1, h2⟩; omega)⟩
  | k + 1 => by
    have ih := putDays_cov v l m p k
    rw [putDays_succ]
    have h1 : cov (putR (putDays v l k) (day v (v.fr + (k : Int)))) m p ↔ cov (putDays v l k) m p ∨ covV (day v (v.fr + (k : Int))) m p := by
      constructor
      · rintro ⟨x, hx, hc⟩
        rcases (putR_mem _ _ _).1 hx with hx | rfl
        · exact .inl ⟨x, hx, hc⟩
        · exact .inr hc
      · rintro (⟨x, hx, hc⟩ | hc)
        · exact ⟨x, (putR_mem _ _ _).2 (.inl hx), hc⟩
        · exact ⟨_, (putR_mem _ _ _).2 (.inr rfl), hc⟩
    rw [h1, ih]
    constructor
    · rintro ((h | ⟨e, h2, h3⟩) | ⟨e, h2, h3⟩)
      · exact .inl h
      · exact .inr ⟨e, h2, by omega⟩
      · have e' : meq v m = true := e
        simp only [day] at h2 h3
        exact .inr ⟨e', by omega, by omega⟩
    · rintro (h | ⟨e, h2, h3⟩)
      · exact .inl (.inl h)
      · by_cases h4 : p < v.fr + k
        · exact .inl (.inr ⟨e, h2, h4⟩)
        · exact .inr ⟨e, by simp only [day]; omega, by simp only [day]; omega⟩
theorem putV_points (v : Va) (l : List Va) (h : points l) : points (putV l v) := putDays_points v l h _
theorem putV_cov (v : Va) (l : List Va) (m : Va) (p : Int) : cov (putV l v) m p ↔ cov l m p ∨ covV v m p := by
  unfold putV covV
  rw [putDays_cov]
  refine or_congr_right (and_congr_right fun _ => and_congr_right fun _ => ?_)
  omega
theorem foldV : ∀ (vs l : List Va), points l → points (vs.foldl putV l) ∧ ∀ m p, cov (vs.foldl putV l) m p ↔ cov l m p ∨ cov vs m p
  | [], l, h => ⟨h, fun m p => ⟨.inl, fun h => h.resolve_right (cov_nil _ _)⟩⟩
  | v :: vs, l, h => by
    obtain ⟨h1, h2⟩ := foldV vs (putV l v) (putV_points v l h)
    refine ⟨h1, fun m p => ?_⟩
    rw [List.foldl_cons, h2, putV_cov, cov_cons, or_assoc]
theorem foldSS : ∀ (ss : List (List Va)) (l : List Va), points l → points (ss.foldl (fun l vs => vs.foldl putV l) l) ∧ ∀ m p, cov (ss.foldl (fun l vs => vs.foldl putV l) l) m p ↔ cov l m p ∨ cov ss.flatten m p
  | [], l, h => ⟨h, fun m p => ⟨.inl, fun h => h.resolve_right (cov_nil _ _)⟩⟩
  | vs :: ss, l, h => by
    obtain ⟨h1, h2⟩ := foldV vs l h
    obtain ⟨h3, h4⟩ := foldSS ss (vs.foldl putV l) h1
    refine ⟨h3, fun m p => ?_⟩
    rw [List.foldl_cons, h4, h2, List.flatten_cons, cov_append, or_assoc]
theorem pointsR_ok (ss : List (List Va)) : points (pointsR ss) ∧ ∀ m p, cov (pointsR ss) m p ↔ cov ss.flatten m p := by
  obtain ⟨h1, h2⟩ := foldSS ss [] ⟨List.Pairwise.nil, fun v h => by cases h⟩
  exact ⟨h1, fun m p => (h2 m p).trans ⟨fun h => h.resolve_left (cov_nil _ _), .inr⟩⟩

theorem runStep_eq (out : List Va) (v : Va) (hv : v.fr = v.to) (h : ∀ x ∈ out, meq x v = true → x.to < v.fr) : runStep out v = mergeStep out v := by
  unfold runStep mergeStep
  cases hl : out.getLast? with
  | none => rfl
  | some l =>
    dsimp only
    have hm : l ∈ out := List.mem_of_getLast? hl
    cases hq : meq l v
    · simp
    · have hlt := h l hm hq
      by_cases hj : l.to + 1 = v.fr
      · have h2 : v.fr ≤ l.to + 1 := by omega
        have h3 : max l.to v.to = v.to := by omega
        simp [hj, h3]
      · have h2 : ¬ v.fr ≤ l.to + 1 := by omega
        simp [hj, h2]
theorem run_fold : ∀ (rest out : List Va), (∀ x ∈ out, ∀ v ∈ rest, meq x v = true → x.to < v.fr) → points rest → rest.foldl runStep out = rest.foldl mergeStep out
  | [], _, _, _ => rfl
  | v :: rest, out, h, hp => by
    have hvv := hp.2 v (by simp)
    have hpr := List.pairwise_cons.1 hp.1
    have e := runStep_eq out v hvv (fun x hx => h x hx v (by simp))
    rw [List.foldl_cons, List.foldl_cons, e]
    refine run_fold rest _ (fun x hx y hy hm => ?_) ⟨hpr.2, fun z hz => hp.2 z (List.mem_cons_of_mem _ hz)⟩
    have hvy := hpr.1 y hy
    have hlt : meq v y = true → v.to < y.fr := fun hq => by
      rw [vlt_iff] at hvy
      rcases hvy with h1 | ⟨_, h1⟩
      · rw [mlt_not_meq h1] at hq; cases hq
      · omega
    rcases snoc_cases out with rfl | ⟨i, l, rfl⟩
    · rw [mergeStep_nil] at hx
      simp at hx; subst hx; exact hlt hm
    · by_cases hj : (meq l v && decide (v.fr ≤ l.to + 1)) = true
      · rw [mergeStep_join _ _ _ hj] at hx
        rw [Bool.and_eq_true, decide_eq_true_eq] at hj
        rcases List.mem_append.1 hx with hx | hx
        · exact h x (by simp [hx]) y (by simp [hy]) hm
        · simp at hx; subst hx
          have hm' : meq l y = true := hm
          have h1 := hlt (meq_trans (meq_symm hj.1) hm')
          have h2 := h l (by simp) v (by simp) hj.1
          dsimp only; omega
      · rw [mergeStep_add _ _ _ (by simpa using hj)] at hx
        rcases List.mem_append.1 hx with hx | hx
        · exact h x hx y (by simp [hy]) hm
        · simp at hx; subst hx; exact hlt hm

/-- Sorted values of signs, merged, are what the specification makes of the signs. -/
theorem tidied_eq (ss : List (List Va)) (s : List Va) (hm : ∀ v, v ∈ s ↔ v ∈ ss.flatten) (hs : sortedV s) (hv : ∀ v ∈ ss.flatten, v.fr ≤ v.to) : mergeR s = tidiedR ss := by
  obtain ⟨hp, hc⟩ := pointsR_ok ss
  unfold tidiedR runsR
  rw [run_fold _ _ (fun x h => by cases h) hp]
  exact mergeR_eq s (pointsR ss) hs (points_sorted hp) (fun v h => hv v ((hm v).1 h)) (fun v h => by have := hp.2 v h; omega) fun m p => (cov_perm hm m p).trans (hc m p).symm

end Go.Proofs.YtleihhkacmgofaaGreatDoor
