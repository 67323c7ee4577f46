/-
  Where the stretches begin, and that the list of variants in order is one (layer 9).
-/
import Derived.Test.YtcpfhaoecggflaaZVnM
namespace Go.Proofs.Ytcpfhaoecggflaa
open Go.RowKit

/-- stretches in order, none behind a place -/
def inc (n : Nat) (l : List St) : Prop := l.Pairwise (fun x y => x.at' < y.at') ∧ ∀ x ∈ l, x.at' < n
theorem inc_mono {n m : Nat} {l : List St} (h : inc n l) (hnm : n ≤ m) : inc m l := ⟨h.1, fun x hx => Nat.lt_of_lt_of_le (h.2 x hx) hnm⟩
theorem inc_snoc {n : Nat} {l : List St} {x : St} (h : inc n l) (hx : x.at' = n) : inc (n + 1) (l ++ [x]) :=
  ⟨List.pairwise_append.2 ⟨h.1, List.pairwise_singleton _ _, fun u hu v hv => by rw [List.mem_singleton.1 hv, hx]; exact h.2 u hu⟩, fun u hu => by
    rcases List.mem_append.1 hu with hu | hu
    · have := h.2 u hu; omega
    · rw [List.mem_singleton.1 hu, hx]; omega⟩
theorem lastF_at (f : St → St) (hf : ∀ x, (f x).at' = x.at') : ∀ l : List St, (lastF f l).map St.at' = l.map St.at'
  | [] => rfl
  | [x] => by simp [lastF, hf]
  | x :: y :: l => by
    have := lastF_at f hf (y :: l)
    rw [lastF, List.map_cons, this]; · rfl
    · intro h; cases h
theorem inc_map {n : Nat} {l l2 : List St} (h : inc n l) (e : l2.map St.at' = l.map St.at') : inc n l2 := by
  unfold inc at h ⊢
  constructor
  · have h1 : (l.map St.at').Pairwise (· < ·) := List.pairwise_map.2 h.1
    rw [← e] at h1
    exact List.pairwise_map.1 h1
  · intro x hx
    have : x.at' ∈ l2.map St.at' := List.mem_map.2 ⟨x, hx, rfl⟩
    rw [e] at this
    obtain ⟨y, hy, hxy⟩ := List.mem_map.1 this
    rw [← hxy]; exact h.2 y hy
def StsInc (s : Sts) : Prop := inc (if s.ag then s.pl else s.pl + 1) s.all
theorem adv_ge (p : Int) (i : Nat) : i ≤ adv p i := by unfold adv; split <;> omega
theorem sts_inc_next (a b : List Int) (s : Sts) (p : Int × Int) (h : StsInc s) : StsInc (s.next a b p) := by
  unfold StsInc at h ⊢
  unfold Sts.next
  by_cases hg : agr a b p = true
  · rw [if_pos hg]
    have hp : adv p.1 s.pl = s.pl + 1 := by
      unfold agr at hg
      unfold adv
      rw [if_neg (by intro e; simp [e] at hg)]
    rw [hp]
    exact inc_mono h (by split <;> simp)
  · rw [if_neg hg]
    have ha := adv_ge p.1 s.pl
    cases hs : s.ag with
    | true =>
      rw [hs] at h
      exact inc_mono (inc_snoc (x := St.add b ⟨s.pl, 0, []⟩ p) h rfl) (by simp; exact ha)
    | false =>
      rw [hs] at h
      refine inc_map (inc_mono h (by simp; exact ha)) ?_
      exact lastF_at (fun x => St.add b x p) (fun _ => rfl) s.all
theorem sts_inc (a b : List Int) (ps : List (Int × Int)) : ∀ s, StsInc s → StsInc (ps.foldl (Sts.next a b) s) := by
  induction ps with
  | nil => exact fun s h => h
  | cons p r ih => exact fun s h => ih _ (sts_inc_next a b s p h)
theorem strs_inc (a b : List Int) : (strsQ a b).Pairwise (fun x y => x.at' < y.at') :=
  (sts_inc a b (pairsQ a b) ⟨0, true, []⟩ ⟨List.Pairwise.nil, fun _ h => by cases h⟩).1

theorem sorted_one {α : Type} (lt : α → α → Prop) (irr : ∀ x, ¬ lt x x) (tr : ∀ x y z, lt x y → lt y z → lt x z) : ∀ l1 l2 : List α, l1.Pairwise lt → l2.Pairwise lt → (∀ x, x ∈ l1 ↔ x ∈ l2) → l1 = l2
  | [], [], _, _, _ => rfl
  | [], y :: l2, _, _, h => by have := (h y).2 (List.mem_cons.2 (.inl rfl)); cases this
  | x :: l1, [], _, _, h => by have := (h x).1 (List.mem_cons.2 (.inl rfl)); cases this
  | x :: l1, y :: l2, h1, h2, h => by
    rw [List.pairwise_cons] at h1 h2
    have e : x = y := by
      rcases List.mem_cons.1 ((h x).1 (List.mem_cons.2 (.inl rfl))) with e | hx
      · exact e
      rcases List.mem_cons.1 ((h y).2 (List.mem_cons.2 (.inl rfl))) with e | hy
      · exact e.symm
      exact absurd (tr _ _ _ (h1.1 y hy) (h2.1 x hx)) (irr x)
    subst e
    rw [sorted_one lt irr tr l1 l2 h1.2 h2.2 (fun z => ⟨fun hz => by
      rcases List.mem_cons.1 ((h z).1 (List.mem_cons.2 (.inr hz))) with e | hz2
      · subst e; exact absurd (h1.1 z hz) (irr z)
      · exact hz2, fun hz => by
      rcases List.mem_cons.1 ((h z).2 (List.mem_cons.2 (.inr hz))) with e | hz2
      · subst e; exact absurd (h2.1 z hz) (irr z)
      · exact hz2⟩)]
theorem ct_irr (x : Int × Int × List Int) : ¬ ctLt x x := by unfold ctLt; omega
theorem ct_tr (x y z : Int × Int × List Int) (h1 : ctLt x y) (h2 : ctLt y z) : ctLt x z := by unfold ctLt at *; omega
theorem v_mem (base : List Int) (rs : List Rw) : ∀ n v, v ∈ vPre base rs n ↔ ∃ i, i < n ∧ ∃ r, rs[i]? = some r ∧ ∃ x ∈ strsQ base r.zs, vOf i x = v
  | 0, v => by
    constructor
    · intro h; cases h
    · intro ⟨i, hi, _⟩; omega
  | n + 1, v => by
    rw [vPre, List.mem_append, v_mem base rs n v]
    constructor
    · rintro (⟨i, hi, h⟩ | h)
      · exact ⟨i, by omega, h⟩
      · cases hr : rs[n]? with
        | none => rw [hr] at h; cases h
        | some r =>
          rw [hr] at h
          obtain ⟨x, hx, e⟩ := List.mem_map.1 h
          exact ⟨n, by omega, r, hr, x, hx, e⟩
    · rintro ⟨i, hi, r, hr, x, hx, e⟩
      by_cases hin : i < n
      · exact .inl ⟨i, hin, r, hr, x, hx, e⟩
      · obtain rfl : i = n := by omega
        rw [hr]
        exact .inr (List.mem_map.2 ⟨x, hx, e⟩)
def keyNe (x y : Int × Int × List Int) : Prop := ¬ (x.1 = y.1 ∧ x.2.1 = y.2.1)
theorem v_keys (base : List Int) (rs : List Rw) : ∀ n, (vPre base rs n).Pairwise keyNe
  | 0 => List.Pairwise.nil
  | n + 1 => by
    rw [vPre, List.pairwise_append]
    refine ⟨v_keys base rs n, ?_, fun x hx y hy => ?_⟩
    · cases rs[n]? with
      | none => exact List.Pairwise.nil
      | some r =>
        refine List.pairwise_map.2 ((strs_inc base r.zs).imp fun {x y} h => ?_)
        unfold keyNe vOf
        dsimp only
        omega
    · obtain ⟨i, hi, r, hr, z, hz, rfl⟩ := (v_mem base rs n x).1 hx
      cases hr2 : rs[n]? with
      | none => rw [hr2] at hy; cases hy
      | some r2 =>
        rw [hr2] at hy
        obtain ⟨z2, hz2, rfl⟩ := List.mem_map.1 hy
        unfold keyNe vOf
        dsimp only
        omega
/-- the variants in order: by their places, then by their copies -/
def vAt (base : List Int) (rs : List Rw) (at' : Nat) (i : Nat) : List (Int × Int × List Int) := match rs[i]? with
  | some r => ((strsQ base r.zs).filter (fun x => x.at' == at')).map (vOf i)
  | none => []
def vRow (base : List Int) (rs : List Rw) (at' : Nat) : List (Int × Int × List Int) := (List.range rs.length).flatMap (vAt base rs at')
def vAll (base : List Int) (rs : List Rw) (n : Nat) : List (Int × Int × List Int) := (List.range n).flatMap (vRow base rs)
theorem vAt_mem {base : List Int} {rs : List Rw} {at' i : Nat} {v : Int × Int × List Int} : v ∈ vAt base rs at' i ↔ ∃ r, rs[i]? = some r ∧ ∃ x ∈ strsQ base r.zs, x.at' = at' ∧ vOf i x = v := by
  unfold vAt
  cases rs[i]? with
  | none => simp
  | some r =>
    simp only [List.mem_map, List.mem_filter, beq_iff_eq]
    constructor
    · rintro ⟨x, ⟨hx, h1⟩, h2⟩; exact ⟨r, rfl, x, hx, h1, h2⟩
    · rintro ⟨r2, e, x, hx, h1, h2⟩; injection e with e; subst e; exact ⟨x, ⟨hx, h1⟩, h2⟩
theorem vAll_sorted (base : List Int) (rs : List Rw) (n : Nat) : (vAll base rs n).Pairwise ctLt := by
  unfold vAll vRow
  rw [List.pairwise_flatMap]
  refine ⟨fun at' _ => ?_, List.pairwise_lt_range.imp fun {x y} hxy u hu v hv => ?_⟩
  · rw [List.pairwise_flatMap]
    refine ⟨fun i _ => ?_, List.pairwise_lt_range.imp fun {x y} hxy u hu v hv => ?_⟩
    · unfold vAt
      cases rs[i]? with
      | none => exact List.Pairwise.nil
      | some r =>
        refine List.pairwise_map.2 (((strs_inc base r.zs).filter _).imp fun {x y} h => ?_)
        unfold ctLt vOf
        dsimp only
        omega
    · obtain ⟨r, _, z, _, h1, rfl⟩ := vAt_mem.1 hu
      obtain ⟨r2, _, z2, _, h2, rfl⟩ := vAt_mem.1 hv
      unfold ctLt vOf
      dsimp only
      omega
  · obtain ⟨i, _, hu⟩ := List.mem_flatMap.1 hu
    obtain ⟨k, _, hv⟩ := List.mem_flatMap.1 hv
    obtain ⟨r, _, z, _, h1, rfl⟩ := vAt_mem.1 hu
    obtain ⟨r2, _, z2, _, h2, rfl⟩ := vAt_mem.1 hv
    unfold ctLt vOf
    dsimp only
    omega
/-- what the program returns is the list in order, if no stretch begins behind the base's end -/
theorem vars_all {base : List Int} {rs : List Rw} {L : List (Int × Int × List Int)} (h : VarsQ base rs L) (he : varE base rs = 0) {n : Nat} (hn : ∀ r ∈ rs, ∀ x ∈ strsQ base r.zs, x.at' < n) : L = vAll base rs n := by
  obtain ⟨hp, hs⟩ := h
  rw [if_neg (by simpa using he)] at hp
  have hk : L.Pairwise keyNe := (hp.pairwise_iff (fun {x y} (h : keyNe x y) => show keyNe y x by unfold keyNe at *; omega)).2 (v_keys base rs _)
  refine sorted_one ctLt ct_irr ct_tr _ _ ((hs.and hk).imp fun {x y} h => ?_) (vAll_sorted base rs n) fun v => ?_
  · unfold ctLt keyNe at *; omega
  · rw [hp.mem_iff, v_mem]
    unfold vAll vRow
    constructor
    · rintro ⟨i, hi, r, hr, x, hx, e⟩
      exact List.mem_flatMap.2 ⟨x.at', List.mem_range.2 (hn r (List.mem_of_getElem? hr) x hx), List.mem_flatMap.2 ⟨i, List.mem_range.2 hi, vAt_mem.2 ⟨r, hr, x, hx, rfl, e⟩⟩⟩
    · intro h
      obtain ⟨at', _, h⟩ := List.mem_flatMap.1 h
      obtain ⟨i, hi, h⟩ := List.mem_flatMap.1 h
      obtain ⟨r, hr, x, hx, _, e⟩ := vAt_mem.1 h
      exact ⟨i, List.mem_range.1 hi, r, hr, x, hx, e⟩
end Go.Proofs.Ytcpfhaoecggflaa
