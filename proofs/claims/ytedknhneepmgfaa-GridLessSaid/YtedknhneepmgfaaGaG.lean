/-
  The specification's kids of a node, and its groups (Kids). And what builds on it.
-/
import Derived.Test.YtedknhneepmgfaaGaF
import Derived.Deep.DeepCutAuto

/- The specification's kids of a node, and its groups (Kids). -/
namespace Go.Proofs.Ytedknhneepmgfaa
open Go.RowKit

/-- how many nodes from a place on have a depth at least -/
def runN (ns : List Nd) (d : Int) (j : Nat) : Nat := ((ns.drop j).takeWhile (fun n => decide (d ≤ n.depth))).length
def atD (ns : List Nd) (d : Int) (j : Nat) : Bool := ns[j]?.any (fun u => u.depth == d)
def kidsG (ns : List Nd) (d : Int) (j : Nat) : List Nat := (List.range' j (runN ns d j)).filter (atD ns d)
theorem runN_at {ns : List Nd} {d : Int} {j k : Nat} (h : k < runN ns d j) : ∃ u, ns[j + k]? = some u ∧ d ≤ u.depth := by
  obtain ⟨x, h1, h2⟩ := takeWhile_at _ _ _ h
  rw [List.getElem?_drop] at h1
  exact ⟨x, h1, by simpa using h2⟩
theorem runN_end (ns : List Nd) (d : Int) (j : Nat) (hj : j ≤ ns.length) : j + runN ns d j = ns.length ∨ ∃ u, ns[j + runN ns d j]? = some u ∧ u.depth < d := by
  rcases takeWhile_end (fun n : Nd => decide (d ≤ n.depth)) (ns.drop j) with h | ⟨x, h1, h2⟩
  · left; unfold runN; rw [h, List.length_drop]; omega
  · right; rw [List.getElem?_drop] at h1; exact ⟨x, h1, by simpa using h2⟩
theorem runN_le (ns : List Nd) (d : Int) (j : Nat) (hj : j ≤ ns.length) : j + runN ns d j ≤ ns.length := by
  have h := (List.takeWhile_sublist (fun n : Nd => decide (d ≤ n.depth)) (l := ns.drop j)).length_le
  unfold runN; rw [List.length_drop] at h; omega
theorem runN_span (ns : List Nd) (d : Int) (i : Nat) : runN ns (d + 1) (i + 1) = spanN ns d i := by
  unfold runN spanN
  congr 2
/-- both sides' kids are the same -/
theorem kidsG_is {ns : List Nd} {i : Nat} {u : Nd} (h : ns[i]? = some u) : kidsG ns (u.depth + 1) (i + 1) = kidsL ns i := by
  unfold kidsG kidsL
  rw [h, runN_span]
  rfl

end Go.Proofs.Ytedknhneepmgfaa

/- The specification's parent of a node. -/
namespace Go.Proofs.Ytedknhneepmgfaa
open Go.RowKit

def depthAt (ns : List Nd) (k : Nat) : Int := (getN ns k).depth
def parentF (ns : List Nd) (d : Int) : Nat → Int
  | 0 => -1
  | k + 1 => if depthAt ns k < d then (k : Int) else parentF ns d k
def parentR (ns : List Nd) (i : Nat) : Int := parentF ns (depthAt ns i) i

end Go.Proofs.Ytedknhneepmgfaa

/- The specification's error of a node by itself (own). -/
namespace Go.Proofs.Ytedknhneepmgfaa
open Go.RowKit

/-- the depth of a node behind the node before it, as the specification has it -/
def badD (ns : List Nd) (i : Nat) (d : Int) : Prop := 0 < i ∧ ((getN ns (i - 1)).depth + 1 < d ∨ (leafB (getN ns (i - 1)).kind = true ∧ (getN ns (i - 1)).depth < d))
instance (ns : List Nd) (i : Nat) (d : Int) : Decidable (badD ns i d) := by unfold badD; infer_instance
def kindErr (l : Li) (u : Nd) : Int := if u.kind = 1 then glyphErr l u else if u.kind = 6 then gapErr u else plainErr u
def ownErr (l : Li) (ns : List Nd) (i : Nat) (u : Nd) : Int :=
  if u.kind < 1 ∨ 7 < u.kind then 20
  else if u.depth < 0 ∨ 4 < u.depth ∨ (i = 0 ∧ 0 < u.depth) then 21
  else if badD ns i u.depth then 21
  else kindErr l u

end Go.Proofs.Ytedknhneepmgfaa

/- Both sides' checks of a text are the same: a node's depth; the kids and the parent. -/
namespace Go.Proofs.Ytedknhneepmgfaa

def famBad (n kid : Int) : Bool := ((n == 4) && (kid != 1)) || (((n == 2) || (n == 5) || (n == 7)) && (kid == 2)) || ((n == 3) && (kid == 3)) || ((n == 7) && (kid == 7))
/-- the specification's family -/
def famB (ns : List Nd) (i : Nat) (p : Int) : Bool :=
  !decide (((kidsL ns i).length : Int) < (kidsR (kindAt ns i)).1) && !decide ((kidsR (kindAt ns i)).2 < ((kidsL ns i).length : Int)) &&
  !((kindAt ns i == 5) && decide (0 < depthAt ns i)) &&
  !((kindAt ns i == 7) && decide (0 < depthAt ns i) && ((kindAt ns p.toNat != 5) || ((kidsL ns p.toNat).length != 1))) &&
  (kidsL ns i).all fun j => !famBad (kindAt ns i) (kindAt ns j)
def famsB (ns : List Nd) : Bool := (List.range ns.length).all fun i => famB ns i (parentR ns i)

/-- the depths rise by one at most -/
def Rises (ns : List Nd) : Prop := ∀ (k : Nat) (u v : Nd), ns[k]? = some u → ns[k + 1]? = some v → v.depth ≤ u.depth + 1

theorem own_node (l : Li) (ns : List Nd) (i : Nat) (u : Nd) (hi : ns[i]? = some u) (hd : ∀ x ∈ ns.take i, 0 ≤ x.depth ∧ x.depth ≤ 4) : ownErr l ns i u = nodeErr l (ns.take i) u := by
  have hin : i < ns.length := (List.getElem?_eq_some_iff.1 hi).1
  have hlen : (ns.take i).length = i := by rw [List.length_take]; omega
  unfold ownErr nodeErr kindErr
  by_cases h1 : u.kind < 1 ∨ 7 < u.kind
  · rw [if_pos h1, if_pos h1]
  rw [if_neg h1, if_neg h1]
  have key : ((u.depth < 0 ∨ 4 < u.depth ∨ (i = 0 ∧ 0 < u.depth)) ∨ badD ns i u.depth) ↔ (u.depth < 0 ∨ deepR (ns.take i) < u.depth) := by
    rcases Nat.eq_zero_or_pos i with h0 | h0
    · subst h0
      have e : deepR (ns.take 0) = 0 := rfl
      rw [e]
      unfold badD
      omega
    · obtain ⟨x, hx⟩ : ∃ x, ns[i - 1]? = some x := ⟨_, List.getElem?_eq_getElem (by omega)⟩
      have hxt : (ns.take i)[(ns.take i).length - 1]? = some x := by rw [hlen, List.getElem?_take, if_pos (by omega)]; exact hx
      have hxd := hd x (List.mem_of_getElem? hxt)
      have e : deepR (ns.take i) = if leafB x.kind then x.depth else if x.depth + 1 ≤ 4 then x.depth + 1 else 4 := by unfold deepR; rw [hxt]
      rw [e]
      unfold badD
      rw [getN_at hx]
      cases hl : leafB x.kind
      · simp only [Bool.false_eq_true, if_false]
        split <;> simp <;> omega
      · simp only [if_true]
        simp
        omega
  by_cases h2 : u.depth < 0 ∨ 4 < u.depth ∨ (i = 0 ∧ 0 < u.depth)
  · rw [if_pos h2, if_pos (key.1 (.inl h2))]
  · rw [if_neg h2]
    by_cases h3 : badD ns i u.depth
    · rw [if_pos h3, if_pos (key.1 (.inr h3))]
    · have hk : ¬ (u.depth < 0 ∨ deepR (ns.take i) < u.depth) := fun h => by rcases key.2 h with h | h; exact h2 h; exact h3 h
      rw [if_neg h3, if_neg hk]

theorem depthAt_is {ns : List Nd} {k : Nat} {u : Nd} (h : ns[k]? = some u) : depthAt ns k = u.depth := by unfold depthAt; rw [getN_at h]
theorem parentF_spec (ns : List Nd) (d : Int) : ∀ j : Nat, (parentF ns d j = -1 ∧ ∀ k, k < j → ¬ depthAt ns k < d) ∨ (∃ k, k < j ∧ parentF ns d j = (k : Int) ∧ depthAt ns k < d ∧ ∀ q, k < q → q < j → ¬ depthAt ns q < d)
  | 0 => .inl ⟨rfl, fun k hk => by omega⟩
  | j + 1 => by
    rw [parentF]
    by_cases h : depthAt ns j < d
    · rw [if_pos h]; exact .inr ⟨j, by omega, rfl, h, fun q h1 h2 => by omega⟩
    · rw [if_neg h]
      rcases parentF_spec ns d j with ⟨h1, h2⟩ | ⟨k, h1, h2, h3, h4⟩
      · exact .inl ⟨h1, fun k hk => by
          rcases Nat.lt_or_ge k j with hlt | hge
          · exact h2 k hlt
          · rw [show k = j by omega]; exact h⟩
      · exact .inr ⟨k, by omega, h2, h3, fun q hq1 hq2 => by
          rcases Nat.lt_or_ge q j with hlt | hge
          · exact h4 q hq1 hlt
          · rw [show q = j by omega]; exact h⟩
/-- being a kid, by places -/
theorem kids_iff {ns : List Nd} {i j : Nat} {u : Nd} (hi : ns[i]? = some u) : j ∈ kidsL ns i ↔ i < j ∧ j < ns.length ∧ depthAt ns j = u.depth + 1 ∧ ∀ q, i < q → q ≤ j → u.depth < depthAt ns q := by
  have hin : i < ns.length := (List.getElem?_eq_some_iff.1 hi).1
  unfold kidsL
  rw [hi]
  show j ∈ (List.range' (i + 1) (spanN ns u.depth i)).filter (kidB ns u.depth) ↔ _
  rw [List.mem_filter, List.mem_range'_1]
  constructor
  · rintro ⟨⟨h1, h2⟩, h3⟩
    have hle := spanN_le ns u.depth i hin
    obtain ⟨x, hx⟩ : ∃ x, ns[j]? = some x := ⟨_, List.getElem?_eq_getElem (by omega)⟩
    refine ⟨by omega, by omega, ?_, fun q hq1 hq2 => ?_⟩
    · unfold kidB at h3; rw [hx] at h3
      rw [depthAt_is hx]; simpa using h3
    · obtain ⟨y, hy1, hy2⟩ := spanN_at (ns := ns) (d := u.depth) (i := i) (k := q - (i + 1)) (by omega)
      rw [show i + 1 + (q - (i + 1)) = q by omega] at hy1
      rw [depthAt_is hy1]; exact hy2
  · rintro ⟨h1, h2, h3, h4⟩
    obtain ⟨x, hx⟩ : ∃ x, ns[j]? = some x := ⟨_, List.getElem?_eq_getElem h2⟩
    rw [depthAt_is hx] at h3
    refine ⟨⟨by omega, ?_⟩, by unfold kidB; rw [hx]; simpa using h3⟩
    rcases Nat.lt_or_ge j (i + 1 + spanN ns u.depth i) with hlt | hge
    · exact hlt
    · exfalso
      rcases spanN_end ns u.depth i hin with he | ⟨y, hy1, hy2⟩
      · omega
      · have := h4 (i + 1 + spanN ns u.depth i) (by omega) hge
        rw [depthAt_is hy1] at this
        omega
/-- the parent of a node is the node whose kid it is -/
theorem parent_kid {ns : List Nd} {i j : Nat} (hi : i < ns.length) (hj : j ∈ kidsL ns i) : parentR ns j = (i : Int) := by
  obtain ⟨u, hu⟩ : ∃ u, ns[i]? = some u := ⟨_, List.getElem?_eq_getElem hi⟩
  obtain ⟨h1, h2, h3, h4⟩ := (kids_iff hu).1 hj
  have hdi := depthAt_is hu
  unfold parentR
  rcases parentF_spec ns (depthAt ns j) j with ⟨_, e2⟩ | ⟨k, e1, e2, e3, e4⟩
  · exact absurd (by omega) (e2 i h1)
  · rcases Nat.lt_trichotomy k i with hlt | heq | hgt
    · exact absurd (by omega) (e4 i hlt h1)
    · rw [e2, heq]
    · have := h4 k hgt (by omega); omega
theorem kid_parent {ns : List Nd} (hr : Rises ns) (h0 : ∀ u, ns[0]? = some u → u.depth ≤ 0) {j : Nat} (hj : j < ns.length) (hd : 0 < depthAt ns j) : ∃ i, i < j ∧ parentR ns j = (i : Int) ∧ j ∈ kidsL ns i := by
  have hrise : ∀ k, k + 1 < ns.length → depthAt ns (k + 1) ≤ depthAt ns k + 1 := fun k hk => by
    obtain ⟨u, hu⟩ : ∃ u, ns[k]? = some u := ⟨_, List.getElem?_eq_getElem (by omega)⟩
    obtain ⟨v, hv⟩ : ∃ v, ns[k + 1]? = some v := ⟨_, List.getElem?_eq_getElem hk⟩
    rw [depthAt_is hu, depthAt_is hv]; exact hr k u v hu hv
  have hz : depthAt ns 0 ≤ 0 := by
    obtain ⟨u, hu⟩ : ∃ u, ns[0]? = some u := ⟨_, List.getElem?_eq_getElem (by omega)⟩
    rw [depthAt_is hu]; exact h0 u hu
  rcases parentF_spec ns (depthAt ns j) j with ⟨_, e2⟩ | ⟨k, e1, e2, e3, e4⟩
  · have hj0 : j ≠ 0 := fun e => by subst e; omega
    exact absurd (by omega) (e2 0 (by omega))
  · obtain ⟨u, hu⟩ : ∃ u, ns[k]? = some u := ⟨_, List.getElem?_eq_getElem (by omega)⟩
    have hdk := depthAt_is hu
    have hge : ∀ q, k < q → q ≤ j → depthAt ns j ≤ depthAt ns q := fun q h1 h2 => by
      rcases Nat.lt_or_ge q j with hlt | hge
      · have := e4 q h1 hlt; omega
      · rw [show q = j by omega]; omega
    have h1 := hge (k + 1) (by omega) (by omega)
    have h2 := hrise k (by omega)
    refine ⟨k, e1, e2, (kids_iff hu).2 ⟨e1, hj, by omega, fun q h3 h4 => by have := hge q h3 h4; omega⟩⟩

theorem all_range {n : Nat} {p : Nat → Bool} : (List.range n).all p = true ↔ ∀ i, i < n → p i = true := by
  rw [List.all_eq_true]; exact ⟨fun h i hi => h i (List.mem_range.2 hi), fun h i hi => h i (List.mem_range.1 hi)⟩
theorem holds_bad {a b n : Int} (h : holdsB a b n = true) : famBad a b = false := by
  unfold holdsB at h
  unfold famBad
  by_cases h5 : b = 5
  · subst h5; simp at h
  by_cases h7 : b = 7
  · subst h7
    simp at h
    simp [h.1]
  simp [h5, h7] at h ⊢
  by_cases h4 : a = 4
  · subst h4; simp at h ⊢; exact h
  by_cases h3 : a = 3
  · subst h3; simp at h ⊢; exact h
  simp [h4, h3] at h ⊢
  intro _; exact h
theorem fits_fams {ns : List Nd} (hr : Rises ns) (h0 : ∀ u, ns[0]? = some u → u.depth ≤ 0) (hk : ∀ i, i < ns.length → 1 ≤ kindAt ns i ∧ kindAt ns i ≤ 7) (hd : ∀ i, i < ns.length → 0 ≤ depthAt ns i) : fitsB ns = famsB ns := by
  rw [Bool.eq_iff_iff]
  unfold fitsB famsB
  rw [all_range, all_range]
  constructor
  · intro h i hi
    have hf := h i hi
    unfold kidsFitB at hf
    simp only [Bool.and_eq_true, List.all_eq_true] at hf
    unfold famB
    have hpar : 0 < depthAt ns i → kindAt ns i ≠ 5 ∧ (kindAt ns i = 7 → kindAt ns (parentR ns i).toNat = 5 ∧ (kidsL ns (parentR ns i).toNat).length = 1) := fun hdi => by
      obtain ⟨p, hp1, hp2, hp3⟩ := kid_parent hr h0 hi hdi
      have hfp := h p (by omega)
      unfold kidsFitB at hfp
      simp only [Bool.and_eq_true, List.all_eq_true] at hfp
      have hh := hfp.2 i hp3
      rw [hp2, Int.toNat_natCast]
      unfold holdsB at hh
      refine ⟨fun e => by rw [e] at hh; simp at hh, fun e => ?_⟩
      rw [e] at hh
      simp at hh
      exact ⟨hh.1, by omega⟩
    simp only [Bool.and_eq_true, List.all_eq_true]
    refine ⟨⟨⟨⟨hf.1.1, hf.1.2⟩, ?_⟩, ?_⟩, fun j hj => by rw [holds_bad (hf.2 j hj)]; rfl⟩
    · by_cases hdi : 0 < depthAt ns i
      · simp [(hpar hdi).1]
      · simp [hdi]
    · by_cases hdi : 0 < depthAt ns i
      · by_cases h7 : kindAt ns i = 7
        · obtain ⟨a, b⟩ := (hpar hdi).2 h7
          simp [a, b]
        · simp [h7]
      · simp [hdi]
  · intro h i hi
    have hf := h i hi
    unfold famB at hf
    simp only [Bool.and_eq_true, List.all_eq_true] at hf
    obtain ⟨⟨⟨⟨f1, f2⟩, -⟩, -⟩, f5⟩ := hf
    unfold kidsFitB
    simp only [Bool.and_eq_true, List.all_eq_true]
    refine ⟨⟨f1, f2⟩, fun j hj => ?_⟩
    obtain ⟨u, hu⟩ : ∃ u, ns[i]? = some u := ⟨_, List.getElem?_eq_getElem hi⟩
    obtain ⟨k1, k2, k3, -⟩ := (kids_iff hu).1 hj
    have hdu := hd i hi
    rw [depthAt_is hu] at hdu
    have hpj := parent_kid hi hj
    have hfj := h j k2
    unfold famB at hfj
    simp only [Bool.and_eq_true, List.all_eq_true] at hfj
    obtain ⟨⟨⟨-, g3⟩, g4⟩, -⟩ := hfj
    rw [hpj, Int.toNat_natCast] at g4
    have hdj : 0 < depthAt ns j := by omega
    have hb := f5 j hj
    have hb : famBad (kindAt ns i) (kindAt ns j) = false := by simpa using hb
    have n5 : kindAt ns j ≠ 5 := fun e => by rw [e] at g3; simp [hdj] at g3
    unfold holdsB
    by_cases h7 : kindAt ns j = 7
    · rw [h7] at g4
      simp [hdj] at g4
      rw [h7]
      simp [g4.1, g4.2]
    unfold famBad at hb
    simp [n5, h7] at hb ⊢
    obtain ⟨hb1, hb2⟩ := hb
    by_cases h4 : kindAt ns i = 4
    · simp [h4] at hb1 ⊢; exact hb1
    by_cases h3 : kindAt ns i = 3
    · simp [h3] at hb2 ⊢; exact hb2
    simp [h4, h3] at hb1 ⊢
    intro e2
    have hki := hk i hi
    have hleaf : leafB (kindAt ns i) = true := by
      unfold leafB
      have : kindAt ns i = 1 ∨ kindAt ns i = 6 := by
        have := hb1 
        by_cases a2 : kindAt ns i = 2
        · exact absurd e2 (hb1 (.inl (.inl a2)))
        by_cases a5 : kindAt ns i = 5
        · exact absurd e2 (hb1 (.inl (.inr a5)))
        by_cases a7 : kindAt ns i = 7
        · exact absurd e2 (hb1 (.inr a7))
        omega
      rcases this with e | e <;> rw [e] <;> rfl
    have hkr : (kidsR (kindAt ns i)).2 = 0 := by unfold kidsR; rw [if_pos hleaf]
    rw [hkr] at f2
    have hlen : 0 < (kidsL ns i).length := List.length_pos_of_mem hj
    rw [Bool.not_eq_true', decide_eq_false_iff_not] at f2
    omega

end Go.Proofs.Ytedknhneepmgfaa

/- The specification's family of a node. -/
namespace Go.Proofs.Ytedknhneepmgfaa
open Go.RowKit

end Go.Proofs.Ytedknhneepmgfaa

/- The specification's Check of a text. -/
namespace Go.Proofs.Ytedknhneepmgfaa
open Go.RowKit

theorem nodes_at (l : Li) : ∀ (r done : List Nd), nodesErr l done r = 0 → ∀ (k : Nat) (u : Nd), r[k]? = some u → nodeErr l (done ++ r.take k) u = 0
  | [], _, _ => fun k u hk => by simp at hk
  | n :: r, done, h => by
    rw [nodesErr] at h
    split at h
    · rename_i h1; exact absurd h h1
    · rename_i h1
      have h1 : nodeErr l done n = 0 := by simpa using h1
      intro k u hk
      cases k with
      | zero => simp at hk; subst hk; simpa using h1
      | succ k =>
        have := nodes_at l r (done ++ [n]) h k u (by simpa using hk)
        simpa using this
theorem deepR_step {ns : List Nd} {k : Nat} {u : Nd} (h : ns[k]? = some u) : deepR (ns.take (k + 1)) ≤ u.depth + 1 := by
  have hk := (List.getElem?_eq_some_iff.1 h).1
  unfold deepR
  rw [List.length_take, show min (k + 1) ns.length - 1 = k by omega, List.getElem?_take, if_pos (by omega), h]
  dsimp only
  split
  · omega
  · split <;> omega
theorem nodeErr_kind {l : Li} {done : List Nd} {u : Nd} (h : nodeErr l done u = 0) : (1 ≤ u.kind ∧ u.kind ≤ 7) ∧ u.depth ≤ deepR done := by
  unfold nodeErr at h
  split at h
  · omega
  · split at h <;> omega
/-- what the checks of the nodes say of a text -/
theorem nodes_shape {l : Li} {ns : List Nd} (h : nodesErr l [] ns = 0) : Rises ns ∧ (∀ u, ns[0]? = some u → u.depth ≤ 0) ∧ (∀ i, i < ns.length → 1 ≤ kindAt ns i ∧ kindAt ns i ≤ 7) ∧ (∀ i, i < ns.length → 0 ≤ depthAt ns i) := by
  have hat : ∀ (k : Nat) (u : Nd), ns[k]? = some u → nodeErr l (ns.take k) u = 0 := fun k u hk => by have := nodes_at l ns [] h k u hk; simpa using this
  have hdep := nodes_depth l ns [] h (fun x hx => by cases hx)
  refine ⟨fun k u v hu hv => ?_, fun u hu => ?_, fun i hi => ?_, fun i hi => ?_⟩
  · have h1 := (nodeErr_kind (hat (k + 1) v hv)).2
    have h2 := deepR_step hu
    omega
  · have h1 := (nodeErr_kind (hat 0 u hu)).2
    simpa [deepR] using h1
  · obtain ⟨u, hu⟩ : ∃ u, ns[i]? = some u := ⟨_, List.getElem?_eq_getElem hi⟩
    unfold kindAt; rw [getN_at hu]; exact (nodeErr_kind (hat i u hu)).1
  · obtain ⟨u, hu⟩ : ∃ u, ns[i]? = some u := ⟨_, List.getElem?_eq_getElem hi⟩
    rw [depthAt_is hu]; exact (hdep u (List.mem_of_getElem? hu)).1
end Go.Proofs.Ytedknhneepmgfaa
