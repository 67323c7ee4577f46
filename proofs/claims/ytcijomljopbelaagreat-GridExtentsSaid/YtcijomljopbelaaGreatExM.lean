/-
  What the extent of boxes is (Extent): what both sides answer.
-/
import Derived.Test.YtcijomljopbelaaGreatGaP
import Derived.Test.YtcijomljopbelaaGreatRsb
namespace Go.Proofs.YtcijomljopbelaaGreat
open Go.RowKit

def stepMin (s : Bool) (m : Fr) (b : Bx) : Fr := if (b.st s).num * m.den < m.num * (b.st s).den then b.st s else m
def stepMax (s : Bool) (m : Fr) (b : Bx) : Fr := if m.num * (b.en s).den < (b.en s).num * m.den then b.en s else m
/-- where the first k boxes begin, and where they end -/
def minK (s : Bool) (bs : List Bx) (k : Nat) : Fr := (bs.take k).foldl (stepMin s) (match bs[0]? with | some b => b.st s | none => ⟨0, 0⟩)
def maxK (s : Bool) (bs : List Bx) (k : Nat) : Fr := (bs.take k).foldl (stepMax s) (match bs[0]? with | some b => b.en s | none => ⟨0, 0⟩)
def minusF (a b : Fr) : Fr := fracR (a.num * b.den - b.num * a.den) (a.den * b.den)
def extS (s : Bool) (bs : List Bx) : Fr := minK s bs bs.length
def extZ (s : Bool) (bs : List Bx) : Fr := minusF (maxK s bs bs.length) (minK s bs bs.length)
def extR (bs : List Bx) : (Fr × Fr × Fr × Fr) × Int :=
  if chkB bs ≠ 0 then ((⟨0, 0⟩, ⟨0, 0⟩, ⟨0, 0⟩, ⟨0, 0⟩), chkB bs)
  else if bs.length = 0 then ((⟨0, 0⟩, ⟨0, 0⟩, ⟨0, 0⟩, ⟨0, 0⟩), 3)
  else if (vF (extZ false bs) && vF (extZ true bs)) = true then ((extS false bs, extS true bs, extZ false bs, extZ true bs), 0)
  else ((⟨0, 0⟩, ⟨0, 0⟩, ⟨0, 0⟩, ⟨0, 0⟩), 41)
theorem fold_take {α β : Type} (f : β → α → β) (z : β) {l : List α} {k : Nat} {x : α} (hx : l[k]? = some x) : (l.take (k + 1)).foldl f z = f ((l.take k).foldl f z) x := by
  obtain ⟨hk, e⟩ := List.getElem?_eq_some_iff.1 hx
  rw [List.take_succ_eq_append_getElem hk, e, List.foldl_append]; rfl
theorem minK_step (s : Bool) {bs : List Bx} {k : Nat} {x : Bx} (hx : bs[k]? = some x) : minK s bs (k + 1) = stepMin s (minK s bs k) x := fold_take _ _ hx
theorem maxK_step (s : Bool) {bs : List Bx} {k : Nat} {x : Bx} (hx : bs[k]? = some x) : maxK s bs (k + 1) = stepMax s (maxK s bs k) x := fold_take _ _ hx
theorem minK_zero (s : Bool) {bs : List Bx} {x : Bx} (hx : bs[0]? = some x) : minK s bs 0 = x.st s := by unfold minK; rw [hx]; rfl
theorem maxK_zero (s : Bool) {bs : List Bx} {x : Bx} (hx : bs[0]? = some x) : maxK s bs 0 = x.en s := by unfold maxK; rw [hx]; rfl
theorem fold_keep {α β : Type} (f : β → α → β) (q : β → Prop) : ∀ (l : List α) (z : β), q z → (∀ z x, q z → x ∈ l → q (f z x)) → q (l.foldl f z)
  | [], _, h, _ => h
  | a :: l, z, h, hf => fold_keep f q l (f z a) (hf z a h (List.mem_cons_self ..)) fun z x hz hx => hf z x hz (List.mem_cons_of_mem _ hx)
theorem minK_ok (s : Bool) {bs : List Bx} {x0 : Bx} (h0 : bs[0]? = some x0) (h : ∀ x ∈ bs, bothB x = true) (k : Nat) : vF (minK s bs k) = true := by
  unfold minK; rw [h0]
  refine fold_keep _ (fun m => vF m = true) _ _ (both_valid (h x0 (List.mem_of_getElem? h0)) s).1 fun z x hz hx => ?_
  unfold stepMin; split
  · exact (both_valid (h x (List.mem_of_mem_take hx)) s).1
  · exact hz
theorem maxK_ok (s : Bool) {bs : List Bx} {x0 : Bx} (h0 : bs[0]? = some x0) (h : ∀ x ∈ bs, bothB x = true) (k : Nat) : vF (maxK s bs k) = true := by
  unfold maxK; rw [h0]
  refine fold_keep _ (fun m => vF m = true) _ _ (both_valid (h x0 (List.mem_of_getElem? h0)) s).2.2 fun z x hz hx => ?_
  unfold stepMax; split
  · exact (both_valid (h x (List.mem_of_mem_take hx)) s).2.2
  · exact hz

end Go.Proofs.YtcijomljopbelaaGreat
