/-
  What holds in parseLines: the signs that have been read.
-/
import Derived.Test.YtleihhkacmgofaaGreatDoorPsign
namespace Go.Proofs.YtleihhkacmgofaaGreatDoor
open Go.RowKit

/-- what holds at the head of a round of parseLines -/
structure LinesRel (w wr : World) (per : Int) (k : Nat) (v : Value) (cs : List Sm) : Prop where
  below : Below w.heap.size w wr
  b0 : wr.heap[w.heap.size]? = some (.cells #[.int .i64 per, v] 24 (0, 0))
  own : wr.ownsRow (w.heap.size + 1) 39 5 v k (cs.flatMap Sm.cells)
  len : cs.length = k
  ok : ∀ m ∈ cs, SmOk wr m
  apart : ∀ m ∈ cs, ∀ b o, m.A = some ⟨b, o, none⟩ → w.heap.size + 1 ≤ b ∧ v.ownBlock ≠ some b ∧ b < wr.heap.size

theorem LinesRel.step {w wr w1 w3 : World} {per : Int} {k c2 : Nat} {v : Value} {cs : List Sm} {u : Sm} {box blk : Obj} {A2 : Option Addr}
    (h : LinesRel w wr per k v cs) (hb1 : Below wr.heap.size wr w1) (hu : SmOk w1 u) (hua : ∀ b o, u.A = some ⟨b, o, none⟩ → wr.heap.size ≤ b ∧ b < w1.heap.size)
    (own2 : w3.ownsRow (w.heap.size + 1) 39 5 (.slice A2 (k + 1) c2) (k + 1) (cs.flatMap Sm.cells ++ Sm.cells u))
    (hg2 : ((w1.alloc box).alloc blk).grownBy w3 v.ownBlock)
    (hat : (Value.slice A2 (k + 1) c2).ownBlock = v.ownBlock ∨ (Value.slice A2 (k + 1) c2).ownBlock = some ((w1.alloc box).alloc blk).heap.size) :
    LinesRel w (w3.setCell ⟨w.heap.size, 1, none⟩ (.slice A2 (k + 1) c2)) per (k + 1) (.slice A2 (k + 1) c2) (cs ++ [u]) := by
  have hlt0 : w.heap.size < wr.heap.size := (Array.getElem?_eq_some_iff.1 h.b0).1
  have s1 : wr.heap.size ≤ w1.heap.size := hb1.size
  have s2 : w1.heap.size + 1 + 1 ≤ w3.heap.size := by have := hg2.size; simpa using this
  have s3 : (w3.setCell ⟨w.heap.size, 1, none⟩ (.slice A2 (k + 1) c2)).heap.size = w3.heap.size := by simp
  have hvb : ∀ g, v.ownBlock = some g → w.heap.size + 1 ≤ g ∧ g < wr.heap.size := fun g hg => h.own.lt g hg
  have keep1 : ∀ g, g < w1.heap.size → v.ownBlock ≠ some g → w3.heap[g]? = w1.heap[g]? := fun g h1 h3 => by
    rw [hg2.block g (by simp; omega) (fun e => h3 e.symm), heap_alloc_other _ _ _ (by simp; omega), heap_alloc_other _ _ _ (by omega)]
  have keep : ∀ g, g < wr.heap.size → v.ownBlock ≠ some g → w3.heap[g]? = wr.heap[g]? := fun g h1 h3 => by
    rw [keep1 g (by omega) h3, hb1.block g h1]
  have set_ : ∀ g, g ≠ w.heap.size → (w3.setCell ⟨w.heap.size, 1, none⟩ (.slice A2 (k + 1) c2)).heap[g]? = w3.heap[g]? := fun g hg => heap_setCell_other _ _ _ _ hg
  refine ⟨?_, ?_, ?_, ?_, ?_, ?_⟩
  · have b1 := ((h.below.trans (hb1.mono (by omega))).alloc (by omega) box).alloc (by simp; omega) blk
    exact (b1.grown hg2 (by simp; omega) (fun g hg => by have := hvb g hg; omega)).setCell (by dsimp only; omega) _
  · have hb : w3.heap[w.heap.size]? = some (.cells #[.int .i64 per, v] 24 (0, 0)) := by
      rw [keep _ hlt0 (fun e => by have := hvb _ e; omega)]; exact h.b0
    rw [heap_setCell_same _ _ _ _ _ _ hb]; rfl
  · have := ownsRow_of_block (w' := w3.setCell ⟨w.heap.size, 1, none⟩ (.slice A2 (k + 1) c2)) own2 (fun g hg => set_ g (by
      have := (own2.lt g hg).1; omega))
    simpa using this
  · simp [h.len]
  · intro m hm
    rcases List.mem_append.1 hm with hm | hm
    · exact smok_of_blocks (h.ok m hm) (by rw [s3]; omega) (fun b o e hb => by
        have := h.apart m hm b o e
        rw [set_ b (by omega)]; exact keep b hb this.2.1)
    · simp at hm; subst hm
      exact smok_of_blocks hu (by rw [s3]; omega) (fun b o e hb => by
        have := hua b o e
        rw [set_ b (by omega)]; exact keep1 b hb (fun e => by have := hvb b e; omega))
  · intro m hm b o e
    rcases List.mem_append.1 hm with hm | hm
    · have ha := h.apart m hm b o e
      refine ⟨ha.1, ?_, by rw [s3]; omega⟩
      rcases hat with h1 | h1
      · rw [h1]; exact ha.2.1
      · rw [h1]; intro e'; injection e' with e'; simp at e'; omega
    · simp at hm; subst hm
      have ha := hua b o e
      refine ⟨by omega, ?_, by rw [s3]; omega⟩
      rcases hat with h1 | h1
      · rw [h1]; intro e'; have := hvb b e'; omega
      · rw [h1]; intro e'; injection e' with e'; simp at e'; omega

theorem LinesRel.done {w wr w' : World} {per : Int} {k c' : Nat} {A' : Option Addr} {cs : List Sm} (h : LinesRel w wr per k (.slice A' k c') cs) (hs : w'.heap.size = wr.heap.size) (hk : ∀ g, g ≠ w.heap.size → w'.heap[g]? = wr.heap[g]?) :
    LmOk w' ⟨per, cs, A', c'⟩ := by
  obtain ⟨A1, c1, e1, hc1, hc1m, hA1, hA1n⟩ := own_slice h.own
  injection e1 with e1 e2 e3
  subst e1 e3
  refine ⟨fun k m hk' => ?_, by dsimp only; rw [h.len]; exact hc1, hc1m⟩
  dsimp only at hk' ⊢
  have hlt : k < cs.length := (List.getElem?_eq_some_iff.1 hk').1
  cases hA : A' with
  | none => have := hA1n hA; have := h.len; omega
  | some ad =>
    obtain ⟨g, rfl, hg0, hg1, hcell⟩ := hA1 ad hA
    have hc : ∀ p, w'.cell? ⟨g, p, none⟩ = wr.cell? ⟨g, p, none⟩ := fun p => World.cell?_of_block (a := ⟨g, p, none⟩) (hk g (by omega))
    have hm := List.mem_of_getElem? hk'
    exact ⟨g, 0, rfl, by omega, sm_cells_at (fun j u hj => (hc j).trans (hcell j u hj)) hk', smok_of_blocks (h.ok m hm) (by omega) (fun b o e _ => hk b (by have := (h.apart m hm b o e).1; omega))⟩

end Go.Proofs.YtleihhkacmgofaaGreatDoor
