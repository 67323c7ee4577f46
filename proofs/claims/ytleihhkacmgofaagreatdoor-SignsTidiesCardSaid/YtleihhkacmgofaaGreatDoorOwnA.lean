/-
  Signs in a row of the call's own: one more; a value of one of them written.
-/
import Derived.Test.YtleihhkacmgofaaGreatDoorPTid
namespace Go.Proofs.YtleihhkacmgofaaGreatDoor
open Go.RowKit

theorem valsAt_blocks {w w' : World} {A : Option Addr} {vs : List Va} (h : ValsAt w A vs) (hs : w.heap.size ≤ w'.heap.size) (hb : 0 < vs.length → ∀ b o, A = some ⟨b, o, none⟩ → b < w.heap.size → w'.heap[b]? = w.heap[b]?) : ValsAt w' A vs := fun k v hk => by
  obtain ⟨b, o, e, hlt, hv⟩ := h k v hk
  have hc : ∀ p, w'.cell? ⟨b, p, none⟩ = w.cell? ⟨b, p, none⟩ := fun p => World.cell?_of_block (a := ⟨b, p, none⟩) (hb (by have := (List.getElem?_eq_some_iff.1 hk).1; omega) b o e hlt)
  exact ⟨b, o, e, by omega, ⟨(hc _).trans hv.c0, (hc _).trans hv.c1, (hc _).trans hv.c2, (hc _).trans hv.c3, hv.sz⟩⟩
theorem smOk_blocks {w w' : World} {m : Sm} (h : SmOk w m) (hs : w.heap.size ≤ w'.heap.size) (hb : 0 < m.s.vals.length → ∀ b o, m.A = some ⟨b, o, none⟩ → b < w.heap.size → w'.heap[b]? = w.heap[b]?) : SmOk w' m := ⟨valsAt_blocks h.vals hs hb, h.len, h.cap, h.code⟩
theorem vals_lt {w : World} {A : Option Addr} {vs : List Va} (h : ValsAt w A vs) (h0 : 0 < vs.length) : ∀ b o, A = some ⟨b, o, none⟩ → b < w.heap.size := fun b o e => by
  obtain ⟨b', o', e', hlt, _⟩ := h 0 vs[0] (List.getElem?_eq_getElem h0)
  rw [e] at e'
  injection e' with e'; injection e' with e1 _
  omega

/-- one sign more in the row -/
theorem OwnSigns.append {w w3 : World} {base : Nat} {A A3 : Option Addr} {c c3 : Nat} {cs : List Sm} {m : Sm} {blk : Obj} (h : OwnSigns w base A c cs) (hm : SmOk w m) (ha : 0 < m.s.vals.length → ∀ b o, m.A = some ⟨b, o, none⟩ → (Value.slice A cs.length c).ownBlock ≠ some b)
    (hown : w3.ownsRow base 39 5 (.slice A3 (cs.length + 1) c3) (cs.length + 1) (cs.flatMap Sm.cells ++ m.cells))
    (hg : (w.alloc blk).grownBy w3 (Value.slice A cs.length c).ownBlock)
    (hat : (Value.slice A3 (cs.length + 1) c3).ownBlock = (Value.slice A cs.length c).ownBlock ∨ (Value.slice A3 (cs.length + 1) c3).ownBlock = some (w.alloc blk).heap.size) :
    OwnSigns w3 base A3 c3 (cs ++ [m]) := by
  have hs : w.heap.size + 1 ≤ w3.heap.size := by have := hg.size; simpa using this
  have hkeep : ∀ b, b < w.heap.size → (Value.slice A cs.length c).ownBlock ≠ some b → w3.heap[b]? = w.heap[b]? := fun b hb hne => by
    rw [hg.block b (by simp; omega) (fun e => hne e.symm), heap_alloc_other _ _ _ hb]
  have hall : ∀ x ∈ cs ++ [m], SmOk w x ∧ (0 < x.s.vals.length → ∀ b o, x.A = some ⟨b, o, none⟩ → (Value.slice A cs.length c).ownBlock ≠ some b) := fun x hx => by
    rcases List.mem_append.1 hx with hx | hx
    · exact ⟨h.ok x hx, h.apart x hx⟩
    · simp at hx; subst hx; exact ⟨hm, ha⟩
  have hl : (cs ++ [m]).length = cs.length + 1 := by simp
  refine ⟨?_, fun x hx => ?_, fun x hx h0 b o e => ?_⟩
  · rw [hl, List.flatMap_append]
    simpa using hown
  · exact smOk_blocks (hall x hx).1 (by omega) (fun h0 b o e hb => hkeep b hb ((hall x hx).2 h0 b o e))
  · rw [hl]
    rcases hat with ha2 | ha2
    · rw [ha2]; exact (hall x hx).2 h0 b o e
    · rw [ha2]
      intro e2
      injection e2 with e2
      have := vals_lt (hall x hx).1.vals h0 b o e
      simp at e2
      omega

theorem flatV_fr {V : List Va} {j : Nat} {v : Va} (h : V[j]? = some v) (n : Int) : (V.flatMap Va.cells).set (j * 4 + 2) (.int .i64 n) = (V.set j ⟨v.kind, v.text, n, v.to⟩).flatMap Va.cells := by
  induction V generalizing j with
  | nil => simp at h
  | cons x r ih =>
    cases j with
    | zero => simp at h; subst h; simp [Va.cells]
    | succ j =>
      have := ih (j := j) (by simpa using h)
      rw [List.set_cons_succ, List.flatMap_cons, List.flatMap_cons, ← this, List.set_append_right _ _ (by simp [Va.cells]; omega)]
      congr 1
      congr 1
      simp [Va.cells]
      omega
theorem flatV_to {V : List Va} {j : Nat} {v : Va} (h : V[j]? = some v) (n : Int) : (V.flatMap Va.cells).set (j * 4 + 3) (.int .i64 n) = (V.set j ⟨v.kind, v.text, v.fr, n⟩).flatMap Va.cells := by
  induction V generalizing j with
  | nil => simp at h
  | cons x r ih =>
    cases j with
    | zero => simp at h; subst h; simp [Va.cells]
    | succ j =>
      have := ih (j := j) (by simpa using h)
      rw [List.set_cons_succ, List.flatMap_cons, List.flatMap_cons, ← this, List.set_append_right _ _ (by simp [Va.cells]; omega)]
      congr 1
      congr 1
      simp [Va.cells]
      omega

/-- values in a row of the call's own -/
structure OwnVals (w : World) (base : Nat) (A : Option Addr) (c : Nat) (V : List Va) : Prop where
  own : w.ownsRow base 42 4 (.slice A V.length c) V.length (V.flatMap Va.cells)
  sz : ∀ v ∈ V, v.text.size ≤ maxLen
theorem OwnVals.vals {w : World} {base : Nat} {A : Option Addr} {c : Nat} {V : List Va} (h : OwnVals w base A c V) : ValsAt w A V ∧ V.length ≤ c ∧ c ≤ maxLen ∧ ∀ b o, A = some ⟨b, o, none⟩ → base ≤ b := own_vals h.own h.sz
theorem OwnVals.below {w w' : World} {base : Nat} {A : Option Addr} {c : Nat} {V : List Va} (h : OwnVals w base A c V) (hb : Below w.heap.size w w') : OwnVals w' base A c V :=
  ⟨ownsRow_of_block h.own (fun g hg => hb.block g (h.own.lt g hg).2), h.sz⟩
theorem OwnVals.fr {w : World} {base g c : Nat} {V : List Va} (h : OwnVals w base (some ⟨g, 0, none⟩) c V) {j : Nat} {v : Va} (hj : V[j]? = some v) (n : Int) : OwnVals (w.setCell ⟨g, j * 4 + 2, none⟩ (.int .i64 n)) base (some ⟨g, 0, none⟩) c (V.set j ⟨v.kind, v.text, n, v.to⟩) := by
  refine ⟨?_, fun x hx => ?_⟩
  · rw [List.length_set, ← flatV_fr hj]; exact (h.own.stored _ _).1
  · rcases List.mem_or_eq_of_mem_set hx with hx | rfl
    · exact h.sz x hx
    · exact h.sz v (List.mem_of_getElem? hj)
theorem OwnVals.to {w : World} {base g c : Nat} {V : List Va} (h : OwnVals w base (some ⟨g, 0, none⟩) c V) {j : Nat} {v : Va} (hj : V[j]? = some v) (n : Int) : OwnVals (w.setCell ⟨g, j * 4 + 3, none⟩ (.int .i64 n)) base (some ⟨g, 0, none⟩) c (V.set j ⟨v.kind, v.text, v.fr, n⟩) := by
  refine ⟨?_, fun x hx => ?_⟩
  · rw [List.length_set, ← flatV_to hj]; exact (h.own.stored _ _).1
  · rcases List.mem_or_eq_of_mem_set hx with hx | rfl
    · exact h.sz x hx
    · exact h.sz v (List.mem_of_getElem? hj)
/-- the signs of a row while values of one of them are written: the others as they were, this one with the values that lie there now -/
theorem OwnSigns.vals_turned {w w' : World} {base g2 : Nat} {A A2 : Option Addr} {c c2 : Nat} {cs : List Sm} {u : Sm} {k : Nat} {V V' : List Va} (h : OwnSigns w base A c (cs.set k (u.with V A2 c2))) (hk : k < cs.length)
    (hap : ∀ m ∈ cs, ApartG g2 m.A m.s.vals) (hne : (Value.slice A cs.length c).ownBlock ≠ some g2) (hs : w.heap.size ≤ w'.heap.size) (hb : ∀ b, b < w.heap.size → b ≠ g2 → w'.heap[b]? = w.heap[b]?)
    (hl : V'.length = V.length) (hv : ValsAt w' A2 V') (hA : 0 < V'.length → ∀ b o, A2 = some ⟨b, o, none⟩ → b = g2) : OwnSigns w' base A c (cs.set k (u.with V' A2 c2)) := by
  have hlen : ∀ (x : Sm), (cs.set k x).length = cs.length := fun x => by simp
  have hcell : (cs.set k (u.with V' A2 c2)).flatMap Sm.cells = (cs.set k (u.with V A2 c2)).flatMap Sm.cells := by
    have h1 := flat_set (ms := cs) (k := k) (m := cs[k]) (List.getElem?_eq_getElem hk) V A2 c2
    have e : ∀ X : List Va, X.length = V.length → (cs.set k (u.with X A2 c2)).flatMap Sm.cells = (cs.set k (u.with V A2 c2)).flatMap Sm.cells := by
      intro X hX
      rw [List.flatMap_def, List.flatMap_def, List.map_set, List.map_set]
      congr 2
      simp [Sm.cells, Sm.with, hX]
    exact e V' hl
  have hu := h.ok (u.with V A2 c2) (List.mem_of_getElem? (by rw [List.getElem?_set_self (by simpa using hk)]))
  have hoth : ∀ x ∈ cs.set k (u.with V' A2 c2), x = u.with V' A2 c2 ∨ (x ∈ cs ∧ x ∈ cs.set k (u.with V A2 c2)) := fun x hx => by
    obtain ⟨i, hi⟩ := List.getElem?_of_mem hx
    by_cases hik : i = k
    · subst hik
      rw [List.getElem?_set_self (by simpa using hk)] at hi
      injection hi with hi; exact .inl hi.symm
    · rw [List.getElem?_set_ne (fun e => hik e.symm)] at hi
      refine .inr ⟨List.mem_of_getElem? hi, List.mem_of_getElem? (i := i) ?_⟩
      rw [List.getElem?_set_ne (fun e => hik e.symm)]; exact hi
  refine ⟨?_, fun x hx => ?_, fun x hx h0 b o e => ?_⟩
  · rw [hcell]
    have h1 := h.own
    rw [hlen] at h1 ⊢
    exact ownsRow_of_block h1 (fun g hg => hb g (h1.lt g hg).2 (fun e => hne (by rw [← e]; exact hg)))
  · rcases hoth x hx with rfl | ⟨h1, h2⟩
    · exact ⟨hv, by have := hu.len; unfold Sm.with at this ⊢; dsimp only at this ⊢; omega, hu.cap, hu.code⟩
    · exact smOk_blocks (h.ok x h2) hs (fun h0 b o e hlt => hb b hlt (fun e2 => hap x h1 h0 b o e e2.symm))
  · rw [hlen]
    rcases hoth x hx with rfl | ⟨h1, h2⟩
    · have := hA h0 b o e; rw [this]; exact hne
    · have := h.apart x h2 h0 b o e; rw [hlen] at this; exact this

end Go.Proofs.YtleihhkacmgofaaGreatDoor
