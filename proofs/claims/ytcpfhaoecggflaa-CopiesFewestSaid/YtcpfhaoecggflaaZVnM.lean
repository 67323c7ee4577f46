/-
  Variants in a row of the call's own, beside stretches (layer 9).
-/
import Derived.Test.YtcpfhaoecggflaaZSrt
import Derived.Test.YtcpfhaoecggflaaZStr
import Derived.Test.YtcpfhaoecggflaaZChk
namespace Go.Proofs.Ytcpfhaoecggflaa
open Go.RowKit

theorem IntsIn.blocks {w w' : World} {A : Option Addr} {zs : List Int} (h : IntsIn w A zs) (hs : w.heap.size ≤ w'.heap.size) (hb : ∀ g o, A = some ⟨g, o, none⟩ → 0 < zs.length → g < w.heap.size → w'.heap[g]? = w.heap[g]?) : IntsIn w' A zs := fun k z hk => by
  obtain ⟨b, o, e, hlt, hv⟩ := h k z hk
  exact ⟨b, o, e, by omega, (World.cell?_of_block (a := ⟨b, o + k, none⟩) (hb b o e (by have := (List.getElem?_eq_some_iff.1 hk).1; omega) hlt)).trans hv⟩
theorem IntsIn.lt {w : World} {zs : List Int} {g o : Nat} (h : IntsIn w (some ⟨g, o, none⟩) zs) (h0 : 0 < zs.length) : g < w.heap.size := by
  obtain ⟨b, o', e, hlt, _⟩ := h 0 zs[0] (List.getElem?_eq_getElem h0)
  injection e with e; injection e with e1 e2
  omega
/-- the row of variants -/
structure OwnVs (w : World) (base : Nat) (v : Value) (vs : List Vn) : Prop where
  own : w.ownsRow base 39 3 v vs.length (vs.flatMap Vn.cells)
  ok : ∀ x ∈ vs, IntsIn w x.A x.sg ∧ ∀ g o, x.A = some ⟨g, o, none⟩ → 0 < x.sg.length → v.ownBlock ≠ some g
theorem OwnVs.nil (w : World) (base : Nat) : OwnVs w base (.slice none 0 0) [] := ⟨by simpa using World.ownsRow_nil _ _ _ _, fun r h => by cases h⟩
theorem OwnVs.below {w w' : World} {base : Nat} {v : Value} {vs : List Vn} (h : OwnVs w base v vs) (hb : Below w.heap.size w w') : OwnVs w' base v vs :=
  ⟨own_below h.own hb, fun x hx => ⟨(h.ok x hx).1.below hb, (h.ok x hx).2⟩⟩
theorem OwnVs.snoc {w w' : World} {base n : Nat} {v v' : Value} {vs : List Vn} {x : Vn} (h : OwnVs w base v vs) (hn : n = vs.length + 1) (hg : w.grownBy w' v.ownBlock) (hv : v'.ownBlock = v.ownBlock ∨ v'.ownBlock = some w.heap.size)
    (hx : IntsIn w x.A x.sg) (hxa : ∀ g o, x.A = some ⟨g, o, none⟩ → 0 < x.sg.length → v.ownBlock ≠ some g)
    (hown : w'.ownsRow base 39 3 v' n (vs.flatMap Vn.cells ++ x.cells)) : OwnVs w' base v' (vs ++ [x]) := by
  subst hn
  refine ⟨by rw [List.length_append, List.flatMap_append]; simpa using hown, fun y hy => ?_⟩
  have key : IntsIn w y.A y.sg ∧ ∀ g o, y.A = some ⟨g, o, none⟩ → 0 < y.sg.length → v.ownBlock ≠ some g := by
    rcases List.mem_append.1 hy with hy | hy
    · exact h.ok y hy
    · simp at hy; subst hy; exact ⟨hx, hxa⟩
  obtain ⟨k1, k2⟩ := key
  refine ⟨k1.blocks hg.size fun g o e h0 hlt => hg.block g hlt fun e2 => k2 g o e h0 e2.symm, fun g o e h0 e2 => ?_⟩
  rcases hv with hv | hv
  · rw [hv] at e2; exact k2 g o e h0 e2
  · rw [hv] at e2; injection e2 with e2
    have := IntsIn.lt (e ▸ k1) h0; omega
/-- stretches that lie apart from a row -/
def StAp (v sv : Value) (rs : List Sr) : Prop := ∀ k, v.ownBlock = some k → sv.ownBlock ≠ some k ∧ ∀ r ∈ rs, r.val.ownBlock ≠ some k
theorem OwnSt.keep {w w' : World} {base : Nat} {sv : Value} {rs : List Sr} (h : OwnSt w base sv rs) (hb : ∀ k, k < w.heap.size → (sv.ownBlock = some k ∨ ∃ r ∈ rs, r.val.ownBlock = some k) → w'.heap[k]? = w.heap[k]?) : OwnSt w' base sv rs :=
  ⟨ownsRow_of_block h.own fun k hk => hb k (h.own.lt k hk).2 (.inl hk), fun r hr => ⟨ownsRow_of_block (h.ok r hr).1 fun k hk => hb k ((h.ok r hr).1.lt k hk).2 (.inr ⟨r, hr, hk⟩), (h.ok r hr).2⟩, h.apart⟩
theorem OwnSt.grown {w w' : World} {base : Nat} {v v' sv : Value} {rs : List Sr} (h : OwnSt w base sv rs) (ha : StAp v sv rs) (hg : w.grownBy w' v.ownBlock) (hv : v'.ownBlock = v.ownBlock ∨ v'.ownBlock = some w.heap.size) : OwnSt w' base sv rs ∧ StAp v' sv rs := by
  refine ⟨h.keep fun k hk hor => hg.block k hk fun e => ?_, fun k hk => ?_⟩
  · rcases hor with h1 | ⟨r, hr, h1⟩
    · exact (ha k e.symm).1 h1
    · exact (ha k e.symm).2 r hr h1
  · rcases hv with hv | hv
    · rw [hv] at hk; exact ha k hk
    · rw [hv] at hk; injection hk with hk
      exact ⟨fun e => by have := (h.own.lt k e).2; omega, fun r hr e => by have := ((h.ok r hr).1.lt k e).2; omega⟩
theorem OwnSt.ints {w : World} {base : Nat} {sv : Value} {rs : List Sr} (h : OwnSt w base sv rs) {r : Sr} (hr : r ∈ rs) : IntsIn w r.A r.s.sg := own_ints (h.ok r hr).1
/-- a stretch's cells -/
theorem OwnSt.cells {w : World} {base g n c : Nat} {rs : List Sr} (h : OwnSt w base (.slice (some ⟨g, 0, none⟩) n c) rs) {k : Nat} {r : Sr} (hk : rs[k]? = some r) : ∀ j, j < 3 → w.cell? ⟨g, k * 3 + j, none⟩ = r.cells[j]? := fun j hj => by
  obtain ⟨A', c', hv, -, -, h3, -⟩ := own_slice h.own
  injection hv with e1 e2 e3
  obtain ⟨g', e, -, -, hc⟩ := h3 ⟨g, 0, none⟩ e1.symm
  injection e with e
  subst e
  have hf := flat_at (f := Sr.cells) (c := 3) cells3 rs k r hk j hj
  have hu : r.cells[j]? = some (r.cells[j]'(by rw [cells3]; exact hj)) := List.getElem?_eq_getElem _
  rw [hu] at hf ⊢
  exact hc _ _ hf
/-- the variants of the first copies -/
def vOf (i : Nat) (s : St) : Int × Int × List Int := (s.at', i, s.sg)
def vPre (base : List Int) (rs : List Rw) : Nat → List (Int × Int × List Int)
  | 0 => []
  | i + 1 => vPre base rs i ++ (match rs[i]? with | some r => (strsQ base r.zs).map (vOf i) | none => [])
theorem vPre_at (base : List Int) (rs : List Rw) (i : Nat) (r : Rw) (h : rs[i]? = some r) : vPre base rs (i + 1) = vPre base rs i ++ (strsQ base r.zs).map (vOf i) := by
  rw [vPre, h]
def varE (base : List Int) (rs : List Rw) : Int := if lnErr base ≠ 0 then lnErr base else if 8 < rs.length then 2 else lnsErr rs
def ctLt (x y : Int × Int × List Int) : Prop := x.1 < y.1 ∨ (x.1 = y.1 ∧ x.2.1 < y.2.1)
/-- what Variants returns -/
def VarsQ (base : List Int) (rs : List Rw) (L : List (Int × Int × List Int)) : Prop := L.Perm (if varE base rs ≠ 0 then [] else vPre base rs rs.length) ∧ L.Pairwise fun x y => ¬ ctLt y x
def VarsAt (w : World) (A : Option Addr) (L : List (Int × Int × List Int)) : Prop := ∀ i y, L[i]? = some y → ∃ g B c, A = some ⟨g, 0, none⟩ ∧ g < w.heap.size ∧ w.cell? ⟨g, i * 3, none⟩ = some (.int .i64 y.1) ∧ w.cell? ⟨g, i * 3 + 1, none⟩ = some (.int .i64 y.2.1) ∧ w.cell? ⟨g, i * 3 + 2, none⟩ = some (.slice B y.2.2.length c) ∧ IntsIn w B y.2.2
def GotVars (w : World) (base : List Int) (rs : List Rw) (e : Ending) (w' : World) : Prop := ∃ A k c L, e = .returned (.tuple #[.slice A k c, .int .i64 (varE base rs)]) ∧ Hid (k = L.length) ∧ Hid (VarsQ base rs L) ∧ Hid (VarsAt w' A L) ∧ Below w.heap.size w w'

end Go.Proofs.Ytcpfhaoecggflaa
