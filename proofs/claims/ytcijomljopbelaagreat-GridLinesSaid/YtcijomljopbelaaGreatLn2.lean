/-
  The lines of a page: how long they are, what a line's growing leaves as it was, and the answer of Lines.
-/
import Derived.Test.YtcijomljopbelaaGreatLn
import Derived.Test.YtcijomljopbelaaGreatRnQ
namespace Go.Proofs.YtcijomljopbelaaGreat
open Go.RowKit

theorem LnOwn.base {w : World} {b0 b1 : Nat} {v : Value} {ls : List (List Nat)} {vs : List Value} (h : LnOwn w b1 v ls vs) (hb : b0 ≤ b1) : LnOwn w b0 v ls vs :=
  ⟨own_base h.own hb, fun j l x h1 h2 => own_base (h.inn j l x h1 h2) hb, h.out, h.dis⟩
/-- a block made later is none of the rows' -/
theorem LnOwn.off {w : World} {base : Nat} {v : Value} {ls : List (List Nat)} {vs : List Value} (h : LnOwn w base v ls vs) (b : Nat) (hb : b < base ∨ w.heap.size ≤ b) : v.ownBlock ≠ some b ∧ ∀ (j : Nat) (x : Value), vs[j]? = some x → x.ownBlock ≠ some b :=
  ⟨fun e => by have := h.own.lt b e; omega, fun j x hx e => by
    obtain ⟨l, _, hi⟩ := h.inAt hx
    have := hi.lt b e
    omega⟩
/-- what stays while one line grows -/
theorem LnOwn.after {w w1 w' : World} {base G n c : Nat} {ls : List (List Nat)} {vs : List Value} {l : Nat} {x : Value} (h : LnOwn w base (.slice (some ⟨G, 0, none⟩) n c) ls vs) (hx : vs[l]? = some x)
    (hb : Below w.heap.size w w1) (hg : w1.grownBy w' x.ownBlock) :
    w'.cell? ⟨G, l, none⟩ = some x ∧ w'.frozen? ⟨G, l, none⟩ = false ∧ G < w'.heap.size ∧ ∀ (bx : Nat) (cs : Array Value) (t : TypeId), x.ownBlock ≠ some bx → w.heap[bx]? = some (.cells cs t (0, 0)) → w'.heap[bx]? = some (.cells cs t (0, 0)) := by
  have hl := (List.getElem?_eq_some_iff.1 hx).1
  have hlen := h.len
  have hn : n = ls.length := by
    obtain ⟨A2, c2, hv, -⟩ := own_slice h.own
    injection hv
  subst hn
  have hs := hb.size
  have hs2 := hg.size
  have hGx : some G ≠ x.ownBlock := fun e => by
    rcases h.out l x hx with h3 | h3
    · rw [h3] at e; cases e
    · exact h3 e.symm
  have hG : G < w.heap.size := (h.own.lt G rfl).2
  have own := ownsRow_of_block (w' := w') h.own (fun g hg2 => by
    have e : some G = some g := hg2
    injection e with e
    subst e
    exact (hg.block G (by omega) hGx).trans (hb.block G hG))
  obtain ⟨g, e, -, -, -, -, hcell, hfr⟩ := own_open own (by omega)
  injection e with e
  injection e with e
  subst e
  refine ⟨hcell l x hx, hfr l, by omega, fun bx cs t hne hc => ?_⟩
  have hbx := (Array.getElem?_eq_some_iff.1 hc).1
  exact (hg.block bx (by omega) (fun e => hne e.symm)).trans ((hb.block bx hbx).trans hc)

/-- a group's line, as a number -/
def lnF (cw : Bool) (len : Int) (ks : List Shp) (k : Nat) : Nat := (blA cw len ks k).ln.toNat
theorem lnL_len {cw : Bool} {len : Int} {ks : List Shp} (hB : ∀ s ∈ ks, szB s) : ∀ k : Nat, k ≤ ks.length → (lnL (lnF cw len ks) k).length = if k = 0 then 0 else (stA cw len (ks.take k)).1.toNat + 1
  | 0, _ => rfl
  | k + 1, hk => by
    obtain ⟨s, hs⟩ : ∃ s, ks[k]? = some s := ⟨_, List.getElem?_eq_getElem (by omega)⟩
    have ih := lnL_len (cw := cw) (len := len) hB k (by omega)
    have hst := (stA_bd (cw := cw) (len := len) hB k (by omega)).1
    have hf : lnF cw len ks k = (plA cw len (stA cw len (ks.take k)) s).1.toNat := by unfold lnF; rw [blA_at hs]
    have hn : (stA cw len (ks.take (k + 1))).1 = (plA cw len (stA cw len (ks.take k)) s).1 := by rw [stA_step hs]; rfl
    have h0 : k = 0 → plA cw len (stA cw len (ks.take k)) s = (0, 0) := fun e => by
      subst e
      show plA cw len (0, 0) s = (0, 0)
      unfold plA brkB; simp
    have hp : (plA cw len (stA cw len (ks.take k)) s).1 = (stA cw len (ks.take k)).1 ∨ (plA cw len (stA cw len (ks.take k)) s).1 = (stA cw len (ks.take k)).1 + 1 := by
      unfold plA; split
      · exact .inr rfl
      · exact .inl rfl
    rw [if_neg (by omega), hn, lnL, ← hf]
    rcases Nat.eq_zero_or_pos k with e | hpos
    · have h1 := h0 e
      rw [if_pos e] at ih
      have hf0 : lnF cw len ks k = 0 := by rw [hf, h1]; rfl
      rw [lnS_len _ _ _ (by omega), ih, hf0]; rfl
    · rw [if_neg (by omega)] at ih
      rw [lnS_len _ _ _ (by omega), ih]; omega
theorem lnF_ok {cw : Bool} {len : Int} {ks : List Shp} (hB : ∀ s ∈ ks, szB s) (k : Nat) (hk : k < ks.length) : (blA cw len ks k).ln = (lnF cw len ks k : Int) ∧ lnF cw len ks k ≤ (lnL (lnF cw len ks) k).length := by
  obtain ⟨s, hs⟩ : ∃ s, ks[k]? = some s := ⟨_, List.getElem?_eq_getElem (by omega)⟩
  have ih := lnL_len (cw := cw) (len := len) hB k (by omega)
  have hst := stA_bd (cw := cw) (len := len) hB k (by omega)
  have hpb := plA_bd (cw := cw) (len := len) (s := s) hst
  have hf : (blA cw len ks k).ln = (plA cw len (stA cw len (ks.take k)) s).1 := by rw [blA_at hs]
  have h0 : k = 0 → plA cw len (stA cw len (ks.take k)) s = (0, 0) := fun e => by
    subst e
    show plA cw len (0, 0) s = (0, 0)
    unfold plA brkB; simp
  have hp : (plA cw len (stA cw len (ks.take k)) s).1 = (stA cw len (ks.take k)).1 ∨ (plA cw len (stA cw len (ks.take k)) s).1 = (stA cw len (ks.take k)).1 + 1 := by
    unfold plA; split
    · exact .inr rfl
    · exact .inl rfl
  have hu : lnF cw len ks k = (plA cw len (stA cw len (ks.take k)) s).1.toNat := by unfold lnF; rw [hf]
  refine ⟨by rw [hf, hu]; omega, ?_⟩
  rcases Nat.eq_zero_or_pos k with e | hpos
  · rw [hu, h0 e]; exact Nat.zero_le _
  · rw [if_neg (by omega)] at ih
    omega

/-- the answer of Lines -/
def lnsQ (l : Li) (way len : Int) (ns : List Nd) : List (List Nat) × Int :=
  if bothE l ns way len ≠ 0 then ([], bothE l ns way len)
  else (lnL (lnF (cwN way) len (shpsI l (cwN way) (regQ plainP l ns).1)) (shpsI l (cwN way) (regQ plainP l ns).1).length, 0)
def GotLnE (q : List (List Nat) × Int) (w : World) (e : Ending) (w' : World) : Prop := ∃ A c vs, e = .returned (.tuple #[.slice A q.1.length c, .int .i64 q.2]) ∧ Hid (LnOwn w' w.heap.size (.slice A q.1.length c) q.1 vs) ∧ Below w.heap.size w w'

end Go.Proofs.YtcijomljopbelaaGreat
