/-
  The line of a text by its groups and by its nodes: both sides read the same leaves. And what builds on it.
-/
import Derived.Test.YtmiokllpdmmfhaaGreatLaH
import Derived.Test.YtmiokllpdmmfhaaGreatLaF
import Derived.Test.YtmiokllpdmmfhaaGreatLaB
import Derived.Deep.AppendLies
import Derived.Test.YtmiokllpdmmfhaaGreatLaG
import Derived.Test.YtmiokllpdmmfhaaGreatLaE
import Derived.Deep.RegionHeld3
import Derived.Deep.DeepCutAuto
import Derived.Test.YtmiokllpdmmfhaaGreatLaD
import Derived.Test.YtmiokllpdmmfhaaGreatLcK
namespace Go.Proofs.YtmiokllpdmmfhaaGreat
theorem tops_parts {ns : List Nd} (h : Shape ns) : ∀ (n k : Nat), ns.length - k ≤ n → (∀ u, ns[k]? = some u → u.depth = 0) → (partsW k (ns.drop k)).map (·.1) = (List.range' k (ns.length - k)).filter (atD ns 0)
  | 0, k, hn, _ => by
    rw [List.drop_eq_nil_of_le (by omega), partsW_nil, show ns.length - k = 0 by omega]; rfl
  | n + 1, k, hn, hd => by
    rcases Nat.lt_or_ge k ns.length with hk | hk
    · obtain ⟨u, hu⟩ : ∃ u, ns[k]? = some u := ⟨_, List.getElem?_eq_getElem hk⟩
      have hu0 := hd u hu
      have h0 : (ns.drop k)[0]? = some u := by rw [List.getElem?_drop, Nat.add_zero]; exact hu
      rw [partsW_at h0, List.map_cons]
      obtain ⟨m, hm⟩ : ∃ m, m = 1 + spanN (ns.drop k) u.depth 0 := ⟨_, rfl⟩
      rw [← hm]
      have hsp : spanN (ns.drop k) u.depth 0 = spanN ns 0 k := by rw [spanN_drop, Nat.add_zero, hu0]
      rw [hsp] at hm
      have hle := spanN_le ns 0 k hk
      have hnext : ∀ u', ns[k + m]? = some u' → u'.depth = 0 := fun u' hu' => by
        have h1 := (h.depth u' (List.mem_of_getElem? hu')).1
        rcases spanN_end ns 0 k hk with he | ⟨x, hx, hxd⟩
        · have := (List.getElem?_eq_some_iff.1 hu').1; omega
        · rw [show k + 1 + spanN ns 0 k = k + m by omega, hu'] at hx
          injection hx with hx; subst hx; omega
      have ih := tops_parts h n (k + m) (by omega) hnext
      rw [List.drop_drop, ih]
      have e : List.range' k (ns.length - k) = k :: (List.range' (k + 1) (m - 1) ++ List.range' (k + m) (ns.length - (k + m))) := by
        rw [show ns.length - k = (1 + (m - 1)) + (ns.length - (k + m)) by omega, ← List.range'_append_1, ← List.range'_append_1, show k + (1 + (m - 1)) = k + m by omega]
        rfl
      rw [e, List.filter_cons]
      have hk0 : atD ns 0 k = true := by unfold atD; rw [hu]; simp [hu0]
      rw [hk0, if_pos rfl, List.filter_append]
      have hnone : (List.range' (k + 1) (m - 1)).filter (atD ns 0) = [] := by
        rw [List.filter_eq_nil_iff]
        intro j hj
        rw [List.mem_range'_1] at hj
        obtain ⟨x, hx, hxd⟩ := spanN_at (ns := ns) (d := 0) (i := k) (k := j - (k + 1)) (by omega)
        rw [show k + 1 + (j - (k + 1)) = j by omega] at hx
        unfold atD; rw [hx]; simp; omega
      rw [hnone, List.nil_append]
    · rw [List.drop_eq_nil_of_le hk, partsW_nil, show ns.length - k = 0 by omega]; rfl
theorem tops_is {ns : List Nd} (h : Shape ns) : topsL ns = (partsW 0 ns).map (·.1) := by
  have := tops_parts h ns.length 0 (by omega) (fun u hu => by have := h.first u hu; have := (h.depth u (List.mem_of_getElem? hu)).1; omega)
  rw [List.drop_zero, Nat.sub_zero] at this
  rw [this]; unfold topsL; rw [List.range_eq_range']
theorem kids_grp {ns : List Nd} {p : Nat × List Nd} (hp : p ∈ partsW 0 ns) {i : Nat} (hi : i < p.2.length) : kidsL ns (p.1 + i) = (kidsL p.2 i).map (fun j => p.1 + j) := by
  obtain ⟨q, u, h1, h2, h3⟩ := partsW_grp ns.length 0 ns (Nat.le_refl _) p hp
  have h1 : p.1 = q := by omega
  rw [h1, kidsL_drop]
  have him : i < 1 + spanN (ns.drop q) u.depth 0 := by rw [h3, List.length_take] at hi; omega
  rw [h3, kidsL_take h2 rfl him]
theorem node_grp {ns : List Nd} {p : Nat × List Nd} (hp : p ∈ partsW 0 ns) {i : Nat} (hi : i < p.2.length) : ns[p.1 + i]? = p.2[i]? := by
  obtain ⟨q, u, h1, h2, h3⟩ := partsW_grp ns.length 0 ns (Nat.le_refl _) p hp
  have h1 : p.1 = q := by omega
  have him : i < 1 + spanN (ns.drop q) u.depth 0 := by rw [h3, List.length_take] at hi; omega
  rw [h1, h3, List.getElem?_take, if_pos him, List.getElem?_drop]
theorem kids_lt {ns : List Nd} {i j : Nat} (h : j ∈ kidsL ns i) : j < ns.length := by
  unfold kidsL at h
  cases hu : ns[i]? with
  | none => rw [hu] at h; cases h
  | some u =>
    rw [hu] at h
    have := (List.mem_filter.1 h).2
    unfold kidB at this
    cases hx : ns[j]? with
    | none => rw [hx] at this; cases this
    | some x => exact (List.getElem?_eq_some_iff.1 hx).1
open Go.RowKit
def partsN (ns : List Nd) : List (List Nd) := (partsW 0 ns).map (·.2)
theorem partsN_all (ns : List Nd) : (partsN ns).flatten = ns := by
  unfold partsN
  rw [← List.flatMap_def]
  exact parts_all ns.length 0 ns (Nat.le_refl _)
open Go.RowKit
theorem tops_at {ns : List Nd} {j : Nat} (hj : j ∈ topsL ns) : ∃ x, ns[j]? = some x ∧ x.depth = 0 := by
  unfold topsL at hj
  have := (List.mem_filter.1 hj).2
  unfold atD at this
  cases hx : ns[j]? with
  | none => rw [hx] at this; cases this
  | some x => rw [hx] at this; exact ⟨x, rfl, by simpa using this⟩
open Go.RowKit
def setD (d : Int) (n : Nd) : Nd := n.atD d
open Go.RowKit
def leavesL (l : List Nd) : List Nd := pickN l (leavesF l 5 0)
def flatP (l : List Nd) : List Nd := match l with
  | [] => []
  | u :: _ => if u.kind == 5 && decide ((leavesL l).length ≤ 6) then u :: (leavesL l).map (setD 1) else (leavesL l).map (setD 0)
open Go.RowKit
structure FlRel (W2 wr : World) (bo : Nat) (v : Value) (k : Nat) (zs : List Nd) : Prop where
  old : ∀ g, g < W2.heap.size → g ≠ bo → wr.heap[g]? = W2.heap[g]?
  out : wr.heap[bo]? = some (.cells #[v] 27 (0, 0))
  own : wr.ownsRow W2.heap.size 87 8 v k (zs.flatMap Nd.cells)
  size : W2.heap.size ≤ wr.heap.size
section
variable {W2 wr wx wA w3 : World} {bo m c2 : Nat} {A2 : Option Addr} {v : Value} {k : Nat} {zs xs : List Nd}
theorem FlRel.below {w : World} (h : FlRel W2 wr bo v k zs) (hw : Below w.heap.size w wr) (hb : w.heap.size ≤ W2.heap.size) (ho : w.heap.size ≤ bo) (hA : Below wr.heap.size wr wA) (hg : wA.grownBy w3 v.ownBlock) (u : Value) : Below w.heap.size w (w3.setCell ⟨bo, 0, none⟩ u) :=
  ((below_more hw hA).grown hg (by have := hw.size; have := hA.size; omega) (fun g hg => by have := (h.own.lt g hg).1; omega)).setCell (by dsimp only; omega) _
end
open Go.RowKit
def IntsIn (w : World) (A : Option Addr) (zs : List Int) : Prop := ∀ k z, zs[k]? = some z → ∃ b o, A = some ⟨b, o, none⟩ ∧ b < w.heap.size ∧ w.cell? ⟨b, o + k, none⟩ = some (.int .i64 z)
theorem IntsIn.below {w w' : World} {A : Option Addr} {zs : List Int} (h : IntsIn w A zs) (hb : Below w.heap.size w w') : IntsIn w' A zs := fun k n hk => by
  obtain ⟨b, o, e, hlt, hv⟩ := h k n hk
  exact ⟨b, o, e, Nat.lt_of_lt_of_le hlt hb.size, (hb.cell (p := ⟨b, _, none⟩) hlt).trans hv⟩
theorem own_ints {w : World} {base : Nat} {A : Option Addr} {n c : Nat} {l : List Int} (h : w.ownsRow base 3 1 (.slice A n c) n (intsZ l)) : IntsIn w A l := fun k j hk => by
  obtain ⟨A2, c2, hv, -, -, h3, h4⟩ := own_slice h
  injection hv with e1 e2 e3
  subst e1 e3
  have hlen : l.length = n := by have := h.1; simpa [intsZ] using this
  cases A with
  | none => have := h4 rfl; have := (List.getElem?_eq_some_iff.1 hk).1; omega
  | some ad =>
    obtain ⟨g, rfl, _, hg, hc⟩ := h3 ad rfl
    refine ⟨g, 0, rfl, hg, ?_⟩
    rw [Nat.zero_add]
    exact hc k _ (by unfold intsZ; rw [List.getElem?_map, hk]; rfl)
def GotIntsX (w : World) (zs : List Int) (er : Int) (e : Ending) (w' : World) : Prop :=
  ∃ A k c, e = .returned (.tuple #[.slice A k c, .int .i64 er]) ∧ Hid (k = zs.length) ∧ Hid (IntsIn w' A zs) ∧ Below w.heap.size w w'
theorem GotIntsE.x {w : World} {zs : List Int} {er : Int} {e : Ending} {w' : World} (h : GotIntsE w (zs, er) e w') : GotIntsX w zs er e w' := by
  obtain ⟨A, c, rfl, h1, h2⟩ := h
  exact ⟨A, _, c, rfl, Lib.hid rfl, Lib.hid (own_ints h1), h2⟩
theorem rsameT_eq (A B : Option Addr) (n m c d : Nat) (ns : List Nd) (w : World) (hn : n = ns.length) (hm : m = ns.length) (hA : NdsAt w A ns) (hB : NdsAt w B ns) (hz : ns.length ≤ 1000000) :
    Calls Tryz.prog 29 #[.agg #[.slice A n c], .agg #[.slice B m d]] w fun e w' => e = .returned (.bool true) ∧ Below w.heap.size w w' := by
  subst hn hm
  have := rsameT_any A B c d ns ns w hA hB hz hz
  rw [eqUp_refl ndEq ndEq_refl] at this; exact this
end Go.Proofs.YtmiokllpdmmfhaaGreat
