/-
  Variants sorted, in the program (layer 9).
-/
import Derived.Test.YtcpfhaoecggflaaZCmp
import Derived.Test.YtcpfhaoecggflaaShelfc
import Derived.Shelf.SlSortCmp.WholeK
import Derived.Shelf.SlSortCmp.NoneTotal
namespace Go.Proofs.Ytcpfhaoecggflaa
open Go.RowKit Go.Sort

instance : Inhabited Vn := ⟨⟨0, 0, [], none, 0⟩⟩
/-- one variant comes before another one -/
def vnLt (x y : Vn) : Prop := x.at' < y.at' ∨ (x.at' = y.at' ∧ x.cp < y.cp)
instance (x y : Vn) : Decidable (vnLt x y) := by unfold vnLt; infer_instance
theorem ordV_lt (x y : Vn) : decide (ordV x y < 0) = decide (vnLt x y) := by
  congr 1
  unfold ordV orI cmpI vnLt
  apply propext
  repeat' split
  all_goals omega
theorem ordV_swo : SWO (fun x y => decide (ordV x y < 0)) where
  irrefl x := by rw [ordV_lt]; simp [vnLt]
  trans x y z h1 h2 := by
    have h1 : decide (ordV x y < 0) = true := h1
    have h2 : decide (ordV y z < 0) = true := h2
    show decide (ordV x z < 0) = true
    rw [ordV_lt, decide_eq_true_eq] at *
    unfold vnLt at *; omega
  ntrans x y z h1 h2 := by
    have h1 : decide (ordV x y < 0) = false := h1
    have h2 : decide (ordV y z < 0) = false := h2
    show decide (ordV x z < 0) = false
    rw [ordV_lt, decide_eq_false_iff_not] at *
    unfold vnLt at *; omega
def sortedVn (vs : List Vn) : Prop := vs.Pairwise fun x y => ¬ vnLt y x
theorem vn_one {vs : List Vn} : ∀ u ∈ vs.flatMap Vn.cells, u.oneCell' = true := by
  intro u hu
  obtain ⟨v, _, hv⟩ := List.mem_flatMap.1 hu
  simp [Vn.cells] at hv
  rcases hv with rfl | rfl | rfl <;> rfl
theorem isAggVn : ∀ w, (isAgg 39).run Try.prog w = .ok true w := fun w => by kernel_rfl
theorem sizeVn : ∀ w, (sizeOf 39).run Try.prog w = .ok 3 w := fun w => by kernel_rfl
/-- variants as they lie in memory -/
def VnsAt (w : World) (A : Option Addr) (vs : List Vn) : Prop := ∀ i v, vs[i]? = some v → ∃ g, A = some ⟨g, 0, none⟩ ∧ g < w.heap.size ∧ ∀ c, c < 3 → w.cell? ⟨g, i * 3 + c, none⟩ = v.cells[c]?

theorem heap_sorted {α : Type} [Inhabited α] (enc : α → List Value) (k : Nat) (w : World) (blk off n : Nat) (d : Array α) (os : Array Obj) (j : Nat) (hj : j ≠ blk) (hlt : j < w.heap.size) : (sortWorldK enc k w blk off n d os).heap[j]? = w.heap[j]? := by
  unfold sortWorldK
  rw [heap_grow_old _ _ (by simpa [putRowK, putRow, mapBlock, Sort.ahead] using hlt)]
  simp [putRowK, putRow, mapBlock, Sort.ahead, Array.getElem?_modify, Ne.symm hj]
theorem below_sorted {α : Type} [Inhabited α] (enc : α → List Value) (k : Nat) (w : World) (blk off n : Nat) (d : Array α) (os : Array Obj) (base : Nat) (hb : base ≤ blk) (hlt : base ≤ w.heap.size) : Go.RowKit.Below base w (sortWorldK enc k w blk off n d os) :=
  ⟨rfl, rfl, rfl, by simp [sortWorldK, putRowK, putRow, mapBlock, Sort.ahead], fun j hj => heap_sorted enc k w blk off n d os j (by omega) (by omega)⟩
theorem flatK_list (vs : List Vn) (j : Nat) (hj : j < vs.length * 3) : (flatK Vn.cells 3 vs.toArray)[j]! = (vs.flatMap Vn.cells)[j]?.getD default := by
  rw [get_flatK _ _ _ _ (by simpa using hj)]
  have hk : j / 3 < vs.length := by omega
  have h4 : j % 3 < 3 := Nat.mod_lt _ (by omega)
  have e := flat_at (f := Vn.cells) (c := 3) (fun _ => rfl) vs (j / 3) vs[j / 3] (List.getElem?_eq_getElem hk) (j % 3) h4
  rw [show j / 3 * 3 + j % 3 = j by omega] at e
  rw [e]
  simp [hk]
theorem cmp_lays (blk off size : Nat) (w : World) : CmpLays Try.prog 55 #[] Vn.cells 3 ordV blk off size w := by
  intro m os dk _ x y
  refine (ordV_any x y _).mono ?_
  rintro e w' ⟨rfl, q, os', rfl⟩
  exact ⟨rfl, q, os', rfl⟩

set_option maxHeartbeats 1600000 in
theorem sortV_any (A : Option Addr) (cap : Nat) (vs : List Vn) (base : Nat) (w : World) (hown : w.ownsRow base 39 3 (.slice A vs.length cap) vs.length (vs.flatMap Vn.cells)) (hbw : base ≤ w.heap.size) (hsm : vs.length ≤ 1000000) :
    Calls Try.prog 54 #[.slice A vs.length cap, .func (.func 55) #[] #[]] w fun e w' => e = .returned (.tuple #[]) ∧ ∃ vs', vs'.Perm vs ∧ sortedVn vs' ∧ VnsAt w' A vs' ∧ Go.RowKit.Below base w w' ∧ ∀ j, j < w.heap.size → (∀ g o, A = some ⟨g, o, none⟩ → j ≠ g) → w'.heap[j]? = w.heap[j]? := by
  cases A with
  | none =>
    have h0 : vs.length = 0 := by
      rcases hown.2 with ⟨_, h⟩ | ⟨g, cap', cur, h, _⟩
      · exact h
      · cases h
    obtain rfl : vs = [] := List.eq_nil_of_length_eq_zero h0
    have hcon := AnyF.slices_SortFunc_none Try.sortVn none cap (.func (.func 55) #[] #[]) w
    change Calls Try.prog 54 _ _ _ at hcon
    refine hcon.mono ?_
    rintro e w' ⟨rfl, h⟩
    exact ⟨rfl, [], .refl _, List.Pairwise.nil, (fun i v h => by simp at h), h ▸ Go.RowKit.Below.refl _ _, fun j _ _ => by rw [h]⟩
  | some ad =>
    rcases hown.2 with ⟨h, _⟩ | ⟨g, cap', cur, h, hb, hg, hn, hc, hs, htk⟩
    · cases h
    · injection h with h1 h2 h3
      injection h1 with h1
      subst h1 h3
      have hlt : g < w.heap.size := (Array.getElem?_eq_some_iff.1 hg).1
      have hH : HoldsK Vn.cells 3 w g 0 vs.toArray := by
        intro j hj
        have hj' : j < vs.length * 3 := by simpa using hj
        rw [Nat.zero_add, flatK_list vs j hj', hown.cellAt j hj']
        have hl : j < (vs.flatMap Vn.cells).length := by rw [flat_len (c := 3) (fun _ => rfl)]; exact hj'
        exact ⟨by rw [List.getElem?_eq_getElem hl]; rfl, hown.frozenAt j⟩
      have hcon := AnyQ.slices_SortFunc Try.sortVn 3 isAggVn sizeVn Vn.cells (fun _ => rfl) (fun x => fun v hv => vn_one (vs := [x]) v (by simpa using hv)) ordV ordV_swo 55 #[] g 0 cap vs.toArray w
        (enters_of Try.func55 (by kernel_rfl) rfl) (cmp_lays g 0 _ w) hH hlt (by simp; omega)
      change Calls Try.prog 54 _ _ _ at hcon
      refine hcon.mono ?_
      rintro e w' ⟨rfl, d', n, os, hp, hs2, rfl⟩
      have hsize : d'.size = vs.length := by have := hp.1; simpa using this
      have hperm : d'.toList.Perm vs := by
        have h2 := hp.2.2
        have e1 : d'.extract 0 vs.toArray.size = d' := by rw [show vs.toArray.size = d'.size by simp [hsize]]; exact Array.extract_size
        rw [e1, Array.extract_size] at h2
        simpa using h2
      refine ⟨rfl, d'.toList, hperm, ?_, ?_, below_sorted _ _ _ _ _ _ _ _ _ hb hbw, fun j hj hjg => heap_sorted _ _ _ _ _ _ _ _ _ (hjg g 0 rfl) hj⟩
      · rw [sortedVn, List.pairwise_iff_getElem]
        intro i j hi hj hij
        have hi' : i < d'.size := by simpa using hi
        have hj' : j < d'.size := by simpa using hj
        have := hs2 i j (Nat.zero_le _) hij (by simpa [hsize] using hj')
        rw [getElem!_pos d' i hi', getElem!_pos d' j hj'] at this
        unfold ltOf at this
        rw [ordV_lt] at this
        simpa using this
      · intro i v hv
        have hi : i < d'.size := by have := (List.getElem?_eq_some_iff.1 hv).1; simpa using this
        have hv' : d'[i]! = v := by rw [getElem!_pos d' i hi]; have := (List.getElem?_eq_some_iff.1 hv).2; simpa using this
        have hh := holdsK_sortWorldK_c Vn.cells 3 w g 0 vs.toArray d' n os hH hlt (by simpa using hsize)
        have hcell := fun c (hc : c < 3) => (hh.cell (i := i) (c := c) hi hc).1
        rw [hv'] at hcell
        refine ⟨g, rfl, Nat.lt_of_lt_of_le hlt (size_sortWorldK_c _ _ _ _ _ _ _ _), fun c hc => ?_⟩
        have := hcell c hc
        rw [Nat.zero_add] at this
        rw [this]
        match c, hc with
        | 0, _ => rfl
        | 1, _ => rfl
        | 2, _ => rfl

end Go.Proofs.Ytcpfhaoecggflaa
