/-
  Contract of slices.SortFunc at values, by the order of values.
-/
import Derived.Test.YtleihhkacmgofaaGreatDoorClo
import Derived.Test.YtleihhkacmgofaaGreatDoorShelf
import Derived.Shelf.SlSortCmp.WholeK
import Derived.Shelf.SlSortCmp.NoneTotal
namespace Go.Proofs.YtleihhkacmgofaaGreatDoor
open Go.RowKit Go.Sort

instance : Inhabited Va := ⟨⟨0, ⟨#[]⟩, 0, 0⟩⟩

theorem heap_sorted {α : Type} [Inhabited α] (enc : α → List Value) (k : Nat) (w : World) (blk off n : Nat) (d : Array α) (os : Array Obj) (j : Nat) (hj : j ≠ blk) (hlt : j < w.heap.size) : (sortWorldK enc k w blk off n d os).heap[j]? = w.heap[j]? := by
  unfold sortWorldK
  rw [heap_grow_old _ _ (by simpa [putRowK, putRow, mapBlock, Sort.ahead] using hlt)]
  simp [putRowK, putRow, mapBlock, Sort.ahead, Array.getElem?_modify, Ne.symm hj]
theorem below_sorted {α : Type} [Inhabited α] (enc : α → List Value) (k : Nat) (w : World) (blk off n : Nat) (d : Array α) (os : Array Obj) (base : Nat) (hb : base ≤ blk) (hlt : base ≤ w.heap.size) : Go.RowKit.Below base w (sortWorldK enc k w blk off n d os) :=
  ⟨rfl, rfl, rfl, by simp [sortWorldK, putRowK, putRow, mapBlock, Sort.ahead], fun j hj => heap_sorted enc k w blk off n d os j (by omega) (by omega)⟩

theorem flatK_list (vs : List Va) (j : Nat) (hj : j < vs.length * 4) : (flatK Va.cells 4 vs.toArray)[j]! = (vs.flatMap Va.cells)[j]?.getD default := by
  rw [get_flatK _ _ _ _ (by simpa using hj)]
  have hk : j / 4 < vs.length := by omega
  have h4 : j % 4 < 4 := Nat.mod_lt _ (by omega)
  have e := flat_at (f := Va.cells) (c := 4) (fun _ => rfl) vs (j / 4) vs[j / 4] (List.getElem?_eq_getElem hk) (j % 4) h4
  rw [show j / 4 * 4 + j % 4 = j by omega] at e
  rw [e]
  simp [hk]

theorem cmp_lays (blk off size : Nat) (w : World) : CmpLays Tryz.prog 44 #[] Va.cells 4 orderV blk off size w := by
  intro m os dk _ x y
  refine (order_any x y _).mono ?_
  rintro e w' ⟨rfl, rfl⟩
  exact ⟨rfl, 0, _, by rw [alloc_eq_grow, alloc_eq_grow, grow_grow]; rfl⟩

set_option maxHeartbeats 1600000 in
theorem sortV_any (A : Option Addr) (cap : Nat) (vs : List Va) (base : Nat) (w : World) (hown : w.ownsRow base 42 4 (.slice A vs.length cap) vs.length (vs.flatMap Va.cells)) (hbw : base ≤ w.heap.size) (hsm : vs.length ≤ 1000000) (hsz : ∀ v ∈ vs, v.text.size ≤ maxLen) :
    Calls Tryz.prog 43 #[.slice A vs.length cap, .func (.func 44) #[] #[]] w fun e w' => e = .returned (.tuple #[]) ∧ ∃ vs', vs'.Perm vs ∧ sortedV vs' ∧ ValsAt w' A vs' ∧ Go.RowKit.Below base w w' := by
  cases A with
  | none =>
    have h0 : vs.length = 0 := by
      rcases hown.2 with ⟨_, h⟩ | ⟨g, cap', cur, h, _⟩
      · exact h
      · cases h
    obtain rfl : vs = [] := List.eq_nil_of_length_eq_zero h0
    have hcon := AnyF.slices_SortFunc_none Tryz.sortVa none cap (.func (.func 44) #[] #[]) w
    change Calls Tryz.prog 43 _ _ _ at hcon
    refine hcon.mono ?_
    rintro e w' ⟨rfl, h⟩
    exact ⟨rfl, [], .refl _, List.Pairwise.nil, ValsAt.nil _, h ▸ Go.RowKit.Below.refl _ _⟩
  | some ad =>
    rcases hown.2 with ⟨h, _⟩ | ⟨g, cap', cur, h, hb, hg, hn, hc, hs, htk⟩
    · cases h
    · injection h with h1 h2 h3
      injection h1 with h1
      subst h1 h3
      have hlt : g < w.heap.size := (Array.getElem?_eq_some_iff.1 hg).1
      have hH : HoldsK Va.cells 4 w g 0 vs.toArray := by
        intro j hj
        have hj' : j < vs.length * 4 := by simpa using hj
        rw [Nat.zero_add, flatK_list vs j hj', hown.cellAt j hj']
        have hl : j < (vs.flatMap Va.cells).length := by rw [flat_len (c := 4) (fun _ => rfl)]; exact hj'
        exact ⟨by rw [List.getElem?_eq_getElem hl]; rfl, hown.frozenAt j⟩
      have hcon := AnyQ.slices_SortFunc Tryz.sortVa 4 Tryz.isAgg42 Tryz.sizeOf42 Va.cells (fun _ => rfl) (fun x => fun v hv => va_one (vs := [x]) v (by simpa using hv)) orderV order_swo 44 #[] g 0 cap vs.toArray w
        (enters_of Tryz.func44 (by kernel_rfl) rfl) (cmp_lays g 0 _ w) hH hlt (by simp; omega)
      change Calls Tryz.prog 43 _ _ _ at hcon
      refine hcon.mono ?_
      rintro e w' ⟨rfl, d', n, os, hp, hs2, rfl⟩
      have hsize : d'.size = vs.length := by have := hp.1; simpa using this
      have hperm : d'.toList.Perm vs := by
        have h2 := hp.2.2
        have e1 : d'.extract 0 vs.toArray.size = d' := by rw [show vs.toArray.size = d'.size by simp [hsize]]; exact Array.extract_size
        rw [e1, Array.extract_size] at h2
        simpa using h2
      refine ⟨rfl, d'.toList, hperm, ?_, ?_, below_sorted _ _ _ _ _ _ _ _ _ hb hbw⟩
      · rw [sortedV, List.pairwise_iff_getElem]
        intro i j hi hj hij
        have hi' : i < d'.size := by simpa using hi
        have hj' : j < d'.size := by simpa using hj
        have := hs2 i j (Nat.zero_le _) hij (by simpa [hsize] using hj')
        rw [getElem!_pos d' i hi', getElem!_pos d' j hj'] at this
        unfold ltOf at this
        rw [orderV_lt] at this
        simpa using this
      · intro i v hv
        have hi : i < d'.size := by have := (List.getElem?_eq_some_iff.1 hv).1; simpa using this
        have hv' : d'[i]! = v := by rw [getElem!_pos d' i hi]; have := (List.getElem?_eq_some_iff.1 hv).2; simpa using this
        have hh := holdsK_sortWorldK_c Va.cells 4 w g 0 vs.toArray d' n os hH hlt (by simpa using hsize)
        have hcell := fun c (hc : c < 4) => (hh.cell (i := i) (c := c) hi hc).1
        rw [hv'] at hcell
        refine ⟨g, 0, rfl, Nat.lt_of_lt_of_le hlt (size_sortWorldK_c _ _ _ _ _ _ _ _), ⟨hcell 0 (by omega), hcell 1 (by omega), hcell 2 (by omega), hcell 3 (by omega), ?_⟩⟩
        exact hsz v (hperm.mem_iff.1 (List.mem_of_getElem? hv))

end Go.Proofs.YtleihhkacmgofaaGreatDoor
