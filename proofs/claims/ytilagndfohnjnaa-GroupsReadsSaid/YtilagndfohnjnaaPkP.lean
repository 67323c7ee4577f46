/-
  What the law on the line of a spliced text needs: groups by rounds, the marks' number, a text in a box behind four calls. And what builds on it.
-/
import Derived.Test.YtilagndfohnjnaaPkO
import Derived.Test.YtilagndfohnjnaaPkJ

/- What the law on the line of a spliced text needs: groups by rounds, the marks' number, a text in a box behind four calls. -/
namespace Go.Proofs.Ytilagndfohnjnaa
open Go.RowKit

theorem tboxc_of2 {w1 P0 wl P1 wt P1' wt2 P2 wp wx : World} (P3 : World) {zs : List Nd} {x : Nat} {A : Option Addr} {k c : Nat}
    (hwx : wx = P3.setCell ⟨x, 0, none⟩ (.slice A k c)) (hl : Hid (Below P0.heap.size P0 wl)) (ht : Hid (Below P1.heap.size P1 wt)) (ht2 : Hid (Below P1'.heap.size P1' wt2)) (hp : Hid (Below P2.heap.size P2 wp))
    (hk : Hid (k = zs.length)) (own : Hid (wp.ownsRow P2.heap.size 78 8 (.slice A k c) k (zs.flatMap Nd.cells)))
    (h0 : Below w1.heap.size w1 P0) (h1 : Below wl.heap.size wl P1) (h1' : Below wt.heap.size wt P1') (h2 : Below wt2.heap.size wt2 P2) (h3 : Below wp.heap.size wp P3)
    (hx : (P0.heap[x]? = some (Obj.cells #[.slice none 0 0] 27 (0, 0)) ∧ w1.heap.size ≤ x) ∨ (P1.heap[x]? = some (Obj.cells #[.slice none 0 0] 27 (0, 0)) ∧ wl.heap.size ≤ x) ∨
      (P1'.heap[x]? = some (Obj.cells #[.slice none 0 0] 27 (0, 0)) ∧ wt.heap.size ≤ x) ∨ (P2.heap[x]? = some (Obj.cells #[.slice none 0 0] 27 (0, 0)) ∧ wt2.heap.size ≤ x) ∨ (P3.heap[x]? = some (Obj.cells #[.slice none 0 0] 27 (0, 0)) ∧ wp.heap.size ≤ x)) : TBoxC w1 wx x zs := by
  have hl := hl.out
  have ht := ht.out
  have ht2 := ht2.out
  have hp := hp.out
  have s0 := h0.size
  have s1 := hl.size
  have s2 := h1.size
  have s3 := ht.size
  have s3' := h1'.size
  have s3'' := ht2.size
  have s4 := h2.size
  have s5 := hp.size
  have hm : Below P1'.heap.size P1' P2 := below_more ht2 h2
  have hm2 : Below P1.heap.size P1 P2 := below_more ht (below_more h1' hm)
  refine tboxc_at hwx (below_more (below_more h0 hl) (below_more h1 hm2)) hp h3 hk.out own.out ?_ ?_
  · rcases hx with ⟨_, h⟩ | ⟨_, h⟩ | ⟨_, h⟩ | ⟨_, h⟩ | ⟨_, h⟩ <;> omega
  · rcases hx with ⟨h, _⟩ | ⟨h, _⟩ | ⟨h, _⟩ | ⟨h, _⟩ | h
    · exact .inl (((below_more hl (below_more h1 hm2)).block x (Array.getElem?_eq_some_iff.1 h).1).trans h)
    · exact .inl ((hm2.block x (Array.getElem?_eq_some_iff.1 h).1).trans h)
    · exact .inl ((hm.block x (Array.getElem?_eq_some_iff.1 h).1).trans h)
    · exact .inl h
    · exact .inr h

/-- the groups that are there behind k rounds -/
def accG (P Q : List (List Nd)) (f t k : Nat) : List (List Nd) := if k ≤ f then P.take k else P.take f ++ Q ++ (P.drop t).take (k - t)
theorem take_one {α : Type} {P : List α} {k : Nat} {x : α} (h : P[k]? = some x) : P.take (k + 1) = P.take k ++ [x] := by
  obtain ⟨hk, e⟩ := List.getElem?_eq_some_iff.1 h
  rw [List.take_succ_eq_append_getElem hk, e]
theorem accG_step {P Q : List (List Nd)} {f t k np : Nat} {x : List Nd} (hp : P.length = np) (hf : f ≤ t) (hfn : f ≤ np) (hk : k ≤ np) (hx : k < np → P[k]? = some x) :
    accG P Q f t (k + 1) = (accG P Q f t k ++ (if k = f then Q else [])) ++ (if k < np ∧ (k < f ∨ t ≤ k) then [x] else []) := by
  unfold accG
  rcases Nat.lt_trichotomy k f with h | h | h
  · rw [if_pos (by omega), if_pos (by omega), if_neg (by omega), if_pos ⟨by omega, .inl h⟩, List.append_nil, take_one (hx (by omega))]
  · subst h
    rw [if_neg (by omega), if_pos (Nat.le_refl _), if_pos rfl]
    by_cases h2 : k < t
    · rw [if_neg (by omega), show k + 1 - t = 0 by omega, List.take_zero]
    · by_cases h3 : k < np
      · rw [if_pos ⟨h3, .inr (by omega)⟩, show k + 1 - t = 0 + 1 by omega, take_one (P := P.drop t) (k := 0) (x := x) (by rw [List.getElem?_drop, show t + 0 = k by omega]; exact hx h3), List.take_zero]; rfl
      · rw [if_neg (by omega), (List.drop_eq_nil_of_le (by omega) : P.drop t = []), List.take_nil]
  · rw [if_neg (by omega), if_neg (by omega), if_neg (by omega), List.append_nil]
    by_cases h2 : k < t
    · rw [if_neg (by omega), show k + 1 - t = 0 by omega, show k - t = 0 by omega, List.append_nil]
    · by_cases h3 : k < np
      · rw [if_pos ⟨h3, .inr (by omega)⟩, show k + 1 - t = k - t + 1 by omega, take_one (P := P.drop t) (k := k - t) (x := x) (by rw [List.getElem?_drop, show t + (k - t) = k by omega]; exact hx h3), ← List.append_assoc]
      · rw [if_neg (by omega), List.append_nil, List.take_of_length_le (l := P.drop t) (i := k + 1 - t) (by rw [List.length_drop]; omega), List.take_of_length_le (l := P.drop t) (i := k - t) (by rw [List.length_drop]; omega)]
/-- the line behind k rounds -/
def wantM (ns ms : List Nd) (f t k : Nat) : List Mk := (accG (partsN ns) (partsN ms) f t k).flatMap lineG
theorem want_step {ns ms : List Nd} {f t k np : Nat} {x : List Nd} (hp : (partsN ns).length = np) (hf : f ≤ t) (hfn : f ≤ np) (hk : k ≤ np) (hx : k < np → (partsN ns)[k]? = some x) :
    wantM ns ms f t (k + 1) = (wantM ns ms f t k ++ (if k = f then lineR ms else [])) ++ (if k < np ∧ (k < f ∨ t ≤ k) then lineG x else []) := by
  unfold wantM
  rw [accG_step hp hf hfn hk hx, List.flatMap_append, List.flatMap_append]
  congr 1
  · congr 1
    split
    · exact (lineR_parts ms).symm
    · rfl
  · split
    · simp
    · rfl
theorem want_end {l : Li} {ns ms : List Nd} (hn : textErr l ns = 0) (hm : textErr l ms = 0) {f t : Nat} (hf : f ≤ (partsN ns).length) : wantM ns ms f t ((partsN ns).length + 1) = lineR (spliceL ns ms f t) := by
  unfold wantM accG
  rw [if_neg (by omega), splice_line hn hm, List.take_of_length_le (l := (partsN ns).drop t) (by rw [List.length_drop]; omega), List.flatMap_append, List.flatMap_append, ← lineR_parts]
theorem lines_le {l : Li} : ∀ (G : List (List Nd)), (∀ g ∈ G, GV l g) → (G.flatMap lineG).length ≤ G.flatten.length
  | [], _ => Nat.le_refl _
  | g :: r, h => by
    have h1 : (lineG g).length ≤ g.length := by
      show ((leavesL g).map markR).length ≤ _
      rw [List.length_map, (leaves_all (h g (List.mem_cons_self ..))).length_eq]
      exact List.length_filter_le _ _
    have h2 := lines_le r (fun x hx => h x (List.mem_cons_of_mem _ hx))
    rw [List.flatMap_cons, List.flatten_cons, List.length_append, List.length_append]; omega
theorem accG_flat (P Q : List (List Nd)) (f t k : Nat) : (accG P Q f t k).flatten.length ≤ P.flatten.length + Q.flatten.length + P.flatten.length := by
  have h1 := flatten_take_le P k
  have h2 := flatten_take_le P f
  have h3 := flatten_take_le (P.drop t) (k - t)
  have h4 := flatten_drop_le P t
  unfold accG
  split
  · omega
  · rw [List.flatten_append, List.flatten_append, List.length_append, List.length_append]; omega
theorem want_len {l : Li} {ns ms : List Nd} (hn : textErr l ns = 0) (hm : textErr l ms = 0) (f t k : Nat) : (wantM ns ms f t k).length ≤ 600 := by
  obtain ⟨_, h2, h3⟩ := valid_parts hn
  obtain ⟨_, h5, h6⟩ := valid_parts hm
  have h7 := lines_le (l := l) (accG (partsN ns) (partsN ms) f t k) (fun g hg => by
    unfold accG at hg
    split at hg
    · exact h3 g (List.mem_of_mem_take hg)
    · rcases List.mem_append.1 hg with hg | hg
      · rcases List.mem_append.1 hg with hg | hg
        · exact h3 g (List.mem_of_mem_take hg)
        · exact h6 g hg
      · exact h3 g (List.mem_of_mem_drop (List.mem_of_mem_take hg)))
  have h8 := accG_flat (partsN ns) (partsN ms) f t k
  rw [partsN_all, partsN_all] at h8
  unfold wantM
  omega
theorem line_valid {l : Li} {ns : List Nd} (h : textErr l ns = 0) : lineQ l ns = (lineR ns, 0) := by
  unfold lineQ; rw [if_neg (by omega)]
theorem line_le {l : Li} {ns : List Nd} (h : textErr l ns = 0) : (lineR ns).length ≤ 200 := by
  obtain ⟨_, h2, h3⟩ := valid_parts h
  have := lines_le (l := l) (partsN ns) h3
  rw [partsN_all] at this
  rw [lineR_parts]; omega
theorem part_line {l : Li} {ns : List Nd} (h : textErr l ns = 0) {g : List Nd} (hg : g ∈ partsN ns) : lineR g = lineG g := group_line (parts_sgl (shape_of h) g hg)
theorem splice_ok {l : Li} {ns ms : List Nd} {f t : Int} (hn : textErr l ns = 0) (hm : textErr l ms = 0) (h : (spliceQ l ns f t ms).2 = 0) :
    ∃ fn tn : Nat, f = fn ∧ t = tn ∧ fn ≤ tn ∧ tn ≤ (partsN ns).length ∧ (spliceQ l ns f t ms).1 = spliceL ns ms fn tn ∧ textErr l (spliceL ns ms fn tn) = 0 := by
  unfold spliceQ at h ⊢
  rw [if_neg (by omega), if_neg (by omega)] at h ⊢
  split at h
  · simp at h
  · rename_i h1
    rw [if_neg h1]
    split at h
    · simp at h
    · rename_i h2
      rw [if_neg h2]
      rw [tops_parts_len hn] at h1
      refine ⟨f.toNat, t.toNat, by omega, by omega, by omega, by omega, rfl, splice_valid hn hm (by omega)⟩
theorem mk_flat (zs : List Mk) : (zs.flatMap Mk.cells).length = zs.length * 4 := flat_len (f := Mk.cells) (fun _ => rfl) _
theorem marks_src {w : World} {base : Nat} {A : Option Addr} {k c : Nat} {zs : List Mk} (h : w.ownsRow base 69 4 (.slice A k c) k (zs.flatMap Mk.cells)) : (A = none → k = 0) ∧ ∀ ad, A = some ad → ∀ j u, (zs.flatMap Mk.cells)[j]? = some u → w.cell? (ad.add j) = some u := by
  refine ⟨(own_len h).2.2, fun ad e j u hj => ?_⟩
  obtain ⟨A5, c5, hv5, -, -, h5, -⟩ := own_slice h
  injection hv5 with e1 e2 e3
  subst e1 e3
  obtain ⟨g5, e5, -, -, hc5⟩ := h5 ad e
  rw [e5, addr_add, Nat.zero_add]; exact hc5 j u hj
theorem mk_ones (zs : List Mk) : ∀ u ∈ zs.flatMap Mk.cells, u.oneCell' = true := fun u hu => by
  obtain ⟨y, _, hy⟩ := List.mem_flatMap.1 hu; exact mk_one y u hy

end Go.Proofs.Ytilagndfohnjnaa
