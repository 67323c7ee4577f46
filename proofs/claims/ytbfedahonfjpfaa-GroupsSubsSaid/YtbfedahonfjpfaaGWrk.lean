/-
  The laws' look at an example (layer 2): it returns true.
-/
import Derived.Test.YtbfedahonfjpfaaGOrd
namespace Go.Proofs.Ytbfedahonfjpfaa
open Go.RowKit

def exA : ByteArray := ⟨#[65, 49]⟩
def exB : ByteArray := ⟨#[66, 50]⟩
def exLi : Li := ⟨1, [⟨exA, 1, 1, false, []⟩, ⟨exB, 1, 1, false, []⟩]⟩
def exNs : List Nd := [⟨7, 0, 0, 0, false, 0, 0, 0⟩, ⟨1, 1, 0, 0, false, 0, 0, 0⟩, ⟨1, 1, 1, 0, false, 0, 0, 0⟩]
theorem ex_ok : textErr exLi exNs = 0 := by decide +kernel
theorem ex_parts : partsW 0 exNs = [(0, exNs)] := by
  have h : partsW 0 exNs = (0, exNs.take (1 + spanN exNs 0 0)) :: partsW (0 + (1 + spanN exNs 0 0)) (exNs.drop (1 + spanN exNs 0 0)) := partsW_cons 0 _ _
  have e : spanN exNs 0 0 = 2 := by decide
  rw [h, e]
  show (0, exNs) :: partsW 3 [] = _
  rw [partsW_nil]
theorem ex_order : orderR exLi exNs = ([1, 0], 0) := by
  unfold orderR lineR
  rw [ex_ok, ex_parts]
  decide +kernel

set_option maxRecDepth 100000 in
set_option maxHeartbeats 4000000 in
theorem works2_any (w : World) : Calls Try.prog 16 #[] w fun e w' => e = .returned (.bool true) ∧ Below w.heap.size w w' := by
  obtain ⟨W1, hW1⟩ : ∃ W, W = w.alloc (.cells #[.string ⟨#[65, 49]⟩, .int .i64 1, .int .i64 1, .bool false, .slice none 0 0, .string ⟨#[66, 50]⟩, .int .i64 1, .int .i64 1, .bool false, .slice none 0 0] 76) := ⟨_, rfl⟩
  obtain ⟨W2, hW2⟩ : ∃ W, W = W1.alloc (.cells #[.int .i64 1, .slice (some ⟨w.heap.size, 0, none⟩) 2 2] 24) := ⟨_, rfl⟩
  obtain ⟨W3, hW3⟩ : ∃ W, W = W2.alloc (.cells #[.int .i64 7, .int .i64 0, .int .i64 0, .int .i64 0, .bool false, .int .i64 0, .int .i64 0, .int .i64 0, .int .i64 1, .int .i64 1, .int .i64 0, .int .i64 0, .bool false, .int .i64 0, .int .i64 0, .int .i64 0, .int .i64 1, .int .i64 1, .int .i64 1, .int .i64 0, .bool false, .int .i64 0, .int .i64 0, .int .i64 0] 78) := ⟨_, rfl⟩
  obtain ⟨W4, hW4⟩ : ∃ W, W = W3.alloc (.cells #[.slice (some ⟨w.heap.size + 1 + 1, 0, none⟩) 3 3] 27) := ⟨_, rfl⟩
  have s1 : W1.heap.size = w.heap.size + 1 := by rw [hW1]; simp
  have s2 : W2.heap.size = w.heap.size + 1 + 1 := by rw [hW2]; simp [s1]
  have s3 : W3.heap.size = w.heap.size + 1 + 1 + 1 := by rw [hW3]; simp [s2]
  have hb1 : Below w.heap.size w W1 := by rw [hW1]; exact below_alloc _ _
  have hb2 : Below W1.heap.size W1 W2 := by rw [hW2]; exact below_alloc _ _
  have hb3 : Below W2.heap.size W2 W3 := by rw [hW3]; exact below_alloc _ _
  have hb4 : Below W3.heap.size W3 W4 := by rw [hW4]; exact below_alloc _ _
  have HB := Lib.hid (show Below w.heap.size w W4 from below_more (below_more (below_more hb1 hb2) hb3) hb4)
  have x1 : W4.heap[w.heap.size]? = some (.cells #[.string ⟨#[65, 49]⟩, .int .i64 1, .int .i64 1, .bool false, .slice none 0 0, .string ⟨#[66, 50]⟩, .int .i64 1, .int .i64 1, .bool false, .slice none 0 0] 76 (0, 0)) := by
    refine blk_keep (below_more (below_more hb2 hb3) hb4) ?_
    rw [hW1]; exact heap_alloc_new _ _
  have x3 : W4.heap[w.heap.size + 1 + 1]? = some (.cells #[.int .i64 7, .int .i64 0, .int .i64 0, .int .i64 0, .bool false, .int .i64 0, .int .i64 0, .int .i64 0, .int .i64 1, .int .i64 1, .int .i64 0, .int .i64 0, .bool false, .int .i64 0, .int .i64 0, .int .i64 0, .int .i64 1, .int .i64 1, .int .i64 1, .int .i64 0, .bool false, .int .i64 0, .int .i64 0, .int .i64 0] 78 (0, 0)) := by
    refine blk_keep hb4 ?_
    rw [hW3, ← s2]; exact heap_alloc_new _ _
  have l1 := (Array.getElem?_eq_some_iff.1 x1).1
  have l3 := (Array.getElem?_eq_some_iff.1 x3).1
  have HL := Lib.hid (show LmOk W4 ⟨1, [⟨⟨exA, 1, 1, false, []⟩, none, 0⟩, ⟨⟨exB, 1, 1, false, []⟩, none, 0⟩], some ⟨w.heap.size, 0, none⟩, 2⟩ from
    ⟨fun k m hk => by
      have hcell : ∀ q, W4.cell? ⟨w.heap.size, q, none⟩ = _ := fun q => cell_of_blk x1 q
      match k, hk with
      | 0, hk => injection hk with hk; subst hk; exact ⟨w.heap.size, 0, rfl, l1, ⟨hcell _, hcell _, hcell _, hcell _, hcell _⟩, ⟨ValsAt.nil _, Nat.le_refl _, Nat.zero_le _, by unfold maxLen; decide⟩⟩
      | 1, hk => injection hk with hk; subst hk; exact ⟨w.heap.size, 0, rfl, l1, ⟨hcell _, hcell _, hcell _, hcell _, hcell _⟩, ⟨ValsAt.nil _, Nat.le_refl _, Nat.zero_le _, by unfold maxLen; decide⟩⟩
      | k + 2, hk => simp at hk, Nat.le_refl _, show 2 ≤ maxLen by unfold maxLen; decide⟩)
  have HN := Lib.hid (show NdsAt W4 (some ⟨w.heap.size + 1 + 1, 0, none⟩) exNs from fun k n hk => by
      have hcell : ∀ q, W4.cell? ⟨w.heap.size + 1 + 1, q, none⟩ = _ := fun q => cell_of_blk x3 q
      match k, hk with
      | 0, hk => injection hk with hk; subst hk; exact ⟨_, 0, rfl, l3, ⟨hcell _, hcell _, hcell _, hcell _, hcell _, hcell _, hcell _, hcell _⟩⟩
      | 1, hk => injection hk with hk; subst hk; exact ⟨_, 0, rfl, l3, ⟨hcell _, hcell _, hcell _, hcell _, hcell _, hcell _, hcell _, hcell _⟩⟩
      | 2, hk => injection hk with hk; subst hk; exact ⟨_, 0, rfl, l3, ⟨hcell _, hcell _, hcell _, hcell _, hcell _, hcell _, hcell _, hcell _⟩⟩
      | k + 3, hk => simp [exNs] at hk)
  have HO := Lib.hid (show Calls Try.prog 30 #[.agg #[.int .i64 1, .slice (some ⟨w.heap.size, 0, none⟩) 2 2], .agg #[.slice (some ⟨w.heap.size + 1 + 1, 0, none⟩) 3 3]] W4 (GotIntsE W4 ([1, 0], 0)) by
    have := order_any2 ⟨1, [⟨⟨exA, 1, 1, false, []⟩, none, 0⟩, ⟨⟨exB, 1, 1, false, []⟩, none, 0⟩], some ⟨w.heap.size, 0, none⟩, 2⟩ (some ⟨w.heap.size + 1 + 1, 0, none⟩) 3 exNs W4 HL.out HN.out (by decide) (by unfold maxLen; decide)
    rw [show (⟨1, [⟨⟨exA, 1, 1, false, []⟩, none, 0⟩, ⟨⟨exB, 1, 1, false, []⟩, none, 0⟩], some ⟨w.heap.size, 0, none⟩, 2⟩ : Lm).li = exLi from rfl, ex_order] at this
    exact this)
  clear x1 x3 l1 l3 s1 s2 s3 hb1 hb2 hb3 hb4
  go_enter Try.func16, Try.ntmps16
  go_wp2_with fail
  rw [← hW1, ← hW2, ← hW3, ← hW4]
  clear hW1 hW2 hW3 hW4
  refine HO.out.mono ?_; rintro e w5 ⟨A, c, rfl, hown, hb⟩
  have HB5 := Lib.hid (below_more HB.out hb)
  have hol := own_len hown
  obtain ⟨A2, c2, hv, -, -, h3, h4⟩ := own_slice hown
  injection hv with e1 e2 e3
  subst e1 e3
  cases A with
  | none => have := h4 rfl; simp at this
  | some ad =>
    obtain ⟨g, rfl, -, hg, hc⟩ := h3 ad rfl
    have z0 := hc 0 (.int .i64 1) rfl
    have z1 := hc 1 (.int .i64 0) rfl
    have hc1 : 2 ≤ c := hol.1
    clear hown hb hol h3 h4 hc
    dsimp only [List.length_cons, List.length_nil]
    go_wp2_with fail
    go_ret
    exact ⟨rfl, HB5.out⟩

end Go.Proofs.Ytbfedahonfjpfaa
