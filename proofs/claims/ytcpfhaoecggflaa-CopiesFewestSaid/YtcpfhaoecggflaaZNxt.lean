/-
  The program's next pair of an alignment (layer 9).
-/
import Derived.Test.YtcpfhaoecggflaaZAlg
namespace Go.Proofs.Ytcpfhaoecggflaa
open Go.RowKit

theorem next_blk {w : World} {g : Nat} {cs : Array Value} {t : TypeId} (h : w.heap[g]? = some (.cells cs t (0, 0))) (o : Nat) (v : Value) : (w.setCell ⟨g, o, none⟩ v).heap[g]? = some (.cells (cs.setIfInBounds o v) t (0, 0)) := heap_setCell_same w g o v cs t h

set_option maxHeartbeats 6400000 in
set_option maxRecDepth 100000 in
theorem next_any (g : Nat) (a b : List Int) (A B : Option Addr) (ca cb i j : Nat) (w : World) (h : AlAt w g a b A B ca cb (fun _ _ => True)) (hi : i ≤ a.length) (hj : j ≤ b.length) :
    Calls Try.prog 86 #[.pointer (some ⟨g, 0, none⟩), .int .i64 i, .int .i64 j] w fun e w' => e = .returned (.agg #[.int .i64 (nxt a b i j).1, .int .i64 (nxt a b i j).2]) ∧ Below w.heap.size w w' := by
  have c0 := h.c0
  have c1 := h.c1
  have la := h.la
  have lb := h.lb
  have hgl := h.lt
  have hi6 : i ≤ 60 := by omega
  have hj6 : j ≤ 60 := by omega
  have HR := Lib.hid (fun i' j' (h1 : i' ≤ a.length) (h2 : j' ≤ b.length) => h.rest i' j' h1 h2 trivial)
  have r0 := HR.out i j hi hj
  have bd := cst_bd (a.drop i) (b.drop j)
  rw [List.length_drop, List.length_drop] at bd
  have HB := Lib.hid (below_alloc w (.cells #[.int .i64 0, .int .i64 0] 28))
  by_cases h1 : i < a.length
  · have r1 := HR.out (i + 1) j (by omega) hj
    have bd1 := cst_bd (a.drop (i + 1)) (b.drop j)
    rw [List.length_drop, List.length_drop] at bd1
    have H0 := Lib.hid (nxt_left a b i j h1)
    have H1 := Lib.hid (nxt_right a b i j h1)
    by_cases h2 : j < b.length
    · have HBO := Lib.hid (fun wx (hb : Below w.heap.size w wx) => both_any g a b A B ca cb i j (fun _ _ => True) wx (h.below hb) h1 h2 trivial)
      have H2 := Lib.hid (nxt_both a b i j h1 h2)
      have hv : 0 ≤ bth a[i] b[j] (cst (a.drop (i + 1)) (b.drop (j + 1))) ∧ bth a[i] b[j] (cst (a.drop (i + 1)) (b.drop (j + 1))) ≤ 250 := by
        have := cst_bd (a.drop (i + 1)) (b.drop (j + 1))
        rw [List.length_drop, List.length_drop] at this
        unfold bth; split <;> omega
      have H0 := Lib.hid (fun (e : ¬ bth a[i] b[j] (cst (a.drop (i + 1)) (b.drop (j + 1))) = cst (a.drop i) (b.drop j)) => H0.out (fun _ => e))
      have H1 := Lib.hid (fun (e : ¬ bth a[i] b[j] (cst (a.drop (i + 1)) (b.drop (j + 1))) = cst (a.drop i) (b.drop j)) => H1.out (fun _ => e))
      obtain ⟨x, hx⟩ : ∃ x, x = bth a[i] b[j] (cst (a.drop (i + 1)) (b.drop (j + 1))) := ⟨_, rfl⟩
      obtain ⟨y, hy⟩ : ∃ y, y = cst (a.drop i) (b.drop j) := ⟨_, rfl⟩
      obtain ⟨z, hz⟩ : ∃ z, z = cst (a.drop (i + 1)) (b.drop j) := ⟨_, rfl⟩
      rw [← hx] at HBO H2 hv H0 H1
      rw [← hy] at H2 H0 H1 r0 bd
      rw [← hz] at H0 H1 r1 bd1
      have hz0 := bd1.1
      have hz1 : z ≤ 250 := by omega
      clear hx hy hz HR bd bd1 h
      obtain ⟨n, hn⟩ : ∃ n, n = a.length := ⟨_, rfl⟩
      obtain ⟨m, hm⟩ : ∃ m, m = b.length := ⟨_, rfl⟩
      rw [← hn] at c0 la h1
      rw [← hm] at c1 lb h2
      clear hn hm
      by_cases hxy : x = y
      · have e1 : (x == y) = true := by simpa using hxy
        have HN := Lib.hid (H2.out hxy)
        rw [HN.out]
        clear HN H0 H1 H2 hxy
        go_enter Try.func86, Try.ntmps86
        go_wp2_with (first | (go_at_call 107; refine (HBO.out _ HB.out).mono ?_; rintro e w1 ⟨rfl, hb1⟩; have D1 := blk_keep hb1 (heap_alloc_new _ _); have x0 := cell_of_blk D1 0; have x1 := cell_of_blk D1 1; simp at x0 x1; have kc : ∀ o, w1.cell? ⟨g, o, none⟩ = w.cell? ⟨g, o, none⟩ := (fun o => (bcell (below_more HB.out hb1)).1 g o hgl); have y0 := free_of_blk D1 0; have y1 := free_of_blk D1 1; have HB1 := Lib.hid (below_more HB.out hb1); have hz2 : w.heap.size < w1.heap.size := (Array.getElem?_eq_some_iff.1 D1).1; have hgl1 : g < w1.heap.size := Nat.lt_of_lt_of_le hgl (below_more HB.out hb1).size; clear hb1 D1))
        refine bodyPost_ret (v := .agg #[.int .i64 i, .int .i64 j]) ?_ rfl ⟨rfl, ?_⟩
        · simp [results, Try.results86, go_sem, x0, x1]
        · exact (HB1.out.setCell (by simp) _).setCell (by simp) _
      · have e1 : (x == y) = false := by simpa using hxy
        by_cases hzy : z + 2 = y
        · have e2 : (z + 2 == y) = true := by simpa using hzy
          have HN := Lib.hid (H0.out hxy hzy)
          rw [HN.out]
          clear HN H0 H1 H2 hxy hzy
          go_enter Try.func86, Try.ntmps86
          go_wp2_with (first | (go_at_call 107; refine (HBO.out _ HB.out).mono ?_; rintro e w1 ⟨rfl, hb1⟩; have D1 := blk_keep hb1 (heap_alloc_new _ _); have x0 := cell_of_blk D1 0; have x1 := cell_of_blk D1 1; simp at x0 x1; have kc : ∀ o, w1.cell? ⟨g, o, none⟩ = w.cell? ⟨g, o, none⟩ := (fun o => (bcell (below_more HB.out hb1)).1 g o hgl); have y0 := free_of_blk D1 0; have y1 := free_of_blk D1 1; have HB1 := Lib.hid (below_more HB.out hb1); have hz2 : w.heap.size < w1.heap.size := (Array.getElem?_eq_some_iff.1 D1).1; have hgl1 : g < w1.heap.size := Nat.lt_of_lt_of_le hgl (below_more HB.out hb1).size; clear hb1 D1))
          refine bodyPost_ret (v := .agg #[.int .i64 i, .int .i64 (-1)]) ?_ rfl ⟨rfl, ?_⟩
          · simp [results, Try.results86, go_sem, x0, x1]
          · exact (HB1.out.setCell (by simp) _).setCell (by simp) _
        · have e2 : (z + 2 == y) = false := by simpa using hzy
          have HN := Lib.hid (H1.out hxy hzy).1
          rw [HN.out]
          clear HN H0 H1 H2 hxy hzy
          go_enter Try.func86, Try.ntmps86
          go_wp2_with (first | (go_at_call 107; refine (HBO.out _ HB.out).mono ?_; rintro e w1 ⟨rfl, hb1⟩; have D1 := blk_keep hb1 (heap_alloc_new _ _); have x0 := cell_of_blk D1 0; have x1 := cell_of_blk D1 1; simp at x0 x1; have kc : ∀ o, w1.cell? ⟨g, o, none⟩ = w.cell? ⟨g, o, none⟩ := (fun o => (bcell (below_more HB.out hb1)).1 g o hgl); have y0 := free_of_blk D1 0; have y1 := free_of_blk D1 1; have HB1 := Lib.hid (below_more HB.out hb1); have hz2 : w.heap.size < w1.heap.size := (Array.getElem?_eq_some_iff.1 D1).1; have hgl1 : g < w1.heap.size := Nat.lt_of_lt_of_le hgl (below_more HB.out hb1).size; clear hb1 D1))
          refine bodyPost_ret (v := .agg #[.int .i64 (-1), .int .i64 j]) ?_ rfl ⟨rfl, ?_⟩
          · simp [results, Try.results86, go_sem, x0, x1]
          · exact (HB1.out.setCell (by simp) _).setCell (by simp) _
    · have H0 := Lib.hid (H0.out (fun e => absurd e h2))
      have hzy : cst (a.drop (i + 1)) (b.drop j) + 2 = cst (a.drop i) (b.drop j) := by
        rw [List.drop_eq_nil_of_le (show b.length ≤ j by omega), cst_right, cst_right, List.length_drop, List.length_drop]; omega
      have HN := Lib.hid (H0.out hzy)
      rw [HN.out]
      obtain ⟨y, hy⟩ : ∃ y, y = cst (a.drop i) (b.drop j) := ⟨_, rfl⟩
      obtain ⟨z, hz⟩ : ∃ z, z = cst (a.drop (i + 1)) (b.drop j) := ⟨_, rfl⟩
      rw [← hy] at r0 bd hzy
      rw [← hz] at r1 bd1 hzy
      have e2 : (z + 2 == y) = true := by simpa using hzy
      have hz0 := bd1.1
      have hz1 : z ≤ 250 := by omega
      clear hy hz HR bd bd1 h HN H0 H1 hzy
      obtain ⟨n, hn⟩ : ∃ n, n = a.length := ⟨_, rfl⟩
      obtain ⟨m, hm⟩ : ∃ m, m = b.length := ⟨_, rfl⟩
      rw [← hn] at c0 la h1
      rw [← hm] at c1 lb h2
      clear hn hm
      go_enter Try.func86, Try.ntmps86
      go_wp2
      refine bodyPost_ret (v := .agg #[.int .i64 i, .int .i64 (-1)]) ?_ rfl ⟨rfl, ?_⟩
      · simp [results, Try.results86, go_sem]
      · exact (Below.refl _ _).alloc (Nat.le_refl _) _
  · have HN := Lib.hid (nxt_none a b i j (by omega))
    rw [HN.out]
    obtain ⟨y, hy⟩ : ∃ y, y = cst (a.drop i) (b.drop j) := ⟨_, rfl⟩
    rw [← hy] at r0 bd
    clear hy HR bd h HN
    obtain ⟨n, hn⟩ : ∃ n, n = a.length := ⟨_, rfl⟩
    obtain ⟨m, hm⟩ : ∃ m, m = b.length := ⟨_, rfl⟩
    rw [← hn] at c0 la h1
    rw [← hm] at c1 lb
    clear hn hm
    go_enter Try.func86, Try.ntmps86
    go_wp2
    refine bodyPost_ret (v := .agg #[.int .i64 (-1), .int .i64 j]) ?_ rfl ⟨rfl, ?_⟩
    · simp [results, Try.results86, go_sem]
    · exact (Below.refl _ _).alloc (Nat.le_refl _) _

end Go.Proofs.Ytcpfhaoecggflaa
