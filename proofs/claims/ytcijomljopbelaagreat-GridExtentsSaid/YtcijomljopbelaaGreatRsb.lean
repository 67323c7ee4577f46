/-
  Differences by the specification (sub).
-/
import Derived.Test.YtcijomljopbelaaGreatGaO
namespace Go.Proofs.YtcijomljopbelaaGreat
open Go.RowKit

set_option maxRecDepth 100000 in
set_option maxHeartbeats 4000000 in
theorem rsub_any (n d p q : Int) (w : World) (h1 : smallI (n * q)) (h2 : smallI (p * d)) (h3 : smallI (n * q - p * d)) (h4 : 0 < d * q) (h5 : smallI (d * q)) :
    Calls Tryz.prog 85 #[.agg #[.int .i64 n, .int .i64 d], .agg #[.int .i64 p, .int .i64 q]] w (GotFr w (fracR (n * q - p * d) (d * q))) := by
  have HF := Lib.hid (fun wx => rfrac_any (n * q - p * d) (d * q) wx h3 ⟨h4, h5.2⟩)
  have e1 := small_wrap h1
  have e2 := small_wrap h2
  have e3 := small_wrap h3
  have e4 := small_wrap h5
  obtain ⟨x, hx⟩ : ∃ x, x = n * q := ⟨_, rfl⟩
  obtain ⟨y, hy⟩ : ∃ y, y = p * d := ⟨_, rfl⟩
  obtain ⟨z, hz⟩ : ∃ z, z = x - y := ⟨_, rfl⟩
  obtain ⟨u, hu⟩ : ∃ u, u = d * q := ⟨_, rfl⟩
  have f1 : IntKind.i64.wrap (n * q) = x := by rw [hx]; exact e1
  have f2 : IntKind.i64.wrap (p * d) = y := by rw [hy]; exact e2
  have f3 : IntKind.i64.wrap (x - y) = z := by rw [hz, hx, hy]; exact e3
  have f4 : IntKind.i64.wrap (d * q) = u := by rw [hu]; exact e4
  rw [← hx, ← hy, ← hu, ← hz] at HF ⊢
  obtain ⟨F, hF⟩ : ∃ F, F = fracR z u := ⟨_, rfl⟩
  rw [← hF] at HF ⊢
  clear hx hy hz hu e1 e2 e3 e4 h1 h2 h3 h4 h5 hF
  obtain ⟨W, hW⟩ : ∃ W, W = ((w.alloc (.cells #[.int .i64 n, .int .i64 d] 40)).alloc (.cells #[.int .i64 p, .int .i64 q] 40)).alloc (.cells #[.int .i64 0, .int .i64 0] 40) := ⟨_, rfl⟩
  have HB := Lib.hid (show Below w.heap.size w W from hW ▸ (two_under _ _ _).alloc (by simp; omega) _)
  have D2 := Lib.hid (show W.heap[w.heap.size + 1 + 1]? = some (.cells #[.int .i64 0, .int .i64 0] 40 (0, 0)) by rw [hW]; have := heap_alloc_new ((w.alloc (.cells #[.int .i64 n, .int .i64 d] 40)).alloc (.cells #[.int .i64 p, .int .i64 q] 40)) (.cells #[.int .i64 0, .int .i64 0] 40); simpa using this)
  go_enter Tryz.func85, Tryz.ntmps85
  go_wp2_with fail
  rw [← hW]
  clear hW
  refine (HF.out _).mono ?_; rintro e wf ⟨rfl, hb⟩
  have HB1 := Lib.hid (below_more HB.out hb)
  have D2 := Lib.hid (blk_keep hb D2.out)
  have q0 := cell_of_blk D2.out 0
  have q1 := cell_of_blk D2.out 1
  have f0 := free_of_blk D2.out 0
  have f1 := free_of_blk D2.out 1
  have hs := (Array.getElem?_eq_some_iff.1 D2.out).1
  simp at q0 q1
  clear hb
  go_wp2
  exact bodyPost_ret (v := .agg #[.int .i64 F.num, .int .i64 F.den]) (by simp [results, Tryz.results85, go_sem, q0, q1]) rfl ⟨rfl, (HB1.out.setCell (by dsimp only; omega) _).setCell (by dsimp only; omega) _⟩
theorem sub_is (n d p q : Int) : n * q + -p * d = n * q - p * d := by rw [Int.neg_mul]; omega

end Go.Proofs.YtcijomljopbelaaGreat
