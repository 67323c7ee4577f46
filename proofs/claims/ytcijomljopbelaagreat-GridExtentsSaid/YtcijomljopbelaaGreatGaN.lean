/-
  Boxes in memory; where a box begins and how far it reaches in a direction. And what builds on it.
-/
import Derived.Test.YtcijomljopbelaaGreatBox
import Derived.Test.YtcijomljopbelaaGreatGaF

/- Boxes in memory; where a box begins and how far it reaches in a direction. -/
namespace Go.Proofs.YtcijomljopbelaaGreat
open Go.RowKit

structure BxAt (w : World) (b p : Nat) (x : Bx) : Prop where
  c0 : w.cell? ⟨b, p, none⟩ = some (.int .i64 x.kind)
  c1 : w.cell? ⟨b, p + 1, none⟩ = some (.int .i64 x.sign)
  c2 : w.cell? ⟨b, p + 2, none⟩ = some (.int .i64 x.turn)
  c3 : w.cell? ⟨b, p + 3, none⟩ = some (.bool x.mirror)
  c4 : w.cell? ⟨b, p + 4, none⟩ = some (.int .i64 x.state)
  c5 : w.cell? ⟨b, p + 5, none⟩ = some (.int .i64 x.min)
  c6 : w.cell? ⟨b, p + 6, none⟩ = some (.int .i64 x.max)
  c7 : w.cell? ⟨b, p + 7, none⟩ = some (.int .i64 x.x.num)
  c8 : w.cell? ⟨b, p + 8, none⟩ = some (.int .i64 x.x.den)
  c9 : w.cell? ⟨b, p + 9, none⟩ = some (.int .i64 x.y.num)
  c10 : w.cell? ⟨b, p + 10, none⟩ = some (.int .i64 x.y.den)
  c11 : w.cell? ⟨b, p + 11, none⟩ = some (.int .i64 x.w.num)
  c12 : w.cell? ⟨b, p + 12, none⟩ = some (.int .i64 x.w.den)
  c13 : w.cell? ⟨b, p + 13, none⟩ = some (.int .i64 x.h.num)
  c14 : w.cell? ⟨b, p + 14, none⟩ = some (.int .i64 x.h.den)
def BxsAt (w : World) (A : Option Addr) (bs : List Bx) : Prop := ∀ k x, bs[k]? = some x → ∃ b o, A = some ⟨b, o, none⟩ ∧ b < w.heap.size ∧ BxAt w b (o + k * 15) x
theorem BxAt.below {w w' : World} {b p : Nat} {x : Bx} (h : BxAt w b p x) (hb : Below w.heap.size w w') (hlt : b < w.heap.size) : BxAt w' b p x :=
  ⟨(hb.cell (p := ⟨b, _, none⟩) hlt).trans h.c0, (hb.cell (p := ⟨b, _, none⟩) hlt).trans h.c1, (hb.cell (p := ⟨b, _, none⟩) hlt).trans h.c2, (hb.cell (p := ⟨b, _, none⟩) hlt).trans h.c3, (hb.cell (p := ⟨b, _, none⟩) hlt).trans h.c4, (hb.cell (p := ⟨b, _, none⟩) hlt).trans h.c5, (hb.cell (p := ⟨b, _, none⟩) hlt).trans h.c6, (hb.cell (p := ⟨b, _, none⟩) hlt).trans h.c7, (hb.cell (p := ⟨b, _, none⟩) hlt).trans h.c8, (hb.cell (p := ⟨b, _, none⟩) hlt).trans h.c9, (hb.cell (p := ⟨b, _, none⟩) hlt).trans h.c10, (hb.cell (p := ⟨b, _, none⟩) hlt).trans h.c11, (hb.cell (p := ⟨b, _, none⟩) hlt).trans h.c12, (hb.cell (p := ⟨b, _, none⟩) hlt).trans h.c13, (hb.cell (p := ⟨b, _, none⟩) hlt).trans h.c14⟩
theorem BxsAt.below {w w' : World} {A : Option Addr} {bs : List Bx} (h : BxsAt w A bs) (hb : Below w.heap.size w w') : BxsAt w' A bs := fun k x hk => by
  obtain ⟨b, o, e, hlt, hv⟩ := h k x hk
  exact ⟨b, o, e, Nat.lt_of_lt_of_le hlt hb.size, hv.below hb hlt⟩
/-- the Go value of a box -/
def Bx.val (x : Bx) : Value := .agg #[.int .i64 x.kind, .int .i64 x.sign, .int .i64 x.turn, .bool x.mirror, .int .i64 x.state, .int .i64 x.min, .int .i64 x.max, .int .i64 x.x.num, .int .i64 x.x.den, .int .i64 x.y.num, .int .i64 x.y.den, .int .i64 x.w.num, .int .i64 x.w.den, .int .i64 x.h.num, .int .i64 x.h.den]
theorem own_boxes {w : World} {base : Nat} {A : Option Addr} {n c : Nat} {l : List Bx} (h : w.ownsRow base 82 15 (.slice A n c) n (l.flatMap Bx.cells)) : BxsAt w A l := fun k x hk => by
  obtain ⟨A2, c2, hv, -, -, h3, h4⟩ := own_slice h
  injection hv with e1 e2 e3
  subst e1 e3
  have hlen : (l.flatMap Bx.cells).length = n * 15 := h.1
  rw [flat_len (f := Bx.cells) (c := 15) (fun _ => rfl)] at hlen
  have hkl := (List.getElem?_eq_some_iff.1 hk).1
  cases A with
  | none => have := h4 rfl; omega
  | some ad =>
    obtain ⟨g, rfl, -, hg, hc⟩ := h3 ad rfl
    have q := fun j (hj : j < 15) => hc _ _ (show (l.flatMap Bx.cells)[k * 15 + j]? = some _ from (flat_at (f := Bx.cells) (c := 15) (fun _ => rfl) l k x hk j hj).trans (List.getElem?_eq_getElem (show j < x.cells.length from hj)))
    refine ⟨g, 0, rfl, hg, ?_⟩
    rw [Nat.zero_add]
    exact ⟨q 0 (by omega), q 1 (by omega), q 2 (by omega), q 3 (by omega), q 4 (by omega), q 5 (by omega), q 6 (by omega), q 7 (by omega), q 8 (by omega), q 9 (by omega), q 10 (by omega), q 11 (by omega), q 12 (by omega), q 13 (by omega), q 14 (by omega)⟩

/-- where a box begins and how far it reaches, sideways (false) or downwards (true) -/
def Bx.st (s : Bool) (x : Bx) : Fr := if s then x.y else x.x
def Bx.sz (s : Bool) (x : Bx) : Fr := if s then x.h else x.w
def Bx.en (s : Bool) (x : Bx) : Fr := plusF (x.st s) (x.sz s)
def vF (f : Fr) : Bool := validB f.num f.den
def placedB (s : Bool) (x : Bx) : Bool := (vF (x.st s) && vF (x.sz s)) && (decide (0 < (x.sz s).num) && vF (x.en s))
/-- the numbers of the functions of an axis -/
def stN (s : Bool) : Nat := if s then 135 else 131
def szN (s : Bool) : Nat := if s then 136 else 132

set_option maxRecDepth 100000 in
set_option maxHeartbeats 4000000 in
theorem stN_any (s : Bool) (x : Bx) (w : World) : Calls Tryz.prog (stN s) #[x.val] w (GotFr w (x.st s)) := by
  obtain ⟨k, sg, t, m, st, mn, mx, ⟨x1, x2⟩, ⟨y1, y2⟩, ⟨w1, w2⟩, ⟨h1, h2⟩⟩ := x
  unfold Bx.val
  dsimp only
  cases s
  · show Calls Tryz.prog 131 _ _ (GotFr w ⟨x1, x2⟩)
    go_enter Tryz.func131, Tryz.ntmps131
    go_wp2
    exact bodyPost_ret (v := .agg #[.int .i64 x1, .int .i64 x2]) (by simp [results, Tryz.results131, go_sem]) rfl ⟨rfl, two_under _ _ _⟩
  · show Calls Tryz.prog 135 _ _ (GotFr w ⟨y1, y2⟩)
    go_enter Tryz.func135, Tryz.ntmps135
    go_wp2
    exact bodyPost_ret (v := .agg #[.int .i64 y1, .int .i64 y2]) (by simp [results, Tryz.results135, go_sem]) rfl ⟨rfl, two_under _ _ _⟩
set_option maxRecDepth 100000 in
set_option maxHeartbeats 4000000 in
theorem szN_any (s : Bool) (x : Bx) (w : World) : Calls Tryz.prog (szN s) #[x.val] w (GotFr w (x.sz s)) := by
  obtain ⟨k, sg, t, m, st, mn, mx, ⟨x1, x2⟩, ⟨y1, y2⟩, ⟨w1, w2⟩, ⟨h1, h2⟩⟩ := x
  unfold Bx.val
  dsimp only
  cases s
  · show Calls Tryz.prog 132 _ _ (GotFr w ⟨w1, w2⟩)
    go_enter Tryz.func132, Tryz.ntmps132
    go_wp2
    exact bodyPost_ret (v := .agg #[.int .i64 w1, .int .i64 w2]) (by simp [results, Tryz.results132, go_sem]) rfl ⟨rfl, two_under _ _ _⟩
  · show Calls Tryz.prog 136 _ _ (GotFr w ⟨h1, h2⟩)
    go_enter Tryz.func136, Tryz.ntmps136
    go_wp2
    exact bodyPost_ret (v := .agg #[.int .i64 h1, .int .i64 h2]) (by simp [results, Tryz.results136, go_sem]) rfl ⟨rfl, two_under _ _ _⟩

end Go.Proofs.YtcijomljopbelaaGreat

/- Where a box ends in a direction ((axis).end), by the program. -/
namespace Go.Proofs.YtcijomljopbelaaGreat
open Go.RowKit

theorem sum_small {n q p d : Int} (h1 : -2147483647 ≤ n ∧ n ≤ 2147483647) (h2 : 1 ≤ q ∧ q ≤ 32768) (h3 : -2147483647 ≤ p ∧ p ≤ 2147483647) (h4 : 1 ≤ d ∧ d ≤ 32768) : smallI (n * q + p * d) := by
  have bd : ∀ {a b : Int}, -2147483647 ≤ a ∧ a ≤ 2147483647 → 1 ≤ b ∧ b ≤ 32768 → -100000000000000 ≤ a * b ∧ a * b ≤ 100000000000000 := fun {a b} ha hb => by
    rcases Int.le_total 0 a with h | h
    · have m1 := Int.mul_nonneg h (show 0 ≤ b by omega)
      have m2 := Int.mul_le_mul ha.2 hb.2 (by omega) (by omega)
      omega
    · have m1 := Int.mul_nonneg (show 0 ≤ -a by omega) (show 0 ≤ b by omega)
      have m2 := Int.mul_le_mul (show -a ≤ 2147483647 by omega) hb.2 (by omega) (by omega)
      rw [Int.neg_mul] at m1 m2
      omega
  have a := bd h1 h2
  have b := bd h3 h4
  unfold smallI
  omega

set_option maxRecDepth 100000 in
set_option maxHeartbeats 8000000 in
theorem endS_any (p : Nat) (x : Bx) (w : World) (hs : vF (x.st false) = true) (hz : vF (x.sz false) = true) :
    Calls Tryz.prog 133 #[.agg #[.func (.func 131) #[] #[], .func (.func 132) #[] #[], .func (.func 172) #[] #[.pointer (some ⟨p, 0, none⟩)]], x.val] w (GotFr w (x.en false)) := by
  have HS := Lib.hid (fun wx => show Calls Tryz.prog 131 #[x.val] wx (GotFr wx (x.st false)) from stN_any false x wx)
  have HZ := Lib.hid (fun wx => show Calls Tryz.prog 132 #[x.val] wx (GotFr wx (x.sz false)) from szN_any false x wx)
  unfold vF at hs hz
  obtain ⟨a1, a2, a3, a4⟩ := valid_in hs
  obtain ⟨b1, b2, b3, b4⟩ := valid_in hz
  have m1 := mul_small ⟨a3, a4⟩ ⟨b1, b2⟩
  have m2 := mul_small ⟨b3, b4⟩ ⟨a1, a2⟩
  have HP := Lib.hid (fun wx => show Calls Tryz.prog 109 #[.agg #[.int .i64 (x.st false).num, .int .i64 (x.st false).den], .agg #[.int .i64 (x.sz false).num, .int .i64 (x.sz false).den]] wx (GotFr wx (x.en false)) from
    plus_any _ _ _ _ wx m1 m2 (sum_small ⟨a3, a4⟩ ⟨b1, b2⟩ ⟨b3, b4⟩ ⟨a1, a2⟩) (Int.mul_pos (by omega) (by omega)) (mul_small ⟨by omega, by omega⟩ ⟨b1, b2⟩))
  obtain ⟨S, hS⟩ : ∃ S, S = x.st false := ⟨_, rfl⟩
  obtain ⟨Z, hZ⟩ : ∃ Z, Z = x.sz false := ⟨_, rfl⟩
  obtain ⟨E, hE⟩ : ∃ E, E = x.en false := ⟨_, rfl⟩
  rw [← hS] at HS HP
  rw [← hZ] at HZ HP
  rw [← hE] at HP ⊢
  clear hs hz a1 a2 a3 a4 b1 b2 b3 b4 m1 m2 hS hZ hE
  obtain ⟨k, sg, t, m, st, mn, mx, ⟨x1, x2⟩, ⟨y1, y2⟩, ⟨w1, w2⟩, ⟨h1, h2⟩⟩ := x
  unfold Bx.val at HS HZ ⊢
  dsimp only at HS HZ ⊢
  unfold GotFr at HS HZ HP ⊢
  obtain ⟨W1, hW1⟩ : ∃ W1, W1 = w.alloc (.cells #[.func (.func 131) #[] #[], .func (.func 132) #[] #[], .func (.func 172) #[] #[.pointer (some ⟨p, 0, none⟩)]] 100) := ⟨_, rfl⟩
  obtain ⟨W2, hW2⟩ : ∃ W2, W2 = W1.alloc (.cells #[.int .i64 k, .int .i64 sg, .int .i64 t, .bool m, .int .i64 st, .int .i64 mn, .int .i64 mx, .int .i64 x1, .int .i64 x2, .int .i64 y1, .int .i64 y2, .int .i64 w1, .int .i64 w2, .int .i64 h1, .int .i64 h2] 82) := ⟨_, rfl⟩
  obtain ⟨W, hW⟩ : ∃ W, W = W2.alloc (.cells #[.int .i64 0, .int .i64 0] 40) := ⟨_, rfl⟩
  have s1 : W1.heap.size = w.heap.size + 1 := by rw [hW1]; simp
  have s2 : W2.heap.size = w.heap.size + 1 + 1 := by rw [hW2]; simp [s1]
  have s3 : W.heap.size = w.heap.size + 1 + 1 + 1 := by rw [hW]; simp [s2]
  have k1 : Below w.heap.size w W1 := hW1 ▸ below_alloc _ _
  have k2 : Below W1.heap.size W1 W2 := hW2 ▸ below_alloc _ _
  have k3 : Below W2.heap.size W2 W := hW ▸ below_alloc _ _
  have HB := Lib.hid (below_more (below_more k1 k2) k3)
  have D0 := Lib.hid (blk_keep k3 (blk_keep k2 (show W1.heap[w.heap.size]? = some (.cells #[.func (.func 131) #[] #[], .func (.func 132) #[] #[], .func (.func 172) #[] #[.pointer (some ⟨p, 0, none⟩)]] 100 (0, 0)) by rw [hW1]; exact heap_alloc_new _ _)))
  have D1 := Lib.hid (blk_keep k3 (show W2.heap[w.heap.size + 1]? = some (.cells #[.int .i64 k, .int .i64 sg, .int .i64 t, .bool m, .int .i64 st, .int .i64 mn, .int .i64 mx, .int .i64 x1, .int .i64 x2, .int .i64 y1, .int .i64 y2, .int .i64 w1, .int .i64 w2, .int .i64 h1, .int .i64 h2] 82 (0, 0)) by rw [hW2, ← s1]; exact heap_alloc_new _ _))
  have D2 := Lib.hid (show W.heap[w.heap.size + 1 + 1]? = some (.cells #[.int .i64 0, .int .i64 0] 40 (0, 0)) by rw [hW, ← s2]; exact heap_alloc_new _ _)
  have hz0 : w.heap.size < W.heap.size := by omega
  have hz1 : w.heap.size + 1 < W.heap.size := by omega
  clear s1 s2 s3 k1 k2 k3
  have c0 := cell_of_blk D0.out 0
  have c1 := cell_of_blk D0.out 1
  have b0 := cell_of_blk D1.out 0
  have b1 := cell_of_blk D1.out 1
  have b2 := cell_of_blk D1.out 2
  have b3 := cell_of_blk D1.out 3
  have b4 := cell_of_blk D1.out 4
  have b5 := cell_of_blk D1.out 5
  have b6 := cell_of_blk D1.out 6
  have b7 := cell_of_blk D1.out 7
  have b8 := cell_of_blk D1.out 8
  have b9 := cell_of_blk D1.out 9
  have b10 := cell_of_blk D1.out 10
  have b11 := cell_of_blk D1.out 11
  have b12 := cell_of_blk D1.out 12
  have b13 := cell_of_blk D1.out 13
  have b14 := cell_of_blk D1.out 14
  simp at c0 c1 b0 b1 b2 b3 b4 b5 b6 b7 b8 b9 b10 b11 b12 b13 b14
  go_enter Tryz.func133, Tryz.ntmps133
  go_wp2_with fail
  rw [← hW1, ← hW2, ← hW]
  clear hW1 hW2 hW
  refine wp_region_later_tail 9 (by kernel_rfl) (by kernel_rfl) ?_; simp only [List.take_succ_cons, List.take_zero, List.drop_succ_cons, List.drop_zero]; (repeat (first | go_big_quiet_step ((first | ((go_at_call 131; exact Calls.later _ (HS.out _))) | ((go_at_call 132; exact Calls.later _ (HZ.out _))) | ((go_at_call 109; exact Calls.later _ (HP.out _))))) | quiet_step ((first | ((go_at_call 131; exact Calls.later _ (HS.out _))) | ((go_at_call 132; exact Calls.later _ (HZ.out _))) | ((go_at_call 109; exact Calls.later _ (HP.out _))))))); refine wpQuiet_nil ?_; rintro _ ⟨s, rfl⟩
  have HBS := Lib.hid (below_more HB.out s.below)
  have K1 := Lib.hid (blk_keep s.below D2.out)
  obtain ⟨X, hX⟩ : ∃ X, X = s.w := ⟨_, rfl⟩
  rw [← hX] at HBS K1 ⊢
  clear hX s c0 c1 b0 b1 b2 b3 b4 b5 b6 b7 b8 b9 b10 b11 b12 b13 b14 hz0 hz1
  have q0 := cell_of_blk K1.out 0
  have q1 := cell_of_blk K1.out 1
  have f0 := free_of_blk K1.out 0
  have f1 := free_of_blk K1.out 1
  have hs := (Array.getElem?_eq_some_iff.1 K1.out).1
  simp at q0 q1
  go_wp2_with fail
  refine bodyPost_ret (v := .agg #[.int .i64 E.num, .int .i64 E.den]) (by simp [results, Tryz.results133, go_sem, q0, q1]) rfl ⟨rfl, ?_⟩
  exact (HBS.out.setCell (by dsimp only; omega) _).setCell (by dsimp only; omega) _

set_option maxRecDepth 100000 in
set_option maxHeartbeats 8000000 in
theorem endD_any (p : Nat) (x : Bx) (w : World) (hs : vF (x.st true) = true) (hz : vF (x.sz true) = true) :
    Calls Tryz.prog 133 #[.agg #[.func (.func 135) #[] #[], .func (.func 136) #[] #[], .func (.func 172) #[] #[.pointer (some ⟨p, 0, none⟩)]], x.val] w (GotFr w (x.en true)) := by
  have HS := Lib.hid (fun wx => show Calls Tryz.prog 135 #[x.val] wx (GotFr wx (x.st true)) from stN_any true x wx)
  have HZ := Lib.hid (fun wx => show Calls Tryz.prog 136 #[x.val] wx (GotFr wx (x.sz true)) from szN_any true x wx)
  unfold vF at hs hz
  obtain ⟨a1, a2, a3, a4⟩ := valid_in hs
  obtain ⟨b1, b2, b3, b4⟩ := valid_in hz
  have m1 := mul_small ⟨a3, a4⟩ ⟨b1, b2⟩
  have m2 := mul_small ⟨b3, b4⟩ ⟨a1, a2⟩
  have HP := Lib.hid (fun wx => show Calls Tryz.prog 109 #[.agg #[.int .i64 (x.st true).num, .int .i64 (x.st true).den], .agg #[.int .i64 (x.sz true).num, .int .i64 (x.sz true).den]] wx (GotFr wx (x.en true)) from
    plus_any _ _ _ _ wx m1 m2 (sum_small ⟨a3, a4⟩ ⟨b1, b2⟩ ⟨b3, b4⟩ ⟨a1, a2⟩) (Int.mul_pos (by omega) (by omega)) (mul_small ⟨by omega, by omega⟩ ⟨b1, b2⟩))
  obtain ⟨S, hS⟩ : ∃ S, S = x.st true := ⟨_, rfl⟩
  obtain ⟨Z, hZ⟩ : ∃ Z, Z = x.sz true := ⟨_, rfl⟩
  obtain ⟨E, hE⟩ : ∃ E, E = x.en true := ⟨_, rfl⟩
  rw [← hS] at HS HP
  rw [← hZ] at HZ HP
  rw [← hE] at HP ⊢
  clear hs hz a1 a2 a3 a4 b1 b2 b3 b4 m1 m2 hS hZ hE
  obtain ⟨k, sg, t, m, st, mn, mx, ⟨x1, x2⟩, ⟨y1, y2⟩, ⟨w1, w2⟩, ⟨h1, h2⟩⟩ := x
  unfold Bx.val at HS HZ ⊢
  dsimp only at HS HZ ⊢
  unfold GotFr at HS HZ HP ⊢
  obtain ⟨W1, hW1⟩ : ∃ W1, W1 = w.alloc (.cells #[.func (.func 135) #[] #[], .func (.func 136) #[] #[], .func (.func 172) #[] #[.pointer (some ⟨p, 0, none⟩)]] 100) := ⟨_, rfl⟩
  obtain ⟨W2, hW2⟩ : ∃ W2, W2 = W1.alloc (.cells #[.int .i64 k, .int .i64 sg, .int .i64 t, .bool m, .int .i64 st, .int .i64 mn, .int .i64 mx, .int .i64 x1, .int .i64 x2, .int .i64 y1, .int .i64 y2, .int .i64 w1, .int .i64 w2, .int .i64 h1, .int .i64 h2] 82) := ⟨_, rfl⟩
  obtain ⟨W, hW⟩ : ∃ W, W = W2.alloc (.cells #[.int .i64 0, .int .i64 0] 40) := ⟨_, rfl⟩
  have s1 : W1.heap.size = w.heap.size + 1 := by rw [hW1]; simp
  have s2 : W2.heap.size = w.heap.size + 1 + 1 := by rw [hW2]; simp [s1]
  have s3 : W.heap.size = w.heap.size + 1 + 1 + 1 := by rw [hW]; simp [s2]
  have k1 : Below w.heap.size w W1 := hW1 ▸ below_alloc _ _
  have k2 : Below W1.heap.size W1 W2 := hW2 ▸ below_alloc _ _
  have k3 : Below W2.heap.size W2 W := hW ▸ below_alloc _ _
  have HB := Lib.hid (below_more (below_more k1 k2) k3)
  have D0 := Lib.hid (blk_keep k3 (blk_keep k2 (show W1.heap[w.heap.size]? = some (.cells #[.func (.func 135) #[] #[], .func (.func 136) #[] #[], .func (.func 172) #[] #[.pointer (some ⟨p, 0, none⟩)]] 100 (0, 0)) by rw [hW1]; exact heap_alloc_new _ _)))
  have D1 := Lib.hid (blk_keep k3 (show W2.heap[w.heap.size + 1]? = some (.cells #[.int .i64 k, .int .i64 sg, .int .i64 t, .bool m, .int .i64 st, .int .i64 mn, .int .i64 mx, .int .i64 x1, .int .i64 x2, .int .i64 y1, .int .i64 y2, .int .i64 w1, .int .i64 w2, .int .i64 h1, .int .i64 h2] 82 (0, 0)) by rw [hW2, ← s1]; exact heap_alloc_new _ _))
  have D2 := Lib.hid (show W.heap[w.heap.size + 1 + 1]? = some (.cells #[.int .i64 0, .int .i64 0] 40 (0, 0)) by rw [hW, ← s2]; exact heap_alloc_new _ _)
  have hz0 : w.heap.size < W.heap.size := by omega
  have hz1 : w.heap.size + 1 < W.heap.size := by omega
  clear s1 s2 s3 k1 k2 k3
  have c0 := cell_of_blk D0.out 0
  have c1 := cell_of_blk D0.out 1
  have b0 := cell_of_blk D1.out 0
  have b1 := cell_of_blk D1.out 1
  have b2 := cell_of_blk D1.out 2
  have b3 := cell_of_blk D1.out 3
  have b4 := cell_of_blk D1.out 4
  have b5 := cell_of_blk D1.out 5
  have b6 := cell_of_blk D1.out 6
  have b7 := cell_of_blk D1.out 7
  have b8 := cell_of_blk D1.out 8
  have b9 := cell_of_blk D1.out 9
  have b10 := cell_of_blk D1.out 10
  have b11 := cell_of_blk D1.out 11
  have b12 := cell_of_blk D1.out 12
  have b13 := cell_of_blk D1.out 13
  have b14 := cell_of_blk D1.out 14
  simp at c0 c1 b0 b1 b2 b3 b4 b5 b6 b7 b8 b9 b10 b11 b12 b13 b14
  go_enter Tryz.func133, Tryz.ntmps133
  go_wp2_with fail
  rw [← hW1, ← hW2, ← hW]
  clear hW1 hW2 hW
  refine wp_region_later_tail 9 (by kernel_rfl) (by kernel_rfl) ?_; simp only [List.take_succ_cons, List.take_zero, List.drop_succ_cons, List.drop_zero]; (repeat (first | go_big_quiet_step ((first | ((go_at_call 135; exact Calls.later _ (HS.out _))) | ((go_at_call 136; exact Calls.later _ (HZ.out _))) | ((go_at_call 109; exact Calls.later _ (HP.out _))))) | quiet_step ((first | ((go_at_call 135; exact Calls.later _ (HS.out _))) | ((go_at_call 136; exact Calls.later _ (HZ.out _))) | ((go_at_call 109; exact Calls.later _ (HP.out _))))))); refine wpQuiet_nil ?_; rintro _ ⟨s, rfl⟩
  have HBS := Lib.hid (below_more HB.out s.below)
  have K1 := Lib.hid (blk_keep s.below D2.out)
  obtain ⟨X, hX⟩ : ∃ X, X = s.w := ⟨_, rfl⟩
  rw [← hX] at HBS K1 ⊢
  clear hX s c0 c1 b0 b1 b2 b3 b4 b5 b6 b7 b8 b9 b10 b11 b12 b13 b14 hz0 hz1
  have q0 := cell_of_blk K1.out 0
  have q1 := cell_of_blk K1.out 1
  have f0 := free_of_blk K1.out 0
  have f1 := free_of_blk K1.out 1
  have hs := (Array.getElem?_eq_some_iff.1 K1.out).1
  simp at q0 q1
  go_wp2_with fail
  refine bodyPost_ret (v := .agg #[.int .i64 E.num, .int .i64 E.den]) (by simp [results, Tryz.results133, go_sem, q0, q1]) rfl ⟨rfl, ?_⟩
  exact (HBS.out.setCell (by dsimp only; omega) _).setCell (by dsimp only; omega) _

end Go.Proofs.YtcijomljopbelaaGreat

/- Boxes copied (copied). -/
namespace Go.Proofs.YtcijomljopbelaaGreat
open Go.RowKit

theorem bxs_none {w : World} {A : Option Addr} {bs : List Bx} (h : BxsAt w A bs) : A = none → bs.length = 0 := by
  intro hA
  cases bs with
  | nil => rfl
  | cons x r => obtain ⟨b, o, e, _⟩ := h 0 x rfl; rw [hA] at e; cases e
theorem split15 (j : Nat) : ∃ k i, i < 15 ∧ j = k * 15 + i := ⟨j / 15, j % 15, Nat.mod_lt _ (by omega), by omega⟩
/-- the cells of a slice of boxes, as append reads them -/
theorem bxs_cells {w : World} {A : Option Addr} {bs : List Bx} (h : BxsAt w A bs) : ∀ ad, A = some ad → ∀ j u, (bs.flatMap Bx.cells)[j]? = some u → w.cell? (ad.add j) = some u := by
  intro ad hA j u hj
  obtain ⟨k, i, hi, rfl⟩ := split15 j
  have hlt := (List.getElem?_eq_some_iff.1 hj).1
  rw [flat_len (c := 15) (fun _ => rfl)] at hlt
  have hk : k < bs.length := by omega
  have hg : bs[k]? = some bs[k] := List.getElem?_eq_getElem hk
  obtain ⟨b, o, e, _, hv⟩ := h k _ hg
  rw [hA] at e; injection e with e; subst e
  rw [flat_at (c := 15) (fun _ => rfl) _ _ _ hg i hi] at hj
  rw [addr_add]
  match i, hi, hj with
  | 0, _, hj => simp [Bx.cells] at hj; subst hj; exact hv.c0
  | 1, _, hj => simp [Bx.cells] at hj; subst hj; rw [show o + (k * 15 + 1) = o + k * 15 + 1 by omega]; exact hv.c1
  | 2, _, hj => simp [Bx.cells] at hj; subst hj; rw [show o + (k * 15 + 2) = o + k * 15 + 2 by omega]; exact hv.c2
  | 3, _, hj => simp [Bx.cells] at hj; subst hj; rw [show o + (k * 15 + 3) = o + k * 15 + 3 by omega]; exact hv.c3
  | 4, _, hj => simp [Bx.cells] at hj; subst hj; rw [show o + (k * 15 + 4) = o + k * 15 + 4 by omega]; exact hv.c4
  | 5, _, hj => simp [Bx.cells] at hj; subst hj; rw [show o + (k * 15 + 5) = o + k * 15 + 5 by omega]; exact hv.c5
  | 6, _, hj => simp [Bx.cells] at hj; subst hj; rw [show o + (k * 15 + 6) = o + k * 15 + 6 by omega]; exact hv.c6
  | 7, _, hj => simp [Bx.cells] at hj; subst hj; rw [show o + (k * 15 + 7) = o + k * 15 + 7 by omega]; exact hv.c7
  | 8, _, hj => simp [Bx.cells] at hj; subst hj; rw [show o + (k * 15 + 8) = o + k * 15 + 8 by omega]; exact hv.c8
  | 9, _, hj => simp [Bx.cells] at hj; subst hj; rw [show o + (k * 15 + 9) = o + k * 15 + 9 by omega]; exact hv.c9
  | 10, _, hj => simp [Bx.cells] at hj; subst hj; rw [show o + (k * 15 + 10) = o + k * 15 + 10 by omega]; exact hv.c10
  | 11, _, hj => simp [Bx.cells] at hj; subst hj; rw [show o + (k * 15 + 11) = o + k * 15 + 11 by omega]; exact hv.c11
  | 12, _, hj => simp [Bx.cells] at hj; subst hj; rw [show o + (k * 15 + 12) = o + k * 15 + 12 by omega]; exact hv.c12
  | 13, _, hj => simp [Bx.cells] at hj; subst hj; rw [show o + (k * 15 + 13) = o + k * 15 + 13 by omega]; exact hv.c13
  | 14, _, hj => simp [Bx.cells] at hj; subst hj; rw [show o + (k * 15 + 14) = o + k * 15 + 14 by omega]; exact hv.c14
theorem bxs_one {bs : List Bx} : ∀ u ∈ bs.flatMap Bx.cells, u.oneCell' = true := fun u hu => by
  obtain ⟨p, _, h⟩ := List.mem_flatMap.1 hu
  exact bx_one p u h

set_option maxRecDepth 100000 in
set_option maxHeartbeats 4000000 in
theorem copied_any (A : Option Addr) (cap : Nat) (bs : List Bx) (w : World) (hn : BxsAt w A bs) (hc1 : bs.length ≤ cap) (hc : cap ≤ maxLen) (hsm : bs.length ≤ 1000000) :
    Calls Tryz.prog 31 #[.slice A bs.length cap] w (GotRow w 82 15 bs.length (bs.flatMap Bx.cells)) := by
  have HBS := Lib.hid hn
  obtain ⟨N, hN⟩ : ∃ N, N = bs.length := ⟨_, rfl⟩
  have HN := Lib.hid hN
  obtain ⟨cells, hcs⟩ : ∃ c, c = bs.flatMap Bx.cells := ⟨_, rfl⟩
  have HC := Lib.hid (show cells.length = N * 15 by rw [hcs, HN.out]; exact flat_len (f := Bx.cells) (fun _ => rfl) _)
  have HC0 := Lib.hid (fun (h : A = none) => show N = 0 by rw [HN.out]; exact bxs_none HBS.out h)
  have HC1 := Lib.hid (show ∀ u ∈ cells, u.oneCell' = true by rw [hcs]; exact bxs_one)
  have HC2 := Lib.hid (fun wx (hb : Below w.heap.size w wx) => show ∀ ad, A = some ad → ∀ j u, cells[j]? = some u → wx.cell? (ad.add j) = some u by rw [hcs]; exact bxs_cells (HBS.out.below hb))
  rw [← hcs]
  rw [← hN] at hc1 hsm ⊢
  unfold maxLen at hc
  clear hn hN hcs
  obtain ⟨iv, hiv, hzv, hsv, hbv⟩ := info_hid infoBx
  have HSM := Lib.hid hsm
  go_enter Tryz.func31, Tryz.ntmps31
  go_wp2_with (first
    | (at_builtin; refine wpList_append_src _ rfl (.tmp 3) (.tmp 4) 51 rfl w.heap.size 82 iv (.agg #[.int .i64 0, .int .i64 0, .int .i64 0, .bool false, .int .i64 0, .int .i64 0, .int .i64 0, .int .i64 0, .int .i64 0, .int .i64 0, .int .i64 0, .int .i64 0, .int .i64 0, .int .i64 0, .int .i64 0]) 15 120 Tryz.underlying51 hiv.out hzv.out hsv.out hbv.out rfl (by decide) (.slice (some ⟨w.heap.size, 0, none⟩) 0 0) 0 [] rfl (own_empty w _ 15) A N cap cells rfl HC.out HC0.out (HC2.out _ (below_alloc _ _)) HC1.out (by have := HSM.out; unfold maxLen; omega) (by have := HSM.out; omega) (by simp) N (Nat.zero_add _).symm ?_))
  intro A1 c1 w1 own1 hg1 _
  have HB1 := Lib.hid (show Below w.heap.size w w1 from (below_alloc w _).grown hg1 (by simp) (fun g hg => by have hg : some w.heap.size = some g := hg; injection hg with hg; omega))
  have HO1 := Lib.hid own1
  clear own1 hg1
  go_wp2_with fail
  go_ret
  exact ⟨A1, c1, rfl, by simpa using HO1.out, HB1.out⟩

end Go.Proofs.YtcijomljopbelaaGreat
