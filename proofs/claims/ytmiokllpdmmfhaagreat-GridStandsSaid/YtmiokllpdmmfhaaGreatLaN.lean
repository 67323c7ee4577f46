/-
  Boxes in memory; where a box begins and how far it reaches in a direction.
-/
import Derived.Test.YtmiokllpdmmfhaaGreatBox
namespace Go.Proofs.YtmiokllpdmmfhaaGreat
open Go.RowKit
structure BxAt (w : World) (b p : Nat) (x : Bx) : Prop where
  c0 : w.cell? ⟨b, p, none⟩ = some (.int .i64 x.kind)
  c1 : w.cell? ⟨b, p + 1, none⟩ = some (.int .i64 x.sign)
  c2 : w.cell? ⟨b, p + 2, none⟩ = some (.int .i64 x.turn)
  c3 : w.cell? ⟨b, p + 3, none⟩ = some (.bool x.mirror)
  c4 : w.cell? ⟨b, p + 4, none⟩ = some (.int .i64 x.state)
  c5 : w.cell? ⟨b, p + 5, none⟩ = some (.int .i64 x.min)
  c6 : w.cell? ⟨b, p + 6, none⟩ = some (.int .i64 x.max)
  c7 : w.cell? ⟨b, p + 7, none⟩ = some (.int .i64 x.x.num)
  c8 : w.cell? ⟨b, p + 8, none⟩ = some (.int .i64 x.x.den)
  c9 : w.cell? ⟨b, p + 9, none⟩ = some (.int .i64 x.y.num)
  c10 : w.cell? ⟨b, p + 10, none⟩ = some (.int .i64 x.y.den)
  c11 : w.cell? ⟨b, p + 11, none⟩ = some (.int .i64 x.w.num)
  c12 : w.cell? ⟨b, p + 12, none⟩ = some (.int .i64 x.w.den)
  c13 : w.cell? ⟨b, p + 13, none⟩ = some (.int .i64 x.h.num)
  c14 : w.cell? ⟨b, p + 14, none⟩ = some (.int .i64 x.h.den)
def BxsAt (w : World) (A : Option Addr) (bs : List Bx) : Prop := ∀ k x, bs[k]? = some x → ∃ b o, A = some ⟨b, o, none⟩ ∧ b < w.heap.size ∧ BxAt w b (o + k * 15) x
theorem BxAt.below {w w' : World} {b p : Nat} {x : Bx} (h : BxAt w b p x) (hb : Below w.heap.size w w') (hlt : b < w.heap.size) : BxAt w' b p x :=
  ⟨(hb.cell (p := ⟨b, _, none⟩) hlt).trans h.c0, (hb.cell (p := ⟨b, _, none⟩) hlt).trans h.c1, (hb.cell (p := ⟨b, _, none⟩) hlt).trans h.c2, (hb.cell (p := ⟨b, _, none⟩) hlt).trans h.c3, (hb.cell (p := ⟨b, _, none⟩) hlt).trans h.c4, (hb.cell (p := ⟨b, _, none⟩) hlt).trans h.c5, (hb.cell (p := ⟨b, _, none⟩) hlt).trans h.c6, (hb.cell (p := ⟨b, _, none⟩) hlt).trans h.c7, (hb.cell (p := ⟨b, _, none⟩) hlt).trans h.c8, (hb.cell (p := ⟨b, _, none⟩) hlt).trans h.c9, (hb.cell (p := ⟨b, _, none⟩) hlt).trans h.c10, (hb.cell (p := ⟨b, _, none⟩) hlt).trans h.c11, (hb.cell (p := ⟨b, _, none⟩) hlt).trans h.c12, (hb.cell (p := ⟨b, _, none⟩) hlt).trans h.c13, (hb.cell (p := ⟨b, _, none⟩) hlt).trans h.c14⟩
theorem BxsAt.below {w w' : World} {A : Option Addr} {bs : List Bx} (h : BxsAt w A bs) (hb : Below w.heap.size w w') : BxsAt w' A bs := fun k x hk => by
  obtain ⟨b, o, e, hlt, hv⟩ := h k x hk
  exact ⟨b, o, e, Nat.lt_of_lt_of_le hlt hb.size, hv.below hb hlt⟩
def Bx.val (x : Bx) : Value := .agg #[.int .i64 x.kind, .int .i64 x.sign, .int .i64 x.turn, .bool x.mirror, .int .i64 x.state, .int .i64 x.min, .int .i64 x.max, .int .i64 x.x.num, .int .i64 x.x.den, .int .i64 x.y.num, .int .i64 x.y.den, .int .i64 x.w.num, .int .i64 x.w.den, .int .i64 x.h.num, .int .i64 x.h.den]
theorem own_boxes {w : World} {base : Nat} {A : Option Addr} {n c : Nat} {l : List Bx} (h : w.ownsRow base 82 15 (.slice A n c) n (l.flatMap Bx.cells)) : BxsAt w A l := fun k x hk => by
  obtain ⟨A2, c2, hv, -, -, h3, h4⟩ := own_slice h
  injection hv with e1 e2 e3
  subst e1 e3
  have hlen : (l.flatMap Bx.cells).length = n * 15 := h.1
  rw [flat_len (f := Bx.cells) (c := 15) (fun _ => rfl)] at hlen
  have hkl := (List.getElem?_eq_some_iff.1 hk).1
  cases A with
  | none => have := h4 rfl; omega
  | some ad =>
    obtain ⟨g, rfl, -, hg, hc⟩ := h3 ad rfl
    have q := fun j (hj : j < 15) => hc _ _ (show (l.flatMap Bx.cells)[k * 15 + j]? = some _ from (flat_at (f := Bx.cells) (c := 15) (fun _ => rfl) l k x hk j hj).trans (List.getElem?_eq_getElem (show j < x.cells.length from hj)))
    refine ⟨g, 0, rfl, hg, ?_⟩
    rw [Nat.zero_add]
    exact ⟨q 0 (by omega), q 1 (by omega), q 2 (by omega), q 3 (by omega), q 4 (by omega), q 5 (by omega), q 6 (by omega), q 7 (by omega), q 8 (by omega), q 9 (by omega), q 10 (by omega), q 11 (by omega), q 12 (by omega), q 13 (by omega), q 14 (by omega)⟩
def Bx.st (s : Bool) (x : Bx) : Fr := if s then x.y else x.x
def Bx.sz (s : Bool) (x : Bx) : Fr := if s then x.h else x.w
def Bx.en (s : Bool) (x : Bx) : Fr := plusF (x.st s) (x.sz s)
def stN (s : Bool) : Nat := if s then 135 else 131
def szN (s : Bool) : Nat := if s then 136 else 132
set_option maxRecDepth 100000 in
set_option maxHeartbeats 4000000 in
theorem stN_any (s : Bool) (x : Bx) (w : World) : Calls Tryz.prog (stN s) #[x.val] w (GotFr w (x.st s)) := by
  obtain ⟨k, sg, t, m, st, mn, mx, ⟨x1, x2⟩, ⟨y1, y2⟩, ⟨w1, w2⟩, ⟨h1, h2⟩⟩ := x
  unfold Bx.val
  dsimp only
  cases s
  · show Calls Tryz.prog 131 _ _ (GotFr w ⟨x1, x2⟩)
    go_enter Tryz.func131, Tryz.ntmps131
    go_wp2
    exact bodyPost_ret (v := .agg #[.int .i64 x1, .int .i64 x2]) (by simp [results, Tryz.results131, go_sem]) rfl ⟨rfl, two_under _ _ _⟩
  · show Calls Tryz.prog 135 _ _ (GotFr w ⟨y1, y2⟩)
    go_enter Tryz.func135, Tryz.ntmps135
    go_wp2
    exact bodyPost_ret (v := .agg #[.int .i64 y1, .int .i64 y2]) (by simp [results, Tryz.results135, go_sem]) rfl ⟨rfl, two_under _ _ _⟩
set_option maxRecDepth 100000 in
set_option maxHeartbeats 4000000 in
theorem szN_any (s : Bool) (x : Bx) (w : World) : Calls Tryz.prog (szN s) #[x.val] w (GotFr w (x.sz s)) := by
  obtain ⟨k, sg, t, m, st, mn, mx, ⟨x1, x2⟩, ⟨y1, y2⟩, ⟨w1, w2⟩, ⟨h1, h2⟩⟩ := x
  unfold Bx.val
  dsimp only
  cases s
  · show Calls Tryz.prog 132 _ _ (GotFr w ⟨w1, w2⟩)
    go_enter Tryz.func132, Tryz.ntmps132
    go_wp2
    exact bodyPost_ret (v := .agg #[.int .i64 w1, .int .i64 w2]) (by simp [results, Tryz.results132, go_sem]) rfl ⟨rfl, two_under _ _ _⟩
  · show Calls Tryz.prog 136 _ _ (GotFr w ⟨h1, h2⟩)
    go_enter Tryz.func136, Tryz.ntmps136
    go_wp2
    exact bodyPost_ret (v := .agg #[.int .i64 h1, .int .i64 h2]) (by simp [results, Tryz.results136, go_sem]) rfl ⟨rfl, two_under _ _ _⟩
end Go.Proofs.YtmiokllpdmmfhaaGreat
