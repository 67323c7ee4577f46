/-
  A slice of nodes as it lies in memory; the greatest depth that a node behind others may have (deepest).
-/
import Derived.Test.YtbfedahonfjpfaaGGly
namespace Go.Proofs.Ytbfedahonfjpfaa
open Go.RowKit

theorem blk_keep2 {W w' : World} (hb : Below W.heap.size W w') {g : Nat} {cs : Array Value} {t : TypeId} (h : W.heap[g]? = some (.cells cs t (0, 0))) : w'.heap[g]? = some (.cells cs t (0, 0)) :=
  (hb.block g (Array.getElem?_eq_some_iff.1 h).1).trans h
theorem cell_of_blk2 {w : World} {g : Nat} {cs : Array Value} {t : TypeId} (h : w.heap[g]? = some (.cells cs t (0, 0))) (o : Nat) : w.cell? ⟨g, o, none⟩ = cs[o]? := cell_of_row w g o cs t (0, 0) h
structure NdAt (w : World) (b p : Nat) (n : Nd) : Prop where
  c0 : w.cell? ⟨b, p, none⟩ = some (.int .i64 n.kind)
  c1 : w.cell? ⟨b, p + 1, none⟩ = some (.int .i64 n.depth)
  c2 : w.cell? ⟨b, p + 2, none⟩ = some (.int .i64 n.sign)
  c3 : w.cell? ⟨b, p + 3, none⟩ = some (.int .i64 n.turn)
  c4 : w.cell? ⟨b, p + 4, none⟩ = some (.bool n.mirror)
  c5 : w.cell? ⟨b, p + 5, none⟩ = some (.int .i64 n.state)
  c6 : w.cell? ⟨b, p + 6, none⟩ = some (.int .i64 n.min)
  c7 : w.cell? ⟨b, p + 7, none⟩ = some (.int .i64 n.max)
/-- a slice of nodes -/
def NdsAt (w : World) (A : Option Addr) (ns : List Nd) : Prop := ∀ k n, ns[k]? = some n → ∃ b o, A = some ⟨b, o, none⟩ ∧ b < w.heap.size ∧ NdAt w b (o + k * 8) n
theorem NdAt.below {w w' : World} {b p : Nat} {n : Nd} (h : NdAt w b p n) (hb : Below w.heap.size w w') (hlt : b < w.heap.size) : NdAt w' b p n :=
  ⟨(hb.cell (p := ⟨b, _, none⟩) hlt).trans h.c0, (hb.cell (p := ⟨b, _, none⟩) hlt).trans h.c1, (hb.cell (p := ⟨b, _, none⟩) hlt).trans h.c2, (hb.cell (p := ⟨b, _, none⟩) hlt).trans h.c3, (hb.cell (p := ⟨b, _, none⟩) hlt).trans h.c4, (hb.cell (p := ⟨b, _, none⟩) hlt).trans h.c5, (hb.cell (p := ⟨b, _, none⟩) hlt).trans h.c6, (hb.cell (p := ⟨b, _, none⟩) hlt).trans h.c7⟩
theorem NdsAt.below {w w' : World} {A : Option Addr} {ns : List Nd} (h : NdsAt w A ns) (hb : Below w.heap.size w w') : NdsAt w' A ns := fun k n hk => by
  obtain ⟨b, o, e, hlt, hv⟩ := h k n hk
  exact ⟨b, o, e, Nat.lt_of_lt_of_le hlt hb.size, hv.below hb hlt⟩
theorem NdsAt.take {w : World} {A : Option Addr} {ns : List Nd} (h : NdsAt w A ns) (n : Nat) : NdsAt w A (ns.take n) := fun k v hk => h k v (by rw [List.getElem?_take] at hk; split at hk <;> simp_all)
def deepR (ns : List Nd) : Int :=
  match ns[ns.length - 1]? with
  | none => 0
  | some n => if leafB n.kind then n.depth else if n.depth + 1 ≤ 4 then n.depth + 1 else 4

set_option maxHeartbeats 1600000 in
set_option maxRecDepth 100000 in
theorem deepest_any (ns : List Nd) (A : Option Addr) (cap : Nat) (w : World) (h : NdsAt w A ns) (hl : ns.length ≤ cap) (hc : cap ≤ maxLen) (hd : ∀ n ∈ ns, 0 ≤ n.depth ∧ n.depth ≤ 4) :
    Calls Try.prog 89 #[.slice A ns.length cap] w fun e w' => e = .returned (.int .i64 (deepR ns)) ∧ Below w.heap.size w w' := by
  unfold maxLen at hc
  obtain ⟨N, hN⟩ : ∃ N, N = ns.length := ⟨_, rfl⟩
  have HN := Lib.hid hN
  rw [← hN] at hl ⊢
  by_cases h0 : N = 0
  · have HF := Lib.hid (show deepR ns = 0 by unfold deepR; rw [← hN, h0, List.eq_nil_of_length_eq_zero (hN.symm.trans h0)]; rfl)
    subst h0
    clear hN h hd
    go_enter Try.func89, Try.ntmps89
    go_wp2
    go_ret
    exact ⟨of_int HF.out.symm, Below.refl _ _⟩
  obtain ⟨k, rfl⟩ : ∃ k, N = k + 1 := ⟨N - 1, by omega⟩
  have hget : ns[k]? = some (ns[k]'(by omega)) := List.getElem?_eq_getElem _
  obtain ⟨u, hu⟩ : ∃ u, u = ns[k]'(by omega) := ⟨_, rfl⟩
  rw [← hu] at hget
  have HR := Lib.hid (show deepR ns = if leafB u.kind then u.depth else if u.depth + 1 ≤ 4 then u.depth + 1 else 4 by
    unfold deepR; rw [← hN, Nat.add_sub_cancel, hget])
  have hud := hd u (List.mem_of_getElem? hget)
  obtain ⟨b, o, hA, hb, y0, y1, y2, y3, y4, y5, y6, y7⟩ := h k u hget
  subst hA
  obtain ⟨kind, depth, sign, turn, mirror, state, mn, mx⟩ := u
  dsimp only at y0 y1 y2 y3 y4 y5 y6 y7 hud HR
  have HL := Lib.hid (fun w => show Calls Try.prog 108 #[.agg #[.int .i64 kind, .int .i64 depth, .int .i64 sign, .int .i64 turn, .bool mirror, .int .i64 state, .int .i64 mn, .int .i64 mx]] w (fun e w' => e = .returned (.bool (leafB kind)) ∧ Below w.heap.size w w') from isLeaf_any ⟨kind, depth, sign, turn, mirror, state, mn, mx⟩ w)
  obtain ⟨B, hB⟩ : ∃ B, B = leafB kind := ⟨_, rfl⟩
  rw [← hB] at HR HL
  clear hB hget hu hd h hN h0
  have C0 := Lib.hid (heap_alloc_new w (.cells #[.int .i64 kind, .int .i64 depth, .int .i64 sign, .int .i64 turn, .bool mirror, .int .i64 state, .int .i64 mn, .int .i64 mx] 78))
  have hba := Lib.hid (below_alloc w (.cells #[.int .i64 kind, .int .i64 depth, .int .i64 sign, .int .i64 turn, .bool mirror, .int .i64 state, .int .i64 mn, .int .i64 mx] 78))
  have hk1 : ((k : Int) + 1 == 0) = false := by simp; omega
  obtain ⟨hd0, hd4⟩ := hud
  go_enter Try.func89, Try.ntmps89
  go_wp2_with fail
  refine (HL.out _).mono ?_; rintro e w1 ⟨rfl, hb1⟩
  have b1 := Lib.hid (below_more hba.out hb1)
  have C1 := Lib.hid (blk_keep2 hb1 C0.out)
  have x1 := cell_of_blk2 C1.out 1
  simp at x1
  clear hb1 y0 y1 y2 y3 y4 y5 y6 y7
  cases B with
  | true =>
    go_wp2_with fail
    go_ret
    exact ⟨of_int (by rw [HR.out]; rfl), b1.out⟩
  | false =>
    by_cases h4 : depth + 1 ≤ 4
    · have HF := Lib.hid (show deepR ns = depth + 1 by rw [HR.out]; simp; omega)
      go_wp2_with fail
      go_ret
      exact ⟨of_int HF.out.symm, b1.out⟩
    · have HF := Lib.hid (show deepR ns = 4 by rw [HR.out]; simp; omega)
      go_wp2_with fail
      go_ret
      exact ⟨of_int HF.out.symm, b1.out⟩

end Go.Proofs.Ytbfedahonfjpfaa
