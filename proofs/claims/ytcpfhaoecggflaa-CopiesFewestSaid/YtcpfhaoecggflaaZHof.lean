/-
  handsOf and fewestHands of the program (layer 9).
-/
import Derived.Test.YtcpfhaoecggflaaZGv2
import Derived.Deep.MidRow
namespace Go.Proofs.Ytcpfhaoecggflaa
open Go.RowKit

theorem own_baseG {w : World} {b b' : Nat} {e : TypeId} {size n : Nat} {v : Value} {xs : List Value} (h : w.ownsRow b e size v n xs) (hb : b' ≤ b) : w.ownsRow b' e size v n xs := by
  refine ⟨h.1, ?_⟩
  rcases h.2 with h2 | ⟨g, cap, cur, e1, h3, h4⟩
  · exact .inl h2
  · exact .inr ⟨g, cap, cur, e1, Nat.le_trans hb h3, h4⟩
def TbOk (cs : List Value) (ap : Nat → Nat → Bool) (n : Nat) : Prop := ∀ i k, i < k → k < n → cs[i * 8 + k]? = some (.bool (ap i k))
def GotHo (w : World) (r : Option (List Nat)) (e : Ending) (w' : World) : Prop :=
  ∃ A c l, e = .returned (.tuple #[.slice A l.length c, .bool r.isSome]) ∧ Hid (l = r.getD []) ∧ Hid (w'.ownsRow w.heap.size 3 1 (.slice A l.length c) l.length (natsV l)) ∧ Below w.heap.size w w'

set_option maxRecDepth 100000 in
set_option maxHeartbeats 6400000 in
theorem handsOf_any (ap : Nat → Nat → Bool) (n most : Nat) (cs : List Value) (hcs : TbOk cs ap n) (hn8 : n ≤ 8) (hm8 : most ≤ 8) (w : World) :
    Calls Try.prog 99 #[.int .i64 n, .int .i64 most, .agg cs.toArray] w (GotHo w (giveF ap n most n [])) := by
  obtain ⟨W1, hW1⟩ : ∃ W', W' = w.alloc (.cells #[.int .i64 n] 3) := ⟨_, rfl⟩
  obtain ⟨W2, hW2⟩ : ∃ W', W' = W1.alloc (.cells #[.int .i64 most] 3) := ⟨_, rfl⟩
  obtain ⟨W3, hW3⟩ : ∃ W', W' = W2.alloc (.cells cs.toArray 122) := ⟨_, rfl⟩
  obtain ⟨W4, hW4⟩ : ∃ W', W' = W3.alloc (.cells #[.slice none 0 0] 22) := ⟨_, rfl⟩
  obtain ⟨W, hW⟩ : ∃ W', W' = W4.alloc (.cells #[.func (.func 119) #[] #[.pointer (some ⟨w.heap.size + 1 + 1 + 1, 0, none⟩), .pointer (some ⟨w.heap.size, 0, none⟩), .pointer (some ⟨w.heap.size + 1, 0, none⟩), .pointer (some ⟨w.heap.size + 1 + 1, 0, none⟩), .pointer (some ⟨w.heap.size + 1 + 1 + 1 + 1, 0, none⟩)]] 145) := ⟨_, rfl⟩
  have s1 : W1.heap.size = w.heap.size + 1 := by rw [hW1]; simp
  have s2 : W2.heap.size = w.heap.size + 1 + 1 := by rw [hW2]; simp [s1]
  have s3 : W3.heap.size = w.heap.size + 1 + 1 + 1 := by rw [hW3]; simp [s2]
  have s4 : W4.heap.size = w.heap.size + 1 + 1 + 1 + 1 := by rw [hW4]; simp [s3]
  have s5 : W.heap.size = w.heap.size + 1 + 1 + 1 + 1 + 1 := by rw [hW]; simp [s4]
  have k1 : Below w.heap.size w W1 := hW1 ▸ below_alloc _ _
  have k2 : Below W1.heap.size W1 W2 := hW2 ▸ below_alloc _ _
  have k3 : Below W2.heap.size W2 W3 := hW3 ▸ below_alloc _ _
  have k4 : Below W3.heap.size W3 W4 := hW4 ▸ below_alloc _ _
  have k5 : Below W4.heap.size W4 W := hW ▸ below_alloc _ _
  have HBW := Lib.hid (below_more (below_more (below_more (below_more k1 k2) k3) k4) k5)
  have e0 : W1.heap[w.heap.size]? = some (.cells #[.int .i64 n] 3 (0, 0)) := by rw [hW1]; exact heap_alloc_new _ _
  have e1 : W2.heap[w.heap.size + 1]? = some (.cells #[.int .i64 most] 3 (0, 0)) := by rw [hW2, ← s1]; exact heap_alloc_new _ _
  have e2 : W3.heap[w.heap.size + 1 + 1]? = some (.cells cs.toArray 122 (0, 0)) := by rw [hW3, ← s2]; exact heap_alloc_new _ _
  have e3 : W4.heap[w.heap.size + 1 + 1 + 1]? = some (.cells #[.slice none 0 0] 22 (0, 0)) := by rw [hW4, ← s3]; exact heap_alloc_new _ _
  have HGV := Lib.hid (show Gv (w.heap.size + 5) (w.heap.size + 1 + 1 + 1) w.heap.size (w.heap.size + 1) (w.heap.size + 1 + 1) (w.heap.size + 1 + 1 + 1 + 1) ap n most W [] (.slice none 0 0) from
    ⟨blk_keep k5 e3, blk_keep k5 (blk_keep k4 (blk_keep k3 (blk_keep k2 e0))), blk_keep k5 (blk_keep k4 (blk_keep k3 e1)), ⟨cs.toArray, blk_keep k5 (blk_keep k4 e2), fun i k h1 h2 => by rw [List.getElem?_toArray]; exact hcs i k h1 h2⟩, by rw [hW, ← s4]; exact heap_alloc_new _ _, World.ownsRow_nil _ _ _ _, by omega⟩)
  have HBX := Lib.hid (show Bxs (w.heap.size + 5) (w.heap.size + 1 + 1 + 1) w.heap.size (w.heap.size + 1) (w.heap.size + 1 + 1) (w.heap.size + 1 + 1 + 1 + 1) from
    ⟨by omega, by omega, by omega, by omega, by omega, by omega, by omega, by omega, by omega⟩)
  have HCA := Lib.hid (give_any _ _ _ _ _ _ ap n most HBX.out hn8 hm8 n [] (.slice none 0 0) W (by simp) (by simp [usedOf]) HGV.out)
  have hu0 : usedOf [] = 0 := rfl
  rw [hu0] at HCA
  obtain ⟨r, hr⟩ : ∃ r, r = giveF ap n most n [] := ⟨_, rfl⟩
  rw [← hr] at HCA ⊢
  have HSZ := Lib.hid s5
  clear k1 k2 k3 k4 k5 e0 e1 e2 e3 hu0 hr hcs hn8 hm8
  go_enter Try.func99, Try.ntmps99
  go_wp2_with fail
  rw [← hW1, ← hW2, ← hW3, ← hW4, ← hW]
  clear hW1 hW2 hW3 hW4 hW s1 s2 s3 s4 s5
  refine HCA.out.mono ?_; rintro e w1 ⟨v, rfl, hg, hk⟩
  obtain ⟨l, hl⟩ : ∃ l, l = r.getD [] := ⟨_, rfl⟩
  rw [← hl] at hg
  obtain ⟨A, c, rfl, -, -, -, -⟩ := own_slice hg.own
  have hB1 : Below w.heap.size w w1 := by
    have hs := HSZ.out
    have hb := HBW.out
    refine ⟨hk.os.trans hb.os, hk.tape.trans hb.tape, hk.output.trans hb.output, by have := hk.size; omega, fun j hj => ?_⟩
    rw [hk.block j (by omega) (by omega) (by simp [Value.ownBlock]), hb.block j hj]
  have HBF := Lib.hid hB1
  have HGF := Lib.hid hg
  have HL := Lib.hid hl
  have x0 := cell_of_blk hg.eh 0
  have x1 := free_of_blk hg.eh 0
  have x2 := (Array.getElem?_eq_some_iff.1 hg.eh).1
  simp at x0
  clear hg hk hl hB1 HGV HBX HCA
  go_wp2
  have HW9 := Lib.hid (show GotHo w r (.returned (.tuple #[.slice A l.length c, .bool r.isSome])) (w1.setCell ⟨w.heap.size + 1 + 1 + 1, 0, none⟩ (.slice A l.length c)) from
    ⟨A, c, l, rfl, HL, Lib.hid (by
      have h1 := HGF.out.own
      have h2 := ownsRow_of_block (w' := w1.setCell ⟨w.heap.size + 1 + 1 + 1, 0, none⟩ (.slice A l.length c)) h1 (fun g e => heap_setCell_other _ _ _ _ (fun e2 => by have := (h1.lt g e).1; dsimp only at e2; omega))
      exact own_baseG h2 (by omega)), HBF.out.setCell (by dsimp only; omega) _⟩)
  refine bodyPost_ret (v := .tuple #[.slice A l.length c, .bool r.isSome]) (by simp [results, Try.results99, go_sem, x0, x1, x2]) rfl ?_
  exact HW9.out

end Go.Proofs.Ytcpfhaoecggflaa
