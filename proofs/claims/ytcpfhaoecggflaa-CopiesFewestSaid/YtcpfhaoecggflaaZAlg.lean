/-
  The program's align: the table of two lines (layer 9).
-/
import Derived.Test.YtcpfhaoecggflaaZBth
import Derived.Test.YtcpfhaoecggflaaZTail
namespace Go.Proofs.Ytcpfhaoecggflaa
open Go.RowKit

theorem wpList_al {ops : Array Oper} {rest : List Oper} {o : Oper} {a : Act} {w : World} {Q : Exit → Act → World → Prop} (hg : o.guard = none) (x y : Operand) (ho : o.op = .build 138 #[(0, x), (1, y)])
    (A B : Option Addr) (n m c d : Nat) (hx : a.eval x = .slice A n c) (hy : a.eval y = .slice B m d)
    (h : wpList Try.prog ops Q rest (a.put o.dst (.agg (al0 (.slice A n c) (.slice B m d)))) w) : wpList Try.prog ops Q (o :: rest) a w := by
  have e : Try.prog.built 138 ((#[(0, x), (1, y)] : Array (Nat × Operand)).map fun (i, x) => (i, a.eval x)).toList = some (al0 (.slice A n c) (.slice B m d)) := by
    rw [← built_al]
    simp [hx, hy]
  refine wpList_build hg 138 #[(0, x), (1, y)] ho ?_ ?_
  · rw [e]; rfl
  · rw [e]; exact h
/-- the rests of which the table speaks while it is filled -/
def doneP (p q : Nat) (i j : Nat) : Prop := p ≤ i ∨ (p = i + 1 ∧ q ≤ j)
theorem al0_ok {w : World} {g : Nat} {a b : List Int} {A B : Option Addr} {ca cb : Nat} (h : w.heap[g]? = some (.cells (al0 (.slice A a.length ca) (.slice B b.length cb)) 138 (0, 0))) (ia : IntsIn w A a) (ib : IntsIn w B b) (la : a.length ≤ 60) (lb : b.length ≤ 60) :
    AlAt w g a b A B ca cb (doneP (a.length + 1) (b.length + 1)) := by
  refine ⟨⟨_, h, ?_, ?_, ?_, fun i j hi hj hP => ?_⟩, ia, ib, la, lb⟩
  · unfold al0; rw [List.size_toArray, List.length_cons, List.length_cons, List.length_replicate]
  · unfold al0; rw [List.getElem?_toArray]; rfl
  · unfold al0; rw [List.getElem?_toArray]; rfl
  · unfold doneP at hP; omega
theorem AlAt.mono {w : World} {g : Nat} {a b : List Int} {A B : Option Addr} {ca cb : Nat} {P Q : Nat → Nat → Prop} (h : AlAt w g a b A B ca cb P) (hq : ∀ i j, i ≤ a.length → j ≤ b.length → Q i j → P i j) : AlAt w g a b A B ca cb Q := by
  obtain ⟨⟨cur, h1, h2, h3, h4, h5⟩, ia, ib, la, lb⟩ := h
  exact ⟨⟨cur, h1, h2, h3, h4, fun i j hi hj hQ => h5 i j hi hj (hq i j hi hj hQ)⟩, ia, ib, la, lb⟩
/-- one more rest is written -/
theorem AlAt.set {w : World} {g : Nat} {a b : List Int} {A B : Option Addr} {ca cb i j : Nat} {P : Nat → Nat → Prop} (h : AlAt w g a b A B ca cb P) (hi : i ≤ a.length) (hj : j ≤ b.length)
    (hgA : ∀ x o, A = some ⟨x, o, none⟩ → 0 < a.length → x ≠ g) (hgB : ∀ x o, B = some ⟨x, o, none⟩ → 0 < b.length → x ≠ g) :
    AlAt (w.setCell ⟨g, 2 + i * 61 + j, none⟩ (.int .i64 (cst (a.drop i) (b.drop j)))) g a b A B ca cb (fun i' j' => (i' = i ∧ j' = j) ∨ P i' j') := by
  obtain ⟨⟨cur, h1, h2, h3, h4, h5⟩, ia, ib, la, lb⟩ := h
  have keep : ∀ (C : Option Addr) (zs : List Int), IntsIn w C zs → (∀ x o, C = some ⟨x, o, none⟩ → 0 < zs.length → x ≠ g) → IntsIn (w.setCell ⟨g, 2 + i * 61 + j, none⟩ (.int .i64 (cst (a.drop i) (b.drop j)))) C zs := fun C zs hz hne k z hk => by
    obtain ⟨x, o, e, hlt, hc⟩ := hz k z hk
    have hx := hne x o e (by have := (List.getElem?_eq_some_iff.1 hk).1; omega)
    exact ⟨x, o, e, by simpa using hlt, (World.cell?_of_block (a := ⟨x, o + k, none⟩) (heap_setCell_other _ _ _ _ hx)).trans hc⟩
  refine ⟨⟨_, heap_setCell_same _ _ _ _ _ _ h1, by simpa using h2, ?_, ?_, fun i' j' hi' hj' hP => ?_⟩, keep A a ia hgA, keep B b ib hgB, la, lb⟩
  · rw [Array.getElem?_setIfInBounds_ne (by omega)]; exact h3
  · rw [Array.getElem?_setIfInBounds_ne (by omega)]; exact h4
  · by_cases e : i' = i ∧ j' = j
    · obtain ⟨rfl, rfl⟩ := e
      rw [Array.getElem?_setIfInBounds_self_of_lt (by omega)]
    · have hne : 2 + i * 61 + j ≠ 2 + i' * 61 + j' := fun e2 => e (by omega)
      rw [Array.getElem?_setIfInBounds_ne hne]
      rcases hP with hP | hP
      · exact absurd hP e
      · exact h5 i' j' hi' hj' hP

set_option maxRecDepth 100000 in
set_option maxHeartbeats 6400000 in
theorem align_any (A B : Option Addr) (ca cb : Nat) (a b : List Int) (w : World) (hA : IntsIn w A a) (hB : IntsIn w B b) (hla : a.length ≤ 60) (hlb : b.length ≤ 60) :
    Calls Try.prog 48 #[.slice A a.length ca, .slice B b.length cb] w fun e w' => ∃ g, e = .returned (.pointer (some ⟨g, 0, none⟩)) ∧ Hid (AlAt w' g a b A B ca cb fun _ _ => True) ∧ Below w.heap.size w w' := by
  obtain ⟨W, hW⟩ : ∃ W, W = w.alloc (.cells (al0 (.slice A a.length ca) (.slice B b.length cb)) 138) := ⟨_, rfl⟩
  have HBW := Lib.hid (show Below w.heap.size w W from hW ▸ below_alloc _ _)
  have HA0 := Lib.hid (al0_ok (w := W) (g := w.heap.size) (a := a) (b := b) (A := A) (B := B) (ca := ca) (cb := cb) (hW ▸ heap_alloc_new _ _) (hA.below HBW.out) (hB.below HBW.out) hla hlb)
  have HNA := Lib.hid (show ∀ x o, A = some ⟨x, o, none⟩ → 0 < a.length → x ≠ w.heap.size from fun x o e h => by
    obtain ⟨x', o', e', hlt, _⟩ := hA 0 a[0] (List.getElem?_eq_getElem h)
    rw [e] at e'; injection e' with e'; injection e' with e1 e2; omega)
  have HNB := Lib.hid (show ∀ x o, B = some ⟨x, o, none⟩ → 0 < b.length → x ≠ w.heap.size from fun x o e h => by
    obtain ⟨x', o', e', hlt, _⟩ := hB 0 b[0] (List.getElem?_eq_getElem h)
    rw [e] at e'; injection e' with e'; injection e' with e1 e2; omega)
  obtain ⟨n, hn⟩ : ∃ n, n = a.length := ⟨_, rfl⟩
  obtain ⟨m, hm⟩ : ∃ m, m = b.length := ⟨_, rfl⟩
  have HN := Lib.hid hn
  have HM := Lib.hid hm
  rw [← hn] at hW hla ⊢
  rw [← hm] at hW hlb ⊢
  clear hn hm hA hB
  go_enter Try.func48, Try.ntmps48
  go_wp2_with (refine wpList_al rfl (.tmp 8) (.tmp 9) rfl A B n m ca cb rfl rfl ?_)
  rw [← hW]
  clear hW
  obtain ⟨g, hg⟩ : ∃ g, g = w.heap.size := ⟨_, rfl⟩
  have HG := Lib.hid (Nat.le_of_eq hg.symm)
  rw [← hg] at HA0 HNA HNB ⊢
  clear hg
  go_loopw [6] (fun i wr => ∃ p : Nat, p ≤ n + 1 ∧ i = .int .i64 ((p : Int) - 1) ∧ Hid (AlAt wr g a b A B ca cb (doneP p (m + 1))) ∧ Hid (Below w.heap.size w wr)) (fun i _ => (intOf i + 1).toNat)
  case atStart => exact ⟨n + 1, Nat.le_refl _, by go_num, by rw [HN.out, HM.out]; exact HA0, HBW⟩
  case round =>
    obtain ⟨p, hp, rfl, ha, hb⟩ := hrel
    cases p with
    | zero =>
      have e1 : ((0 : Nat) : Int) - 1 = -1 := rfl
      rw [e1]
      go_wp2
      go_ret
      exact ⟨g, rfl, Lib.hid (ha.out.mono fun i j _ _ _ => .inl (Nat.zero_le _)), hb.out⟩
    | succ p =>
      have e1 : ((p + 1 : Nat) : Int) - 1 = (p : Int) := by omega
      rw [e1]
      clear e1 HA0 HBW
      go_wp2
      go_loopw [7] (fun j wq => ∃ q : Nat, q ≤ m + 1 ∧ j = .int .i64 ((q : Int) - 1) ∧ Hid (AlAt wq g a b A B ca cb (doneP (p + 1) q)) ∧ Hid (Below w.heap.size w wq)) (fun j _ => (intOf j + 1).toNat)
      case atStart => exact ⟨m + 1, Nat.le_refl _, by go_num, ha, hb⟩
      case round =>
        obtain ⟨q, hq, rfl, ha2, hb2⟩ := hrel
        clear ha hb
        cases q with
        | zero =>
          have e1 : ((0 : Nat) : Int) - 1 = -1 := rfl
          rw [e1]
          go_wp2
          go_roundw
          case rel => exact ⟨p, by omega, rfl, Lib.hid (ha2.out.mono fun i j _ hj h => by have := HM.out; unfold doneP at h ⊢; omega), hb2⟩
          case measure => simp [intOf]
        | succ q =>
          have e1 : ((q + 1 : Nat) : Int) - 1 = (q : Int) := by omega
          rw [e1]
          clear e1
          have HRS := Lib.hid (fun wx (hbx : Below wr.heap.size wr wx) => restAt_any g a b A B ca cb p q (doneP (p + 1) (q + 1)) wx (ha2.out.below hbx) (by have := HN.out; omega) (by have := HM.out; omega) (fun _ _ => by unfold doneP; omega))
          have hgl := ha2.out.lt
          obtain ⟨u, hu⟩ : ∃ u, wr.cell? ⟨g, 2 + p * 61 + q, none⟩ = some u := by
            obtain ⟨cur, h1, h2, _⟩ := ha2.out.blk
            rw [cell_of_blk h1]
            exact ⟨_, Array.getElem?_eq_getElem (by omega)⟩
          have hf : wr.frozen? ⟨g, 2 + p * 61 + q, none⟩ = false := by
            obtain ⟨cur, h1, _⟩ := ha2.out.blk
            exact free_of_blk h1 _
          have hp1 : (p : Int) < 61 := by omega
          have hq1 : (q : Int) < 61 := by omega
          obtain ⟨z, hz⟩ : ∃ z, z = cst (a.drop p) (b.drop q) := ⟨_, rfl⟩
          have HZ := Lib.hid hz
          rw [← hz] at HRS
          clear hz
          go_wp2
          refine wp_region_later_tail 11 (by kernel_rfl) (by kernel_rfl) ?_; simp only [List.take_succ_cons, List.take_zero, List.drop_succ_cons, List.drop_zero]; (repeat (first | go_big_quiet_step ((((go_at_call 85; exact Calls.later _ (HRS.out _ (Later.below _)))))) | quiet_step ((((go_at_call 85; exact Calls.later _ (HRS.out _ (Later.below _)))))))); refine wpQuiet_nil ?_; rintro _ ⟨s, rfl⟩
          go_wp2
          go_roundw
          case rel =>
            refine ⟨q, by omega, rfl, Lib.hid ?_, Lib.hid ((below_more hb2.out s.below).setCell HG.out _)⟩
            rw [HZ.out]
            exact ((ha2.out.below s.below).set (i := p) (j := q) (by have := HN.out; omega) (by have := HM.out; omega) HNA.out HNB.out).mono fun i j _ _ h => by unfold doneP at h ⊢; omega
          case measure => simp [intOf]

end Go.Proofs.Ytcpfhaoecggflaa
