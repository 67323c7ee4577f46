/-
  The program's table of an alignment, and the cost of a pair by it (layer 9).
-/
import Derived.Test.YtcpfhaoecggflaaZKit
import Derived.Test.YtcpfhaoecggflaaZAln
import Derived.RegionTactic
import Derived.ChangeAlike
import Derived.IntWalk
import Derived.Laws.Tables
import Derived.Deep.RegionHeld3
import Derived.Deep.DeepCutAuto
namespace Go.Proofs.Ytcpfhaoecggflaa
open Go.RowKit

/-- the cells of a new table -/
def al0 (u v : Value) : Array Value := (u :: v :: List.replicate 3721 (.int .i64 0)).toArray
theorem built_al (A B : Option Addr) (n m c d : Nat) : Try.prog.built 138 [(0, .slice A n c), (1, .slice B m d)] = some (al0 (.slice A n c) (.slice B m d)) := by kernel_rfl
/-- a table: the two lines, and the least costs of those rests of which P speaks -/
structure AlAt (w : World) (g : Nat) (a b : List Int) (A B : Option Addr) (ca cb : Nat) (P : Nat → Nat → Prop) : Prop where
  blk : ∃ cur, w.heap[g]? = some (.cells cur 138 (0, 0)) ∧ cur.size = 3723 ∧ cur[0]? = some (.slice A a.length ca) ∧ cur[1]? = some (.slice B b.length cb) ∧
    ∀ i j, i ≤ a.length → j ≤ b.length → P i j → cur[2 + i * 61 + j]? = some (.int .i64 (cst (a.drop i) (b.drop j)))
  ia : IntsIn w A a
  ib : IntsIn w B b
  la : a.length ≤ 60
  lb : b.length ≤ 60
theorem AlAt.lt {w : World} {g : Nat} {a b : List Int} {A B : Option Addr} {ca cb : Nat} {P : Nat → Nat → Prop} (h : AlAt w g a b A B ca cb P) : g < w.heap.size := by
  obtain ⟨cur, h1, _⟩ := h.blk
  exact (Array.getElem?_eq_some_iff.1 h1).1
theorem AlAt.below {w w' : World} {g : Nat} {a b : List Int} {A B : Option Addr} {ca cb : Nat} {P : Nat → Nat → Prop} (h : AlAt w g a b A B ca cb P) (hb : Below w.heap.size w w') : AlAt w' g a b A B ca cb P := by
  obtain ⟨⟨cur, h1, h2⟩, ia, ib, la, lb⟩ := h
  exact ⟨⟨cur, blk_keep hb h1, h2⟩, ia.below hb, ib.below hb, la, lb⟩
theorem AlAt.c0 {w : World} {g : Nat} {a b : List Int} {A B : Option Addr} {ca cb : Nat} {P : Nat → Nat → Prop} (h : AlAt w g a b A B ca cb P) : w.cell? ⟨g, 0, none⟩ = some (.slice A a.length ca) := by
  obtain ⟨cur, h1, h2, h3, _⟩ := h.blk
  rw [cell_of_blk h1]; exact h3
theorem AlAt.c1 {w : World} {g : Nat} {a b : List Int} {A B : Option Addr} {ca cb : Nat} {P : Nat → Nat → Prop} (h : AlAt w g a b A B ca cb P) : w.cell? ⟨g, 1, none⟩ = some (.slice B b.length cb) := by
  obtain ⟨cur, h1, h2, h3, h4, _⟩ := h.blk
  rw [cell_of_blk h1]; exact h4
theorem AlAt.rest {w : World} {g : Nat} {a b : List Int} {A B : Option Addr} {ca cb : Nat} {P : Nat → Nat → Prop} (h : AlAt w g a b A B ca cb P) (i j : Nat) (hi : i ≤ a.length) (hj : j ≤ b.length) (hP : P i j) : w.cell? ⟨g, 2 + i * 61 + j, none⟩ = some (.int .i64 (cst (a.drop i) (b.drop j))) := by
  obtain ⟨cur, h1, h2, h3, h4, h5⟩ := h.blk
  rw [cell_of_blk h1]; exact h5 i j hi hj hP

set_option maxHeartbeats 1600000 in
theorem both_any (g : Nat) (a b : List Int) (A B : Option Addr) (ca cb i j : Nat) (P : Nat → Nat → Prop) (w : World) (h : AlAt w g a b A B ca cb P) (hi : i < a.length) (hj : j < b.length) (hP : P (i + 1) (j + 1)) :
    Calls Try.prog 107 #[.pointer (some ⟨g, 0, none⟩), .int .i64 i, .int .i64 j] w fun e w' => e = .returned (.int .i64 (bth a[i] b[j] (cst (a.drop (i + 1)) (b.drop (j + 1))))) ∧ Below w.heap.size w w' := by
  have c0 := h.c0
  have c1 := h.c1
  have c2 := h.rest (i + 1) (j + 1) (by omega) (by omega) hP
  have la := h.la
  have lb := h.lb
  have bd := cst_bd (a.drop (i + 1)) (b.drop (j + 1))
  rw [List.length_drop, List.length_drop] at bd
  obtain ⟨b1, o1, rfl, hb1, d1⟩ := h.ia i a[i] (List.getElem?_eq_getElem hi)
  obtain ⟨b2, o2, rfl, hb2, d2⟩ := h.ib j b[j] (List.getElem?_eq_getElem hj)
  obtain ⟨x, hx⟩ : ∃ x, x = a[i] := ⟨_, rfl⟩
  obtain ⟨y, hy⟩ : ∃ y, y = b[j] := ⟨_, rfl⟩
  obtain ⟨z, hz⟩ : ∃ z, z = cst (a.drop (i + 1)) (b.drop (j + 1)) := ⟨_, rfl⟩
  rw [← hx] at d1 ⊢
  rw [← hy] at d2 ⊢
  rw [← hz] at c2 bd ⊢
  obtain ⟨n, hn⟩ : ∃ n, n = a.length := ⟨_, rfl⟩
  obtain ⟨m, hm⟩ : ∃ m, m = b.length := ⟨_, rfl⟩
  rw [← hn] at c0 la hi bd
  rw [← hm] at c1 lb hj bd
  have hz0 : 0 ≤ z := bd.1
  have hz1 : z ≤ 240 := by omega
  clear hx hy hz hn hm bd h
  have i1 : (i : Int) < (n : Int) := by omega
  have i2 : (j : Int) < (m : Int) := by omega
  have i3 : (i : Int) + 1 < 61 := by omega
  have i4 : (j : Int) + 1 < 61 := by omega
  have i5 := IntWalk.i64_in ((i : Int) + 1) (by omega)
  have i6 := IntWalk.i64_in ((j : Int) + 1) (by omega)
  by_cases hxy : x = y
  · subst hxy
    have e1 : (x == x) = true := by simp
    go_enter Try.func107, Try.ntmps107
    go_wp2
    go_region
    go_wp2
    go_ret
    exact ⟨of_int (by unfold bth; rw [if_pos rfl]), below_drew _⟩
  · have e1 : (x == y) = false := by simpa using hxy
    go_enter Try.func107, Try.ntmps107
    go_wp2
    go_region
    go_wp2
    go_ret
    exact ⟨of_int (by unfold bth; rw [if_neg hxy]), below_drew _⟩

set_option maxHeartbeats 3200000 in
set_option maxRecDepth 100000 in
theorem restAt_any (g : Nat) (a b : List Int) (A B : Option Addr) (ca cb i j : Nat) (P : Nat → Nat → Prop) (w : World) (h : AlAt w g a b A B ca cb P) (hi : i ≤ a.length) (hj : j ≤ b.length) (hP : i < a.length → j < b.length → P (i + 1) (j + 1) ∧ P (i + 1) j ∧ P i (j + 1)) :
    Calls Try.prog 85 #[.pointer (some ⟨g, 0, none⟩), .int .i64 i, .int .i64 j] w fun e w' => e = .returned (.int .i64 (cst (a.drop i) (b.drop j))) ∧ Below w.heap.size w w' := by
  have c0 := h.c0
  have c1 := h.c1
  have la := h.la
  have lb := h.lb
  by_cases hlt : i < a.length ∧ j < b.length
  · obtain ⟨h1, h2⟩ := hlt
    obtain ⟨p1, p2, p3⟩ := hP h1 h2
    have r1 := h.rest (i + 1) j (by omega) (by omega) p2
    have r2 := h.rest i (j + 1) (by omega) (by omega) p3
    have bd1 := cst_bd (a.drop (i + 1)) (b.drop j)
    have bd2 := cst_bd (a.drop i) (b.drop (j + 1))
    have bd3 := cst_bd (a.drop (i + 1)) (b.drop (j + 1))
    rw [List.length_drop, List.length_drop] at bd1 bd2 bd3
    have HBO := Lib.hid (fun wx (hb : Below w.heap.size w wx) => both_any g a b A B ca cb i j P wx (h.below hb) h1 h2 p1)
    have HC := Lib.hid (show cst (a.drop i) (b.drop j) = min (min (bth a[i] b[j] (cst (a.drop (i + 1)) (b.drop (j + 1)))) (cst (a.drop (i + 1)) (b.drop j) + 2)) (cst (a.drop i) (b.drop (j + 1)) + 2) by
      rw [drop_lt h1, drop_lt h2, cst_cons])
    have hv : bth a[i] b[j] (cst (a.drop (i + 1)) (b.drop (j + 1))) ≤ 250 ∧ 0 ≤ bth a[i] b[j] (cst (a.drop (i + 1)) (b.drop (j + 1))) := by unfold bth; split <;> omega
    obtain ⟨x, hx⟩ : ∃ x, x = bth a[i] b[j] (cst (a.drop (i + 1)) (b.drop (j + 1))) := ⟨_, rfl⟩
    obtain ⟨y, hy⟩ : ∃ y, y = cst (a.drop (i + 1)) (b.drop j) := ⟨_, rfl⟩
    obtain ⟨z, hz⟩ : ∃ z, z = cst (a.drop i) (b.drop (j + 1)) := ⟨_, rfl⟩
    rw [← hx] at HBO HC hv
    rw [← hy] at HC r1 bd1
    rw [← hz] at HC r2 bd2
    rw [HC.out]
    have y0 := bd1.1
    have y1 : y ≤ 250 := by omega
    have z0 := bd2.1
    have z1 : z ≤ 250 := by omega
    have hx1 := hv.1
    have hx0 := hv.2
    obtain ⟨n, hn⟩ : ∃ n, n = a.length := ⟨_, rfl⟩
    obtain ⟨m, hm⟩ : ∃ m, m = b.length := ⟨_, rfl⟩
    rw [← hn] at c0 la h1
    rw [← hm] at c1 lb h2
    have hgl := h.lt
    clear hx hy hz hv bd1 bd2 bd3 hP p1 p2 p3 HC hi hj hn hm h
    have i1 : (i : Int) + 1 < 61 := by omega
    have i2 : (j : Int) + 1 < 61 := by omega
    have i3 : (i : Int) < 61 := by omega
    have i4 : (j : Int) < 61 := by omega
    have n1 : (((n : Int) - (i : Int)) == 0) = false := by simp; omega
    have n2 : (((m : Int) - (j : Int)) == 0) = false := by simp; omega
    have n3 : ¬ ((n : Int) - (i : Int)) = 0 := by omega
    have n4 : ¬ ((m : Int) - (j : Int)) = 0 := by omega
    have w1 := IntWalk.i64_in ((n : Int) - (i : Int)) (by omega)
    have w2 := IntWalk.i64_in ((m : Int) - (j : Int)) (by omega)
    go_enter Try.func85, Try.ntmps85
    go_wp2
    go_region
    go_wp2
    obtain ⟨wd, hwd⟩ : ∃ wd, wd = w.drew := ⟨_, rfl⟩
    have hbd := Lib.hid (show Below w.heap.size w wd from hwd ▸ below_drew w)
    have s1 : wd.cell? ⟨g, 2 + (i + 1) * 61 + j, none⟩ = some (.int .i64 y) := hwd ▸ r1
    have s2 : wd.cell? ⟨g, 2 + i * 61 + (j + 1), none⟩ = some (.int .i64 z) := hwd ▸ r2
    have hgd : g < wd.heap.size := hwd ▸ hgl
    rw [← hwd]
    clear hwd
    have t1 : ((i : Int) + 1).toNat = i + 1 := by omega
    have t2 : ((j : Int) + 1).toNat = j + 1 := by omega
    have t3 : 0 ≤ (i : Int) + 1 := by omega
    have t4 : 0 ≤ (j : Int) + 1 := by omega
    have w3 := IntWalk.i64_in ((i : Int) + 1) (by omega)
    have w4 := IntWalk.i64_in ((j : Int) + 1) (by omega)
    have w5 := IntWalk.i64_in (y + 2) (by omega)
    have w6 := IntWalk.i64_in (z + 2) (by omega)
    refine wp_region_later (by kernel_rfl) (by kernel_rfl) ?_; (repeat (first | go_big_quiet_step ((((go_at_call 107; exact Calls.later _ (HBO.out _ (below_more hbd.out (Later.below _))))))) | quiet_step ((((go_at_call 107; exact Calls.later _ (HBO.out _ (below_more hbd.out (Later.below _))))))))); refine wpQuiet_nil ?_; rintro _ ⟨s, rfl⟩
    all_goals go_wp2
    all_goals clear w1 w2 w3 w4 w5 w6
    all_goals go_ret
    all_goals exact ⟨of_int (by omega), below_more hbd.out s.below⟩
  · have HC := Lib.hid (show cst (a.drop i) (b.drop j) = 2 * (((a.length : Int) - i) + ((b.length : Int) - j)) by
      by_cases h1 : i < a.length
      · rw [List.drop_eq_nil_of_le (show b.length ≤ j by omega), cst_right, List.length_drop]; omega
      · rw [List.drop_eq_nil_of_le (show a.length ≤ i by omega), cst_nil, List.length_drop]; omega)
    rw [HC.out]
    have hor := Lib.hid (show i = a.length ∨ (i < a.length ∧ j = b.length) by omega)
    obtain ⟨n, hn⟩ : ∃ n, n = a.length := ⟨_, rfl⟩
    obtain ⟨m, hm⟩ : ∃ m, m = b.length := ⟨_, rfl⟩
    rw [← hn] at c0 la hi hor ⊢
    rw [← hm] at c1 lb hj hor ⊢
    have hgl := h.lt
    clear hn hm h hlt hP HC
    have w1 := IntWalk.i64_in ((n : Int) - (i : Int)) (by omega)
    have w2 := IntWalk.i64_in ((m : Int) - (j : Int)) (by omega)
    rcases hor.out with rfl | ⟨h1, rfl⟩
    · have n1 : (((i : Int) - (i : Int)) == 0) = true := by simp
      go_enter Try.func85, Try.ntmps85
      go_wp2
      go_region
      go_wp2
      go_ret
      exact ⟨of_int (by omega), below_drew _⟩
    · have n1 : (((n : Int) - (i : Int)) == 0) = false := by simp; omega
      have n2 : (((j : Int) - (j : Int)) == 0) = true := by simp
      go_enter Try.func85, Try.ntmps85
      go_wp2
      go_region
      go_wp2
      go_ret
      exact ⟨of_int (by omega), below_drew _⟩

end Go.Proofs.Ytcpfhaoecggflaa
