/-
  The program's rows of the numbers of ways to choose (layer 9).
-/
import Derived.Test.YtcpfhaoecggflaaZKit
import Derived.Test.YtcpfhaoecggflaaZBin
import Derived.RegionTactic
import Derived.ChangeAlike
import Derived.IntWalk
namespace Go.Proofs.Ytcpfhaoecggflaa
open Go.RowKit

/-- cells that hold natural numbers -/
def natC (f : Nat → Nat) (m : Nat) : List Value := (List.range m).map fun j => .int .i64 (f j : Int)
theorem natC_len (f : Nat → Nat) (m : Nat) : (natC f m).length = m := by simp [natC]
theorem natC_at (f : Nat → Nat) (m j : Nat) (h : j < m) : (natC f m)[j]? = some (.int .i64 (f j : Int)) := by
  simp [natC, h]
theorem natC_snoc (f : Nat → Nat) (m : Nat) : natC f (m + 1) = natC f m ++ [.int .i64 (f m : Int)] := by
  simp [natC, List.range_succ]
theorem natC_set (f : Nat → Nat) (m k v : Nat) : (natC f m).set k (.int .i64 (v : Int)) = natC (fun j => if j = k then v else f j) m := by
  apply List.ext_getElem?
  intro j
  by_cases hj : j < m
  · rw [natC_at _ _ _ hj, List.getElem?_set]
    by_cases e : k = j
    · subst e; simp [natC_len, hj]
    · rw [if_neg e, natC_at _ _ _ hj, if_neg (by omega)]
  · rw [List.getElem?_eq_none (by rw [List.length_set, natC_len]; omega), List.getElem?_eq_none (by rw [natC_len]; omega)]
theorem natC_congr {f g : Nat → Nat} {m : Nat} (h : ∀ j, j < m → f j = g j) : natC f m = natC g m := by
  unfold natC
  refine List.map_congr_left fun j hj => ?_
  rw [h j (List.mem_range.1 hj)]
/-- a row of numbers that the call made -/
def GotRow (f : Nat → Nat) (m : Nat) (w : World) (e : Ending) (w' : World) : Prop :=
  ∃ A c, e = .returned (.slice A m c) ∧ Hid (w'.ownsRow w.heap.size 3 1 (.slice A m c) m (natC f m)) ∧ Below w.heap.size w w'
/-- the row while the next one is made of it, from its end on -/
def midF (n k j : Nat) : Nat := if j ≤ k then bin n j else bin (n + 1) j
theorem midF_step (n k : Nat) (j : Nat) : midF n k j = if j = k + 1 then bin n k + bin n (k + 1) else midF n (k + 1) j := by
  unfold midF
  by_cases e : j = k + 1
  · subst e; rw [if_neg (by omega), if_pos rfl]; rfl
  · rw [if_neg e]
    by_cases h : j ≤ k
    · rw [if_pos h, if_pos (by omega)]
    · rw [if_neg h, if_neg (by omega)]
theorem midF_zero (n j : Nat) : midF n 0 j = bin (n + 1) j := by
  unfold midF
  by_cases h : j ≤ 0
  · obtain rfl : j = 0 := by omega
    rw [if_pos h, bin_zero, bin_zero]
  · rw [if_neg h]

set_option maxHeartbeats 3200000 in
theorem choices_any (n : Nat) (w : World) (hn : n ≤ 60) : Calls Try.prog 64 #[.int .i64 n] w (GotRow (bin n) (n + 1) w) := by
  obtain ⟨is, his, hzs, hss, hbs⟩ := info_hid infoInt
  go_enter Try.func64, Try.ntmps64
  go_wp2
  obtain ⟨W, hW⟩ : ∃ W, W = w.alloc (.cells #[.int .i64 1] 3) := ⟨_, rfl⟩
  have HBW := Lib.hid (show Below w.heap.size w W from hW ▸ below_alloc _ _)
  have HOW := Lib.hid (show W.ownsRow w.heap.size 3 1 (.slice (some ⟨w.heap.size, 0, none⟩) 1 1) 1 (natC (bin 0) 1) from hW ▸ own_new w [.int .i64 1] 3 1 1 rfl (by unfold maxLen; decide))
  rw [← hW]
  clear hW
  go_loopw [3, 7] (fun v i wr => ∃ j : Nat, j ≤ n ∧ i = .int .i64 j ∧ Hid (wr.ownsRow w.heap.size 3 1 v (j + 1) (natC (bin j) (j + 1))) ∧ Hid (Below w.heap.size w wr)) (fun _ i _ => n - (intOf i).toNat)
  case atStart => exact ⟨0, Nat.zero_le _, rfl, HOW, HBW⟩
  case round =>
    obtain ⟨j, hj, rfl, hown, hbw⟩ := hrel
    by_cases hlt : j < n
    · have hz0 := Lib.hid (show w.heap.size ≤ wr.heap.size from hbw.out.size)
      have own2 := Lib.hid (hown.out.alloc (.cells #[.int .i64 0] 3))
      go_wp2_with (first
          | (at_builtin; refine wpList_append_src _ rfl (.tmp 9) (.tmp 10) 22 rfl w.heap.size 3 is (.int .i64 0) 1 8 Try.underlying22 his.out hzs.out hss.out hbs.out rfl (by decide) u3 (j + 1) (natC (bin j) (j + 1)) rfl own2.out (some ⟨wr.heap.size, 0, none⟩) 1 1 [.int .i64 0] rfl rfl ?n2 ?c2 ?o2 ?m2 ?b2 ?s2 (j + 1 + 1) rfl ?_))
      case n2 => intro h; cases h
      case o2 => intro x hx; simp at hx; subst hx; rfl
      case m2 => unfold maxLen; omega
      case b2 => omega
      case s2 => have := hz0.out; simp; omega
      case c2 =>
        intro ad had i u' hj
        have had := Option.some.inj had
        subst had
        have := new_cells wr [.int .i64 0] 3 i u' hj
        simpa using this
      · intro A3 c3 w3 own3 hg3 _
        have b3 := Lib.hid ((hbw.out.alloc hz0.out (.cells #[.int .i64 0] 3)).grown hg3 (by have := hz0.out; simp; omega) (fun g hg => (own2.out.lt g hg).1))
        have own3 := Lib.hid (show w3.ownsRow w.heap.size 3 1 (.slice A3 (j + 1 + 1) c3) (j + 1 + 1) (natC (midF j (j + 1)) (j + 2)) by
          have e : natC (midF j (j + 1)) (j + 2) = natC (bin j) (j + 1) ++ [.int .i64 0] := by
            rw [natC_snoc, show midF j (j + 1) (j + 1) = 0 by unfold midF; rw [if_pos (Nat.le_refl _), bin_over j (j + 1) (by omega)], natC_congr (g := bin j) (fun q hq => by unfold midF; rw [if_pos (by omega)])]
            rfl
          rw [e]; exact own3)
        clear hg3 own2 hown hbw hz0
        have HO4 := own3.out
        obtain ⟨A4, c4, hv4, -, hc4, h3, h4⟩ := own_slice HO4
        injection hv4 with e1 e2 e3
        subst e1 e3
        cases A3 with
        | none => have := h4 rfl; omega
        | some ad =>
          obtain ⟨g, rfl, hg0, hg1, -⟩ := h3 ad rfl
          have HG := Lib.hid (show w.heap.size ≤ g from hg0)
          clear HO4 h3 h4 hg0 hg1 hc4
          go_wp2
          go_loopw [4] (fun i wq => ∃ k : Nat, k ≤ j + 1 ∧ i = .int .i64 k ∧ Hid (wq.ownsRow w.heap.size 3 1 (.slice (some ⟨g, 0, none⟩) (j + 1 + 1) c3) (j + 1 + 1) (natC (midF j k) (j + 2))) ∧ Hid (Below w.heap.size w wq)) (fun i _ => (intOf i).toNat)
          case atStart => exact ⟨j + 1, Nat.le_refl _, by go_num, own3, b3⟩
          case round =>
            obtain ⟨k, hk, rfl, ho, hb⟩ := hrel
            clear own3 b3
            cases k with
            | zero =>
              have hd : decide ((0 : Int) < ((0 : Nat) : Int)) = false := by decide
              go_wp2
              go_roundw
              case rel => exact ⟨j + 1, by omega, by go_num, Lib.hid (by rw [natC_congr (g := bin (j + 1)) (fun q _ => midF_zero j q)] at ho; exact ho.out), hb⟩
              case measure => simp [intOf]; omega
            | succ k =>
              have hd : decide ((0 : Int) < ((k + 1 : Nat) : Int)) = true := by simp
              have c1 : wr.cell? ⟨g, k + 1, none⟩ = some (.int .i64 (bin j (k + 1) : Int)) := by
                rw [ho.out.cellAt (k + 1) (by omega), natC_at _ _ _ (by omega)]; unfold midF; rw [if_pos (Nat.le_refl _)]
              have c0 : wr.cell? ⟨g, k, none⟩ = some (.int .i64 (bin j k : Int)) := by
                rw [ho.out.cellAt k (by omega), natC_at _ _ _ (by omega)]; unfold midF; rw [if_pos (by omega)]
              have f1 : wr.frozen? ⟨g, k + 1, none⟩ = false := ho.out.frozenAt (k + 1)
              have hs := Lib.hid (show (natC (midF j (k + 1)) (j + 2)).set (k + 1) (.int .i64 ((bin j (k + 1) : Int) + (bin j k : Int))) = natC (midF j k) (j + 2) by
                rw [show ((bin j (k + 1) : Int) + (bin j k : Int)) = ((bin j k + bin j (k + 1) : Nat) : Int) by omega, natC_set]
                exact natC_congr fun q _ => (midF_step j k q).symm)
              have b1 := bin_60 (n := j) (k + 1) (by omega)
              have b0 := bin_60 (n := j) k (by omega)
              have hgl : g < wr.heap.size := (ho.out.lt g rfl).2
              obtain ⟨x, hx⟩ : ∃ x, x = bin j (k + 1) := ⟨_, rfl⟩
              obtain ⟨y, hy⟩ : ∃ y, y = bin j k := ⟨_, rfl⟩
              rw [← hx] at c1 b1 hs
              rw [← hy] at c0 b0 hs
              clear hx hy
              have i1 : k + 1 < j + 1 + 1 := by omega
              have i2 : ((k + 1 : Nat) : Int) < ((j + 1 + 1 : Nat) : Int) := by omega
              have i3 : ((k + 1 : Nat) : Int) - 1 = (k : Int) := by omega
              go_wp2
              have hw := IntWalk.i64_in ((x : Int) + (y : Int)) (by omega)
              go_region
              go_wp2
              go_roundw
              case rel => exact ⟨k, by omega, by first | rfl | go_num, Lib.hid (by rw [← hs.out]; exact (ho.out.drew.stored (k + 1) _).1), Lib.hid (hb.out.drew.setCell HG.out _)⟩
              case measure => simp [intOf]
    · obtain rfl : j = n := by omega
      have HO := hown.out
      obtain ⟨A4, c4, hv, -, -, -, -⟩ := own_slice HO
      subst hv
      go_wp2
      go_ret
      exact ⟨A4, c4, rfl, hown, hbw.out⟩

end Go.Proofs.Ytcpfhaoecggflaa
