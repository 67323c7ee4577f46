/-
  Whether two copies are apart: what both sides answer (layer 9): no walk.
-/
import Derived.Test.YtcpfhaoecggflaaZChn
import Derived.Test.YtcpfhaoecggflaaZAm2
namespace Go.Proofs.Ytcpfhaoecggflaa
open Go.RowKit

/-- tallies as they lie in memory -/
def TlsIn (w : World) (A : Option Addr) (ts : List (Int × Int)) : Prop := ∀ k p, ts[k]? = some p → ∃ g o, A = some ⟨g, o, none⟩ ∧ g < w.heap.size ∧ w.cell? ⟨g, o + k * 2, none⟩ = some (.int .i64 p.1) ∧ w.cell? ⟨g, o + k * 2 + 1, none⟩ = some (.int .i64 p.2)
theorem TlsIn.below {w w' : World} {A : Option Addr} {ts : List (Int × Int)} (h : TlsIn w A ts) (hb : Below w.heap.size w w') : TlsIn w' A ts := fun k p hk => by
  obtain ⟨g, o, e, hlt, h1, h2⟩ := h k p hk
  exact ⟨g, o, e, Nat.lt_of_lt_of_le hlt hb.size, ((bcell hb).1 _ _ hlt).trans h1, ((bcell hb).1 _ _ hlt).trans h2⟩
def goodAt (a b : List (Int × Int)) (k : Nat) : Bool := match a[k]?, b[k]? with
  | some u, some v => tallyB u.1 u.2 v.1 v.2
  | _, _ => true
def amAt (a b : List (Int × Int)) (n d : Int) (k : Nat) : Bool := match a[k]?, b[k]? with
  | some u, some v => decide ((fishQ u.1 u.2 v.1 v.2).1.1 * d ≤ n * (fishQ u.1 u.2 v.1 v.2).1.2)
  | _, _ => false
theorem goodAt_is {a b : List (Int × Int)} {k : Nat} {u v : Int × Int} (hu : a[k]? = some u) (hv : b[k]? = some v) : goodAt a b k = tallyB u.1 u.2 v.1 v.2 := by unfold goodAt; rw [hu, hv]
theorem amAt_is {a b : List (Int × Int)} {n d : Int} {k : Nat} {u v : Int × Int} (hu : a[k]? = some u) (hv : b[k]? = some v) : amAt a b n d k = decide ((fishQ u.1 u.2 v.1 v.2).1.1 * d ≤ n * (fishQ u.1 u.2 v.1 v.2).1.2) := by unfold amAt; rw [hu, hv]
def lenB (a b : List (Int × Int)) : Bool := decide (a.length = b.length) && decide (1 ≤ a.length) && decide (a.length ≤ 12)
/-- the error of Apart, and its answer -/
def apE (a b : List (Int × Int)) (n d : Int) : Int := if lenB a b = false then 80 else if (List.range a.length).all (goodAt a b) = false then 80 else if limB n d = false then 1 else 0
def apV (a b : List (Int × Int)) (n d : Int) : Bool := if apE a b n d = 0 then (List.range a.length).any (amAt a b n d) else false
def GotAp (w : World) (a b : List (Int × Int)) (n d : Int) (e : Ending) (w' : World) : Prop := e = .returned (.tuple #[.bool (apV a b n d), .int .i64 (apE a b n d)]) ∧ Below w.heap.size w w'
theorem all_more {f : Nat → Bool} {k : Nat} (h : (List.range k).all f = true) (hk : f k = true) : (List.range (k + 1)).all f = true := by
  rw [List.range_succ, List.all_append, h]; simp [hk]
theorem all_not {f : Nat → Bool} {k m : Nat} (hk : k < m) (h : f k = false) : (List.range m).all f = false := by
  rw [List.all_eq_false]; exact ⟨k, List.mem_range.2 hk, by rw [h]; simp⟩
theorem any_more {f : Nat → Bool} {k : Nat} {b : Bool} (h : (List.range k).any f = b) : (List.range (k + 1)).any f = (b || f k) := by
  rw [List.range_succ, List.any_append, h]; simp
theorem any_yes {f : Nat → Bool} {k m : Nat} (hk : k < m) (h : f k = true) : (List.range m).any f = true := by
  rw [List.any_eq_true]; exact ⟨k, List.mem_range.2 hk, h⟩
theorem ap_len {w w' : World} {a b : List (Int × Int)} {n d : Int} (h : lenB a b = false) (hb : Below w.heap.size w w') : GotAp w a b n d (.returned (.tuple #[.bool false, .int .i64 80])) w' := by
  have e : apE a b n d = 80 := by unfold apE; rw [if_pos h]
  exact ⟨by unfold apV; rw [e, if_neg (by decide)], hb⟩
theorem ap_bad {w w' : World} {a b : List (Int × Int)} {n d : Int} (h : lenB a b = true) (h2 : (List.range a.length).all (goodAt a b) = false) (hb : Below w.heap.size w w') : GotAp w a b n d (.returned (.tuple #[.bool false, .int .i64 80])) w' := by
  have e : apE a b n d = 80 := by unfold apE; rw [if_neg (by rw [h]; simp), if_pos h2]
  exact ⟨by unfold apV; rw [e, if_neg (by decide)], hb⟩
theorem ap_lim {w w' : World} {a b : List (Int × Int)} {n d : Int} (h : lenB a b = true) (h2 : (List.range a.length).all (goodAt a b) = true) (h3 : limB n d = false) (hb : Below w.heap.size w w') : GotAp w a b n d (.returned (.tuple #[.bool false, .int .i64 1])) w' := by
  have e : apE a b n d = 1 := by unfold apE; rw [if_neg (by rw [h]; simp), if_neg (by rw [h2]; simp), if_pos h3]
  exact ⟨by unfold apV; rw [e, if_neg (by decide)], hb⟩
theorem ap_ok {w w' : World} {a b : List (Int × Int)} {n d : Int} {r : Bool} (h : lenB a b = true) (h2 : (List.range a.length).all (goodAt a b) = true) (h3 : limB n d = true) (hr : (List.range a.length).any (amAt a b n d) = r) (hb : Below w.heap.size w w') : GotAp w a b n d (.returned (.tuple #[.bool r, .int .i64 0])) w' := by
  have e : apE a b n d = 0 := by unfold apE; rw [if_neg (by rw [h]; simp), if_neg (by rw [h2]; simp), if_neg (by rw [h3]; simp)]
  exact ⟨by unfold apV; rw [e, if_pos rfl, hr], hb⟩
/-- the fraction of valid tallies, by natural numbers -/
theorem fish_nat {a b c d : Int} (h : tallyB a b c d = true) : ∃ x y : Nat, fishQ a b c d = (((x : Int), (y : Int)), 0) ∧ x ≤ 1152921504606846976 ∧ y ≤ 1152921504606846976 := by
  rw [good_is, decide_eq_true_eq] at h
  obtain ⟨x, y, hx⟩ := fish_ok a.toNat b.toNat c.toNat d.toNat (by omega)
  have e := hx.one
  rw [Int.toNat_of_nonneg (by omega), Int.toNat_of_nonneg (by omega), Int.toNat_of_nonneg (by omega), Int.toNat_of_nonneg (by omega)] at e
  have := hx.le
  have := hx.big
  exact ⟨x, y, e, by omega, by omega⟩
theorem fish_bad {a b c d : Int} (h : tallyB a b c d = false) : fishQ a b c d = ((0, 0), 80) := (fishQ_not h).1
/-- the fractions of the first tallies -/
def Frs (a b : List (Int × Int)) (xs : List (Nat × Nat)) : Prop := ∀ (k : Nat) (x : Nat × Nat), xs[k]? = some x → ∃ u v, a[k]? = some u ∧ b[k]? = some v ∧ fishQ u.1 u.2 v.1 v.2 = (((x.1 : Int), (x.2 : Int)), 0) ∧ x.1 ≤ 1152921504606846976 ∧ x.2 ≤ 1152921504606846976
theorem Frs.snoc {a b : List (Int × Int)} {xs : List (Nat × Nat)} {x y : Nat} {u v : Int × Int} (h : Frs a b xs) (hu : a[xs.length]? = some u) (hv : b[xs.length]? = some v) (hf : fishQ u.1 u.2 v.1 v.2 = (((x : Int), (y : Int)), 0)) (hx : x ≤ 1152921504606846976) (hy : y ≤ 1152921504606846976) : Frs a b (xs ++ [(x, y)]) := fun k z hk => by
  by_cases e : k < xs.length
  · rw [List.getElem?_append_left e] at hk; exact h k z hk
  · have e2 : k = xs.length := by
      have := (List.getElem?_eq_some_iff.1 hk).1
      simp at this; omega
    subst e2
    simp at hk
    subst hk
    exact ⟨u, v, hu, hv, hf, hx, hy⟩
theorem Frs.am {a b : List (Int × Int)} {xs : List (Nat × Nat)} {x : Nat × Nat} {k n d : Nat} (h : Frs a b xs) (hk : xs[k]? = some x) : amAt a b n d k = decide (x.1 * d ≤ n * x.2) := by
  obtain ⟨u, v, hu, hv, hf, -, -⟩ := h k x hk
  rw [amAt_is hu hv, hf, Bool.eq_iff_iff]
  simp only [decide_eq_true_eq]
  rw [← Int.natCast_mul, ← Int.natCast_mul]
  omega
theorem lim_nat {n d : Int} (h : limB n d = true) : ∃ x y : Nat, n = x ∧ d = y ∧ x ≤ 10000 ∧ y ≤ 10000 := by
  unfold limB at h
  simp at h
  exact ⟨n.toNat, d.toNat, by omega, by omega, by omega, by omega⟩
def frC (x : Nat × Nat) : List Value := [.int .i64 x.1, .int .i64 x.2]
theorem infoCh : (Try.prog.info? 53).map (fun i => (i.zero, i.size, i.bytes)) = some (some (.agg #[.int .i64 0, .int .i64 0]), 2, 16) := by kernel_rfl

end Go.Proofs.Ytcpfhaoecggflaa
