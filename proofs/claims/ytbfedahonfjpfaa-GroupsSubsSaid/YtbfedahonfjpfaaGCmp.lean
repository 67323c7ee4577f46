/-
  What the laws on papers compare: ints and texts that were made by both sides.
-/
import Derived.Test.YtbfedahonfjpfaaGLaw
import Derived.Test.YtbfedahonfjpfaaGOrd
namespace Go.Proofs.Ytbfedahonfjpfaa
open Go.RowKit

/-- a slice of ints -/
def IntsIn (w : World) (A : Option Addr) (zs : List Int) : Prop := ∀ k z, zs[k]? = some z → ∃ b o, A = some ⟨b, o, none⟩ ∧ b < w.heap.size ∧ w.cell? ⟨b, o + k, none⟩ = some (.int .i64 z)
theorem IntsIn.below {w w' : World} {A : Option Addr} {zs : List Int} (h : IntsIn w A zs) (hb : Below w.heap.size w w') : IntsIn w' A zs := fun k n hk => by
  obtain ⟨b, o, e, hlt, hv⟩ := h k n hk
  exact ⟨b, o, e, Nat.lt_of_lt_of_le hlt hb.size, (hb.cell (p := ⟨b, _, none⟩) hlt).trans hv⟩
theorem own_ints {w : World} {base : Nat} {A : Option Addr} {n c : Nat} {l : List Int} (h : w.ownsRow base 3 1 (.slice A n c) n (intsZ l)) : IntsIn w A l := fun k j hk => by
  obtain ⟨A2, c2, hv, -, -, h3, h4⟩ := own_slice h
  injection hv with e1 e2 e3
  subst e1 e3
  have hlen : l.length = n := by have := h.1; simpa [intsZ] using this
  cases A with
  | none => have := h4 rfl; have := (List.getElem?_eq_some_iff.1 hk).1; omega
  | some ad =>
    obtain ⟨g, rfl, _, hg, hc⟩ := h3 ad rfl
    refine ⟨g, 0, rfl, hg, ?_⟩
    rw [Nat.zero_add]
    exact hc k _ (by unfold intsZ; rw [List.getElem?_map, hk]; rfl)
/-- ints and an error that were made, by name -/
def GotIntsX (w : World) (zs : List Int) (er : Int) (e : Ending) (w' : World) : Prop :=
  ∃ A k c, e = .returned (.tuple #[.slice A k c, .int .i64 er]) ∧ Hid (k = zs.length) ∧ Hid (IntsIn w' A zs) ∧ Below w.heap.size w w'
theorem GotIntsE.x {w : World} {zs : List Int} {er : Int} {e : Ending} {w' : World} (h : GotIntsE w (zs, er) e w') : GotIntsX w zs er e w' := by
  obtain ⟨A, c, rfl, h1, h2⟩ := h
  exact ⟨A, _, c, rfl, Lib.hid rfl, Lib.hid (own_ints h1), h2⟩
/-- a text and an error that were made -/
def GotTextE (w : World) (ns : List Nd) (er : Int) (e : Ending) (w' : World) : Prop :=
  ∃ A k c, e = .returned (.tuple #[.agg #[.slice A k c], .int .i64 er]) ∧ Hid (k = ns.length) ∧ Hid (NdsAt w' A ns) ∧ Hid (k ≤ c ∧ c ≤ maxLen) ∧ Below w.heap.size w w'

set_option maxHeartbeats 800000 in
theorem sameI_eq (A B : Option Addr) (n m c d : Nat) (zs : List Int) (w : World) (hn : n = zs.length) (hm : m = zs.length) (hA : IntsIn w A zs) (hB : IntsIn w B zs) (hz : zs.length ≤ 1000000) :
    Calls Try.prog 27 #[.slice A n c, .slice B m d] w fun e w' => e = .returned (.bool true) ∧ Below w.heap.size w w' := by
  obtain rfl : m = n := hm.trans hn.symm
  have HN := Lib.hid hn
  rw [← hn] at hz
  clear hn hm
  go_enter Try.func27, Try.ntmps27
  go_wp2
  go_loopw [5] (fun i wr => ∃ k : Nat, k ≤ m ∧ i = .int .i64 k ∧ Hid (Below w.heap.size w wr)) (fun i _ => m - (intOf i).toNat)
  case atStart => exact ⟨0, Nat.zero_le _, rfl, Lib.hid (Below.refl _ _)⟩
  case round =>
    obtain ⟨k, hk, rfl, hb⟩ := hrel
    by_cases hlt : k < m
    · obtain ⟨z, hz⟩ : ∃ z, zs[k]? = some z := ⟨_, List.getElem?_eq_getElem (by have := HN.out; omega)⟩
      obtain ⟨g, o, e1, hg, x⟩ := (hA.below hb.out) k z hz
      obtain ⟨g', o', e2, hg', y⟩ := (hB.below hb.out) k z hz
      subst e1 e2
      clear hz hA hB
      go_wp2
      refine wp_region_later (by kernel_rfl) (by kernel_rfl) ?_; (repeat (first | go_big_quiet_step (fail) | quiet_step (fail))); refine wpQuiet_nil ?_; rintro _ ⟨s, rfl⟩
      go_wp2
      go_roundw
      case rel => exact ⟨k + 1, by omega, by go_num, Lib.hid (hb.out.trans (s.below.mono hb.out.size))⟩
      case measure => simp [intOf]; omega
    · obtain rfl : k = m := by omega
      go_wp2
      go_ret
      exact ⟨rfl, hb.out⟩

theorem rsameT_eq (A B : Option Addr) (n m c d : Nat) (ns : List Nd) (w : World) (hn : n = ns.length) (hm : m = ns.length) (hA : NdsAt w A ns) (hB : NdsAt w B ns) (hz : ns.length ≤ 1000000) :
    Calls Try.prog 22 #[.agg #[.slice A n c], .agg #[.slice B m d]] w fun e w' => e = .returned (.bool true) ∧ Below w.heap.size w w' := by
  subst hn hm
  have := rsameT_any A B c d ns ns w hA hB hz hz
  rw [eqUp_refl ndEq ndEq_refl] at this; exact this

end Go.Proofs.Ytbfedahonfjpfaa
