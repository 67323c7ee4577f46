/-
  Nodes of texts as they lie in memory; contracts of the small functions of layer 2 and of its specification.
-/
import Derived.Test.YtbfedahonfjpfaaCheck
namespace Go.Proofs.Ytbfedahonfjpfaa
open Go.RowKit

/-- a node -/
structure Nd where
  kind : Int
  depth : Int
  sign : Int
  turn : Int
  mirror : Bool
  state : Int
  min : Int
  max : Int
def Nd.val (n : Nd) : Value := .agg #[.int .i64 n.kind, .int .i64 n.depth, .int .i64 n.sign, .int .i64 n.turn, .bool n.mirror, .int .i64 n.state, .int .i64 n.min, .int .i64 n.max]
def leafB (k : Int) : Bool := (k == 1) || (k == 6)
/-- how many kids a node of a kind has, least and most -/
def kidsR (k : Int) : Int × Int := if leafB k then (0, 0) else if k = 4 then (2, 2) else if k = 5 then (1, 6) else (2, 6)

theorem ret_ii {a b c d : Int} (h : (a, b) = (c, d)) : Ending.returned (.tuple #[.int .i64 a, .int .i64 b]) = .returned (.tuple #[.int .i64 c, .int .i64 d]) := by
  injection h with h1 h2
  rw [h1, h2]

set_option maxHeartbeats 1600000 in
theorem isLeaf_any (n : Nd) (w : World) : Calls Try.prog 108 #[n.val] w fun e w' => e = .returned (.bool (leafB n.kind)) ∧ Below w.heap.size w w' := by
  unfold Nd.val
  by_cases h1 : n.kind = 1
  · have hf := Lib.hid (show leafB n.kind = true by rw [h1]; rfl)
    go_enter Try.func108, Try.ntmps108
    go_wp2
    all_goals go_ret
    all_goals exact ⟨of_bool (by rw [hf.out]), below_alloc _ _⟩
  · have h1b : (n.kind == 1) = false := by simpa using h1
    have hf := Lib.hid (show leafB n.kind = (n.kind == 6) by unfold leafB; rw [h1b]; rfl)
    go_enter Try.func108, Try.ntmps108
    go_wp2
    all_goals go_ret
    all_goals exact ⟨of_bool (by rw [hf.out]), below_alloc _ _⟩
theorem leaf_any (k : Int) (w : World) : Calls Try.prog 97 #[.int .i64 k] w fun e w' => e = .returned (.bool (leafB k)) ∧ w = w' := by
  go_enter Try.func97, Try.ntmps97
  go_wp2
  all_goals go_ret
  all_goals (simp [leafB, *])

set_option maxHeartbeats 1600000 in
theorem kidsOfKind_any (k : Int) (w : World) : Calls Try.prog 92 #[.int .i64 k] w fun e w' => e = .returned (.tuple #[.int .i64 (kidsR k).1, .int .i64 (kidsR k).2]) ∧ w = w' := by
  by_cases h1 : k = 1
  · subst h1
    go_enter Try.func92, Try.ntmps92
    go_wp2
    go_ret2
    exact ⟨rfl, rfl⟩
  by_cases h6 : k = 6
  · subst h6
    go_enter Try.func92, Try.ntmps92
    go_wp2
    go_ret2
    exact ⟨rfl, rfl⟩
  by_cases h4 : k = 4
  · subst h4
    go_enter Try.func92, Try.ntmps92
    go_wp2
    go_ret2
    exact ⟨rfl, rfl⟩
  by_cases h5 : k = 5
  · subst h5
    go_enter Try.func92, Try.ntmps92
    go_wp2
    go_ret2
    exact ⟨rfl, rfl⟩
  have b1 : (k == 1) = false := by simpa using h1
  have b6 : (k == 6) = false := by simpa using h6
  have b4 : (k == 4) = false := by simpa using h4
  have b5 : (k == 5) = false := by simpa using h5
  have HF := Lib.hid (show kidsR k = (2, 6) by unfold kidsR leafB; rw [b1, b6, if_neg (by simp), if_neg h4, if_neg h5])
  clear h1 h6 h4 h5
  go_enter Try.func92, Try.ntmps92
  go_wp2
  go_ret2
  exact ⟨by rw [HF.out]; rfl, rfl⟩

/-- whether a node of a kind may have a kid of another kind as one of so many (holds) -/
def holdsB (kind kid n : Int) : Bool :=
  if kid == 5 then false
  else if kid == 7 then (kind == 5) && (n == 1)
  else if kind == 4 then kid == 1
  else if kind == 3 then kid != 3
  else kid != 2

set_option maxHeartbeats 1600000 in
theorem holds_any (kind kid n : Int) (w : World) : Calls Try.prog 93 #[.int .i64 kind, .int .i64 kid, .int .i64 n] w fun e w' => e = .returned (.bool (holdsB kind kid n)) ∧ w = w' := by
  unfold holdsB
  cases h5 : kid == 5
  case true =>
    go_enter Try.func93, Try.ntmps93
    go_wp2
    go_ret
    exact ⟨rfl, rfl⟩
  cases h7 : kid == 7
  case true =>
    cases k5 : kind == 5
    · go_enter Try.func93, Try.ntmps93
      go_wp2
      go_ret
      exact ⟨rfl, rfl⟩
    · go_enter Try.func93, Try.ntmps93
      go_wp2
      go_ret
      exact ⟨of_bool (by simp), rfl⟩
  cases k4 : kind == 4
  case true =>
    go_enter Try.func93, Try.ntmps93
    go_wp2
    go_ret
    exact ⟨of_bool (by simp), rfl⟩
  cases k3 : kind == 3
  case true =>
    go_enter Try.func93, Try.ntmps93
    go_wp2
    go_ret
    exact ⟨of_bool (by simp), rfl⟩
  go_enter Try.func93, Try.ntmps93
  go_wp2
  go_ret
  exact ⟨of_bool (by simp), rfl⟩

/-- the error of a gap by itself (checkGap) -/
def gapErr (n : Nd) : Int :=
  if n.min < 0 ∨ n.max < n.min ∨ 9 < n.max ∨ n.max < 1 then 22
  else if n.sign = 0 ∧ n.turn = 0 ∧ n.mirror = false ∧ n.state = 0 then 0 else 20

set_option maxHeartbeats 1600000 in
theorem checkGap_any (n : Nd) (w : World) (hk : n.kind = 6) : Calls Try.prog 91 #[n.val] w fun e w' => e = .returned (.int .i64 (gapErr n)) ∧ Below w.heap.size w w' := by
  obtain ⟨kind, depth, sign, turn, mirror, state, mn, mx⟩ := n
  dsimp only at hk
  subst hk
  have hb := Lib.hid (below_alloc w (.cells #[.int .i64 6, .int .i64 depth, .int .i64 sign, .int .i64 turn, .bool mirror, .int .i64 state, .int .i64 mn, .int .i64 mx] 78))
  unfold Nd.val
  dsimp only
  by_cases h1 : mn < 0
  · have HF := Lib.hid (show gapErr ⟨6, depth, sign, turn, mirror, state, mn, mx⟩ = 22 by unfold gapErr; rw [if_pos (.inl h1)])
    go_enter Try.func91, Try.ntmps91
    go_wp2
    go_ret
    exact ⟨of_int HF.out.symm, hb.out⟩
  by_cases h2 : mx < mn
  · have HF := Lib.hid (show gapErr ⟨6, depth, sign, turn, mirror, state, mn, mx⟩ = 22 by unfold gapErr; rw [if_pos (.inr (.inl h2))])
    go_enter Try.func91, Try.ntmps91
    go_wp2
    go_ret
    exact ⟨of_int HF.out.symm, hb.out⟩
  by_cases h3 : 9 < mx
  · have HF := Lib.hid (show gapErr ⟨6, depth, sign, turn, mirror, state, mn, mx⟩ = 22 by unfold gapErr; rw [if_pos (.inr (.inr (.inl h3)))])
    go_enter Try.func91, Try.ntmps91
    go_wp2
    go_ret
    exact ⟨of_int HF.out.symm, hb.out⟩
  by_cases h4 : mx < 1
  · have HF := Lib.hid (show gapErr ⟨6, depth, sign, turn, mirror, state, mn, mx⟩ = 22 by unfold gapErr; rw [if_pos (.inr (.inr (.inr h4)))])
    go_enter Try.func91, Try.ntmps91
    go_wp2
    go_ret
    exact ⟨of_int HF.out.symm, hb.out⟩
  have HG := Lib.hid (show ∀ a b c d, gapErr ⟨6, depth, a, b, c, d, mn, mx⟩ = if a = 0 ∧ b = 0 ∧ c = false ∧ d = 0 then 0 else 20 from fun a b c d => by
    unfold gapErr; rw [if_neg (by dsimp only; omega)])
  clear hb
  go_enter Try.func91, Try.ntmps91
  go_wp2
  all_goals go_ret
  all_goals exact ⟨of_int (by rw [HG.out]; simp [*]), below_alloc _ _⟩

end Go.Proofs.Ytbfedahonfjpfaa
