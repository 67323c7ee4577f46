/-
  The check of a glyph by itself (checkGlyph).
-/
import Derived.Test.YtbfedahonfjpfaaGNode
namespace Go.Proofs.Ytbfedahonfjpfaa
open Go.RowKit

def glyphErr (l : Li) (n : Nd) : Int :=
  if n.sign < 0 ∨ (l.signs.length : Int) ≤ n.sign then 23
  else if n.turn < 0 ∨ 3 < n.turn ∨ n.state < 0 ∨ 3 < n.state then 20
  else if n.mirror && (l.signs[n.sign.toNat]?.any (·.even)) then 20
  else if n.min = 0 ∧ n.max = 0 then 0 else 20

theorem two_under (w : World) (a b : Obj) : Below w.heap.size w ((w.alloc a).alloc b) := ((Below.refl _ _).alloc (Nat.le_refl _) _).alloc (by simp) _

set_option maxHeartbeats 1600000 in
set_option maxRecDepth 100000 in
theorem checkGlyph_any (L : Lm) (n : Nd) (w : World) (hl : LmOk w L) : Calls Try.prog 90 #[L.val, n.val] w fun e w' => e = .returned (.int .i64 (glyphErr L.li n)) ∧ Below w.heap.size w w' := by
  obtain ⟨kind, depth, sign, turn, mirror, state, mn, mx⟩ := n
  have hsg := hl.signs
  have hlc := hl.len
  have hcap := hl.cap
  unfold maxLen at hcap
  clear hl
  obtain ⟨l, hli⟩ : ∃ l, l = L.li := ⟨_, rfl⟩
  have hlen : L.ms.length = l.signs.length := by rw [hli, show L.li.signs = L.signs from rfl, Lm.length_signs]
  have HGS := Lib.hid (fun k (m : Sm) (hk : L.ms[k]? = some m) => show l.signs[k]? = some m.s by rw [hli]; exact Lm.getElem_signs hk)
  rw [← hli]
  clear hli
  unfold Nd.val Lm.val
  dsimp only
  obtain ⟨N, hN⟩ : ∃ N, N = L.ms.length := ⟨_, rfl⟩
  have HN := Lib.hid hN
  rw [← hN] at hlc hlen ⊢
  clear hN
  have HG1 := Lib.hid (show sign < 0 ∨ (N : Int) ≤ sign → glyphErr l ⟨kind, depth, sign, turn, mirror, state, mn, mx⟩ = 23 from fun h => by
    unfold glyphErr; rw [if_pos (by dsimp only; omega)])
  have HG2 := Lib.hid (show ¬ (sign < 0 ∨ (N : Int) ≤ sign) → turn < 0 ∨ 3 < turn ∨ state < 0 ∨ 3 < state → glyphErr l ⟨kind, depth, sign, turn, mirror, state, mn, mx⟩ = 20 from fun h h' => by
    unfold glyphErr; rw [if_neg (by dsimp only; omega), if_pos (by dsimp only; omega)])
  have HG3 := Lib.hid (show ¬ (sign < 0 ∨ (N : Int) ≤ sign) → ¬ (turn < 0 ∨ 3 < turn ∨ state < 0 ∨ 3 < state) → glyphErr l ⟨kind, depth, sign, turn, mirror, state, mn, mx⟩ = if mirror && (l.signs[sign.toNat]?.any (·.even)) then 20 else if mn = 0 ∧ mx = 0 then 0 else 20 from fun h h' => by
    unfold glyphErr; rw [if_neg (by dsimp only; omega), if_neg (by dsimp only; omega)])
  by_cases h1 : sign < 0
  · have HF := Lib.hid (show glyphErr l ⟨kind, depth, sign, turn, mirror, state, mn, mx⟩ = 23 by exact HG1.out (by omega))
    clear HG1 HG2 HG3
    go_enter Try.func90, Try.ntmps90
    go_wp2
    go_ret
    exact ⟨of_int HF.out.symm, two_under _ _ _⟩
  by_cases h2 : (N : Int) ≤ sign
  · have HF := Lib.hid (show glyphErr l ⟨kind, depth, sign, turn, mirror, state, mn, mx⟩ = 23 by exact HG1.out (by omega))
    clear HG1 HG2 HG3
    go_enter Try.func90, Try.ntmps90
    go_wp2
    go_ret
    exact ⟨of_int HF.out.symm, two_under _ _ _⟩
  by_cases h3 : turn < 0
  · have HF := Lib.hid (show glyphErr l ⟨kind, depth, sign, turn, mirror, state, mn, mx⟩ = 20 by exact HG2.out (by omega) (by omega))
    clear HG1 HG2 HG3
    go_enter Try.func90, Try.ntmps90
    go_wp2
    go_ret
    exact ⟨of_int HF.out.symm, two_under _ _ _⟩
  by_cases h4 : 3 < turn
  · have HF := Lib.hid (show glyphErr l ⟨kind, depth, sign, turn, mirror, state, mn, mx⟩ = 20 by exact HG2.out (by omega) (by omega))
    clear HG1 HG2 HG3
    go_enter Try.func90, Try.ntmps90
    go_wp2
    go_ret
    exact ⟨of_int HF.out.symm, two_under _ _ _⟩
  by_cases h5 : state < 0
  · have HF := Lib.hid (show glyphErr l ⟨kind, depth, sign, turn, mirror, state, mn, mx⟩ = 20 by exact HG2.out (by omega) (by omega))
    clear HG1 HG2 HG3
    go_enter Try.func90, Try.ntmps90
    go_wp2
    go_ret
    exact ⟨of_int HF.out.symm, two_under _ _ _⟩
  by_cases h6 : 3 < state
  · have HF := Lib.hid (show glyphErr l ⟨kind, depth, sign, turn, mirror, state, mn, mx⟩ = 20 by exact HG2.out (by omega) (by omega))
    clear HG1 HG2 HG3
    go_enter Try.func90, Try.ntmps90
    go_wp2
    go_ret
    exact ⟨of_int HF.out.symm, two_under _ _ _⟩
  obtain ⟨k, rfl⟩ : ∃ k : Nat, sign = k := ⟨sign.toNat, by omega⟩
  have hk : k < N := by omega
  have HG := Lib.hid (HG3.out (by omega) (by omega))
  clear HG1 HG2 HG3
  have hget : L.ms[k]? = some (L.ms[k]'(by have := HN.out; omega)) := List.getElem?_eq_getElem _
  obtain ⟨u, hu⟩ : ∃ u, u = L.ms[k]'(by have := HN.out; omega) := ⟨_, rfl⟩
  rw [← hu] at hget
  obtain ⟨b, o, hA, hb1, hva, -⟩ := hsg k u hget
  rw [hA]
  have hev : l.signs[(k : Int).toNat]?.any (·.even) = u.s.even := by rw [Int.toNat_natCast, HGS.out k u hget]; rfl
  rw [hev] at HG
  have y3 := hva.c3
  clear hu hget hva hA hsg HGS hev
  generalize hE : u.s.even = ev at HG y3
  clear hE
  cases mirror
  · clear y3
    by_cases h7 : mn = 0
    · by_cases h8 : mx = 0
      · have HF := Lib.hid (show glyphErr l ⟨kind, depth, k, turn, false, state, mn, mx⟩ = 0 by rw [HG.out]; simp [h7, h8])
        subst h7 h8
        clear HG
        go_enter Try.func90, Try.ntmps90
        go_wp2
        go_ret
        exact ⟨of_int HF.out.symm, two_under _ _ _⟩
      · have HF := Lib.hid (show glyphErr l ⟨kind, depth, k, turn, false, state, mn, mx⟩ = 20 by rw [HG.out]; simp [h7, h8])
        have h8b : (mx != 0) = true := by simpa using h8
        subst h7
        clear HG h8
        go_enter Try.func90, Try.ntmps90
        go_wp2
        go_ret
        exact ⟨of_int HF.out.symm, two_under _ _ _⟩
    · have HF := Lib.hid (show glyphErr l ⟨kind, depth, k, turn, false, state, mn, mx⟩ = 20 by rw [HG.out]; simp [h7])
      have h7b : (mn != 0) = true := by simpa using h7
      clear HG h7
      go_enter Try.func90, Try.ntmps90
      go_wp2
      go_ret
      exact ⟨of_int HF.out.symm, two_under _ _ _⟩
  cases ev
  · skip
    by_cases h7 : mn = 0
    · by_cases h8 : mx = 0
      · have HF := Lib.hid (show glyphErr l ⟨kind, depth, k, turn, true, state, mn, mx⟩ = 0 by rw [HG.out]; simp [h7, h8])
        subst h7 h8
        clear HG
        go_enter Try.func90, Try.ntmps90
        go_wp2
        go_ret
        exact ⟨of_int HF.out.symm, two_under _ _ _⟩
      · have HF := Lib.hid (show glyphErr l ⟨kind, depth, k, turn, true, state, mn, mx⟩ = 20 by rw [HG.out]; simp [h7, h8])
        have h8b : (mx != 0) = true := by simpa using h8
        subst h7
        clear HG h8
        go_enter Try.func90, Try.ntmps90
        go_wp2
        go_ret
        exact ⟨of_int HF.out.symm, two_under _ _ _⟩
    · have HF := Lib.hid (show glyphErr l ⟨kind, depth, k, turn, true, state, mn, mx⟩ = 20 by rw [HG.out]; simp [h7])
      have h7b : (mn != 0) = true := by simpa using h7
      clear HG h7
      go_enter Try.func90, Try.ntmps90
      go_wp2
      go_ret
      exact ⟨of_int HF.out.symm, two_under _ _ _⟩
  · have HF := Lib.hid (show glyphErr l ⟨kind, depth, k, turn, true, state, mn, mx⟩ = 20 by rw [HG.out]; simp)
    clear HG
    go_enter Try.func90, Try.ntmps90
    go_wp2
    go_ret
    exact ⟨of_int HF.out.symm, two_under _ _ _⟩

end Go.Proofs.Ytbfedahonfjpfaa
