/-
  Fractions: the greatest common divisor, fractions in lowest terms; both sides' functions on them. And what builds on it.
-/
import Derived.Test.YtmiokllpdmmfhaaGreatLaB
import Derived.Laws.StructEq
import Derived.IntWalk
import Derived.Deep.QuietTactic
import Derived.BigQuiet
import Derived.Deep.RegionHeld3
import Derived.Deep.DeepCutAuto
import Derived.Deep.RegionWith
import Derived.Laws.EntriesVeiled
namespace Go.Proofs.YtmiokllpdmmfhaaGreat
open Go.RowKit
structure Fr where
  num : Int
  den : Int
def gcdR (a b : Int) : Nat := Nat.gcd a.natAbs b.natAbs
theorem gcd_round {x y G : Nat} (h : Nat.gcd x y = G) : Nat.gcd (y % x) x = G := by rw [← h, ← Nat.gcd_rec]
set_option maxRecDepth 100000 in
set_option maxHeartbeats 4000000 in
theorem divisor_any (a b : Int) (w : World) (ha : -4000000000000000000 ≤ a ∧ a ≤ 4000000000000000000) (hb : 0 < b ∧ b ≤ 4000000000000000000) :
    Calls Tryz.prog 173 #[.int .i64 a, .int .i64 b] w fun e w' => e = .returned (.int .i64 (gcdR a b)) ∧ w = w' := by
  obtain ⟨bn, rfl⟩ : ∃ bn : Nat, b = bn := ⟨b.toNat, by omega⟩
  obtain ⟨G, hG⟩ : ∃ G, Nat.gcd a.natAbs bn = G := ⟨_, rfl⟩
  have HG := Lib.hid (show gcdR a bn = G by unfold gcdR; rw [Int.natAbs_natCast]; exact hG)
  have hbn : 0 < bn := by omega
  have hbm : bn ≤ 4000000000000000000 := by omega
  obtain ⟨an, han⟩ : ∃ an, an = a.natAbs := ⟨_, rfl⟩
  have ham : an ≤ 4000000000000000000 := by omega
  rw [← han] at hG
  have HGG := Lib.hid hG
  have HAN := Lib.hid han
  have hor : a = an ∨ (a = -(an : Int) ∧ 0 < an) := by omega
  clear han ha hb hG
  go_enter Tryz.func173, Tryz.ntmps173
  rcases hor with rfl | ⟨rfl, hpos⟩
  · have hmx : max (an : Int) (-(an : Int)) = an := by omega
    go_wp2_with fail
    go_loop [0, 1] (fun p q => ∃ x y : Nat, p = .int .i64 x ∧ q = .int .i64 y ∧ x ≤ 4000000000000000000 ∧ y ≤ 4000000000000000000 ∧ 0 < y ∧ Hid (Nat.gcd x y = G)) (fun p _ => (intOf p).toNat)
    case atStart => exact ⟨an, bn, rfl, rfl, ham, hbm, hbn, HGG⟩
    case round =>
      obtain ⟨x, y, rfl, rfl, hx, hy, hy0, hg⟩ := hrel
      by_cases h0 : x = 0
      · have HY := Lib.hid (show gcdR (an : Int) bn = y by have := hg.out; rw [h0, Nat.gcd_zero_left] at this; rw [HG.out, this])
        have hb0 : ((x : Int) != 0) = false := by rw [h0]; rfl
        clear h0
        go_wp2_with fail
        go_ret
        exact ⟨of_int (by rw [HY.out]), rfl⟩
      · have hb0 : ((x : Int) != 0) = true := by simpa using h0
        have hx0 : (x : Int) ≠ 0 := by omega
        have hm : y % x < x := Nat.mod_lt _ (by omega)
        have HGN := Lib.hid (gcd_round hg.out)
        clear h0 hg
        go_wp2_with fail
        go_round
        case rel => exact ⟨y % x, x, by simp, rfl, by omega, hx, by omega, HGN⟩
        case measure => simp [intOf]; omega
  · have hmx : max (-(an : Int)) (an : Int) = an := by omega
    have hnot : ¬ ((an : Int) ≤ -(an : Int)) := by omega
    go_wp2_with fail
    go_loop [0, 1] (fun p q => ∃ x y : Nat, p = .int .i64 x ∧ q = .int .i64 y ∧ x ≤ 4000000000000000000 ∧ y ≤ 4000000000000000000 ∧ 0 < y ∧ Hid (Nat.gcd x y = G)) (fun p _ => (intOf p).toNat)
    case atStart => exact ⟨an, bn, rfl, rfl, ham, hbm, hbn, HGG⟩
    case round =>
      obtain ⟨x, y, rfl, rfl, hx, hy, hy0, hg⟩ := hrel
      by_cases h0 : x = 0
      · have HY := Lib.hid (show gcdR (-(an : Int)) bn = y by have := hg.out; rw [h0, Nat.gcd_zero_left] at this; rw [HG.out, this])
        have hb0 : ((x : Int) != 0) = false := by rw [h0]; rfl
        clear h0
        go_wp2_with fail
        go_ret
        exact ⟨of_int (by rw [HY.out]), rfl⟩
      · have hb0 : ((x : Int) != 0) = true := by simpa using h0
        have hx0 : (x : Int) ≠ 0 := by omega
        have hm : y % x < x := Nat.mod_lt _ (by omega)
        have HGN := Lib.hid (gcd_round hg.out)
        clear h0 hg
        go_wp2_with fail
        go_round
        case rel => exact ⟨y % x, x, by simp, rfl, by omega, hx, by omega, HGN⟩
        case measure => simp [intOf]; omega
set_option maxRecDepth 100000 in
set_option maxHeartbeats 4000000 in
theorem rgcd_any (an bn : Nat) (w : World) (ha : an ≤ 4000000000000000000) (hb : 0 < bn ∧ bn ≤ 4000000000000000000) :
    Calls Tryz.prog 144 #[.int .i64 an, .int .i64 bn] w fun e w' => e = .returned (.int .i64 (Nat.gcd an bn : Nat)) ∧ w = w' := by
  obtain ⟨G, hG⟩ : ∃ G, Nat.gcd an bn = G := ⟨_, rfl⟩
  have HG := Lib.hid hG
  obtain ⟨hb0, hbm⟩ := hb
  rw [hG]
  clear hG
  go_enter Tryz.func144, Tryz.ntmps144
  go_wp2_with fail
  go_loop [0, 1] (fun p q => ∃ x y : Nat, p = .int .i64 x ∧ q = .int .i64 y ∧ x ≤ 4000000000000000000 ∧ y ≤ 4000000000000000000 ∧ 0 < y ∧ Hid (Nat.gcd x y = G)) (fun p _ => (intOf p).toNat)
  case atStart => exact ⟨an, bn, rfl, rfl, ha, hbm, hb0, HG⟩
  case round =>
    obtain ⟨x, y, rfl, rfl, hx, hy, hy0, hg⟩ := hrel
    by_cases h0 : x = 0
    · have HY := Lib.hid (show G = y by have := hg.out; rw [h0, Nat.gcd_zero_left] at this; exact this.symm)
      have hb2 : decide (0 < x) = false := decide_eq_false (by omega)
      have hb1 : decide ((0 : Int) < (x : Int)) = false := decide_eq_false (by omega)
      clear h0
      go_wp2_with fail
      go_ret
      exact ⟨of_int (by rw [HY.out]), rfl⟩
    · have hb1 : decide ((0 : Int) < (x : Int)) = true := decide_eq_true (by omega)
      have hb2 : decide (0 < x) = true := decide_eq_true (by omega)
      have hx0 : (x : Int) ≠ 0 := by omega
      have hm : y % x < x := Nat.mod_lt _ (by omega)
      have HGN := Lib.hid (gcd_round hg.out)
      clear h0 hg
      go_wp2_with fail
      go_round
      case rel => exact ⟨y % x, x, by simp, rfl, by omega, hx, by omega, HGN⟩
      case measure => simp [intOf]; omega
def fracR (n d : Int) : Fr := ⟨n.tdiv (gcdR n d), d.tdiv (gcdR n d)⟩
theorem gcdR_pos {n d : Int} (h : 0 < d) : 0 < gcdR n d := by
  unfold gcdR; exact Nat.gcd_pos_of_pos_right _ (by omega)
theorem tdiv_bd {n B : Int} {g : Nat} (hg : 0 < g) (h : -B ≤ n ∧ n ≤ B) : -B ≤ n.tdiv g ∧ n.tdiv g ≤ B := by
  rcases Int.le_total 0 n with h0 | h0
  · rw [Int.tdiv_eq_ediv_of_nonneg h0]
    have h1 : 0 ≤ n / (g : Int) := Int.ediv_nonneg h0 (by omega)
    have h2 : n / (g : Int) ≤ n := Int.ediv_le_self _ h0
    omega
  · have e : n.tdiv g = -((-n).tdiv g) := by rw [Int.neg_tdiv]; omega
    rw [e, Int.tdiv_eq_ediv_of_nonneg (by omega)]
    have h1 : 0 ≤ (-n) / (g : Int) := Int.ediv_nonneg (by omega) (by omega)
    have h2 : (-n) / (g : Int) ≤ -n := Int.ediv_le_self _ (by omega)
    omega
set_option maxRecDepth 100000 in
set_option maxHeartbeats 4000000 in
theorem fraction_any (n d : Int) (w : World) (hn : -4000000000000000000 ≤ n ∧ n ≤ 4000000000000000000) (hd : 0 < d ∧ d ≤ 4000000000000000000) :
    Calls Tryz.prog 137 #[.int .i64 n, .int .i64 d] w fun e w' => e = .returned (.agg #[.int .i64 (fracR n d).num, .int .i64 (fracR n d).den]) ∧ Below w.heap.size w w' := by
  have HD := Lib.hid (fun wx => divisor_any n d wx hn hd)
  have hg := gcdR_pos (n := n) hd.1
  have b1 := tdiv_bd (g := gcdR n d) hg hn
  have b2 := tdiv_bd (g := gcdR n d) (B := 4000000000000000000) hg ⟨by omega, hd.2⟩
  have HF := Lib.hid (show (fracR n d).num = n.tdiv (gcdR n d) ∧ (fracR n d).den = d.tdiv (gcdR n d) from ⟨rfl, rfl⟩)
  obtain ⟨g, hgg⟩ : ∃ g, g = gcdR n d := ⟨_, rfl⟩
  rw [← hgg] at HD hg b1 b2 HF
  obtain ⟨p, hp⟩ : ∃ p, p = n.tdiv g := ⟨_, rfl⟩
  obtain ⟨q, hq⟩ : ∃ q, q = d.tdiv g := ⟨_, rfl⟩
  rw [← hp] at b1 HF
  rw [← hq] at b2 HF
  rw [HF.out.1, HF.out.2]
  have w1 : IntKind.i64.wrap (n.tdiv g) = p := by rw [← hp]; exact IntWalk.i64_in _ (by omega)
  have w2 : IntKind.i64.wrap (d.tdiv g) = q := by rw [← hq]; exact IntWalk.i64_in _ (by omega)
  have hg0 : ((g : Nat) : Int) ≠ 0 := by omega
  clear hgg hp hq b1 b2 hn hd
  go_enter Tryz.func137, Tryz.ntmps137
  go_wp2_with fail
  refine (HD.out _).mono ?_; rintro e w1 ⟨rfl, rfl⟩
  go_wp2_with fail
  go_region
  all_goals go_wp2
  all_goals exact bodyPost_ret (v := .agg #[.int .i64 p, .int .i64 q]) (by simp [results, Tryz.results137, go_sem]) rfl ⟨rfl, (below_alloc _ _).drew⟩
set_option maxRecDepth 100000 in
set_option maxHeartbeats 4000000 in
theorem rfrac_any (n d : Int) (w : World) (hn : -4000000000000000000 ≤ n ∧ n ≤ 4000000000000000000) (hd : 0 < d ∧ d ≤ 4000000000000000000) :
    Calls Tryz.prog 105 #[.int .i64 n, .int .i64 d] w fun e w' => e = .returned (.agg #[.int .i64 (fracR n d).num, .int .i64 (fracR n d).den]) ∧ Below w.heap.size w w' := by
  obtain ⟨dn, rfl⟩ : ∃ dn : Nat, d = dn := ⟨d.toNat, by omega⟩
  obtain ⟨an, han⟩ : ∃ an, an = n.natAbs := ⟨_, rfl⟩
  have hor : n = an ∨ (n = -(an : Int) ∧ 0 < an) := by omega
  have ham : an ≤ 4000000000000000000 := by omega
  have HD := Lib.hid (fun wx => show Calls Tryz.prog 144 #[.int .i64 an, .int .i64 dn] wx (fun e w' => e = .returned (.int .i64 (gcdR n dn)) ∧ wx = w') by
    have := rgcd_any an dn wx ham (by omega)
    have e : gcdR n dn = Nat.gcd an dn := by unfold gcdR; rw [Int.natAbs_natCast, han]
    rw [e]; exact this)
  have hg := gcdR_pos (n := n) hd.1
  have b1 := tdiv_bd (g := gcdR n dn) hg hn
  have b2 := tdiv_bd (n := (dn : Int)) (g := gcdR n dn) (B := 4000000000000000000) hg ⟨by omega, hd.2⟩
  have HF := Lib.hid (show (fracR n dn).num = n.tdiv (gcdR n dn) ∧ (fracR n dn).den = (dn : Int).tdiv (gcdR n dn) from ⟨rfl, rfl⟩)
  obtain ⟨g, hgg⟩ : ∃ g, g = gcdR n dn := ⟨_, rfl⟩
  rw [← hgg] at HD hg b1 b2 HF
  obtain ⟨p, hp⟩ : ∃ p, p = n.tdiv g := ⟨_, rfl⟩
  obtain ⟨q, hq⟩ : ∃ q, q = (dn : Int).tdiv g := ⟨_, rfl⟩
  rw [← hp] at b1 HF
  rw [← hq] at b2 HF
  rw [HF.out.1, HF.out.2]
  have w2 : IntKind.i64.wrap ((dn : Int).tdiv g) = q := by rw [← hq]; exact IntWalk.i64_in _ (by omega)
  have hg0 : ((g : Nat) : Int) ≠ 0 := by omega
  have HP := Lib.hid hp
  have HB1 := Lib.hid b1
  clear hgg hp hq b1 b2 hn hd han
  rcases hor with rfl | ⟨rfl, hpos⟩
  · have hmx : max (an : Int) (-(an : Int)) = an := by omega
    have w1 : IntKind.i64.wrap ((an : Int) / (g : Int)) = p := by rw [← Int.tdiv_eq_ediv_of_nonneg (show (0 : Int) ≤ (an : Int) by omega), ← HP.out]; exact IntWalk.i64_in _ (by have := HB1.out; omega)
    have w3 : IntKind.i64.wrap ((dn : Int) / (g : Int)) = q := by rw [← Int.tdiv_eq_ediv_of_nonneg (show (0 : Int) ≤ (dn : Int) by omega)]; exact w2
    go_enter Tryz.func105, Tryz.ntmps105
    go_wp2_with fail
    refine (HD.out _).mono ?_; rintro e w3 ⟨rfl, rfl⟩
    go_wp2_with fail
    go_region
    all_goals go_wp2
    all_goals exact bodyPost_ret (v := .agg #[.int .i64 p, .int .i64 q]) (by simp [results, Tryz.results105, go_sem]) rfl ⟨rfl, (below_alloc _ _).drew⟩
  · have hmx : max (-(an : Int)) (an : Int) = an := by omega
    have hnot : ¬ ((an : Int) ≤ -(an : Int)) := by omega
    have w1 : IntKind.i64.wrap (-((an : Int) / (g : Int))) = p := by rw [← Int.tdiv_eq_ediv_of_nonneg (show (0 : Int) ≤ (an : Int) by omega), ← Int.neg_tdiv, ← HP.out]; exact IntWalk.i64_in _ (by have := HB1.out; omega)
    have w3 : IntKind.i64.wrap ((dn : Int) / (g : Int)) = q := by rw [← Int.tdiv_eq_ediv_of_nonneg (show (0 : Int) ≤ (dn : Int) by omega)]; exact w2
    go_enter Tryz.func105, Tryz.ntmps105
    go_wp2_with fail
    refine (HD.out _).mono ?_; rintro e w3 ⟨rfl, rfl⟩
    go_wp2_with fail
    go_region
    all_goals go_wp2
    all_goals exact bodyPost_ret (v := .agg #[.int .i64 p, .int .i64 q]) (by simp [results, Tryz.results105, go_sem]) rfl ⟨rfl, (below_alloc _ _).drew⟩
theorem eqFr (n d p q : Int) (w : World) : (binOp .eql 40 (.agg #[.int .i64 n, .int .i64 d]) (.agg #[.int .i64 p, .int .i64 q])).run Tryz.prog w = .ok (.bool (n == p && d == q)) w := by
  rw [run_eql_struct]
  simp [go_sem]
  by_cases h1 : n = p
  case neg => simp [h1]
  by_cases h2 : d = q <;> simp [h1, h2]
open Go.RowKit
def glyphErr (l : Li) (n : Nd) : Int :=
  if n.sign < 0 ∨ (l.signs.length : Int) ≤ n.sign then 23
  else if n.turn < 0 ∨ 3 < n.turn ∨ n.state < 0 ∨ 3 < n.state then 20
  else if n.mirror && (l.signs[n.sign.toNat]?.any (·.even)) then 20
  else if n.min = 0 ∧ n.max = 0 then 0 else 20
theorem two_under (w : World) (a b : Obj) : Below w.heap.size w ((w.alloc a).alloc b) := ((Below.refl _ _).alloc (Nat.le_refl _) _).alloc (by simp) _
set_option maxHeartbeats 1600000 in
set_option maxRecDepth 100000 in
theorem checkGlyph_any (L : Lm) (n : Nd) (w : World) (hl : LmOk w L) : Calls Tryz.prog 153 #[L.val, n.val] w fun e w' => e = .returned (.int .i64 (glyphErr L.li n)) ∧ Below w.heap.size w w' := by
  obtain ⟨kind, depth, sign, turn, mirror, state, mn, mx⟩ := n
  have hsg := hl.signs
  have hlc := hl.len
  have hcap := hl.cap
  unfold maxLen at hcap
  clear hl
  obtain ⟨l, hli⟩ : ∃ l, l = L.li := ⟨_, rfl⟩
  have hlen : L.ms.length = l.signs.length := by rw [hli, show L.li.signs = L.signs from rfl, Lm.length_signs]
  have HGS := Lib.hid (fun k (m : Sm) (hk : L.ms[k]? = some m) => show l.signs[k]? = some m.s by rw [hli]; exact Lm.getElem_signs hk)
  rw [← hli]
  clear hli
  unfold Nd.val Lm.val
  dsimp only
  obtain ⟨N, hN⟩ : ∃ N, N = L.ms.length := ⟨_, rfl⟩
  have HN := Lib.hid hN
  rw [← hN] at hlc hlen ⊢
  clear hN
  have HG1 := Lib.hid (show sign < 0 ∨ (N : Int) ≤ sign → glyphErr l ⟨kind, depth, sign, turn, mirror, state, mn, mx⟩ = 23 from fun h => by
    unfold glyphErr; rw [if_pos (by dsimp only; omega)])
  have HG2 := Lib.hid (show ¬ (sign < 0 ∨ (N : Int) ≤ sign) → turn < 0 ∨ 3 < turn ∨ state < 0 ∨ 3 < state → glyphErr l ⟨kind, depth, sign, turn, mirror, state, mn, mx⟩ = 20 from fun h h' => by
    unfold glyphErr; rw [if_neg (by dsimp only; omega), if_pos (by dsimp only; omega)])
  have HG3 := Lib.hid (show ¬ (sign < 0 ∨ (N : Int) ≤ sign) → ¬ (turn < 0 ∨ 3 < turn ∨ state < 0 ∨ 3 < state) → glyphErr l ⟨kind, depth, sign, turn, mirror, state, mn, mx⟩ = if mirror && (l.signs[sign.toNat]?.any (·.even)) then 20 else if mn = 0 ∧ mx = 0 then 0 else 20 from fun h h' => by
    unfold glyphErr; rw [if_neg (by dsimp only; omega), if_neg (by dsimp only; omega)])
  by_cases h1 : sign < 0
  · have HF := Lib.hid (show glyphErr l ⟨kind, depth, sign, turn, mirror, state, mn, mx⟩ = 23 by exact HG1.out (by omega))
    clear HG1 HG2 HG3
    go_enter Tryz.func153, Tryz.ntmps153
    go_wp2
    go_ret
    exact ⟨of_int HF.out.symm, two_under _ _ _⟩
  by_cases h2 : (N : Int) ≤ sign
  · have HF := Lib.hid (show glyphErr l ⟨kind, depth, sign, turn, mirror, state, mn, mx⟩ = 23 by exact HG1.out (by omega))
    clear HG1 HG2 HG3
    go_enter Tryz.func153, Tryz.ntmps153
    go_wp2
    go_ret
    exact ⟨of_int HF.out.symm, two_under _ _ _⟩
  by_cases h3 : turn < 0
  · have HF := Lib.hid (show glyphErr l ⟨kind, depth, sign, turn, mirror, state, mn, mx⟩ = 20 by exact HG2.out (by omega) (by omega))
    clear HG1 HG2 HG3
    go_enter Tryz.func153, Tryz.ntmps153
    go_wp2
    go_ret
    exact ⟨of_int HF.out.symm, two_under _ _ _⟩
  by_cases h4 : 3 < turn
  · have HF := Lib.hid (show glyphErr l ⟨kind, depth, sign, turn, mirror, state, mn, mx⟩ = 20 by exact HG2.out (by omega) (by omega))
    clear HG1 HG2 HG3
    go_enter Tryz.func153, Tryz.ntmps153
    go_wp2
    go_ret
    exact ⟨of_int HF.out.symm, two_under _ _ _⟩
  by_cases h5 : state < 0
  · have HF := Lib.hid (show glyphErr l ⟨kind, depth, sign, turn, mirror, state, mn, mx⟩ = 20 by exact HG2.out (by omega) (by omega))
    clear HG1 HG2 HG3
    go_enter Tryz.func153, Tryz.ntmps153
    go_wp2
    go_ret
    exact ⟨of_int HF.out.symm, two_under _ _ _⟩
  by_cases h6 : 3 < state
  · have HF := Lib.hid (show glyphErr l ⟨kind, depth, sign, turn, mirror, state, mn, mx⟩ = 20 by exact HG2.out (by omega) (by omega))
    clear HG1 HG2 HG3
    go_enter Tryz.func153, Tryz.ntmps153
    go_wp2
    go_ret
    exact ⟨of_int HF.out.symm, two_under _ _ _⟩
  obtain ⟨k, rfl⟩ : ∃ k : Nat, sign = k := ⟨sign.toNat, by omega⟩
  have hk : k < N := by omega
  have HG := Lib.hid (HG3.out (by omega) (by omega))
  clear HG1 HG2 HG3
  have hget : L.ms[k]? = some (L.ms[k]'(by have := HN.out; omega)) := List.getElem?_eq_getElem _
  obtain ⟨u, hu⟩ : ∃ u, u = L.ms[k]'(by have := HN.out; omega) := ⟨_, rfl⟩
  rw [← hu] at hget
  obtain ⟨b, o, hA, hb1, hva, -⟩ := hsg k u hget
  rw [hA]
  have hev : l.signs[(k : Int).toNat]?.any (·.even) = u.s.even := by rw [Int.toNat_natCast, HGS.out k u hget]; rfl
  rw [hev] at HG
  have y3 := hva.c3
  clear hu hget hva hA hsg HGS hev
  generalize hE : u.s.even = ev at HG y3
  clear hE
  cases mirror
  · clear y3
    by_cases h7 : mn = 0
    · by_cases h8 : mx = 0
      · have HF := Lib.hid (show glyphErr l ⟨kind, depth, k, turn, false, state, mn, mx⟩ = 0 by rw [HG.out]; simp [h7, h8])
        subst h7 h8
        clear HG
        go_enter Tryz.func153, Tryz.ntmps153
        go_wp2
        go_ret
        exact ⟨of_int HF.out.symm, two_under _ _ _⟩
      · have HF := Lib.hid (show glyphErr l ⟨kind, depth, k, turn, false, state, mn, mx⟩ = 20 by rw [HG.out]; simp [h7, h8])
        have h8b : (mx != 0) = true := by simpa using h8
        subst h7
        clear HG h8
        go_enter Tryz.func153, Tryz.ntmps153
        go_wp2
        go_ret
        exact ⟨of_int HF.out.symm, two_under _ _ _⟩
    · have HF := Lib.hid (show glyphErr l ⟨kind, depth, k, turn, false, state, mn, mx⟩ = 20 by rw [HG.out]; simp [h7])
      have h7b : (mn != 0) = true := by simpa using h7
      clear HG h7
      go_enter Tryz.func153, Tryz.ntmps153
      go_wp2
      go_ret
      exact ⟨of_int HF.out.symm, two_under _ _ _⟩
  cases ev
  · skip
    by_cases h7 : mn = 0
    · by_cases h8 : mx = 0
      · have HF := Lib.hid (show glyphErr l ⟨kind, depth, k, turn, true, state, mn, mx⟩ = 0 by rw [HG.out]; simp [h7, h8])
        subst h7 h8
        clear HG
        go_enter Tryz.func153, Tryz.ntmps153
        go_wp2
        go_ret
        exact ⟨of_int HF.out.symm, two_under _ _ _⟩
      · have HF := Lib.hid (show glyphErr l ⟨kind, depth, k, turn, true, state, mn, mx⟩ = 20 by rw [HG.out]; simp [h7, h8])
        have h8b : (mx != 0) = true := by simpa using h8
        subst h7
        clear HG h8
        go_enter Tryz.func153, Tryz.ntmps153
        go_wp2
        go_ret
        exact ⟨of_int HF.out.symm, two_under _ _ _⟩
    · have HF := Lib.hid (show glyphErr l ⟨kind, depth, k, turn, true, state, mn, mx⟩ = 20 by rw [HG.out]; simp [h7])
      have h7b : (mn != 0) = true := by simpa using h7
      clear HG h7
      go_enter Tryz.func153, Tryz.ntmps153
      go_wp2
      go_ret
      exact ⟨of_int HF.out.symm, two_under _ _ _⟩
  · have HF := Lib.hid (show glyphErr l ⟨kind, depth, k, turn, true, state, mn, mx⟩ = 20 by rw [HG.out]; simp)
    clear HG
    go_enter Tryz.func153, Tryz.ntmps153
    go_wp2
    go_ret
    exact ⟨of_int HF.out.symm, two_under _ _ _⟩
open Go.RowKit
def cmpR (x y : Int) : Int := if x < y then -1 else if y < x then 1 else 0
set_option maxHeartbeats 1600000 in
theorem isNaN_any (x : Int) (w : World) : Calls Tryz.prog 179 #[.int .i64 x] w fun e w' => e = .returned (.bool false) ∧ w = w' := by
  have hb : (x != x) = false := by simp
  go_enter Tryz.func179, Tryz.ntmps179
  go_wp2
  go_ret
  exact ⟨rfl, rfl⟩
set_option maxHeartbeats 1600000 in
theorem cmpi_any (x y : Int) (w : World) : Calls Tryz.prog 143 #[.int .i64 x, .int .i64 y] w fun e w' => e = .returned (.int .i64 (cmpR x y)) ∧ w = w' := by
  by_cases h1 : x < y
  · have HC := Lib.hid (show cmpR x y = -1 by unfold cmpR; rw [if_pos h1])
    rw [HC.out]
    go_enter Tryz.func143, Tryz.ntmps143
    go_wp2_with (first | (go_at_call 179; refine (isNaN_any _ _).mono ?_; rintro e w' ⟨rfl, rfl⟩))
    go_ret
    exact ⟨rfl, rfl⟩
  by_cases h2 : y < x
  · have HC := Lib.hid (show cmpR x y = 1 by unfold cmpR; rw [if_neg h1, if_pos h2])
    rw [HC.out]
    go_enter Tryz.func143, Tryz.ntmps143
    go_wp2_with (first | (go_at_call 179; refine (isNaN_any _ _).mono ?_; rintro e w' ⟨rfl, rfl⟩))
    go_ret
    exact ⟨rfl, rfl⟩
  · have HC := Lib.hid (show cmpR x y = 0 by unfold cmpR; rw [if_neg h1, if_neg h2])
    rw [HC.out]
    go_enter Tryz.func143, Tryz.ntmps143
    go_wp2_with (first | (go_at_call 179; refine (isNaN_any _ _).mono ?_; rintro e w' ⟨rfl, rfl⟩))
    go_ret
    exact ⟨rfl, rfl⟩
def smallI (x : Int) : Prop := -4000000000000000000 ≤ x ∧ x ≤ 4000000000000000000
theorem small_wrap {x : Int} (h : smallI x) : IntKind.i64.wrap x = x := IntWalk.i64_in _ (by unfold smallI at h; omega)
set_option maxHeartbeats 4000000 in
theorem compare_any (n d p q : Int) (w : World) (h1 : smallI (n * q)) (h2 : smallI (p * d)) :
    Calls Tryz.prog 99 #[.agg #[.int .i64 n, .int .i64 d], .agg #[.int .i64 p, .int .i64 q]] w fun e w' => e = .returned (.int .i64 (cmpR (n * q) (p * d))) ∧ Below w.heap.size w w' := by
  have HC := Lib.hid (fun wx => cmpi_any (n * q) (p * d) wx)
  have e1 := small_wrap h1
  have e2 := small_wrap h2
  obtain ⟨x, hx⟩ : ∃ x, x = n * q := ⟨_, rfl⟩
  obtain ⟨y, hy⟩ : ∃ y, y = p * d := ⟨_, rfl⟩
  rw [← hx] at HC e1
  rw [← hy] at HC e2
  rw [← hx, ← hy]
  rw [hx] at e1
  rw [hy] at e2
  rw [← hx] at e1
  rw [← hy] at e2
  have f1 : IntKind.i64.wrap (n * q) = x := by rw [← hx]; exact e1
  have f2 : IntKind.i64.wrap (p * d) = y := by rw [← hy]; exact e2
  clear hx hy h1 h2 e1 e2
  go_enter Tryz.func99, Tryz.ntmps99
  go_wp2_with (first | (go_at_call 143; refine (HC.out _).mono ?_; rintro e w' ⟨rfl, rfl⟩))
  go_ret
  exact ⟨rfl, two_under _ _ _⟩
set_option maxHeartbeats 4000000 in
theorem rless_any (n d p q : Int) (w : World) (h1 : smallI (n * q)) (h2 : smallI (p * d)) :
    Calls Tryz.prog 84 #[.agg #[.int .i64 n, .int .i64 d], .agg #[.int .i64 p, .int .i64 q]] w fun e w' => e = .returned (.bool (decide (n * q < p * d))) ∧ Below w.heap.size w w' := by
  have e1 := small_wrap h1
  have e2 := small_wrap h2
  obtain ⟨x, hx⟩ : ∃ x, x = n * q := ⟨_, rfl⟩
  obtain ⟨y, hy⟩ : ∃ y, y = p * d := ⟨_, rfl⟩
  rw [← hx, ← hy]
  have f1 : IntKind.i64.wrap (n * q) = x := by rw [hx]; exact e1
  have f2 : IntKind.i64.wrap (p * d) = y := by rw [hy]; exact e2
  clear hx hy h1 h2 e1 e2
  go_enter Tryz.func84, Tryz.ntmps84
  go_wp2
  go_ret
  exact ⟨rfl, two_under _ _ _⟩
open Go.RowKit
def GotFr (w : World) (f : Fr) (e : Ending) (w' : World) : Prop := e = .returned (.agg #[.int .i64 f.num, .int .i64 f.den]) ∧ Below w.heap.size w w'
set_option maxRecDepth 100000 in
set_option maxHeartbeats 4000000 in
theorem whole_any (n : Int) (w : World) : Calls Tryz.prog 101 #[.int .i64 n] w (GotFr w ⟨n, 1⟩) := by
  go_enter Tryz.func101, Tryz.ntmps101
  go_wp2
  exact bodyPost_ret (v := .agg #[.int .i64 n, .int .i64 1]) (by simp [results, Tryz.results101, go_sem]) rfl ⟨rfl, below_alloc _ _⟩
set_option maxRecDepth 100000 in
set_option maxHeartbeats 4000000 in
theorem negative_any (n d : Int) (w : World) (h : smallI n) : Calls Tryz.prog 147 #[.agg #[.int .i64 n, .int .i64 d]] w (GotFr w ⟨-n, d⟩) := by
  have e1 : IntKind.i64.wrap (-n) = -n := IntWalk.i64_in _ (by unfold smallI at h; omega)
  clear h
  go_enter Tryz.func147, Tryz.ntmps147
  go_wp2
  exact bodyPost_ret (v := .agg #[.int .i64 (-n), .int .i64 d]) (by simp [results, Tryz.results147, go_sem]) rfl ⟨rfl, (two_under _ _ _)⟩
set_option maxRecDepth 100000 in
set_option maxHeartbeats 4000000 in
theorem plus_any (n d p q : Int) (w : World) (h1 : smallI (n * q)) (h2 : smallI (p * d)) (h3 : smallI (n * q + p * d)) (h4 : 0 < d * q) (h5 : smallI (d * q)) :
    Calls Tryz.prog 109 #[.agg #[.int .i64 n, .int .i64 d], .agg #[.int .i64 p, .int .i64 q]] w (GotFr w (fracR (n * q + p * d) (d * q))) := by
  have HF := Lib.hid (fun wx => fraction_any (n * q + p * d) (d * q) wx h3 ⟨h4, h5.2⟩)
  have e1 := small_wrap h1
  have e2 := small_wrap h2
  have e3 := small_wrap h3
  have e4 := small_wrap h5
  obtain ⟨x, hx⟩ : ∃ x, x = n * q := ⟨_, rfl⟩
  obtain ⟨y, hy⟩ : ∃ y, y = p * d := ⟨_, rfl⟩
  obtain ⟨z, hz⟩ : ∃ z, z = x + y := ⟨_, rfl⟩
  obtain ⟨u, hu⟩ : ∃ u, u = d * q := ⟨_, rfl⟩
  have f1 : IntKind.i64.wrap (n * q) = x := by rw [hx]; exact e1
  have f2 : IntKind.i64.wrap (p * d) = y := by rw [hy]; exact e2
  have f3 : IntKind.i64.wrap (x + y) = z := by rw [hz, hx, hy]; exact e3
  have f4 : IntKind.i64.wrap (d * q) = u := by rw [hu]; exact e4
  rw [← hx, ← hy, ← hu, ← hz] at HF ⊢
  obtain ⟨F, hF⟩ : ∃ F, F = fracR z u := ⟨_, rfl⟩
  rw [← hF] at HF ⊢
  clear hx hy hz hu e1 e2 e3 e4 h1 h2 h3 h4 h5 hF
  obtain ⟨W, hW⟩ : ∃ W, W = ((w.alloc (.cells #[.int .i64 n, .int .i64 d] 40)).alloc (.cells #[.int .i64 p, .int .i64 q] 40)).alloc (.cells #[.int .i64 0, .int .i64 0] 40) := ⟨_, rfl⟩
  have HB := Lib.hid (show Below w.heap.size w W from hW ▸ (two_under _ _ _).alloc (by simp; omega) _)
  have D2 := Lib.hid (show W.heap[w.heap.size + 1 + 1]? = some (.cells #[.int .i64 0, .int .i64 0] 40 (0, 0)) by rw [hW]; have := heap_alloc_new ((w.alloc (.cells #[.int .i64 n, .int .i64 d] 40)).alloc (.cells #[.int .i64 p, .int .i64 q] 40)) (.cells #[.int .i64 0, .int .i64 0] 40); simpa using this)
  go_enter Tryz.func109, Tryz.ntmps109
  go_wp2_with fail
  rw [← hW]
  clear hW
  refine (HF.out _).mono ?_; rintro e wf ⟨rfl, hb⟩
  have HB1 := Lib.hid (below_more HB.out hb)
  have D2 := Lib.hid (blk_keep hb D2.out)
  have q0 := cell_of_blk D2.out 0
  have q1 := cell_of_blk D2.out 1
  have f0 := free_of_blk D2.out 0
  have f1 := free_of_blk D2.out 1
  have hs := (Array.getElem?_eq_some_iff.1 D2.out).1
  simp at q0 q1
  clear hb
  go_wp2
  exact bodyPost_ret (v := .agg #[.int .i64 F.num, .int .i64 F.den]) (by simp [results, Tryz.results109, go_sem, q0, q1]) rfl ⟨rfl, (HB1.out.setCell (by dsimp only; omega) _).setCell (by dsimp only; omega) _⟩
set_option maxRecDepth 100000 in
set_option maxHeartbeats 4000000 in
theorem times_any (n d k : Int) (w : World) (h1 : smallI (n * k)) (h2 : 0 < d ∧ d ≤ 4000000000000000000) :
    Calls Tryz.prog 110 #[.agg #[.int .i64 n, .int .i64 d], .int .i64 k] w (GotFr w (fracR (n * k) d)) := by
  have HF := Lib.hid (fun wx => fraction_any (n * k) d wx h1 h2)
  have e1 := small_wrap h1
  obtain ⟨x, hx⟩ : ∃ x, x = n * k := ⟨_, rfl⟩
  have f1 : IntKind.i64.wrap (n * k) = x := by rw [hx]; exact e1
  rw [← hx] at HF ⊢
  obtain ⟨F, hF⟩ : ∃ F, F = fracR x d := ⟨_, rfl⟩
  rw [← hF] at HF ⊢
  clear hx e1 h1 h2 hF
  obtain ⟨W, hW⟩ : ∃ W, W = (w.alloc (.cells #[.int .i64 n, .int .i64 d] 40)).alloc (.cells #[.int .i64 0, .int .i64 0] 40) := ⟨_, rfl⟩
  have HB := Lib.hid (show Below w.heap.size w W from hW ▸ two_under _ _ _)
  have D2 := Lib.hid (show W.heap[w.heap.size + 1]? = some (.cells #[.int .i64 0, .int .i64 0] 40 (0, 0)) by rw [hW]; have := heap_alloc_new (w.alloc (.cells #[.int .i64 n, .int .i64 d] 40)) (.cells #[.int .i64 0, .int .i64 0] 40); simpa using this)
  go_enter Tryz.func110, Tryz.ntmps110
  go_wp2_with fail
  rw [← hW]
  clear hW
  refine (HF.out _).mono ?_; rintro e wf ⟨rfl, hb⟩
  have HB1 := Lib.hid (below_more HB.out hb)
  have D2 := Lib.hid (blk_keep hb D2.out)
  have q0 := cell_of_blk D2.out 0
  have q1 := cell_of_blk D2.out 1
  have f0 := free_of_blk D2.out 0
  have f2 := free_of_blk D2.out 1
  have hs := (Array.getElem?_eq_some_iff.1 D2.out).1
  simp at q0 q1
  clear hb
  go_wp2
  exact bodyPost_ret (v := .agg #[.int .i64 F.num, .int .i64 F.den]) (by simp [results, Tryz.results110, go_sem, q0, q1]) rfl ⟨rfl, (HB1.out.setCell (by dsimp only; omega) _).setCell (by dsimp only; omega) _⟩
set_option maxRecDepth 100000 in
set_option maxHeartbeats 4000000 in
theorem quotient_any (n d k : Int) (w : World) (h1 : smallI n) (h2 : 0 < d * k) (h3 : smallI (d * k)) :
    Calls Tryz.prog 145 #[.agg #[.int .i64 n, .int .i64 d], .int .i64 k] w (GotFr w (fracR n (d * k))) := by
  have HF := Lib.hid (fun wx => fraction_any n (d * k) wx h1 ⟨h2, h3.2⟩)
  have e1 := small_wrap h3
  obtain ⟨x, hx⟩ : ∃ x, x = d * k := ⟨_, rfl⟩
  have f1 : IntKind.i64.wrap (d * k) = x := by rw [hx]; exact e1
  rw [← hx] at HF ⊢
  obtain ⟨F, hF⟩ : ∃ F, F = fracR n x := ⟨_, rfl⟩
  rw [← hF] at HF ⊢
  clear hx e1 h1 h2 h3 hF
  obtain ⟨W, hW⟩ : ∃ W, W = (w.alloc (.cells #[.int .i64 n, .int .i64 d] 40)).alloc (.cells #[.int .i64 0, .int .i64 0] 40) := ⟨_, rfl⟩
  have HB := Lib.hid (show Below w.heap.size w W from hW ▸ two_under _ _ _)
  have D2 := Lib.hid (show W.heap[w.heap.size + 1]? = some (.cells #[.int .i64 0, .int .i64 0] 40 (0, 0)) by rw [hW]; have := heap_alloc_new (w.alloc (.cells #[.int .i64 n, .int .i64 d] 40)) (.cells #[.int .i64 0, .int .i64 0] 40); simpa using this)
  go_enter Tryz.func145, Tryz.ntmps145
  go_wp2_with fail
  rw [← hW]
  clear hW
  refine (HF.out _).mono ?_; rintro e wf ⟨rfl, hb⟩
  have HB1 := Lib.hid (below_more HB.out hb)
  have D2 := Lib.hid (blk_keep hb D2.out)
  have q0 := cell_of_blk D2.out 0
  have q1 := cell_of_blk D2.out 1
  have f0 := free_of_blk D2.out 0
  have f2 := free_of_blk D2.out 1
  have hs := (Array.getElem?_eq_some_iff.1 D2.out).1
  simp at q0 q1
  clear hb
  go_wp2
  exact bodyPost_ret (v := .agg #[.int .i64 F.num, .int .i64 F.den]) (by simp [results, Tryz.results145, go_sem, q0, q1]) rfl ⟨rfl, (HB1.out.setCell (by dsimp only; omega) _).setCell (by dsimp only; omega) _⟩
def ceilR (n d : Int) : Int := (n + d - 1) / d
set_option maxRecDepth 100000 in
set_option maxHeartbeats 4000000 in
theorem ceiling_any (n d : Int) (w : World) (h1 : 0 ≤ n ∧ n ≤ 2000000000000000000) (h2 : 0 < d ∧ d ≤ 2000000000000000000) :
    Calls Tryz.prog 102 #[.agg #[.int .i64 n, .int .i64 d]] w fun e w' => e = .returned (.int .i64 (ceilR n d)) ∧ Below w.heap.size w w' := by
  obtain ⟨a1, a2⟩ := h1
  obtain ⟨b1, b2⟩ := h2
  have hq0 : 0 ≤ (n + d - 1) / d := Int.ediv_nonneg (by omega) (by omega)
  have hq1 : (n + d - 1) / d ≤ n + d - 1 := Int.ediv_le_self _ (by omega)
  have HC := Lib.hid (show ceilR n d = (n + d - 1) / d from rfl)
  have e1 : IntKind.i64.wrap (n + d) = n + d := IntWalk.i64_in _ (by omega)
  have e2 : IntKind.i64.wrap (n + d - 1) = n + d - 1 := IntWalk.i64_in _ (by omega)
  have e3 : IntKind.i64.wrap ((n + d - 1) / d) = (n + d - 1) / d := IntWalk.i64_in _ (by omega)
  have e4 : IntKind.i64.wrap ((n + d - 1).tdiv d) = (n + d - 1) / d := by rw [Int.tdiv_eq_ediv_of_nonneg (by omega)]; exact e3
  have hd0 : d ≠ 0 := by omega
  clear hq0 hq1
  go_enter Tryz.func102, Tryz.ntmps102
  go_wp2
  go_ret
  exact ⟨of_int (by rw [HC.out]), below_alloc _ _⟩
set_option maxRecDepth 100000 in
set_option maxHeartbeats 4000000 in
theorem minus_any (n d p q : Int) (w : World) (h0 : smallI p) (h1 : smallI (n * q)) (h2 : smallI (-p * d)) (h3 : smallI (n * q + -p * d)) (h4 : 0 < d * q) (h5 : smallI (d * q)) :
    Calls Tryz.prog 134 #[.agg #[.int .i64 n, .int .i64 d], .agg #[.int .i64 p, .int .i64 q]] w (GotFr w (fracR (n * q + -p * d) (d * q))) := by
  have HN := Lib.hid (fun wx => negative_any p q wx h0)
  have HP := Lib.hid (fun wx => plus_any n d (-p) q wx h1 h2 h3 h4 h5)
  obtain ⟨F, hF⟩ : ∃ F, F = fracR (n * q + -p * d) (d * q) := ⟨_, rfl⟩
  rw [← hF] at HP ⊢
  obtain ⟨pn, hpn⟩ : ∃ pn, pn = -p := ⟨_, rfl⟩
  rw [← hpn] at HP HN
  clear hF hpn h0 h1 h2 h3 h4 h5
  obtain ⟨W, hW⟩ : ∃ W, W = ((w.alloc (.cells #[.int .i64 n, .int .i64 d] 40)).alloc (.cells #[.int .i64 p, .int .i64 q] 40)).alloc (.cells #[.int .i64 0, .int .i64 0] 40) := ⟨_, rfl⟩
  have HB := Lib.hid (show Below w.heap.size w W from hW ▸ (two_under _ _ _).alloc (by simp; omega) _)
  have D0 := Lib.hid (show W.heap[w.heap.size]? = some (.cells #[.int .i64 n, .int .i64 d] 40 (0, 0)) by rw [hW, heap_alloc_other _ _ _ (by simp; omega), heap_alloc_other _ _ _ (by simp)]; exact heap_alloc_new _ _)
  have D1 := Lib.hid (show W.heap[w.heap.size + 1]? = some (.cells #[.int .i64 p, .int .i64 q] 40 (0, 0)) by rw [hW, heap_alloc_other _ _ _ (by simp)]; have := heap_alloc_new (w.alloc (.cells #[.int .i64 n, .int .i64 d] 40)) (.cells #[.int .i64 p, .int .i64 q] 40); simpa using this)
  have D2 := Lib.hid (show W.heap[w.heap.size + 1 + 1]? = some (.cells #[.int .i64 0, .int .i64 0] 40 (0, 0)) by rw [hW]; have := heap_alloc_new ((w.alloc (.cells #[.int .i64 n, .int .i64 d] 40)).alloc (.cells #[.int .i64 p, .int .i64 q] 40)) (.cells #[.int .i64 0, .int .i64 0] 40); simpa using this)
  have x0 := cell_of_blk D0.out 0
  have x1 := cell_of_blk D0.out 1
  have y0 := cell_of_blk D1.out 0
  have y1 := cell_of_blk D1.out 1
  have hx := (Array.getElem?_eq_some_iff.1 D0.out).1
  have hy := (Array.getElem?_eq_some_iff.1 D1.out).1
  simp at x0 x1 y0 y1
  have HDR := Lib.hid (show Below W.heap.size W W.drew from (Below.refl _ _).drew)
  go_enter Tryz.func134, Tryz.ntmps134
  go_wp2_with fail
  rw [← hW]
  clear hW
  go_region_with (first
      | (go_at_call 147; refine (HN.out _).mono ?_; rintro e wn ⟨rfl, hbn⟩; have HB1 := Lib.hid (below_more HDR.out hbn); have x0 := cell_of_blk (blk_keep HB1.out D0.out) 0; have x1 := cell_of_blk (blk_keep HB1.out D0.out) 1; simp at x0 x1; clear hbn)
      | (go_at_call 109; refine (HP.out _).mono ?_; rintro e wf ⟨rfl, hbf⟩; have HB2 := Lib.hid (below_more HB1.out hbf); have D3 := Lib.hid (blk_keep HB2.out D2.out); have q0 := cell_of_blk D3.out 0; have q1 := cell_of_blk D3.out 1; have f0 := free_of_blk D3.out 0; have f1 := free_of_blk D3.out 1; have hs := (Array.getElem?_eq_some_iff.1 D3.out).1; simp at q0 q1; clear hbf))
  all_goals go_wp2
  all_goals exact bodyPost_ret (v := .agg #[.int .i64 F.num, .int .i64 F.den]) (by simp [results, Tryz.results134, go_sem, *]) rfl ⟨rfl, (((below_more HB.out HB2.out)).setCell (by dsimp only; omega) _).setCell (by dsimp only; omega) _⟩
open Go.RowKit
def GotAxis (a b : Nat) (w : World) (e : Ending) (w' : World) : Prop := ∃ p, e = .returned (.agg #[.func (.func a) #[] #[], .func (.func b) #[] #[], .func (.func 172) #[] #[.pointer (some ⟨p, 0, none⟩)]]) ∧ w.heap.size ≤ p ∧ w'.heap[p]? = some (.cells #[.func (.func a) #[] #[]] 97 (0, 0)) ∧ Below w.heap.size w w'
set_option maxRecDepth 100000 in
set_option maxHeartbeats 4000000 in
theorem newAxis_any (a b : Nat) (w : World) : Calls Tryz.prog 130 #[.func (.func a) #[] #[], .func (.func b) #[] #[]] w (GotAxis a b w) := by
  go_enter Tryz.func130, Tryz.ntmps130
  go_wp2
  refine bodyPost_ret (v := .agg #[.func (.func a) #[] #[], .func (.func b) #[] #[], .func (.func 172) #[] #[.pointer (some ⟨w.heap.size, 0, none⟩)]]) (by simp [results, Tryz.results130, go_sem]) rfl ⟨w.heap.size, rfl, Nat.le_refl _, ?_, two_under _ _ _⟩
  rw [heap_alloc_other _ _ _ (by simp)]
  exact heap_alloc_new _ _
set_option maxRecDepth 100000 in
set_option maxHeartbeats 4000000 in
theorem sideways_any (w : World) : Calls Tryz.prog 78 #[] w (GotAxis 131 132 w) := by
  have HN := Lib.hid (fun wx => newAxis_any 131 132 wx)
  obtain ⟨W, hW⟩ : ∃ W, W = w.alloc (.cells #[.nilFunc, .nilFunc, .nilFunc] 100) := ⟨_, rfl⟩
  have HB := Lib.hid (show Below w.heap.size w W from hW ▸ below_alloc _ _)
  have hsw : W.heap.size = w.heap.size + 1 := by rw [hW]; simp
  have HSW := Lib.hid hsw
  have D := Lib.hid (show W.heap[w.heap.size]? = some (.cells #[.nilFunc, .nilFunc, .nilFunc] 100 (0, 0)) by rw [hW]; exact heap_alloc_new _ _)
  clear hsw
  go_enter Tryz.func78, Tryz.ntmps78
  go_wp2_with fail
  rw [← hW]
  clear hW
  refine (HN.out _).mono ?_; rintro e wf ⟨p, rfl, hp, hpb, hb⟩
  have HB1 := Lib.hid (below_more HB.out hb)
  have D := Lib.hid (blk_keep hb D.out)
  have q0 := cell_of_blk D.out 0
  have q1 := cell_of_blk D.out 1
  have q2 := cell_of_blk D.out 2
  have f0 := free_of_blk D.out 0
  have f1 := free_of_blk D.out 1
  have f2 := free_of_blk D.out 2
  have hs := (Array.getElem?_eq_some_iff.1 D.out).1
  simp at q0 q1 q2
  have HP := Lib.hid hpb
  have HPW := Lib.hid hp
  clear hb hp hpb
  go_wp2
  refine bodyPost_ret (v := .agg #[.func (.func 131) #[] #[], .func (.func 132) #[] #[], .func (.func 172) #[] #[.pointer (some ⟨p, 0, none⟩)]]) (by simp [results, Tryz.results78, go_sem, q0, q1, q2]) rfl ⟨p, rfl, by have := HPW.out; have := HSW.out; omega, ?_, ((HB1.out.setCell (by dsimp only; omega) _).setCell (by dsimp only; omega) _).setCell (by dsimp only; omega) _⟩
  have hne : p ≠ w.heap.size := by have := HPW.out; have := HSW.out; omega
  rw [heap_setCell_other _ _ _ _ hne, heap_setCell_other _ _ _ _ hne, heap_setCell_other _ _ _ _ hne]
  exact HP.out
set_option maxRecDepth 100000 in
set_option maxHeartbeats 4000000 in
theorem downwards_any (w : World) : Calls Tryz.prog 80 #[] w (GotAxis 135 136 w) := by
  have HN := Lib.hid (fun wx => newAxis_any 135 136 wx)
  obtain ⟨W, hW⟩ : ∃ W, W = w.alloc (.cells #[.nilFunc, .nilFunc, .nilFunc] 100) := ⟨_, rfl⟩
  have HB := Lib.hid (show Below w.heap.size w W from hW ▸ below_alloc _ _)
  have hsw : W.heap.size = w.heap.size + 1 := by rw [hW]; simp
  have HSW := Lib.hid hsw
  have D := Lib.hid (show W.heap[w.heap.size]? = some (.cells #[.nilFunc, .nilFunc, .nilFunc] 100 (0, 0)) by rw [hW]; exact heap_alloc_new _ _)
  clear hsw
  go_enter Tryz.func80, Tryz.ntmps80
  go_wp2_with fail
  rw [← hW]
  clear hW
  refine (HN.out _).mono ?_; rintro e wf ⟨p, rfl, hp, hpb, hb⟩
  have HB1 := Lib.hid (below_more HB.out hb)
  have D := Lib.hid (blk_keep hb D.out)
  have q0 := cell_of_blk D.out 0
  have q1 := cell_of_blk D.out 1
  have q2 := cell_of_blk D.out 2
  have f0 := free_of_blk D.out 0
  have f1 := free_of_blk D.out 1
  have f2 := free_of_blk D.out 2
  have hs := (Array.getElem?_eq_some_iff.1 D.out).1
  simp at q0 q1 q2
  have HP := Lib.hid hpb
  have HPW := Lib.hid hp
  clear hb hp hpb
  go_wp2
  refine bodyPost_ret (v := .agg #[.func (.func 135) #[] #[], .func (.func 136) #[] #[], .func (.func 172) #[] #[.pointer (some ⟨p, 0, none⟩)]]) (by simp [results, Tryz.results80, go_sem, q0, q1, q2]) rfl ⟨p, rfl, by have := HPW.out; have := HSW.out; omega, ?_, ((HB1.out.setCell (by dsimp only; omega) _).setCell (by dsimp only; omega) _).setCell (by dsimp only; omega) _⟩
  have hne : p ≠ w.heap.size := by have := HPW.out; have := HSW.out; omega
  rw [heap_setCell_other _ _ _ _ hne, heap_setCell_other _ _ _ _ hne, heap_setCell_other _ _ _ _ hne]
  exact HP.out
def GotWay (c m : Bool) (a1 a2 b1 b2 : Nat) (w : World) (e : Ending) (w' : World) : Prop := ∃ p q, e = .returned (.agg #[.bool c, .bool m, .func (.func a1) #[] #[], .func (.func a2) #[] #[], .func (.func 172) #[] #[.pointer (some ⟨p, 0, none⟩)], .func (.func b1) #[] #[], .func (.func b2) #[] #[], .func (.func 172) #[] #[.pointer (some ⟨q, 0, none⟩)]]) ∧ w'.heap[p]? = some (.cells #[.func (.func a1) #[] #[]] 97 (0, 0)) ∧ w'.heap[q]? = some (.cells #[.func (.func b1) #[] #[]] 97 (0, 0)) ∧ Below w.heap.size w w'
def wayZ : Array Value := #[.bool false, .bool false, .nilFunc, .nilFunc, .nilFunc, .nilFunc, .nilFunc, .nilFunc]
set_option maxRecDepth 100000 in
set_option maxHeartbeats 8000000 in
theorem wayRow_any (w : World) : Calls Tryz.prog 64 #[.int .i64 1] w (GotWay false false 131 132 135 136 w) := by
  obtain ⟨W, hW⟩ : ∃ W, W = w.alloc (.cells wayZ 102) := ⟨_, rfl⟩
  have HB := Lib.hid (show Below w.heap.size w W from hW ▸ below_alloc _ _)
  have D := Lib.hid (show W.heap[w.heap.size]? = some (.cells wayZ 102 (0, 0)) by rw [hW]; exact heap_alloc_new _ _)
  have HSW := Lib.hid (show W.heap.size = w.heap.size + 1 by rw [hW]; simp)
  unfold wayZ at hW
  go_enter Tryz.func64, Tryz.ntmps64
  go_wp2_with fail
  rw [← hW]
  clear hW
  refine (sideways_any _).mono ?_; rintro e w1 ⟨p, rfl, hp, hpb, hb⟩
  have HB1 := Lib.hid (below_more HB.out hb)
  have D := Lib.hid (blk_keep hb D.out)
  have HP := Lib.hid hpb
  have HPS := Lib.hid (show w.heap.size < p by have := HSW.out; omega)
  clear hb hp hpb
  go_wp2_with fail
  refine (downwards_any _).mono ?_; rintro e w2 ⟨q, rfl, hq, hqb, hb⟩
  have HB2 := Lib.hid (below_more HB1.out hb)
  have D := Lib.hid (blk_keep hb D.out)
  have HP0 := Lib.hid HP.out
  have HP := Lib.hid (blk_keep hb HP.out)
  have HQ := Lib.hid hqb
  have HQS := Lib.hid (show w.heap.size < q by have := HB1.out.size; have := HPS.out; have := (Array.getElem?_eq_some_iff.1 HP0.out).1; omega)
  clear hb hq hqb
  have q0 := cell_of_blk D.out 0
  have f0 := free_of_blk D.out 0
  have q1 := cell_of_blk D.out 1
  have f1 := free_of_blk D.out 1
  have q2 := cell_of_blk D.out 2
  have f2 := free_of_blk D.out 2
  have q3 := cell_of_blk D.out 3
  have f3 := free_of_blk D.out 3
  have q4 := cell_of_blk D.out 4
  have f4 := free_of_blk D.out 4
  have q5 := cell_of_blk D.out 5
  have f5 := free_of_blk D.out 5
  have q6 := cell_of_blk D.out 6
  have f6 := free_of_blk D.out 6
  have q7 := cell_of_blk D.out 7
  have f7 := free_of_blk D.out 7
  have hs := (Array.getElem?_eq_some_iff.1 D.out).1
  simp [wayZ] at q0 q1 q2 q3 q4 q5 q6 q7
  go_wp2_with fail
  refine bodyPost_ret (v := .agg #[.bool false, .bool false, .func (.func 131) #[] #[], .func (.func 132) #[] #[], .func (.func 172) #[] #[.pointer (some ⟨p, 0, none⟩)], .func (.func 135) #[] #[], .func (.func 136) #[] #[], .func (.func 172) #[] #[.pointer (some ⟨q, 0, none⟩)]]) (by simp [results, Tryz.results64, go_sem, hs, q0, q1, q2, q3, q4, q5, q6, q7]) rfl ⟨p, q, rfl, ?_, ?_, ?_⟩
  · have h1 := (Array.getElem?_eq_some_iff.1 HP.out).1
    have hne : p ≠ w.heap.size := by have := HPS.out; omega
    clear q0 q1 q2 q3 q4 q5 q6 q7 f0 f1 f2 f3 f4 f5 f6 f7
    rw [heap_alloc_other _ _ _ (by simp; omega)]
    repeat rw [heap_setCell_other _ _ _ _ hne]
    exact HP.out
  · have h1 := (Array.getElem?_eq_some_iff.1 HQ.out).1
    have hne : q ≠ w.heap.size := by have := HQS.out; omega
    clear q0 q1 q2 q3 q4 q5 q6 q7 f0 f1 f2 f3 f4 f5 f6 f7
    rw [heap_alloc_other _ _ _ (by simp; omega)]
    repeat rw [heap_setCell_other _ _ _ _ hne]
    exact HQ.out
  · have h1 := HB2.out.size
    clear q0 q1 q2 q3 q4 q5 q6 q7 f0 f1 f2 f3 f4 f5 f6 f7
    refine Below.alloc ?_ (by simp; omega) _
    iterate 8 (refine Below.setCell ?_ (by dsimp only; omega) _)
    exact HB2.out
open Go.RowKit
def hasB (n : Nat) (i : Int) : Bool := decide (0 ≤ i) && decide (i < n)
theorem has_any (l : Lm) (i : Int) (w : World) (hl : LmOk w l) : Calls Tryz.prog 193 #[l.val, .int .i64 i] w fun e w' => e = .returned (.bool (hasB l.ms.length i)) ∧ Below w.heap.size w w' := by
  obtain ⟨per, ms, A, cap⟩ := l
  have hlen := hl.len
  have hcap := hl.cap
  unfold maxLen at hcap
  unfold Lm.val
  dsimp only at hlen hcap ⊢
  generalize ms.length = n at hlen ⊢
  by_cases h1 : 0 ≤ i
  · have hf := Lib.hid (show hasB n i = decide (i < n) by simp [hasB, h1])
    go_enter Tryz.func193, Tryz.ntmps193
    go_wp2
    go_ret
    exact ⟨of_bool hf.out.symm, below_alloc _ _⟩
  · have hf := Lib.hid (show hasB n i = false by simp [hasB]; omega)
    go_enter Tryz.func193, Tryz.ntmps193
    go_wp2
    go_ret
    exact ⟨of_bool hf.out.symm, below_alloc _ _⟩
theorem has_at {l : Lm} {i : Int} (h : hasB l.signs.length i = true) : ∃ (k : Nat) (u : Sm), i = k ∧ k < l.ms.length ∧ l.ms[k]? = some u := by
  rw [Lm.length_signs] at h
  simp [hasB] at h
  obtain ⟨k, rfl⟩ : ∃ k : Nat, i = k := ⟨i.toNat, by omega⟩
  have hk : k < l.ms.length := by omega
  exact ⟨k, l.ms[k], rfl, hk, List.getElem?_eq_getElem hk⟩
theorem has_is (l : Lm) (i : Int) (w : World) (hl : LmOk w l) (r : Bool) (h : hasB l.ms.length i = r) : Calls Tryz.prog 193 #[l.val, .int .i64 i] w fun e w' => e = .returned (.bool r) ∧ Below w.heap.size w w' := by
  rw [← h]; exact has_any l i w hl
def whOf (l : Li) (i : Int) : Int × Int := match l.signs[i.toNat]? with
  | some s => (s.wide, s.high)
  | none => (0, 0)
def sizeR (l : Li) (i t : Int) : Int × Int × Int :=
  if checkErr l ≠ 0 then (0, 0, checkErr l) else if hasB l.signs.length i = false ∨ t < 0 ∨ 3 < t then (0, 0, 1) else if t = 1 ∨ t = 3 then ((whOf l i).2, (whOf l i).1, 0) else ((whOf l i).1, (whOf l i).2, 0)
def GotSize (w : World) (q : Int × Int × Int) (e : Ending) (w' : World) : Prop := e = .returned (.tuple #[.int .i64 q.1, .int .i64 q.2.1, .int .i64 q.2.2]) ∧ Below w.heap.size w w'
set_option maxHeartbeats 1600000 in
theorem size_any (l : Lm) (i t : Int) (w : World) (hl : LmOk w l) :
    Calls Tryz.prog 178 #[l.val, .int .i64 i, .int .i64 t] w (GotSize w (sizeR l.li i t)) := by
  have H0 := Lib.hid (show LmOk (w.alloc (.cells #[.int .i64 l.per, .slice l.A l.ms.length l.cap] 24)) l from hl.below (below_alloc _ _))
  have C0 := Lib.hid (heap_alloc_new w (.cells #[.int .i64 l.per, .slice l.A l.ms.length l.cap] 24))
  have HCK := Lib.hid (fun (w : World) (hl : LmOk w l) (r : Int) (h : checkErr l.li = r) => show Calls Tryz.prog 67 #[.agg #[.int .i64 l.per, .slice l.A l.ms.length l.cap]] w (fun e w' => e = .returned (.int .i64 r) ∧ Below w.heap.size w w') by rw [← h]; exact check_any l w hl)
  have HH := Lib.hid (fun (w : World) (hl : LmOk w l) (i : Int) (r : Bool) (h : hasB l.ms.length i = r) => show Calls Tryz.prog 193 #[.agg #[.int .i64 l.per, .slice l.A l.ms.length l.cap], .int .i64 i] w (fun e w' => e = .returned (.bool r) ∧ Below w.heap.size w w') from has_is l i w hl r h)
  have hll : l.li.signs.length = l.ms.length := l.length_signs
  have HG := Lib.hid (show ∀ i t, sizeR l.li i t = if checkErr l.li ≠ 0 then (0, 0, checkErr l.li) else if hasB l.ms.length i = false ∨ t < 0 ∨ 3 < t then (0, 0, 1) else if t = 1 ∨ t = 3 then ((whOf l.li i).2, (whOf l.li i).1, 0) else ((whOf l.li i).1, (whOf l.li i).2, 0) from fun i t => by
    unfold sizeR; rw [hll])
  clear hll
  show Calls _ _ #[.agg #[.int .i64 l.per, .slice l.A l.ms.length l.cap], .int .i64 i, .int .i64 t] w _
  obtain ⟨E, hE⟩ : ∃ E, E = checkErr l.li := ⟨_, rfl⟩
  have HE := Lib.hid hE.symm
  by_cases h0 : E = 0
  case neg =>
    have hb : (E != 0) = true := by simpa using h0
    have HF := Lib.hid (show sizeR l.li i t = (0, 0, E) by rw [HG.out, HE.out, if_pos h0])
    clear hE h0
    go_enter Tryz.func178, Tryz.ntmps178
    go_wp2_with fail
    refine (HCK.out _ H0.out E HE.out).mono ?_; rintro e w1 ⟨rfl, hb1⟩
    go_wp2
    refine bodyPost_ret (v := .tuple #[.int .i64 0, .int .i64 0, .int .i64 E]) (by simp [results, Tryz.results178, go_sem]) rfl ?_
    rw [HF.out]
    exact ⟨rfl, below_of hb1⟩
  subst h0
  clear hE
  have HG1 := Lib.hid (show ∀ i t, sizeR l.li i t = if hasB l.ms.length i = false ∨ t < 0 ∨ 3 < t then (0, 0, 1) else if t = 1 ∨ t = 3 then ((whOf l.li i).2, (whOf l.li i).1, 0) else ((whOf l.li i).1, (whOf l.li i).2, 0) from fun i t => by rw [HG.out, HE.out]; rfl)
  obtain ⟨B, hB⟩ : ∃ B, hasB l.ms.length i = B := ⟨_, rfl⟩
  have HBB := Lib.hid hB
  by_cases hbad : B = false ∨ t < 0 ∨ 3 < t
  · have HF := Lib.hid (show sizeR l.li i t = (0, 0, 1) by rw [HG1.out, hB, if_pos hbad])
    have H2 := Lib.hid (fun w1 (hb : Below (w.alloc (.cells #[.int .i64 l.per, .slice l.A l.ms.length l.cap] 24)).heap.size (w.alloc (.cells #[.int .i64 l.per, .slice l.A l.ms.length l.cap] 24)) w1) => H0.out.below hb)
    clear hB
    by_cases hBf : B = false
    · subst hBf
      clear hbad
      go_enter Tryz.func178, Tryz.ntmps178
      go_wp2_with fail
      refine (HCK.out _ H0.out 0 HE.out).mono ?_; rintro e w1 ⟨rfl, hb1⟩
      have x0 := cell_of_blk (blk_keep hb1 C0.out) 0
      have x1 := cell_of_blk (blk_keep hb1 C0.out) 1
      simp at x0 x1
      have L1 := Lib.hid (H0.out.below hb1)
      have b1 := Lib.hid (below_of hb1)
      clear hb1
      go_wp2_with fail
      refine (HH.out _ L1.out i false HBB.out).mono ?_; rintro e w2 ⟨rfl, hb2⟩
      go_wp2
      refine bodyPost_ret (v := .tuple #[.int .i64 0, .int .i64 0, .int .i64 1]) (by simp [results, Tryz.results178, go_sem]) rfl ?_
      rw [HF.out]
      exact ⟨rfl, below_more b1.out hb2⟩
    · have hBf : B = true := by simpa using hBf
      subst hBf
      by_cases ht : t < 0
      · clear hbad
        go_enter Tryz.func178, Tryz.ntmps178
        go_wp2_with fail
        refine (HCK.out _ H0.out 0 HE.out).mono ?_; rintro e w1 ⟨rfl, hb1⟩
        have x0 := cell_of_blk (blk_keep hb1 C0.out) 0
        have x1 := cell_of_blk (blk_keep hb1 C0.out) 1
        simp at x0 x1
        have L1 := Lib.hid (H0.out.below hb1)
        have b1 := Lib.hid (below_of hb1)
        clear hb1
        go_wp2_with fail
        refine (HH.out _ L1.out i true HBB.out).mono ?_; rintro e w2 ⟨rfl, hb2⟩
        go_wp2
        refine bodyPost_ret (v := .tuple #[.int .i64 0, .int .i64 0, .int .i64 1]) (by simp [results, Tryz.results178, go_sem]) rfl ?_
        rw [HF.out]
        exact ⟨rfl, below_more b1.out hb2⟩
      · have ht3 : 3 < t := by rcases hbad with h | h | h; · cases h
                               · exact absurd h ht
                               · exact h
        clear hbad
        go_enter Tryz.func178, Tryz.ntmps178
        go_wp2_with fail
        refine (HCK.out _ H0.out 0 HE.out).mono ?_; rintro e w1 ⟨rfl, hb1⟩
        have x0 := cell_of_blk (blk_keep hb1 C0.out) 0
        have x1 := cell_of_blk (blk_keep hb1 C0.out) 1
        simp at x0 x1
        have L1 := Lib.hid (H0.out.below hb1)
        have b1 := Lib.hid (below_of hb1)
        clear hb1
        go_wp2_with fail
        refine (HH.out _ L1.out i true HBB.out).mono ?_; rintro e w2 ⟨rfl, hb2⟩
        go_wp2
        refine bodyPost_ret (v := .tuple #[.int .i64 0, .int .i64 0, .int .i64 1]) (by simp [results, Tryz.results178, go_sem]) rfl ?_
        rw [HF.out]
        exact ⟨rfl, below_more b1.out hb2⟩
  have ht : t = 0 ∨ t = 1 ∨ t = 2 ∨ t = 3 := by omega
  have hBt : B = true := by cases B <;> simp_all
  subst hBt
  obtain ⟨k, u, rfl, hk, hget⟩ := has_at (l := l) (i := i) (by rw [Lm.length_signs]; exact hB)
  have HW := Lib.hid (show whOf l.li k = (u.s.wide, u.s.high) by
    unfold whOf
    rw [show l.li.signs[(k : Int).toNat]? = some u.s by rw [Int.toNat_natCast]; exact Lm.getElem_signs hget])
  obtain ⟨b, o, hA, hb0, hva, hok⟩ := hl.signs k u hget
  have HVA := Lib.hid hva
  have hlen := hl.len
  have hcap := hl.cap
  have hcap' := hcap
  unfold maxLen at hcap'
  clear hget hva hok hl hbad hB
  obtain ⟨per, ms, A, cap⟩ := l
  dsimp only at hA hk hlen hcap H0 C0 HE HBB HG1 HW HCK HH hcap' ⊢
  subst hA
  generalize hnn : ms.length = n at *
  clear hnn
  clear HG
  have HG2 := Lib.hid (show ∀ t, ¬ (t < 0 ∨ 3 < t) → sizeR (Lm.mk per ms (some ⟨b, o, none⟩) cap).li k t = if t = 1 ∨ t = 3 then (u.s.high, u.s.wide, 0) else (u.s.wide, u.s.high, 0) from fun t ht => by
    rw [HG1.out, if_neg (by rw [HBB.out]; simpa using ht), HW.out])
  clear HG1
  rcases ht with rfl | rfl | rfl | rfl
  · have HF := Lib.hid (show sizeR (Lm.mk per ms (some ⟨b, o, none⟩) cap).li k 0 = (u.s.wide, u.s.high, 0) by rw [HG2.out _ (by decide)]; simp)
    go_enter Tryz.func178, Tryz.ntmps178
    go_wp2_with fail
    refine (HCK.out _ H0.out 0 HE.out).mono ?_; rintro e w1 ⟨rfl, hb1⟩
    have x0 := cell_of_blk (blk_keep hb1 C0.out) 0
    have x1 := cell_of_blk (blk_keep hb1 C0.out) 1
    simp at x0 x1
    have L1 := Lib.hid (H0.out.below hb1)
    have C1 := Lib.hid (blk_keep hb1 C0.out)
    have b1 := Lib.hid (below_of hb1)
    clear hb1
    go_wp2_with fail
    refine (HH.out _ L1.out k true HBB.out).mono ?_; rintro e w2 ⟨rfl, hb2⟩
    have z0 := cell_of_blk (blk_keep hb2 C1.out) 0
    have z1 := cell_of_blk (blk_keep hb2 C1.out) 1
    simp at z0 z1
    have b2 := Lib.hid (below_more b1.out hb2)
    obtain ⟨y0, y1, y2, y3, y4⟩ := HVA.out.below b2.out hb0
    have hb0' : b < w2.heap.size := by have := b2.out.size; omega
    clear hb2 x0 x1
    go_wp2_with fail
    refine wp_region_later (by kernel_rfl) (by kernel_rfl) ?_; (repeat (first | go_big_quiet_step (fail) | quiet_step (fail))); refine wpQuiet_nil ?_; rintro _ ⟨s, rfl⟩
    go_wp2
    refine bodyPost_ret (v := .tuple #[.int .i64 u.s.wide, .int .i64 u.s.high, .int .i64 0]) (by simp [results, Tryz.results178, go_sem]) rfl ?_
    rw [HF.out]
    exact ⟨rfl, below_more b2.out (below1 s)⟩
  · have HF := Lib.hid (show sizeR (Lm.mk per ms (some ⟨b, o, none⟩) cap).li k 1 = (u.s.high, u.s.wide, 0) by rw [HG2.out _ (by decide)]; simp)
    go_enter Tryz.func178, Tryz.ntmps178
    go_wp2_with fail
    refine (HCK.out _ H0.out 0 HE.out).mono ?_; rintro e w1 ⟨rfl, hb1⟩
    have x0 := cell_of_blk (blk_keep hb1 C0.out) 0
    have x1 := cell_of_blk (blk_keep hb1 C0.out) 1
    simp at x0 x1
    have L1 := Lib.hid (H0.out.below hb1)
    have C1 := Lib.hid (blk_keep hb1 C0.out)
    have b1 := Lib.hid (below_of hb1)
    clear hb1
    go_wp2_with fail
    refine (HH.out _ L1.out k true HBB.out).mono ?_; rintro e w2 ⟨rfl, hb2⟩
    have z0 := cell_of_blk (blk_keep hb2 C1.out) 0
    have z1 := cell_of_blk (blk_keep hb2 C1.out) 1
    simp at z0 z1
    have b2 := Lib.hid (below_more b1.out hb2)
    obtain ⟨y0, y1, y2, y3, y4⟩ := HVA.out.below b2.out hb0
    have hb0' : b < w2.heap.size := by have := b2.out.size; omega
    clear hb2 x0 x1
    go_wp2_with fail
    refine wp_region_later (by kernel_rfl) (by kernel_rfl) ?_; (repeat (first | go_big_quiet_step (fail) | quiet_step (fail))); refine wpQuiet_nil ?_; rintro _ ⟨s, rfl⟩
    go_wp2
    refine bodyPost_ret (v := .tuple #[.int .i64 u.s.high, .int .i64 u.s.wide, .int .i64 0]) (by simp [results, Tryz.results178, go_sem]) rfl ?_
    rw [HF.out]
    exact ⟨rfl, below_more b2.out (below1 s)⟩
  · have HF := Lib.hid (show sizeR (Lm.mk per ms (some ⟨b, o, none⟩) cap).li k 2 = (u.s.wide, u.s.high, 0) by rw [HG2.out _ (by decide)]; simp)
    go_enter Tryz.func178, Tryz.ntmps178
    go_wp2_with fail
    refine (HCK.out _ H0.out 0 HE.out).mono ?_; rintro e w1 ⟨rfl, hb1⟩
    have x0 := cell_of_blk (blk_keep hb1 C0.out) 0
    have x1 := cell_of_blk (blk_keep hb1 C0.out) 1
    simp at x0 x1
    have L1 := Lib.hid (H0.out.below hb1)
    have C1 := Lib.hid (blk_keep hb1 C0.out)
    have b1 := Lib.hid (below_of hb1)
    clear hb1
    go_wp2_with fail
    refine (HH.out _ L1.out k true HBB.out).mono ?_; rintro e w2 ⟨rfl, hb2⟩
    have z0 := cell_of_blk (blk_keep hb2 C1.out) 0
    have z1 := cell_of_blk (blk_keep hb2 C1.out) 1
    simp at z0 z1
    have b2 := Lib.hid (below_more b1.out hb2)
    obtain ⟨y0, y1, y2, y3, y4⟩ := HVA.out.below b2.out hb0
    have hb0' : b < w2.heap.size := by have := b2.out.size; omega
    clear hb2 x0 x1
    go_wp2_with fail
    refine wp_region_later (by kernel_rfl) (by kernel_rfl) ?_; (repeat (first | go_big_quiet_step (fail) | quiet_step (fail))); refine wpQuiet_nil ?_; rintro _ ⟨s, rfl⟩
    go_wp2
    refine bodyPost_ret (v := .tuple #[.int .i64 u.s.wide, .int .i64 u.s.high, .int .i64 0]) (by simp [results, Tryz.results178, go_sem]) rfl ?_
    rw [HF.out]
    exact ⟨rfl, below_more b2.out (below1 s)⟩
  · have HF := Lib.hid (show sizeR (Lm.mk per ms (some ⟨b, o, none⟩) cap).li k 3 = (u.s.high, u.s.wide, 0) by rw [HG2.out _ (by decide)]; simp)
    go_enter Tryz.func178, Tryz.ntmps178
    go_wp2_with fail
    refine (HCK.out _ H0.out 0 HE.out).mono ?_; rintro e w1 ⟨rfl, hb1⟩
    have x0 := cell_of_blk (blk_keep hb1 C0.out) 0
    have x1 := cell_of_blk (blk_keep hb1 C0.out) 1
    simp at x0 x1
    have L1 := Lib.hid (H0.out.below hb1)
    have C1 := Lib.hid (blk_keep hb1 C0.out)
    have b1 := Lib.hid (below_of hb1)
    clear hb1
    go_wp2_with fail
    refine (HH.out _ L1.out k true HBB.out).mono ?_; rintro e w2 ⟨rfl, hb2⟩
    have z0 := cell_of_blk (blk_keep hb2 C1.out) 0
    have z1 := cell_of_blk (blk_keep hb2 C1.out) 1
    simp at z0 z1
    have b2 := Lib.hid (below_more b1.out hb2)
    obtain ⟨y0, y1, y2, y3, y4⟩ := HVA.out.below b2.out hb0
    have hb0' : b < w2.heap.size := by have := b2.out.size; omega
    clear hb2 x0 x1
    go_wp2_with fail
    refine wp_region_later (by kernel_rfl) (by kernel_rfl) ?_; (repeat (first | go_big_quiet_step (fail) | quiet_step (fail))); refine wpQuiet_nil ?_; rintro _ ⟨s, rfl⟩
    go_wp2
    refine bodyPost_ret (v := .tuple #[.int .i64 u.s.high, .int .i64 u.s.wide, .int .i64 0]) (by simp [results, Tryz.results178, go_sem]) rfl ?_
    rw [HF.out]
    exact ⟨rfl, below_more b2.out (below1 s)⟩
end Go.Proofs.YtmiokllpdmmfhaaGreat
