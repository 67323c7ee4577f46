/-
  Fractions in lowest terms: what is worth the same is the same; whole numbers above. And what builds on it.
-/
import Derived.Test.YtmiokllpdmmfhaaGreatLaC
import Derived.Test.YtmiokllpdmmfhaaGreatLcI
import Derived.Test.YtmiokllpdmmfhaaGreatLaK
namespace Go.Proofs.YtmiokllpdmmfhaaGreat
open Go.RowKit
theorem fracR_spec {n d : Int} (hd : 0 < d) : ∃ g : Int, 0 < g ∧ n = g * (fracR n d).num ∧ d = g * (fracR n d).den ∧ 1 ≤ (fracR n d).den ∧ Nat.gcd (fracR n d).num.natAbs (fracR n d).den.natAbs = 1 := by
  have hg : 0 < gcdR n d := by unfold gcdR; exact Nat.gcd_pos_of_pos_right _ (by omega)
  have h1 : ((gcdR n d : Nat) : Int) ∣ n := by unfold gcdR; exact Int.ofNat_dvd_left.2 (Nat.gcd_dvd_left _ _)
  have h2 : ((gcdR n d : Nat) : Int) ∣ d := by unfold gcdR; exact Int.ofNat_dvd_left.2 (Nat.gcd_dvd_right _ _)
  have hg0 : ((gcdR n d : Nat) : Int) ≠ 0 := by omega
  obtain ⟨G, hG⟩ : ∃ G : Int, G = ((gcdR n d : Nat) : Int) := ⟨_, rfl⟩
  have hf : fracR n d = ⟨n.tdiv G, d.tdiv G⟩ := by rw [hG]; rfl
  rw [← hG] at h1 h2 hg0
  obtain ⟨a, ha⟩ := h1
  obtain ⟨b, hb⟩ := h2
  have e1 : (fracR n d).num = a := by rw [hf, ha]; exact Int.mul_tdiv_cancel_left a hg0
  have e2 : (fracR n d).den = b := by rw [hf, hb]; exact Int.mul_tdiv_cancel_left b hg0
  rw [hG] at ha hb
  have hb0 : 0 < b := by
    rcases Int.lt_or_le 0 b with h | h
    · exact h
    · have := Int.mul_le_mul_of_nonneg_left h (show 0 ≤ ((gcdR n d : Nat) : Int) by omega)
      rw [Int.mul_zero] at this; omega
  refine ⟨gcdR n d, by omega, by rw [e1]; exact ha, by rw [e2]; exact hb, by omega, ?_⟩
  rw [e1, e2]
  have h3 : gcdR n d = gcdR n d * Nat.gcd a.natAbs b.natAbs := by
    have x1 : n.natAbs = gcdR n d * a.natAbs := by
      have := congrArg Int.natAbs ha
      rw [Int.natAbs_mul, Int.natAbs_natCast] at this; exact this
    have x2 : d.natAbs = gcdR n d * b.natAbs := by
      have := congrArg Int.natAbs hb
      rw [Int.natAbs_mul, Int.natAbs_natCast] at this; exact this
    conv => lhs; unfold gcdR; rw [x1, x2]
    exact Nat.gcd_mul_left _ _ _
  have : gcdR n d * 1 = gcdR n d * Nat.gcd a.natAbs b.natAbs := by rw [Nat.mul_one]; exact h3
  exact (Nat.eq_of_mul_eq_mul_left hg this).symm
theorem low_uniq {a b p q : Int} (hb : 0 < b) (hq : 0 < q) (h1 : Nat.gcd a.natAbs b.natAbs = 1) (h2 : Nat.gcd p.natAbs q.natAbs = 1) (h : a * q = p * b) : a = p ∧ b = q := by
  have ha : a.natAbs * q.natAbs = p.natAbs * b.natAbs := by rw [← Int.natAbs_mul, ← Int.natAbs_mul, h]
  have d1 : b.natAbs ∣ q.natAbs := Nat.Coprime.dvd_of_dvd_mul_left (by rw [Nat.coprime_comm]; exact h1 : Nat.Coprime b.natAbs a.natAbs) ⟨p.natAbs, by rw [ha, Nat.mul_comm]⟩
  have d2 : q.natAbs ∣ b.natAbs := Nat.Coprime.dvd_of_dvd_mul_left (by rw [Nat.coprime_comm]; exact h2 : Nat.Coprime q.natAbs p.natAbs) ⟨a.natAbs, by rw [← ha, Nat.mul_comm]⟩
  have e : b.natAbs = q.natAbs := Nat.dvd_antisymm d1 d2
  have e3 : b = q := by omega
  refine ⟨?_, e3⟩
  rw [e3] at h
  exact Int.eq_of_mul_eq_mul_right (by omega) h
theorem fracR_eq {n d p q : Int} (hd : 0 < d) (hq : 0 < q) (h : n * q = p * d) : fracR n d = fracR p q := by
  obtain ⟨g, g0, gn, gd, g1, g2⟩ := fracR_spec (n := n) hd
  obtain ⟨k, k0, kn, kd, k1, k2⟩ := fracR_spec (n := p) hq
  have hx : (fracR n d).num * (fracR p q).den = (fracR p q).num * (fracR n d).den := by
    have : (g * k) * ((fracR n d).num * (fracR p q).den) = (g * k) * ((fracR p q).num * (fracR n d).den) := by
      have e1 : (g * k) * ((fracR n d).num * (fracR p q).den) = (g * (fracR n d).num) * (k * (fracR p q).den) := by ac_rfl
      have e2 : (g * k) * ((fracR p q).num * (fracR n d).den) = (k * (fracR p q).num) * (g * (fracR n d).den) := by ac_rfl
      rw [e1, e2, ← gn, ← gd, ← kn, ← kd]; exact h
    exact Int.eq_of_mul_eq_mul_left (by have := Int.mul_pos g0 k0; omega) this
  obtain ⟨x, y⟩ := low_uniq (by omega) (by omega) g2 k2 hx
  cases hf : fracR n d; cases hf2 : fracR p q
  rw [hf, hf2] at x y
  dsimp only at x y
  rw [x, y]
theorem ceil_frac {n d : Int} (hd : 0 < d) : ceilR (fracR n d).num (fracR n d).den = ceilR n d := by
  obtain ⟨g, g0, gn, gd, g1, _⟩ := fracR_spec (n := n) hd
  obtain ⟨a, ha⟩ : ∃ a, a = (fracR n d).num := ⟨_, rfl⟩
  obtain ⟨b, hb⟩ : ∃ b, b = (fracR n d).den := ⟨_, rfl⟩
  rw [← ha] at gn
  rw [← hb] at gd g1
  rw [← ha, ← hb, gn, gd]
  clear ha hb gn gd hd
  unfold ceilR
  obtain ⟨q, hq⟩ : ∃ q, q = (a + b - 1) / b := ⟨_, rfl⟩
  rw [← hq]
  have m1 := Int.emod_add_mul_ediv (a + b - 1) b
  have m2 := Int.emod_nonneg (a + b - 1) (show b ≠ 0 by omega)
  have m3 := Int.emod_lt_of_pos (a + b - 1) (show 0 < b by omega)
  rw [← hq] at m1
  obtain ⟨r, hr⟩ : ∃ r, r = (a + b - 1) % b := ⟨_, rfl⟩
  rw [← hr] at m1 m2 m3
  clear hq hr
  have ea : a = r + b * q - b + 1 := by omega
  symm
  have e1 : g * a + g * b - 1 = (g * r + g - 1) + (g * b) * q := by
    rw [ea]
    have : g * (r + b * q - b + 1) = g * r + (g * b) * q - g * b + g := by
      rw [Int.mul_add, Int.mul_sub, Int.mul_add, Int.mul_one, Int.mul_assoc]
    rw [this]; omega
  have hgb : 0 < g * b := Int.mul_pos g0 (by omega)
  have h1 : 0 ≤ g * r := Int.mul_nonneg (by omega) m2
  have h2 : g * r ≤ g * (b - 1) := Int.mul_le_mul_of_nonneg_left (by omega) (by omega)
  have h3 : g * (b - 1) = g * b - g := by rw [Int.mul_sub, Int.mul_one]
  rw [e1, Int.add_mul_ediv_left _ _ (by omega), Int.ediv_eq_zero_of_lt (by omega) (by omega), Int.zero_add]
theorem ceil_add {a d : Int} (s : Int) (hd : 0 < d) : ceilR (s * d + a) d = s + ceilR a d := by
  unfold ceilR
  rw [show s * d + a + d - 1 = (a + d - 1) + s * d by omega, Int.add_mul_ediv_right _ _ (by omega)]; omega
theorem ceil_le {a d B : Int} (hd : 0 < d) (h : a ≤ B * d) : ceilR a d ≤ B := by
  unfold ceilR
  have : a + d - 1 < (B + 1) * d := by rw [Int.add_mul]; omega
  have := Int.ediv_lt_of_lt_mul hd this
  omega
theorem ceil_ge {a d : Int} (hd : 0 < d) (h : 0 ≤ a) : 0 ≤ ceilR a d := by
  unfold ceilR
  exact Int.ediv_nonneg (by omega) (by omega)
theorem fracR_le {n d B : Int} (hd : 0 < d) (h : n ≤ B * d) : (fracR n d).num ≤ B * (fracR n d).den := by
  obtain ⟨g, g0, gn, gd, g1, _⟩ := fracR_spec (n := n) hd
  have : g * (fracR n d).num ≤ g * (B * (fracR n d).den) := by
    rw [← gn]
    have e : g * (B * (fracR n d).den) = B * (g * (fracR n d).den) := by ac_rfl
    rw [e, ← gd]; exact h
  exact Int.le_of_mul_le_mul_left this g0
theorem fracR_lt {n d : Int} (hd : 0 < d) (B : Int) : (B * (fracR n d).den < (fracR n d).num) ↔ B * d < n := by
  obtain ⟨g, g0, gn, gd, g1, _⟩ := fracR_spec (n := n) hd
  obtain ⟨a, ha⟩ : ∃ a, a = (fracR n d).num := ⟨_, rfl⟩
  obtain ⟨b, hb⟩ : ∃ b, b = (fracR n d).den := ⟨_, rfl⟩
  rw [← ha] at gn
  rw [← hb] at gd
  rw [← ha, ← hb, gn, gd]
  have e : B * (g * b) = g * (B * b) := by ac_rfl
  rw [e]
  constructor
  · intro h; exact Int.mul_lt_mul_of_pos_left h g0
  · intro h; exact Int.lt_of_mul_lt_mul_left h (by omega)
open Go.RowKit
theorem cmp_pos (x y : Int) : decide (0 < cmpR x y) = decide (y < x) := by
  unfold cmpR
  split
  · rw [decide_eq_false (by omega), decide_eq_false (by omega)]
  · split
    · rw [decide_eq_true (by omega), decide_eq_true (by omega)]
    · rw [decide_eq_false (by omega), decide_eq_false (by omega)]
def brkB (cw : Bool) (len : Int) (s : Shp) (st : Int) : Bool := decide (0 < st) && decide (len * (endR (newBl cw s) st).den < (endR (newBl cw s) st).num)
def plA (cw : Bool) (len : Int) (p : Int × Int) (s : Shp) : Int × Int := if brkB cw len s p.2 then (p.1 + 1, 0) else p
def nxA (cw : Bool) (len : Int) (p : Int × Int) (s : Shp) : Int × Int := ((plA cw len p s).1, (plA cw len p s).2 + ceilR (newBl cw s).al.num (newBl cw s).al.den + 24)
def stA (cw : Bool) (len : Int) (ks : List Shp) : Int × Int := ks.foldl (nxA cw len) (0, 0)
theorem stA_step {cw : Bool} {len : Int} {ks : List Shp} {k : Nat} {s : Shp} (h : ks[k]? = some s) : stA cw len (ks.take (k + 1)) = nxA cw len (stA cw len (ks.take k)) s := by
  obtain ⟨hk, e⟩ := List.getElem?_eq_some_iff.1 h
  unfold stA
  rw [List.take_succ_eq_append_getElem hk, e, List.foldl_append]; rfl
def blA (cw : Bool) (len : Int) (ks : List Shp) (j : Nat) : Bl :=
  let s := ks.getD j (.gap ⟨0, 0, 0, 0, false, 0, 0, 0⟩)
  ⟨s, (newBl cw s).sc, (newBl cw s).al, (newBl cw s).ac, (plA cw len (stA cw len (ks.take j)) s).1, (plA cw len (stA cw len (ks.take j)) s).2⟩
theorem blA_at {cw : Bool} {len : Int} {ks : List Shp} {j : Nat} {s : Shp} (h : ks[j]? = some s) : blA cw len ks j = ⟨s, (newBl cw s).sc, (newBl cw s).al, (newBl cw s).ac, (plA cw len (stA cw len (ks.take j)) s).1, (plA cw len (stA cw len (ks.take j)) s).2⟩ := by
  unfold blA
  rw [List.getD_eq_getElem?_getD, h]; rfl
def cellsA (cw : Bool) (len : Int) (ks : List Shp) (us : Nat → Value) (k : Nat) : List Value := (List.range k).flatMap fun j => blCells (us j) (blA cw len ks j)
theorem cellsA_step (cw : Bool) (len : Int) (ks : List Shp) (us : Nat → Value) (k : Nat) : cellsA cw len ks us (k + 1) = cellsA cw len ks us k ++ blCells (us k) (blA cw len ks k) := by
  unfold cellsA
  rw [List.range_succ, List.flatMap_append]; simp
theorem al_le {cw : Bool} {s : Shp} (hB : szB s) : 0 ≤ ceilR (newBl cw s).al.num (newBl cw s).al.den ∧ ceilR (newBl cw s).al.num (newBl cw s).al.den ≤ 1000000 := by
  have hb := newBl_bd (cw := cw) hB
  unfold szB at hB
  have hl : 0 ≤ alR cw s ∧ alR cw s ≤ 1000000 := by unfold alR; split <;> omega
  have ha : 0 ≤ acR cw s ∧ acR cw s ≤ 1000000 := by unfold acR; split <;> omega
  have hm : 48 ≤ max 48 (if isRng s then acR cw s else max s.size.1 s.size.2) := by omega
  have hsd : 1 ≤ (sclR cw s).den := by
    unfold sclR
    exact (fracR_bd (n := 48) (d := max 48 (if isRng s then acR cw s else max s.size.1 s.size.2)) (by omega) (by omega)).2.1
  have hsl : (sclR cw s).num ≤ 1 * (sclR cw s).den := by
    unfold sclR
    exact fracR_le (by omega) (by omega)
  have e : (newBl cw s).al = fracR ((sclR cw s).num * alR cw s) (sclR cw s).den := rfl
  refine ⟨ceil_ge (by omega) hb.1.1, ceil_le (by omega) ?_⟩
  rw [e]
  refine fracR_le (by omega) ?_
  have h1 := Int.mul_le_mul_of_nonneg_right (show (sclR cw s).num ≤ (sclR cw s).den by omega) hl.1
  have h2 := Int.mul_le_mul_of_nonneg_left hl.2 (show 0 ≤ (sclR cw s).den by omega)
  rw [Int.mul_comm 1000000]
  omega
theorem plA_bd {cw : Bool} {len : Int} {p : Int × Int} {s : Shp} {k : Int} (h : (0 ≤ p.1 ∧ p.1 ≤ k) ∧ (0 ≤ p.2 ∧ p.2 ≤ k * 1000024)) : (0 ≤ (plA cw len p s).1 ∧ (plA cw len p s).1 ≤ k + 1) ∧ (0 ≤ (plA cw len p s).2 ∧ (plA cw len p s).2 ≤ k * 1000024) := by
  unfold plA
  split
  · dsimp only; omega
  · omega
theorem stA_bd {cw : Bool} {len : Int} {ks : List Shp} (hB : ∀ s ∈ ks, szB s) : ∀ k : Nat, k ≤ ks.length → (0 ≤ (stA cw len (ks.take k)).1 ∧ (stA cw len (ks.take k)).1 ≤ k) ∧ (0 ≤ (stA cw len (ks.take k)).2 ∧ (stA cw len (ks.take k)).2 ≤ (k : Int) * 1000024)
  | 0, _ => by simp [stA]
  | k + 1, hk => by
    obtain ⟨s, hs⟩ : ∃ s, ks[k]? = some s := ⟨_, List.getElem?_eq_getElem (by omega)⟩
    have h1 := stA_bd (cw := cw) (len := len) hB k (by omega)
    have h2 := plA_bd (cw := cw) (len := len) (s := s) h1
    have h3 := al_le (cw := cw) (hB s (List.mem_of_getElem? hs))
    rw [stA_step hs]
    unfold nxA
    dsimp only
    omega
theorem end_ceil {b : Bl} (st : Int) (hd : 0 < b.al.den) : ceilR (endR b st).num (endR b st).den = st + ceilR b.al.num b.al.den := by
  unfold endR
  rw [ceil_frac (by omega), Int.one_mul, Int.mul_one, ceil_add st hd]
open Go.RowKit
set_option maxRecDepth 100000 in
theorem is_ring (k d s t : Int) (m : Bool) (st mn mx : Int) (u : Value) (w : World) : (Instr.typeAssert (.iface 212 (.agg #[.int .i64 k, .int .i64 d, .int .i64 s, .int .i64 t, .bool m, .int .i64 st, .int .i64 mn, .int .i64 mx, u])) 111 212 true).run Tryz.prog w = .ok (.tuple #[.agg #[.int .i64 k, .int .i64 d, .int .i64 s, .int .i64 t, .bool m, .int .i64 st, .int .i64 mn, .int .i64 mx, u], .bool true]) w := by
  kernel_rfl
set_option maxRecDepth 100000 in
set_option maxHeartbeats 16000000 in
theorem newBlockR_any (cw mw : Bool) (a1 a2 b1 b2 pw qw : Nat) (n : Nd) (s' : Shp) (hO : SzOk (.rng n s')) (hB : szB (.rng n s')) (w : World) (arg : Value) (hv : ShV w (.rng n s') (.iface (tyOf (.rng n s')) arg)) :
    Calls Tryz.prog 98 #[.iface (tyOf (.rng n s')) arg, .agg #[.bool cw, .bool mw, .func (.func a1) #[] #[], .func (.func a2) #[] #[], .func (.func 172) #[] #[.pointer (some ⟨pw, 0, none⟩)], .func (.func b1) #[] #[], .func (.func b2) #[] #[], .func (.func 172) #[] #[.pointer (some ⟨qw, 0, none⟩)]]] w
      fun e w' => e = .returned (.agg #[.iface (tyOf (.rng n s')) arg, .int .i64 (newBl cw (.rng n s')).sc.num, .int .i64 (newBl cw (.rng n s')).sc.den, .int .i64 (newBl cw (.rng n s')).al.num, .int .i64 (newBl cw (.rng n s')).al.den, .int .i64 (newBl cw (.rng n s')).ac.num, .int .i64 (newBl cw (.rng n s')).ac.den, .int .i64 0, .int .i64 0]) ∧ Below w.heap.size w w' := by
  obtain ⟨u, hu, hsu⟩ := id hv
  obtain ⟨arg2, rfl⟩ := hsu.iface
  injection hu with _ hu
  have HU := Lib.hid hu
  clear hu hsu
  obtain ⟨T2, hT2⟩ : ∃ T, T = tyOf s' := ⟨_, rfl⟩
  rw [← hT2] at HU
  clear hT2
  obtain ⟨s, hs⟩ : ∃ s, s = Shp.rng n s' := ⟨_, rfl⟩
  have hrg : isRng s = true := by rw [hs]; rfl
  have hty : tyOf s = 212 := by rw [hs]; rfl
  have hfn : szFn s = 226 := by rw [hs]; rfl
  rw [← hs] at hO hB hv ⊢
  clear hs
  obtain ⟨⟨p1, p2⟩, hp⟩ : ∃ p, p = s.size := ⟨_, rfl⟩
  obtain ⟨al, hal⟩ : ∃ v, v = alR cw s := ⟨_, rfl⟩
  obtain ⟨ac, hac⟩ : ∃ v, v = acR cw s := ⟨_, rfl⟩
  obtain ⟨lg, hlg⟩ : ∃ v, v = max 48 (if isRng s then acR cw s else max s.size.1 s.size.2) := ⟨_, rfl⟩
  unfold szB at hB
  have halb : 0 ≤ al ∧ al ≤ 1000000 := by rw [hal]; unfold alR; split <;> omega
  have hacb : 0 ≤ ac ∧ ac ≤ 1000000 := by rw [hac]; unfold acR; split <;> omega
  have hlgb : 48 ≤ lg ∧ lg ≤ 1000000 := by rw [hlg, ← hac]; split <;> omega
  have HC := Lib.hid (fun wx (hbx : Below w.heap.size w wx) => show Calls Tryz.prog (szFn s) #[arg] wx (fun e w' => e = .returned (.tuple #[.int .i64 p1, .int .i64 p2]) ∧ Below wx.heap.size wx w') by
    have := hO wx arg (ShV.below hbx s _ hv)
    unfold GotSz at this
    rw [← hp] at this; exact this)
  have HT := Lib.hid (fun wx => show Calls Tryz.prog 142 #[.agg #[.bool cw, .bool mw, .func (.func a1) #[] #[], .func (.func a2) #[] #[], .func (.func 172) #[] #[.pointer (some ⟨pw, 0, none⟩)], .func (.func b1) #[] #[], .func (.func b2) #[] #[], .func (.func 172) #[] #[.pointer (some ⟨qw, 0, none⟩)]], .int .i64 p1, .int .i64 p2] wx (fun e w' => e = .returned (.tuple #[.int .i64 al, .int .i64 ac]) ∧ Below wx.heap.size wx w') by
    have := turnI_any cw mw a1 a2 b1 b2 pw qw p1 p2 wx
    rw [hal, hac]; unfold alR acR; rw [← hp]; exact this)
  have HF := Lib.hid (fun wx => fraction_any 48 lg wx (by omega) (by omega))
  obtain ⟨⟨sn, sd⟩, hsc⟩ : ∃ f, f = fracR 48 lg := ⟨_, rfl⟩
  have hsb := fracR_bd (n := 48) (d := lg) (by omega) (by omega)
  rw [← hsc] at hsb HF
  dsimp only at hsb HF
  obtain ⟨F, hF⟩ : ∃ F : Int → Fr, F = fun k => fracR (sn * k) sd := ⟨_, rfl⟩
  have HM := Lib.hid (fun wx k (hk : 0 ≤ k ∧ k ≤ 1000000) => show Calls Tryz.prog 110 #[.agg #[.int .i64 sn, .int .i64 sd], .int .i64 k] wx (fun e w' => e = .returned (.agg #[.int .i64 (F k).num, .int .i64 (F k).den]) ∧ Below wx.heap.size wx w') by
    have a := Int.mul_nonneg hsb.1.1 hk.1
    have b := Int.mul_le_mul hsb.1.2 hk.2 hk.1 (by omega)
    have := times_any sn sd k wx (by unfold smallI; omega) (by omega)
    rw [hF]; exact this)
  have HR := Lib.hid (show (newBl cw s).sc = ⟨sn, sd⟩ ∧ (newBl cw s).al = F al ∧ (newBl cw s).ac = F ac by
    have e : sclR cw s = ⟨sn, sd⟩ := by unfold sclR; rw [← hlg, ← hsc]
    unfold newBl; rw [e, ← hal, ← hac, hF]; exact ⟨rfl, rfl, rfl⟩)
  rw [HR.out.1, HR.out.2.1, HR.out.2.2]
  have HLG := Lib.hid (show lg = max 48 (if isRng s then ac else max p1 p2) by rw [hlg, hac, ← hp])
  obtain ⟨W, hW⟩ : ∃ W, W = (w.alloc (.cells #[.bool cw, .bool mw, .func (.func a1) #[] #[], .func (.func a2) #[] #[], .func (.func 172) #[] #[.pointer (some ⟨pw, 0, none⟩)], .func (.func b1) #[] #[], .func (.func b2) #[] #[], .func (.func 172) #[] #[.pointer (some ⟨qw, 0, none⟩)]] 102)).alloc (.cells #[.nilIface, .int .i64 0, .int .i64 0, .int .i64 0, .int .i64 0, .int .i64 0, .int .i64 0, .int .i64 0, .int .i64 0] 123) := ⟨_, rfl⟩
  have HBW := Lib.hid (show Below w.heap.size w W from hW ▸ two_under _ _ _)
  have D0 := Lib.hid (show W.heap[w.heap.size]? = some (.cells #[.bool cw, .bool mw, .func (.func a1) #[] #[], .func (.func a2) #[] #[], .func (.func 172) #[] #[.pointer (some ⟨pw, 0, none⟩)], .func (.func b1) #[] #[], .func (.func b2) #[] #[], .func (.func 172) #[] #[.pointer (some ⟨qw, 0, none⟩)]] 102 (0, 0)) by rw [hW, heap_alloc_other _ _ _ (by simp)]; exact heap_alloc_new _ _)
  have D1 := Lib.hid (show W.heap[w.heap.size + 1]? = some (.cells #[.nilIface, .int .i64 0, .int .i64 0, .int .i64 0, .int .i64 0, .int .i64 0, .int .i64 0, .int .i64 0, .int .i64 0] 123 (0, 0)) by rw [hW]; have := heap_alloc_new (w.alloc (.cells #[.bool cw, .bool mw, .func (.func a1) #[] #[], .func (.func a2) #[] #[], .func (.func 172) #[] #[.pointer (some ⟨pw, 0, none⟩)], .func (.func b1) #[] #[], .func (.func b2) #[] #[], .func (.func 172) #[] #[.pointer (some ⟨qw, 0, none⟩)]] 102)) (.cells #[.nilIface, .int .i64 0, .int .i64 0, .int .i64 0, .int .i64 0, .int .i64 0, .int .i64 0, .int .i64 0, .int .i64 0] 123); simpa using this)
  clear hO hB hv hp hal hac hlg hsc hsb HR hF
  have HRA := fun wx => is_ring n.kind n.depth n.sign n.turn n.mirror n.state n.min n.max (.iface T2 arg2) wx
  have HAE := HU.out
  subst HAE
  clear HU
  rw [hrg, if_pos rfl] at HLG
  rw [hfn] at HC
  rw [hty]
  clear hrg hty hfn
  go_enter Tryz.func98, Tryz.ntmps98
  go_wp2_with fail
  rw [← hW]
  clear hW
  refine (HC.out _ HBW.out).mono ?_; rintro e w1 ⟨rfl, hb1⟩
  have HB1 := Lib.hid (below_more HBW.out hb1)
  have E0 := Lib.hid (blk_keep hb1 D0.out)
  have E1 := Lib.hid (blk_keep hb1 D1.out)
  clear hb1
  have q0 := cell_of_blk E0.out 0
  have q1 := cell_of_blk E0.out 1
  have q2 := cell_of_blk E0.out 2
  have q3 := cell_of_blk E0.out 3
  have q4 := cell_of_blk E0.out 4
  have q5 := cell_of_blk E0.out 5
  have q6 := cell_of_blk E0.out 6
  have q7 := cell_of_blk E0.out 7
  have hq := (Array.getElem?_eq_some_iff.1 E0.out).1
  simp at q0 q1 q2 q3 q4 q5 q6 q7
  go_wp2_with fail
  refine (HT.out _).mono ?_; rintro e w2 ⟨rfl, hb2⟩
  have HB2 := Lib.hid (below_more HB1.out hb2)
  have F1 := Lib.hid (blk_keep hb2 E1.out)
  clear hb2 q0 q1 q2 q3 q4 q5 q6 q7 hq
  go_wp2_with fail
  rw [← HLG.out]
  refine (HF.out _).mono ?_; rintro e w4 ⟨rfl, hb4⟩
  have HB4 := Lib.hid (below_more (HB2.out.alloc HB2.out.size _) hb4)
  have G1 := Lib.hid (blk_keep (below_more (below_alloc w2 _) hb4) F1.out)
  clear hb4
  go_wp2_with fail
  obtain ⟨V, hV⟩ : ∃ V, V = w4.alloc (.cells #[.int .i64 sn, .int .i64 sd] 40) := ⟨_, rfl⟩
  have HBV := Lib.hid (show Below w.heap.size w V from hV ▸ HB4.out.alloc HB4.out.size _)
  have V1 := Lib.hid (show V.heap[w.heap.size + 1]? = some (.cells #[.nilIface, .int .i64 0, .int .i64 0, .int .i64 0, .int .i64 0, .int .i64 0, .int .i64 0, .int .i64 0, .int .i64 0] 123 (0, 0)) from blk_keep (hV ▸ below_alloc w4 _) G1.out)
  have V2 := Lib.hid (show V.heap[w4.heap.size]? = some (.cells #[.int .i64 sn, .int .i64 sd] 40 (0, 0)) from hV ▸ heap_alloc_new _ _)
  rw [← hV]
  clear hV
  have y0 := cell_of_blk V2.out 0
  have y1 := cell_of_blk V2.out 1
  have hy := (Array.getElem?_eq_some_iff.1 V2.out).1
  simp at y0 y1
  refine wp_region_later_tail 8 (by kernel_rfl) (by kernel_rfl) ?_; simp only [List.take_succ_cons, List.take_zero, List.drop_succ_cons, List.drop_zero]; (repeat (first | go_big_quiet_step (((go_at_call 110; exact Calls.later _ (HM.out _ _ (by assumption))))) | quiet_step (((go_at_call 110; exact Calls.later _ (HM.out _ _ (by assumption))))))); refine wpQuiet_nil ?_; rintro _ ⟨s, rfl⟩
  have HBS := Lib.hid (below_more HBV.out s.below)
  have K1 := Lib.hid (blk_keep s.below V1.out)
  obtain ⟨X, hX⟩ : ∃ X, X = s.w := ⟨_, rfl⟩
  rw [← hX] at HBS K1 ⊢
  clear hX s y0 y1 hy
  have q0 := cell_of_blk K1.out 0
  have f0 := free_of_blk K1.out 0
  have q1 := cell_of_blk K1.out 1
  have f1 := free_of_blk K1.out 1
  have q2 := cell_of_blk K1.out 2
  have f2 := free_of_blk K1.out 2
  have q3 := cell_of_blk K1.out 3
  have f3 := free_of_blk K1.out 3
  have q4 := cell_of_blk K1.out 4
  have f4 := free_of_blk K1.out 4
  have q5 := cell_of_blk K1.out 5
  have f5 := free_of_blk K1.out 5
  have q6 := cell_of_blk K1.out 6
  have f6 := free_of_blk K1.out 6
  have q7 := cell_of_blk K1.out 7
  have f7 := free_of_blk K1.out 7
  have q8 := cell_of_blk K1.out 8
  have f8 := free_of_blk K1.out 8
  have hs := (Array.getElem?_eq_some_iff.1 K1.out).1
  simp at q0 q1 q2 q3 q4 q5 q6 q7 q8
  go_wp2_with fail
  refine bodyPost_ret (v := .agg #[.iface _ (.agg #[.int .i64 n.kind, .int .i64 n.depth, .int .i64 n.sign, .int .i64 n.turn, .bool n.mirror, .int .i64 n.state, .int .i64 n.min, .int .i64 n.max, .iface T2 arg2]), .int .i64 sn, .int .i64 sd, .int .i64 (F al).num, .int .i64 (F al).den, .int .i64 (F ac).num, .int .i64 (F ac).den, .int .i64 0, .int .i64 0]) (by simp [results, Tryz.results98, go_sem, q0, q1, q2, q3, q4, q5, q6, q7, q8]) rfl ⟨rfl, ?_⟩
  clear q0 q1 q2 q3 q4 q5 q6 q7 q8 f0 f1 f2 f3 f4 f5 f6 f7 f8
  iterate 9 (refine Below.setCell ?_ (by dsimp only; omega) _)
  exact HBS.out
end Go.Proofs.YtmiokllpdmmfhaaGreat
