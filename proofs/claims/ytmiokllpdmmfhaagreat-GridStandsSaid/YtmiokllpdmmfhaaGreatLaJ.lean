/-
  The size of a row of shapes, by the program. And what builds on it.
-/
import Derived.Test.YtmiokllpdmmfhaaGreatLaI
namespace Go.Proofs.YtmiokllpdmmfhaaGreat
open Go.RowKit
def tyOf : Shp → TypeId
  | .gly .. => 201
  | .gap .. => 204
  | .ovl .. => 206
  | .row .. => 209
  | .col .. => 210
  | .rng .. => 212
def szFn : Shp → Nat
  | .gly .. => 216
  | .gap .. => 218
  | .ovl .. => 220
  | .row .. => 222
  | .col .. => 224
  | .rng .. => 226
theorem ShV.iface {w : World} {s : Shp} {v : Value} (h : ShV w s v) : ∃ arg, v = .iface (tyOf s) arg := by
  cases s with
  | gly n a b => exact ⟨_, h⟩
  | gap n => exact ⟨_, h⟩
  | ovl => exact ⟨_, h⟩
  | row sp ks => obtain ⟨A, c, e, _⟩ := h; exact ⟨_, e⟩
  | col sp ks => obtain ⟨A, c, e, _⟩ := h; exact ⟨_, e⟩
  | rng n s => obtain ⟨u, e, _⟩ := h; exact ⟨_, e⟩
def GotSz (s : Shp) (w : World) (e : Ending) (w' : World) : Prop := e = .returned (.tuple #[.int .i64 s.size.1, .int .i64 s.size.2]) ∧ Below w.heap.size w w'
def SzOk (s : Shp) : Prop := ∀ (w : World) (arg : Value), ShV w s (.iface (tyOf s) arg) → Calls Tryz.prog (szFn s) #[arg] w (GotSz s w)
def szB (s : Shp) : Prop := (0 ≤ s.size.1 ∧ s.size.1 ≤ 1000000) ∧ (0 ≤ s.size.2 ∧ s.size.2 ≤ 1000000)
theorem sumW_app : ∀ (a : List Shp) (k : Shp), sumW (a ++ [k]) = sumW a + k.size.1
  | [], k => by simp [sumW]
  | x :: r, k => by rw [List.cons_append, sumW, sumW, sumW_app r k]; omega
theorem sumH_app : ∀ (a : List Shp) (k : Shp), sumH (a ++ [k]) = sumH a + k.size.2
  | [], k => by simp [sumH]
  | x :: r, k => by rw [List.cons_append, sumH, sumH, sumH_app r k]; omega
theorem maxH_app : ∀ (a : List Shp) (k : Shp), 0 ≤ k.size.2 → maxH (a ++ [k]) = max (maxH a) k.size.2
  | [], k, h => by simp only [List.nil_append, maxH]; omega
  | x :: r, k, h => by rw [List.cons_append, maxH, maxH, maxH_app r k h]; omega
theorem maxW_app : ∀ (a : List Shp) (k : Shp), 0 ≤ k.size.1 → maxW (a ++ [k]) = max (maxW a) k.size.1
  | [], k, h => by simp only [List.nil_append, maxW]; omega
  | x :: r, k, h => by rw [List.cons_append, maxW, maxW, maxW_app r k h]; omega
theorem sum_bd : ∀ (a : List Shp), (∀ k ∈ a, szB k) → (0 ≤ sumW a ∧ sumW a ≤ a.length * 1000000) ∧ (0 ≤ sumH a ∧ sumH a ≤ a.length * 1000000) ∧ (0 ≤ maxW a ∧ maxW a ≤ 1000000) ∧ (0 ≤ maxH a ∧ maxH a ≤ 1000000)
  | [], _ => by simp [sumW, sumH, maxW, maxH]
  | x :: r, h => by
    have h1 := h x (List.mem_cons_self ..)
    have h2 := sum_bd r (fun k hk => h k (List.mem_cons_of_mem _ hk))
    unfold szB at h1
    rw [sumW, sumH, maxW, maxH, List.length_cons]
    push_cast
    omega
theorem take_snocS {ks : List Shp} {j : Nat} {k : Shp} (h : ks[j]? = some k) : ks.take (j + 1) = ks.take j ++ [k] := by
  obtain ⟨hk, e⟩ := List.getElem?_eq_some_iff.1 h
  rw [List.take_succ_eq_append_getElem hk, e]
set_option maxRecDepth 100000 in
set_option maxHeartbeats 8000000 in
theorem rowsize_any (sp : Int) (ks : List Shp) (hsp : 0 ≤ sp ∧ sp ≤ 1000) (hn : ks.length ≤ 1000) (hB : ∀ k ∈ ks, szB k) (hO : ∀ k ∈ ks, SzOk k) : SzOk (.row sp ks) := by
  intro w arg hv
  obtain ⟨A, c, e, h1, h2, h3⟩ := hv
  injection e with _ e
  subst e
  have HV := Lib.hid h3
  have HB := Lib.hid hB
  have HO := Lib.hid hO
  obtain ⟨n, hnn⟩ : ∃ n, n = ks.length := ⟨_, rfl⟩
  have HN := Lib.hid hnn
  obtain ⟨sW, hsW⟩ : ∃ s, s = (Shp.row sp ks).size := ⟨_, rfl⟩
  have HS := Lib.hid (show sW = (sp * ((n : Int) - 1) + sumW ks, maxH ks) by rw [hsW, hnn, Shp.size])
  have hm : smallI (sp * ((n : Int) - 1)) := by
    have a := Int.mul_le_mul_of_nonneg_right hsp.2 (show (0 : Int) ≤ (n : Int) by omega)
    have b := Int.mul_nonneg hsp.1 (show (0 : Int) ≤ (n : Int) by omega)
    have e : sp * ((n : Int) - 1) = sp * (n : Int) - sp := by rw [Int.mul_sub, Int.mul_one]
    unfold smallI; rw [e]; omega
  obtain ⟨g, hg⟩ : ∃ g, g = sp * ((n : Int) - 1) := ⟨_, rfl⟩
  have hgb : -1000 ≤ g ∧ g ≤ 1000000 := by
    have a := Int.mul_le_mul_of_nonneg_right hsp.2 (show (0 : Int) ≤ (n : Int) by omega)
    have b := Int.mul_nonneg hsp.1 (show (0 : Int) ≤ (n : Int) by omega)
    have e : sp * ((n : Int) - 1) = sp * (n : Int) - sp := by rw [Int.mul_sub, Int.mul_one]
    rw [hg, e]; omega
  have hwg : IntKind.i64.wrap (sp * ((n : Int) - 1)) = g := by rw [hg]; exact small_wrap hm
  rw [← hg] at HS
  show Calls Tryz.prog 222 #[.agg #[.int .i64 sp, .slice A ks.length c]] w _
  unfold GotSz
  rw [← hsW]
  rw [← hnn] at h1 hn ⊢
  unfold maxLen at h2
  clear h3 hB hO hsW hg hm hnn
  obtain ⟨W, hW⟩ : ∃ W, W = w.alloc (.cells #[.int .i64 sp, .slice A n c] 209) := ⟨_, rfl⟩
  have HBW := Lib.hid (show Below w.heap.size w W from hW ▸ below_alloc _ _)
  have hn0 : (0 : Int) ≤ (n : Int) := by omega
  go_enter Tryz.func222, Tryz.ntmps222
  go_wp2_with fail
  rw [← hW]
  clear hW hwg
  go_loopw [2, 3, 18] (fun a b i wr => ∃ j : Nat, j ≤ n ∧ i = .int .i64 j ∧ Hid (a = .int .i64 (g + sumW (ks.take j)) ∧ b = .int .i64 (maxH (ks.take j))) ∧ Hid (Below w.heap.size w wr)) (fun _ _ i _ => n - (intOf i).toNat)
  case atStart => exact ⟨0, Nat.zero_le _, rfl, Lib.hid ⟨by simp [sumW], by simp [maxH]⟩, HBW⟩
  case round =>
    obtain ⟨j, hj, rfl, hab, hbw⟩ := hrel
    obtain ⟨rfl, rfl⟩ := hab.out
    have HB1 := Lib.hid hbw.out
    clear hab hbw
    obtain ⟨x, hx⟩ : ∃ x, x = sumW (ks.take j) := ⟨_, rfl⟩
    obtain ⟨y, hy⟩ : ∃ y, y = maxH (ks.take j) := ⟨_, rfl⟩
    have hbd := sum_bd (ks.take j) (fun k hk => HB.out k (List.mem_of_mem_take hk))
    have hlen : (ks.take j).length ≤ 1000 := by rw [List.length_take]; omega
    have hx2 : 0 ≤ x ∧ x ≤ 1000000000 := by rw [hx]; omega
    have hy2 : 0 ≤ y ∧ y ≤ 1000000 := by rw [hy]; exact hbd.2.2.2
    have HX := Lib.hid hx
    have HY := Lib.hid hy
    rw [← hx, ← hy]
    clear hx hy hbd hlen
    by_cases hlt : j < n
    · obtain ⟨k, hk⟩ : ∃ k, ks[j]? = some k := ⟨_, List.getElem?_eq_getElem (by have := HN.out; omega)⟩
      obtain ⟨b, o, u, hA, hb, hc, hu⟩ := ShVs.at_ ks 0 j k HV.out hk
      subst hA
      rw [Nat.zero_add] at hc
      obtain ⟨arg, rfl⟩ := hu.iface
      have hmem := List.mem_of_getElem? hk
      have hkb := HB.out k hmem
      have z := (HB1.out.cell (p := ⟨b, o + j, none⟩) hb).trans hc
      have hbr : b < wr.heap.size := by have := HB1.out.size; omega
      have hj0 : (0 : Int) ≤ (j : Int) := by omega
      have hjn : (j : Int) < (n : Int) := by omega
      have HC := Lib.hid (fun wx (hbx : Below w.heap.size w wx) => HO.out k hmem wx arg (ShV.below hbx k _ hu))
      have HT := Lib.hid (take_snocS hk)
      have HW1 := Lib.hid (sumW_app (ks.take j) k)
      have HH1 := Lib.hid (maxH_app (ks.take j) k hkb.2.1)
      obtain ⟨⟨p1, p2⟩, hp⟩ : ∃ p, p = k.size := ⟨_, rfl⟩
      unfold szB at hkb
      rw [← hp] at hkb HW1 HH1
      dsimp only at hkb HW1 HH1
      have HP := Lib.hid hp
      have HC2 := Lib.hid (fun wx (hbx : Below w.heap.size w wx) => show Calls Tryz.prog (szFn k) #[arg] wx (fun e w' => e = .returned (.tuple #[.int .i64 p1, .int .i64 p2]) ∧ Below wx.heap.size wx w') by
        have := HC.out wx hbx
        unfold GotSz at this
        rw [← HP.out] at this; exact this)
      have hmx : max y p2 = max y p2 := rfl
      clear hk hc hu hmem hp HC
      have HN2 := Lib.hid (show sumW (ks.take (j + 1)) = x + p1 ∧ maxH (ks.take (j + 1)) = max y p2 by rw [HT.out, HW1.out, HH1.out, HX.out, HY.out]; exact ⟨rfl, rfl⟩)
      clear hmx HX HY HT HW1 HH1 HP
      cases k <;> (
        simp only [tyOf, szFn] at z HC2
        go_wp2_with fail
        refine (HC2.out _ HB1.out).mono ?_; rintro e w2 ⟨rfl, hb2⟩
        have HB2 := Lib.hid (below_more HB1.out hb2)
        clear hb2
        go_wp2_with fail
        all_goals go_roundw
        all_goals first
          | exact ⟨j + 1, by omega, by go_num, Lib.hid ⟨by rw [HN2.out.1, Int.add_assoc], by rw [HN2.out.2]⟩, HB2⟩
          | (simp [intOf]; done)
          | (simp [intOf]; omega))
    · obtain rfl : j = n := by omega
      have HF := Lib.hid (show sW = (g + x, y) by
        have e : ks.take j = ks := by rw [HN.out, List.take_length]
        rw [HS.out, HX.out, HY.out, e])
      clear HX HY
      go_wp2_with fail
      go_ret2
      exact ⟨by rw [HF.out]; rfl, HB1.out⟩
open Go.RowKit
set_option maxRecDepth 100000 in
set_option maxHeartbeats 8000000 in
theorem colsize_any (sp : Int) (ks : List Shp) (hsp : 0 ≤ sp ∧ sp ≤ 1000) (hn : ks.length ≤ 1000) (hB : ∀ k ∈ ks, szB k) (hO : ∀ k ∈ ks, SzOk k) : SzOk (.col sp ks) := by
  intro w arg hv
  obtain ⟨A, c, e, h1, h2, h3⟩ := hv
  injection e with _ e
  subst e
  have HV := Lib.hid h3
  have HB := Lib.hid hB
  have HO := Lib.hid hO
  obtain ⟨n, hnn⟩ : ∃ n, n = ks.length := ⟨_, rfl⟩
  have HN := Lib.hid hnn
  obtain ⟨sW, hsW⟩ : ∃ s, s = (Shp.col sp ks).size := ⟨_, rfl⟩
  have HS := Lib.hid (show sW = (maxW ks, sp * ((n : Int) - 1) + sumH ks) by rw [hsW, hnn, Shp.size])
  have hm : smallI (sp * ((n : Int) - 1)) := by
    have a := Int.mul_le_mul_of_nonneg_right hsp.2 (show (0 : Int) ≤ (n : Int) by omega)
    have b := Int.mul_nonneg hsp.1 (show (0 : Int) ≤ (n : Int) by omega)
    have e : sp * ((n : Int) - 1) = sp * (n : Int) - sp := by rw [Int.mul_sub, Int.mul_one]
    unfold smallI; rw [e]; omega
  obtain ⟨g, hg⟩ : ∃ g, g = sp * ((n : Int) - 1) := ⟨_, rfl⟩
  have hgb : -1000 ≤ g ∧ g ≤ 1000000 := by
    have a := Int.mul_le_mul_of_nonneg_right hsp.2 (show (0 : Int) ≤ (n : Int) by omega)
    have b := Int.mul_nonneg hsp.1 (show (0 : Int) ≤ (n : Int) by omega)
    have e : sp * ((n : Int) - 1) = sp * (n : Int) - sp := by rw [Int.mul_sub, Int.mul_one]
    rw [hg, e]; omega
  have hwg : IntKind.i64.wrap (sp * ((n : Int) - 1)) = g := by rw [hg]; exact small_wrap hm
  rw [← hg] at HS
  show Calls Tryz.prog 224 #[.agg #[.int .i64 sp, .slice A ks.length c]] w _
  unfold GotSz
  rw [← hsW]
  rw [← hnn] at h1 hn ⊢
  unfold maxLen at h2
  clear h3 hB hO hsW hg hm hnn
  obtain ⟨W, hW⟩ : ∃ W, W = w.alloc (.cells #[.int .i64 sp, .slice A n c] 210) := ⟨_, rfl⟩
  have HBW := Lib.hid (show Below w.heap.size w W from hW ▸ below_alloc _ _)
  have hn0 : (0 : Int) ≤ (n : Int) := by omega
  go_enter Tryz.func224, Tryz.ntmps224
  go_wp2_with fail
  rw [← hW]
  clear hW hwg
  go_loopw [2, 3, 18] (fun a b i wr => ∃ j : Nat, j ≤ n ∧ i = .int .i64 j ∧ Hid (a = .int .i64 (maxW (ks.take j)) ∧ b = .int .i64 (g + sumH (ks.take j))) ∧ Hid (Below w.heap.size w wr)) (fun _ _ i _ => n - (intOf i).toNat)
  case atStart => exact ⟨0, Nat.zero_le _, rfl, Lib.hid ⟨by simp [maxW], by simp [sumH]⟩, HBW⟩
  case round =>
    obtain ⟨j, hj, rfl, hab, hbw⟩ := hrel
    obtain ⟨rfl, rfl⟩ := hab.out
    have HB1 := Lib.hid hbw.out
    clear hab hbw
    obtain ⟨x, hx⟩ : ∃ x, x = sumH (ks.take j) := ⟨_, rfl⟩
    obtain ⟨y, hy⟩ : ∃ y, y = maxW (ks.take j) := ⟨_, rfl⟩
    have hbd := sum_bd (ks.take j) (fun k hk => HB.out k (List.mem_of_mem_take hk))
    have hlen : (ks.take j).length ≤ 1000 := by rw [List.length_take]; omega
    have hx2 : 0 ≤ x ∧ x ≤ 1000000000 := by rw [hx]; omega
    have hy2 : 0 ≤ y ∧ y ≤ 1000000 := by rw [hy]; exact hbd.2.2.1
    have HX := Lib.hid hx
    have HY := Lib.hid hy
    rw [← hx, ← hy]
    clear hx hy hbd hlen
    by_cases hlt : j < n
    · obtain ⟨k, hk⟩ : ∃ k, ks[j]? = some k := ⟨_, List.getElem?_eq_getElem (by have := HN.out; omega)⟩
      obtain ⟨b, o, u, hA, hb, hc, hu⟩ := ShVs.at_ ks 0 j k HV.out hk
      subst hA
      rw [Nat.zero_add] at hc
      obtain ⟨arg, rfl⟩ := hu.iface
      have hmem := List.mem_of_getElem? hk
      have hkb := HB.out k hmem
      have z := (HB1.out.cell (p := ⟨b, o + j, none⟩) hb).trans hc
      have hbr : b < wr.heap.size := by have := HB1.out.size; omega
      have hj0 : (0 : Int) ≤ (j : Int) := by omega
      have hjn : (j : Int) < (n : Int) := by omega
      have HC := Lib.hid (fun wx (hbx : Below w.heap.size w wx) => HO.out k hmem wx arg (ShV.below hbx k _ hu))
      have HT := Lib.hid (take_snocS hk)
      have HW1 := Lib.hid (sumH_app (ks.take j) k)
      have HH1 := Lib.hid (maxW_app (ks.take j) k hkb.1.1)
      obtain ⟨⟨p1, p2⟩, hp⟩ : ∃ p, p = k.size := ⟨_, rfl⟩
      unfold szB at hkb
      rw [← hp] at hkb HW1 HH1
      dsimp only at hkb HW1 HH1
      have HP := Lib.hid hp
      have HC2 := Lib.hid (fun wx (hbx : Below w.heap.size w wx) => show Calls Tryz.prog (szFn k) #[arg] wx (fun e w' => e = .returned (.tuple #[.int .i64 p1, .int .i64 p2]) ∧ Below wx.heap.size wx w') by
        have := HC.out wx hbx
        unfold GotSz at this
        rw [← HP.out] at this; exact this)
      have hmx : max y p2 = max y p2 := rfl
      clear hk hc hu hmem hp HC
      have HN2 := Lib.hid (show sumH (ks.take (j + 1)) = x + p2 ∧ maxW (ks.take (j + 1)) = max y p1 by rw [HT.out, HW1.out, HH1.out, HX.out, HY.out]; exact ⟨rfl, rfl⟩)
      clear hmx HX HY HT HW1 HH1 HP
      cases k <;> (
        simp only [tyOf, szFn] at z HC2
        go_wp2_with fail
        refine (HC2.out _ HB1.out).mono ?_; rintro e w2 ⟨rfl, hb2⟩
        have HB2 := Lib.hid (below_more HB1.out hb2)
        clear hb2
        go_wp2_with fail
        all_goals go_roundw
        all_goals first
          | exact ⟨j + 1, by omega, by go_num, Lib.hid ⟨by rw [HN2.out.2], by rw [HN2.out.1, Int.add_assoc]⟩, HB2⟩
          | (simp [intOf]; done)
          | (simp [intOf]; omega))
    · obtain rfl : j = n := by omega
      have HF := Lib.hid (show sW = (y, g + x) by
        have e : ks.take j = ks := by rw [HN.out, List.take_length]
        rw [HS.out, HX.out, HY.out, e])
      clear HX HY
      go_wp2_with fail
      go_ret2
      exact ⟨by rw [HF.out]; rfl, HB1.out⟩
set_option maxRecDepth 100000 in
set_option maxHeartbeats 8000000 in
theorem ovlsize_any (n1 : Nd) (wd hg : Int) (n2 : Nd) (w2 h2 : Int) (a1 : 0 ≤ wd ∧ wd ≤ 1000000) (a2 : 0 ≤ hg ∧ hg ≤ 1000000) : SzOk (.ovl n1 wd hg n2 w2 h2) := by
  intro w arg hv
  injection hv with _ e
  subst e
  have HC := Lib.hid (fun wx => gsize_any n1.kind n1.depth n1.sign n1.turn n1.mirror n1.state n1.min n1.max wd hg wx a1 a2)
  show Calls Tryz.prog 220 _ w _
  unfold GotSz
  rw [Shp.size]
  go_enter Tryz.func220, Tryz.ntmps220
  go_wp2_with fail
  refine (HC.out _).mono ?_; rintro e w2 ⟨rfl, hb2⟩
  have HB2 := Lib.hid (below_more (below_alloc _ _) hb2)
  clear hb2
  go_wp2_with fail
  go_ret2
  exact ⟨rfl, HB2.out⟩
set_option maxRecDepth 100000 in
set_option maxHeartbeats 8000000 in
theorem rngsize_any (n : Nd) (s : Shp) (hB : szB s) (hO : SzOk s) : SzOk (.rng n s) := by
  intro w arg hv
  obtain ⟨u, e, h⟩ := hv
  injection e with _ e
  subst e
  obtain ⟨arg, rfl⟩ := h.iface
  unfold szB at hB
  obtain ⟨⟨p1, p2⟩, hp⟩ : ∃ p, p = s.size := ⟨_, rfl⟩
  rw [← hp] at hB
  dsimp only at hB
  have HC := Lib.hid (fun wx (hbx : Below w.heap.size w wx) => show Calls Tryz.prog (szFn s) #[arg] wx (fun e w' => e = .returned (.tuple #[.int .i64 p1, .int .i64 p2]) ∧ Below wx.heap.size wx w') by
    have := hO wx arg (ShV.below hbx s _ h)
    unfold GotSz at this
    rw [← hp] at this; exact this)
  show Calls Tryz.prog 226 _ w _
  unfold GotSz
  rw [Shp.size, ← hp]
  dsimp only
  clear hO h hp
  obtain ⟨⟨a, b⟩, c, d⟩ := hB
  cases s <;> (
    simp only [tyOf, szFn] at HC ⊢
    go_enter Tryz.func226, Tryz.ntmps226
    go_wp2_with fail
    refine (HC.out _ (below_alloc _ _)).mono ?_; rintro e w2 ⟨rfl, hb2⟩
    have HB2 := Lib.hid (below_more (below_alloc _ _) hb2)
    clear hb2
    go_wp2_with fail
    go_ret2
    exact ⟨rfl, HB2.out⟩)
mutual
def Shp.good : Shp → Prop
  | .gly _ a b => (0 ≤ a ∧ a ≤ 200000) ∧ (0 ≤ b ∧ b ≤ 200000)
  | .gap n => 0 ≤ n.max ∧ n.max ≤ 10000
  | .ovl _ a b _ _ _ => (0 ≤ a ∧ a ≤ 200000) ∧ (0 ≤ b ∧ b ≤ 200000)
  | .row sp ks => (0 ≤ sp ∧ sp ≤ 1000) ∧ ks.length ≤ 1000 ∧ szB (.row sp ks) ∧ goodS ks
  | .col sp ks => (0 ≤ sp ∧ sp ≤ 1000) ∧ ks.length ≤ 1000 ∧ szB (.col sp ks) ∧ goodS ks
  | .rng n s => szB (.rng n s) ∧ szB s ∧ s.good
def goodS : List Shp → Prop
  | [] => True
  | k :: r => k.good ∧ goodS r
end
theorem Shp.good.szB {s : Shp} (h : s.good) : szB s := by
  cases s with
  | gly n a b => rw [Shp.good] at h; unfold Go.Proofs.YtmiokllpdmmfhaaGreat.szB; rw [Shp.size]; dsimp only; omega
  | gap n => rw [Shp.good] at h; unfold Go.Proofs.YtmiokllpdmmfhaaGreat.szB; rw [Shp.size]; dsimp only; omega
  | ovl n a b => rw [Shp.good] at h; unfold Go.Proofs.YtmiokllpdmmfhaaGreat.szB; rw [Shp.size]; dsimp only; omega
  | row sp ks => rw [Shp.good] at h; exact h.2.2.1
  | col sp ks => rw [Shp.good] at h; exact h.2.2.1
  | rng n s => rw [Shp.good] at h; exact h.1
theorem goodS.mem : ∀ {ks : List Shp}, goodS ks → ∀ k ∈ ks, k.good
  | x :: r, h, k, hk => by
    rw [goodS] at h
    rcases List.mem_cons.1 hk with rfl | hk
    · exact h.1
    · exact goodS.mem h.2 k hk
mutual
theorem size_ok : ∀ (s : Shp), s.good → SzOk s
  | .gly n a b, h => by
    rw [Shp.good] at h
    intro w arg hv
    injection hv with _ e
    subst e
    have := gsize_any n.kind n.depth n.sign n.turn n.mirror n.state n.min n.max a b w (by omega) (by omega)
    show Calls Tryz.prog 216 _ w _
    unfold GotSz; rw [Shp.size]; exact this
  | .gap n, h => by
    rw [Shp.good] at h
    intro w arg hv
    injection hv with _ e
    subst e
    have := gapsize_any n.kind n.depth n.sign n.turn n.mirror n.state n.min n.max w (by omega)
    show Calls Tryz.prog 218 _ w _
    unfold GotSz; rw [Shp.size]; exact this
  | .ovl n1 a b n2 c d, h => by
    rw [Shp.good] at h
    exact ovlsize_any n1 a b n2 c d (by omega) (by omega)
  | .row sp ks, h => by
    rw [Shp.good] at h
    exact rowsize_any sp ks h.1 h.2.1 (fun k hk => (goodS.mem h.2.2.2 k hk).szB) (size_oks ks h.2.2.2)
  | .col sp ks, h => by
    rw [Shp.good] at h
    exact colsize_any sp ks h.1 h.2.1 (fun k hk => (goodS.mem h.2.2.2 k hk).szB) (size_oks ks h.2.2.2)
  | .rng n s, h => by
    rw [Shp.good] at h
    exact rngsize_any n s h.2.1 (size_ok s h.2.2)
theorem size_oks : ∀ (ks : List Shp), goodS ks → ∀ k ∈ ks, SzOk k
  | [], _, k, hk => by simp at hk
  | x :: r, h, k, hk => by
    rw [goodS] at h
    rcases List.mem_cons.1 hk with hk | hk
    · rw [hk]; exact size_ok x h.1
    · exact size_oks r h.2 k hk
end
open Go.RowKit
mutual
def ShP (P : Nat → Prop) (w : World) : Shp → Value → Prop
  | .gly n a b, v => v = glyphV n a b
  | .gap n, v => v = gapV n
  | .ovl n1 w1 h1 n2 w2 h2, v => v = .iface 206 (.agg #[.int .i64 n1.kind, .int .i64 n1.depth, .int .i64 n1.sign, .int .i64 n1.turn, .bool n1.mirror, .int .i64 n1.state, .int .i64 n1.min, .int .i64 n1.max, .int .i64 w1, .int .i64 h1, .int .i64 n2.kind, .int .i64 n2.depth, .int .i64 n2.sign, .int .i64 n2.turn, .bool n2.mirror, .int .i64 n2.state, .int .i64 n2.min, .int .i64 n2.max, .int .i64 w2, .int .i64 h2])
  | .row sp ks, v => ∃ A c, v = .iface 209 (.agg #[.int .i64 sp, .slice A ks.length c]) ∧ ks.length ≤ c ∧ c ≤ maxLen ∧ ShPs P w A 0 ks
  | .col sp ks, v => ∃ A c, v = .iface 210 (.agg #[.int .i64 sp, .slice A ks.length c]) ∧ ks.length ≤ c ∧ c ≤ maxLen ∧ ShPs P w A 0 ks
  | .rng n s, v => ∃ u, v = .iface 212 (.agg #[.int .i64 n.kind, .int .i64 n.depth, .int .i64 n.sign, .int .i64 n.turn, .bool n.mirror, .int .i64 n.state, .int .i64 n.min, .int .i64 n.max, u]) ∧ ShP P w s u
def ShPs (P : Nat → Prop) (w : World) (A : Option Addr) : Nat → List Shp → Prop
  | _, [] => True
  | i, k :: r => (∃ b o u, A = some ⟨b, o, none⟩ ∧ P b ∧ w.cell? ⟨b, o + i, none⟩ = some u ∧ ShP P w k u) ∧ ShPs P w A (i + 1) r
end
mutual
theorem ShP.keep {P Q : Nat → Prop} {w w' : World} (hc : ∀ b o, P b → w'.cell? ⟨b, o, none⟩ = w.cell? ⟨b, o, none⟩) (hq : ∀ b, P b → Q b) : ∀ (s : Shp) (v : Value), ShP P w s v → ShP Q w' s v
  | .gly _ _ _, _, h => h
  | .gap _, _, h => h
  | .ovl _ _ _ _ _ _, _, h => h
  | .row _ ks, _, ⟨A, c, e, h1, h2, h3⟩ => ⟨A, c, e, h1, h2, ShPs.keep hc hq A 0 ks h3⟩
  | .col _ ks, _, ⟨A, c, e, h1, h2, h3⟩ => ⟨A, c, e, h1, h2, ShPs.keep hc hq A 0 ks h3⟩
  | .rng _ s, _, ⟨u, e, h⟩ => ⟨u, e, ShP.keep hc hq s u h⟩
theorem ShPs.keep {P Q : Nat → Prop} {w w' : World} (hc : ∀ b o, P b → w'.cell? ⟨b, o, none⟩ = w.cell? ⟨b, o, none⟩) (hq : ∀ b, P b → Q b) (A : Option Addr) : ∀ (i : Nat) (ks : List Shp), ShPs P w A i ks → ShPs Q w' A i ks
  | _, [], _ => trivial
  | i, k :: r, ⟨⟨b, o, u, e, hp, h1, hk⟩, hr⟩ => ⟨⟨b, o, u, e, hq b hp, (hc b _ hp).trans h1, ShP.keep hc hq k u hk⟩, ShPs.keep hc hq A (i + 1) r hr⟩
end
mutual
theorem ShP.shv {P : Nat → Prop} {w : World} (hp : ∀ b, P b → b < w.heap.size) : ∀ (s : Shp) (v : Value), ShP P w s v → ShV w s v
  | .gly _ _ _, _, h => h
  | .gap _, _, h => h
  | .ovl _ _ _ _ _ _, _, h => h
  | .row _ ks, _, ⟨A, c, e, h1, h2, h3⟩ => ⟨A, c, e, h1, h2, ShPs.shv hp A 0 ks h3⟩
  | .col _ ks, _, ⟨A, c, e, h1, h2, h3⟩ => ⟨A, c, e, h1, h2, ShPs.shv hp A 0 ks h3⟩
  | .rng _ s, _, ⟨u, e, h⟩ => ⟨u, e, ShP.shv hp s u h⟩
theorem ShPs.shv {P : Nat → Prop} {w : World} (hp : ∀ b, P b → b < w.heap.size) (A : Option Addr) : ∀ (i : Nat) (ks : List Shp), ShPs P w A i ks → ShVs w A i ks
  | _, [], _ => trivial
  | i, k :: r, ⟨⟨b, o, u, e, h, h1, hk⟩, hr⟩ => ⟨⟨b, o, u, e, hp b h, h1, ShP.shv hp k u hk⟩, ShPs.shv hp A (i + 1) r hr⟩
end
theorem ShPs.of {P : Nat → Prop} {w : World} {A : Option Addr} : ∀ (ks : List Shp) (i : Nat), (∀ j k, ks[j]? = some k → ∃ b o u, A = some ⟨b, o, none⟩ ∧ P b ∧ w.cell? ⟨b, o + (i + j), none⟩ = some u ∧ ShP P w k u) → ShPs P w A i ks
  | [], _, _ => trivial
  | k :: r, i, h => ⟨by simpa using h 0 k rfl, ShPs.of r (i + 1) (fun j q hq => by
      have := h (j + 1) q (by simpa using hq)
      rwa [show i + (j + 1) = i + 1 + j by omega] at this)⟩
theorem ShPs.at_ {P : Nat → Prop} {w : World} {A : Option Addr} : ∀ (ks : List Shp) (i j : Nat) (k : Shp), ShPs P w A i ks → ks[j]? = some k → ∃ b o u, A = some ⟨b, o, none⟩ ∧ P b ∧ w.cell? ⟨b, o + (i + j), none⟩ = some u ∧ ShP P w k u
  | [], _, _, _, _, h => by simp at h
  | x :: r, i, 0, k, ⟨h, _⟩, hk => by injection hk with hk; subst hk; exact h
  | x :: r, i, j + 1, k, ⟨_, h⟩, hk => by
    obtain ⟨b, o, u, h1, h2, h3, h4⟩ := ShPs.at_ r (i + 1) j k h hk
    exact ⟨b, o, u, h1, h2, by rw [show i + (j + 1) = i + 1 + j by omega]; exact h3, h4⟩
theorem ShP.iface {P : Nat → Prop} {w : World} {s : Shp} {v : Value} (h : ShP P w s v) : ∃ arg, v = .iface (tyOf s) arg := by
  cases s with
  | gly n a b => exact ⟨_, h⟩
  | gap n => exact ⟨_, h⟩
  | ovl => exact ⟨_, h⟩
  | row sp ks => obtain ⟨A, c, e, _⟩ := h; exact ⟨_, e⟩
  | col sp ks => obtain ⟨A, c, e, _⟩ := h; exact ⟨_, e⟩
  | rng n s => obtain ⟨u, e, _⟩ := h; exact ⟨_, e⟩
def GlyOf (L : Lm) (u : Nd) (a b : Int) : Prop := u.kind = 1 ∧ (0 ≤ u.turn ∧ u.turn ≤ 3) ∧ ∃ k sg, u.sign = ((k : Nat) : Int) ∧ L.ms[k]? = some sg ∧ sizeR ⟨L.per, [sg.s]⟩ 0 u.turn = (a, b, 0)
mutual
def ShOf (L : Lm) (cw : Bool) : Shp → Nd → List Nd → Prop
  | .gly n a b, u, _ => n = u ∧ GlyOf L u a b
  | .gap n, u, _ => n = u ∧ u.kind = 6
  | .ovl n1 a b n2 c d, u, bl => u.kind = 4 ∧ bl = [n1, n2] ∧ GlyOf L n1 a b ∧ GlyOf L n2 c d
  | .row sp ks, u, bl => u.kind = 2 ∧ (0 ≤ u.depth ∧ u.depth ≤ 5) ∧ sp = 4 * (5 - u.depth) ∧ ShsOf L cw ks bl
  | .col sp ks, u, bl => u.kind = 3 ∧ (0 ≤ u.depth ∧ u.depth ≤ 5) ∧ sp = 4 * (5 - u.depth) ∧ ShsOf L cw ks bl
  | .rng n (.row sp ks), u, bl => n = u ∧ u.kind = 5 ∧ cw = false ∧ sp = 20 ∧ ShsOf L cw ks bl
  | .rng n (.col sp ks), u, bl => n = u ∧ u.kind = 5 ∧ cw = true ∧ sp = 20 ∧ ShsOf L cw ks bl
  | .rng _ _, _, _ => False
def ShsOf (L : Lm) (cw : Bool) : List Shp → List Nd → Prop
  | [], ns => ns = []
  | k :: r, ns => ∃ u bl rest, ns = u :: (bl ++ rest) ∧ spanN ns u.depth 0 = bl.length ∧ ShOf L cw k u bl ∧ ShsOf L cw r rest
end
def FreshB (w w' : World) : Nat → Prop := fun b => w.heap.size ≤ b ∧ b < w'.heap.size
def GotSh (k : Shp) (w : World) (e : Ending) (w' : World) : Prop := ∃ v, e = .returned v ∧ ShP (FreshB w w') w' k v ∧ Below w.heap.size w w'
def GotShs (ks : List Shp) (w : World) (e : Ending) (w' : World) : Prop := ∃ A c, e = .returned (.slice A ks.length c) ∧ ks.length ≤ c ∧ c ≤ maxLen ∧ ShPs (FreshB w w') w' A 0 ks ∧ Below w.heap.size w w'
def ShapeOk (L : Lm) (cw mw : Bool) (a1 a2 b1 b2 pw qw : Nat) (k : Shp) : Prop := ∀ (u : Nd) (bl : List Nd) (w : World) (A : Option Addr) (c : Nat), ShOf L cw k u bl → LmOk w L → NdsAt w A bl → bl.length ≤ c → c ≤ maxLen →
  Calls Tryz.prog 94 #[.agg #[.int .i64 L.per, .slice L.A L.ms.length L.cap, .bool cw, .bool mw, .func (.func a1) #[] #[], .func (.func a2) #[] #[], .func (.func 172) #[] #[.pointer (some ⟨pw, 0, none⟩)], .func (.func b1) #[] #[], .func (.func b2) #[] #[], .func (.func 172) #[] #[.pointer (some ⟨qw, 0, none⟩)]], u.val, .slice A bl.length c] w (GotSh k w)
def ShapesOk (L : Lm) (cw mw : Bool) (a1 a2 b1 b2 pw qw : Nat) (ks : List Shp) : Prop := ∀ (ns : List Nd) (w : World) (A : Option Addr) (c : Nat), ShsOf L cw ks ns → LmOk w L → NdsAt w A ns → ns.length ≤ c → c ≤ maxLen →
  Calls Tryz.prog 54 #[.agg #[.int .i64 L.per, .slice L.A L.ms.length L.cap, .bool cw, .bool mw, .func (.func a1) #[] #[], .func (.func a2) #[] #[], .func (.func 172) #[] #[.pointer (some ⟨pw, 0, none⟩)], .func (.func b1) #[] #[], .func (.func b2) #[] #[], .func (.func 172) #[] #[.pointer (some ⟨qw, 0, none⟩)]], .slice A ns.length c] w (GotShs ks w)
end Go.Proofs.YtmiokllpdmmfhaaGreat
