/-
  The specification's error of a node by itself (own).
-/
import Derived.Test.YtbfedahonfjpfaaGPar
import Derived.Deep.DeepCutAuto
namespace Go.Proofs.Ytbfedahonfjpfaa
open Go.RowKit

/-- the depth of a node behind the node before it, as the specification has it -/
def badD (ns : List Nd) (i : Nat) (d : Int) : Prop := 0 < i ∧ ((getN ns (i - 1)).depth + 1 < d ∨ (leafB (getN ns (i - 1)).kind = true ∧ (getN ns (i - 1)).depth < d))
instance (ns : List Nd) (i : Nat) (d : Int) : Decidable (badD ns i d) := by unfold badD; infer_instance
def kindErr (l : Li) (u : Nd) : Int := if u.kind = 1 then glyphErr l u else if u.kind = 6 then gapErr u else plainErr u
def ownErr (l : Li) (ns : List Nd) (i : Nat) (u : Nd) : Int :=
  if u.kind < 1 ∨ 7 < u.kind then 20
  else if u.depth < 0 ∨ 4 < u.depth ∨ (i = 0 ∧ 0 < u.depth) then 21
  else if badD ns i u.depth then 21
  else kindErr l u

theorem leaf_is (k : Int) (w : World) (r : Bool) (h : leafB k = r) : Calls Try.prog 97 #[.int .i64 k] w fun e w' => e = .returned (.bool r) ∧ w = w' := by
  rw [← h]; exact leaf_any k w

set_option maxRecDepth 100000 in
set_option maxHeartbeats 8000000 in
theorem rown_any (L : Lm) (A : Option Addr) (cap i : Nat) (ns : List Nd) (u : Nd) (w : World) (hl : LmOk w L) (hn : NdsAt w A ns) (hsm : ns.length ≤ 1000000) (hi : ns[i]? = some u) (hpd : ∀ x ∈ ns.take i, 0 ≤ x.depth ∧ x.depth ≤ 4) :
    Calls Try.prog 61 #[L.val, .agg #[.slice A ns.length cap], .int .i64 i] w fun e w' => e = .returned (.int .i64 (ownErr L.li ns i u)) ∧ Below w.heap.size w w' := by
  have hin : i < ns.length := (List.getElem?_eq_some_iff.1 hi).1
  have HL := Lib.hid hl
  have HNS := Lib.hid hn
  obtain ⟨b, o, hA, hblt, hva⟩ := hn i u hi
  subst hA
  obtain ⟨y0, y1, y2, y3, y4, y5, y6, y7⟩ := hva
  obtain ⟨N, hN⟩ : ∃ N, N = ns.length := ⟨_, rfl⟩
  have HN := Lib.hid hN
  obtain ⟨R, hR⟩ : ∃ R, R = ownErr L.li ns i u := ⟨_, rfl⟩
  have HE := Lib.hid (show R = if u.kind < 1 ∨ 7 < u.kind then 20 else if u.depth < 0 ∨ 4 < u.depth ∨ (i = 0 ∧ 0 < u.depth) then 21 else if badD ns i u.depth then 21 else kindErr L.li u from hR)
  have HPD := Lib.hid hpd
  rw [← hR]
  rw [← hN] at hin hsm ⊢
  unfold Lm.val
  clear hn hl hi hN hR hpd
  obtain ⟨kind, depth, sign, turn, mirror, state, mn, mx⟩ := u
  dsimp only at y0 y1 y2 y3 y4 y5 y6 y7 HE
  obtain ⟨W, hW⟩ : ∃ W, W = ((w.alloc (.cells #[.int .i64 L.per, .slice L.A L.ms.length L.cap] 24)).alloc (.cells #[.slice (some ⟨b, o, none⟩) N cap] 27)).alloc (.cells #[.int .i64 kind, .int .i64 depth, .int .i64 sign, .int .i64 turn, .bool mirror, .int .i64 state, .int .i64 mn, .int .i64 mx] 78) := ⟨_, rfl⟩
  have HB := Lib.hid (show Below w.heap.size w W from hW ▸ (two_under _ _ _).alloc (by simp; omega) _)
  have hkp := Lib.hid (below_alloc ((w.alloc (.cells #[.int .i64 L.per, .slice L.A L.ms.length L.cap] 24)).alloc (.cells #[.slice (some ⟨b, o, none⟩) N cap] 27)) (.cells #[.int .i64 kind, .int .i64 depth, .int .i64 sign, .int .i64 turn, .bool mirror, .int .i64 state, .int .i64 mn, .int .i64 mx] 78))
  have HX0 := Lib.hid (show W.heap[w.heap.size]? = some (.cells #[.int .i64 L.per, .slice L.A L.ms.length L.cap] 24 (0, 0)) by rw [hW]; refine blk_keep hkp.out ?_; rw [heap_alloc_other _ _ _ (by simp)]; exact heap_alloc_new _ _)
  have HX1 := Lib.hid (show W.heap[w.heap.size + 1]? = some (.cells #[.slice (some ⟨b, o, none⟩) N cap] 27 (0, 0)) by
    rw [hW]; refine blk_keep hkp.out ?_
    have := heap_alloc_new (w.alloc (.cells #[.int .i64 L.per, .slice L.A L.ms.length L.cap] 24)) (.cells #[.slice (some ⟨b, o, none⟩) N cap] 27); simpa using this)
  have HX2 := Lib.hid (show W.heap[w.heap.size + 1 + 1]? = some (.cells #[.int .i64 kind, .int .i64 depth, .int .i64 sign, .int .i64 turn, .bool mirror, .int .i64 state, .int .i64 mn, .int .i64 mx] 78 (0, 0)) by
    rw [hW]
    have := heap_alloc_new ((w.alloc (.cells #[.int .i64 L.per, .slice L.A L.ms.length L.cap] 24)).alloc (.cells #[.slice (some ⟨b, o, none⟩) N cap] 27)) (.cells #[.int .i64 kind, .int .i64 depth, .int .i64 sign, .int .i64 turn, .bool mirror, .int .i64 state, .int .i64 mn, .int .i64 mx] 78); simpa using this)
  clear hkp
  by_cases h1 : kind < 1
  · have HF := Lib.hid (show R = 20 by rw [HE.out, if_pos (.inl h1)])
    clear HE
    go_enter Try.func61, Try.ntmps61
    go_wp2
    go_ret
    exact ⟨of_int HF.out.symm, hW ▸ HB.out⟩
  by_cases h2 : 7 < kind
  · have HF := Lib.hid (show R = 20 by rw [HE.out, if_pos (.inr h2)])
    clear HE
    go_enter Try.func61, Try.ntmps61
    go_wp2
    go_ret
    exact ⟨of_int HF.out.symm, hW ▸ HB.out⟩
  by_cases h3 : depth < 0
  · have HF := Lib.hid (show R = 21 by rw [HE.out, if_neg (by omega), if_pos (.inl h3)])
    clear HE
    go_enter Try.func61, Try.ntmps61
    go_wp2
    go_ret
    exact ⟨of_int HF.out.symm, hW ▸ HB.out⟩
  by_cases h4 : 4 < depth
  · have HF := Lib.hid (show R = 21 by rw [HE.out, if_neg (by omega), if_pos (.inr (.inl h4))])
    clear HE
    go_enter Try.func61, Try.ntmps61
    go_wp2
    go_ret
    exact ⟨of_int HF.out.symm, hW ▸ HB.out⟩
  by_cases h5 : i = 0 ∧ 0 < depth
  · have HF := Lib.hid (show R = 21 by rw [HE.out, if_neg (by omega), if_pos (.inr (.inr h5))])
    have hi0 : ((i : Int) == 0) = true := by simp [h5.1]
    have hd0 : decide (0 < depth) = true := decide_eq_true h5.2
    clear HE h5
    go_enter Try.func61, Try.ntmps61
    go_wp2
    go_ret
    exact ⟨of_int HF.out.symm, hW ▸ HB.out⟩
  have HE2 := Lib.hid (show R = if badD ns i depth then 21 else kindErr L.li ⟨kind, depth, sign, turn, mirror, state, mn, mx⟩ by rw [HE.out, if_neg (by omega), if_neg (by omega)])
  clear HE
  have hd1 : decide (kind < 1) = false := decide_eq_false h1
  have hd2 : decide (7 < kind) = false := decide_eq_false h2
  have hd3 : decide (depth < 0) = false := decide_eq_false h3
  have hd4 : decide (4 < depth) = false := decide_eq_false h4
  go_enter Try.func61, Try.ntmps61
  go_upto_region 4 with fail
  rw [← hW]
  have x0 := cell_of_blk HX2.out 0
  have x1 := cell_of_blk HX2.out 1
  have t0 := cell_of_blk HX1.out 0
  simp at x0 x1 t0
  clear hW
  go_cut [39] (fun s wx => s = .bool false ∧ wx = W)
  case first =>
    by_cases hi : i = 0
    · have hi0 : ((i : Int) == 0) = true := by simp [hi]
      have hd0 : decide (0 < depth) = false := decide_eq_false (by omega)
      clear hi
      go_wp2_with fail
      go_meet
      exact ⟨rfl, rfl⟩
    · have hi0 : ((i : Int) == 0) = false := by simp [hi]
      clear hi
      go_wp2_with fail
      go_meet
      exact ⟨rfl, rfl⟩
  case rest =>
  obtain ⟨rfl, rfl⟩ := hcut
  obtain ⟨W, rfl⟩ : ∃ W, W = wc := ⟨_, rfl⟩
  have hws2 : w.heap.size + 1 + 1 < W.heap.size := (Array.getElem?_eq_some_iff.1 HX2.out).1
  have hws1 : w.heap.size + 1 < W.heap.size := by omega
  have hws0 : w.heap.size < W.heap.size := by omega
  have HPV := Lib.hid (fun (h : 0 < i) => show ∃ x : Nd, getN ns (i - 1) = x ∧ (0 ≤ x.depth ∧ x.depth ≤ 4) ∧ NdAt W b (o + (i - 1) * 8) x by
    obtain ⟨x, hx⟩ : ∃ x, ns[i - 1]? = some x := ⟨_, List.getElem?_eq_getElem (by have := HN.out; omega)⟩
    obtain ⟨b', o', e, hb', hv⟩ := HNS.out (i - 1) x hx
    injection e with e; injection e with e1 e2
    subst e1 e2
    exact ⟨x, getN_at hx, HPD.out x (List.mem_of_getElem? (i := i - 1) (by rw [List.getElem?_take, if_pos (by omega)]; exact hx)), hv.below HB.out hb'⟩)
  by_cases hbad : badD ns i depth
  · have HF := Lib.hid (show R = 21 by rw [HE2.out, if_pos hbad])
    obtain ⟨hi0, hbad⟩ := hbad
    obtain ⟨x, hx, hxd, hva⟩ := HPV.out hi0
    rw [hx] at hbad
    obtain ⟨q, hq⟩ : ∃ q, i = q + 1 := ⟨i - 1, by omega⟩
    have hiq : ((i : Int) - 1) = (q : Int) := by omega
    rw [show i - 1 = q by omega] at hva
    obtain ⟨p0, p1, p2, p3, p4, p5, p6, p7⟩ := hva
    have hqN : q < N := by omega
    have hdi : decide ((0 : Int) < (i : Int)) = true := decide_eq_true (by omega)
    have hdi2 : decide (0 < i) = true := decide_eq_true (by omega)
    obtain ⟨pk, pd, ps, pt, pm, pst, pmn, pmx⟩ := x
    dsimp only at hbad hxd p0 p1 p2 p3 p4 p5 p6 p7
    clear HE2 HPV hx hq hi0
    have hwp : IntKind.i64.wrap (pd + 1) = pd + 1 := IntWalk.i64_in _ (by omega)
    by_cases ha : pd + 1 < depth
    · have hda : decide (pd + 1 < depth) = true := decide_eq_true ha
      clear hbad
      go_wp2_with fail
      go_ret
      exact ⟨of_int HF.out.symm, below_more HB.out (below_alloc _ _)⟩
    · have hda : decide (pd + 1 < depth) = false := decide_eq_false ha
      have hbb : leafB pk = true ∧ pd < depth := by rcases hbad with h | h; exact absurd h ha; exact h
      have hdb : decide (pd < depth) = true := decide_eq_true hbb.2
      have HLF := Lib.hid (fun wx => leaf_is pk wx true hbb.1)
      clear hbad ha hbb
      go_wp2_with fail
      refine (HLF.out _).mono ?_; rintro e w' ⟨rfl, rfl⟩
      go_wp2_with fail
      go_ret
      exact ⟨of_int HF.out.symm, below_more HB.out (below_alloc _ _)⟩
  have HE3 := Lib.hid (show R = kindErr L.li ⟨kind, depth, sign, turn, mirror, state, mn, mx⟩ by rw [HE2.out, if_neg hbad])
  have HBD := Lib.hid (fun (x : Nd) (hi0 : 0 < i) (hx : getN ns (i - 1) = x) => show ¬ (x.depth + 1 < depth) ∧ (leafB x.kind = true → ¬ x.depth < depth) by
    have h : ¬ badD ns i depth := hbad
    unfold badD at h
    rw [hx] at h
    exact ⟨fun e => h ⟨hi0, .inl e⟩, fun e e2 => h ⟨hi0, .inr ⟨e, e2⟩⟩⟩)
  clear HE2 hbad
  obtain ⟨B, hdi2⟩ : ∃ B, decide (0 < i) = B := ⟨_, rfl⟩
  have HBI := Lib.hid hdi2
  go_upto_if 41 with fail
  clear hdi2
  go_cut [8] (fun _ wx => Hid (Below W.heap.size W wx))
  case first =>
    cases B with
    | false =>
      go_wp2_with fail
      go_meet
      exact Lib.hid (Below.refl _ _)
    | true =>
      have hi : ¬ i = 0 := by have := of_decide_eq_true HBI.out; omega
      obtain ⟨x, hx, hxd, hva⟩ := HPV.out (by omega)
      obtain ⟨hn1, hn2⟩ := HBD.out x (by omega) hx
      obtain ⟨q, hq⟩ : ∃ q, i = q + 1 := ⟨i - 1, by omega⟩
      have hiq : ((i : Int) - 1) = (q : Int) := by omega
      rw [show i - 1 = q by omega] at hva
      obtain ⟨p0, p1, p2, p3, p4, p5, p6, p7⟩ := hva
      have hqN : q < N := by omega
      obtain ⟨pk, pd, ps, pt, pm, pst, pmn, pmx⟩ := x
      dsimp only at hn1 hn2 hxd p0 p1 p2 p3 p4 p5 p6 p7
      have hwp : IntKind.i64.wrap (pd + 1) = pd + 1 := IntWalk.i64_in _ (by omega)
      have hda : decide (pd + 1 < depth) = false := decide_eq_false hn1
      clear HPV HBD hx hq hi
      obtain ⟨lf, hlf⟩ : ∃ lf, leafB pk = lf := ⟨_, rfl⟩
      have HLF := Lib.hid (fun wx => leaf_is pk wx lf hlf)
      cases lf with
      | true =>
        have hdb : decide (pd < depth) = false := decide_eq_false (hn2 hlf)
        clear hn2 hlf
        go_wp2_with fail
        refine (HLF.out _).mono ?_; rintro e w' ⟨rfl, rfl⟩
        go_wp2_with fail
        go_meet
        exact Lib.hid (below_alloc _ _)
      | false =>
        clear hn2 hlf
        go_wp2_with fail
        refine (HLF.out _).mono ?_; rintro e w' ⟨rfl, rfl⟩
        go_wp2_with fail
        go_meet
        exact Lib.hid (below_alloc _ _)
  case rest =>
  obtain ⟨wr, rfl⟩ : ∃ wr, wr = wc := ⟨_, rfl⟩
  have HBR := Lib.hid (below_more HB.out hcut.out)
  have HY0 := Lib.hid (blk_keep hcut.out HX0.out)
  have HY2 := Lib.hid (blk_keep hcut.out HX2.out)
  clear hcut x0 x1 t0 HX0 HX1 HX2 HPV HBD hd1 hd2 hd3 hd4 hws0 hws1 hws2 h5
  have hw0 : w.heap.size < wr.heap.size := (Array.getElem?_eq_some_iff.1 HY0.out).1
  have hw2 : w.heap.size + 1 + 1 < wr.heap.size := (Array.getElem?_eq_some_iff.1 HY2.out).1
  have l0 := cell_of_blk HY0.out 0
  have l1 := cell_of_blk HY0.out 1
  have x0 := cell_of_blk HY2.out 0
  have x1 := cell_of_blk HY2.out 1
  have x2 := cell_of_blk HY2.out 2
  have x3 := cell_of_blk HY2.out 3
  have x4 := cell_of_blk HY2.out 4
  have x5 := cell_of_blk HY2.out 5
  have x6 := cell_of_blk HY2.out 6
  have x7 := cell_of_blk HY2.out 7
  simp at l0 l1 x0 x1 x2 x3 x4 x5 x6 x7
  have HZ := Lib.hid (fun (a b : Obj) => show Below w.heap.size w (wr.alloc a) from below_more HBR.out (below_alloc _ _))
  by_cases hk1 : kind = 1
  · have hkb : (kind == 1) = true := by simpa using hk1
    have HEG := Lib.hid (show R = glyphErr L.li ⟨kind, depth, sign, turn, mirror, state, mn, mx⟩ by rw [HE3.out]; unfold kindErr; rw [if_pos hk1])
    clear HE3 hk1
    have hlen : L.ms.length = L.li.signs.length := by rw [show L.li.signs = L.signs from rfl, Lm.length_signs]
    have HGS := Lib.hid (fun k (m : Sm) (hk : L.ms[k]? = some m) => show L.li.signs[k]? = some m.s from Lm.getElem_signs hk)
    have hlc := HL.out.len
    have hcap := HL.out.cap
    unfold maxLen at hcap
    obtain ⟨l, hli⟩ : ∃ l, l = L.li := ⟨_, rfl⟩
    rw [← hli] at hlen HGS HEG
    obtain ⟨M, hM⟩ : ∃ M, M = L.ms.length := ⟨_, rfl⟩
    have HM := Lib.hid hM
    rw [← hM] at hlc hlen l1
    clear hli hM
    have HG1 := Lib.hid (show sign < 0 ∨ (M : Int) ≤ sign → R = 23 from fun h => by rw [HEG.out]; unfold glyphErr; rw [if_pos (by dsimp only; omega)])
    have HG2 := Lib.hid (show ¬ (sign < 0 ∨ (M : Int) ≤ sign) → turn < 0 ∨ 3 < turn ∨ state < 0 ∨ 3 < state → R = 20 from fun h h' => by
      rw [HEG.out]; unfold glyphErr; rw [if_neg (by dsimp only; omega), if_pos (by dsimp only; omega)])
    have HG3 := Lib.hid (show ¬ (sign < 0 ∨ (M : Int) ≤ sign) → ¬ (turn < 0 ∨ 3 < turn ∨ state < 0 ∨ 3 < state) → R = if mirror && (l.signs[sign.toNat]?.any (·.even)) then 20 else if mn = 0 ∧ mx = 0 then 0 else 20 from fun h h' => by
      rw [HEG.out]; unfold glyphErr; rw [if_neg (by dsimp only; omega), if_neg (by dsimp only; omega)])
    clear HEG hlen
    by_cases g1 : sign < 0
    · have HF := Lib.hid (show R = 23 from HG1.out (by omega))
      clear HG1 HG2 HG3
      go_wp2_with fail
      go_ret
      exact ⟨of_int HF.out.symm, below_more HBR.out (below_alloc _ _)⟩
    by_cases g2 : (M : Int) ≤ sign
    · have HF := Lib.hid (show R = 23 from HG1.out (by omega))
      clear HG1 HG2 HG3
      go_wp2_with fail
      go_ret
      exact ⟨of_int HF.out.symm, below_more HBR.out (below_alloc _ _)⟩
    by_cases g3 : turn < 0
    · have HF := Lib.hid (show R = 20 from HG2.out (by omega) (by omega))
      clear HG1 HG2 HG3
      go_wp2_with fail
      go_ret
      exact ⟨of_int HF.out.symm, below_more HBR.out (below_alloc _ _)⟩
    by_cases g4 : 3 < turn
    · have HF := Lib.hid (show R = 20 from HG2.out (by omega) (by omega))
      clear HG1 HG2 HG3
      go_wp2_with fail
      go_ret
      exact ⟨of_int HF.out.symm, below_more HBR.out (below_alloc _ _)⟩
    by_cases g5 : state < 0
    · have HF := Lib.hid (show R = 20 from HG2.out (by omega) (by omega))
      clear HG1 HG2 HG3
      go_wp2_with fail
      go_ret
      exact ⟨of_int HF.out.symm, below_more HBR.out (below_alloc _ _)⟩
    by_cases g6 : 3 < state
    · have HF := Lib.hid (show R = 20 from HG2.out (by omega) (by omega))
      clear HG1 HG2 HG3
      go_wp2_with fail
      go_ret
      exact ⟨of_int HF.out.symm, below_more HBR.out (below_alloc _ _)⟩
    obtain ⟨k, rfl⟩ : ∃ k : Nat, sign = k := ⟨sign.toNat, by omega⟩
    have hk : k < M := by omega
    have HG := Lib.hid (HG3.out (by omega) (by omega))
    clear HG1 HG2 HG3
    obtain ⟨u, hu⟩ : ∃ u, L.ms[k]? = some u := ⟨_, List.getElem?_eq_getElem (by have := HM.out; omega)⟩
    obtain ⟨sb, so, hAs, hsb, hvs, -⟩ := HL.out.signs k u hu
    have hev : l.signs[(k : Int).toNat]?.any (·.even) = u.s.even := by rw [Int.toNat_natCast, HGS.out k u hu]; rfl
    rw [hev] at HG
    have z3 := (HBR.out.cell (p := ⟨sb, so + k * 5 + 3, none⟩) hsb).trans hvs.c3
    rw [hAs] at l1
    have hsw : sb < wr.heap.size := by have := HBR.out.size; omega
    obtain ⟨ev, hE⟩ : ∃ ev, ev = u.s.even := ⟨_, rfl⟩
    rw [← hE] at HG z3
    clear hu hvs hE HGS hev hAs
    cases mirror with
    | false =>
      go_wp2
      all_goals go_ret
      all_goals exact ⟨of_int (by rw [HG.out]; simp [*]), below_more HBR.out (below_alloc _ _)⟩
    | true =>
      cases ev with
      | false =>
        go_wp2
        all_goals go_ret
        all_goals exact ⟨of_int (by rw [HG.out]; simp [*]), below_more HBR.out (below_alloc _ _)⟩
      | true =>
        have HF := Lib.hid (show R = 20 by rw [HG.out]; rfl)
        clear HG
        go_wp2_with fail
        go_ret
        exact ⟨of_int HF.out.symm, below_more HBR.out (below_alloc _ _)⟩
  have hkb : (kind == 1) = false := by simpa using hk1
  by_cases hk6 : kind = 6
  · have hkc : (kind == 6) = true := by simpa using hk6
    have HEG := Lib.hid (show R = gapErr ⟨kind, depth, sign, turn, mirror, state, mn, mx⟩ by rw [HE3.out]; unfold kindErr; rw [if_neg hk1, if_pos hk6])
    clear HE3 hk1 hk6
    by_cases g1 : mn < 0
    · have HF := Lib.hid (show R = 22 by rw [HEG.out]; unfold gapErr; rw [if_pos (.inl g1)])
      clear HEG
      go_wp2_with fail
      go_ret
      exact ⟨of_int HF.out.symm, below_more HBR.out (below_alloc _ _)⟩
    by_cases g2 : mx < mn
    · have HF := Lib.hid (show R = 22 by rw [HEG.out]; unfold gapErr; rw [if_pos (.inr (.inl g2))])
      clear HEG
      go_wp2_with fail
      go_ret
      exact ⟨of_int HF.out.symm, below_more HBR.out (below_alloc _ _)⟩
    by_cases g3 : 9 < mx
    · have HF := Lib.hid (show R = 22 by rw [HEG.out]; unfold gapErr; rw [if_pos (.inr (.inr (.inl g3)))])
      clear HEG
      go_wp2_with fail
      go_ret
      exact ⟨of_int HF.out.symm, below_more HBR.out (below_alloc _ _)⟩
    by_cases g4 : mx < 1
    · have HF := Lib.hid (show R = 22 by rw [HEG.out]; unfold gapErr; rw [if_pos (.inr (.inr (.inr g4)))])
      clear HEG
      go_wp2_with fail
      go_ret
      exact ⟨of_int HF.out.symm, below_more HBR.out (below_alloc _ _)⟩
    have HG2 := Lib.hid (show ∀ (a b : Int) (c : Bool) (d : Int), gapErr ⟨kind, depth, a, b, c, d, mn, mx⟩ = if a = 0 ∧ b = 0 ∧ c = false ∧ d = 0 then 0 else 20 from fun a b c d => by
      unfold gapErr; rw [if_neg (by dsimp only; omega)])
    go_wp2
    all_goals go_ret
    all_goals exact ⟨of_int (by rw [HEG.out, HG2.out]; simp [*]), below_more HBR.out (below_alloc _ _)⟩
  have hkc : (kind == 6) = false := by simpa using hk6
  have HEG := Lib.hid (show ∀ (a b : Int) (c : Bool) (d e f : Int), plainErr ⟨kind, depth, a, b, c, d, e, f⟩ = if a = 0 ∧ b = 0 ∧ c = false ∧ d = 0 ∧ e = 0 ∧ f = 0 then 0 else 20 from fun _ _ _ _ _ _ => rfl)
  have HF2 := Lib.hid (show R = plainErr ⟨kind, depth, sign, turn, mirror, state, mn, mx⟩ by rw [HE3.out]; unfold kindErr; rw [if_neg hk1, if_neg hk6])
  clear HE3 hk1 hk6
  go_wp2
  all_goals go_ret
  all_goals exact ⟨of_int (by rw [HF2.out, HEG.out]; simp [*]), below_more HBR.out (below_alloc _ _)⟩

end Go.Proofs.Ytbfedahonfjpfaa
