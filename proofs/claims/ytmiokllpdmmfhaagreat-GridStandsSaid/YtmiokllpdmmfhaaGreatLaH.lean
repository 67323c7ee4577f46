/-
  Kids and Groups, the program's and the specification's. And what builds on it.
-/
import Derived.Test.YtmiokllpdmmfhaaGreatLaG
import Derived.Test.YtmiokllpdmmfhaaGreatLaF
import Derived.Deep.RegionHeld3
import Derived.Test.YtmiokllpdmmfhaaGreatLaD
import Derived.Test.YtmiokllpdmmfhaaGreatShelfg
import Derived.Shelf.Spec.SlicesGrow
namespace Go.Proofs.YtmiokllpdmmfhaaGreat
open Go.RowKit
def topsL (ns : List Nd) : List Nat := (List.range ns.length).filter (atD ns 0)
theorem rgcheck_is (L : Lm) (A : Option Addr) (cap : Nat) (ns : List Nd) (w : World) (hl : LmOk w L) (hn : NdsAt w A ns) (hc1 : ns.length ≤ cap) (hc : cap ≤ maxLen) (r : Int) (h : textErr L.li ns = r) :
    Calls Tryz.prog 43 #[.agg #[.int .i64 L.per, .slice L.A L.ms.length L.cap], .agg #[.slice A ns.length cap]] w fun e w' => e = .returned (.int .i64 r) ∧ Below w.heap.size w w' := by
  rw [← h]; exact rgcheck_any L A cap ns w hl hn hc1 hc
theorem tw_all {α : Type} {p : α → Bool} : ∀ l : List α, (∀ x ∈ l, p x = true) → l.takeWhile p = l
  | [], _ => rfl
  | x :: r, h => by rw [List.takeWhile_cons, h x (List.mem_cons_self ..), if_pos rfl, tw_all r (fun y hy => h y (List.mem_cons_of_mem _ hy))]
theorem tops_kids {ns : List Nd} (hd : ∀ x ∈ ns, 0 ≤ x.depth) : kidsG ns 0 0 = topsL ns := by
  have h : runN ns 0 0 = ns.length := by
    unfold runN
    rw [List.drop_zero, tw_all _ (fun x hx => by simpa using hd x hx)]
  unfold kidsG topsL
  rw [h, List.range_eq_range']
open Go.RowKit
def GotTextO (w : World) (zs : List Nd) (er : Int) (e : Ending) (w' : World) : Prop :=
  ∃ A k c, e = .returned (.tuple #[.agg #[.slice A k c], .int .i64 er]) ∧ Hid (k = zs.length) ∧ Hid (w'.ownsRow w.heap.size 87 8 (.slice A k c) k (zs.flatMap Nd.cells)) ∧ Below w.heap.size w w'
theorem own_none (w : World) (base : Nat) : w.ownsRow base 87 8 (.slice none 0 0) 0 (List.flatMap Nd.cells []) := World.ownsRow_nil _ _ _ _
open Go.RowKit
theorem infoCNd : (Tryz.prog.info? 87).map (fun i => (i.zero, i.size, i.bytes)) = some (some (.agg #[.int .i64 0, .int .i64 0, .int .i64 0, .int .i64 0, .bool false, .int .i64 0, .int .i64 0, .int .i64 0]), 8, 64) := by kernel_rfl
theorem growNd (n : Nat) (w : World) (hn : n ≤ 2000000) :
    Calls Tryz.prog 192 #[.slice none 0 0, .int .i64 n] w (GotRow w 87 8 0 []) := by
  by_cases h0 : n = 0
  · subst h0
    have h := Any8.slices_Grow_room Tryz.growNd none 0 0 0 w (Nat.le_refl _) (by omega) (by omega) (by omega)
    refine Calls.mono h ?_
    rintro e w' ⟨rfl, rfl⟩
    exact ⟨none, 0, rfl, World.ownsRow_nil _ _ _ _, Below.refl _ _⟩
  · obtain ⟨iv, hi, hz, hs, hb⟩ := info_parts infoCNd
    have h := Any8.slices_Grow_grow Tryz.growNd iv _ hi hz (by rw [hs]; omega) none 0 0 n [] w (Nat.le_refl _) (by omega) (by rw [hb]; omega) (by omega) (by simp) (fun _ => rfl) (fun a h => by cases h)
    refine Calls.mono h ?_
    rintro e w' ⟨rfl, rfl⟩
    refine ⟨_, _, rfl, ?_, ?_⟩
    · have hc : n ≤ grownCap w (0 + n) 0 87 := by have := grownCap_ge w (0 + n) 0 87; omega
      have hm := grownCap_le_maxLen w (0 + n) 0 87 (by unfold maxLen; omega)
      have := World.ownsRow_made (base := w.heap.size) (e := 87) (size := 8) w.drew (#[] ++ Builtin.zeroCells (Value.agg #[.int .i64 0, .int .i64 0, .int .i64 0, .int .i64 0, .bool false, .int .i64 0, .int .i64 0, .int .i64 0]).cells (0 + n - 0) ++ Builtin.zeroCells (Value.agg #[.int .i64 0, .int .i64 0, .int .i64 0, .int .i64 0, .bool false, .int .i64 0, .int .i64 0, .int .i64 0]).cells (grownCap w (0 + n) 0 87 - (0 + n))) (grownCap w (0 + n) 0 87) (Nat.le_refl _) hm (by
        rw [Array.size_append, Array.size_append, size_zeroCells, size_zeroCells]
        have : (Value.agg #[.int .i64 0, .int .i64 0, .int .i64 0, .int .i64 0, .bool false, .int .i64 0, .int .i64 0, .int .i64 0]).cells.size = 8 := rfl
        rw [this]
        rw [Nat.zero_add] at hc ⊢
        simp
        omega)
      exact this
    · exact ((Below.refl _ _).drew).alloc (Nat.le_refl _) _
set_option maxHeartbeats 3200000 in
set_option maxRecDepth 100000 in
theorem concatNd (A : Option Addr) (c : Nat) (ss : List Src) (w : World) (hA : SlicesAt w A ss) (hs : ∀ s ∈ ss, SrcOk 8 w s) (hN : sumN ss ≤ 2000000) (hl : ss.length ≤ 1000000) :
    Calls Tryz.prog 176 #[.slice A ss.length c] w (GotRow w 87 8 (sumN ss) (ss.flatMap (·.xs))) := by
  obtain ⟨iv, hiv, hzv, hsv, hbv⟩ := info_hid infoCNd
  have HA := Lib.hid hA
  have HS := Lib.hid hs
  have HT := Lib.hid (fun k (s : Src) (h : ss[k]? = some s) => sumN_take h)
  obtain ⟨N, hNN⟩ : ∃ N, N = ss.length := ⟨_, rfl⟩
  rw [← hNN] at hl ⊢
  have HN := Lib.hid hNN
  have HTA := Lib.hid (show ss.take N = ss by rw [hNN, List.take_length])
  obtain ⟨M, hM⟩ : ∃ M, M = sumN ss := ⟨_, rfl⟩
  rw [← hM] at hN
  have HM := Lib.hid hM
  have HLE := Lib.hid (fun k => show sumN (ss.take k) ≤ M by rw [hM]; exact sumN_take_le ss k)
  clear hA hs hNN hM
  go_enter Tryz.func176, Tryz.ntmps176
  go_wp2_with fail
  go_loop [3, 5, 11] (fun s _ i => ∃ k t : Nat, k ≤ N ∧ i = .int .i64 k ∧ s = .int .i64 t ∧ t ≤ 2000000 ∧ Hid (t = sumN (ss.take k))) (fun _ _ i => N - (intOf i).toNat)
  case atStart => exact ⟨0, 0, Nat.zero_le _, rfl, rfl, by omega, Lib.hid rfl⟩
  case round =>
    obtain ⟨k, t, hk, rfl, rfl, ht, hts⟩ := hrel
    by_cases hlt : k < N
    · have hget : ss[k]? = some (ss[k]'(by have := HN.out; omega)) := List.getElem?_eq_getElem _
      obtain ⟨s, hs⟩ : ∃ s, s = ss[k]'(by have := HN.out; omega) := ⟨_, rfl⟩
      rw [← hs] at hget
      obtain ⟨g, o, hAe, hg, hc0⟩ := HA.out k s hget
      subst hAe
      have ht2 : t + s.n ≤ 2000000 := by
        have h1 := HT.out k s hget
        have h2 := HLE.out (k + 1)
        have := hts.out
        omega
      have HT2 := Lib.hid (show t + s.n = sumN (ss.take (k + 1)) by rw [HT.out k s hget, hts.out])
      clear hs hget
      obtain ⟨sA, sn, sc, sx⟩ := s
      dsimp only at hc0 ht2 HT2
      go_wp2_with fail
      go_round
      case rel => exact ⟨k + 1, t + sn, by omega, by go_num, by go_num, ht2, HT2⟩
      case measure => simp [intOf]; omega
    · obtain rfl : k = N := by omega
      have HTM := Lib.hid (show t = M by rw [hts.out, HTA.out, HM.out])
      obtain rfl : t = M := HTM.out
      go_wp2_with fail
      refine (growNd t w (by omega)).mono ?_; rintro e w1 ⟨A1, cc, rfl, own1, hb1⟩
      have OWN := Lib.hid own1
      have HB := Lib.hid hb1
      clear own1 hb1
      go_wp2_with fail
      have hws := HB.out.size
      go_loopw [6, 8, 27] (fun v _ i wr => ∃ j d : Nat, j ≤ k ∧ i = .int .i64 j ∧ d ≤ 2000000 ∧ Hid (d = sumN (ss.take j)) ∧ Hid (wr.ownsRow w.heap.size 87 8 v d ((ss.take j).flatMap (·.xs))) ∧ Hid (Below w.heap.size w wr)) (fun _ _ i _ => k - (intOf i).toNat)
      case atStart => exact ⟨0, 0, Nat.zero_le _, rfl, by omega, Lib.hid rfl, OWN, HB⟩
      case round =>
        obtain ⟨j, d, hj, rfl, hd9, hd, hown, hbw⟩ := hrel
        obtain ⟨B, d2, hv, -, -, -, -⟩ := own_slice hown.out
        subst hv
        by_cases hlj : j < k
        · have hget : ss[j]? = some (ss[j]'(by have := HN.out; omega)) := List.getElem?_eq_getElem _
          obtain ⟨s, hs⟩ : ∃ s, s = ss[j]'(by have := HN.out; omega) := ⟨_, rfl⟩
          rw [← hs] at hget
          obtain ⟨g, o, hAe, hg, hc0⟩ := HA.out j s hget
          subst hAe
          have z1 := (hbw.out.cell (p := ⟨g, o + j, none⟩) hg).trans hc0
          have hgw : g < wr.heap.size := Nat.lt_of_lt_of_le hg hbw.out.size
          have HSO := Lib.hid ((HS.out s (List.mem_of_getElem? hget)).below hbw.out)
          have hd2 : d + s.n ≤ 2000000 := by
            have h1 := HT.out j s hget
            have h2 := HLE.out (j + 1)
            have := hd.out
            omega
          have HT2 := Lib.hid (show d + s.n = sumN (ss.take (j + 1)) by rw [HT.out j s hget, hd.out])
          have HF := Lib.hid (show (ss.take (j + 1)).flatMap (·.xs) = (ss.take j).flatMap (·.xs) ++ s.xs by
            obtain ⟨hk', e⟩ := List.getElem?_eq_some_iff.1 hget
            rw [List.take_succ_eq_append_getElem hk', e]; simp)
          clear hs hget hc0
          obtain ⟨sA, sn, sc, sx⟩ := s
          dsimp only at z1 hd2 HT2 HF
          go_wp2_with (first
            | (at_builtin; refine wpList_append_src _ rfl (.tmp 31) (.tmp 32) 25 rfl w.heap.size 87 iv (.agg #[.int .i64 0, .int .i64 0, .int .i64 0, .int .i64 0, .bool false, .int .i64 0, .int .i64 0, .int .i64 0]) 8 64 Tryz.underlying25 hiv.out hzv.out hsv.out hbv.out rfl (by decide) (.slice B d d2) d ((ss.take j).flatMap (·.xs)) rfl ?own0 sA sn sc sx rfl ?l0 ?n0 ?c0 ?o0 ?m0 ?b0 ?s0 (d + sn) rfl ?_))
          case own0 => exact hown.out
          case l0 => have := HSO.out.len; first | exact this | simpa using this
          case n0 => exact HSO.out.none
          case c0 => exact HSO.out.cells
          case o0 => exact HSO.out.one
          case m0 => unfold maxLen; omega
          case b0 => omega
          case s0 => exact hbw.out.size
          intro B2 d3 w3 own3 hg3 _
          have BB := Lib.hid (hbw.out.grown hg3 hbw.out.size (fun g hg => (hown.out.lt g hg).1))
          have OWN3 := Lib.hid (show w3.ownsRow w.heap.size 87 8 (.slice B2 (d + sn) d3) (d + sn) ((ss.take (j + 1)).flatMap (·.xs)) by rw [HF.out]; exact own3)
          clear own3 hg3
          go_wp2_with fail
          go_roundw
          case rel => exact ⟨j + 1, d + sn, by omega, by go_num, hd2, HT2, OWN3, BB⟩
          case measure => simp [intOf]; omega
        · obtain rfl : j = k := by omega
          have HX := Lib.hid (show GotRow w 87 8 (sumN ss) (ss.flatMap (·.xs)) (.returned (.slice B d d2)) wr from
            ⟨B, d2, by rw [hd.out, HTA.out], by have := hown.out; rw [hd.out, HTA.out] at this; exact this, hbw.out⟩)
          go_wp2_with fail
          go_ret
          exact HX.out
open Go.RowKit
def Nd.atK (n : Nd) (k : Int) : Nd := { n with kind := k }
theorem Nd.atK_cells (n : Nd) (k : Int) : (n.atK k).cells = n.cells.set 0 (.int .i64 k) := rfl
def honB (v : Option Nd) : Bool := v.any fun x => x.kind == 7
def plainP (l : List Nd) : List Nd := match l with
  | [] => []
  | u :: r => if u.kind == 7 then u.atK 2 :: r else if u.kind == 5 && honB r.head? then u :: (r.drop 1).map (lowerN 1) else u :: r
theorem plainP_cons (u : Nd) (r : List Nd) : plainP (u :: r) = if u.kind == 7 then u.atK 2 :: r else if u.kind == 5 && honB r.head? then u :: (r.drop 1).map (lowerN 1) else u :: r := rfl
theorem own_src {w : World} {base : Nat} {e : TypeId} {A : Option Addr} {n c size : Nat} {xs : List Value} (h : w.ownsRow base e size (.slice A n c) n xs) (h1 : ∀ u ∈ xs, u.oneCell' = true) : SrcOk size w ⟨A, n, c, xs⟩ := by
  obtain ⟨A2, c2, hv, h2, h3, h4, h5⟩ := own_slice h
  injection hv with e1 e2 e3
  subst e1 e3
  refine ⟨h.1, h5, fun ad e j u hj => ?_, h1, fun ad e _ => ?_⟩
  · obtain ⟨g, rfl, _, _, hc⟩ := h4 ad e
    rw [addr_add, Nat.zero_add]; exact hc j u hj
  · obtain ⟨g, rfl, _, hg, _⟩ := h4 ad e
    exact hg
theorem two_slices (w : World) (s1 s2 : Src) (t : TypeId) : SlicesAt (w.alloc (.cells #[.slice s1.A s1.n s1.c, .slice s2.A s2.n s2.c] t)) (some ⟨w.heap.size, 0, none⟩) [s1, s2] := fun k s hk => by
  have hb := heap_alloc_new w (.cells #[.slice s1.A s1.n s1.c, .slice s2.A s2.n s2.c] t)
  refine ⟨w.heap.size, 0, rfl, (Array.getElem?_eq_some_iff.1 hb).1, ?_⟩
  match k, hk with
  | 0, hk => simp at hk; subst hk; exact cell_of_blk hb 0
  | 1, hk => simp at hk; subst hk; exact cell_of_blk hb 1
def GotNds (w : World) (zs : List Nd) (e : Ending) (w' : World) : Prop :=
  ∃ A k c, e = .returned (.slice A k c) ∧ Hid (k = zs.length) ∧ Hid (NdsAt w' A zs) ∧ k ≤ c ∧ c ≤ maxLen ∧ Below w.heap.size w w'
def regQ (f : List Nd → List Nd) (l : Li) (ns : List Nd) : List Nd × Int :=
  if textErr l ns ≠ 0 then ([], textErr l ns) else ((partsW 0 ns).flatMap (fun p => f p.2), 0)
theorem nds_src {w : World} {b o : Nat} {l : List Nd} (h : NdsAt w (some ⟨b, o, none⟩) l) (hne : 0 < l.length) (c : Nat) : SrcOk 8 w ⟨some ⟨b, o, none⟩, l.length, c, l.flatMap Nd.cells⟩ where
  len := flat_len (f := Nd.cells) (fun _ => rfl) _
  none := fun h => by cases h
  cells := nds_cells h
  one := nds_one
  lt := fun ad e _ => by
    injection e with e; subst e
    obtain ⟨b', o', e, hb, _⟩ := h 0 _ (List.getElem?_eq_getElem hne)
    injection e with e; injection e with e1 e2; subst e1 e2
    exact hb
set_option maxRecDepth 100000 in
set_option maxHeartbeats 4000000 in
theorem plain_any (b o : Nat) (l : List Nd) (w : World) (hn : NdsAt w (some ⟨b, o, none⟩) l) (h1 : 1 ≤ l.length) (h2 : l.length ≤ 1000000)
    (hr : ∀ u, l[0]? = some u → u.kind = 5 → 2 ≤ l.length ∧ (∀ v, l[1]? = some v → v.kind = 7 → 3 ≤ l.length)) (hd : ∀ x ∈ l, 0 ≤ x.depth ∧ x.depth ≤ 4) :
    Calls Tryz.prog 139 #[.slice (some ⟨b, o, none⟩) l.length l.length] w (GotNds w (plainP l)) := by
  obtain ⟨u, r, hl⟩ : ∃ u r, l = u :: r := by cases l with | nil => simp at h1 | cons u r => exact ⟨u, r, rfl⟩
  have h0 : l[0]? = some u := by rw [hl]; rfl
  have hr0 := hr u h0
  obtain ⟨b', o', e, hb, hva⟩ := hn 0 u h0
  injection e with e; injection e with e1 e2; subst e1 e2
  have y0 := hva.c0
  rw [Nat.zero_mul, Nat.add_zero] at y0
  have HNS := Lib.hid hn
  have HDP := Lib.hid hd
  have HCL := Lib.hid (fun wx (hbx : Below w.heap.size w wx) => cloneN_any (some ⟨b, o, none⟩) l.length l wx (hn.below hbx) (Nat.le_refl _) (by unfold maxLen; omega) h2)
  obtain ⟨R, hR⟩ : ∃ R, R = plainP l := ⟨_, rfl⟩
  have HR := Lib.hid hR
  have HL := Lib.hid hl
  have H00 := Lib.hid h0
  rw [← hR]
  obtain ⟨n, hnn⟩ : ∃ n, n = l.length := ⟨_, rfl⟩
  have HN := Lib.hid hnn
  have HNR := Lib.hid (show n = 1 + r.length by rw [hnn, hl]; simp; omega)
  rw [← hnn] at h1 h2 HCL hr0 ⊢
  clear hn hd hva h0 hr hR hl hnn
  by_cases hk7 : u.kind = 7
  · have hkb : (u.kind == 7) = true := by simpa using hk7
    have HP := Lib.hid (show R = u.atK 2 :: r by rw [HR.out, HL.out, plainP_cons, hkb]; rfl)
    obtain ⟨uk, hu⟩ : ∃ uk, uk = u.kind := ⟨_, rfl⟩
    rw [← hu] at hkb y0
    clear hk7 hu hr0
    go_enter Tryz.func139, Tryz.ntmps139
    go_wp2_with fail
    refine (HCL.out w (Below.refl _ _)).mono ?_; rintro e w1 ⟨A1, c1, rfl, hown, hb1⟩
    obtain ⟨g, rfl, hbg, hg, hc1, hcm, hcell, hfr⟩ := own_open hown (by omega)
    have z0 : w1.cell? ⟨g, 0, none⟩ = some (.int .i64 u.kind) := hcell 0 _ (by have := flat_at (f := Nd.cells) (c := 8) (fun _ => rfl) l 0 u H00.out 0 (by omega); rw [Nat.zero_mul] at this; rw [this]; rfl)
    have f0 := hfr 0
    have HO := Lib.hid (show (w1.setCell ⟨g, 0, none⟩ (.int .i64 2)).ownsRow w.heap.size 87 8 (.slice (some ⟨g, 0, none⟩) n c1) n (R.flatMap Nd.cells) by
      have h1 := own_set hown (g := g) rfl (0 * 8 + 0) (.int .i64 2)
      rw [flat_set (c := 8) (fun _ => rfl) _ 0 u (u.atK 2) 0 _ H00.out (by omega) (Nd.atK_cells _ _), HL.out, List.set_cons_zero, ← HP.out] at h1
      exact h1)
    have HBB := Lib.hid (show Below w.heap.size w (w1.setCell ⟨g, 0, none⟩ (.int .i64 2)) from hb1.setCell (by dsimp only; omega) _)
    have HRL := Lib.hid (show n = R.length by rw [HP.out, HNR.out]; simp; omega)
    clear hown hcell hfr hb1 HCL
    go_wp2
    go_ret
    exact ⟨_, n, c1, rfl, HRL, Lib.hid (own_nodes HO.out), hc1, hcm, HBB.out⟩
  have hkb : (u.kind == 7) = false := by simpa using hk7
  by_cases hk5 : u.kind = 5
  · have hkc : (u.kind == 5) = true := by simpa using hk5
    obtain ⟨hn2, hn3⟩ := hr0 hk5
    obtain ⟨v, hv⟩ : ∃ v, l[1]? = some v := ⟨_, List.getElem?_eq_getElem (by have := HN.out; omega)⟩
    have hr1 : r.head? = some v := by have h := hv; rw [HL.out] at h; simpa [List.head?_eq_getElem?] using h
    obtain ⟨b', o', e, hb', hvb⟩ := HNS.out 1 v hv
    injection e with e; injection e with e1 e2; subst e1 e2
    have y8 := hvb.c0
    rw [Nat.one_mul] at y8
    have HP := Lib.hid (show R = if v.kind == 7 then u :: (r.drop 1).map (lowerN 1) else u :: r by
      rw [HR.out, HL.out, plainP_cons, hkb, hkc, hr1]; rfl)
    have hn3' := hn3 v hv
    obtain ⟨uk, hu⟩ : ∃ uk, uk = u.kind := ⟨_, rfl⟩
    obtain ⟨vk, hvk⟩ : ∃ vk, vk = v.kind := ⟨_, rfl⟩
    rw [← hu] at hkb hkc y0
    rw [← hvk] at HP y8 hn3'
    clear hk7 hu hr0 hk5 hn3 hv hr1 hvb hvk
    by_cases hv7 : vk = 7
    · have hvb : (vk == 7) = true := by simpa using hv7
      have hn3 := hn3' hv7
      have HP2 := Lib.hid (show R = u :: (r.drop 1).map (lowerN 1) by rw [HP.out, hvb]; rfl)
      have hne2 : (n = 2) = False := by simp; omega
      have hi1 : (1 : Int) ≤ (n : Int) := by omega
      have hi2 : (2 : Int) ≤ (n : Int) := by omega
      have hi3 : 1 ≤ n := by omega
      have hi4 : 2 ≤ n := by omega
      have HRA := Lib.hid (fun wx (hbx : Below w.heap.size w wx) => show Calls Tryz.prog 177 #[.slice (some ⟨b, o + 2 * 8, none⟩) (n - 2) (n - 2), .int .i64 1] wx (GotRow wx 87 8 (n - 2) (((r.drop 1).map (lowerN 1)).flatMap Nd.cells)) by
        have hd2 : l.drop 2 = r.drop 1 := by rw [HL.out]; rfl
        have hl2 : (l.drop 2).length = n - 2 := by rw [List.length_drop, ← HN.out]
        have := raise_any (some ⟨b, o + 2 * 8, none⟩) (n - 2) (l.drop 2) 1 wx ((HNS.out.below hbx).drop 2) (by rw [hl2]; exact Nat.le_refl _) (by unfold maxLen; omega) (by rw [hl2]; omega) ⟨by omega, by omega⟩ (fun x hx => HDP.out x (List.mem_of_mem_drop hx))
        rw [hl2, hd2] at this; exact this)
      clear hv7 hn3' HP
      go_enter Tryz.func139, Tryz.ntmps139
      go_wp2_with fail
      have HDR := Lib.hid (show Below w.heap.size w w.drew from (Below.refl _ _).drew)
      have HSB := Lib.hid (fun wx (h : Below w.heap.size w wx) => h)
      have HCC := Lib.hid (fun (w1 : World) (A1 : Option Addr) (c1 : Nat) (hb : Below w.heap.size w w1) (hown : w1.ownsRow w.drew.heap.size 87 8 (.slice A1 (n - 2) c1) (n - 2) (((r.drop 1).map (lowerN 1)).flatMap Nd.cells)) =>
        show Calls Tryz.prog 176 #[.slice (some ⟨w1.heap.size, 0, none⟩) 2 2] (w1.alloc (.cells #[.slice (some ⟨b, o, none⟩) 1 n, .slice A1 (n - 2) c1] 25)) (fun e w' => ∃ A2 c2, e = .returned (.slice A2 (n - 1) c2) ∧ w'.ownsRow w1.heap.size 87 8 (.slice A2 (n - 1) c2) (n - 1) (R.flatMap Nd.cells) ∧ Below (w1.alloc (.cells #[.slice (some ⟨b, o, none⟩) 1 n, .slice A1 (n - 2) c1] 25)).heap.size (w1.alloc (.cells #[.slice (some ⟨b, o, none⟩) 1 n, .slice A1 (n - 2) c1] 25)) w') by
        have ht1 : l.take 1 = [u] := by rw [HL.out]; rfl
        have h1 : SrcOk 8 w1 ⟨some ⟨b, o, none⟩, 1, n, [u].flatMap Nd.cells⟩ := by
          have := nds_src (((HNS.out.below hb)).take 1) (by rw [ht1]; simp) n
          rw [ht1] at this; exact this
        have h2 : SrcOk 8 w1 ⟨A1, n - 2, c1, ((r.drop 1).map (lowerN 1)).flatMap Nd.cells⟩ := own_src hown nds_one
        have h3 := concatNd (some ⟨w1.heap.size, 0, none⟩) 2 [⟨some ⟨b, o, none⟩, 1, n, [u].flatMap Nd.cells⟩, ⟨A1, n - 2, c1, ((r.drop 1).map (lowerN 1)).flatMap Nd.cells⟩] _ (two_slices w1 ⟨some ⟨b, o, none⟩, 1, n, [u].flatMap Nd.cells⟩ ⟨A1, n - 2, c1, ((r.drop 1).map (lowerN 1)).flatMap Nd.cells⟩ 25)
          (fun s hs => by
            rcases List.mem_cons.1 hs with rfl | hs
            · exact h1.below (below_alloc w1 _)
            · obtain rfl := List.mem_singleton.1 hs; exact h2.below (below_alloc w1 _)) (by simp [sumN]; omega) (by simp)
        refine h3.mono ?_
        rintro e w2 ⟨A2, c2, rfl, h4, h5⟩
        have e1 : sumN [⟨some ⟨b, o, none⟩, 1, n, [u].flatMap Nd.cells⟩, ⟨A1, n - 2, c1, ((r.drop 1).map (lowerN 1)).flatMap Nd.cells⟩] = n - 1 := by simp [sumN]; omega
        rw [e1] at h4 ⊢
        refine ⟨A2, c2, rfl, ?_, h5⟩
        rw [HP2.out]
        have := own_base h4 (b0 := w1.heap.size) (by simp)
        simpa using this)
      go_region_held3 (fun w' => Below w.heap.size w w')
        (first | assumption | exact HDR.out | (refine Below.alloc ?_ (by first | omega | (simp; omega) | simp) _; assumption))
        (first
          | (go_at_call 177; refine (HRA.out _ HDR.out).mono ?_; rintro e w1 ⟨A1, c1, rfl, hown, hb1⟩; have hbw1 := below_more HDR.out hb1; have hz1 := hbw1.size)
          | (go_at_call 176; refine (HCC.out w1 A1 c1 hbw1 hown).mono ?_; rintro e w2 ⟨A2, c2, rfl, hown2, hb2⟩; have hbw2 := below_more (HSB.out _ (by assumption)) hb2))
      all_goals
        have HX := Lib.hid (own_base hown2 hz1)
        have HBB := Lib.hid hbw2
        clear hown hown2 HCC HSB HRA
        go_wp2
        go_ret
        obtain ⟨h6, h7, -⟩ := own_len HX.out
        exact ⟨A2, n - 1, c2, rfl, Lib.hid (by rw [HP2.out]; simp; have := HNR.out; omega), Lib.hid (own_nodes HX.out), h6, h7, HBB.out⟩
    · have hvb : (vk == 7) = false := by simpa using hv7
      have HP2 := Lib.hid (show R = l by rw [HP.out, hvb, HL.out]; rfl)
      clear hv7 hn3' HP
      go_enter Tryz.func139, Tryz.ntmps139
      go_wp2
      go_ret
      exact ⟨_, n, n, rfl, Lib.hid (by rw [HP2.out]; exact HN.out), Lib.hid (by rw [HP2.out]; exact HNS.out), Nat.le_refl _, by unfold maxLen; omega, Below.refl _ _⟩
  · have hkc : (u.kind == 5) = false := by simpa using hk5
    have HP2 := Lib.hid (show R = l by rw [HR.out, HL.out, plainP_cons, hkb, hkc]; rfl)
    obtain ⟨uk, hu⟩ : ∃ uk, uk = u.kind := ⟨_, rfl⟩
    rw [← hu] at hkb hkc y0
    clear hk7 hu hr0 hk5
    go_enter Tryz.func139, Tryz.ntmps139
    go_wp2
    go_ret
    exact ⟨_, n, n, rfl, Lib.hid (by rw [HP2.out]; exact HN.out), Lib.hid (by rw [HP2.out]; exact HNS.out), Nat.le_refl _, by unfold maxLen; omega, Below.refl _ _⟩
open Go.RowKit
set_option maxRecDepth 100000 in
set_option maxHeartbeats 8000000 in
theorem regroup_plain (L : Lm) (A : Option Addr) (cap : Nat) (ns : List Nd) (w : World) (hl : LmOk w L) (hn : NdsAt w A ns) (hc1 : ns.length ≤ cap) (hc : cap ≤ maxLen)
    (hK : textErr L.li ns = 0 → ∀ p ∈ partsW 0 ns, ∀ wx, Below w.heap.size w wx → Calls Tryz.prog 139 #[partV A p] wx (GotNds wx (plainP p.2)))
    (hS : textErr L.li ns = 0 → ((partsW 0 ns).flatMap fun p => plainP p.2).length ≤ 1000000) :
    Calls Tryz.prog 138 #[.agg #[.int .i64 L.per, .slice L.A L.ms.length L.cap], .agg #[.slice A ns.length cap], .func (.func 139) #[] #[]] w (GotTextO w (regQ plainP L.li ns).1 (regQ plainP L.li ns).2) := by
  obtain ⟨E, hE⟩ : ∃ E, textErr L.li ns = E := ⟨_, rfl⟩
  obtain ⟨R, hR⟩ : ∃ R, R = regQ plainP L.li ns := ⟨_, rfl⟩
  have HE := Lib.hid (show R = if E ≠ 0 then ([], E) else ((partsW 0 ns).flatMap (fun p => plainP p.2), 0) by rw [hR, ← hE]; rfl)
  have HEE := Lib.hid hE
  have HNS := Lib.hid hn
  have HCM := Lib.hid hc
  have HKK := Lib.hid hK
  have HSS := Lib.hid hS
  obtain ⟨N, hN⟩ : ∃ N, N = ns.length := ⟨_, rfl⟩
  have HN := Lib.hid hN
  have HCK := Lib.hid (fun wx (hb : Below w.heap.size w wx) => gcheck_is L A cap ns wx (hl.below hb) (hn.below hb) hc1 hc E hE)
  rw [← hR]
  rw [← hN] at HCK hc1 ⊢
  unfold maxLen at hc
  obtain ⟨W, hW⟩ : ∃ W, W = ((w.alloc (.cells #[.int .i64 L.per, .slice L.A L.ms.length L.cap] 24)).alloc (.cells #[.slice A N cap] 27)).alloc (.cells #[.slice none 0 0] 27) := ⟨_, rfl⟩
  have HB := Lib.hid (show Below w.heap.size w W from hW ▸ (((Below.refl _ _).alloc (Nat.le_refl _) _).alloc (by simp) _).alloc (by simp; omega) _)
  have HX1 := Lib.hid (show W.heap[w.heap.size + 1]? = some (.cells #[.slice A N cap] 27 (0, 0)) by
    rw [hW, heap_alloc_other _ _ _ (by simp)]; have := heap_alloc_new (w.alloc (.cells #[.int .i64 L.per, .slice L.A L.ms.length L.cap] 24)) (.cells #[.slice A N cap] 27); simpa using this)
  have HX2 := Lib.hid (show W.heap[w.heap.size + 1 + 1]? = some (.cells #[.slice none 0 0] 27 (0, 0)) by
    rw [hW]; have := heap_alloc_new ((w.alloc (.cells #[.int .i64 L.per, .slice L.A L.ms.length L.cap] 24)).alloc (.cells #[.slice A N cap] 27)) (.cells #[.slice none 0 0] 27); simpa using this)
  obtain ⟨iv, hiv, hzv, hsv, hbv⟩ := info_hid infoNd
  clear hl hn hE hN hR hK hS
  go_enter Tryz.func138, Tryz.ntmps138
  go_wp2_with fail
  rw [← hW]
  refine (HCK.out W HB.out).mono ?_; rintro e w1 ⟨rfl, hb⟩
  have HB1 := Lib.hid (below_more HB.out hb)
  have D1 := Lib.hid (blk_keep hb HX1.out)
  have D2 := Lib.hid (blk_keep hb HX2.out)
  have x0 := cell_of_blk D1.out 0
  have q0 := cell_of_blk D2.out 0
  have q1 := free_of_blk D2.out 0
  have hs2 := (Array.getElem?_eq_some_iff.1 D2.out).1
  have hs1 : w.heap.size + 1 < w1.heap.size := by omega
  have hsz : w.heap.size ≤ w1.heap.size := by omega
  simp at x0 q0
  clear hb hW HX1 HX2 HCK HB
  by_cases h0 : E = 0
  case neg =>
    have hbE : (E != 0) = true := by simpa using h0
    have HF := Lib.hid (show R = ([], E) by rw [HE.out, if_pos h0])
    clear h0 HE
    go_wp2
    refine bodyPost_ret (v := .tuple #[.agg #[.slice none 0 0], .int .i64 E]) (by simp [results, Tryz.results138, go_sem, q0]) rfl ?_
    rw [HF.out]
    exact ⟨none, 0, 0, rfl, Lib.hid rfl, Lib.hid (own_none _ _), HB1.out.setCell (by dsimp only; omega) _⟩
  subst h0
  obtain ⟨-, hk2, -, -, -, -⟩ := text_ok HEE.out
  obtain ⟨ps, hps⟩ : ∃ ps, ps = partsW 0 ns := ⟨_, rfl⟩
  have hpl : ps.length ≤ 200 := by rw [hps]; have := partsW_len ns.length 0 ns (Nat.le_refl _); omega
  have HF := Lib.hid (show R = (ps.flatMap (fun p => plainP p.2), 0) by rw [HE.out, if_neg (by simp), hps])
  have HSP := Lib.hid (show Calls Tryz.prog 174 #[.slice A N cap] w1 (GotRow w1 25 1 ps.length (partsV A ps)) by
    have := split_any A cap ns w1 (HNS.out.below HB1.out) (by rw [← HN.out]; exact hc1) HCM.out (by omega)
    rw [← HN.out, ← hps] at this; exact this)
  have HK2 := Lib.hid (fun p (hp : p ∈ ps) wx (hb : Below w.heap.size w wx) => HKK.out HEE.out p (hps ▸ hp) wx hb)
  have hS2 : (ps.flatMap fun p => plainP p.2).length ≤ 1000000 := by rw [hps]; exact HSS.out HEE.out
  obtain ⟨np, hnp⟩ : ∃ np, np = ps.length := ⟨_, rfl⟩
  have HNP := Lib.hid hnp
  rw [← hnp] at HSP hpl
  clear HE hk2 hps hnp HKK HSS
  go_wp2_with fail
  refine HSP.out.mono ?_; rintro e w2 ⟨A1, c1, rfl, hown, hb⟩
  have HB2 := Lib.hid (below_more HB1.out hb)
  have E2 := Lib.hid (blk_keep hb D2.out)
  have HRP := Lib.hid (row_parts hown)
  have hol := own_len hown
  have hcm := hol.1
  have hmm := hol.2.1
  unfold maxLen at hmm
  have hw12 := hb.size
  have HS2 := Lib.hid hS2
  clear hown hb HSP hol x0 q0 q1 hs1 D1 D2 hs2 hS2
  have hsz2 := HB2.out.size
  go_wp2_with fail
  go_loopw [9, 11, 23] (fun v _ i wr => ∃ (k m : Nat), k ≤ np ∧ i = .int .i64 k ∧ m ≤ 1000000 ∧ Hid (m = ((ps.take k).flatMap fun p => plainP p.2).length) ∧ Hid (wr.ownsRow w2.heap.size 87 8 v m (((ps.take k).flatMap fun p => plainP p.2).flatMap Nd.cells)) ∧ Hid (Below w2.heap.size w2 wr)) (fun _ _ i _ => np - (intOf i).toNat)
  case atStart => exact ⟨0, 0, Nat.zero_le _, rfl, Nat.zero_le _, Lib.hid (by simp), Lib.hid (by simpa using World.ownsRow_nil _ _ _ _), Lib.hid (Below.refl _ _)⟩
  case round =>
    obtain ⟨k, m, hk, rfl, hm1, hml, hown, hbw⟩ := hrel
    have HOW := Lib.hid hown.out
    have HBW := Lib.hid hbw.out
    have HML := Lib.hid hml.out
    clear hown hbw hml
    have F2 := Lib.hid (blk_keep HBW.out E2.out)
    have hf2 := (Array.getElem?_eq_some_iff.1 F2.out).1
    by_cases hlt : k < np
    · obtain ⟨p, hp⟩ : ∃ p, ps[k]? = some p := ⟨_, List.getElem?_eq_getElem (by have := HNP.out; omega)⟩
      obtain ⟨g, rfl, -, hg, hcell⟩ := HRP.out k (partV A p) (by unfold partsV; rw [List.getElem?_map, hp]; rfl)
      have y0 := (HBW.out.cell (p := ⟨g, k, none⟩) hg).trans hcell
      have HCH := Lib.hid (HK2.out p (List.mem_of_getElem? hp) wr (below_more HB2.out HBW.out))
      have HTK := Lib.hid (show (ps.take (k + 1)).flatMap (fun p => plainP p.2) = (ps.take k).flatMap (fun p => plainP p.2) ++ plainP p.2 by
        obtain ⟨hk', e⟩ := List.getElem?_eq_some_iff.1 hp
        rw [List.take_succ_eq_append_getElem hk', e, List.flatMap_append]; simp)
      have HMX := Lib.hid (show ((ps.take (k + 1)).flatMap fun p => plainP p.2).length ≤ 1000000 by
        have h1 : ps.flatMap (fun p => plainP p.2) = (ps.take (k + 1)).flatMap (fun p => plainP p.2) ++ (ps.drop (k + 1)).flatMap (fun p => plainP p.2) := by rw [← List.flatMap_append, List.take_append_drop]
        have h2 := HS2.out
        rw [h1, List.length_append] at h2; omega)
      obtain ⟨pv, hpv⟩ : ∃ pv, pv = partV A p := ⟨_, rfl⟩
      rw [← hpv] at y0 HCH
      obtain ⟨Ap, np', cp', hsl⟩ : ∃ Ap np' cp', pv = .slice Ap np' cp' := ⟨_, _, _, hpv⟩
      subst hsl
      obtain ⟨zs, hzs⟩ : ∃ zs, zs = plainP p.2 := ⟨_, rfl⟩
      obtain ⟨done, hdn⟩ : ∃ d, d = (ps.take k).flatMap (fun p => plainP p.2) := ⟨_, rfl⟩
      rw [← hzs] at HCH HTK
      rw [← hdn] at HTK HOW HML
      have hgs : g < wr.heap.size := by have := HBW.out.size; omega
      obtain ⟨Av, cv, hv, -, -, -, -⟩ := own_slice HOW.out
      subst hv
      clear hp hcell hpv hzs hdn hg
      go_wp2_with fail
      refine HCH.out.mono ?_; rintro e w3 ⟨A3, k3, c3, rfl, hk3, hn3, hkc3, hcm3, hb3⟩
      have HN3 := Lib.hid hn3.out
      have HK3 := Lib.hid hk3.out
      have HB3 := Lib.hid (below_more HBW.out hb3)
      have HO3 := Lib.hid (ownsRow_of_block (w' := w3) HOW.out (fun g hg => hb3.block g (HOW.out.lt g hg).2))
      have HLM := Lib.hid (show m + k3 ≤ 1000000 by have := HMX.out; rw [HTK.out, List.length_append, ← HML.out, ← HK3.out] at this; exact this)
      have hlm := HLM.out
      have hwr3 := hb3.size
      have hsw := HBW.out.size
      unfold maxLen at hcm3
      obtain ⟨cells, hcs⟩ : ∃ c, c = zs.flatMap Nd.cells := ⟨_, rfl⟩
      have HC := Lib.hid (show cells.length = k3 * 8 by rw [hcs, HK3.out]; exact flat_len (f := Nd.cells) (fun _ => rfl) _)
      have HC0 := Lib.hid (fun (h : A3 = none) => show k3 = 0 by rw [HK3.out]; exact nds_none HN3.out h)
      have HC1 := Lib.hid (show ∀ u ∈ cells, u.oneCell' = true by rw [hcs]; exact nds_one)
      have HC2 := Lib.hid (show ∀ ad, A3 = some ad → ∀ j u, cells[j]? = some u → w3.cell? (ad.add j) = some u by rw [hcs]; exact nds_cells HN3.out)
      have HCS := Lib.hid hcs
      clear hk3 hn3 hb3 hcs y0 HCH
      go_wp2_with (first
        | (at_builtin; refine wpList_append_src _ rfl (.tmp 27) (.tmp 30) 25 rfl w2.heap.size 87 iv (.agg #[.int .i64 0, .int .i64 0, .int .i64 0, .int .i64 0, .bool false, .int .i64 0, .int .i64 0, .int .i64 0]) 8 64 Tryz.underlying25 hiv.out hzv.out hsv.out hbv.out rfl (by decide) (.slice Av m cv) m (done.flatMap Nd.cells) rfl ?own2 A3 k3 c3 cells rfl HC.out HC0.out ?c2 HC1.out ?m2 ?b2 ?s2 (m + k3) rfl ?_))
      case own2 => exact HO3.out
      case c2 => exact HC2.out
      case m2 => unfold maxLen; omega
      case b2 => omega
      case s2 => omega
      intro A4 c4 w4 own4 hg4 _
      have HB4 := Lib.hid (HB3.out.grown hg4 (by omega) (fun g hg => (HO3.out.lt g hg).1))
      have HO4 := Lib.hid own4
      clear own4 hg4
      go_wp2_with fail
      go_roundw
      case rel => exact ⟨k + 1, m + k3, by omega, by go_num, by omega, Lib.hid (by rw [HTK.out, List.length_append, ← HML.out, ← HK3.out]), Lib.hid (by rw [HTK.out, List.flatMap_append, ← HCS.out]; exact HO4.out), HB4⟩
      case measure => simp [intOf]; omega
    · obtain rfl : k = np := by omega
      have HT := Lib.hid (show ps.take k = ps by rw [HNP.out, List.take_length])
      have q0 := cell_of_blk F2.out 0
      have q1 := free_of_blk F2.out 0
      simp at q0
      have h1 := HOW.out
      rw [HT.out] at h1
      obtain ⟨Av, cv, hv, -, -, -, -⟩ := own_slice h1
      subst hv
      have HO := Lib.hid (show (wr.setCell ⟨w.heap.size + 1 + 1, 0, none⟩ (.slice Av m cv)).ownsRow w.heap.size 87 8 (.slice Av m cv) m ((ps.flatMap fun p => plainP p.2).flatMap Nd.cells) from
        own_base (ownsRow_of_block h1 (fun g hg => heap_setCell_other _ _ _ _ (by have := (h1.lt g hg).1; have := (Array.getElem?_eq_some_iff.1 E2.out).1; dsimp only; omega))) hsz2)
      have HBB := Lib.hid (show Below w.heap.size w (wr.setCell ⟨w.heap.size + 1 + 1, 0, none⟩ (.slice Av m cv)) from (below_more HB2.out HBW.out).setCell (by dsimp only; omega) _)
      have HML2 := Lib.hid (show m = (ps.flatMap fun p => plainP p.2).length by have := HML.out; rw [HT.out] at this; exact this)
      clear h1
      go_wp2
      refine bodyPost_ret (v := .tuple #[.agg #[.slice Av m cv], .int .i64 0]) (by simp [results, Tryz.results138, go_sem, q0]) rfl ?_
      rw [HF.out]
      exact ⟨Av, m, cv, rfl, HML2, Lib.hid HO.out, HBB.out⟩
structure Shape (ns : List Nd) : Prop where
  rises : Rises ns
  first : ∀ u, ns[0]? = some u → u.depth ≤ 0
  kinds : ∀ i, i < ns.length → 1 ≤ kindAt ns i ∧ kindAt ns i ≤ 7
  depth : ∀ x ∈ ns, 0 ≤ x.depth ∧ x.depth ≤ 4
  fits : fitsB ns = true
theorem shape_of {l : Li} {ns : List Nd} (h : textErr l ns = 0) : Shape ns := by
  obtain ⟨-, -, h3, h4, h5, -⟩ := text_ok h
  obtain ⟨h6, h7, h8, -⟩ := nodes_shape h3
  exact ⟨h6, h7, h8, h5, h4⟩
theorem kindAt_is {ns : List Nd} {k : Nat} {u : Nd} (h : ns[k]? = some u) : kindAt ns k = u.kind := by unfold kindAt; rw [getN_at h]
theorem fits_kid {ns : List Nd} (h : fitsB ns = true) {i j : Nat} (hi : i < ns.length) (hj : j ∈ kidsL ns i) : holdsB (kindAt ns i) (kindAt ns j) (kidsL ns i).length = true := by
  have h1 := fits_at h i hi
  unfold kidsFitB at h1
  simp only [Bool.and_eq_true, List.all_eq_true] at h1
  exact h1.2 j hj
theorem fits_low {ns : List Nd} (h : fitsB ns = true) {i : Nat} (hi : i < ns.length) : (kidsR (kindAt ns i)).1 ≤ ((kidsL ns i).length : Int) := by
  have h1 := fits_at h i hi
  unfold kidsFitB at h1
  simp only [Bool.and_eq_true, Bool.not_eq_true', decide_eq_false_iff_not] at h1
  omega
theorem ring_top {ns : List Nd} (h : Shape ns) {i : Nat} (hi : i < ns.length) (hk : kindAt ns i = 5) : depthAt ns i = 0 := by
  obtain ⟨u, hu⟩ : ∃ u, ns[i]? = some u := ⟨_, List.getElem?_eq_getElem hi⟩
  have hd := h.depth u (List.mem_of_getElem? hu)
  rw [← depthAt_is hu] at hd
  rcases Int.lt_or_le 0 (depthAt ns i) with h0 | h0
  · exfalso
    obtain ⟨p, h1, _, h2⟩ := kid_parent h.rises h.first hi h0
    have h3 := fits_kid h.fits (by omega) h2
    rw [hk] at h3
    unfold holdsB at h3
    simp at h3
  · omega
theorem hon_ring {ns : List Nd} (h : Shape ns) {j : Nat} (hj : j < ns.length) (hk : kindAt ns j = 7) (hd : 0 < depthAt ns j) : ∃ i, j = i + 1 ∧ kindAt ns i = 5 ∧ depthAt ns i = 0 ∧ depthAt ns j = 1 := by
  obtain ⟨i, h1, _, h2⟩ := kid_parent h.rises h.first hj hd
  have hi : i < ns.length := by omega
  have h3 := fits_kid h.fits hi h2
  rw [hk] at h3
  have h4 : kindAt ns i = 5 ∧ (kidsL ns i).length = 1 := by
    unfold holdsB at h3
    simp at h3
    exact ⟨h3.1, by omega⟩
  have h5 := ring_top h hi h4.1
  obtain ⟨u, hu⟩ : ∃ u, ns[i]? = some u := ⟨_, List.getElem?_eq_getElem hi⟩
  have hdu := depthAt_is hu
  obtain ⟨k1, k2, k3, k4⟩ := (kids_iff hu).1 h2
  have h6 : i + 1 ∈ kidsL ns i := by
    obtain ⟨v, hv⟩ : ∃ v, ns[i + 1]? = some v := ⟨_, List.getElem?_eq_getElem (by omega)⟩
    have h7 := h.rises i u v hu hv
    have h8 := k4 (i + 1) (by omega) (by omega)
    rw [depthAt_is hv] at h8
    refine (kids_iff hu).2 ⟨by omega, by omega, by rw [depthAt_is hv]; omega, fun q h1 h2 => by rw [show q = i + 1 by omega, depthAt_is hv]; exact h8⟩
  have h7 : j = i + 1 := by
    obtain ⟨x, hx⟩ := List.length_eq_one_iff.1 h4.2
    rw [hx] at h2 h6
    simp at h2 h6
    omega
  exact ⟨i, h7, h4.1, h5, by omega⟩
def plStep (s : Bool × List Nd) (n : Nd) : Bool × List Nd :=
  let ins := if n.depth == 0 then false else s.1
  if n.kind == 7 && n.depth == 1 then (true, s.2) else
    (ins, s.2 ++ [{ n with kind := if n.kind == 7 then 2 else n.kind, depth := if ins then n.depth - 1 else n.depth }])
def plainS (ns : List Nd) : List Nd := (ns.foldl plStep (false, [])).2
theorem pl_same : ∀ (t : List Nd) (out : List Nd), (∀ n ∈ t, n.depth ≠ 0 ∧ n.kind ≠ 7) → t.foldl plStep (false, out) = (false, out ++ t)
  | [], out, _ => by simp
  | n :: t, out, h => by
    have h1 := h n (List.mem_cons_self ..)
    rw [List.foldl_cons]
    have e : plStep (false, out) n = (false, out ++ [n]) := by
      unfold plStep
      simp [h1.1, h1.2]
    rw [e, pl_same t _ (fun x hx => h x (List.mem_cons_of_mem _ hx))]; simp
theorem pl_low : ∀ (t : List Nd) (out : List Nd), (∀ n ∈ t, n.depth ≠ 0 ∧ n.kind ≠ 7) → t.foldl plStep (true, out) = (true, out ++ t.map (lowerN 1))
  | [], out, _ => by simp
  | n :: t, out, h => by
    have h1 := h n (List.mem_cons_self ..)
    rw [List.foldl_cons]
    have e : plStep (true, out) n = (true, out ++ [lowerN 1 n]) := by
      unfold plStep lowerN Nd.atD
      simp [h1.1, h1.2]
    rw [e, pl_low t _ (fun x hx => h x (List.mem_cons_of_mem _ hx))]; simp
theorem pl_group {u : Nd} {t : List Nd} (hu : u.depth = 0) (ht : ∀ n ∈ t, 0 < n.depth) (hh : ∀ (j : Nat) (n : Nd), t[j]? = some n → n.kind = 7 → u.kind = 5 ∧ j = 0 ∧ n.depth = 1) (ins : Bool) (out : List Nd) :
    ((u :: t).foldl plStep (ins, out)).2 = out ++ plainP (u :: t) := by
  rw [List.foldl_cons, plainP_cons]
  have hnot : ∀ l : List Nd, (∀ n ∈ l, n ∈ t) → (∀ n ∈ l, n.kind ≠ 7) → ∀ n ∈ l, n.depth ≠ 0 ∧ n.kind ≠ 7 := fun l h1 h2 n hn => ⟨by have := ht n (h1 n hn); omega, h2 n hn⟩
  by_cases hk7 : u.kind = 7
  · have e : plStep (ins, out) u = (false, out ++ [u.atK 2]) := by
      unfold plStep Nd.atK
      simp [hu, hk7]
    rw [e, pl_same t _ (hnot t (fun n h => h) (fun n hn hk => by
      obtain ⟨j, hj⟩ := List.getElem?_of_mem hn
      have := (hh j n hj hk).1; omega))]
    simp [hk7]
  have e : plStep (ins, out) u = (false, out ++ [u]) := by
    clear hh hnot ht
    obtain ⟨a, b, c, d, e, f, g, i⟩ := u
    dsimp only at hu hk7
    subst hu
    simp [plStep, hk7]
  rw [e]
  cases t with
  | nil => simp [hk7, honB]
  | cons v r =>
    by_cases hv : v.kind = 7
    · obtain ⟨h5, _, hd⟩ := hh 0 v rfl hv
      have e2 : plStep (false, out ++ [u]) v = (true, out ++ [u]) := by
        unfold plStep
        simp [hv, hd]
      rw [List.foldl_cons, e2, pl_low r _ (hnot r (fun n h => List.mem_cons_of_mem _ h) (fun n hn hk => by
        obtain ⟨j, hj⟩ := List.getElem?_of_mem hn
        have := (hh (j + 1) n (by simpa using hj) hk).2.1; omega))]
      simp [h5, honB, hv]
    · rw [pl_same (v :: r) _ (hnot _ (fun n h => h) (fun n hn hk => by
        obtain ⟨j, hj⟩ := List.getElem?_of_mem hn
        have h0 := (hh j n hj hk).2.1
        subst h0
        simp at hj; subst hj; exact hv hk))]
      simp [hk7, honB, hv]
theorem plain_fold {ns : List Nd} (h : Shape ns) : ∀ (n k : Nat), ns.length - k ≤ n → (∀ u, ns[k]? = some u → u.depth = 0) → ∀ ins out, ((ns.drop k).foldl plStep (ins, out)).2 = out ++ (partsW k (ns.drop k)).flatMap (fun p => plainP p.2)
  | 0, k, hn, _, ins, out => by
    rw [List.drop_eq_nil_of_le (by omega), partsW_nil]; simp
  | n + 1, k, hn, hd, ins, out => by
    rcases Nat.lt_or_ge k ns.length with hk | hk
    · obtain ⟨u, hu⟩ : ∃ u, ns[k]? = some u := ⟨_, List.getElem?_eq_getElem hk⟩
      have hu0 := hd u hu
      have h0 : (ns.drop k)[0]? = some u := by rw [List.getElem?_drop, Nat.add_zero]; exact hu
      rw [partsW_at h0, List.flatMap_cons]
      obtain ⟨m, hm⟩ : ∃ m, m = 1 + spanN (ns.drop k) u.depth 0 := ⟨_, rfl⟩
      rw [← hm]
      have hsp : spanN (ns.drop k) u.depth 0 = spanN ns 0 k := by rw [spanN_drop, Nat.add_zero, hu0]
      rw [hsp] at hm
      have hle := spanN_le ns 0 k hk
      have hnext : ∀ u', ns[k + m]? = some u' → u'.depth = 0 := fun u' hu' => by
        have h1 := (h.depth u' (List.mem_of_getElem? hu')).1
        rcases spanN_end ns 0 k hk with he | ⟨x, hx, hxd⟩
        · have := (List.getElem?_eq_some_iff.1 hu').1; omega
        · rw [show k + 1 + spanN ns 0 k = k + m by omega, hu'] at hx
          injection hx with hx; subst hx; omega
      have hsplit : ns.drop k = (ns.drop k).take m ++ ns.drop (k + m) := by
        conv => lhs; rw [← List.take_append_drop m (ns.drop k)]
        rw [List.drop_drop]
      obtain ⟨t, ht⟩ : ∃ t, (ns.drop k).take m = u :: t := by
        have h1 : ((ns.drop k).take m)[0]? = some u := by rw [List.getElem?_take, if_pos (by omega)]; exact h0
        cases hl : (ns.drop k).take m with
        | nil => rw [hl] at h1; cases h1
        | cons x r => rw [hl] at h1; simp at h1; subst h1; exact ⟨r, rfl⟩
      have hat : ∀ j x, t[j]? = some x → ns[k + 1 + j]? = some x ∧ j < spanN ns 0 k := fun j x hj => by
        have h1 : ((ns.drop k).take m)[j + 1]? = some x := by rw [ht]; simpa using hj
        rw [List.getElem?_take] at h1
        split at h1
        · rename_i hlt
          rw [List.getElem?_drop] at h1
          exact ⟨by rw [← h1]; congr 1; omega, by omega⟩
        · cases h1
      have hgrp : ((u :: t).foldl plStep (ins, out)).2 = out ++ plainP (u :: t) := pl_group hu0 (fun x hx => by
          obtain ⟨j, hj⟩ := List.getElem?_of_mem hx
          obtain ⟨h1, h2⟩ := hat j x hj
          obtain ⟨y, hy, hyd⟩ := spanN_at h2
          rw [h1] at hy; injection hy with hy; subst hy; exact hyd) (fun j x hj hk7 => by
          obtain ⟨h1, h2⟩ := hat j x hj
          obtain ⟨y, hy, hyd⟩ := spanN_at h2
          rw [h1] at hy; injection hy with hy; subst hy
          have hlt := (List.getElem?_eq_some_iff.1 h1).1
          obtain ⟨i, hi, hik, hid, hjd⟩ := hon_ring h hlt (by rw [kindAt_is h1]; exact hk7) (by rw [depthAt_is h1]; exact hyd)
          have hik' : i = k := by
            rcases Nat.lt_or_ge k i with hlt2 | hge
            · exfalso
              obtain ⟨z, hz, hzd⟩ := spanN_at (ns := ns) (d := 0) (i := k) (k := i - (k + 1)) (by omega)
              rw [show k + 1 + (i - (k + 1)) = i by omega] at hz
              rw [depthAt_is hz] at hid; omega
            · omega
          subst hik'
          refine ⟨by rw [← kindAt_is hu]; exact hik, by omega, by rw [← depthAt_is h1]; exact hjd⟩) ins out
      have ih := plain_fold h n (k + m) (by omega) hnext ((u :: t).foldl plStep (ins, out)).1 (out ++ plainP (u :: t))
      rw [List.drop_drop]
      conv => lhs; rw [hsplit, List.foldl_append, ht]
      rw [ht, ← List.append_assoc, ← ih, ← hgrp]
    · rw [List.drop_eq_nil_of_le hk, partsW_nil]; simp
theorem plain_is {ns : List Nd} (h : Shape ns) : plainS ns = (partsW 0 ns).flatMap fun p => plainP p.2 := by
  have := plain_fold h ns.length 0 (by omega) (fun u hu => by have := h.first u hu; have := (h.depth u (List.mem_of_getElem? hu)).1; omega) false []
  simpa [plainS] using this
open Go.RowKit
theorem span_ge {ns : List Nd} {d : Int} {q j : Nat} (hq : q < ns.length) (hj : j < ns.length) (h : ∀ i, q < i → i ≤ j → d < depthAt ns i) : j - q ≤ spanN ns d q := by
  rcases Nat.lt_or_ge (spanN ns d q) (j - q) with hlt | hge
  · exfalso
    rcases spanN_end ns d q hq with he | ⟨x, hx, hd⟩
    · omega
    · have := h (q + 1 + spanN ns d q) (by omega) (by omega)
      rw [depthAt_is hx] at this; omega
  · exact hge
structure GrpOk (ns : List Nd) (p : Nat × List Nd) : Prop where
  pos : 1 ≤ p.2.length
  le : p.2.length ≤ ns.length
  eq : p.2 = (ns.drop p.1).take p.2.length
  depth : ∀ x ∈ p.2, 0 ≤ x.depth ∧ x.depth ≤ 4
  ring : ∀ u, p.2[0]? = some u → u.kind = 5 → 2 ≤ p.2.length ∧ (∀ v, p.2[1]? = some v → v.kind = 7 → 3 ≤ p.2.length)
theorem grp_ok {ns : List Nd} (h : Shape ns) : ∀ p ∈ partsW 0 ns, GrpOk ns p := by
  intro p hp
  obtain ⟨q, u, h1, h2, h3⟩ := partsW_grp ns.length 0 ns (Nat.le_refl _) p hp
  have h1 : p.1 = q := by omega
  have hu : ns[q]? = some u := by rw [List.getElem?_drop] at h2; simpa using h2
  have hq := (List.getElem?_eq_some_iff.1 hu).1
  have hsp : spanN (ns.drop q) u.depth 0 = spanN ns u.depth q := by rw [spanN_drop, Nat.add_zero]
  rw [hsp] at h3
  have hle := spanN_le ns u.depth q hq
  have hlen : p.2.length = 1 + spanN ns u.depth q := by rw [h3, List.length_take, List.length_drop]; omega
  have hat : ∀ i x, p.2[i]? = some x → ns[q + i]? = some x := fun i x hx => by
    rw [h3, List.getElem?_take] at hx
    split at hx
    · rw [List.getElem?_drop] at hx; exact hx
    · cases hx
  refine ⟨by omega, by omega, by rw [h1, hlen]; exact h3, fun x hx => h.depth x (by rw [h3] at hx; exact List.mem_of_mem_drop (List.mem_of_mem_take hx)), fun u' hu' hk => ?_⟩
  have e := hat 0 u' hu'
  rw [Nat.add_zero, hu] at e
  injection e with e; subst e
  have hkq : kindAt ns q = 5 := by rw [kindAt_is hu]; exact hk
  have hl := fits_low h.fits hq
  rw [hkq, show (kidsR 5).1 = 1 by decide] at hl
  obtain ⟨j, hj⟩ : ∃ j, j ∈ kidsL ns q := List.exists_mem_of_length_pos (by omega)
  obtain ⟨k1, k2, -, k4⟩ := (kids_iff hu).1 hj
  have hg := span_ge hq k2 k4
  refine ⟨by omega, fun v hv hk7 => ?_⟩
  have hv' := hat 1 v hv
  have hq1 := (List.getElem?_eq_some_iff.1 hv').1
  have hkv : kindAt ns (q + 1) = 7 := by rw [kindAt_is hv']; exact hk7
  have hl2 := fits_low h.fits hq1
  rw [hkv, show (kidsR 7).1 = 2 by decide] at hl2
  obtain ⟨j2, hj2⟩ : ∃ j, j ∈ kidsL ns (q + 1) := List.exists_mem_of_length_pos (by omega)
  obtain ⟨m1, m2, -, m4⟩ := (kids_iff hv').1 hj2
  have hdv : u.depth < v.depth := by have := k4 (q + 1) (by omega) (by omega); rwa [depthAt_is hv'] at this
  have hg2 := span_ge (d := u.depth) (q := q) (j := j2) hq m2 (fun i i1 i2 => by
    rcases Nat.eq_or_lt_of_le (show q + 1 ≤ i by omega) with e | e
    · subst e; rw [depthAt_is hv']; exact hdv
    · have := m4 i e i2; omega)
  omega
theorem plainP_len (l : List Nd) : (plainP l).length ≤ l.length := by
  cases l with
  | nil => simp [plainP]
  | cons u r =>
    rw [plainP_cons]
    split
    · simp
    · split
      · simp
      · simp
theorem flat_le {f : List Nd → List Nd} (hf : ∀ l, (f l).length ≤ l.length) : ∀ ps : List (Nat × List Nd), (ps.flatMap fun p => f p.2).length ≤ (ps.flatMap fun p => p.2).length
  | [] => by simp
  | p :: r => by
    rw [List.flatMap_cons, List.flatMap_cons, List.length_append, List.length_append]
    have := flat_le hf r
    have := hf p.2
    omega
theorem parts_all : ∀ (n o : Nat) (l : List Nd), l.length ≤ n → ((partsW o l).flatMap fun p => p.2) = l
  | 0, o, l, h => by rw [List.eq_nil_of_length_eq_zero (by omega : l.length = 0), partsW_nil]; rfl
  | n + 1, o, l, h => by
    cases l with
    | nil => rw [partsW_nil]; rfl
    | cons u r =>
      rw [partsW_cons, List.flatMap_cons, parts_all n _ _ (by simp at h ⊢; omega)]
      exact List.take_append_drop _ _
set_option maxRecDepth 100000 in
set_option maxHeartbeats 4000000 in
theorem plainT_any (L : Lm) (A : Option Addr) (cap : Nat) (ns : List Nd) (w : World) (hl : LmOk w L) (hn : NdsAt w A ns) (hc1 : ns.length ≤ cap) (hc : cap ≤ maxLen) :
    Calls Tryz.prog 93 #[.agg #[.int .i64 L.per, .slice L.A L.ms.length L.cap], .agg #[.slice A ns.length cap]] w (GotTextO w (regQ plainP L.li ns).1 (regQ plainP L.li ns).2) := by
  obtain ⟨⟨zs, er⟩, hQ⟩ : ∃ q, q = regQ plainP L.li ns := ⟨_, rfl⟩
  have HQ := Lib.hid hQ
  rw [← hQ]
  dsimp only
  have HRG := Lib.hid (fun wx (hb : Below w.heap.size w wx) => show Calls Tryz.prog 138 #[.agg #[.int .i64 L.per, .slice L.A L.ms.length L.cap], .agg #[.slice A ns.length cap], .func (.func 139) #[] #[]] wx (GotTextO wx zs er) by
    have := regroup_plain L A cap ns wx (hl.below hb) (hn.below hb) hc1 hc (fun ht p hp wy hby => by
      have hs := shape_of ht
      have hg := grp_ok hs p hp
      have hk2 := (text_ok ht).2.1
      obtain ⟨b, o, rfl, -, -⟩ := hn 0 _ (List.getElem?_eq_getElem (by have := hg.pos; have := hg.le; omega : 0 < ns.length))
      have h1 : NdsAt wy (some ⟨b, o + p.1 * 8, none⟩) p.2 := by
        have := (((hn.below hb).below hby).drop p.1).take p.2.length
        rw [← hg.eq] at this; exact this
      exact plain_any b (o + p.1 * 8) p.2 wy h1 hg.pos (by have := hg.le; omega) hg.ring hg.depth) (fun ht => by
      have h1 := flat_le plainP_len (partsW 0 ns)
      rw [parts_all ns.length 0 ns (Nat.le_refl _)] at h1
      have := (text_ok ht).2.1
      omega)
    rw [← HQ.out] at this; exact this)
  obtain ⟨N, hN⟩ : ∃ N, N = ns.length := ⟨_, rfl⟩
  rw [← hN] at HRG hc1 ⊢
  unfold maxLen at hc
  obtain ⟨W, hW⟩ : ∃ W, W = ((w.alloc (.cells #[.int .i64 L.per, .slice L.A L.ms.length L.cap] 24)).alloc (.cells #[.slice A N cap] 27)).alloc (.cells #[.slice none 0 0] 27) := ⟨_, rfl⟩
  have HB := Lib.hid (show Below w.heap.size w W from hW ▸ (((Below.refl _ _).alloc (Nat.le_refl _) _).alloc (by simp) _).alloc (by simp; omega) _)
  have HX2 := Lib.hid (show W.heap[w.heap.size + 1 + 1]? = some (.cells #[.slice none 0 0] 27 (0, 0)) by
    rw [hW]; have := heap_alloc_new ((w.alloc (.cells #[.int .i64 L.per, .slice L.A L.ms.length L.cap] 24)).alloc (.cells #[.slice A N cap] 27)) (.cells #[.slice none 0 0] 27); simpa using this)
  clear hl hn hQ hN
  go_enter Tryz.func93, Tryz.ntmps93
  go_wp2_with fail
  rw [← hW]
  refine (HRG.out W HB.out).mono ?_; rintro e w1 ⟨A1, k1, c1, rfl, hk, hown, hb⟩
  have HK := Lib.hid hk.out
  have D2 := Lib.hid (blk_keep hb HX2.out)
  have q0 := cell_of_blk D2.out 0
  have q1 := free_of_blk D2.out 0
  have hs2 := (Array.getElem?_eq_some_iff.1 D2.out).1
  simp at q0
  have hwz := (Array.getElem?_eq_some_iff.1 HX2.out).1
  have HO := Lib.hid (show (w1.setCell ⟨w.heap.size + 1 + 1, 0, none⟩ (.slice A1 k1 c1)).ownsRow w.heap.size 87 8 (.slice A1 k1 c1) k1 (zs.flatMap Nd.cells) from
    own_base (ownsRow_of_block hown.out (fun g hg => heap_setCell_other _ _ _ _ (by have := (hown.out.lt g hg).1; dsimp only; omega))) (by omega))
  have HBB := Lib.hid (show Below w.heap.size w (w1.setCell ⟨w.heap.size + 1 + 1, 0, none⟩ (.slice A1 k1 c1)) from (below_more HB.out hb).setCell (by dsimp only; omega) _)
  clear hb hW hk hown HRG HX2 HB hwz
  go_wp2
  refine bodyPost_ret (v := .tuple #[.agg #[.slice A1 k1 c1], .int .i64 er]) (by simp [results, Tryz.results93, go_sem, q0]) rfl ?_
  exact ⟨A1, k1, c1, rfl, HK, HO, HBB.out⟩
end Go.Proofs.YtmiokllpdmmfhaaGreat
