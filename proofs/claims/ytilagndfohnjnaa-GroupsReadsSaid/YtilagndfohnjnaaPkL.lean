/-
  Nodes at one depth (atDepth); the leaves of a group one after the other (flat). And what builds on it.
-/
import Derived.Test.YtilagndfohnjnaaPkI
import Derived.Test.YtilagndfohnjnaaPkH
import Derived.Deep.RegionHeld3
import Derived.Test.YtilagndfohnjnaaPkG
import Derived.Test.YtilagndfohnjnaaPkC
import Derived.Deep.DeepCutAuto
import Derived.BigQuiet
import Derived.Deep.QuietTactic
import Derived.Test.YtilagndfohnjnaaPkJ
import Derived.Test.YtilagndfohnjnaaPkE
import Derived.Laws.OwnMore

/- Nodes at one depth (atDepth); the leaves of a group one after the other (flat). -/
namespace Go.Proofs.Ytilagndfohnjnaa
open Go.RowKit

def setD (d : Int) (n : Nd) : Nd := n.atD d

set_option maxRecDepth 100000 in
set_option maxHeartbeats 4000000 in
theorem atDepth_any (A : Option Addr) (cap : Nat) (ns : List Nd) (d : Int) (w : World) (hn : NdsAt w A ns) (hc1 : ns.length ≤ cap) (hc : cap ≤ maxLen) (hsm : ns.length ≤ 1000000) :
    Calls Try.prog 103 #[.slice A ns.length cap, .int .i64 d] w (GotRow w 78 8 ns.length ((ns.map (setD d)).flatMap Nd.cells)) := by
  have HCL := Lib.hid (cloneN_any A cap ns w hn hc1 hc hsm)
  obtain ⟨N, hN⟩ : ∃ N, N = ns.length := ⟨_, rfl⟩
  have HN := Lib.hid hN
  rw [← hN] at hsm HCL ⊢
  clear hn hc1 hc hN
  go_enter Try.func103, Try.ntmps103
  go_wp2_with fail
  refine HCL.out.mono ?_; rintro e w1 ⟨A1, c1, rfl, hown, hb⟩
  have HB1 := Lib.hid hb
  have HO1 := Lib.hid hown
  have hol := own_len hown
  have hcm := hol.1
  have hmm := hol.2.1
  unfold maxLen at hmm
  clear hown hb HCL hol
  go_wp2_with fail
  go_loopw [11] (fun i wr => ∃ k : Nat, k ≤ N ∧ i = .int .i64 k ∧ Hid (wr.ownsRow w.heap.size 78 8 (.slice A1 N c1) N (((ns.take k).map (setD d) ++ ns.drop k).flatMap Nd.cells)) ∧ Hid (Below w.heap.size w wr)) (fun i _ => N - (intOf i).toNat)
  case atStart => exact ⟨0, Nat.zero_le _, rfl, by simpa using HO1, HB1⟩
  case round =>
    obtain ⟨k, hk, rfl, hown, hbw⟩ := hrel
    have HOW := Lib.hid hown.out
    have HBW := Lib.hid hbw.out
    clear hown hbw
    by_cases hlt : k < N
    · obtain ⟨x, hx⟩ : ∃ x, ns[k]? = some x := ⟨_, List.getElem?_eq_getElem (by have := HN.out; omega)⟩
      obtain ⟨g, rfl, hbg, hg, -, -, hcell, hfr⟩ := own_open HOW.out (by omega)
      have y1 : wr.cell? ⟨g, k * 8 + 1, none⟩ = some (.int .i64 x.depth) := hcell _ _ (by
        rw [flat_at (c := 8) (fun _ => rfl) _ _ _ (map_at (setD d) hx) 1 (by omega)]; rfl)
      have f1 := hfr (k * 8 + 1)
      have HO2 := Lib.hid (show (wr.setCell ⟨g, k * 8 + 1, none⟩ (.int .i64 d)).ownsRow w.heap.size 78 8 (.slice (some ⟨g, 0, none⟩) N c1) N (((ns.take (k + 1)).map (setD d) ++ ns.drop (k + 1)).flatMap Nd.cells) by
        have h1 := own_set HOW.out (g := g) rfl (k * 8 + 1) (.int .i64 d)
        rw [flat_set (c := 8) (fun _ => rfl) _ k x (setD d x) 1 _ (map_at (setD d) hx) (by omega) (Nd.atD_cells _ _), map_set (setD d) hx] at h1
        exact h1)
      have HB2 := Lib.hid (show Below w.heap.size w (wr.setCell ⟨g, k * 8 + 1, none⟩ (.int .i64 d)) from HBW.out.setCell hbg _)
      clear hx hcell hfr
      go_wp2_with fail
      go_roundw
      case rel => exact ⟨k + 1, by omega, by go_num, HO2, HB2⟩
      case measure => simp [intOf]; omega
    · obtain rfl : k = N := by omega
      have HT := Lib.hid (show (ns.take k).map (setD d) ++ ns.drop k = ns.map (setD d) by rw [HN.out, List.take_length, List.drop_length, List.append_nil])
      go_wp2_with fail
      go_ret
      rw [← HT.out]
      exact ⟨A1, c1, rfl, HOW.out, HBW.out⟩

end Go.Proofs.Ytilagndfohnjnaa

/- The leaves of a group one after the other (flat). -/
namespace Go.Proofs.Ytilagndfohnjnaa
open Go.RowKit

theorem leaves_tight {ns : List Nd} (h : VisOk ns) : ∀ (f i : Nat), (leavesF ns (f + 1) i).length ≤ 6 ^ f := by
  intro f
  induction f with
  | zero =>
    intro i
    rw [leavesF]
    split
    · simp
    · split
      · simp
      · rename_i u _ _
        have : ∀ l : List Nat, l.flatMap (leavesF ns 0) = [] := fun l => by
          rw [List.flatMap_eq_nil_iff]; intro x _; rfl
        rw [this]; simp
  | succ f ih =>
    intro i
    rw [leavesF]
    split
    · simp
    · split
      · simp; exact Nat.one_le_pow _ _ (by omega)
      · rename_i u _ _
        have h6 : (kidsO ns i u.kind).length ≤ 6 := by rw [kidsO_len]; exact h.six i
        have : ∀ l : List Nat, (l.flatMap (leavesF ns (f + 1))).length ≤ l.length * 6 ^ f := by
          intro l
          induction l with
          | nil => simp
          | cons x l ihl => rw [List.flatMap_cons, List.length_append, List.length_cons, Nat.succ_mul]; have := ih x; omega
        have h1 := this (kidsO ns i u.kind)
        have h2 : (kidsO ns i u.kind).length * 6 ^ f ≤ 6 * 6 ^ f := Nat.mul_le_mul_right _ h6
        rw [Nat.pow_succ, Nat.mul_comm (6 ^ f) 6]; omega
theorem leaves5 {ns : List Nd} (h : VisOk ns) (i : Nat) : (leavesF ns 5 i).length ≤ 1296 := Nat.le_trans (leaves_tight h 4 i) (by decide)
def leavesL (l : List Nd) : List Nd := pickN l (leavesF l 5 0)
/-- a group's leaves, as groups or as a ring's kids -/
def flatP (l : List Nd) : List Nd := match l with
  | [] => []
  | u :: _ => if u.kind == 5 && decide ((leavesL l).length ≤ 6) then u :: (leavesL l).map (setD 1) else (leavesL l).map (setD 0)
theorem flatP_cons (u : Nd) (r : List Nd) : flatP (u :: r) = if u.kind == 5 && decide ((leavesL (u :: r)).length ≤ 6) then u :: (leavesL (u :: r)).map (setD 1) else (leavesL (u :: r)).map (setD 0) := rfl
theorem leavesL_len {l : List Nd} (h : VisOk l) : (leavesL l).length ≤ 1296 := by
  unfold leavesL pickN; rw [List.length_map]; exact leaves5 h 0
theorem flatP_len {l : List Nd} (h : VisOk l) : (flatP l).length ≤ 1297 := by
  cases l with
  | nil => simp [flatP]
  | cons u r =>
    have := leavesL_len h
    rw [flatP_cons]
    split
    · rw [List.length_cons, List.length_map]; omega
    · rw [List.length_map]; omega

set_option maxRecDepth 100000 in
set_option maxHeartbeats 4000000 in
theorem flat_any (b o : Nat) (l : List Nd) (w : World) (hn : NdsAt w (some ⟨b, o, none⟩) l) (h1 : 1 ≤ l.length) (h2 : l.length ≤ 1000000) (hok : VisOk l) :
    Calls Try.prog 84 #[.slice (some ⟨b, o, none⟩) l.length l.length] w (GotNds w (flatP l)) := by
  obtain ⟨u, r, hl⟩ : ∃ u r, l = u :: r := by cases l with | nil => simp at h1 | cons u r => exact ⟨u, r, rfl⟩
  have h0 : l[0]? = some u := by rw [hl]; rfl
  have HNS := Lib.hid hn
  have HLL := Lib.hid (leavesL_len hok)
  obtain ⟨ls, hls⟩ : ∃ ls, ls = leavesL l := ⟨_, rfl⟩
  have hll : (leavesF l 5 0).length = ls.length := by rw [hls]; unfold leavesL pickN; rw [List.length_map]
  obtain ⟨R, hR⟩ : ∃ R, R = flatP l := ⟨_, rfl⟩
  have HR := Lib.hid (show R = if u.kind == 5 && decide (ls.length ≤ 6) then u :: ls.map (setD 1) else ls.map (setD 0) by rw [hR, hls, hl]; rfl)
  have HLV := Lib.hid (show Calls Try.prog 99 #[.slice (some ⟨b, o, none⟩) l.length l.length] w (GotRow w 78 8 ls.length (ls.flatMap Nd.cells)) by
    have := leaves_any (some ⟨b, o, none⟩) l.length l hok (by omega) (Nat.le_refl _) (by unfold maxLen; omega) h2 w hn
    rw [hll] at this
    rw [hls]; rw [hls] at this; exact this)
  rw [← hls] at HLL
  have HT1 := Lib.hid (show l.take 1 = [u] by rw [hl]; rfl)
  have HVA := Lib.hid (fun wx (hb : Below w.heap.size w wx) => show wx.cell? ⟨b, o, none⟩ = some (.int .i64 u.kind) by
    obtain ⟨b', o', e, hb', hva⟩ := (hn.below hb) 0 u h0
    injection e with e; injection e with e1 e2; subst e1 e2
    have y0 := hva.c0
    rw [Nat.zero_mul, Nat.add_zero] at y0; exact y0)
  rw [← hR]
  obtain ⟨m, hm⟩ : ∃ m, m = ls.length := ⟨_, rfl⟩
  have HM := Lib.hid hm
  rw [← hm] at HLV HLL HR
  obtain ⟨n, hnn⟩ : ∃ n, n = l.length := ⟨_, rfl⟩
  have HN := Lib.hid hnn
  rw [← hnn] at h1 h2 HLV ⊢
  have hm3 := HLL.out
  clear hn h0 hl hls hll hok hR hm hnn
  obtain ⟨uk, hu⟩ : ∃ uk, uk = u.kind := ⟨_, rfl⟩
  rw [← hu] at HR HVA
  clear hu
  have hi1 : (1 : Int) ≤ (n : Int) := by omega
  have hi0 : (0 : Int) < (n : Int) := by omega
  go_enter Try.func84, Try.ntmps84
  go_wp2_with fail
  refine HLV.out.mono ?_; rintro e w1 ⟨A1, c1, rfl, hown, hb⟩
  have HB1 := Lib.hid hb
  have y0 := HVA.out w1 hb
  have HO1 := Lib.hid (own_nodes hown)
  have hol := own_len hown
  have HCM := Lib.hid hol.2.1
  have HC1 := Lib.hid hol.1
  clear hown hb hol HLV
  have HAD := Lib.hid (fun (d : Int) wx (hb : Below w1.heap.size w1 wx) => show Calls Try.prog 103 #[.slice A1 m c1, .int .i64 d] wx (GotRow wx 78 8 m ((ls.map (setD d)).flatMap Nd.cells)) by
    have := atDepth_any A1 c1 ls d wx (HO1.out.below hb) (by rw [← HM.out]; exact HC1.out) HCM.out (by rw [← HM.out]; omega)
    rw [← HM.out] at this; exact this)
  by_cases hring : uk = 5 ∧ m ≤ 6
  · obtain ⟨h5, h6⟩ := hring
    have hkb : (uk == 5) = true := by simpa using h5
    have hmb : decide ((m : Int) ≤ 6) = true := decide_eq_true (by omega)
    have HP := Lib.hid (show R = u :: ls.map (setD 1) by rw [HR.out, hkb, decide_eq_true h6]; rfl)
    have HCC := Lib.hid (fun (w2 : World) (A2 : Option Addr) (c2 : Nat) (hb : Below w1.heap.size w1 w2) (hown : w2.ownsRow w1.drew.heap.size 78 8 (.slice A2 m c2) m ((ls.map (setD 1)).flatMap Nd.cells)) =>
      show Calls Try.prog 83 #[.slice (some ⟨w2.heap.size, 0, none⟩) 2 2] (w2.alloc (.cells #[.slice (some ⟨b, o, none⟩) 1 n, .slice A2 m c2] 25)) (fun e w' => ∃ A3 c3, e = .returned (.slice A3 (m + 1) c3) ∧ w'.ownsRow w2.heap.size 78 8 (.slice A3 (m + 1) c3) (m + 1) (R.flatMap Nd.cells) ∧ Below (w2.alloc (.cells #[.slice (some ⟨b, o, none⟩) 1 n, .slice A2 m c2] 25)).heap.size (w2.alloc (.cells #[.slice (some ⟨b, o, none⟩) 1 n, .slice A2 m c2] 25)) w') by
      have h1 : SrcOk 8 w2 ⟨some ⟨b, o, none⟩, 1, n, [u].flatMap Nd.cells⟩ := by
        have := nds_src (((HNS.out.below (below_more HB1.out hb))).take 1) (by rw [HT1.out]; simp) n
        rw [HT1.out] at this; exact this
      have h2 : SrcOk 8 w2 ⟨A2, m, c2, (ls.map (setD 1)).flatMap Nd.cells⟩ := own_src hown nds_one
      have h3 := concatNd (some ⟨w2.heap.size, 0, none⟩) 2 [⟨some ⟨b, o, none⟩, 1, n, [u].flatMap Nd.cells⟩, ⟨A2, m, c2, (ls.map (setD 1)).flatMap Nd.cells⟩] _ (two_slices w2 ⟨some ⟨b, o, none⟩, 1, n, [u].flatMap Nd.cells⟩ ⟨A2, m, c2, (ls.map (setD 1)).flatMap Nd.cells⟩ 25)
        (fun s hs => by
          rcases List.mem_cons.1 hs with rfl | hs
          · exact h1.below (below_alloc w2 _)
          · obtain rfl := List.mem_singleton.1 hs; exact h2.below (below_alloc w2 _)) (by simp [sumN]; omega) (by simp)
      refine h3.mono ?_
      rintro e w3 ⟨A3, c3, rfl, h4, h5⟩
      have e1 : sumN [⟨some ⟨b, o, none⟩, 1, n, [u].flatMap Nd.cells⟩, ⟨A2, m, c2, (ls.map (setD 1)).flatMap Nd.cells⟩] = m + 1 := by simp [sumN]; omega
      rw [e1] at h4 ⊢
      refine ⟨A3, c3, rfl, ?_, h5⟩
      rw [HP.out]
      have := own_base h4 (b0 := w2.heap.size) (by simp)
      simpa using this)
    clear h5 HR
    go_wp2_with fail
    have HDR := Lib.hid (show Below w1.heap.size w1 w1.drew from (Below.refl _ _).drew)
    have HSB := Lib.hid (fun wx (h : Below w1.heap.size w1 wx) => h)
    go_region_held3 (fun w' => Below w1.heap.size w1 w')
      (first | assumption | exact HDR.out | (refine Below.alloc ?_ (by first | omega | (simp; omega) | simp) _; assumption))
      (first
        | (go_at_call 103; refine (HAD.out 1 _ HDR.out).mono ?_; rintro e w2 ⟨A2, c2, rfl, hown, hb2⟩; have hbw2 := below_more HDR.out hb2; have hz2 := hbw2.size)
        | (go_at_call 83; refine (HCC.out w2 A2 c2 hbw2 hown).mono ?_; rintro e w3 ⟨A3, c3, rfl, hown3, hb3⟩; have hbw3 := below_more (HSB.out _ (by assumption)) hb3))
    all_goals
      have HX := Lib.hid (own_base hown3 hz2)
      have HBB := Lib.hid (below_more HB1.out hbw3)
      have hzz := HB1.out.size
      clear hown hown3 HCC HSB HAD
      go_wp2
      go_ret
      obtain ⟨h6, h7, -⟩ := own_len HX.out
      exact ⟨A3, m + 1, c3, rfl, Lib.hid (by rw [HP.out, List.length_cons, List.length_map, HM.out]), Lib.hid (own_nodes HX.out), h6, h7, HBB.out⟩
  · have HP := Lib.hid (show R = ls.map (setD 0) by
      rw [HR.out, if_neg]
      intro h
      simp only [Bool.and_eq_true, beq_iff_eq, decide_eq_true_eq] at h
      exact hring h)
    have HFIN := Lib.hid (fun (w2 : World) (A2 : Option Addr) (c2 : Nat) (hown : w2.ownsRow w1.heap.size 78 8 (.slice A2 m c2) m ((ls.map (setD 0)).flatMap Nd.cells)) (hb : Below w1.heap.size w1 w2) => show GotNds w R (.returned (.slice A2 m c2)) w2 by
      obtain ⟨h6, h7, -⟩ := own_len hown
      refine ⟨A2, m, c2, rfl, Lib.hid (by rw [HP.out, List.length_map, HM.out]), Lib.hid ?_, h6, h7, below_more HB1.out hb⟩
      rw [HP.out]; exact own_nodes hown)
    clear HR
    by_cases h5 : uk = 5
    · have hkb : (uk == 5) = true := by simpa using h5
      have hmb : decide ((m : Int) ≤ 6) = false := decide_eq_false (fun h => hring ⟨h5, by omega⟩)
      clear h5 hring
      go_wp2_with fail
      refine (HAD.out 0 w1 (Below.refl _ _)).mono ?_; rintro e w2 ⟨A2, c2, rfl, hown, hb2⟩
      have HX := Lib.hid (HFIN.out w2 A2 c2 hown hb2)
      clear hown hb2 y0
      go_wp2
      go_ret
      exact HX.out
    · have hkb : (uk == 5) = false := by simpa using h5
      clear h5 hring
      go_wp2_with fail
      refine (HAD.out 0 w1 (Below.refl _ _)).mono ?_; rintro e w2 ⟨A2, c2, rfl, hown, hb2⟩
      have HX := Lib.hid (HFIN.out w2 A2 c2 hown hb2)
      clear hown hb2 y0
      go_wp2
      go_ret
      exact HX.out

end Go.Proofs.Ytilagndfohnjnaa

/- A text of which each group is changed (regroup), by ostracon/groups.flat. -/
namespace Go.Proofs.Ytilagndfohnjnaa
open Go.RowKit

set_option maxRecDepth 100000 in
set_option maxHeartbeats 8000000 in
theorem regroup_flat (L : Lm) (A : Option Addr) (cap : Nat) (ns : List Nd) (w : World) (hl : LmOk w L) (hn : NdsAt w A ns) (hc1 : ns.length ≤ cap) (hc : cap ≤ maxLen)
    (hK : textErr L.li ns = 0 → ∀ p ∈ partsW 0 ns, ∀ wx, Below w.heap.size w wx → Calls Try.prog 84 #[partV A p] wx (GotNds wx (flatP p.2)))
    (hS : textErr L.li ns = 0 → ((partsW 0 ns).flatMap fun p => flatP p.2).length ≤ 1000000) :
    Calls Try.prog 72 #[.agg #[.int .i64 L.per, .slice L.A L.ms.length L.cap], .agg #[.slice A ns.length cap], .func (.func 84) #[] #[]] w (GotTextO w (regQ flatP L.li ns).1 (regQ flatP L.li ns).2) := by
  obtain ⟨E, hE⟩ : ∃ E, textErr L.li ns = E := ⟨_, rfl⟩
  obtain ⟨R, hR⟩ : ∃ R, R = regQ flatP L.li ns := ⟨_, rfl⟩
  have HE := Lib.hid (show R = if E ≠ 0 then ([], E) else ((partsW 0 ns).flatMap (fun p => flatP p.2), 0) by rw [hR, ← hE]; rfl)
  have HEE := Lib.hid hE
  have HNS := Lib.hid hn
  have HCM := Lib.hid hc
  have HKK := Lib.hid hK
  have HSS := Lib.hid hS
  obtain ⟨N, hN⟩ : ∃ N, N = ns.length := ⟨_, rfl⟩
  have HN := Lib.hid hN
  have HCK := Lib.hid (fun wx (hb : Below w.heap.size w wx) => gcheck_is L A cap ns wx (hl.below hb) (hn.below hb) hc1 hc E hE)
  rw [← hR]
  rw [← hN] at HCK hc1 ⊢
  unfold maxLen at hc
  obtain ⟨W, hW⟩ : ∃ W, W = ((w.alloc (.cells #[.int .i64 L.per, .slice L.A L.ms.length L.cap] 24)).alloc (.cells #[.slice A N cap] 27)).alloc (.cells #[.slice none 0 0] 27) := ⟨_, rfl⟩
  have HB := Lib.hid (show Below w.heap.size w W from hW ▸ (((Below.refl _ _).alloc (Nat.le_refl _) _).alloc (by simp) _).alloc (by simp; omega) _)
  have HX1 := Lib.hid (show W.heap[w.heap.size + 1]? = some (.cells #[.slice A N cap] 27 (0, 0)) by
    rw [hW, heap_alloc_other _ _ _ (by simp)]; have := heap_alloc_new (w.alloc (.cells #[.int .i64 L.per, .slice L.A L.ms.length L.cap] 24)) (.cells #[.slice A N cap] 27); simpa using this)
  have HX2 := Lib.hid (show W.heap[w.heap.size + 1 + 1]? = some (.cells #[.slice none 0 0] 27 (0, 0)) by
    rw [hW]; have := heap_alloc_new ((w.alloc (.cells #[.int .i64 L.per, .slice L.A L.ms.length L.cap] 24)).alloc (.cells #[.slice A N cap] 27)) (.cells #[.slice none 0 0] 27); simpa using this)
  obtain ⟨iv, hiv, hzv, hsv, hbv⟩ := info_hid infoNd
  clear hl hn hE hN hR hK hS
  go_enter Try.func72, Try.ntmps72
  go_wp2_with fail
  rw [← hW]
  refine (HCK.out W HB.out).mono ?_; rintro e w1 ⟨rfl, hb⟩
  have HB1 := Lib.hid (below_more HB.out hb)
  have D1 := Lib.hid (blk_keep hb HX1.out)
  have D2 := Lib.hid (blk_keep hb HX2.out)
  have x0 := cell_of_blk D1.out 0
  have q0 := cell_of_blk D2.out 0
  have q1 := free_of_blk D2.out 0
  have hs2 := (Array.getElem?_eq_some_iff.1 D2.out).1
  have hs1 : w.heap.size + 1 < w1.heap.size := by omega
  have hsz : w.heap.size ≤ w1.heap.size := by omega
  simp at x0 q0
  clear hb hW HX1 HX2 HCK HB
  by_cases h0 : E = 0
  case neg =>
    have hbE : (E != 0) = true := by simpa using h0
    have HF := Lib.hid (show R = ([], E) by rw [HE.out, if_pos h0])
    clear h0 HE
    go_wp2
    refine bodyPost_ret (v := .tuple #[.agg #[.slice none 0 0], .int .i64 E]) (by simp [results, Try.results72, go_sem, q0]) rfl ?_
    rw [HF.out]
    exact ⟨none, 0, 0, rfl, Lib.hid rfl, Lib.hid (own_none _ _), HB1.out.setCell (by dsimp only; omega) _⟩
  subst h0
  obtain ⟨-, hk2, -, -, -, -⟩ := text_ok HEE.out
  obtain ⟨ps, hps⟩ : ∃ ps, ps = partsW 0 ns := ⟨_, rfl⟩
  have hpl : ps.length ≤ 200 := by rw [hps]; have := partsW_len ns.length 0 ns (Nat.le_refl _); omega
  have HF := Lib.hid (show R = (ps.flatMap (fun p => flatP p.2), 0) by rw [HE.out, if_neg (by simp), hps])
  have HSP := Lib.hid (show Calls Try.prog 81 #[.slice A N cap] w1 (GotRow w1 25 1 ps.length (partsV A ps)) by
    have := split_any A cap ns w1 (HNS.out.below HB1.out) (by rw [← HN.out]; exact hc1) HCM.out (by omega)
    rw [← HN.out, ← hps] at this; exact this)
  have HK2 := Lib.hid (fun p (hp : p ∈ ps) wx (hb : Below w.heap.size w wx) => HKK.out HEE.out p (hps ▸ hp) wx hb)
  have hS2 : (ps.flatMap fun p => flatP p.2).length ≤ 1000000 := by rw [hps]; exact HSS.out HEE.out
  obtain ⟨np, hnp⟩ : ∃ np, np = ps.length := ⟨_, rfl⟩
  have HNP := Lib.hid hnp
  rw [← hnp] at HSP hpl
  clear HE hk2 hps hnp HKK HSS
  go_wp2_with fail
  refine HSP.out.mono ?_; rintro e w2 ⟨A1, c1, rfl, hown, hb⟩
  have HB2 := Lib.hid (below_more HB1.out hb)
  have E2 := Lib.hid (blk_keep hb D2.out)
  have HRP := Lib.hid (row_parts hown)
  have hol := own_len hown
  have hcm := hol.1
  have hmm := hol.2.1
  unfold maxLen at hmm
  have hw12 := hb.size
  have HS2 := Lib.hid hS2
  clear hown hb HSP hol x0 q0 q1 hs1 D1 D2 hs2 hS2
  have hsz2 := HB2.out.size
  go_wp2_with fail
  go_loopw [9, 11, 23] (fun v _ i wr => ∃ (k m : Nat), k ≤ np ∧ i = .int .i64 k ∧ m ≤ 1000000 ∧ Hid (m = ((ps.take k).flatMap fun p => flatP p.2).length) ∧ Hid (wr.ownsRow w2.heap.size 78 8 v m (((ps.take k).flatMap fun p => flatP p.2).flatMap Nd.cells)) ∧ Hid (Below w2.heap.size w2 wr)) (fun _ _ i _ => np - (intOf i).toNat)
  case atStart => exact ⟨0, 0, Nat.zero_le _, rfl, Nat.zero_le _, Lib.hid (by simp), Lib.hid (by simpa using World.ownsRow_nil _ _ _ _), Lib.hid (Below.refl _ _)⟩
  case round =>
    obtain ⟨k, m, hk, rfl, hm1, hml, hown, hbw⟩ := hrel
    have HOW := Lib.hid hown.out
    have HBW := Lib.hid hbw.out
    have HML := Lib.hid hml.out
    clear hown hbw hml
    have F2 := Lib.hid (blk_keep HBW.out E2.out)
    have hf2 := (Array.getElem?_eq_some_iff.1 F2.out).1
    by_cases hlt : k < np
    · obtain ⟨p, hp⟩ : ∃ p, ps[k]? = some p := ⟨_, List.getElem?_eq_getElem (by have := HNP.out; omega)⟩
      obtain ⟨g, rfl, -, hg, hcell⟩ := HRP.out k (partV A p) (by unfold partsV; rw [List.getElem?_map, hp]; rfl)
      have y0 := (HBW.out.cell (p := ⟨g, k, none⟩) hg).trans hcell
      have HCH := Lib.hid (HK2.out p (List.mem_of_getElem? hp) wr (below_more HB2.out HBW.out))
      have HTK := Lib.hid (show (ps.take (k + 1)).flatMap (fun p => flatP p.2) = (ps.take k).flatMap (fun p => flatP p.2) ++ flatP p.2 by
        obtain ⟨hk', e⟩ := List.getElem?_eq_some_iff.1 hp
        rw [List.take_succ_eq_append_getElem hk', e, List.flatMap_append]; simp)
      have HMX := Lib.hid (show ((ps.take (k + 1)).flatMap fun p => flatP p.2).length ≤ 1000000 by
        have h1 : ps.flatMap (fun p => flatP p.2) = (ps.take (k + 1)).flatMap (fun p => flatP p.2) ++ (ps.drop (k + 1)).flatMap (fun p => flatP p.2) := by rw [← List.flatMap_append, List.take_append_drop]
        have h2 := HS2.out
        rw [h1, List.length_append] at h2; omega)
      obtain ⟨pv, hpv⟩ : ∃ pv, pv = partV A p := ⟨_, rfl⟩
      rw [← hpv] at y0 HCH
      obtain ⟨Ap, np', cp', hsl⟩ : ∃ Ap np' cp', pv = .slice Ap np' cp' := ⟨_, _, _, hpv⟩
      subst hsl
      obtain ⟨zs, hzs⟩ : ∃ zs, zs = flatP p.2 := ⟨_, rfl⟩
      obtain ⟨done, hdn⟩ : ∃ d, d = (ps.take k).flatMap (fun p => flatP p.2) := ⟨_, rfl⟩
      rw [← hzs] at HCH HTK
      rw [← hdn] at HTK HOW HML
      have hgs : g < wr.heap.size := by have := HBW.out.size; omega
      obtain ⟨Av, cv, hv, -, -, -, -⟩ := own_slice HOW.out
      subst hv
      clear hp hcell hpv hzs hdn hg
      go_wp2_with fail
      refine HCH.out.mono ?_; rintro e w3 ⟨A3, k3, c3, rfl, hk3, hn3, hkc3, hcm3, hb3⟩
      have HN3 := Lib.hid hn3.out
      have HK3 := Lib.hid hk3.out
      have HB3 := Lib.hid (below_more HBW.out hb3)
      have HO3 := Lib.hid (ownsRow_of_block (w' := w3) HOW.out (fun g hg => hb3.block g (HOW.out.lt g hg).2))
      have HLM := Lib.hid (show m + k3 ≤ 1000000 by have := HMX.out; rw [HTK.out, List.length_append, ← HML.out, ← HK3.out] at this; exact this)
      have hlm := HLM.out
      have hwr3 := hb3.size
      have hsw := HBW.out.size
      unfold maxLen at hcm3
      obtain ⟨cells, hcs⟩ : ∃ c, c = zs.flatMap Nd.cells := ⟨_, rfl⟩
      have HC := Lib.hid (show cells.length = k3 * 8 by rw [hcs, HK3.out]; exact flat_len (f := Nd.cells) (fun _ => rfl) _)
      have HC0 := Lib.hid (fun (h : A3 = none) => show k3 = 0 by rw [HK3.out]; exact nds_none HN3.out h)
      have HC1 := Lib.hid (show ∀ u ∈ cells, u.oneCell' = true by rw [hcs]; exact nds_one)
      have HC2 := Lib.hid (show ∀ ad, A3 = some ad → ∀ j u, cells[j]? = some u → w3.cell? (ad.add j) = some u by rw [hcs]; exact nds_cells HN3.out)
      have HCS := Lib.hid hcs
      clear hk3 hn3 hb3 hcs y0 HCH
      go_wp2_with (first
        | (at_builtin; refine wpList_append_src _ rfl (.tmp 27) (.tmp 30) 25 rfl w2.heap.size 78 iv (.agg #[.int .i64 0, .int .i64 0, .int .i64 0, .int .i64 0, .bool false, .int .i64 0, .int .i64 0, .int .i64 0]) 8 64 Try.underlying25 hiv.out hzv.out hsv.out hbv.out rfl (by decide) (.slice Av m cv) m (done.flatMap Nd.cells) rfl ?own2 A3 k3 c3 cells rfl HC.out HC0.out ?c2 HC1.out ?m2 ?b2 ?s2 (m + k3) rfl ?_))
      case own2 => exact HO3.out
      case c2 => exact HC2.out
      case m2 => unfold maxLen; omega
      case b2 => omega
      case s2 => omega
      intro A4 c4 w4 own4 hg4 _
      have HB4 := Lib.hid (HB3.out.grown hg4 (by omega) (fun g hg => (HO3.out.lt g hg).1))
      have HO4 := Lib.hid own4
      clear own4 hg4
      go_wp2_with fail
      go_roundw
      case rel => exact ⟨k + 1, m + k3, by omega, by go_num, by omega, Lib.hid (by rw [HTK.out, List.length_append, ← HML.out, ← HK3.out]), Lib.hid (by rw [HTK.out, List.flatMap_append, ← HCS.out]; exact HO4.out), HB4⟩
      case measure => simp [intOf]; omega
    · obtain rfl : k = np := by omega
      have HT := Lib.hid (show ps.take k = ps by rw [HNP.out, List.take_length])
      have q0 := cell_of_blk F2.out 0
      have q1 := free_of_blk F2.out 0
      simp at q0
      have h1 := HOW.out
      rw [HT.out] at h1
      obtain ⟨Av, cv, hv, -, -, -, -⟩ := own_slice h1
      subst hv
      have HO := Lib.hid (show (wr.setCell ⟨w.heap.size + 1 + 1, 0, none⟩ (.slice Av m cv)).ownsRow w.heap.size 78 8 (.slice Av m cv) m ((ps.flatMap fun p => flatP p.2).flatMap Nd.cells) from
        own_base (ownsRow_of_block h1 (fun g hg => heap_setCell_other _ _ _ _ (by have := (h1.lt g hg).1; have := (Array.getElem?_eq_some_iff.1 E2.out).1; dsimp only; omega))) hsz2)
      have HBB := Lib.hid (show Below w.heap.size w (wr.setCell ⟨w.heap.size + 1 + 1, 0, none⟩ (.slice Av m cv)) from (below_more HB2.out HBW.out).setCell (by dsimp only; omega) _)
      have HML2 := Lib.hid (show m = (ps.flatMap fun p => flatP p.2).length by have := HML.out; rw [HT.out] at this; exact this)
      clear h1
      go_wp2
      refine bodyPost_ret (v := .tuple #[.agg #[.slice Av m cv], .int .i64 0]) (by simp [results, Try.results72, go_sem, q0]) rfl ?_
      rw [HF.out]
      exact ⟨Av, m, cv, rfl, HML2, Lib.hid HO.out, HBB.out⟩

end Go.Proofs.Ytilagndfohnjnaa

/- The program's Flat. -/
namespace Go.Proofs.Ytilagndfohnjnaa
open Go.RowKit

theorem flat_sum : ∀ ps : List (Nat × List Nd), (∀ p ∈ ps, VisOk p.2) → (ps.flatMap fun p => flatP p.2).length ≤ ps.length * 1297
  | [], _ => by simp
  | p :: r, h => by
    rw [List.flatMap_cons, List.length_append, List.length_cons]
    have := flat_sum r (fun q hq => h q (List.mem_cons_of_mem _ hq))
    have := flatP_len (h p (List.mem_cons_self ..))
    omega
theorem flatQ_len (l : Li) (ns : List Nd) : (regQ flatP l ns).1.length ≤ 1000000 := by
  unfold regQ
  split
  · simp
  · rename_i h
    have ht : textErr l ns = 0 := by simpa using h
    have h1 := flat_sum (partsW 0 ns) (text_ok ht).2.2.2.2.2
    have h2 := partsW_len ns.length 0 ns (Nat.le_refl _)
    have := (text_ok ht).2.1
    dsimp only
    omega

set_option maxRecDepth 100000 in
set_option maxHeartbeats 4000000 in
theorem flatT_any (L : Lm) (A : Option Addr) (cap : Nat) (ns : List Nd) (w : World) (hl : LmOk w L) (hn : NdsAt w A ns) (hc1 : ns.length ≤ cap) (hc : cap ≤ maxLen) :
    Calls Try.prog 51 #[.agg #[.int .i64 L.per, .slice L.A L.ms.length L.cap], .agg #[.slice A ns.length cap]] w (GotTextO w (regQ flatP L.li ns).1 (regQ flatP L.li ns).2) := by
  obtain ⟨⟨zs, er⟩, hQ⟩ : ∃ q, q = regQ flatP L.li ns := ⟨_, rfl⟩
  have HQ := Lib.hid hQ
  rw [← hQ]
  dsimp only
  have HRG := Lib.hid (fun wx (hb : Below w.heap.size w wx) => show Calls Try.prog 72 #[.agg #[.int .i64 L.per, .slice L.A L.ms.length L.cap], .agg #[.slice A ns.length cap], .func (.func 84) #[] #[]] wx (GotTextO wx zs er) by
    have := regroup_flat L A cap ns wx (hl.below hb) (hn.below hb) hc1 hc (fun ht p hp wy hby => by
      have hs := shape_of ht
      have hg := grp_ok hs p hp
      have hk2 := (text_ok ht).2.1
      obtain ⟨b, o, rfl, -, -⟩ := hn 0 _ (List.getElem?_eq_getElem (by have := hg.pos; have := hg.le; omega : 0 < ns.length))
      have h1 : NdsAt wy (some ⟨b, o + p.1 * 8, none⟩) p.2 := by
        have := (((hn.below hb).below hby).drop p.1).take p.2.length
        rw [← hg.eq] at this; exact this
      exact flat_any b (o + p.1 * 8) p.2 wy h1 hg.pos (by have := hg.le; omega) ((text_ok ht).2.2.2.2.2 p hp)) (fun ht => by
      have h1 := flat_sum (partsW 0 ns) (text_ok ht).2.2.2.2.2
      have h2 := partsW_len ns.length 0 ns (Nat.le_refl _)
      have := (text_ok ht).2.1
      omega)
    rw [← HQ.out] at this; exact this)
  obtain ⟨N, hN⟩ : ∃ N, N = ns.length := ⟨_, rfl⟩
  rw [← hN] at HRG hc1 ⊢
  unfold maxLen at hc
  obtain ⟨W, hW⟩ : ∃ W, W = ((w.alloc (.cells #[.int .i64 L.per, .slice L.A L.ms.length L.cap] 24)).alloc (.cells #[.slice A N cap] 27)).alloc (.cells #[.slice none 0 0] 27) := ⟨_, rfl⟩
  have HB := Lib.hid (show Below w.heap.size w W from hW ▸ (((Below.refl _ _).alloc (Nat.le_refl _) _).alloc (by simp) _).alloc (by simp; omega) _)
  have HX2 := Lib.hid (show W.heap[w.heap.size + 1 + 1]? = some (.cells #[.slice none 0 0] 27 (0, 0)) by
    rw [hW]; have := heap_alloc_new ((w.alloc (.cells #[.int .i64 L.per, .slice L.A L.ms.length L.cap] 24)).alloc (.cells #[.slice A N cap] 27)) (.cells #[.slice none 0 0] 27); simpa using this)
  clear hl hn hQ hN
  go_enter Try.func51, Try.ntmps51
  go_wp2_with fail
  rw [← hW]
  refine (HRG.out W HB.out).mono ?_; rintro e w1 ⟨A1, k1, c1, rfl, hk, hown, hb⟩
  have HK := Lib.hid hk.out
  have D2 := Lib.hid (blk_keep hb HX2.out)
  have q0 := cell_of_blk D2.out 0
  have q1 := free_of_blk D2.out 0
  have hs2 := (Array.getElem?_eq_some_iff.1 D2.out).1
  simp at q0
  have hwz := (Array.getElem?_eq_some_iff.1 HX2.out).1
  have HO := Lib.hid (show (w1.setCell ⟨w.heap.size + 1 + 1, 0, none⟩ (.slice A1 k1 c1)).ownsRow w.heap.size 78 8 (.slice A1 k1 c1) k1 (zs.flatMap Nd.cells) from
    own_base (ownsRow_of_block hown.out (fun g hg => heap_setCell_other _ _ _ _ (by have := (hown.out.lt g hg).1; dsimp only; omega))) (by omega))
  have HBB := Lib.hid (show Below w.heap.size w (w1.setCell ⟨w.heap.size + 1 + 1, 0, none⟩ (.slice A1 k1 c1)) from (below_more HB.out hb).setCell (by dsimp only; omega) _)
  clear hb hW hk hown HRG HX2 HB hwz
  go_wp2
  refine bodyPost_ret (v := .tuple #[.agg #[.slice A1 k1 c1], .int .i64 er]) (by simp [results, Try.results51, go_sem, q0]) rfl ?_
  exact ⟨A1, k1, c1, rfl, HK, HO, HBB.out⟩

end Go.Proofs.Ytilagndfohnjnaa

/- Flat by the specification: its list; what a ring of a valid text is. -/
namespace Go.Proofs.Ytilagndfohnjnaa
open Go.RowKit

def ringNd : Nd := ⟨5, 0, 0, 0, false, 0, 0, 0⟩
/-- what becomes of the group at i -/
def flatG (ns : List Nd) (i : Nat) : List Nd :=
  if (getN ns i).kind == 5 && decide ((leavesF ns 5 i).length ≤ 6) then ringNd :: (pickN ns (leavesF ns 5 i)).map (setD 1) else (pickN ns (leavesF ns 5 i)).map (setD 0)
def flatS (ns : List Nd) : List Nd := (topsL ns).flatMap (flatG ns)
theorem nodes_plain {l : Li} {ns : List Nd} : ∀ (m k : Nat), ns.length - k ≤ m → nodesErr l (ns.take k) (ns.drop k) = 0 → ∀ j x, k ≤ j → ns[j]? = some x → x.kind = 5 → plainErr x = 0
  | 0, k, hm, _, j, x, hj, hx, _ => by have := (List.getElem?_eq_some_iff.1 hx).1; omega
  | m + 1, k, hm, h, j, x, hj, hx, hk => by
    have hjl := (List.getElem?_eq_some_iff.1 hx).1
    obtain ⟨u, hu⟩ : ∃ u, ns[k]? = some u := ⟨_, List.getElem?_eq_getElem (by omega)⟩
    rw [nodesErr_at l ns k u hu] at h
    split at h
    · rename_i h1; exact absurd h h1
    · rename_i h1
      rcases Nat.eq_or_lt_of_le hj with e | e
      · subst e
        rw [hu] at hx; injection hx with hx; subst hx
        have h1 : nodeErr l (ns.take k) u = 0 := by simpa using h1
        unfold nodeErr at h1
        rw [hk] at h1
        split at h1
        · omega
        · split at h1
          · omega
          · rw [if_neg (by omega), if_neg (by omega)] at h1; exact h1
      · exact nodes_plain m (k + 1) (by omega) h j x (by omega) hx hk
theorem ring_is {l : Li} {ns : List Nd} (h : textErr l ns = 0) {x : Nd} (hx : x ∈ ns) (hk : x.kind = 5) (hd : x.depth = 0) : x = ringNd := by
  obtain ⟨j, hj⟩ := List.getElem?_of_mem hx
  have h1 := nodes_plain ns.length 0 (by omega) (by simpa using (text_ok h).2.2.1) j x (Nat.zero_le _) hj hk
  obtain ⟨xk, xd, xs, xt, xm, xst, xmn, xmx⟩ := x
  unfold plainErr at h1
  split at h1
  · rename_i h2
    obtain ⟨h3, h4, h5, h6, h7, h8⟩ := h2
    dsimp only at hk hd h3 h4 h5 h6 h7 h8
    subst hk hd h3 h4 h5 h6 h7 h8
    rfl
  · omega
theorem flatG_is {l : Li} {ns : List Nd} (h : textErr l ns = 0) {p : Nat × List Nd} (hp : p ∈ partsW 0 ns) : flatG ns p.1 = flatP p.2 := by
  have hpos := parts_pos hp
  have hlv : pickN ns (leavesF ns 5 p.1) = leavesL p.2 := (pick_grp hp 5).symm
  have hll : (leavesF ns 5 p.1).length = (leavesL p.2).length := by rw [← hlv]; unfold pickN; rw [List.length_map]
  obtain ⟨u, r, hl⟩ : ∃ u r, p.2 = u :: r := by cases h' : p.2 with | nil => rw [h'] at hpos; simp at hpos | cons u r => exact ⟨u, r, rfl⟩
  have h0 := node_grp hp hpos
  rw [Nat.add_zero, hl] at h0
  have hu : ns[p.1]? = some u := h0
  have hg : getN ns p.1 = u := by unfold getN; rw [hu]; rfl
  have ht : p.1 ∈ topsL ns := by rw [tops_is (shape_of h)]; exact List.mem_map_of_mem hp
  obtain ⟨x, hx, hxd⟩ := tops_at ht
  rw [hu] at hx; injection hx with hx; subst hx
  unfold flatG
  rw [hlv, hll, hg]
  have hP : flatP p.2 = if u.kind == 5 && decide ((leavesL p.2).length ≤ 6) then u :: (leavesL p.2).map (setD 1) else (leavesL p.2).map (setD 0) := by rw [hl]; rfl
  rw [hP]
  by_cases hk : u.kind = 5
  · rw [← ring_is h (List.mem_of_getElem? hu) hk hxd]
  · have hkb : (u.kind == 5) = false := by simpa using hk
    rw [hkb]; rfl
theorem flatS_is {l : Li} {ns : List Nd} (h : textErr l ns = 0) : flatS ns = (partsW 0 ns).flatMap fun p => flatP p.2 := by
  unfold flatS
  rw [tops_is (shape_of h), List.flatMap_map]
  have hm : ∀ ps : List (Nat × List Nd), (∀ p ∈ ps, p ∈ partsW 0 ns) → (ps.flatMap fun p => flatG ns p.1) = ps.flatMap fun p => flatP p.2 := by
    intro ps
    induction ps with
    | nil => intro _; rfl
    | cons p r ih =>
      intro hh
      rw [List.flatMap_cons, List.flatMap_cons, ih (fun q hq => hh q (List.mem_cons_of_mem _ hq)), flatG_is h (hh p (List.mem_cons_self ..))]
  exact hm _ (fun p hp => hp)
def rflatQ (l : Li) (ns : List Nd) : List Nd × Int := if textErr l ns ≠ 0 then ([], textErr l ns) else (flatS ns, 0)
theorem rflat_is (l : Li) (ns : List Nd) : rflatQ l ns = regQ flatP l ns := by
  unfold rflatQ regQ
  split
  · rfl
  · rename_i h
    rw [flatS_is (l := l) (by simpa using h)]

/-- what the walk of Flat keeps: the blocks of before but the text's that is being made, and that text -/
structure FlRel (W2 wr : World) (bo : Nat) (v : Value) (k : Nat) (zs : List Nd) : Prop where
  old : ∀ g, g < W2.heap.size → g ≠ bo → wr.heap[g]? = W2.heap[g]?
  out : wr.heap[bo]? = some (.cells #[v] 27 (0, 0))
  own : wr.ownsRow W2.heap.size 78 8 v k (zs.flatMap Nd.cells)
  size : W2.heap.size ≤ wr.heap.size
section
variable {W2 wr wx wA w3 : World} {bo m c2 : Nat} {A2 : Option Addr} {v : Value} {k : Nat} {zs xs : List Nd}
theorem FlRel.later (h : FlRel W2 wr bo v k zs) (hb : Below wr.heap.size wr wx) : FlRel W2 wx bo v k zs :=
  ⟨fun g h1 h2 => (hb.block g (by have := h.size; omega)).trans (h.old g h1 h2), blk_keep hb h.out, ownsRow_of_block h.own (fun g hg => hb.block g (h.own.lt g hg).2), by have := h.size; have := hb.size; omega⟩
theorem FlRel.step (h : FlRel W2 wr bo v k zs) (ho : bo < W2.heap.size) (hA : Below wr.heap.size wr wA)
    (own2 : w3.ownsRow W2.heap.size 78 8 (.slice A2 m c2) m (zs.flatMap Nd.cells ++ xs.flatMap Nd.cells)) (hg : wA.grownBy w3 v.ownBlock) :
    FlRel W2 (w3.setCell ⟨bo, 0, none⟩ (.slice A2 m c2)) bo (.slice A2 m c2) m (zs ++ xs) ∧ w3.heap[bo]? = some (.cells #[v] 27 (0, 0)) := by
  have hs := h.size
  have hsA := hA.size
  have keep : ∀ g, g < W2.heap.size → w3.heap[g]? = wr.heap[g]? := fun g hg1 => by
    rw [hg.block g (by omega) (fun e => by have := (h.own.lt _ e.symm).1; omega)]
    exact hA.block g (by omega)
  have ho3 : w3.heap[bo]? = some (.cells #[v] 27 (0, 0)) := by rw [keep bo ho]; exact h.out
  refine ⟨⟨fun g h1 h2 => ?_, ?_, ?_, ?_⟩, ho3⟩
  · rw [heap_setCell_other _ _ _ _ h2, keep g h1]; exact h.old g h1 h2
  · rw [heap_setCell_same _ _ _ _ _ _ ho3]; rfl
  · have := ownsRow_of_block (w' := w3.setCell ⟨bo, 0, none⟩ (.slice A2 m c2)) own2 (fun g hg' => heap_setCell_other _ _ _ _ (by have := (own2.lt g hg').1; dsimp only; omega))
    rw [List.flatMap_append]; exact this
  · have := hg.size; simp; omega
theorem FlRel.below {w : World} (h : FlRel W2 wr bo v k zs) (hw : Below w.heap.size w wr) (hb : w.heap.size ≤ W2.heap.size) (ho : w.heap.size ≤ bo) (hA : Below wr.heap.size wr wA) (hg : wA.grownBy w3 v.ownBlock) (u : Value) : Below w.heap.size w (w3.setCell ⟨bo, 0, none⟩ u) :=
  ((below_more hw hA).grown hg (by have := hw.size; have := hA.size; omega) (fun g hg => by have := (h.own.lt g hg).1; omega)).setCell (by dsimp only; omega) _
end
/-- the leaves' row, beside the text that is being made -/
structure LvRow (w : World) (Al : Option Addr) (al : List Nat) (v : Value) (base : Nat) : Prop where
  at_ : ∀ i j, al[i]? = some j → ∃ g, Al = some ⟨g, 0, none⟩ ∧ base ≤ g ∧ g < w.heap.size ∧ w.cell? ⟨g, i, none⟩ = some (.int .i64 (j : Nat)) ∧ v.ownBlock ≠ some g
theorem LvRow.step {wr wA w3 : World} {Al : Option Addr} {al : List Nat} {v : Value} {base bo m c2 : Nat} {A2 : Option Addr} {u : Value} (h : LvRow wr Al al v base) (ho : bo < base) (hA : Below wr.heap.size wr wA) (hg : wA.grownBy w3 v.ownBlock)
    (hat : (Value.slice A2 m c2).ownBlock = v.ownBlock ∨ ∃ b, (Value.slice A2 m c2).ownBlock = some b ∧ wr.heap.size ≤ b) : LvRow (w3.setCell ⟨bo, 0, none⟩ u) Al al (.slice A2 m c2) base := by
  refine ⟨fun i j hj => ?_⟩
  obtain ⟨g, e, h1, h2, h3, h4⟩ := h.at_ i j hj
  have hsA := hA.size
  have hs3 := hg.size
  have hk : (w3.setCell ⟨bo, 0, none⟩ u).heap[g]? = wr.heap[g]? := by
    rw [heap_setCell_other _ _ _ _ (by dsimp only; omega), hg.block g (by omega) (fun e2 => h4 e2.symm)]
    exact hA.block g h2
  refine ⟨g, e, h1, by simp; omega, (World.cell?_of_block (a := ⟨g, i, none⟩) hk).trans h3, ?_⟩
  rcases hat with hat | ⟨b, hat, hb⟩
  · rw [hat]; exact h4
  · rw [hat]; intro e2; injection e2 with e2; omega

end Go.Proofs.Ytilagndfohnjnaa

/- The specification's Flat. -/
namespace Go.Proofs.Ytilagndfohnjnaa
open Go.RowKit

set_option maxRecDepth 100000 in
set_option maxHeartbeats 16000000 in
theorem rflat_any (L : Lm) (A : Option Addr) (cap : Nat) (ns : List Nd) (w : World) (hl : LmOk w L) (hn : NdsAt w A ns) (hc1 : ns.length ≤ cap) (hc : cap ≤ maxLen) :
    Calls Try.prog 52 #[.agg #[.int .i64 L.per, .slice L.A L.ms.length L.cap], .agg #[.slice A ns.length cap]] w (GotTextO w (rflatQ L.li ns).1 (rflatQ L.li ns).2) := by
  obtain ⟨E, hE⟩ : ∃ E, textErr L.li ns = E := ⟨_, rfl⟩
  obtain ⟨R, hR⟩ : ∃ R, R = rflatQ L.li ns := ⟨_, rfl⟩
  have HE := Lib.hid (show R = if E ≠ 0 then ([], E) else (flatS ns, 0) by rw [hR, ← hE]; rfl)
  have HEE := Lib.hid hE
  have HCM := Lib.hid hc
  have HNS := Lib.hid hn
  obtain ⟨N, hN⟩ : ∃ N, N = ns.length := ⟨_, rfl⟩
  have HN := Lib.hid hN
  have HCK := Lib.hid (fun wx (hb : Below w.heap.size w wx) => rgcheck_is L A cap ns wx (hl.below hb) (hn.below hb) hc1 hc E hE)
  rw [← hR]
  rw [← hN] at HCK hc1 ⊢
  unfold maxLen at hc
  obtain ⟨W, hW⟩ : ∃ W, W = ((w.alloc (.cells #[.int .i64 L.per, .slice L.A L.ms.length L.cap] 24)).alloc (.cells #[.slice A N cap] 27)).alloc (.cells #[.slice none 0 0] 27) := ⟨_, rfl⟩
  have HB := Lib.hid (show Below w.heap.size w W from hW ▸ (((Below.refl _ _).alloc (Nat.le_refl _) _).alloc (by simp) _).alloc (by simp; omega) _)
  have HX1 := Lib.hid (show W.heap[w.heap.size + 1]? = some (.cells #[.slice A N cap] 27 (0, 0)) by
    rw [hW, heap_alloc_other _ _ _ (by simp)]; have := heap_alloc_new (w.alloc (.cells #[.int .i64 L.per, .slice L.A L.ms.length L.cap] 24)) (.cells #[.slice A N cap] 27); simpa using this)
  have HX2 := Lib.hid (show W.heap[w.heap.size + 1 + 1]? = some (.cells #[.slice none 0 0] 27 (0, 0)) by
    rw [hW]; have := heap_alloc_new ((w.alloc (.cells #[.int .i64 L.per, .slice L.A L.ms.length L.cap] 24)).alloc (.cells #[.slice A N cap] 27)) (.cells #[.slice none 0 0] 27); simpa using this)
  obtain ⟨iv, hiv, hzv, hsv, hbv⟩ := info_hid infoNd
  clear hl hn hE hN hR
  go_enter Try.func52, Try.ntmps52
  go_wp2_with fail
  rw [← hW]
  refine (HCK.out W HB.out).mono ?_; rintro e w1 ⟨rfl, hb⟩
  have HB1 := Lib.hid (below_more HB.out hb)
  have D1 := Lib.hid (blk_keep hb HX1.out)
  have D2 := Lib.hid (blk_keep hb HX2.out)
  have q0 := cell_of_blk D2.out 0
  have q1 := free_of_blk D2.out 0
  have hs2 := (Array.getElem?_eq_some_iff.1 D2.out).1
  have hs1 := (Array.getElem?_eq_some_iff.1 D1.out).1
  simp at q0
  clear hb hW HX1 HX2 HCK HB
  by_cases h0 : E = 0
  case neg =>
    have hbE : (E != 0) = true := by simpa using h0
    have HF := Lib.hid (show R = ([], E) by rw [HE.out, if_pos h0])
    clear h0 HE
    go_wp2
    refine bodyPost_ret (v := .tuple #[.agg #[.slice none 0 0], .int .i64 E]) (by simp [results, Try.results52, go_sem, q0]) rfl ?_
    rw [HF.out]
    exact ⟨none, 0, 0, rfl, Lib.hid rfl, Lib.hid (own_none _ _), HB1.out.setCell (by dsimp only; omega) _⟩
  subst h0
  have hsh := shape_of HEE.out
  obtain ⟨hok, hon2⟩ := vis_of hsh
  have hk2 := (text_ok HEE.out).2.1
  have HF := Lib.hid (show R = ((topsL ns).flatMap (flatG ns), 0) by rw [HE.out, if_neg (by simp)]; rfl)
  have HIH := Lib.hid (fun (j : Nat) (x : Nd) (wx : World) (hb : Below w.heap.size w wx) (hj : ns[j]? = some x) (hd : 5 ≤ x.depth + 5) => rleaves_any A cap ns hok hon2 (by rw [← HN.out]; exact hc1) HCM.out (by omega) 5 j x wx hj hd (by omega) (HNS.out.below hb))
  have HL6 := Lib.hid (fun j => leaves5 hok j)
  have HKD := Lib.hid (fun wx (hbx : Below w.heap.size w wx) => show Calls Try.prog 67 #[.agg #[.slice A N cap], .int .i64 (-1)] wx (GotRow wx 3 1 (topsL ns).length (intsV (topsL ns))) by
    have := rkids_any A cap ns (-1) 0 0 wx (HNS.out.below hbx) (by rw [← HN.out]; exact hc1) HCM.out (by omega) (.inr ⟨rfl, rfl, rfl⟩)
    rw [tops_kids (fun x hx => (hsh.depth x hx).1), ← HN.out] at this; exact this)
  have HAT := Lib.hid (fun j (hj : j ∈ topsL ns) => tops_at hj)
  have htl := tops_len ns
  obtain ⟨tl, htl2⟩ : ∃ tl, tl = topsL ns := ⟨_, rfl⟩
  rw [← htl2] at HKD HAT htl HF
  rw [← HN.out] at htl HIH hk2
  obtain ⟨n, hn2⟩ : ∃ n, n = tl.length := ⟨_, rfl⟩
  have HTL := Lib.hid hn2
  rw [← hn2] at HKD htl
  have hNs : N ≤ 200 := hk2
  clear HE hk2 q0 q1 hsh hok hon2 htl2 hn2
  have x0 := cell_of_blk D1.out 0
  simp at x0
  obtain ⟨W2, hW2⟩ : ∃ W2, W2 = w1.alloc (.cells #[.slice none 0 0] 27) := ⟨_, rfl⟩
  have HB2 := Lib.hid (show Below w.heap.size w W2 from hW2 ▸ HB1.out.alloc HB1.out.size _)
  have HSZ := Lib.hid (show W2.heap.size = w1.heap.size + 1 by rw [hW2]; simp)
  have E1 := Lib.hid (show W2.heap[w.heap.size + 1]? = some (.cells #[.slice A N cap] 27 (0, 0)) by rw [hW2, heap_alloc_other _ _ _ hs1]; exact D1.out)
  have E2 := Lib.hid (show W2.heap[w.heap.size + 1 + 1]? = some (.cells #[.slice none 0 0] 27 (0, 0)) by rw [hW2, heap_alloc_other _ _ _ hs2]; exact D2.out)
  have E3 := Lib.hid (show W2.heap[w1.heap.size]? = some (.cells #[.slice none 0 0] 27 (0, 0)) by rw [hW2]; exact heap_alloc_new _ _)
  have hsw1 := HB1.out.size
  have y0 := cell_of_blk E1.out 0
  simp at y0
  go_wp2_with fail
  rw [← hW2]
  refine (HKD.out W2 HB2.out).mono ?_; rintro e w2 ⟨Ak, ck, rfl, hown, hb⟩
  have HB3 := Lib.hid (below_more HB2.out hb)
  have E1 := Lib.hid (blk_keep hb E1.out)
  have E2 := Lib.hid (blk_keep hb E2.out)
  have E3 := Lib.hid (blk_keep hb E3.out)
  have HRI := Lib.hid (row_ints hown)
  have hol := own_len hown
  have hnc := hol.1
  have hcm := hol.2.1
  unfold maxLen at hcm
  have hsw2 : w1.heap.size + 1 ≤ w2.heap.size := by have := hb.size; have := HSZ.out; omega
  have HRB := Lib.hid (fun g o (h : Ak = some ⟨g, o, none⟩) => show W2.heap.size ≤ g from (own_blk hown g o h).1)
  clear hW2 D1 D2 HKD hown hb hol x0 y0
  go_wp2_with fail
  go_loopw [9] (fun i wr => ∃ (k c : Nat), k ≤ n ∧ i = .int .i64 k ∧ c ≤ k * 1297 ∧ Hid (∃ v, c = ((tl.take k).flatMap (flatG ns)).length ∧ FlRel w2 wr w1.heap.size v c ((tl.take k).flatMap (flatG ns))) ∧ Hid (Below w.heap.size w wr)) (fun i _ => n - (intOf i).toNat)
  case atStart => exact ⟨0, 0, Nat.zero_le _, rfl, by omega, Lib.hid ⟨.slice none 0 0, rfl, fun _ _ _ => rfl, E3.out, World.ownsRow_nil _ _ _ _, Nat.le_refl _⟩, HB3⟩
  case round =>
    obtain ⟨k, c, hk, rfl, hck, hr, hbw⟩ := hrel
    obtain ⟨v, hcz, hor⟩ := hr.out
    have HR := Lib.hid hor
    have HCZ := Lib.hid hcz
    have HBW := Lib.hid hbw.out
    have hsw := HR.out.size
    clear hr hbw hcz hor
    by_cases hlt : k < n
    · obtain ⟨j, hj⟩ : ∃ j, tl[k]? = some j := ⟨_, List.getElem?_eq_getElem (by have := HTL.out; omega)⟩
      obtain ⟨x, hx, hxd⟩ := HAT.out j (List.mem_of_getElem? hj)
      have hjN : j < N := by have := (List.getElem?_eq_some_iff.1 hx).1; have := HN.out; omega
      have HIJ := Lib.hid (fun wx (hb : Below w.heap.size w wx) => HIH.out j x wx hb hx (by omega))
      obtain ⟨g, o2, hAk, hg, hcell⟩ := HRI.out k j hj
      obtain ⟨b, o, rfl, hblt, hva⟩ := HNS.out j x hx
      have HVA := Lib.hid (fun wx (hb : Below w.heap.size w wx) => (hva.below hb hblt).c0)
      obtain ⟨al, hal⟩ : ∃ al, al = leavesF ns 5 j := ⟨_, rfl⟩
      have HAL := Lib.hid hal
      have HLT := Lib.hid (show ∀ i ∈ al, i < ns.length from fun i hi => leaves_lt 5 j i (by rw [← hal]; exact hi))
      obtain ⟨m, hm⟩ : ∃ m, m = al.length := ⟨_, rfl⟩
      have HM := Lib.hid hm
      have hm6 : m ≤ 1296 := by rw [hm, hal]; exact HL6.out j
      rw [← hal, ← hm] at HIJ
      have HTK := Lib.hid (show (tl.take (k + 1)).flatMap (flatG ns) = (tl.take k).flatMap (flatG ns) ++ (if x.kind == 5 && decide (m ≤ 6) then ringNd :: (pickN ns al).map (setD 1) else (pickN ns al).map (setD 0)) by
        obtain ⟨hk', e⟩ := List.getElem?_eq_some_iff.1 hj
        rw [List.take_succ_eq_append_getElem hk', e, List.flatMap_append]
        congr 1
        rw [List.flatMap_singleton]
        unfold flatG
        rw [getN_at hx, ← hal, ← hm])
      obtain ⟨zs, hzs⟩ : ∃ zs, zs = (tl.take k).flatMap (flatG ns) := ⟨_, rfl⟩
      rw [← hzs] at HR HCZ HTK
      obtain ⟨xk, xd, xs, xt, xm, xst, xmn, xmx⟩ := x
      dsimp only at HVA HTK
      have hgne : g ≠ w1.heap.size := by have := HRB.out g o2 hAk; have := HSZ.out; omega
      subst hAk
      have R1 := Lib.hid (show wr.heap[w.heap.size + 1]? = some (.cells #[.slice (some ⟨b, o, none⟩) N cap] 27 (0, 0)) from (HR.out.old _ (by omega) (by omega)).trans E1.out)
      have RG := Lib.hid (show wr.cell? ⟨g, o2 + k, none⟩ = some (.int .i64 (j : Nat)) from (World.cell?_of_block (a := ⟨g, o2 + k, none⟩) (HR.out.old g hg hgne)).trans hcell)
      have hgw : g < wr.heap.size := by omega
      have HK := Lib.hid (fun wx (hb : Below wr.heap.size wr wx) => show wx.cell? ⟨w.heap.size + 1, 0, none⟩ = some (.slice (some ⟨b, o, none⟩) N cap) ∧ wx.cell? ⟨g, o2 + k, none⟩ = some (.int .i64 (j : Nat)) ∧ wx.cell? ⟨b, o + j * 8, none⟩ = some (.int .i64 xk) from
        ⟨by have := cell_of_blk (blk_keep hb R1.out) 0; simpa using this, (hb.cell (p := ⟨g, o2 + k, none⟩) hgw).trans RG.out, HVA.out wx (below_more HBW.out hb)⟩)
      have HDR := Lib.hid (show Below wr.heap.size wr wr.drew from (Below.refl _ _).drew)
      have hkn : (k : Int) < (n : Int) := by omega
      have hk0' : (0 : Int) ≤ (k : Int) := by omega
      have hj0 : (0 : Int) ≤ (j : Int) := by omega
      have hjn : (j : Int) < (N : Int) := by omega
      clear hj hx hxd hcell hva hal hm hzs HVA hgne
      go_wp2_with fail
      go_region_held3 (fun w' => w'.cell? ⟨w.heap.size + 1, 0, none⟩ = some (.slice (some ⟨b, o, none⟩) N cap) ∧ w'.cell? ⟨g, o2 + k, none⟩ = some (.int .i64 (j : Nat)) ∧ w'.cell? ⟨b, o + j * 8, none⟩ = some (.int .i64 xk))
        ((refine HK.out _ ?_; first | assumption | exact HDR.out))
        (first
          | (go_at_call 69; refine (HIJ.out _ (below_more HBW.out HDR.out)).mono ?_; rintro e w3 ⟨Al, cl, rfl, hown3, hb3⟩; have hbw3 := below_more HDR.out hb3; have hz3 := hbw3.size))
      have HR3 := Lib.hid (HR.out.later hbw3)
      have HB4 := Lib.hid (below_more HBW.out hbw3)
      have HW3 := Lib.hid hbw3
      have hlc := (own_len hown3).1
      have hlm := (own_len hown3).2.1
      unfold maxLen at hlm
      have HLV := Lib.hid (show LvRow w3 Al al v w2.heap.size from ⟨fun i jj hi => by
        obtain ⟨gl, ol, e, h1, h2⟩ := row_ints hown3 i jj hi
        obtain ⟨h3, -, rfl⟩ := own_blk hown3 gl ol e
        have h3 : wr.heap.size ≤ gl := h3
        refine ⟨gl, e, by omega, h1, by simpa using h2, fun e2 => ?_⟩
        have := (HR.out.own.lt gl e2).2
        omega⟩)
      obtain ⟨T, hT⟩ : ∃ T, T = (xk == 5 && decide (m ≤ 6)) := ⟨_, rfl⟩
      have HT := Lib.hid hT
      rw [← hT] at HTK
      obtain ⟨w3, rfl⟩ : ∃ wq, wq = w3 := ⟨_, rfl⟩
      clear hown3 hb3 hbw3 HDR HIJ hT
      go_wp2_with fail
      go_cut [50] (fun s wx => s = .bool T ∧ Hid (Below w3.heap.size w3 wx))
      case first =>
        obtain ⟨z0, z1, z2⟩ := HK.out w3.drew (below_more HW3.out (Below.refl _ _).drew)
        by_cases hk5 : xk = 5
        · have hkb : (xk == 5) = true := by simpa using hk5
          have hmb : decide ((m : Int) ≤ 6) = T := by rw [HT.out, hkb, Bool.true_and]; exact decide_eq_decide.2 (by omega)
          go_quiet (fail)
          go_wp2
          go_meet
          exact ⟨rfl, Lib.hid ⟨rfl, rfl, rfl, Nat.le_refl _, fun _ _ => rfl⟩⟩
        · have hkb : (xk == 5) = false := by simpa using hk5
          have hTf : T = false := by rw [HT.out, hkb, Bool.false_and]
          subst hTf
          go_quiet (fail)
          go_wp2
          go_meet
          exact ⟨rfl, Lib.hid ⟨rfl, rfl, rfl, Nat.le_refl _, fun _ _ => rfl⟩⟩
      case rest =>
      obtain ⟨rfl, hbc⟩ := hcut
      obtain ⟨w4, rfl⟩ : ∃ w4, w4 = wc := ⟨_, rfl⟩
      have HR4 := Lib.hid (HR3.out.later hbc.out)
      have HB5 := Lib.hid (below_more HB4.out hbc.out)
      have HLV4 := Lib.hid (show LvRow w4 Al al v w2.heap.size from ⟨fun i jj hi => by
        obtain ⟨gl, e, h1, h2, h3, h4⟩ := HLV.out.at_ i jj hi
        exact ⟨gl, e, h1, Nat.lt_of_lt_of_le h2 hbc.out.size, (hbc.out.cell (p := ⟨gl, i, none⟩) h2).trans h3, h4⟩⟩)
      clear hbc HR3 HB4 HLV HW3 HK RG R1 HT
      go_upto_if 50 with fail
      go_cut [11] (fun d wx => ∃ (dz : Int) (v' : Value) (c' : Nat) (zs' : List Nd), d = .int .i64 dz ∧ c' ≤ c + 1 ∧ Hid ((tl.take (k + 1)).flatMap (flatG ns) = zs' ++ (pickN ns al).map (setD dz)) ∧ Hid (c' = zs'.length) ∧ Hid (FlRel w2 wx w1.heap.size v' c' zs') ∧ Hid (LvRow wx Al al v' w2.heap.size) ∧ Hid (Below w.heap.size w wx))
      case first =>
        obtain ⟨Av, cv, hv, -, -, -, -⟩ := own_slice HR4.out.own
        subst hv
        have o0 := cell_of_blk HR4.out.out 0
        have os4 := HR4.out.size
        simp at o0
        cases T with
        | true =>
          have HTQ := Lib.hid (show (tl.take (k + 1)).flatMap (flatG ns) = (zs ++ [ringNd]) ++ (pickN ns al).map (setD 1) by rw [HTK.out, if_pos rfl]; simp)
          go_wp2_with (first
            | (at_builtin; refine wpList_append_src _ rfl (.tmp 52) (.tmp 54) 25 rfl w2.heap.size 78 iv (.agg #[.int .i64 0, .int .i64 0, .int .i64 0, .int .i64 0, .bool false, .int .i64 0, .int .i64 0, .int .i64 0]) 8 64 Try.underlying25 hiv.out hzv.out hsv.out hbv.out rfl (by decide) (.slice Av c cv) c (zs.flatMap Nd.cells) rfl ?own1 (some ⟨w4.heap.size, 0, none⟩) 1 1 (Nd.cells ringNd) rfl ?l1 ?n1 ?c1 ?o1 ?m1 ?b1 ?s1 (c + 1) rfl ?_))
          case own1 => exact HR4.out.own.alloc _
          case l1 => rfl
          case o1 => exact nd_one _
          case c1 =>
            first
              | (intro ad had jj u' hj; injection had with had; subst had; exact new_cells w4 (Nd.cells ringNd) 78 jj u' hj)
              | (intro jj u' hj; have := new_cells w4 (Nd.cells ringNd) 78 jj u' hj; simpa [ringNd, Nd.cells] using this)
              | exact fun _ _ h => h
              | fail "c1"
          case m1 => unfold maxLen; omega
          case b1 => omega
          case s1 => first | omega | (simp; omega) | fail "s1"
          intro A5 c5 w5 own5 hg5 hat5
          have HA := Lib.hid (below_alloc w4 (.cells #[.int .i64 5, .int .i64 0, .int .i64 0, .int .i64 0, .bool false, .int .i64 0, .int .i64 0, .int .i64 0] 78))
          obtain ⟨hsp, k3⟩ := HR4.out.step (xs := [ringNd]) (by omega) HA.out (by simpa using own5) hg5
          have HSP := Lib.hid hsp
          have HBN := Lib.hid (HR4.out.below HB5.out (by omega) (by omega) HA.out hg5 (.slice A5 (c + 1) c5))
          have HLN := Lib.hid (HLV4.out.step (bo := w1.heap.size) (u := .slice A5 (c + 1) c5) (by omega) HA.out hg5 (by rcases hat5 with h | h; exact .inl h; exact .inr ⟨_, h, by simp⟩))
          have q0 := cell_of_blk k3 0
          have q1 := free_of_blk k3 0
          have q2 := (Array.getElem?_eq_some_iff.1 k3).1
          simp at q0
          clear own5 hg5 hat5 hsp k3 HA
          go_wp2_with fail
          go_meet
          exact ⟨1, .slice A5 (c + 1) c5, c + 1, zs ++ [ringNd], rfl, Nat.le_refl _, HTQ, Lib.hid (by rw [List.length_append, ← HCZ.out]; rfl), HSP, HLN, HBN⟩
        | false =>
          have HTQ := Lib.hid (show (tl.take (k + 1)).flatMap (flatG ns) = zs ++ (pickN ns al).map (setD 0) by rw [HTK.out, if_neg (by simp)])
          go_wp2_with fail
          go_meet
          exact ⟨0, .slice Av c cv, c, zs, rfl, by omega, HTQ, HCZ, HR4, HLV4, HB5⟩
      case rest =>
      obtain ⟨dz, v', c', zs', rfl, hc', hx1, hx2, hx3, hx4, hx5⟩ := hcut
      obtain ⟨w5, rfl⟩ : ∃ w5, w5 = wc := ⟨_, rfl⟩
      have HTQ := Lib.hid hx1.out
      have HCZ' := Lib.hid hx2.out
      have HR5 := Lib.hid hx3.out
      have HLV5 := Lib.hid hx4.out
      have HB6 := Lib.hid hx5.out
      clear hx1 hx2 hx3 hx4 hx5 HR4 HLV4 HB5 HTK HCZ
      go_wp2_with fail
      go_loopw [12] (fun i wr => ∃ (q : Nat), q ≤ m ∧ i = .int .i64 q ∧ Hid (∃ v, FlRel w2 wr w1.heap.size v (c' + q) (zs' ++ (pickN ns (al.take q)).map (setD dz)) ∧ LvRow wr Al al v w2.heap.size) ∧ Hid (Below w.heap.size w wr)) (fun i _ => m - (intOf i).toNat)
      case atStart => exact ⟨0, Nat.zero_le _, rfl, Lib.hid ⟨v', by simpa [pickN] using HR5.out, HLV5.out⟩, HB6⟩
      case round =>
        obtain ⟨q, hq, rfl, hr, hbw⟩ := hrel
        obtain ⟨v2, hor, hlv⟩ := hr.out
        have HR6 := Lib.hid hor
        have HLV6 := Lib.hid hlv
        have HB7 := Lib.hid hbw.out
        have hsw6 := HR6.out.size
        clear hr hbw hor hlv
        by_cases hlq : q < m
        · obtain ⟨jq, hjq⟩ : ∃ jq, al[q]? = some jq := ⟨_, List.getElem?_eq_getElem (by have := HM.out; omega)⟩
          obtain ⟨y, hy⟩ : ∃ y, ns[jq]? = some y := ⟨_, List.getElem?_eq_getElem (HLT.out jq (List.mem_of_getElem? hjq))⟩
          have hjqN : jq < N := by rw [HN.out]; exact HLT.out jq (List.mem_of_getElem? hjq)
          obtain ⟨gl, hAl, hgl1, hgl2, hglc, hgln⟩ := HLV6.out.at_ q jq hjq
          subst hAl
          obtain ⟨b2, o3, hA2, hblt2, hva2⟩ := HNS.out jq y hy
          injection hA2 with hA2
          injection hA2 with e1 e2
          subst e1 e2
          have HTN := Lib.hid (show (pickN ns (al.take (q + 1))).map (setD dz) = (pickN ns (al.take q)).map (setD dz) ++ [setD dz y] by
            obtain ⟨hk', e⟩ := List.getElem?_eq_some_iff.1 hjq
            rw [List.take_succ_eq_append_getElem hk', e]; unfold pickN; rw [List.map_append, List.map_append]; simp [getN_at hy])
          have HVA := Lib.hid (fun wx (hb : Below w.heap.size w wx) => hva2.below hb hblt2)
          have R1 := Lib.hid (show wr.heap[w.heap.size + 1]? = some (.cells #[.slice (some ⟨b, o, none⟩) N cap] 27 (0, 0)) from (HR6.out.old _ (by omega) (by omega)).trans E1.out)
          obtain ⟨yk, yd, ys, yt, ym, yst, ymn, ymx⟩ := y
          have HK := Lib.hid (fun wx (hb : Below wr.heap.size wr wx) => show wx.cell? ⟨w.heap.size + 1, 0, none⟩ = some (.slice (some ⟨b, o, none⟩) N cap) ∧ wx.cell? ⟨gl, q, none⟩ = some (.int .i64 (jq : Nat)) ∧ wx.cell? ⟨b, o + jq * 8, none⟩ = some (.int .i64 yk) ∧ wx.cell? ⟨b, o + jq * 8 + 1, none⟩ = some (.int .i64 yd) ∧ wx.cell? ⟨b, o + jq * 8 + 2, none⟩ = some (.int .i64 ys) ∧ wx.cell? ⟨b, o + jq * 8 + 3, none⟩ = some (.int .i64 yt) ∧ wx.cell? ⟨b, o + jq * 8 + 4, none⟩ = some (.bool ym) ∧ wx.cell? ⟨b, o + jq * 8 + 5, none⟩ = some (.int .i64 yst) ∧ wx.cell? ⟨b, o + jq * 8 + 6, none⟩ = some (.int .i64 ymn) ∧ wx.cell? ⟨b, o + jq * 8 + 7, none⟩ = some (.int .i64 ymx) from
            have h := HVA.out wx (below_more HB7.out hb)
            ⟨by have := cell_of_blk (blk_keep hb R1.out) 0; simpa using this, (hb.cell (p := ⟨gl, q, none⟩) hgl2).trans hglc, h.c0, h.c1, h.c2, h.c3, h.c4, h.c5, h.c6, h.c7⟩)
          have HDR := Lib.hid (show Below wr.heap.size wr wr.drew from (Below.refl _ _).drew)
          have hqm : (q : Int) < (m : Int) := by omega
          have hq0 : (0 : Int) ≤ (q : Int) := by omega
          have hjq0 : (0 : Int) ≤ (jq : Int) := by omega
          have hjqn : (jq : Int) < (N : Int) := by omega
          obtain ⟨Av, cv, hv, -, -, -, -⟩ := own_slice HR6.out.own
          subst hv
          clear hjq hy hva2 hglc
          go_wp2_with fail
          go_region_held3 (fun wx => wx.cell? ⟨w.heap.size + 1, 0, none⟩ = some (.slice (some ⟨b, o, none⟩) N cap) ∧ wx.cell? ⟨gl, q, none⟩ = some (.int .i64 (jq : Nat)) ∧ wx.cell? ⟨b, o + jq * 8, none⟩ = some (.int .i64 yk) ∧ wx.cell? ⟨b, o + jq * 8 + 1, none⟩ = some (.int .i64 yd) ∧ wx.cell? ⟨b, o + jq * 8 + 2, none⟩ = some (.int .i64 ys) ∧ wx.cell? ⟨b, o + jq * 8 + 3, none⟩ = some (.int .i64 yt) ∧ wx.cell? ⟨b, o + jq * 8 + 4, none⟩ = some (.bool ym) ∧ wx.cell? ⟨b, o + jq * 8 + 5, none⟩ = some (.int .i64 yst) ∧ wx.cell? ⟨b, o + jq * 8 + 6, none⟩ = some (.int .i64 ymn) ∧ wx.cell? ⟨b, o + jq * 8 + 7, none⟩ = some (.int .i64 ymx))
            ((refine HK.out _ ?_; first | assumption | exact HDR.out | exact (below_alloc _ _).drew | exact below_alloc _ _ | (repeat (first | exact Below.refl _ _ | assumption | refine Below.drew ?_ | refine Below.alloc ?_ (by first | omega | (simp; omega) | simp) _ | refine Below.setCell ?_ (by first | omega | (simp; omega) | simp) _))))
            (fail)
          obtain ⟨wq, hwq⟩ : ∃ wq, wq = (wr.alloc (.cells #[.int .i64 yk, .int .i64 yd, .int .i64 ys, .int .i64 yt, .bool ym, .int .i64 yst, .int .i64 ymn, .int .i64 ymx] 78)).drew := ⟨_, rfl⟩
          have HBQ := Lib.hid (show Below wr.heap.size wr wq from hwq ▸ (below_alloc _ _).drew)
          have hbn : wq.heap[wr.heap.size]? = some (.cells #[.int .i64 yk, .int .i64 yd, .int .i64 ys, .int .i64 yt, .bool ym, .int .i64 yst, .int .i64 ymn, .int .i64 ymx] 78 (0, 0)) := by rw [hwq]; exact heap_alloc_new wr _
          have HSQ := Lib.hid (show wq.heap.size = wr.heap.size + 1 by rw [hwq]; show (wr.alloc _).heap.size = _; simp)
          rw [← hwq]
          have HRQ := Lib.hid (HR6.out.later HBQ.out)
          have o0 := cell_of_blk HRQ.out.out 0
          have n0 := cell_of_blk hbn 0
          have n1 := cell_of_blk hbn 1
          have n2 := cell_of_blk hbn 2
          have n3 := cell_of_blk hbn 3
          have n4 := cell_of_blk hbn 4
          have n5 := cell_of_blk hbn 5
          have n6 := cell_of_blk hbn 6
          have n7 := cell_of_blk hbn 7
          have nf := free_of_blk hbn 1
          simp at o0 n0 n1 n2 n3 n4 n5 n6 n7
          have HO7 := Lib.hid (show (wq.setCell ⟨wr.heap.size, 1, none⟩ (.int .i64 dz)).ownsRow w2.heap.size 78 8 (.slice Av (c' + q) cv) (c' + q) ((zs' ++ (pickN ns (al.take q)).map (setD dz)).flatMap Nd.cells) from
            ownsRow_of_block HRQ.out.own (fun g hg => heap_setCell_other _ _ _ _ (by have := (HR6.out.own.lt g hg).2; dsimp only; omega)))
          have hne1 : w1.heap.size ≠ wr.heap.size := by omega
          have hcq : c' + q ≤ 2000000 := by omega
          clear hwq hbn HK HDR R1 HVA
          obtain ⟨pre, hpre⟩ : ∃ pre, pre = zs' ++ (pickN ns (al.take q)).map (setD dz) := ⟨_, rfl⟩
          rw [← hpre] at HO7 HR6 HRQ
          have HPRE := Lib.hid hpre
          clear hpre
          go_wp2_with (first
            | (at_builtin; refine wpList_append_src _ rfl (.tmp 74) (.tmp 76) 25 rfl w2.heap.size 78 iv (.agg #[.int .i64 0, .int .i64 0, .int .i64 0, .int .i64 0, .bool false, .int .i64 0, .int .i64 0, .int .i64 0]) 8 64 Try.underlying25 hiv.out hzv.out hsv.out hbv.out rfl (by decide) (.slice Av (c' + q) cv) (c' + q) (pre.flatMap Nd.cells) rfl ?own2 (some ⟨wq.heap.size, 0, none⟩) 1 1 (Nd.cells ⟨yk, dz, ys, yt, ym, yst, ymn, ymx⟩) rfl ?l2 ?k2 ?c2 ?o2 ?m2 ?b2 ?s2 (c' + q + 1) rfl ?_))
          case own2 => exact HO7.out.alloc _
          case l2 => rfl
          case k2 => intro h; cases h
          case o2 => exact nd_one _
          case c2 =>
            first | intro ad had jj u' hj | intro jj u' hj
            first | (injection had with had; subst had) | skip
            have := new_cells (wq.setCell ⟨wr.heap.size, 1, none⟩ (.int .i64 dz)) (Nd.cells ⟨yk, dz, ys, yt, ym, yst, ymn, ymx⟩) 78 jj u' hj
            simpa [Nd.cells] using this
          case m2 => unfold maxLen; omega
          case b2 => omega
          case s2 => have := HSQ.out; first | omega | (simp; omega) | fail "s2"
          intro A5 c5 w6 own5 hg5 hat5
          have HA := Lib.hid (show Below wr.heap.size wr ((wq.setCell ⟨wr.heap.size, 1, none⟩ (.int .i64 dz)).alloc (.cells #[.int .i64 yk, .int .i64 dz, .int .i64 ys, .int .i64 yt, .bool ym, .int .i64 yst, .int .i64 ymn, .int .i64 ymx] 78)) from (HBQ.out.setCell (Nat.le_refl _) _).alloc (by have := HSQ.out; simp; omega) _)
          obtain ⟨hsp, k3⟩ := HR6.out.step (xs := [⟨yk, dz, ys, yt, ym, yst, ymn, ymx⟩]) (by omega) HA.out (by simpa using own5) hg5
          have HSP := Lib.hid hsp
          have HBN := Lib.hid (HR6.out.below HB7.out (by omega) (by omega) HA.out hg5 (.slice A5 (c' + q + 1) c5))
          have HLN := Lib.hid (HLV6.out.step (bo := w1.heap.size) (u := .slice A5 (c' + q + 1) c5) (by omega) HA.out hg5 (by rcases hat5 with h | h; exact .inl h; exact .inr ⟨_, h, by have := HSQ.out; simp; omega⟩))
          have q0 := cell_of_blk k3 0
          have q1 := free_of_blk k3 0
          have q2 := (Array.getElem?_eq_some_iff.1 k3).1
          simp at q0
          clear own5 hg5 hat5 hsp k3 HA n0 n1 n2 n3 n4 n5 n6 n7 nf o0
          go_wp2_with fail
          go_roundw
          case rel => exact ⟨q + 1, by omega, by go_num, Lib.hid ⟨_, by rw [HTN.out, ← List.append_assoc, ← HPRE.out]; exact HSP.out, HLN.out⟩, HBN⟩
          case measure => simp [intOf]; omega
        · obtain rfl : q = m := by omega
          have HTM := Lib.hid (show zs' ++ (pickN ns (al.take q)).map (setD dz) = (tl.take (k + 1)).flatMap (flatG ns) by rw [HTQ.out, HM.out, List.take_length])
          have HNX := Lib.hid (show c' + q = ((tl.take (k + 1)).flatMap (flatG ns)).length by
            rw [HTQ.out, List.length_append, ← HCZ'.out, List.length_map]; unfold pickN; rw [List.length_map, ← HM.out])
          have HR7 := Lib.hid (show FlRel w2 wr w1.heap.size v2 (c' + q) ((tl.take (k + 1)).flatMap (flatG ns)) by rw [← HTM.out]; exact HR6.out)
          go_wp2_with fail
          go_roundw
          case rel => exact ⟨k + 1, c' + q, by omega, by go_num, by omega, Lib.hid ⟨v2, HNX.out, HR7.out⟩, HB7⟩
          case measure => simp [intOf]; omega
    · obtain rfl : k = n := by omega
      obtain ⟨Av, cv, hv, -, -, -, -⟩ := own_slice HR.out.own
      subst hv
      have HT := Lib.hid (show tl.take k = tl by rw [HTL.out, List.take_length])
      have R2 := Lib.hid (show wr.heap[w.heap.size + 1 + 1]? = some (.cells #[.slice none 0 0] 27 (0, 0)) from (HR.out.old _ (by omega) (by omega)).trans E2.out)
      have o0 := cell_of_blk HR.out.out 0
      have q0 := cell_of_blk R2.out 0
      have q1 := free_of_blk R2.out 0
      simp at o0 q0
      have HO := Lib.hid (show (wr.setCell ⟨w.heap.size + 1 + 1, 0, none⟩ (.slice Av c cv)).ownsRow w.heap.size 78 8 (.slice Av c cv) c ((tl.flatMap (flatG ns)).flatMap Nd.cells) by
        have h1 := own_base (ownsRow_of_block (w' := wr.setCell ⟨w.heap.size + 1 + 1, 0, none⟩ (.slice Av c cv)) HR.out.own (fun g hg => heap_setCell_other _ _ _ _ (by have := (HR.out.own.lt g hg).1; dsimp only; omega))) (show w.heap.size ≤ w2.heap.size by omega)
        rw [HT.out] at h1; exact h1)
      have HCC := Lib.hid (show c = (tl.flatMap (flatG ns)).length by have := HCZ.out; rw [HT.out] at this; exact this)
      have HBB := Lib.hid (show Below w.heap.size w (wr.setCell ⟨w.heap.size + 1 + 1, 0, none⟩ (.slice Av c cv)) from HBW.out.setCell (by dsimp only; omega) _)
      have hlo : w1.heap.size < wr.heap.size := by omega
      have hlq : w.heap.size + 1 + 1 < wr.heap.size := by omega
      go_wp2
      refine bodyPost_ret (v := .tuple #[.agg #[.slice Av c cv], .int .i64 0]) (by simp [results, Try.results52, go_sem, q0]) rfl ?_
      rw [HF.out]
      exact ⟨Av, c, cv, rfl, HCC, HO, HBB.out⟩

theorem rflat_any2 (L : Lm) (A : Option Addr) (cap : Nat) (ns : List Nd) (w : World) (hl : LmOk w L) (hn : NdsAt w A ns) (hc1 : ns.length ≤ cap) (hc : cap ≤ maxLen) :
    Calls Try.prog 52 #[.agg #[.int .i64 L.per, .slice L.A L.ms.length L.cap], .agg #[.slice A ns.length cap]] w (GotTextO w (regQ flatP L.li ns).1 (regQ flatP L.li ns).2) := by
  rw [← rflat_is]; exact rflat_any L A cap ns w hl hn hc1 hc

end Go.Proofs.Ytilagndfohnjnaa

/- How often each sign stands in a text (Tally): both sides. -/
namespace Go.Proofs.Ytilagndfohnjnaa
open Go.RowKit

def addAt (c : List Int) (k : Nat) : List Int := match c[k]? with | some v => c.set k (v + 1) | none => c
def tallyS (c : List Int) (n : Nd) : List Int := if n.kind == 1 then addAt c n.sign.toNat else c
def tallyR (k : Nat) (ns : List Nd) : List Int := ns.foldl tallyS (List.replicate k 0)
theorem addAt_at {c : List Int} {k : Nat} {v : Int} (h : c[k]? = some v) : addAt c k = c.set k (v + 1) := by unfold addAt; rw [h]
theorem addAt_len (c : List Int) (k : Nat) : (addAt c k).length = c.length := by unfold addAt; split <;> simp
theorem addAt_le {c : List Int} {k : Nat} {b : Int} (h : ∀ v ∈ c, 0 ≤ v ∧ v ≤ b) : ∀ v ∈ addAt c k, 0 ≤ v ∧ v ≤ b + 1 := fun v hv => by
  unfold addAt at hv
  split at hv
  · rename_i u hu
    rcases List.mem_or_eq_of_mem_set hv with h1 | h1
    · have := h v h1; omega
    · have := h u (List.mem_of_getElem? hu); omega
  · have := h v hv; omega
theorem tally_inv : ∀ (ns : List Nd) (c : List Int) (b : Int), (∀ v ∈ c, 0 ≤ v ∧ v ≤ b) → (ns.foldl tallyS c).length = c.length ∧ ∀ v ∈ ns.foldl tallyS c, 0 ≤ v ∧ v ≤ b + ns.length
  | [], c, b, h => by simp; exact h
  | n :: r, c, b, h => by
    rw [List.foldl_cons]
    have h1 : ∀ v ∈ tallyS c n, 0 ≤ v ∧ v ≤ b + 1 := by
      unfold tallyS
      split
      · exact addAt_le h
      · intro v hv; have := h v hv; omega
    have h2 : (tallyS c n).length = c.length := by unfold tallyS; split <;> simp [addAt_len]
    obtain ⟨h3, h4⟩ := tally_inv r _ _ h1
    refine ⟨h3.trans h2, fun v hv => ?_⟩
    have := h4 v hv
    rw [List.length_cons]; push_cast; omega
theorem tally_ok (k : Nat) (ns : List Nd) : (tallyR k ns).length = k ∧ ∀ v ∈ tallyR k ns, 0 ≤ v ∧ v ≤ ns.length := by
  have := tally_inv ns (List.replicate k 0) 0 (fun v hv => by have := (List.mem_replicate.1 hv).2; omega)
  simpa [tallyR] using this
theorem tally_step {k : Nat} {ns : List Nd} {j : Nat} {x : Nd} (h : ns[j]? = some x) : tallyR k (ns.take (j + 1)) = tallyS (tallyR k (ns.take j)) x := by
  obtain ⟨hk', e⟩ := List.getElem?_eq_some_iff.1 h
  unfold tallyR
  rw [List.take_succ_eq_append_getElem hk', e, List.foldl_append]; rfl
theorem nodes_sign {l : Li} {ns : List Nd} : ∀ (m k : Nat), ns.length - k ≤ m → nodesErr l (ns.take k) (ns.drop k) = 0 → ∀ j x, k ≤ j → ns[j]? = some x → x.kind = 1 → 0 ≤ x.sign ∧ x.sign < l.signs.length
  | 0, k, hm, _, j, x, hj, hx, _ => by have := (List.getElem?_eq_some_iff.1 hx).1; omega
  | m + 1, k, hm, h, j, x, hj, hx, hk => by
    have hjl := (List.getElem?_eq_some_iff.1 hx).1
    obtain ⟨u, hu⟩ : ∃ u, ns[k]? = some u := ⟨_, List.getElem?_eq_getElem (by omega)⟩
    rw [nodesErr_at l ns k u hu] at h
    split at h
    · rename_i h1; exact absurd h h1
    · rename_i h1
      rcases Nat.eq_or_lt_of_le hj with e | e
      · subst e
        rw [hu] at hx; injection hx with hx; subst hx
        have h1 : nodeErr l (ns.take k) u = 0 := by simpa using h1
        unfold nodeErr at h1
        rw [hk] at h1
        split at h1
        · omega
        · split at h1
          · omega
          · rw [if_pos rfl] at h1
            unfold glyphErr at h1
            split at h1
            · omega
            · omega
      · exact nodes_sign m (k + 1) (by omega) h j x (by omega) hx hk
theorem tally_sign {l : Li} {ns : List Nd} (h : textErr l ns = 0) : ∀ x ∈ ns, x.kind = 1 → 0 ≤ x.sign ∧ x.sign < l.signs.length := fun x hx hk => by
  obtain ⟨j, hj⟩ := List.getElem?_of_mem hx
  exact nodes_sign ns.length 0 (by omega) (by simpa using (text_ok h).2.2.1) j x (Nat.zero_le _) hj hk
def tallyQ (l : Li) (ns : List Nd) : List Int × Int :=
  if textErr l ns ≠ 0 then ([], textErr l ns) else (tallyR l.signs.length ns, 0)
theorem check_len {l : Li} (h : checkErr l = 0) : l.signs.length ≤ 200 := by
  unfold checkErr at h
  split at h <;> omega
theorem intsZ_set (c : List Int) (k : Nat) (v : Int) : (intsZ c).set k (.int .i64 v) = intsZ (c.set k v) := by unfold intsZ; rw [List.map_set]
theorem intsZ_at {c : List Int} {k : Nat} {v : Int} (h : c[k]? = some v) : (intsZ c)[k]? = some (.int .i64 v) := by unfold intsZ; rw [List.getElem?_map, h]; rfl

set_option maxRecDepth 100000 in
set_option maxHeartbeats 8000000 in
theorem rtally_any (L : Lm) (A : Option Addr) (cap : Nat) (ns : List Nd) (w : World) (hl : LmOk w L) (hn : NdsAt w A ns) (hc1 : ns.length ≤ cap) (hc : cap ≤ maxLen) :
    Calls Try.prog 50 #[.agg #[.int .i64 L.per, .slice L.A L.ms.length L.cap], .agg #[.slice A ns.length cap]] w (GotIntsX w (tallyQ L.li ns).1 (tallyQ L.li ns).2) := by
  obtain ⟨E, hE⟩ : ∃ E, textErr L.li ns = E := ⟨_, rfl⟩
  obtain ⟨K, hK⟩ : ∃ K, K = L.ms.length := ⟨_, rfl⟩
  have hKK : L.li.signs.length = K := by rw [hK, show L.li.signs = L.signs from rfl, Lm.length_signs]
  obtain ⟨R, hR⟩ : ∃ R, R = tallyQ L.li ns := ⟨_, rfl⟩
  have HE := Lib.hid (show R = if E ≠ 0 then ([], E) else (tallyR K ns, 0) by rw [hR, ← hE, ← hKK]; rfl)
  have HEE := Lib.hid hE
  have HKK := Lib.hid hKK
  have HNS := Lib.hid hn
  have HCM := Lib.hid hc
  obtain ⟨N, hN⟩ : ∃ N, N = ns.length := ⟨_, rfl⟩
  have HN := Lib.hid hN
  have HCK := Lib.hid (fun wx (hb : Below w.heap.size w wx) => rgcheck_is L A cap ns wx (hl.below hb) (hn.below hb) hc1 hc E hE)
  have hkcap := hl.len
  have hkmax := hl.cap
  rw [← hR]
  rw [← hN, ← hK] at HCK
  rw [← hN] at hc1 ⊢
  rw [← hK] at hkcap ⊢
  unfold maxLen at hc hkmax
  obtain ⟨W, hW⟩ : ∃ W, W = (w.alloc (.cells #[.int .i64 L.per, .slice L.A K L.cap] 24)).alloc (.cells #[.slice A N cap] 27) := ⟨_, rfl⟩
  have HB := Lib.hid (show Below w.heap.size w W from hW ▸ two_under _ _ _)
  have HX0 := Lib.hid (show W.heap[w.heap.size]? = some (.cells #[.int .i64 L.per, .slice L.A K L.cap] 24 (0, 0)) by rw [hW, heap_alloc_other _ _ _ (by simp)]; exact heap_alloc_new _ _)
  have HX1 := Lib.hid (show W.heap[w.heap.size + 1]? = some (.cells #[.slice A N cap] 27 (0, 0)) by
    rw [hW]; have := heap_alloc_new (w.alloc (.cells #[.int .i64 L.per, .slice L.A K L.cap] 24)) (.cells #[.slice A N cap] 27); simpa using this)
  obtain ⟨iv, hiv, hzv, hsv, hbv⟩ := info_hid infoInt
  clear hl hn hE hN hR hK hKK
  go_enter Try.func50, Try.ntmps50
  go_wp2_with fail
  rw [← hW]
  refine (HCK.out W HB.out).mono ?_; rintro e w1 ⟨rfl, hb⟩
  have HB1 := Lib.hid (below_more HB.out hb)
  have D0 := Lib.hid (blk_keep hb HX0.out)
  have D1 := Lib.hid (blk_keep hb HX1.out)
  have x0 := cell_of_blk D1.out 0
  have x1 := cell_of_blk D0.out 1
  have hs1 := (Array.getElem?_eq_some_iff.1 D1.out).1
  simp at x0 x1
  clear hb hW HX0 HX1 HCK HB
  by_cases h0 : E = 0
  case neg =>
    have hbE : (E != 0) = true := by simpa using h0
    have HF := Lib.hid (show R = ([], E) by rw [HE.out, if_pos h0])
    clear h0 HE
    go_wp2_with fail
    go_ret2
    rw [HF.out]
    exact ⟨none, 0, 0, rfl, Lib.hid rfl, Lib.hid (fun k z hk => by simp at hk), HB1.out⟩
  subst h0
  have hk2 := (text_ok HEE.out).2.1
  have hk200 : K ≤ 200 := by rw [← HKK.out]; exact check_len (text_ok HEE.out).1
  have hN2 : N ≤ 200 := by rw [HN.out]; exact hk2
  have HF := Lib.hid (show R = (tallyR K ns, 0) by rw [HE.out, if_neg (by simp)])
  have HSG := Lib.hid (fun x (hx : x ∈ ns) (hk : x.kind = 1) => show 0 ≤ x.sign ∧ x.sign < (K : Int) by have := tally_sign HEE.out x hx hk; rw [HKK.out] at this; exact this)
  clear HE hk2 HEE HKK
  go_wp2_with (first
    | (at_make; refine wpList_make_full _ rfl (.tmp 17) (.tmp 17) 38 rfl w1.heap.size 3 iv (.int .i64 0) 1 Try.underlying38 hiv.out hzv.out hsv.out .i64 .i64 K K K rfl rfl rfl rfl ?b2 ?b3 ?b4 ?_))
  case b2 => rw [hbv.out]; omega
  case b3 => unfold maxLen; omega
  case b4 => omega
  intro w2 hown hg
  have HB2 := Lib.hid (show Below w1.heap.size w1 w2 from (Below.refl _ _).grown hg (Nat.le_refl _) (fun g hg => by cases hg))
  have HO2 := Lib.hid (show w2.ownsRow w1.heap.size 3 1 (.slice (some ⟨w1.heap.size, 0, none⟩) K K) K (intsZ (tallyR K (ns.take 0))) by
    have h : intsZ (tallyR K (ns.take 0)) = (madeCells (#[.int .i64 0] : Array Value) K).toList := by
      rw [toList_madeCells_one]; simp [tallyR, intsZ]
    rw [h]; exact hown)
  have D1 := Lib.hid (blk_keep HB2.out D1.out)
  have x0 := cell_of_blk D1.out 0
  have hs2 := HB2.out.size
  simp at x0
  clear hown hg D0 x1
  go_wp2_with fail
  go_loopw [8] (fun i wr => ∃ (j : Nat), j ≤ N ∧ i = .int .i64 j ∧ Hid (wr.ownsRow w1.heap.size 3 1 (.slice (some ⟨w1.heap.size, 0, none⟩) K K) K (intsZ (tallyR K (ns.take j)))) ∧ Hid (Below w1.heap.size w1 wr)) (fun i _ => N - (intOf i).toNat)
  case atStart => exact ⟨0, Nat.zero_le _, rfl, HO2, HB2⟩
  case round =>
    obtain ⟨j, hj, rfl, hown, hbw⟩ := hrel
    have HBW := Lib.hid hbw.out
    have HOW := Lib.hid hown.out
    clear hbw hown x0 D1
    have D1 := Lib.hid (show wr.heap[w.heap.size + 1]? = some (.cells #[.slice A N cap] 27 (0, 0)) from blk_keep HBW.out D1.out)
    have x0 := cell_of_blk D1.out 0
    have hs3 := HBW.out.size
    simp at x0
    by_cases hlt : j < N
    · obtain ⟨x, hx⟩ : ∃ x, ns[j]? = some x := ⟨_, List.getElem?_eq_getElem (by have := HN.out; omega)⟩
      obtain ⟨b, o, rfl, hblt, hva⟩ := (HNS.out.below (below_more HB1.out HBW.out)) j x hx
      obtain ⟨y0, y1, y2, y3, y4, y5, y6, y7⟩ := hva
      have HST := Lib.hid (tally_step (k := K) hx)
      have HSX := Lib.hid (HSG.out x (List.mem_of_getElem? hx))
      obtain ⟨hcl, hcv⟩ := tally_ok K (ns.take j)
      have htl : (ns.take j).length = j := by rw [List.length_take]; have := HN.out; omega
      rw [htl] at hcv
      obtain ⟨cs, hcs⟩ : ∃ cs, cs = tallyR K (ns.take j) := ⟨_, rfl⟩
      rw [← hcs] at HST HOW hcl hcv
      have HCL := Lib.hid hcl
      have HCV := Lib.hid hcv
      obtain ⟨xk, xd, xs, xt, xm, xst, xmn, xmx⟩ := x
      dsimp only at y0 y1 y2 y3 y4 y5 y6 y7 HSX
      clear hx hcl hcv htl hcs
      by_cases hk1 : xk = 1
      · obtain ⟨hs0, hsk⟩ := HSX.out hk1
        subst hk1
        obtain ⟨sn, rfl⟩ : ∃ sn : Nat, xs = sn := ⟨xs.toNat, by omega⟩
        have hsn : sn < K := by omega
        obtain ⟨v, hv⟩ : ∃ v, cs[sn]? = some v := ⟨_, List.getElem?_eq_getElem (by rw [HCL.out]; exact hsn)⟩
        obtain ⟨hv0, hv1⟩ := HCV.out v (List.mem_of_getElem? hv)
        have HS2 := Lib.hid (show tallyR K (ns.take (j + 1)) = cs.set sn (v + 1) by
          rw [HST.out]; unfold tallyS; exact (if_pos rfl).trans (addAt_at hv))
        obtain ⟨g, e1, hbg, hg, -, -, hcell, hfr⟩ := own_open HOW.out (by omega)
        injection e1 with e1; injection e1 with e1 _
        have zc : wr.cell? ⟨w1.heap.size, sn, none⟩ = some (.int .i64 v) := by rw [e1]; exact hcell _ _ (intsZ_at hv)
        have zf : wr.frozen? ⟨w1.heap.size, sn, none⟩ = false := by rw [e1]; exact hfr _
        have hz2 : w1.heap.size < wr.heap.size := by omega
        have hwr : IntKind.i64.wrap (v + 1) = v + 1 := IntWalk.i64_in _ (by omega)
        have HNEW := Lib.hid (show (wr.setCell ⟨w1.heap.size, sn, none⟩ (.int .i64 (v + 1))).ownsRow w1.heap.size 3 1 (.slice (some ⟨w1.heap.size, 0, none⟩) K K) K (intsZ (tallyR K (ns.take (j + 1)))) by
          have h1 := own_set (HOW.out) (g := w1.heap.size) rfl sn (.int .i64 (v + 1))
          rw [intsZ_set, ← HS2.out] at h1
          exact h1)
        clear hv hcell hfr e1 hbg hg HST HSX HCV
        go_wp2_with fail
        go_roundw
        case rel => exact ⟨j + 1, by omega, by go_num, HNEW, Lib.hid (HBW.out.setCell (Nat.le_refl _) _)⟩
        case measure => simp [intOf]; omega
      · have hkb : (xk == 1) = false := by simpa using hk1
        have HS2 := Lib.hid (show tallyR K (ns.take (j + 1)) = cs by
          rw [HST.out]; unfold tallyS; rw [if_neg (by simpa using hk1)])
        clear hk1 HST HSX HCV
        go_wp2_with fail
        go_roundw
        case rel => exact ⟨j + 1, by omega, by go_num, Lib.hid (by rw [HS2.out]; exact HOW.out), HBW⟩
        case measure => simp [intOf]; omega
    · obtain rfl : j = N := by omega
      have HT := Lib.hid (show ns.take j = ns by rw [HN.out, List.take_length])
      have h1 := HOW.out
      rw [HT.out] at h1
      have HI := Lib.hid (own_ints h1)
      clear h1
      go_wp2_with fail
      go_ret2
      rw [HF.out]
      exact ⟨_, K, K, rfl, Lib.hid (tally_ok K ns).1.symm, HI, below_more HB1.out HBW.out⟩

set_option maxRecDepth 100000 in
set_option maxHeartbeats 8000000 in
theorem tallyP_any (L : Lm) (A : Option Addr) (cap : Nat) (ns : List Nd) (w : World) (hl : LmOk w L) (hn : NdsAt w A ns) (hc1 : ns.length ≤ cap) (hc : cap ≤ maxLen) :
    Calls Try.prog 49 #[.agg #[.int .i64 L.per, .slice L.A L.ms.length L.cap], .agg #[.slice A ns.length cap]] w (GotIntsX w (tallyQ L.li ns).1 (tallyQ L.li ns).2) := by
  obtain ⟨E, hE⟩ : ∃ E, textErr L.li ns = E := ⟨_, rfl⟩
  obtain ⟨K, hK⟩ : ∃ K, K = L.ms.length := ⟨_, rfl⟩
  have hKK : L.li.signs.length = K := by rw [hK, show L.li.signs = L.signs from rfl, Lm.length_signs]
  obtain ⟨R, hR⟩ : ∃ R, R = tallyQ L.li ns := ⟨_, rfl⟩
  have HE := Lib.hid (show R = if E ≠ 0 then ([], E) else (tallyR K ns, 0) by rw [hR, ← hE, ← hKK]; rfl)
  have HEE := Lib.hid hE
  have HKK := Lib.hid hKK
  have HNS := Lib.hid hn
  have HCM := Lib.hid hc
  obtain ⟨N, hN⟩ : ∃ N, N = ns.length := ⟨_, rfl⟩
  have HN := Lib.hid hN
  have HCK := Lib.hid (fun wx (hb : Below w.heap.size w wx) => gcheck_is L A cap ns wx (hl.below hb) (hn.below hb) hc1 hc E hE)
  have hkcap := hl.len
  have hkmax := hl.cap
  rw [← hR]
  rw [← hN, ← hK] at HCK
  rw [← hN] at hc1 ⊢
  rw [← hK] at hkcap ⊢
  unfold maxLen at hc hkmax
  obtain ⟨W, hW⟩ : ∃ W, W = (w.alloc (.cells #[.int .i64 L.per, .slice L.A K L.cap] 24)).alloc (.cells #[.slice A N cap] 27) := ⟨_, rfl⟩
  have HB := Lib.hid (show Below w.heap.size w W from hW ▸ two_under _ _ _)
  have HX0 := Lib.hid (show W.heap[w.heap.size]? = some (.cells #[.int .i64 L.per, .slice L.A K L.cap] 24 (0, 0)) by rw [hW, heap_alloc_other _ _ _ (by simp)]; exact heap_alloc_new _ _)
  have HX1 := Lib.hid (show W.heap[w.heap.size + 1]? = some (.cells #[.slice A N cap] 27 (0, 0)) by
    rw [hW]; have := heap_alloc_new (w.alloc (.cells #[.int .i64 L.per, .slice L.A K L.cap] 24)) (.cells #[.slice A N cap] 27); simpa using this)
  obtain ⟨iv, hiv, hzv, hsv, hbv⟩ := info_hid infoInt
  clear hl hn hE hN hR hK hKK
  go_enter Try.func49, Try.ntmps49
  go_wp2_with fail
  rw [← hW]
  refine (HCK.out W HB.out).mono ?_; rintro e w1 ⟨rfl, hb⟩
  have HB1 := Lib.hid (below_more HB.out hb)
  have D0 := Lib.hid (blk_keep hb HX0.out)
  have D1 := Lib.hid (blk_keep hb HX1.out)
  have x0 := cell_of_blk D1.out 0
  have x1 := cell_of_blk D0.out 1
  have hs1 := (Array.getElem?_eq_some_iff.1 D1.out).1
  simp at x0 x1
  clear hb hW HX0 HX1 HCK HB
  by_cases h0 : E = 0
  case neg =>
    have hbE : (E != 0) = true := by simpa using h0
    have HF := Lib.hid (show R = ([], E) by rw [HE.out, if_pos h0])
    clear h0 HE
    go_wp2_with fail
    go_ret2
    rw [HF.out]
    exact ⟨none, 0, 0, rfl, Lib.hid rfl, Lib.hid (fun k z hk => by simp at hk), HB1.out⟩
  subst h0
  have hk2 := (text_ok HEE.out).2.1
  have hk200 : K ≤ 200 := by rw [← HKK.out]; exact check_len (text_ok HEE.out).1
  have hN2 : N ≤ 200 := by rw [HN.out]; exact hk2
  have HF := Lib.hid (show R = (tallyR K ns, 0) by rw [HE.out, if_neg (by simp)])
  have HSG := Lib.hid (fun x (hx : x ∈ ns) (hk : x.kind = 1) => show 0 ≤ x.sign ∧ x.sign < (K : Int) by have := tally_sign HEE.out x hx hk; rw [HKK.out] at this; exact this)
  clear HE hk2 HEE HKK
  go_wp2_with (first
    | (at_make; refine wpList_make_full _ rfl (.tmp 18) (.tmp 18) 38 rfl w1.heap.size 3 iv (.int .i64 0) 1 Try.underlying38 hiv.out hzv.out hsv.out .i64 .i64 K K K rfl rfl rfl rfl ?b2 ?b3 ?b4 ?_))
  case b2 => rw [hbv.out]; omega
  case b3 => unfold maxLen; omega
  case b4 => omega
  intro w2 hown hg
  have HB2 := Lib.hid (show Below w1.heap.size w1 w2 from (Below.refl _ _).grown hg (Nat.le_refl _) (fun g hg => by cases hg))
  have HO2 := Lib.hid (show w2.ownsRow w1.heap.size 3 1 (.slice (some ⟨w1.heap.size, 0, none⟩) K K) K (intsZ (tallyR K (ns.take 0))) by
    have h : intsZ (tallyR K (ns.take 0)) = (madeCells (#[.int .i64 0] : Array Value) K).toList := by
      rw [toList_madeCells_one]; simp [tallyR, intsZ]
    rw [h]; exact hown)
  have D1 := Lib.hid (blk_keep HB2.out D1.out)
  have x0 := cell_of_blk D1.out 0
  have hs2 := HB2.out.size
  simp at x0
  clear hown hg D0 x1
  go_wp2_with fail
  go_loopw [23] (fun i wr => ∃ (j : Nat), j ≤ N ∧ i = .int .i64 j ∧ Hid (wr.ownsRow w1.heap.size 3 1 (.slice (some ⟨w1.heap.size, 0, none⟩) K K) K (intsZ (tallyR K (ns.take j)))) ∧ Hid (Below w1.heap.size w1 wr)) (fun i _ => N - (intOf i).toNat)
  case atStart => exact ⟨0, Nat.zero_le _, rfl, HO2, HB2⟩
  case round =>
    obtain ⟨j, hj, rfl, hown, hbw⟩ := hrel
    have HBW := Lib.hid hbw.out
    have HOW := Lib.hid hown.out
    clear hbw hown x0 D1
    have D1 := Lib.hid (show wr.heap[w.heap.size + 1]? = some (.cells #[.slice A N cap] 27 (0, 0)) from blk_keep HBW.out D1.out)
    have x0 := cell_of_blk D1.out 0
    have hs3 := HBW.out.size
    simp at x0
    by_cases hlt : j < N
    · obtain ⟨x, hx⟩ : ∃ x, ns[j]? = some x := ⟨_, List.getElem?_eq_getElem (by have := HN.out; omega)⟩
      obtain ⟨b, o, rfl, hblt, hva⟩ := (HNS.out.below (below_more HB1.out HBW.out)) j x hx
      obtain ⟨y0, y1, y2, y3, y4, y5, y6, y7⟩ := hva
      have HST := Lib.hid (tally_step (k := K) hx)
      have HSX := Lib.hid (HSG.out x (List.mem_of_getElem? hx))
      obtain ⟨hcl, hcv⟩ := tally_ok K (ns.take j)
      have htl : (ns.take j).length = j := by rw [List.length_take]; have := HN.out; omega
      rw [htl] at hcv
      obtain ⟨cs, hcs⟩ : ∃ cs, cs = tallyR K (ns.take j) := ⟨_, rfl⟩
      rw [← hcs] at HST HOW hcl hcv
      have HCL := Lib.hid hcl
      have HCV := Lib.hid hcv
      obtain ⟨xk, xd, xs, xt, xm, xst, xmn, xmx⟩ := x
      dsimp only at y0 y1 y2 y3 y4 y5 y6 y7 HSX
      clear hx hcl hcv htl hcs
      by_cases hk1 : xk = 1
      · obtain ⟨hs0, hsk⟩ := HSX.out hk1
        subst hk1
        obtain ⟨sn, rfl⟩ : ∃ sn : Nat, xs = sn := ⟨xs.toNat, by omega⟩
        have hsn : sn < K := by omega
        obtain ⟨v, hv⟩ : ∃ v, cs[sn]? = some v := ⟨_, List.getElem?_eq_getElem (by rw [HCL.out]; exact hsn)⟩
        obtain ⟨hv0, hv1⟩ := HCV.out v (List.mem_of_getElem? hv)
        have HS2 := Lib.hid (show tallyR K (ns.take (j + 1)) = cs.set sn (v + 1) by
          rw [HST.out]; unfold tallyS; exact (if_pos rfl).trans (addAt_at hv))
        obtain ⟨g, e1, hbg, hg, -, -, hcell, hfr⟩ := own_open HOW.out (by omega)
        injection e1 with e1; injection e1 with e1 _
        have zc : wr.cell? ⟨w1.heap.size, sn, none⟩ = some (.int .i64 v) := by rw [e1]; exact hcell _ _ (intsZ_at hv)
        have zf : wr.frozen? ⟨w1.heap.size, sn, none⟩ = false := by rw [e1]; exact hfr _
        have hz2 : w1.heap.size < wr.heap.size := by omega
        have hwr : IntKind.i64.wrap (v + 1) = v + 1 := IntWalk.i64_in _ (by omega)
        have HNEW := Lib.hid (show (wr.setCell ⟨w1.heap.size, sn, none⟩ (.int .i64 (v + 1))).ownsRow w1.heap.size 3 1 (.slice (some ⟨w1.heap.size, 0, none⟩) K K) K (intsZ (tallyR K (ns.take (j + 1)))) by
          have h1 := own_set (HOW.out) (g := w1.heap.size) rfl sn (.int .i64 (v + 1))
          rw [intsZ_set, ← HS2.out] at h1
          exact h1)
        clear hv hcell hfr e1 hbg hg HST HSX HCV
        go_wp2_with fail
        go_roundw
        case rel => exact ⟨j + 1, by omega, by go_num, Lib.hid (HNEW.out.alloc _), Lib.hid ((HBW.out.setCell (Nat.le_refl _) _).alloc (by simp; omega) _)⟩
        case measure => simp [intOf]; omega
      · have hkb : (xk == 1) = false := by simpa using hk1
        have HS2 := Lib.hid (show tallyR K (ns.take (j + 1)) = cs by
          rw [HST.out]; unfold tallyS; rw [if_neg (by simpa using hk1)])
        clear hk1 HST HSX HCV
        go_wp2_with fail
        go_roundw
        case rel => exact ⟨j + 1, by omega, by go_num, Lib.hid (by rw [HS2.out]; exact HOW.out.alloc _), Lib.hid (HBW.out.alloc hs3 _)⟩
        case measure => simp [intOf]; omega
    · obtain rfl : j = N := by omega
      have HT := Lib.hid (show ns.take j = ns by rw [HN.out, List.take_length])
      have h1 := HOW.out
      rw [HT.out] at h1
      have HI := Lib.hid (own_ints h1)
      clear h1
      go_wp2_with fail
      go_ret2
      rw [HF.out]
      exact ⟨_, K, K, rfl, Lib.hid (tally_ok K ns).1.symm, HI, below_more HB1.out HBW.out⟩

end Go.Proofs.Ytilagndfohnjnaa
