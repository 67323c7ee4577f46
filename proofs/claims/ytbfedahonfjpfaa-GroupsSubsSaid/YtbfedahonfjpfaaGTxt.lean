/-
  The check of a text (groups.Check).
-/
import Derived.Test.YtbfedahonfjpfaaGFit
namespace Go.Proofs.Ytbfedahonfjpfaa
open Go.RowKit

def nodesErr (l : Li) : List Nd → List Nd → Int
  | _, [] => 0
  | done, n :: r => if nodeErr l done n ≠ 0 then nodeErr l done n else nodesErr l (done ++ [n]) r
def fitsB (ns : List Nd) : Bool := (List.range ns.length).all (kidsFitB ns)
def textErr (l : Li) (ns : List Nd) : Int :=
  if checkErr l ≠ 0 then checkErr l else if 200 < ns.length then 2 else if nodesErr l [] ns ≠ 0 then nodesErr l [] ns else if fitsB ns then 0 else 20
theorem deepR_le {ns : List Nd} (h : ∀ x ∈ ns, 0 ≤ x.depth ∧ x.depth ≤ 4) : deepR ns ≤ 4 := by
  unfold deepR
  cases hx : ns[ns.length - 1]? with
  | none => simp
  | some x =>
    have := h x (List.mem_of_getElem? hx)
    dsimp only
    split
    · omega
    · split <;> omega
theorem nodeErr_depth {l : Li} {done : List Nd} {n : Nd} (h : nodeErr l done n = 0) (hd : ∀ x ∈ done, 0 ≤ x.depth ∧ x.depth ≤ 4) : 0 ≤ n.depth ∧ n.depth ≤ 4 := by
  have h4 := deepR_le hd
  unfold nodeErr at h
  split at h
  · omega
  · split at h
    · omega
    · omega
theorem nodesErr_at (l : Li) (ns : List Nd) (k : Nat) (u : Nd) (h : ns[k]? = some u) : nodesErr l (ns.take k) (ns.drop k) = if nodeErr l (ns.take k) u ≠ 0 then nodeErr l (ns.take k) u else nodesErr l (ns.take (k + 1)) (ns.drop (k + 1)) := by
  obtain ⟨hk, e⟩ := List.getElem?_eq_some_iff.1 h
  rw [List.drop_eq_getElem_cons hk, e, nodesErr]
  rw [List.take_succ_eq_append_getElem hk, e]
theorem depth_take {ns : List Nd} {k : Nat} {u : Nd} (h : ns[k]? = some u) (hd : ∀ x ∈ ns.take k, 0 ≤ x.depth ∧ x.depth ≤ 4) (hu : 0 ≤ u.depth ∧ u.depth ≤ 4) : ∀ x ∈ ns.take (k + 1), 0 ≤ x.depth ∧ x.depth ≤ 4 := by
  obtain ⟨hk, e⟩ := List.getElem?_eq_some_iff.1 h
  rw [List.take_succ_eq_append_getElem hk, e]
  intro x hx
  rcases List.mem_append.1 hx with hx | hx
  · exact hd x hx
  · simp at hx; subst hx; exact hu
theorem checkNode_is (L : Lm) (A : Option Addr) (cap i : Nat) (ns : List Nd) (u : Nd) (w : World) (hl : LmOk w L) (hn : NdsAt w A ns) (hc1 : ns.length ≤ cap) (hc : cap ≤ maxLen) (hi : ns[i]? = some u) (hd : ∀ x ∈ ns.take i, 0 ≤ x.depth ∧ x.depth ≤ 4) (r : Int) (h : nodeErr L.li (ns.take i) u = r) :
    Calls Try.prog 58 #[.agg #[.int .i64 L.per, .slice L.A L.ms.length L.cap], .slice A ns.length cap, .int .i64 i] w fun e w' => e = .returned (.int .i64 r) ∧ Below w.heap.size w w' := by
  rw [← h]; exact checkNode_any L A cap i ns u w hl hn hc1 hc hi hd
theorem kidsFit_is (A : Option Addr) (cap i : Nat) (ns : List Nd) (u : Nd) (w : World) (hn : NdsAt w A ns) (hc1 : ns.length ≤ cap) (hc : cap ≤ maxLen) (hsm : ns.length ≤ 1000000) (hi : ns[i]? = some u) (hd : 0 ≤ u.depth ∧ u.depth ≤ 4) (r : Bool) (h : kidsFitB ns i = r) :
    Calls Try.prog 59 #[.slice A ns.length cap, .int .i64 i] w fun e w' => e = .returned (.bool r) ∧ Below w.heap.size w w' := by
  rw [← h]; exact kidsFit_any A cap i ns u w hn hc1 hc hsm hi hd

set_option maxRecDepth 100000 in
set_option maxHeartbeats 8000000 in
theorem gcheck_any (L : Lm) (A : Option Addr) (cap : Nat) (ns : List Nd) (w : World) (hl : LmOk w L) (hn : NdsAt w A ns) (hc1 : ns.length ≤ cap) (hc : cap ≤ maxLen) :
    Calls Try.prog 19 #[L.val, .agg #[.slice A ns.length cap]] w fun e w' => e = .returned (.int .i64 (textErr L.li ns)) ∧ Below w.heap.size w w' := by
  obtain ⟨E, hE⟩ : ∃ E, E = checkErr L.li := ⟨_, rfl⟩
  have HCK := Lib.hid (fun wx (hb : Below w.heap.size w wx) => show Calls Try.prog 57 #[.agg #[.int .i64 L.per, .slice L.A L.ms.length L.cap]] wx (fun e w' => e = .returned (.int .i64 E) ∧ Below wx.heap.size wx w') by rw [hE]; exact check_any L wx (hl.below hb))
  have HNS := Lib.hid hn
  have HL := Lib.hid hl
  obtain ⟨R, hR⟩ : ∃ R, R = textErr L.li ns := ⟨_, rfl⟩
  have HE := Lib.hid (show R = if E ≠ 0 then E else if 200 < ns.length then 2 else if nodesErr L.li [] ns ≠ 0 then nodesErr L.li [] ns else if fitsB ns then 0 else 20 by rw [hR, hE]; rfl)
  rw [← hR]
  obtain ⟨N, hN⟩ : ∃ N, N = ns.length := ⟨_, rfl⟩
  have HN := Lib.hid hN
  rw [← hN] at hc1 HE ⊢
  have hc' := hc
  unfold maxLen at hc'
  have HCN := Lib.hid (fun wx (hb : Below w.heap.size w wx) (i : Nat) (u : Nd) (hi : ns[i]? = some u) (hd : ∀ x ∈ ns.take i, 0 ≤ x.depth ∧ x.depth ≤ 4) (r : Int) (h : nodeErr L.li (ns.take i) u = r) =>
    show Calls Try.prog 58 #[.agg #[.int .i64 L.per, .slice L.A L.ms.length L.cap], .slice A N cap, .int .i64 i] wx (fun e w' => e = .returned (.int .i64 r) ∧ Below wx.heap.size wx w') by
    have := checkNode_is L A cap i ns u wx (HL.out.below hb) (HNS.out.below hb) (by rw [← HN.out]; exact hc1) hc hi hd r h
    rw [← HN.out] at this; exact this)
  clear hl hn hE hR hN
  show Calls _ _ #[.agg #[.int .i64 L.per, .slice L.A L.ms.length L.cap], _] w _
  obtain ⟨W, hW⟩ : ∃ W, W = (w.alloc (.cells #[.int .i64 L.per, .slice L.A L.ms.length L.cap] 24)).alloc (.cells #[.slice A N cap] 27) := ⟨_, rfl⟩
  have HB := Lib.hid (show Below w.heap.size w W from hW ▸ two_under _ _ _)
  have HX0 := Lib.hid (show W.heap[w.heap.size]? = some (.cells #[.int .i64 L.per, .slice L.A L.ms.length L.cap] 24 (0, 0)) by rw [hW, heap_alloc_other _ _ _ (by simp)]; exact heap_alloc_new _ _)
  have HX1 := Lib.hid (show W.heap[w.heap.size + 1]? = some (.cells #[.slice A N cap] 27 (0, 0)) by
    rw [hW]; have := heap_alloc_new (w.alloc (.cells #[.int .i64 L.per, .slice L.A L.ms.length L.cap] 24)) (.cells #[.slice A N cap] 27); simpa using this)
  have HC := Lib.hid (fun w' (hb : Below W.heap.size W w') => show w'.cell? ⟨w.heap.size, 0, none⟩ = some (.int .i64 L.per) ∧ w'.cell? ⟨w.heap.size, 1, none⟩ = some (.slice L.A L.ms.length L.cap) ∧ w'.cell? ⟨w.heap.size + 1, 0, none⟩ = some (.slice A N cap) from
    ⟨cell_of_blk (blk_keep hb HX0.out) 0, cell_of_blk (blk_keep hb HX0.out) 1, cell_of_blk (blk_keep hb HX1.out) 0⟩)
  go_enter Try.func19, Try.ntmps19
  go_wp2_with fail
  rw [← hW]
  refine (HCK.out W HB.out).mono ?_; rintro e w1 ⟨rfl, hb⟩
  have HB1 := Lib.hid hb
  obtain ⟨x0, x1, x2⟩ := HC.out w1 hb
  clear hb hW HX0 HX1
  by_cases h0 : E = 0
  case neg =>
    have hbE : (E != 0) = true := by simpa using h0
    have HF := Lib.hid (show R = E by rw [HE.out, if_pos h0])
    clear h0 HE
    go_wp2_with fail
    go_ret
    exact ⟨of_int HF.out.symm, below_more HB.out HB1.out⟩
  subst h0
  by_cases h1 : 200 < N
  · have HF := Lib.hid (show R = 2 by rw [HE.out, if_neg (by simp), if_pos h1])
    clear HE
    go_wp2_with fail
    go_ret
    exact ⟨of_int HF.out.symm, below_more HB.out HB1.out⟩
  have HE2 := Lib.hid (show R = if nodesErr L.li [] ns ≠ 0 then nodesErr L.li [] ns else if fitsB ns then 0 else 20 by rw [HE.out, if_neg (by simp), if_neg h1])
  clear HE HCK
  have hd200 : decide (200 < N) = false := decide_eq_false h1
  go_wp2_with fail
  clear x0 x1 x2
  go_loopw [6, 7, 21] (fun _ _ c wr => ∃ k : Nat, k ≤ N ∧ c = .int .i64 k ∧ Hid (nodesErr L.li [] ns = nodesErr L.li (ns.take k) (ns.drop k)) ∧ Hid (∀ x ∈ ns.take k, 0 ≤ x.depth ∧ x.depth ≤ 4) ∧ Hid (Below W.heap.size W wr)) (fun _ _ c _ => N - (intOf c).toNat)
  case atStart => exact ⟨0, Nat.zero_le _, rfl, Lib.hid (by simp), Lib.hid (fun x hx => by simp at hx), HB1⟩
  case round =>
    obtain ⟨k, hk, rfl, hne, hdp, hbw⟩ := hrel
    have HBW := Lib.hid hbw.out
    have HNE := Lib.hid hne.out
    have HDP := Lib.hid hdp.out
    clear hbw hne hdp
    obtain ⟨x0, x1, x2⟩ := HC.out wr HBW.out
    by_cases hlt : k < N
    · obtain ⟨u, hu⟩ : ∃ u, ns[k]? = some u := ⟨_, List.getElem?_eq_getElem (by have := HN.out; omega)⟩
      obtain ⟨e0, he0⟩ : ∃ e0, nodeErr L.li (ns.take k) u = e0 := ⟨_, rfl⟩
      have HCC := Lib.hid (HCN.out wr (below_more HB.out HBW.out) k u hu HDP.out e0 he0)
      have HST := Lib.hid (nodesErr_at L.li ns k u hu)
      rw [he0] at HST
      have HD2 := Lib.hid (fun (h : e0 = 0) => depth_take hu HDP.out (nodeErr_depth (by rw [he0]; exact h) HDP.out))
      clear hu he0
      by_cases h2 : e0 = 0
      case neg =>
        have hbE : (e0 != 0) = true := by simpa using h2
        have HF := Lib.hid (show R = e0 by
          have h3 : nodesErr L.li [] ns = e0 := by rw [HNE.out, HST.out, if_pos h2]
          rw [HE2.out, h3, if_pos h2])
        clear h2 HST HE2 HD2
        go_wp2_with fail
        refine HCC.out.mono ?_; rintro e w3 ⟨rfl, hb3⟩
        go_wp2_with fail
        go_ret
        exact ⟨of_int HF.out.symm, below_more (below_more HB.out HBW.out) hb3⟩
      subst h2
      have HN3 := Lib.hid (show nodesErr L.li [] ns = nodesErr L.li (ns.take (k + 1)) (ns.drop (k + 1)) by rw [HNE.out, HST.out, if_neg (by simp)])
      have HD3 := Lib.hid (HD2.out rfl)
      clear HST HD2
      go_wp2_with fail
      refine HCC.out.mono ?_; rintro e w3 ⟨rfl, hb3⟩
      have HB3 := Lib.hid (below_more HBW.out hb3)
      clear hb3 x0 x1 x2
      go_wp2_with fail
      go_roundw
      case rel => exact ⟨k + 1, by omega, by go_num, HN3, HD3, HB3⟩
      case measure => simp [intOf]; omega
    · obtain rfl : k = N := by omega
      have HZ := Lib.hid (show nodesErr L.li [] ns = 0 by rw [HNE.out, HN.out, List.drop_length]; rfl)
      have HDA := Lib.hid (show ∀ x ∈ ns, 0 ≤ x.depth ∧ x.depth ≤ 4 by have := HDP.out; rw [HN.out, List.take_length] at this; exact this)
      have HE3 := Lib.hid (show R = if fitsB ns then 0 else 20 by rw [HE2.out, HZ.out, if_neg (by simp)])
      clear HE2 HZ HNE HDP HCN
      go_wp2_with fail
      clear x0 x1 x2
      obtain ⟨wo, rfl⟩ : ∃ wo : World, wo = wr := ⟨_, rfl⟩
      go_loopw [8, 36] (fun _ c wr => ∃ j : Nat, j ≤ k ∧ c = .int .i64 j ∧ Hid ((List.range j).all (kidsFitB ns) = true) ∧ Hid (Below W.heap.size W wr)) (fun _ c _ => k - (intOf c).toNat)
      case atStart => exact ⟨0, Nat.zero_le _, rfl, Lib.hid (by simp), HBW⟩
      case round =>
        obtain ⟨j, hj, rfl, hall, hbw⟩ := hrel
        have HBJ := Lib.hid hbw.out
        have HAL := Lib.hid hall.out
        clear hbw hall
        obtain ⟨x0, x1, x2⟩ := HC.out wr HBJ.out
        by_cases hlj : j < k
        · obtain ⟨u, hu⟩ : ∃ u, ns[j]? = some u := ⟨_, List.getElem?_eq_getElem (by have := HN.out; omega)⟩
          have HSS := Lib.hid (show (List.range (j + 1)).all (kidsFitB ns) = ((List.range j).all (kidsFitB ns) && kidsFitB ns j) by rw [List.range_succ, List.all_append]; simp)
          obtain ⟨r, hr⟩ : ∃ r, kidsFitB ns j = r := ⟨_, rfl⟩
          have HKF := Lib.hid (show Calls Try.prog 59 #[.slice A k cap, .int .i64 j] wr (fun e w' => e = .returned (.bool r) ∧ Below wr.heap.size wr w') by
            have := kidsFit_is A cap j ns u wr (HNS.out.below (below_more HB.out HBJ.out)) (by rw [← HN.out]; exact hc1) hc (by rw [← HN.out]; omega) hu (HDA.out u (List.mem_of_getElem? hu)) r hr
            rw [← HN.out] at this; exact this)
          rw [hr] at HSS
          have HRR := Lib.hid hr
          clear hu hr
          cases r with
          | true =>
            go_wp2_with fail
            refine HKF.out.mono ?_; rintro e w3 ⟨rfl, hb3⟩
            have HB3 := Lib.hid (below_more HBJ.out hb3)
            clear hb3 x0 x1 x2
            go_wp2_with fail
            go_roundw
            case rel => exact ⟨j + 1, by omega, by go_num, Lib.hid (by rw [HSS.out, HAL.out]; rfl), HB3⟩
            case measure => simp [intOf]; omega
          | false =>
            have HF := Lib.hid (show R = 20 by
              rw [HE3.out, if_neg]
              unfold fitsB
              rw [Bool.not_eq_true, List.all_eq_false]
              exact ⟨j, List.mem_range.2 (by rw [← HN.out]; exact hlj), by rw [HRR.out]; simp⟩)
            go_wp2_with fail
            refine HKF.out.mono ?_; rintro e w3 ⟨rfl, hb3⟩
            go_wp2_with fail
            go_ret
            exact ⟨of_int HF.out.symm, below_more (below_more HB.out HBJ.out) hb3⟩
        · obtain rfl : j = k := by omega
          have HF := Lib.hid (show R = 0 by
            rw [HE3.out, if_pos]
            unfold fitsB
            rw [← HN.out]; exact HAL.out)
          go_wp2_with fail
          go_ret
          exact ⟨of_int HF.out.symm, below_more HB.out HBJ.out⟩

end Go.Proofs.Ytbfedahonfjpfaa
