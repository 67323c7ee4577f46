/-
  The specification's Check of a text.
-/
import Derived.Test.YtbfedahonfjpfaaGFam
import Derived.Test.YtbfedahonfjpfaaGVal
namespace Go.Proofs.Ytbfedahonfjpfaa
open Go.RowKit

theorem nodes_at (l : Li) : ∀ (r done : List Nd), nodesErr l done r = 0 → ∀ (k : Nat) (u : Nd), r[k]? = some u → nodeErr l (done ++ r.take k) u = 0
  | [], _, _ => fun k u hk => by simp at hk
  | n :: r, done, h => by
    rw [nodesErr] at h
    split at h
    · rename_i h1; exact absurd h h1
    · rename_i h1
      have h1 : nodeErr l done n = 0 := by simpa using h1
      intro k u hk
      cases k with
      | zero => simp at hk; subst hk; simpa using h1
      | succ k =>
        have := nodes_at l r (done ++ [n]) h k u (by simpa using hk)
        simpa using this
theorem deepR_step {ns : List Nd} {k : Nat} {u : Nd} (h : ns[k]? = some u) : deepR (ns.take (k + 1)) ≤ u.depth + 1 := by
  have hk := (List.getElem?_eq_some_iff.1 h).1
  unfold deepR
  rw [List.length_take, show min (k + 1) ns.length - 1 = k by omega, List.getElem?_take, if_pos (by omega), h]
  dsimp only
  split
  · omega
  · split <;> omega
theorem nodeErr_kind {l : Li} {done : List Nd} {u : Nd} (h : nodeErr l done u = 0) : (1 ≤ u.kind ∧ u.kind ≤ 7) ∧ u.depth ≤ deepR done := by
  unfold nodeErr at h
  split at h
  · omega
  · split at h <;> omega
/-- what the checks of the nodes say of a text -/
theorem nodes_shape {l : Li} {ns : List Nd} (h : nodesErr l [] ns = 0) : Rises ns ∧ (∀ u, ns[0]? = some u → u.depth ≤ 0) ∧ (∀ i, i < ns.length → 1 ≤ kindAt ns i ∧ kindAt ns i ≤ 7) ∧ (∀ i, i < ns.length → 0 ≤ depthAt ns i) := by
  have hat : ∀ (k : Nat) (u : Nd), ns[k]? = some u → nodeErr l (ns.take k) u = 0 := fun k u hk => by have := nodes_at l ns [] h k u hk; simpa using this
  have hdep := nodes_depth l ns [] h (fun x hx => by cases hx)
  refine ⟨fun k u v hu hv => ?_, fun u hu => ?_, fun i hi => ?_, fun i hi => ?_⟩
  · have h1 := (nodeErr_kind (hat (k + 1) v hv)).2
    have h2 := deepR_step hu
    omega
  · have h1 := (nodeErr_kind (hat 0 u hu)).2
    simpa [deepR] using h1
  · obtain ⟨u, hu⟩ : ∃ u, ns[i]? = some u := ⟨_, List.getElem?_eq_getElem hi⟩
    unfold kindAt; rw [getN_at hu]; exact (nodeErr_kind (hat i u hu)).1
  · obtain ⟨u, hu⟩ : ∃ u, ns[i]? = some u := ⟨_, List.getElem?_eq_getElem hi⟩
    rw [depthAt_is hu]; exact (hdep u (List.mem_of_getElem? hu)).1
theorem rown_is (L : Lm) (A : Option Addr) (cap i : Nat) (ns : List Nd) (u : Nd) (w : World) (hl : LmOk w L) (hn : NdsAt w A ns) (hsm : ns.length ≤ 1000000) (hi : ns[i]? = some u) (hd : ∀ x ∈ ns.take i, 0 ≤ x.depth ∧ x.depth ≤ 4) (r : Int) (h : nodeErr L.li (ns.take i) u = r) :
    Calls Try.prog 61 #[.agg #[.int .i64 L.per, .slice L.A L.ms.length L.cap], .agg #[.slice A ns.length cap], .int .i64 i] w fun e w' => e = .returned (.int .i64 r) ∧ Below w.heap.size w w' := by
  rw [← h, ← own_node L.li ns i u hi hd]; exact rown_any L A cap i ns u w hl hn hsm hi hd

set_option maxRecDepth 100000 in
set_option maxHeartbeats 8000000 in
theorem rgcheck_any (L : Lm) (A : Option Addr) (cap : Nat) (ns : List Nd) (w : World) (hl : LmOk w L) (hn : NdsAt w A ns) (hc1 : ns.length ≤ cap) (hc : cap ≤ maxLen) :
    Calls Try.prog 20 #[L.val, .agg #[.slice A ns.length cap]] w fun e w' => e = .returned (.int .i64 (textErr L.li ns)) ∧ Below w.heap.size w w' := by
  obtain ⟨E, hE⟩ : ∃ E, E = checkErr L.li := ⟨_, rfl⟩
  have HCK := Lib.hid (fun wx (hb : Below w.heap.size w wx) => show Calls Try.prog 60 #[.agg #[.int .i64 L.per, .slice L.A L.ms.length L.cap]] wx (fun e w' => e = .returned (.int .i64 E) ∧ Below wx.heap.size wx w') by rw [hE]; exact rcheck_any L wx (hl.below hb))
  have HNS := Lib.hid hn
  have HL := Lib.hid hl
  have HSH := Lib.hid (fun (h : nodesErr L.li [] ns = 0) => nodes_shape h)
  obtain ⟨R, hR⟩ : ∃ R, R = textErr L.li ns := ⟨_, rfl⟩
  have HE := Lib.hid (show R = if E ≠ 0 then E else if 200 < ns.length then 2 else if nodesErr L.li [] ns ≠ 0 then nodesErr L.li [] ns else if fitsB ns then 0 else 20 by rw [hR, hE]; rfl)
  rw [← hR]
  obtain ⟨N, hN⟩ : ∃ N, N = ns.length := ⟨_, rfl⟩
  have HN := Lib.hid hN
  rw [← hN] at hc1 HE ⊢
  have hc' := hc
  unfold maxLen at hc'
  have HCN := Lib.hid (fun wx (hb : Below w.heap.size w wx) (i : Nat) (u : Nd) (hi : ns[i]? = some u) (hd : ∀ x ∈ ns.take i, 0 ≤ x.depth ∧ x.depth ≤ 4) (hs : N ≤ 1000000) (r : Int) (h : nodeErr L.li (ns.take i) u = r) =>
    show Calls Try.prog 61 #[.agg #[.int .i64 L.per, .slice L.A L.ms.length L.cap], .agg #[.slice A N cap], .int .i64 i] wx (fun e w' => e = .returned (.int .i64 r) ∧ Below wx.heap.size wx w') by
    have := rown_is L A cap i ns u wx (HL.out.below hb) (HNS.out.below hb) (by rw [← HN.out]; exact hs) hi hd r h
    rw [← HN.out] at this; exact this)
  clear hl hn hE hR hN
  show Calls _ _ #[.agg #[.int .i64 L.per, .slice L.A L.ms.length L.cap], _] w _
  obtain ⟨W, hW⟩ : ∃ W, W = (w.alloc (.cells #[.int .i64 L.per, .slice L.A L.ms.length L.cap] 24)).alloc (.cells #[.slice A N cap] 27) := ⟨_, rfl⟩
  have HB := Lib.hid (show Below w.heap.size w W from hW ▸ two_under _ _ _)
  have HX0 := Lib.hid (show W.heap[w.heap.size]? = some (.cells #[.int .i64 L.per, .slice L.A L.ms.length L.cap] 24 (0, 0)) by rw [hW, heap_alloc_other _ _ _ (by simp)]; exact heap_alloc_new _ _)
  have HX1 := Lib.hid (show W.heap[w.heap.size + 1]? = some (.cells #[.slice A N cap] 27 (0, 0)) by
    rw [hW]; have := heap_alloc_new (w.alloc (.cells #[.int .i64 L.per, .slice L.A L.ms.length L.cap] 24)) (.cells #[.slice A N cap] 27); simpa using this)
  have HC := Lib.hid (fun w' (hb : Below W.heap.size W w') => show w'.cell? ⟨w.heap.size, 0, none⟩ = some (.int .i64 L.per) ∧ w'.cell? ⟨w.heap.size, 1, none⟩ = some (.slice L.A L.ms.length L.cap) ∧ w'.cell? ⟨w.heap.size + 1, 0, none⟩ = some (.slice A N cap) from
    ⟨cell_of_blk (blk_keep hb HX0.out) 0, cell_of_blk (blk_keep hb HX0.out) 1, cell_of_blk (blk_keep hb HX1.out) 0⟩)
  have HSZ := Lib.hid (fun w' (hb : Below W.heap.size W w') => show w.heap.size + 1 < w'.heap.size from (Array.getElem?_eq_some_iff.1 (blk_keep hb HX1.out)).1)
  go_enter Try.func20, Try.ntmps20
  go_wp2_with fail
  rw [← hW]
  refine (HCK.out W HB.out).mono ?_; rintro e w1 ⟨rfl, hb⟩
  have HB1 := Lib.hid hb
  obtain ⟨x0, x1, x2⟩ := HC.out w1 hb
  clear hb hW HX0 HX1
  by_cases h0 : E = 0
  case neg =>
    have hbE : (E != 0) = true := by simpa using h0
    have HF := Lib.hid (show R = E by rw [HE.out, if_pos h0])
    clear h0 HE
    go_wp2_with fail
    go_ret
    exact ⟨of_int HF.out.symm, below_more HB.out HB1.out⟩
  subst h0
  by_cases h1 : 200 < N
  · have HF := Lib.hid (show R = 2 by rw [HE.out, if_neg (by simp), if_pos h1])
    clear HE
    go_wp2_with fail
    go_ret
    exact ⟨of_int HF.out.symm, below_more HB.out HB1.out⟩
  have HE2 := Lib.hid (show R = if nodesErr L.li [] ns ≠ 0 then nodesErr L.li [] ns else if fitsB ns then 0 else 20 by rw [HE.out, if_neg (by simp), if_neg h1])
  clear HE HCK
  have hd200 : decide (200 < N) = false := decide_eq_false h1
  go_wp2_with fail
  clear x0 x1 x2
  go_loopw [6, 7] (fun c _ wr => ∃ k : Nat, k ≤ N ∧ c = .int .i64 k ∧ Hid (nodesErr L.li [] ns = nodesErr L.li (ns.take k) (ns.drop k)) ∧ Hid (∀ x ∈ ns.take k, 0 ≤ x.depth ∧ x.depth ≤ 4) ∧ Hid (Below W.heap.size W wr)) (fun c _ _ => N - (intOf c).toNat)
  case atStart => exact ⟨0, Nat.zero_le _, rfl, Lib.hid (by simp), Lib.hid (fun x hx => by simp at hx), HB1⟩
  case round =>
    obtain ⟨k, hk, rfl, hne, hdp, hbw⟩ := hrel
    have HBW := Lib.hid hbw.out
    have HNE := Lib.hid hne.out
    have HDP := Lib.hid hdp.out
    clear hbw hne hdp
    obtain ⟨x0, x1, x2⟩ := HC.out wr HBW.out
    by_cases hlt : k < N
    · obtain ⟨u, hu⟩ : ∃ u, ns[k]? = some u := ⟨_, List.getElem?_eq_getElem (by have := HN.out; omega)⟩
      obtain ⟨e0, he0⟩ : ∃ e0, nodeErr L.li (ns.take k) u = e0 := ⟨_, rfl⟩
      have HCC := Lib.hid (HCN.out wr (below_more HB.out HBW.out) k u hu HDP.out (by omega) e0 he0)
      have HST := Lib.hid (nodesErr_at L.li ns k u hu)
      rw [he0] at HST
      have HD2 := Lib.hid (fun (h : e0 = 0) => depth_take hu HDP.out (nodeErr_depth (by rw [he0]; exact h) HDP.out))
      clear hu he0
      by_cases h2 : e0 = 0
      case neg =>
        have hbE : (e0 != 0) = true := by simpa using h2
        have HF := Lib.hid (show R = e0 by
          have h3 : nodesErr L.li [] ns = e0 := by rw [HNE.out, HST.out, if_pos h2]
          rw [HE2.out, h3, if_pos h2])
        clear h2 HST HE2 HD2
        go_wp2_with fail
        refine HCC.out.mono ?_; rintro e w3 ⟨rfl, hb3⟩
        go_wp2_with fail
        go_ret
        exact ⟨of_int HF.out.symm, below_more (below_more HB.out HBW.out) hb3⟩
      subst h2
      have HN3 := Lib.hid (show nodesErr L.li [] ns = nodesErr L.li (ns.take (k + 1)) (ns.drop (k + 1)) by rw [HNE.out, HST.out, if_neg (by simp)])
      have HD3 := Lib.hid (HD2.out rfl)
      clear HST HD2
      go_wp2_with fail
      refine HCC.out.mono ?_; rintro e w3 ⟨rfl, hb3⟩
      have HB3 := Lib.hid (below_more HBW.out hb3)
      clear hb3 x0 x1 x2
      go_wp2_with fail
      go_roundw
      case rel => exact ⟨k + 1, by omega, by go_num, HN3, HD3, HB3⟩
      case measure => simp [intOf]; omega
    · obtain rfl : k = N := by omega
      have HZ := Lib.hid (show nodesErr L.li [] ns = 0 by rw [HNE.out, HN.out, List.drop_length]; rfl)
      have HDA := Lib.hid (show ∀ x ∈ ns, 0 ≤ x.depth ∧ x.depth ≤ 4 by have := HDP.out; rw [HN.out, List.take_length] at this; exact this)
      have HSP := Lib.hid (HSH.out HZ.out)
      have HE3 := Lib.hid (show R = if famsB ns then 0 else 20 by
        rw [HE2.out, HZ.out, if_neg (by simp)]
        have := HSP.out
        rw [fits_fams this.1 this.2.1 this.2.2.1 this.2.2.2])
      have HPR := Lib.hid (fun wx (hb : Below w.heap.size w wx) (j : Nat) (hj : j < k) => show Calls Try.prog 63 #[.agg #[.slice A k cap], .int .i64 j] wx (fun e w' => e = .returned (.int .i64 (parentR ns j)) ∧ Below wx.heap.size wx w') by
        obtain ⟨u, hu⟩ : ∃ u, ns[j]? = some u := ⟨_, List.getElem?_eq_getElem (by have := HN.out; omega)⟩
        have := rparent_any A cap j ns u wx (HNS.out.below hb) (by have := HN.out; omega) hu
        rw [← HN.out] at this; exact this)
      have HFM := Lib.hid (fun wx (hb : Below w.heap.size w wx) (j : Nat) (hj : j < k) (r : Bool) (hr : famB ns j (parentR ns j) = r) => show Calls Try.prog 62 #[.agg #[.slice A k cap], .int .i64 j, .int .i64 (parentR ns j)] wx (fun e w' => e = .returned (.bool r) ∧ Below wx.heap.size wx w') by
        obtain ⟨u, hu⟩ : ∃ u, ns[j]? = some u := ⟨_, List.getElem?_eq_getElem (by have := HN.out; omega)⟩
        have := rfamily_any A cap j (parentR ns j) ns u wx (HNS.out.below hb) (by rw [← HN.out]; exact hc1) hc (by have := HN.out; omega) hu HDA.out (fun _ hd => by
          have hsp := HSP.out
          obtain ⟨p, hp1, hp2, _⟩ := kid_parent hsp.1 hsp.2.1 (j := j) (by have := HN.out; omega) (by rw [depthAt_is hu]; exact hd)
          exact ⟨p, hp2, by have := HN.out; omega⟩)
        rw [← HN.out, hr] at this; exact this)
      clear HE2 HZ HNE HDP HCN HSH HSP HDA
      go_wp2_with fail
      clear x0 x1 x2
      obtain ⟨wo, rfl⟩ : ∃ wo : World, wo = wr := ⟨_, rfl⟩
      go_loopw [8] (fun c wr => ∃ j : Nat, j ≤ k ∧ c = .int .i64 j ∧ Hid ((List.range j).all (fun i => famB ns i (parentR ns i)) = true) ∧ Hid (Below W.heap.size W wr)) (fun c _ => k - (intOf c).toNat)
      case atStart => exact ⟨0, Nat.zero_le _, rfl, Lib.hid (by simp), HBW⟩
      case round =>
        obtain ⟨j, hj, rfl, hall, hbw⟩ := hrel
        have HBJ := Lib.hid hbw.out
        have HAL := Lib.hid hall.out
        clear hbw hall
        obtain ⟨x0, x1, x2⟩ := HC.out wr HBJ.out
        by_cases hlj : j < k
        · have HSS := Lib.hid (show (List.range (j + 1)).all (fun i => famB ns i (parentR ns i)) = ((List.range j).all (fun i => famB ns i (parentR ns i)) && famB ns j (parentR ns j)) by rw [List.range_succ, List.all_append]; simp)
          obtain ⟨r, hr⟩ : ∃ r, famB ns j (parentR ns j) = r := ⟨_, rfl⟩
          have HPJ := Lib.hid (fun (s : Later wr) => HPR.out s.w (below_more HB.out (below_more HBJ.out s.below)) j hlj)
          have HFJ := Lib.hid (fun (s : Later wr) => HFM.out s.w (below_more HB.out (below_more HBJ.out s.below)) j hlj r hr)
          obtain ⟨q, hq⟩ : ∃ q, q = parentR ns j := ⟨_, rfl⟩
          rw [hr] at HSS
          rw [← hq] at HPJ HFJ
          have HRR := Lib.hid hr
          have hsz := HSZ.out wr HBJ.out
          have hsz0 : w.heap.size < wr.heap.size := by omega
          clear hr hq
          cases r with
          | true =>
            go_wp2_with fail
            refine wp_region_later (by kernel_rfl) (by kernel_rfl) ?_; (repeat (first | go_big_quiet_step ((first | ((go_at_call 63; exact Calls.later _ (HPJ.out _))) | ((go_at_call 62; exact Calls.later _ (HFJ.out _))))) | quiet_step ((first | ((go_at_call 63; exact Calls.later _ (HPJ.out _))) | ((go_at_call 62; exact Calls.later _ (HFJ.out _))))))); refine wpQuiet_nil ?_; rintro _ ⟨s, rfl⟩
            have HB3 := Lib.hid (below_more HBJ.out s.below)
            clear x0 x1 x2
            go_wp2_with fail
            go_roundw
            case rel => exact ⟨j + 1, by omega, by go_num, Lib.hid (by rw [HSS.out, HAL.out]; rfl), HB3⟩
            case measure => simp [intOf]; omega
          | false =>
            have HF := Lib.hid (show R = 20 by
              rw [HE3.out, if_neg]
              unfold famsB
              rw [Bool.not_eq_true, List.all_eq_false]
              exact ⟨j, List.mem_range.2 (by rw [← HN.out]; exact hlj), by rw [HRR.out]; simp⟩)
            go_wp2_with fail
            refine wp_region_later (by kernel_rfl) (by kernel_rfl) ?_; (repeat (first | go_big_quiet_step ((first | ((go_at_call 63; exact Calls.later _ (HPJ.out _))) | ((go_at_call 62; exact Calls.later _ (HFJ.out _))))) | quiet_step ((first | ((go_at_call 63; exact Calls.later _ (HPJ.out _))) | ((go_at_call 62; exact Calls.later _ (HFJ.out _))))))); refine wpQuiet_nil ?_; rintro _ ⟨s, rfl⟩
            go_wp2_with fail
            go_ret
            exact ⟨of_int HF.out.symm, below_more (below_more HB.out HBJ.out) s.below⟩
        · obtain rfl : j = k := by omega
          have HF := Lib.hid (show R = 0 by
            rw [HE3.out, if_pos]
            unfold famsB
            rw [← HN.out]; exact HAL.out)
          go_wp2_with fail
          go_ret
          exact ⟨of_int HF.out.symm, below_more HB.out HBJ.out⟩

end Go.Proofs.Ytbfedahonfjpfaa
