/-
  The specification's Plain. And what builds on it.
-/
import Derived.Test.YtmiokllpdmmfhaaGreatLaH
import Derived.Deep.DeepCutAuto
import Derived.Test.YtmiokllpdmmfhaaGreatLcJ
import Derived.Test.YtmiokllpdmmfhaaGreatLaL
import Derived.Test.YtmiokllpdmmfhaaGreatLbC
import Derived.Deep.RegionHeld3
namespace Go.Proofs.YtmiokllpdmmfhaaGreat
open Go.RowKit
structure OutRel (base bt br bo : Nat) (wr : World) (A : Option Addr) (N cap : Nat) (v : Value) (k : Nat) (zs : List Nd) : Prop where
  b0 : wr.heap[bt]? = some (.cells #[.slice A N cap] 27 (0, 0))
  b1 : wr.heap[br]? = some (.cells #[.slice none 0 0] 27 (0, 0))
  b2 : wr.heap[bo]? = some (.cells #[v] 27 (0, 0))
  own : wr.ownsRow base 87 8 v k (zs.flatMap Nd.cells)
section
variable {base bt br bo : Nat} {wr wx wA w3 : World} {A A2 : Option Addr} {N cap c2 : Nat} {v : Value} {k : Nat} {zs : List Nd}
theorem OutRel.later (h : OutRel base bt br bo wr A N cap v k zs) (hb : Below wr.heap.size wr wx) : OutRel base bt br bo wx A N cap v k zs :=
  ⟨blk_keep hb h.b0, blk_keep hb h.b1, blk_keep hb h.b2, ownsRow_of_block h.own (fun g hg => hb.block g (h.own.lt g hg).2)⟩
theorem OutRel.keep (h : OutRel base bt br bo wr A N cap v k zs) (hA : Below wr.heap.size wr wA) (hg : wA.grownBy w3 v.ownBlock) {g : Nat} (h1 : g < wr.heap.size) (h2 : g < base) : w3.heap[g]? = wr.heap[g]? := by
  have := hA.size
  rw [hg.block g (by omega) (fun e => by have := (h.own.lt _ e.symm).1; omega)]
  exact hA.block g h1
theorem OutRel.out2 (h : OutRel base bt br bo wr A N cap v k zs) (ho : bo < base) (hA : Below wr.heap.size wr wA) (hg : wA.grownBy w3 v.ownBlock) : w3.heap[bo]? = some (.cells #[v] 27 (0, 0)) := by
  rw [h.keep hA hg (Array.getElem?_eq_some_iff.1 h.b2).1 ho]; exact h.b2
theorem OutRel.step {m : Nat} {xs : List Nd} (h : OutRel base bt br bo wr A N cap v k zs) (ht : bt < base) (hr : br < base) (ho : bo < base) (hto : bt ≠ bo) (hro : br ≠ bo) (hA : Below wr.heap.size wr wA)
    (own2 : w3.ownsRow base 87 8 (.slice A2 m c2) m (zs.flatMap Nd.cells ++ xs.flatMap Nd.cells)) (hg : wA.grownBy w3 v.ownBlock) :
    OutRel base bt br bo (w3.setCell ⟨bo, 0, none⟩ (.slice A2 m c2)) A N cap (.slice A2 m c2) m (zs ++ xs) := by
  refine ⟨?_, ?_, ?_, ?_⟩
  · rw [heap_setCell_other _ _ _ _ hto, h.keep hA hg (Array.getElem?_eq_some_iff.1 h.b0).1 ht]; exact h.b0
  · rw [heap_setCell_other _ _ _ _ hro, h.keep hA hg (Array.getElem?_eq_some_iff.1 h.b1).1 hr]; exact h.b1
  · rw [heap_setCell_same _ _ _ _ _ _ (h.out2 ho hA hg)]; rfl
  · have := ownsRow_of_block (w' := w3.setCell ⟨bo, 0, none⟩ (.slice A2 m c2)) own2 (fun g hg' => heap_setCell_other _ _ _ _ (by have := (own2.lt g hg').1; dsimp only; omega))
    rw [List.flatMap_append]; exact this
theorem OutRel.below {w : World} (h : OutRel base bt br bo wr A N cap v k zs) (hw : Below w.heap.size w wr) (hb : w.heap.size ≤ base) (ho : w.heap.size ≤ bo) (hA : Below wr.heap.size wr wA) (hg : wA.grownBy w3 v.ownBlock) (u : Value) : Below w.heap.size w (w3.setCell ⟨bo, 0, none⟩ u) :=
  ((below_more hw hA).grown hg (by have := hw.size; have := hA.size; omega) (fun g hg => by have := (h.own.lt g hg).1; omega)).setCell (by dsimp only; omega) _
end
def rplainQ (l : Li) (ns : List Nd) : List Nd × Int := if textErr l ns ≠ 0 then ([], textErr l ns) else (plainS ns, 0)
theorem rplain_is (l : Li) (ns : List Nd) : rplainQ l ns = regQ plainP l ns := by
  unfold rplainQ regQ
  split
  · rfl
  · rename_i h
    rw [plain_is (shape_of (by simpa using h))]
set_option maxRecDepth 100000 in
set_option maxHeartbeats 16000000 in
theorem rplain_any (L : Lm) (A : Option Addr) (cap : Nat) (ns : List Nd) (w : World) (hl : LmOk w L) (hn : NdsAt w A ns) (hc1 : ns.length ≤ cap) (hc : cap ≤ maxLen) :
    Calls Tryz.prog 44 #[.agg #[.int .i64 L.per, .slice L.A L.ms.length L.cap], .agg #[.slice A ns.length cap]] w (GotTextO w (rplainQ L.li ns).1 (rplainQ L.li ns).2) := by
  obtain ⟨E, hE⟩ : ∃ E, textErr L.li ns = E := ⟨_, rfl⟩
  obtain ⟨R, hR⟩ : ∃ R, R = rplainQ L.li ns := ⟨_, rfl⟩
  have HE := Lib.hid (show R = if E ≠ 0 then ([], E) else (plainS ns, 0) by rw [hR, ← hE]; rfl)
  have HEE := Lib.hid hE
  have HNS := Lib.hid hn
  obtain ⟨N, hN⟩ : ∃ N, N = ns.length := ⟨_, rfl⟩
  have HN := Lib.hid hN
  have HCK := Lib.hid (fun wx (hb : Below w.heap.size w wx) => rgcheck_is L A cap ns wx (hl.below hb) (hn.below hb) hc1 hc E hE)
  rw [← hR]
  rw [← hN] at HCK hc1 ⊢
  unfold maxLen at hc
  obtain ⟨W, hW⟩ : ∃ W, W = ((w.alloc (.cells #[.int .i64 L.per, .slice L.A L.ms.length L.cap] 24)).alloc (.cells #[.slice A N cap] 27)).alloc (.cells #[.slice none 0 0] 27) := ⟨_, rfl⟩
  have HB := Lib.hid (show Below w.heap.size w W from hW ▸ (((Below.refl _ _).alloc (Nat.le_refl _) _).alloc (by simp) _).alloc (by simp; omega) _)
  have HX1 := Lib.hid (show W.heap[w.heap.size + 1]? = some (.cells #[.slice A N cap] 27 (0, 0)) by
    rw [hW, heap_alloc_other _ _ _ (by simp)]; have := heap_alloc_new (w.alloc (.cells #[.int .i64 L.per, .slice L.A L.ms.length L.cap] 24)) (.cells #[.slice A N cap] 27); simpa using this)
  have HX2 := Lib.hid (show W.heap[w.heap.size + 1 + 1]? = some (.cells #[.slice none 0 0] 27 (0, 0)) by
    rw [hW]; have := heap_alloc_new ((w.alloc (.cells #[.int .i64 L.per, .slice L.A L.ms.length L.cap] 24)).alloc (.cells #[.slice A N cap] 27)) (.cells #[.slice none 0 0] 27); simpa using this)
  obtain ⟨iv, hiv, hzv, hsv, hbv⟩ := info_hid infoNd
  clear hl hn hE hN hR
  go_enter Tryz.func44, Tryz.ntmps44
  go_wp2_with fail
  rw [← hW]
  refine (HCK.out W HB.out).mono ?_; rintro e w1 ⟨rfl, hb⟩
  have HB1 := Lib.hid (below_more HB.out hb)
  have D1 := Lib.hid (blk_keep hb HX1.out)
  have D2 := Lib.hid (blk_keep hb HX2.out)
  have q0 := cell_of_blk D2.out 0
  have q1 := free_of_blk D2.out 0
  have hs2 := (Array.getElem?_eq_some_iff.1 D2.out).1
  have hs1 := (Array.getElem?_eq_some_iff.1 D1.out).1
  simp at q0
  clear hb hW HX1 HX2 HCK HB
  by_cases h0 : E = 0
  case neg =>
    have hbE : (E != 0) = true := by simpa using h0
    have HF := Lib.hid (show R = ([], E) by rw [HE.out, if_pos h0])
    clear h0 HE
    go_wp2
    refine bodyPost_ret (v := .tuple #[.agg #[.slice none 0 0], .int .i64 E]) (by simp [results, Tryz.results44, go_sem, q0]) rfl ?_
    rw [HF.out]
    exact ⟨none, 0, 0, rfl, Lib.hid rfl, Lib.hid (own_none _ _), HB1.out.setCell (by dsimp only; omega) _⟩
  subst h0
  obtain ⟨-, hk2, -, -, hk5, -⟩ := text_ok HEE.out
  have HDP := Lib.hid hk5
  have HF := Lib.hid (show R = (plainS ns, 0) by rw [HE.out, if_neg (by simp)])
  have hNs : N ≤ 200 := by have := HN.out; omega
  clear HE hk2 hk5 q0 q1
  obtain ⟨W2, hW2⟩ : ∃ W2, W2 = w1.alloc (.cells #[.slice none 0 0] 27) := ⟨_, rfl⟩
  have HB2 := Lib.hid (show Below w.heap.size w W2 from hW2 ▸ HB1.out.alloc HB1.out.size _)
  have HSZ := Lib.hid (show W2.heap.size = w1.heap.size + 1 by rw [hW2]; simp)
  have HR0 := Lib.hid (show OutRel (w1.heap.size + 1) (w.heap.size + 1) (w.heap.size + 1 + 1) w1.heap.size W2 A N cap (.slice none 0 0) 0 [] from by
    refine ⟨?_, ?_, ?_, World.ownsRow_nil _ _ _ _⟩
    · rw [hW2, heap_alloc_other _ _ _ hs1]; exact D1.out
    · rw [hW2, heap_alloc_other _ _ _ hs2]; exact D2.out
    · rw [hW2]; exact heap_alloc_new _ _)
  go_wp2_with fail
  rw [← hW2]
  clear hW2 D1 D2
  go_loopw [8, 9, 10] (fun fl i _ wr => ∃ (k c : Nat) (ins : Bool), k ≤ N ∧ i = .int .i64 k ∧ fl = .bool ins ∧ c ≤ k ∧ Hid (∃ v zs, (ins, zs) = (ns.take k).foldl plStep (false, []) ∧ c = zs.length ∧ OutRel (w1.heap.size + 1) (w.heap.size + 1) (w.heap.size + 1 + 1) w1.heap.size wr A N cap v c zs) ∧ Hid (Below w.heap.size w wr) ∧ Hid (w1.heap.size + 1 ≤ wr.heap.size)) (fun _ i _ _ => N - (intOf i).toNat)
  case atStart => exact ⟨0, 0, false, Nat.zero_le _, rfl, rfl, Nat.le_refl _, Lib.hid ⟨_, [], rfl, rfl, HR0.out⟩, HB2, Lib.hid (by have := HSZ.out; omega)⟩
  case round =>
    obtain ⟨k, c, ins, hk, rfl, rfl, hck, hr, hbw, hsw⟩ := hrel
    obtain ⟨v, zs, hst, hcz, hor⟩ := hr.out
    have HR := Lib.hid hor
    have HST := Lib.hid hst
    have HCZ := Lib.hid hcz
    have HBW := Lib.hid hbw.out
    have hsw := hsw.out
    clear hr hbw hst hcz hor
    have x0 := cell_of_blk HR.out.b0 0
    simp at x0
    have hb0 := (Array.getElem?_eq_some_iff.1 HR.out.b0).1
    have hb1 := (Array.getElem?_eq_some_iff.1 HR.out.b1).1
    have hb2 := (Array.getElem?_eq_some_iff.1 HR.out.b2).1
    by_cases hlt : k < N
    · obtain ⟨x, hx⟩ : ∃ x, ns[k]? = some x := ⟨_, List.getElem?_eq_getElem (by have := HN.out; omega)⟩
      obtain ⟨b, o, hA, hblt, hva⟩ := (HNS.out.below HBW.out) k x hx
      subst hA
      have hxd := HDP.out x (List.mem_of_getElem? hx)
      have HTK := Lib.hid (show (ns.take (k + 1)).foldl plStep (false, []) = plStep (ins, zs) x by
        obtain ⟨hk', e⟩ := List.getElem?_eq_some_iff.1 hx
        rw [List.take_succ_eq_append_getElem hk', e, List.foldl_append, ← HST.out]; rfl)
      obtain ⟨y0, y1, y2, y3, y4, y5, y6, y7⟩ := hva
      obtain ⟨xk, xd, xs, xt, xm, xst, xmn, xmx⟩ := x
      dsimp only at y0 y1 y2 y3 y4 y5 y6 y7 hxd
      have HNX := Lib.hid (show plStep (ins, zs) ⟨xk, xd, xs, xt, xm, xst, xmn, xmx⟩ = if xk == 7 && xd == 1 then (true, zs) else (if xd == 0 then false else ins, zs ++ [⟨if xk == 7 then 2 else xk, if (if xd == 0 then false else ins) then xd - 1 else xd, xs, xt, xm, xst, xmn, xmx⟩]) from rfl)
      clear hx
      obtain ⟨Av, cv, hv, -, -, -, -⟩ := own_slice HR.out.own
      subst hv
      have o0 := cell_of_blk HR.out.b2 0
      simp at o0
      have hwr : IntKind.i64.wrap (xd - 1) = xd - 1 := IntWalk.i64_in _ (by omega)
      by_cases hd0 : xd = 0
      · subst hd0
        by_cases hk7 : xk = 7
        · subst hk7
          have HN2 := Lib.hid (show (ns.take (k + 1)).foldl plStep (false, []) = (false, zs ++ [⟨2, 0, xs, xt, xm, xst, xmn, xmx⟩]) by rw [HTK.out, HNX.out]; simp [*])
          go_wp2_with (first
            | (at_builtin; refine wpList_append_src _ rfl (.tmp 52) (.tmp 54) 25 rfl (w1.heap.size + 1) 87 iv (.agg #[.int .i64 0, .int .i64 0, .int .i64 0, .int .i64 0, .bool false, .int .i64 0, .int .i64 0, .int .i64 0]) 8 64 Tryz.underlying25 hiv.out hzv.out hsv.out hbv.out rfl (by decide) (.slice Av c cv) c (zs.flatMap Nd.cells) rfl ?own1 (some ⟨wr.heap.size + 1, 0, none⟩) 1 1 (Nd.cells ⟨2, 0, xs, xt, xm, xst, xmn, xmx⟩) rfl ?l1 ?n1 ?c1 ?o1 ?m1 ?b1 ?s1 (c + 1) rfl ?_))
          case own1 => exact (HR.out.own.alloc _).alloc _
          case l1 => rfl
          case n1 => intro h; cases h
          case o1 => exact nd_one _
          case c1 =>
            intro ad had jj u' hj
            injection had with had
            subst had
            have := new_cells (wr.alloc (.cells #[.int .i64 2, .int .i64 0, .int .i64 xs, .int .i64 xt, .bool xm, .int .i64 xst, .int .i64 xmn, .int .i64 xmx] 87)) (Nd.cells ⟨2, 0, xs, xt, xm, xst, xmn, xmx⟩) 87 jj u' hj
            simpa [Nd.cells] using this
          case m1 => unfold maxLen; omega
          case b1 => omega
          case s1 => simp; omega
          intro A3 c3 w3 own3 hg3 _
          have HA := Lib.hid (show Below wr.heap.size wr ((wr.alloc (.cells #[.int .i64 2, .int .i64 0, .int .i64 xs, .int .i64 xt, .bool xm, .int .i64 xst, .int .i64 xmn, .int .i64 xmx] 87)).alloc (.cells #[.int .i64 2, .int .i64 0, .int .i64 xs, .int .i64 xt, .bool xm, .int .i64 xst, .int .i64 xmn, .int .i64 xmx] 87)) from two_under _ _ _)
          have HSP := Lib.hid (HR.out.step (xs := [⟨2, 0, xs, xt, xm, xst, xmn, xmx⟩]) (by omega) (by omega) (by omega) (by omega) (by omega) HA.out (by simpa using own3) hg3)
          have HBN := Lib.hid (HR.out.below HBW.out (by omega) (by omega) HA.out hg3 (.slice A3 (c + 1) c3))
          have k3 := HR.out.out2 (by omega) HA.out hg3
          have q0 := cell_of_blk k3 0
          have q1 := free_of_blk k3 0
          have q2 := (Array.getElem?_eq_some_iff.1 k3).1
          have q3 : wr.heap.size + 1 + 1 ≤ w3.heap.size := by have := hg3.size; simpa using this
          simp at q0
          clear own3 hg3 k3 HA
          go_wp2_with fail
          go_roundw
          case rel => exact ⟨k + 1, c + 1, false, by omega, by go_num, rfl, by omega, Lib.hid ⟨_, _, HN2.out.symm, by rw [List.length_append, ← HCZ.out]; rfl, HSP.out⟩, HBN, Lib.hid (by simp; omega)⟩
          case measure => simp [intOf]; omega
        · have hkb : (xk == 7) = false := by simpa using hk7
          have HN2 := Lib.hid (show (ns.take (k + 1)).foldl plStep (false, []) = (false, zs ++ [⟨xk, 0, xs, xt, xm, xst, xmn, xmx⟩]) by rw [HTK.out, HNX.out]; simp [*])
          go_wp2_with (first
            | (at_builtin; refine wpList_append_src _ rfl (.tmp 52) (.tmp 54) 25 rfl (w1.heap.size + 1) 87 iv (.agg #[.int .i64 0, .int .i64 0, .int .i64 0, .int .i64 0, .bool false, .int .i64 0, .int .i64 0, .int .i64 0]) 8 64 Tryz.underlying25 hiv.out hzv.out hsv.out hbv.out rfl (by decide) (.slice Av c cv) c (zs.flatMap Nd.cells) rfl ?own2 (some ⟨wr.heap.size + 1, 0, none⟩) 1 1 (Nd.cells ⟨xk, 0, xs, xt, xm, xst, xmn, xmx⟩) rfl ?l2 ?n2 ?c2 ?o2 ?m2 ?b2 ?s2 (c + 1) rfl ?_))
          case own2 => exact (HR.out.own.alloc _).alloc _
          case l2 => rfl
          case n2 => intro h; cases h
          case o2 => exact nd_one _
          case c2 =>
            intro ad had jj u' hj
            injection had with had
            subst had
            have := new_cells (wr.alloc (.cells #[.int .i64 xk, .int .i64 0, .int .i64 xs, .int .i64 xt, .bool xm, .int .i64 xst, .int .i64 xmn, .int .i64 xmx] 87)) (Nd.cells ⟨xk, 0, xs, xt, xm, xst, xmn, xmx⟩) 87 jj u' hj
            simpa [Nd.cells] using this
          case m2 => unfold maxLen; omega
          case b2 => omega
          case s2 => simp; omega
          intro A3 c3 w3 own3 hg3 _
          have HA := Lib.hid (show Below wr.heap.size wr ((wr.alloc (.cells #[.int .i64 xk, .int .i64 0, .int .i64 xs, .int .i64 xt, .bool xm, .int .i64 xst, .int .i64 xmn, .int .i64 xmx] 87)).alloc (.cells #[.int .i64 xk, .int .i64 0, .int .i64 xs, .int .i64 xt, .bool xm, .int .i64 xst, .int .i64 xmn, .int .i64 xmx] 87)) from two_under _ _ _)
          have HSP := Lib.hid (HR.out.step (xs := [⟨xk, 0, xs, xt, xm, xst, xmn, xmx⟩]) (by omega) (by omega) (by omega) (by omega) (by omega) HA.out (by simpa using own3) hg3)
          have HBN := Lib.hid (HR.out.below HBW.out (by omega) (by omega) HA.out hg3 (.slice A3 (c + 1) c3))
          have k3 := HR.out.out2 (by omega) HA.out hg3
          have q0 := cell_of_blk k3 0
          have q1 := free_of_blk k3 0
          have q2 := (Array.getElem?_eq_some_iff.1 k3).1
          have q3 : wr.heap.size + 1 + 1 ≤ w3.heap.size := by have := hg3.size; simpa using this
          simp at q0
          clear own3 hg3 k3 HA
          go_wp2_with fail
          go_roundw
          case rel => exact ⟨k + 1, c + 1, false, by omega, by go_num, rfl, by omega, Lib.hid ⟨_, _, HN2.out.symm, by rw [List.length_append, ← HCZ.out]; rfl, HSP.out⟩, HBN, Lib.hid (by simp; omega)⟩
          case measure => simp [intOf]; omega
      · have hdb : (xd == 0) = false := by simpa using hd0
        by_cases hk7 : xk = 7
        · subst hk7
          by_cases hd1 : xd = 1
          · subst hd1
            have HN2 := Lib.hid (show (ns.take (k + 1)).foldl plStep (false, []) = (true, zs) by rw [HTK.out, HNX.out]; simp)
            go_wp2_with fail
            go_roundw
            case rel => exact ⟨k + 1, c, true, by omega, by go_num, rfl, by omega, Lib.hid ⟨_, _, HN2.out.symm, HCZ.out, HR.out.later (below_alloc _ _)⟩, Lib.hid (HBW.out.alloc HBW.out.size _), Lib.hid (by simp; omega)⟩
            case measure => simp [intOf]; omega
          · have hd1b : (xd == 1) = false := by simpa using hd1
            cases ins with
            | false =>
              have HN2 := Lib.hid (show (ns.take (k + 1)).foldl plStep (false, []) = (false, zs ++ [⟨2, xd, xs, xt, xm, xst, xmn, xmx⟩]) by rw [HTK.out, HNX.out]; simp [*])
              go_wp2_with (first
                | (at_builtin; refine wpList_append_src _ rfl (.tmp 52) (.tmp 54) 25 rfl (w1.heap.size + 1) 87 iv (.agg #[.int .i64 0, .int .i64 0, .int .i64 0, .int .i64 0, .bool false, .int .i64 0, .int .i64 0, .int .i64 0]) 8 64 Tryz.underlying25 hiv.out hzv.out hsv.out hbv.out rfl (by decide) (.slice Av c cv) c (zs.flatMap Nd.cells) rfl ?own3 (some ⟨wr.heap.size + 1, 0, none⟩) 1 1 (Nd.cells ⟨2, xd, xs, xt, xm, xst, xmn, xmx⟩) rfl ?l3 ?n3 ?c3 ?o3 ?m3 ?b3 ?s3 (c + 1) rfl ?_))
              case own3 => exact (HR.out.own.alloc _).alloc _
              case l3 => rfl
              case n3 => intro h; cases h
              case o3 => exact nd_one _
              case c3 =>
                intro ad had jj u' hj
                injection had with had
                subst had
                have := new_cells (wr.alloc (.cells #[.int .i64 2, .int .i64 xd, .int .i64 xs, .int .i64 xt, .bool xm, .int .i64 xst, .int .i64 xmn, .int .i64 xmx] 87)) (Nd.cells ⟨2, xd, xs, xt, xm, xst, xmn, xmx⟩) 87 jj u' hj
                simpa [Nd.cells] using this
              case m3 => unfold maxLen; omega
              case b3 => omega
              case s3 => simp; omega
              intro A3 c3 w3 own3 hg3 _
              have HA := Lib.hid (show Below wr.heap.size wr ((wr.alloc (.cells #[.int .i64 2, .int .i64 xd, .int .i64 xs, .int .i64 xt, .bool xm, .int .i64 xst, .int .i64 xmn, .int .i64 xmx] 87)).alloc (.cells #[.int .i64 2, .int .i64 xd, .int .i64 xs, .int .i64 xt, .bool xm, .int .i64 xst, .int .i64 xmn, .int .i64 xmx] 87)) from two_under _ _ _)
              have HSP := Lib.hid (HR.out.step (xs := [⟨2, xd, xs, xt, xm, xst, xmn, xmx⟩]) (by omega) (by omega) (by omega) (by omega) (by omega) HA.out (by simpa using own3) hg3)
              have HBN := Lib.hid (HR.out.below HBW.out (by omega) (by omega) HA.out hg3 (.slice A3 (c + 1) c3))
              have k3 := HR.out.out2 (by omega) HA.out hg3
              have q0 := cell_of_blk k3 0
              have q1 := free_of_blk k3 0
              have q2 := (Array.getElem?_eq_some_iff.1 k3).1
              have q3 : wr.heap.size + 1 + 1 ≤ w3.heap.size := by have := hg3.size; simpa using this
              simp at q0
              clear own3 hg3 k3 HA
              go_wp2_with fail
              go_roundw
              case rel => exact ⟨k + 1, c + 1, false, by omega, by go_num, rfl, by omega, Lib.hid ⟨_, _, HN2.out.symm, by rw [List.length_append, ← HCZ.out]; rfl, HSP.out⟩, HBN, Lib.hid (by simp; omega)⟩
              case measure => simp [intOf]; omega
            | true =>
              have HN2 := Lib.hid (show (ns.take (k + 1)).foldl plStep (false, []) = (true, zs ++ [⟨2, (xd - 1), xs, xt, xm, xst, xmn, xmx⟩]) by rw [HTK.out, HNX.out]; simp [*])
              go_wp2_with (first
                | (at_builtin; refine wpList_append_src _ rfl (.tmp 52) (.tmp 54) 25 rfl (w1.heap.size + 1) 87 iv (.agg #[.int .i64 0, .int .i64 0, .int .i64 0, .int .i64 0, .bool false, .int .i64 0, .int .i64 0, .int .i64 0]) 8 64 Tryz.underlying25 hiv.out hzv.out hsv.out hbv.out rfl (by decide) (.slice Av c cv) c (zs.flatMap Nd.cells) rfl ?own4 (some ⟨wr.heap.size + 1, 0, none⟩) 1 1 (Nd.cells ⟨2, (xd - 1), xs, xt, xm, xst, xmn, xmx⟩) rfl ?l4 ?n4 ?c4 ?o4 ?m4 ?b4 ?s4 (c + 1) rfl ?_))
              case own4 => exact (HR.out.own.alloc _).alloc _
              case l4 => rfl
              case n4 => intro h; cases h
              case o4 => exact nd_one _
              case c4 =>
                intro ad had jj u' hj
                injection had with had
                subst had
                have := new_cells (wr.alloc (.cells #[.int .i64 2, .int .i64 (xd - 1), .int .i64 xs, .int .i64 xt, .bool xm, .int .i64 xst, .int .i64 xmn, .int .i64 xmx] 87)) (Nd.cells ⟨2, (xd - 1), xs, xt, xm, xst, xmn, xmx⟩) 87 jj u' hj
                simpa [Nd.cells] using this
              case m4 => unfold maxLen; omega
              case b4 => omega
              case s4 => simp; omega
              intro A3 c3 w3 own3 hg3 _
              have HA := Lib.hid (show Below wr.heap.size wr ((wr.alloc (.cells #[.int .i64 2, .int .i64 (xd - 1), .int .i64 xs, .int .i64 xt, .bool xm, .int .i64 xst, .int .i64 xmn, .int .i64 xmx] 87)).alloc (.cells #[.int .i64 2, .int .i64 (xd - 1), .int .i64 xs, .int .i64 xt, .bool xm, .int .i64 xst, .int .i64 xmn, .int .i64 xmx] 87)) from two_under _ _ _)
              have HSP := Lib.hid (HR.out.step (xs := [⟨2, (xd - 1), xs, xt, xm, xst, xmn, xmx⟩]) (by omega) (by omega) (by omega) (by omega) (by omega) HA.out (by simpa using own3) hg3)
              have HBN := Lib.hid (HR.out.below HBW.out (by omega) (by omega) HA.out hg3 (.slice A3 (c + 1) c3))
              have k3 := HR.out.out2 (by omega) HA.out hg3
              have q0 := cell_of_blk k3 0
              have q1 := free_of_blk k3 0
              have q2 := (Array.getElem?_eq_some_iff.1 k3).1
              have q3 : wr.heap.size + 1 + 1 ≤ w3.heap.size := by have := hg3.size; simpa using this
              simp at q0
              clear own3 hg3 k3 HA
              go_wp2_with fail
              go_roundw
              case rel => exact ⟨k + 1, c + 1, true, by omega, by go_num, rfl, by omega, Lib.hid ⟨_, _, HN2.out.symm, by rw [List.length_append, ← HCZ.out]; rfl, HSP.out⟩, HBN, Lib.hid (by simp; omega)⟩
              case measure => simp [intOf]; omega
        · have hkb : (xk == 7) = false := by simpa using hk7
          cases ins with
          | false =>
            have HN2 := Lib.hid (show (ns.take (k + 1)).foldl plStep (false, []) = (false, zs ++ [⟨xk, xd, xs, xt, xm, xst, xmn, xmx⟩]) by rw [HTK.out, HNX.out]; simp [*])
            go_wp2_with (first
              | (at_builtin; refine wpList_append_src _ rfl (.tmp 52) (.tmp 54) 25 rfl (w1.heap.size + 1) 87 iv (.agg #[.int .i64 0, .int .i64 0, .int .i64 0, .int .i64 0, .bool false, .int .i64 0, .int .i64 0, .int .i64 0]) 8 64 Tryz.underlying25 hiv.out hzv.out hsv.out hbv.out rfl (by decide) (.slice Av c cv) c (zs.flatMap Nd.cells) rfl ?own5 (some ⟨wr.heap.size + 1, 0, none⟩) 1 1 (Nd.cells ⟨xk, xd, xs, xt, xm, xst, xmn, xmx⟩) rfl ?l5 ?n5 ?c5 ?o5 ?m5 ?b5 ?s5 (c + 1) rfl ?_))
            case own5 => exact (HR.out.own.alloc _).alloc _
            case l5 => rfl
            case n5 => intro h; cases h
            case o5 => exact nd_one _
            case c5 =>
              intro ad had jj u' hj
              injection had with had
              subst had
              have := new_cells (wr.alloc (.cells #[.int .i64 xk, .int .i64 xd, .int .i64 xs, .int .i64 xt, .bool xm, .int .i64 xst, .int .i64 xmn, .int .i64 xmx] 87)) (Nd.cells ⟨xk, xd, xs, xt, xm, xst, xmn, xmx⟩) 87 jj u' hj
              simpa [Nd.cells] using this
            case m5 => unfold maxLen; omega
            case b5 => omega
            case s5 => simp; omega
            intro A3 c3 w3 own3 hg3 _
            have HA := Lib.hid (show Below wr.heap.size wr ((wr.alloc (.cells #[.int .i64 xk, .int .i64 xd, .int .i64 xs, .int .i64 xt, .bool xm, .int .i64 xst, .int .i64 xmn, .int .i64 xmx] 87)).alloc (.cells #[.int .i64 xk, .int .i64 xd, .int .i64 xs, .int .i64 xt, .bool xm, .int .i64 xst, .int .i64 xmn, .int .i64 xmx] 87)) from two_under _ _ _)
            have HSP := Lib.hid (HR.out.step (xs := [⟨xk, xd, xs, xt, xm, xst, xmn, xmx⟩]) (by omega) (by omega) (by omega) (by omega) (by omega) HA.out (by simpa using own3) hg3)
            have HBN := Lib.hid (HR.out.below HBW.out (by omega) (by omega) HA.out hg3 (.slice A3 (c + 1) c3))
            have k3 := HR.out.out2 (by omega) HA.out hg3
            have q0 := cell_of_blk k3 0
            have q1 := free_of_blk k3 0
            have q2 := (Array.getElem?_eq_some_iff.1 k3).1
            have q3 : wr.heap.size + 1 + 1 ≤ w3.heap.size := by have := hg3.size; simpa using this
            simp at q0
            clear own3 hg3 k3 HA
            go_wp2_with fail
            go_roundw
            case rel => exact ⟨k + 1, c + 1, false, by omega, by go_num, rfl, by omega, Lib.hid ⟨_, _, HN2.out.symm, by rw [List.length_append, ← HCZ.out]; rfl, HSP.out⟩, HBN, Lib.hid (by simp; omega)⟩
            case measure => simp [intOf]; omega
          | true =>
            have HN2 := Lib.hid (show (ns.take (k + 1)).foldl plStep (false, []) = (true, zs ++ [⟨xk, (xd - 1), xs, xt, xm, xst, xmn, xmx⟩]) by rw [HTK.out, HNX.out]; simp [*])
            go_wp2_with (first
              | (at_builtin; refine wpList_append_src _ rfl (.tmp 52) (.tmp 54) 25 rfl (w1.heap.size + 1) 87 iv (.agg #[.int .i64 0, .int .i64 0, .int .i64 0, .int .i64 0, .bool false, .int .i64 0, .int .i64 0, .int .i64 0]) 8 64 Tryz.underlying25 hiv.out hzv.out hsv.out hbv.out rfl (by decide) (.slice Av c cv) c (zs.flatMap Nd.cells) rfl ?own6 (some ⟨wr.heap.size + 1, 0, none⟩) 1 1 (Nd.cells ⟨xk, (xd - 1), xs, xt, xm, xst, xmn, xmx⟩) rfl ?l6 ?n6 ?c6 ?o6 ?m6 ?b6 ?s6 (c + 1) rfl ?_))
            case own6 => exact (HR.out.own.alloc _).alloc _
            case l6 => rfl
            case n6 => intro h; cases h
            case o6 => exact nd_one _
            case c6 =>
              intro ad had jj u' hj
              injection had with had
              subst had
              have := new_cells (wr.alloc (.cells #[.int .i64 xk, .int .i64 (xd - 1), .int .i64 xs, .int .i64 xt, .bool xm, .int .i64 xst, .int .i64 xmn, .int .i64 xmx] 87)) (Nd.cells ⟨xk, (xd - 1), xs, xt, xm, xst, xmn, xmx⟩) 87 jj u' hj
              simpa [Nd.cells] using this
            case m6 => unfold maxLen; omega
            case b6 => omega
            case s6 => simp; omega
            intro A3 c3 w3 own3 hg3 _
            have HA := Lib.hid (show Below wr.heap.size wr ((wr.alloc (.cells #[.int .i64 xk, .int .i64 (xd - 1), .int .i64 xs, .int .i64 xt, .bool xm, .int .i64 xst, .int .i64 xmn, .int .i64 xmx] 87)).alloc (.cells #[.int .i64 xk, .int .i64 (xd - 1), .int .i64 xs, .int .i64 xt, .bool xm, .int .i64 xst, .int .i64 xmn, .int .i64 xmx] 87)) from two_under _ _ _)
            have HSP := Lib.hid (HR.out.step (xs := [⟨xk, (xd - 1), xs, xt, xm, xst, xmn, xmx⟩]) (by omega) (by omega) (by omega) (by omega) (by omega) HA.out (by simpa using own3) hg3)
            have HBN := Lib.hid (HR.out.below HBW.out (by omega) (by omega) HA.out hg3 (.slice A3 (c + 1) c3))
            have k3 := HR.out.out2 (by omega) HA.out hg3
            have q0 := cell_of_blk k3 0
            have q1 := free_of_blk k3 0
            have q2 := (Array.getElem?_eq_some_iff.1 k3).1
            have q3 : wr.heap.size + 1 + 1 ≤ w3.heap.size := by have := hg3.size; simpa using this
            simp at q0
            clear own3 hg3 k3 HA
            go_wp2_with fail
            go_roundw
            case rel => exact ⟨k + 1, c + 1, true, by omega, by go_num, rfl, by omega, Lib.hid ⟨_, _, HN2.out.symm, by rw [List.length_append, ← HCZ.out]; rfl, HSP.out⟩, HBN, Lib.hid (by simp; omega)⟩
            case measure => simp [intOf]; omega
    · obtain rfl : k = N := by omega
      obtain ⟨Av, cv, hv, -, -, -, -⟩ := own_slice HR.out.own
      subst hv
      have HT := Lib.hid (show zs = plainS ns by unfold plainS; have := HST.out; rw [HN.out, List.take_length] at this; rw [← this])
      have o0 := cell_of_blk HR.out.b2 0
      have q0 := cell_of_blk HR.out.b1 0
      have q1 := free_of_blk HR.out.b1 0
      simp at o0 q0
      have HO := Lib.hid (show (wr.setCell ⟨w.heap.size + 1 + 1, 0, none⟩ (.slice Av c cv)).ownsRow w.heap.size 87 8 (.slice Av c cv) c (zs.flatMap Nd.cells) from
        own_base (ownsRow_of_block HR.out.own (fun g hg => heap_setCell_other _ _ _ _ (by have := (HR.out.own.lt g hg).1; dsimp only; omega))) (by omega))
      have HBB := Lib.hid (show Below w.heap.size w (wr.setCell ⟨w.heap.size + 1 + 1, 0, none⟩ (.slice Av c cv)) from HBW.out.setCell (by dsimp only; omega) _)
      go_wp2
      refine bodyPost_ret (v := .tuple #[.agg #[.slice Av c cv], .int .i64 0]) (by simp [results, Tryz.results44, go_sem, q0]) rfl ?_
      rw [HF.out]
      exact ⟨Av, c, cv, rfl, Lib.hid (by rw [← HT.out]; exact HCZ.out), Lib.hid (by rw [← HT.out]; exact HO.out), HBB.out⟩
theorem rplain_any2 (L : Lm) (A : Option Addr) (cap : Nat) (ns : List Nd) (w : World) (hl : LmOk w L) (hn : NdsAt w A ns) (hc1 : ns.length ≤ cap) (hc : cap ≤ maxLen) :
    Calls Tryz.prog 44 #[.agg #[.int .i64 L.per, .slice L.A L.ms.length L.cap], .agg #[.slice A ns.length cap]] w (GotTextO w (regQ plainP L.li ns).1 (regQ plainP L.li ns).2) := by
  rw [← rplain_is]; exact rplain_any L A cap ns w hl hn hc1 hc
open Go.RowKit
set_option maxRecDepth 100000 in
set_option maxHeartbeats 8000000 in
theorem shapeCol_any (L : Lm) (cw mw : Bool) (a1 a2 b1 b2 pw qw : Nat) (sp : Int) (ks : List Shp) (hS : ShapesOk L cw mw a1 a2 b1 b2 pw qw ks) : ShapeOk L cw mw a1 a2 b1 b2 pw qw (.col sp ks) := by
  intro u bl w A c hof hl hn hc1 hc
  obtain ⟨hk, hd, hsp, hks⟩ := hof
  have HS := Lib.hid (fun wx (hb : Below w.heap.size w wx) => hS bl wx A c hks (hl.below hb) (hn.below hb) hc1 hc)
  obtain ⟨uk, ud, us, ut, um, ust, umn, umx⟩ := u
  dsimp only at hk hd hsp
  subst hk
  have HD := Lib.hid (fun wx => spaceOf_any ud wx hd)
  rw [← hsp] at HD
  unfold Nd.val
  dsimp only
  obtain ⟨m, hm⟩ : ∃ m, m = bl.length := ⟨_, rfl⟩
  rw [← hm] at HS ⊢
  clear hS hl hn hc1 hc hks hd hsp hm
  obtain ⟨W1, hW1⟩ : ∃ W1, W1 = w.alloc (.cells #[.int .i64 L.per, .slice L.A L.ms.length L.cap, .bool cw, .bool mw, .func (.func a1) #[] #[], .func (.func a2) #[] #[], .func (.func 172) #[] #[.pointer (some ⟨pw, 0, none⟩)], .func (.func b1) #[] #[], .func (.func b2) #[] #[], .func (.func 172) #[] #[.pointer (some ⟨qw, 0, none⟩)]] 104) := ⟨_, rfl⟩
  obtain ⟨W, hW⟩ : ∃ W, W = W1.alloc (.cells #[.int .i64 3, .int .i64 ud, .int .i64 us, .int .i64 ut, .bool um, .int .i64 ust, .int .i64 umn, .int .i64 umx] 87) := ⟨_, rfl⟩
  have s1 : W1.heap.size = w.heap.size + 1 := by rw [hW1]; simp
  have hb1 : Below w.heap.size w W1 := hW1 ▸ below_alloc _ _
  have hb2 : Below W1.heap.size W1 W := hW ▸ below_alloc _ _
  have HB := Lib.hid (below_more hb1 hb2)
  have D0 := Lib.hid (blk_keep hb2 (show W1.heap[w.heap.size]? = some (.cells #[.int .i64 L.per, .slice L.A L.ms.length L.cap, .bool cw, .bool mw, .func (.func a1) #[] #[], .func (.func a2) #[] #[], .func (.func 172) #[] #[.pointer (some ⟨pw, 0, none⟩)], .func (.func b1) #[] #[], .func (.func b2) #[] #[], .func (.func 172) #[] #[.pointer (some ⟨qw, 0, none⟩)]] 104 (0, 0)) by rw [hW1]; exact heap_alloc_new _ _))
  have D1 := Lib.hid (show W.heap[w.heap.size + 1]? = some (.cells #[.int .i64 3, .int .i64 ud, .int .i64 us, .int .i64 ut, .bool um, .int .i64 ust, .int .i64 umn, .int .i64 umx] 87 (0, 0)) by rw [hW, ← s1]; exact heap_alloc_new _ _)
  have q0 := cell_of_blk D0.out 0
  have q1 := cell_of_blk D0.out 1
  have q2 := cell_of_blk D0.out 2
  have q3 := cell_of_blk D0.out 3
  have q4 := cell_of_blk D0.out 4
  have q5 := cell_of_blk D0.out 5
  have q6 := cell_of_blk D0.out 6
  have q7 := cell_of_blk D0.out 7
  have q8 := cell_of_blk D0.out 8
  have q9 := cell_of_blk D0.out 9
  have y0 := cell_of_blk D1.out 0
  have y1 := cell_of_blk D1.out 1
  have hq := (Array.getElem?_eq_some_iff.1 D0.out).1
  have hy := (Array.getElem?_eq_some_iff.1 D1.out).1
  simp at q0 q1 q2 q3 q4 q5 q6 q7 q8 q9 y0 y1
  clear s1 hb1 hb2
  go_enter Tryz.func94, Tryz.ntmps94
  go_wp2_with fail
  rw [← hW1, ← hW]
  clear hW1 hW
  refine wp_region_later_tail 5 (by kernel_rfl) (by kernel_rfl) ?_; simp only [List.take_succ_cons, List.take_zero, List.drop_succ_cons, List.drop_zero]; (repeat (first | go_big_quiet_step ((first | ((go_at_call 141; exact Calls.later_same _ (HD.out _))))) | quiet_step ((first | ((go_at_call 141; exact Calls.later_same _ (HD.out _))))))); refine wpQuiet_nil ?_; rintro _ ⟨s, rfl⟩
  have HBS := Lib.hid (below_more HB.out s.below)
  clear q0 q1 q2 q3 q4 q5 q6 q7 q8 q9 y0 y1 hq hy
  go_wp2_with fail
  refine (HS.out _ HBS.out).mono ?_; rintro e w3 ⟨A3, c3, rfl, h1, h2, h3, hb3⟩
  have HB3 := Lib.hid (below_more HBS.out hb3)
  have H3 := Lib.hid (ShPs.keep (Q := FreshB w w3) (w' := w3) (fun _ _ _ => rfl) (fun b hp => ⟨Nat.le_trans HBS.out.size hp.1, hp.2⟩) A3 0 ks h3)
  clear hb3 h3
  go_wp2_with fail
  go_ret
  exact ⟨_, rfl, ⟨A3, c3, rfl, h1, h2, H3.out⟩, HB3.out⟩
open Go.RowKit
theorem GlyOf.call {L : Lm} {n : Nd} {a b : Int} (h : GlyOf L n a b) (cw mw : Bool) (a1 a2 b1 b2 pw qw : Nat) {w : World} (hl : LmOk w L) : Calls Tryz.prog 140 #[.agg #[.int .i64 L.per, .slice L.A L.ms.length L.cap, .bool cw, .bool mw, .func (.func a1) #[] #[], .func (.func a2) #[] #[], .func (.func 172) #[] #[.pointer (some ⟨pw, 0, none⟩)], .func (.func b1) #[] #[], .func (.func b2) #[] #[], .func (.func 172) #[] #[.pointer (some ⟨qw, 0, none⟩)]], n.val] w
    fun e w' => e = .returned (.agg #[.int .i64 n.kind, .int .i64 n.depth, .int .i64 n.sign, .int .i64 n.turn, .bool n.mirror, .int .i64 n.state, .int .i64 n.min, .int .i64 n.max, .int .i64 a, .int .i64 b]) ∧ Below w.heap.size w w' := by
  obtain ⟨_, ht, k, sg, hs, hk, hz⟩ := h
  exact bglyph_any L cw mw a1 a2 b1 b2 pw qw n k sg w hl hs hk ht a b hz
set_option maxRecDepth 100000 in
set_option maxHeartbeats 8000000 in
theorem shapeOvl_any (L : Lm) (cw mw : Bool) (a1 a2 b1 b2 pw qw : Nat) (n1 : Nd) (a b : Int) (n2 : Nd) (c d : Int) : ShapeOk L cw mw a1 a2 b1 b2 pw qw (.ovl n1 a b n2 c d) := by
  intro u bl w A cp hof hl hn hc1 hc
  obtain ⟨hk, rfl, g1, g2⟩ := hof
  have HG1 := Lib.hid (fun wx (hb : Below w.heap.size w wx) => g1.call cw mw a1 a2 b1 b2 pw qw (hl.below hb))
  have HG2 := Lib.hid (fun wx (hb : Below w.heap.size w wx) => g2.call cw mw a1 a2 b1 b2 pw qw (hl.below hb))
  obtain ⟨bb, o, hA, hlt, v1⟩ := hn 0 n1 rfl
  obtain ⟨b', o', hA', hlt', v2⟩ := hn 1 n2 rfl
  subst hA
  injection hA' with hA'; injection hA' with e1 e2
  subst e1 e2
  rw [Nat.zero_mul, Nat.add_zero] at v1
  rw [Nat.one_mul] at v2
  have V1 := Lib.hid v1
  have V2 := Lib.hid v2
  obtain ⟨uk, ud, us, ut, um, ust, umn, umx⟩ := u
  dsimp only at hk
  subst hk
  have hcp : 2 ≤ cp := hc1
  unfold maxLen at hc
  obtain ⟨k1, d1, s1, t1, m1, st1, mn1, mx1⟩ := n1
  obtain ⟨k2, d2, s2, t2, m2, st2, mn2, mx2⟩ := n2
  unfold Nd.val at HG1 HG2 ⊢
  dsimp only at HG1 HG2 V1 V2 ⊢
  clear hl hn hc1 g1 g2 v1 v2 hlt'
  show Calls Tryz.prog 94 #[_, _, .slice (some ⟨bb, o, none⟩) 2 cp] w _
  obtain ⟨W1, hW1⟩ : ∃ W', W' = w.alloc (.cells #[.int .i64 L.per, .slice L.A L.ms.length L.cap, .bool cw, .bool mw, .func (.func a1) #[] #[], .func (.func a2) #[] #[], .func (.func 172) #[] #[.pointer (some ⟨pw, 0, none⟩)], .func (.func b1) #[] #[], .func (.func b2) #[] #[], .func (.func 172) #[] #[.pointer (some ⟨qw, 0, none⟩)]] 104) := ⟨_, rfl⟩; obtain ⟨W, hW⟩ : ∃ W', W' = W1.alloc (.cells #[.int .i64 4, .int .i64 ud, .int .i64 us, .int .i64 ut, .bool um, .int .i64 ust, .int .i64 umn, .int .i64 umx] 87) := ⟨_, rfl⟩; have szW1 : W1.heap.size = w.heap.size + 1 := (by rw [hW1]; simp); have kbW1 : Below w.heap.size w W1 := hW1 ▸ below_alloc _ _; have szW : W.heap.size = w.heap.size + 1 + 1 := (by rw [hW]; simp [szW1]); have kbW : Below W1.heap.size W1 W := hW ▸ below_alloc _ _; have HB := Lib.hid (below_more kbW1 kbW); have D0 := Lib.hid (blk_keep kbW (show W1.heap[w.heap.size]? = some (.cells #[.int .i64 L.per, .slice L.A L.ms.length L.cap, .bool cw, .bool mw, .func (.func a1) #[] #[], .func (.func a2) #[] #[], .func (.func 172) #[] #[.pointer (some ⟨pw, 0, none⟩)], .func (.func b1) #[] #[], .func (.func b2) #[] #[], .func (.func 172) #[] #[.pointer (some ⟨qw, 0, none⟩)]] 104 (0, 0)) by rw [hW1]; exact heap_alloc_new _ _)); have D1 := Lib.hid (show W.heap[w.heap.size + 1]? = some (.cells #[.int .i64 4, .int .i64 ud, .int .i64 us, .int .i64 ut, .bool um, .int .i64 ust, .int .i64 umn, .int .i64 umx] 87 (0, 0)) by rw [hW, ← szW1]; exact heap_alloc_new _ _); have SZW := Lib.hid szW; clear szW1 kbW1 szW kbW
  have q0 := cell_of_blk D0.out 0; have q1 := cell_of_blk D0.out 1; have q2 := cell_of_blk D0.out 2; have q3 := cell_of_blk D0.out 3; have q4 := cell_of_blk D0.out 4; have q5 := cell_of_blk D0.out 5; have q6 := cell_of_blk D0.out 6; have q7 := cell_of_blk D0.out 7; have q8 := cell_of_blk D0.out 8; have q9 := cell_of_blk D0.out 9; have hz_q := (Array.getElem?_eq_some_iff.1 D0.out).1; simp at q0 q1 q2 q3 q4 q5 q6 q7 q8 q9
  have y0 := cell_of_blk D1.out 0; have hz_y := (Array.getElem?_eq_some_iff.1 D1.out).1; simp at y0
  have x1 := V1.out.below HB.out hlt
  have x2 := V2.out.below HB.out hlt
  have z0 := x1.c0
  have z1 := x1.c1
  have z2 := x1.c2
  have z3 := x1.c3
  have z4 := x1.c4
  have z5 := x1.c5
  have z6 := x1.c6
  have z7 := x1.c7
  have t0 := x2.c0
  have t1' := x2.c1
  have t2' := x2.c2
  have t3 := x2.c3
  have t4 := x2.c4
  have t5 := x2.c5
  have t6 := x2.c6
  have t7 := x2.c7
  have hbW : bb < W.heap.size := by have := HB.out.size; omega
  dsimp only at z0 z1 z2 z3 z4 z5 z6 z7 t0 t1' t2' t3 t4 t5 t6 t7
  clear x1 x2
  go_enter Tryz.func94, Tryz.ntmps94
  go_wp2_with fail
  rw [← hW1, ← hW]; clear hW1 hW
  go_wp2_with fail
  refine wp_region_later (by kernel_rfl) (by kernel_rfl) ?_; (repeat (first | go_big_quiet_step ((first | (go_at_call 140; with_reducible exact Calls.later _ (HG1.out _ (below_more HB.out (Later.below _)))) | (go_at_call 140; with_reducible exact Calls.later _ (HG2.out _ (below_more HB.out (Later.below _)))))) | quiet_step ((first | (go_at_call 140; with_reducible exact Calls.later _ (HG1.out _ (below_more HB.out (Later.below _)))) | (go_at_call 140; with_reducible exact Calls.later _ (HG2.out _ (below_more HB.out (Later.below _)))))))); refine wpQuiet_nil ?_; rintro _ ⟨s, rfl⟩
  have HBS := Lib.hid (below_more HB.out s.below)
  go_wp2_with fail
  go_ret
  exact ⟨_, rfl, rfl, HBS.out⟩
set_option maxRecDepth 100000 in
set_option maxHeartbeats 8000000 in
theorem shapeRngR_any (L : Lm) (mw : Bool) (a1 a2 b1 b2 pw qw : Nat) (n : Nd) (sp : Int) (ks : List Shp) (hS : ShapesOk L false mw a1 a2 b1 b2 pw qw ks) : ShapeOk L false mw a1 a2 b1 b2 pw qw (.rng n (.row sp ks)) := by
  intro u bl w A c hof hl hn hc1 hc
  obtain ⟨rfl, hk, -, hsp, hks⟩ := hof
  have HS := Lib.hid (fun wx (hb : Below w.heap.size w wx) => hS bl wx A c hks (hl.below hb) (hn.below hb) hc1 hc)
  obtain ⟨uk, ud, us, ut, um, ust, umn, umx⟩ := n
  dsimp only at hk
  subst hk hsp
  unfold Nd.val
  dsimp only
  obtain ⟨m, hm⟩ : ∃ m, m = bl.length := ⟨_, rfl⟩
  rw [← hm] at HS ⊢
  clear hS hl hn hc1 hc hks hm
  obtain ⟨cw, hcw⟩ : ∃ c, c = false := ⟨_, rfl⟩
  rw [← hcw] at HS ⊢
  have HCW := Lib.hid hcw
  clear hcw
  obtain ⟨W1, hW1⟩ : ∃ W', W' = w.alloc (.cells #[.int .i64 L.per, .slice L.A L.ms.length L.cap, .bool cw, .bool mw, .func (.func a1) #[] #[], .func (.func a2) #[] #[], .func (.func 172) #[] #[.pointer (some ⟨pw, 0, none⟩)], .func (.func b1) #[] #[], .func (.func b2) #[] #[], .func (.func 172) #[] #[.pointer (some ⟨qw, 0, none⟩)]] 104) := ⟨_, rfl⟩; obtain ⟨W, hW⟩ : ∃ W', W' = W1.alloc (.cells #[.int .i64 5, .int .i64 ud, .int .i64 us, .int .i64 ut, .bool um, .int .i64 ust, .int .i64 umn, .int .i64 umx] 87) := ⟨_, rfl⟩; have szW1 : W1.heap.size = w.heap.size + 1 := (by rw [hW1]; simp); have kbW1 : Below w.heap.size w W1 := hW1 ▸ below_alloc _ _; have szW : W.heap.size = w.heap.size + 1 + 1 := (by rw [hW]; simp [szW1]); have kbW : Below W1.heap.size W1 W := hW ▸ below_alloc _ _; have HB := Lib.hid (below_more kbW1 kbW); have D0 := Lib.hid (blk_keep kbW (show W1.heap[w.heap.size]? = some (.cells #[.int .i64 L.per, .slice L.A L.ms.length L.cap, .bool cw, .bool mw, .func (.func a1) #[] #[], .func (.func a2) #[] #[], .func (.func 172) #[] #[.pointer (some ⟨pw, 0, none⟩)], .func (.func b1) #[] #[], .func (.func b2) #[] #[], .func (.func 172) #[] #[.pointer (some ⟨qw, 0, none⟩)]] 104 (0, 0)) by rw [hW1]; exact heap_alloc_new _ _)); have D1 := Lib.hid (show W.heap[w.heap.size + 1]? = some (.cells #[.int .i64 5, .int .i64 ud, .int .i64 us, .int .i64 ut, .bool um, .int .i64 ust, .int .i64 umn, .int .i64 umx] 87 (0, 0)) by rw [hW, ← szW1]; exact heap_alloc_new _ _); have SZW := Lib.hid szW; clear szW1 kbW1 szW kbW
  have HKS := Lib.hid (fun wx (hb : Below W.heap.size W wx) => show (wx.cell? ⟨w.heap.size, 0, none⟩ = some (.int .i64 L.per) ∧ wx.cell? ⟨w.heap.size, 1, none⟩ = some (.slice L.A L.ms.length L.cap) ∧ wx.cell? ⟨w.heap.size, 2, none⟩ = some (.bool cw) ∧ wx.cell? ⟨w.heap.size, 3, none⟩ = some (.bool mw) ∧ wx.cell? ⟨w.heap.size, 4, none⟩ = some (.func (.func a1) #[] #[]) ∧ wx.cell? ⟨w.heap.size, 5, none⟩ = some (.func (.func a2) #[] #[]) ∧ wx.cell? ⟨w.heap.size, 6, none⟩ = some (.func (.func 172) #[] #[.pointer (some ⟨pw, 0, none⟩)]) ∧ wx.cell? ⟨w.heap.size, 7, none⟩ = some (.func (.func b1) #[] #[]) ∧ wx.cell? ⟨w.heap.size, 8, none⟩ = some (.func (.func b2) #[] #[]) ∧ wx.cell? ⟨w.heap.size, 9, none⟩ = some (.func (.func 172) #[] #[.pointer (some ⟨qw, 0, none⟩)])) ∧
    (wx.cell? ⟨w.heap.size + 1, 0, none⟩ = some (.int .i64 5) ∧ wx.cell? ⟨w.heap.size + 1, 1, none⟩ = some (.int .i64 ud) ∧ wx.cell? ⟨w.heap.size + 1, 2, none⟩ = some (.int .i64 us) ∧ wx.cell? ⟨w.heap.size + 1, 3, none⟩ = some (.int .i64 ut) ∧ wx.cell? ⟨w.heap.size + 1, 4, none⟩ = some (.bool um) ∧ wx.cell? ⟨w.heap.size + 1, 5, none⟩ = some (.int .i64 ust) ∧ wx.cell? ⟨w.heap.size + 1, 6, none⟩ = some (.int .i64 umn) ∧ wx.cell? ⟨w.heap.size + 1, 7, none⟩ = some (.int .i64 umx)) from
    have d := blk_keep hb D0.out
    have e := blk_keep hb D1.out
    ⟨⟨cell_of_blk d 0, cell_of_blk d 1, cell_of_blk d 2, cell_of_blk d 3, cell_of_blk d 4, cell_of_blk d 5, cell_of_blk d 6, cell_of_blk d 7, cell_of_blk d 8, cell_of_blk d 9⟩, cell_of_blk e 0, cell_of_blk e 1, cell_of_blk e 2, cell_of_blk e 3, cell_of_blk e 4, cell_of_blk e 5, cell_of_blk e 6, cell_of_blk e 7⟩)
  have HDR := Lib.hid (show Below W.heap.size W W.drew from (Below.refl _ _).drew)
  have q2 := cell_of_blk D0.out 2; have hz_q := (Array.getElem?_eq_some_iff.1 D0.out).1; simp at q2
  have y0 := cell_of_blk D1.out 0; have hz_y := (Array.getElem?_eq_some_iff.1 D1.out).1; simp at y0
  have hcw := HCW.out
  subst hcw
  go_enter Tryz.func94, Tryz.ntmps94
  go_wp2_with fail
  rw [← hW1, ← hW]; clear hW1 hW
  go_wp2_with fail
  go_region_held3 (fun wx => (wx.cell? ⟨w.heap.size, 0, none⟩ = some (.int .i64 L.per) ∧ wx.cell? ⟨w.heap.size, 1, none⟩ = some (.slice L.A L.ms.length L.cap) ∧ wx.cell? ⟨w.heap.size, 2, none⟩ = some (.bool false) ∧ wx.cell? ⟨w.heap.size, 3, none⟩ = some (.bool mw) ∧ wx.cell? ⟨w.heap.size, 4, none⟩ = some (.func (.func a1) #[] #[]) ∧ wx.cell? ⟨w.heap.size, 5, none⟩ = some (.func (.func a2) #[] #[]) ∧ wx.cell? ⟨w.heap.size, 6, none⟩ = some (.func (.func 172) #[] #[.pointer (some ⟨pw, 0, none⟩)]) ∧ wx.cell? ⟨w.heap.size, 7, none⟩ = some (.func (.func b1) #[] #[]) ∧ wx.cell? ⟨w.heap.size, 8, none⟩ = some (.func (.func b2) #[] #[]) ∧ wx.cell? ⟨w.heap.size, 9, none⟩ = some (.func (.func 172) #[] #[.pointer (some ⟨qw, 0, none⟩)])) ∧
    (wx.cell? ⟨w.heap.size + 1, 0, none⟩ = some (.int .i64 5) ∧ wx.cell? ⟨w.heap.size + 1, 1, none⟩ = some (.int .i64 ud) ∧ wx.cell? ⟨w.heap.size + 1, 2, none⟩ = some (.int .i64 us) ∧ wx.cell? ⟨w.heap.size + 1, 3, none⟩ = some (.int .i64 ut) ∧ wx.cell? ⟨w.heap.size + 1, 4, none⟩ = some (.bool um) ∧ wx.cell? ⟨w.heap.size + 1, 5, none⟩ = some (.int .i64 ust) ∧ wx.cell? ⟨w.heap.size + 1, 6, none⟩ = some (.int .i64 umn) ∧ wx.cell? ⟨w.heap.size + 1, 7, none⟩ = some (.int .i64 umx)))
    ((refine HKS.out _ ?_; first | exact HDR.out | assumption))
    (first
      | (go_at_call 54; refine (HS.out _ (below_more HB.out HDR.out)).mono ?_; rintro e w3 ⟨A3, c3, rfl, h1, h2, h3, hb3⟩; have kb3 := below_more HDR.out hb3)
      | fail)
  have HB3 := Lib.hid (below_more HB.out kb3)
  have H3 := Lib.hid (ShPs.keep (Q := FreshB w w3) (w' := w3) (fun _ _ _ => rfl) (fun b hp => ⟨Nat.le_trans HB.out.size hp.1, hp.2⟩) A3 0 ks h3)
  clear hb3 h3 kb3
  go_wp2_with fail
  go_ret
  exact ⟨_, rfl, ⟨_, rfl, A3, c3, rfl, h1, h2, H3.out⟩, HB3.out⟩
set_option maxRecDepth 100000 in
set_option maxHeartbeats 8000000 in
theorem shapeRngC_any (L : Lm) (mw : Bool) (a1 a2 b1 b2 pw qw : Nat) (n : Nd) (sp : Int) (ks : List Shp) (hS : ShapesOk L true mw a1 a2 b1 b2 pw qw ks) : ShapeOk L true mw a1 a2 b1 b2 pw qw (.rng n (.col sp ks)) := by
  intro u bl w A c hof hl hn hc1 hc
  obtain ⟨rfl, hk, -, hsp, hks⟩ := hof
  have HS := Lib.hid (fun wx (hb : Below w.heap.size w wx) => hS bl wx A c hks (hl.below hb) (hn.below hb) hc1 hc)
  obtain ⟨uk, ud, us, ut, um, ust, umn, umx⟩ := n
  dsimp only at hk
  subst hk hsp
  unfold Nd.val
  dsimp only
  obtain ⟨m, hm⟩ : ∃ m, m = bl.length := ⟨_, rfl⟩
  rw [← hm] at HS ⊢
  clear hS hl hn hc1 hc hks hm
  obtain ⟨cw, hcw⟩ : ∃ c, c = true := ⟨_, rfl⟩
  rw [← hcw] at HS ⊢
  have HCW := Lib.hid hcw
  clear hcw
  obtain ⟨W1, hW1⟩ : ∃ W', W' = w.alloc (.cells #[.int .i64 L.per, .slice L.A L.ms.length L.cap, .bool cw, .bool mw, .func (.func a1) #[] #[], .func (.func a2) #[] #[], .func (.func 172) #[] #[.pointer (some ⟨pw, 0, none⟩)], .func (.func b1) #[] #[], .func (.func b2) #[] #[], .func (.func 172) #[] #[.pointer (some ⟨qw, 0, none⟩)]] 104) := ⟨_, rfl⟩; obtain ⟨W, hW⟩ : ∃ W', W' = W1.alloc (.cells #[.int .i64 5, .int .i64 ud, .int .i64 us, .int .i64 ut, .bool um, .int .i64 ust, .int .i64 umn, .int .i64 umx] 87) := ⟨_, rfl⟩; have szW1 : W1.heap.size = w.heap.size + 1 := (by rw [hW1]; simp); have kbW1 : Below w.heap.size w W1 := hW1 ▸ below_alloc _ _; have szW : W.heap.size = w.heap.size + 1 + 1 := (by rw [hW]; simp [szW1]); have kbW : Below W1.heap.size W1 W := hW ▸ below_alloc _ _; have HB := Lib.hid (below_more kbW1 kbW); have D0 := Lib.hid (blk_keep kbW (show W1.heap[w.heap.size]? = some (.cells #[.int .i64 L.per, .slice L.A L.ms.length L.cap, .bool cw, .bool mw, .func (.func a1) #[] #[], .func (.func a2) #[] #[], .func (.func 172) #[] #[.pointer (some ⟨pw, 0, none⟩)], .func (.func b1) #[] #[], .func (.func b2) #[] #[], .func (.func 172) #[] #[.pointer (some ⟨qw, 0, none⟩)]] 104 (0, 0)) by rw [hW1]; exact heap_alloc_new _ _)); have D1 := Lib.hid (show W.heap[w.heap.size + 1]? = some (.cells #[.int .i64 5, .int .i64 ud, .int .i64 us, .int .i64 ut, .bool um, .int .i64 ust, .int .i64 umn, .int .i64 umx] 87 (0, 0)) by rw [hW, ← szW1]; exact heap_alloc_new _ _); have SZW := Lib.hid szW; clear szW1 kbW1 szW kbW
  have HKS := Lib.hid (fun wx (hb : Below W.heap.size W wx) => show (wx.cell? ⟨w.heap.size, 0, none⟩ = some (.int .i64 L.per) ∧ wx.cell? ⟨w.heap.size, 1, none⟩ = some (.slice L.A L.ms.length L.cap) ∧ wx.cell? ⟨w.heap.size, 2, none⟩ = some (.bool cw) ∧ wx.cell? ⟨w.heap.size, 3, none⟩ = some (.bool mw) ∧ wx.cell? ⟨w.heap.size, 4, none⟩ = some (.func (.func a1) #[] #[]) ∧ wx.cell? ⟨w.heap.size, 5, none⟩ = some (.func (.func a2) #[] #[]) ∧ wx.cell? ⟨w.heap.size, 6, none⟩ = some (.func (.func 172) #[] #[.pointer (some ⟨pw, 0, none⟩)]) ∧ wx.cell? ⟨w.heap.size, 7, none⟩ = some (.func (.func b1) #[] #[]) ∧ wx.cell? ⟨w.heap.size, 8, none⟩ = some (.func (.func b2) #[] #[]) ∧ wx.cell? ⟨w.heap.size, 9, none⟩ = some (.func (.func 172) #[] #[.pointer (some ⟨qw, 0, none⟩)])) ∧
    (wx.cell? ⟨w.heap.size + 1, 0, none⟩ = some (.int .i64 5) ∧ wx.cell? ⟨w.heap.size + 1, 1, none⟩ = some (.int .i64 ud) ∧ wx.cell? ⟨w.heap.size + 1, 2, none⟩ = some (.int .i64 us) ∧ wx.cell? ⟨w.heap.size + 1, 3, none⟩ = some (.int .i64 ut) ∧ wx.cell? ⟨w.heap.size + 1, 4, none⟩ = some (.bool um) ∧ wx.cell? ⟨w.heap.size + 1, 5, none⟩ = some (.int .i64 ust) ∧ wx.cell? ⟨w.heap.size + 1, 6, none⟩ = some (.int .i64 umn) ∧ wx.cell? ⟨w.heap.size + 1, 7, none⟩ = some (.int .i64 umx)) from
    have d := blk_keep hb D0.out
    have e := blk_keep hb D1.out
    ⟨⟨cell_of_blk d 0, cell_of_blk d 1, cell_of_blk d 2, cell_of_blk d 3, cell_of_blk d 4, cell_of_blk d 5, cell_of_blk d 6, cell_of_blk d 7, cell_of_blk d 8, cell_of_blk d 9⟩, cell_of_blk e 0, cell_of_blk e 1, cell_of_blk e 2, cell_of_blk e 3, cell_of_blk e 4, cell_of_blk e 5, cell_of_blk e 6, cell_of_blk e 7⟩)
  have HDR := Lib.hid (show Below W.heap.size W W.drew from (Below.refl _ _).drew)
  have q2 := cell_of_blk D0.out 2; have hz_q := (Array.getElem?_eq_some_iff.1 D0.out).1; simp at q2
  have y0 := cell_of_blk D1.out 0; have hz_y := (Array.getElem?_eq_some_iff.1 D1.out).1; simp at y0
  have hcw := HCW.out
  subst hcw
  go_enter Tryz.func94, Tryz.ntmps94
  go_wp2_with fail
  rw [← hW1, ← hW]; clear hW1 hW
  go_wp2_with fail
  go_region_held3 (fun wx => (wx.cell? ⟨w.heap.size, 0, none⟩ = some (.int .i64 L.per) ∧ wx.cell? ⟨w.heap.size, 1, none⟩ = some (.slice L.A L.ms.length L.cap) ∧ wx.cell? ⟨w.heap.size, 2, none⟩ = some (.bool true) ∧ wx.cell? ⟨w.heap.size, 3, none⟩ = some (.bool mw) ∧ wx.cell? ⟨w.heap.size, 4, none⟩ = some (.func (.func a1) #[] #[]) ∧ wx.cell? ⟨w.heap.size, 5, none⟩ = some (.func (.func a2) #[] #[]) ∧ wx.cell? ⟨w.heap.size, 6, none⟩ = some (.func (.func 172) #[] #[.pointer (some ⟨pw, 0, none⟩)]) ∧ wx.cell? ⟨w.heap.size, 7, none⟩ = some (.func (.func b1) #[] #[]) ∧ wx.cell? ⟨w.heap.size, 8, none⟩ = some (.func (.func b2) #[] #[]) ∧ wx.cell? ⟨w.heap.size, 9, none⟩ = some (.func (.func 172) #[] #[.pointer (some ⟨qw, 0, none⟩)])) ∧
    (wx.cell? ⟨w.heap.size + 1, 0, none⟩ = some (.int .i64 5) ∧ wx.cell? ⟨w.heap.size + 1, 1, none⟩ = some (.int .i64 ud) ∧ wx.cell? ⟨w.heap.size + 1, 2, none⟩ = some (.int .i64 us) ∧ wx.cell? ⟨w.heap.size + 1, 3, none⟩ = some (.int .i64 ut) ∧ wx.cell? ⟨w.heap.size + 1, 4, none⟩ = some (.bool um) ∧ wx.cell? ⟨w.heap.size + 1, 5, none⟩ = some (.int .i64 ust) ∧ wx.cell? ⟨w.heap.size + 1, 6, none⟩ = some (.int .i64 umn) ∧ wx.cell? ⟨w.heap.size + 1, 7, none⟩ = some (.int .i64 umx)))
    ((refine HKS.out _ ?_; first | exact HDR.out | assumption))
    (first
      | (go_at_call 54; refine (HS.out _ (below_more HB.out HDR.out)).mono ?_; rintro e w3 ⟨A3, c3, rfl, h1, h2, h3, hb3⟩; have kb3 := below_more HDR.out hb3)
      | fail)
  have HB3 := Lib.hid (below_more HB.out kb3)
  have H3 := Lib.hid (ShPs.keep (Q := FreshB w w3) (w' := w3) (fun _ _ _ => rfl) (fun b hp => ⟨Nat.le_trans HB.out.size hp.1, hp.2⟩) A3 0 ks h3)
  clear hb3 h3 kb3
  go_wp2_with fail
  go_ret
  exact ⟨_, rfl, ⟨_, rfl, A3, c3, rfl, h1, h2, H3.out⟩, HB3.out⟩
theorem shapeGp_any (L : Lm) (cw mw : Bool) (a1 a2 b1 b2 pw qw : Nat) (n : Nd) : ShapeOk L cw mw a1 a2 b1 b2 pw qw (.gap n) := by
  intro u bl w A c hof hl hn hc1 hc
  obtain ⟨rfl, hk⟩ := hof
  exact (shapeGap_any L cw mw a1 a2 b1 b2 pw qw n w A bl.length c hk).mono (fun e w' ⟨e1, hb⟩ => ⟨_, e1, rfl, hb⟩)
theorem shapeGly2_any (L : Lm) (cw mw : Bool) (a1 a2 b1 b2 pw qw : Nat) (n : Nd) (a b : Int) : ShapeOk L cw mw a1 a2 b1 b2 pw qw (.gly n a b) := by
  intro u bl w A c hof hl hn hc1 hc
  obtain ⟨rfl, hk, ht, k, sg, hs, hsg, hsz⟩ := hof
  exact (shapeG_any L cw mw a1 a2 b1 b2 pw qw n k sg w A bl.length c hl hk hs hsg ht a b hsz).mono (fun e w' ⟨e1, hb⟩ => ⟨_, e1, rfl, hb⟩)
mutual
theorem shape_ok (L : Lm) (cw mw : Bool) (a1 a2 b1 b2 pw qw : Nat) : ∀ (s : Shp), s.good → ShapeOk L cw mw a1 a2 b1 b2 pw qw s
  | .gly n a b, _ => shapeGly2_any L cw mw a1 a2 b1 b2 pw qw n a b
  | .gap n, _ => shapeGp_any L cw mw a1 a2 b1 b2 pw qw n
  | .ovl n1 a b n2 c d, _ => shapeOvl_any L cw mw a1 a2 b1 b2 pw qw n1 a b n2 c d
  | .row sp ks, h => by
    rw [Shp.good] at h
    exact shapeRow_any L cw mw a1 a2 b1 b2 pw qw sp ks (shapes_any L cw mw a1 a2 b1 b2 pw qw ks (shape_oks L cw mw a1 a2 b1 b2 pw qw ks h.2.2.2) (by omega))
  | .col sp ks, h => by
    rw [Shp.good] at h
    exact shapeCol_any L cw mw a1 a2 b1 b2 pw qw sp ks (shapes_any L cw mw a1 a2 b1 b2 pw qw ks (shape_oks L cw mw a1 a2 b1 b2 pw qw ks h.2.2.2) (by omega))
  | .rng n (.row sp ks), h => by
    rw [Shp.good, Shp.good] at h
    cases cw
    · exact shapeRngR_any L mw a1 a2 b1 b2 pw qw n sp ks (shapes_any L false mw a1 a2 b1 b2 pw qw ks (shape_oks L false mw a1 a2 b1 b2 pw qw ks h.2.2.2.2.2) (by omega))
    · intro u bl w A c hof; obtain ⟨_, _, h3, _⟩ := hof; cases h3
  | .rng n (.col sp ks), h => by
    rw [Shp.good, Shp.good] at h
    cases cw
    · intro u bl w A c hof; obtain ⟨_, _, h3, _⟩ := hof; cases h3
    · exact shapeRngC_any L mw a1 a2 b1 b2 pw qw n sp ks (shapes_any L true mw a1 a2 b1 b2 pw qw ks (shape_oks L true mw a1 a2 b1 b2 pw qw ks h.2.2.2.2.2) (by omega))
  | .rng n (.gly ..), _ => by intro u bl w A c hof; exact hof.elim
  | .rng n (.gap ..), _ => by intro u bl w A c hof; exact hof.elim
  | .rng n (.ovl ..), _ => by intro u bl w A c hof; exact hof.elim
  | .rng n (.rng ..), _ => by intro u bl w A c hof; exact hof.elim
theorem shape_oks (L : Lm) (cw mw : Bool) (a1 a2 b1 b2 pw qw : Nat) : ∀ (ks : List Shp), goodS ks → ∀ k ∈ ks, ShapeOk L cw mw a1 a2 b1 b2 pw qw k
  | [], _, k, hk => by simp at hk
  | x :: r, h, k, hk => by
    rw [goodS] at h
    rcases List.mem_cons.1 hk with hk | hk
    · rw [hk]; exact shape_ok L cw mw a1 a2 b1 b2 pw qw x h.1
    · exact shape_oks L cw mw a1 a2 b1 b2 pw qw r h.2 k hk
end
theorem shapesI_ok {L : Lm} (cw mw : Bool) (a1 a2 b1 b2 pw qw : Nat) {zs : List Nd} (h : Pln L.li zs) : ShapesOk L cw mw a1 a2 b1 b2 pw qw (shpsI L.li cw zs) := by
  have hg : goodS (shpsI L.li cw zs) := goodS_of (shps_good cw h)
  refine shapes_any L cw mw a1 a2 b1 b2 pw qw _ (shape_oks L cw mw a1 a2 b1 b2 pw qw _ hg) ?_
  have := of_len _ _ (shs_of cw h)
  have := (text_ok h.ok).2.1
  omega
open Go.RowKit
def inI : Bool → Shp → Int × Int
  | true, .rng _ s => s.size
  | _, s => s.size
theorem inI_false (s : Shp) : inI false s = s.size := by cases s <;> rfl
end Go.Proofs.YtmiokllpdmmfhaaGreat
