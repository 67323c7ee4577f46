/-
  The specification's Below and Sub.
-/
import Derived.Test.YtbfedahonfjpfaaGSub
import Derived.Deep.DeepCutAuto
namespace Go.Proofs.Ytbfedahonfjpfaa
open Go.RowKit

/-- what holds at the head of a round of the specification's Below -/
structure BelRel (w W wr : World) (A : Option Addr) (N cap : Nat) (v : Value) (k : Nat) (zs : List Nd) : Prop where
  below : Below w.heap.size w wr
  size : W.heap.size ≤ wr.heap.size
  b0 : wr.heap[w.heap.size]? = some (.cells #[.slice A N cap] 27 (0, 0))
  b1 : wr.heap[w.heap.size + 1]? = some (.cells #[.slice none 0 0] 27 (0, 0))
  b2 : wr.heap[w.heap.size + 1 + 1]? = some (.cells #[v] 27 (0, 0))
  own : wr.ownsRow W.heap.size 78 8 v k (zs.flatMap Nd.cells)
theorem BelRel.later {w W wr wx : World} {A : Option Addr} {N cap : Nat} {v : Value} {k : Nat} {zs : List Nd} (h : BelRel w W wr A N cap v k zs) (hb : Below wr.heap.size wr wx) : BelRel w W wx A N cap v k zs :=
  ⟨h.below.trans (hb.mono h.below.size), Nat.le_trans h.size hb.size, blk_keep hb h.b0, blk_keep hb h.b1, blk_keep hb h.b2, ownsRow_of_block h.own (fun g hg => hb.block g (h.own.lt g hg).2)⟩
theorem BelRel.step {w W wr wA w3 : World} {A A2 : Option Addr} {N cap c2 : Nat} {v : Value} {k : Nat} {zs : List Nd} {x : Nd} (h : BelRel w W wr A N cap v k zs) (hW : w.heap.size + 1 + 1 < W.heap.size)
    (hA : Below wr.heap.size wr wA) (own2 : w3.ownsRow W.heap.size 78 8 (.slice A2 (k + 1) c2) (k + 1) (zs.flatMap Nd.cells ++ x.cells)) (hg : wA.grownBy w3 v.ownBlock) :
    BelRel w W (w3.setCell ⟨w.heap.size + 1 + 1, 0, none⟩ (.slice A2 (k + 1) c2)) A N cap (.slice A2 (k + 1) c2) (k + 1) (zs ++ [x]) := by
  have hsz := h.size
  have hvb : ∀ g, v.ownBlock = some g → W.heap.size ≤ g ∧ g < wr.heap.size := fun g hg => h.own.lt g hg
  have s2 := hA.size
  have s3 : wA.heap.size ≤ w3.heap.size := hg.size
  have keep : ∀ g, g < wr.heap.size → v.ownBlock ≠ some g → w3.heap[g]? = wr.heap[g]? := fun g h1 h2 => by
    rw [hg.block g (by omega) (fun e => h2 e.symm)]; exact hA.block g h1
  have hb2 : w3.heap[w.heap.size + 1 + 1]? = some (.cells #[v] 27 (0, 0)) := by
    rw [keep _ (by omega) (fun e => by have := (hvb _ e).1; omega)]; exact h.b2
  refine ⟨?_, by simp; omega, ?_, ?_, ?_, ?_⟩
  · have := h.below.size
    exact ((h.below.trans (hA.mono h.below.size)).grown hg (by omega) (fun g hg => by have := (hvb g hg).1; omega)).setCell (by dsimp only; omega) _
  · rw [heap_setCell_other _ _ _ _ (by dsimp only; omega), keep _ (by omega) (fun e => by have := (hvb _ e).1; omega)]; exact h.b0
  · rw [heap_setCell_other _ _ _ _ (by dsimp only; omega), keep _ (by omega) (fun e => by have := (hvb _ e).1; omega)]; exact h.b1
  · rw [heap_setCell_same _ _ _ _ _ _ hb2]; rfl
  · have := ownsRow_of_block (w' := w3.setCell ⟨w.heap.size + 1 + 1, 0, none⟩ (.slice A2 (k + 1) c2)) own2 (fun g hg' => heap_setCell_other _ _ _ _ (by have := (own2.lt g hg').1; dsimp only; omega))
    rw [List.flatMap_append]; simpa using this

theorem BelRel.out2 {w W wr wA w3 : World} {A : Option Addr} {N cap : Nat} {v : Value} {k : Nat} {zs : List Nd} (h : BelRel w W wr A N cap v k zs) (hW : w.heap.size + 1 + 1 < W.heap.size)
    (hA : Below wr.heap.size wr wA) (hg : wA.grownBy w3 v.ownBlock) : w3.heap[w.heap.size + 1 + 1]? = some (.cells #[v] 27 (0, 0)) := by
  have hsz := h.size
  rw [hg.block _ (by have := hA.size; omega) (fun e => by have := (h.own.lt _ e.symm).1; omega)]
  exact (hA.block _ (by omega)).trans h.b2

set_option maxRecDepth 100000 in
set_option maxHeartbeats 8000000 in
theorem rbelow_any (A : Option Addr) (cap i : Nat) (ns : List Nd) (u : Nd) (w : World) (hn : NdsAt w A ns) (hc1 : ns.length ≤ cap) (hc : cap ≤ maxLen) (hsm : ns.length ≤ 1000000) (hi : ns[i]? = some u) (hd : ∀ x ∈ ns, 0 ≤ x.depth ∧ x.depth ≤ 4) :
    Calls Try.prog 80 #[.agg #[.slice A ns.length cap], .int .i64 i] w (GotText w (belowN ns i)) := by
  have HNS := Lib.hid hn
  have hin : i < ns.length := (List.getElem?_eq_some_iff.1 hi).1
  obtain ⟨b, o, rfl, hb, hva⟩ := hn i u hi
  have y1 := hva.c1
  have HBN := Lib.hid (belowN_at hi)
  have hsp := spanN_le ns u.depth i hin
  have hdu := hd u (List.mem_of_getElem? hi)
  obtain ⟨d, hdd⟩ : ∃ d, d = u.depth := ⟨_, rfl⟩
  have HSA := Lib.hid (fun k (h : k < spanN ns u.depth i) => spanN_at h)
  have HSE := Lib.hid (spanN_end ns u.depth i hin)
  have HI := Lib.hid hi
  rw [← hdd] at y1 HBN hsp hdu HSA HSE
  obtain ⟨m, hm⟩ : ∃ m, m = 1 + spanN ns d i := ⟨_, rfl⟩
  rw [← hm] at HBN
  have HS1 := Lib.hid (show ∀ k, 0 < k → k < m → ∃ x, ns[i + k]? = some x ∧ d < x.depth from fun k h0 h1 => by
    obtain ⟨x, h2, h3⟩ := HSA.out (k - 1) (by omega)
    exact ⟨x, by rw [← h2]; congr 1; omega, h3⟩)
  have HS2 := Lib.hid (show i + m = ns.length ∨ ∃ x, ns[i + m]? = some x ∧ x.depth ≤ d by
    rcases HSE.out with h | ⟨x, h1, h2⟩
    · exact .inl (by omega)
    · exact .inr ⟨x, by rw [← h1]; congr 1; omega, h2⟩)
  have hm0 : 0 < m := by omega
  have hmN : i + m ≤ ns.length := by omega
  have HDX := Lib.hid hd
  obtain ⟨N, hN⟩ : ∃ N, N = ns.length := ⟨_, rfl⟩
  have HN := Lib.hid hN
  rw [← hN] at hc1 hsm hin hmN HS2 ⊢
  unfold maxLen at hc
  clear hn hva hi hd hdd hm hN HSA HSE hsp
  obtain ⟨W, hW⟩ : ∃ W, W = ((w.alloc (.cells #[.slice (some ⟨b, o, none⟩) N cap] 27)).alloc (.cells #[.slice none 0 0] 27)).alloc (.cells #[.slice none 0 0] 27) := ⟨_, rfl⟩
  have HB := Lib.hid (show Below w.heap.size w W from hW ▸ (((Below.refl _ _).alloc (Nat.le_refl _) _).alloc (by simp) _).alloc (by simp; omega) _)
  have HSZ := Lib.hid (show W.heap.size = w.heap.size + 1 + 1 + 1 by rw [hW]; simp)
  have HR0 := Lib.hid (show BelRel w W W (some ⟨b, o, none⟩) N cap (.slice none 0 0) 0 [] from by
    refine ⟨HB.out, Nat.le_refl _, ?_, ?_, ?_, World.ownsRow_nil _ _ _ _⟩
    · rw [hW, heap_alloc_other _ _ _ (by simp; omega), heap_alloc_other _ _ _ (by simp)]; exact heap_alloc_new _ _
    · rw [hW, heap_alloc_other _ _ _ (by simp)]; have := heap_alloc_new (w.alloc (.cells #[.slice (some ⟨b, o, none⟩) N cap] 27)) (.cells #[.slice none 0 0] 27); simpa using this
    · rw [hW]; have := heap_alloc_new ((w.alloc (.cells #[.slice (some ⟨b, o, none⟩) N cap] 27)).alloc (.cells #[.slice none 0 0] 27)) (.cells #[.slice none 0 0] 27); simpa using this)
  have HY := Lib.hid (show ∀ wx, Below w.heap.size w wx → wx.cell? ⟨b, o + i * 8 + 1, none⟩ = some (.int .i64 d) ∧ b < wx.heap.size from fun wx hx => ⟨(hx.cell (p := ⟨b, _, none⟩) hb).trans y1, Nat.lt_of_lt_of_le hb hx.size⟩)
  obtain ⟨iv, hiv, hzv, hsv, hbv⟩ := info_hid infoNd
  go_enter Try.func80, Try.ntmps80
  go_wp2_with fail
  rw [← hW]
  clear hW y1
  go_loopw [6, 7] (fun c _ wr => ∃ k : Nat, k ≤ m ∧ c = .int .i64 ((i + k : Nat) : Int) ∧ Hid (∃ v, BelRel w W wr (some ⟨b, o, none⟩) N cap v k (((ns.drop i).take k).map (lowerN d)))) (fun c _ _ => N + 1 - (intOf c).toNat)
  case atStart => exact ⟨0, Nat.zero_le _, rfl, Lib.hid ⟨_, by simpa using HR0.out⟩⟩
  case round =>
    obtain ⟨k, hk, rfl, hrel0⟩ := hrel
    obtain ⟨v, hr⟩ := hrel0.out
    have HR := Lib.hid hr
    clear hr hrel0
    obtain ⟨j, hj⟩ : ∃ j, j = i + k := ⟨_, rfl⟩
    have HJ := Lib.hid hj
    rw [← hj]
    have x0 := cell_of_blk HR.out.b0 0
    have hx0 := (Array.getElem?_eq_some_iff.1 HR.out.b0).1
    obtain ⟨yi, hbr⟩ := HY.out wr HR.out.below
    simp at x0
    by_cases hlt : k < m
    · have HX := Lib.hid (show ∃ x, ns[j]? = some x ∧ (0 < k → d < x.depth) by
        rcases Nat.eq_zero_or_pos k with h0 | h0
        · subst h0; exact ⟨u, by rw [hj, Nat.add_zero]; exact HI.out, fun h => absurd h (by omega)⟩
        · obtain ⟨x, h1, h2⟩ := HS1.out k h0 hlt; exact ⟨x, by rw [hj]; exact h1, fun _ => h2⟩)
      obtain ⟨x, hx, hxd⟩ := HX.out
      have hxb := HDX.out x (List.mem_of_getElem? hx)
      have HTK := Lib.hid (show (ns.drop i).take (k + 1) = (ns.drop i).take k ++ [x] by
        have h1 : (ns.drop i)[k]? = some x := by rw [List.getElem?_drop, ← hj]; exact hx
        obtain ⟨h2, h3⟩ := List.getElem?_eq_some_iff.1 h1
        rw [List.take_succ_eq_append_getElem h2, h3])
      obtain ⟨b', o', e, hb', hvx⟩ := (HNS.out.below HR.out.below) j x hx
      injection e with e; injection e with e1 e2; subst e1 e2
      have HVX := Lib.hid hvx
      have hjN : j < N := by omega
      have hg1 : decide (j < N) = true := decide_eq_true hjN
      have z1 := hvx.c1
      obtain ⟨xk, xd, xs, xt, xm, xst, xmn, xmx⟩ := x
      dsimp only at hxd hxb z1
      clear hx hvx hj
      go_upto_region 3 with fail
      go_cut [34] (fun v wx => v = .bool true ∧ Hid (Below wr.heap.size wr wx))
      case first =>
        by_cases h0 : k = 0
        · have hg2 : ((j : Int) == (i : Int)) = true := by have := HJ.out; simp; omega
          clear hxd h0
          refine wp_region_later (by kernel_rfl) (by kernel_rfl) ?_; (repeat (first | go_big_quiet_step (fail) | quiet_step (fail))); refine wpQuiet_nil ?_; rintro _ ⟨s, rfl⟩
          go_wp2_with fail
          go_meet
          exact ⟨rfl, Lib.hid s.below⟩
        · have hg2 : ((j : Int) == (i : Int)) = false := by have := HJ.out; rw [beq_eq_false_iff_ne]; omega
          have hg3 : decide (d < xd) = true := decide_eq_true (hxd (by omega))
          clear hxd h0
          refine wp_region_later (by kernel_rfl) (by kernel_rfl) ?_; (repeat (first | go_big_quiet_step (fail) | quiet_step (fail))); refine wpQuiet_nil ?_; rintro _ ⟨s, rfl⟩
          go_wp2_with fail
          go_meet
          exact ⟨rfl, Lib.hid s.below⟩
      case rest =>
      obtain ⟨rfl, hbc⟩ := hcut
      obtain ⟨w4, rfl⟩ : ∃ w4, w4 = wc := ⟨_, rfl⟩
      have HR4 := Lib.hid (HR.out.later hbc.out)
      obtain ⟨z0, z1, z2, z3, z4, z5, z6, z7⟩ := HVX.out.below hbc.out hb'
      have hb4 : b < w4.heap.size := by have := hbc.out.size; omega
      obtain ⟨yi, -⟩ := HY.out w4 HR4.out.below
      have x0 := cell_of_blk HR4.out.b0 0
      have hx0 := (Array.getElem?_eq_some_iff.1 HR4.out.b0).1
      have hx2 := (Array.getElem?_eq_some_iff.1 HR4.out.b2).1
      dsimp only at z0 z1 z2 z3 z4 z5 z6 z7
      simp at x0
      clear hbc HR hbr
      have hwr : IntKind.i64.wrap (xd - d) = xd - d := IntWalk.i64_in _ (by omega)
      go_wp2_with fail
      refine wp_region_still_tail 10 (by kernel_rfl) (by kernel_rfl) ?_; simp only [List.take_succ_cons, List.take_zero, List.drop_succ_cons, List.drop_zero]; change wpStill _ _ ((w4.alloc (.cells #[.int .i64 xk, .int .i64 xd, .int .i64 xs, .int .i64 xt, .bool xm, .int .i64 xst, .int .i64 xmn, .int .i64 xmx] 78))).drew _ _ _; (repeat still_step); refine wpStill_nil ?_; change wpList _ _ _ _ _ ((w4.alloc (.cells #[.int .i64 xk, .int .i64 xd, .int .i64 xs, .int .i64 xt, .bool xm, .int .i64 xst, .int .i64 xmn, .int .i64 xmx] 78))).drew
      obtain ⟨zs, hzs⟩ : ∃ zs, zs = ((ns.drop i).take k).map (lowerN d) := ⟨_, rfl⟩
      have HZ := Lib.hid (show ((ns.drop i).take (k + 1)).map (lowerN d) = zs ++ [⟨xk, xd - d, xs, xt, xm, xst, xmn, xmx⟩] by rw [HTK.out, List.map_append, ← hzs]; rfl)
      rw [← hzs] at HR4
      obtain ⟨Av, cv, hv, -, -, -, -⟩ := own_slice HR4.out.own
      subst hv
      have q0 := cell_of_blk HR4.out.b2 0
      simp at q0
      clear hzs HTK
      go_wp2_with (first
        | (at_builtin; refine wpList_append_src _ rfl (.tmp 53) (.tmp 55) 25 rfl W.heap.size 78 iv (.agg #[.int .i64 0, .int .i64 0, .int .i64 0, .int .i64 0, .bool false, .int .i64 0, .int .i64 0, .int .i64 0]) 8 64 Try.underlying25 hiv.out hzv.out hsv.out hbv.out rfl (by decide) (.slice Av k cv) k (zs.flatMap Nd.cells) rfl ?own2 (some ⟨w4.heap.size + 1, 0, none⟩) 1 1 (Nd.cells ⟨xk, xd - d, xs, xt, xm, xst, xmn, xmx⟩) rfl ?l2 ?n2 ?c2 ?o2 ?m2 ?b2 ?s2 (k + 1) rfl ?_))
      case own2 => exact ((HR4.out.own.alloc _).alloc _).drew
      case l2 => rfl
      case n2 => intro h; cases h
      case o2 => exact nd_one _
      case c2 =>
        intro ad had jj u' hj
        injection had with had
        subst had
        have := new_cells (w4.alloc (.cells #[.int .i64 xk, .int .i64 (xd - d), .int .i64 xs, .int .i64 xt, .bool xm, .int .i64 xst, .int .i64 xmn, .int .i64 xmx] 78)) (Nd.cells ⟨xk, xd - d, xs, xt, xm, xst, xmn, xmx⟩) 78 jj u' hj
        simpa [Nd.cells] using this
      case m2 => unfold maxLen; omega
      case b2 => omega
      case s2 => have := HR4.out.size; simp; omega
      intro A3 c3 w3 own3 hg3 _
      have HA := Lib.hid (show Below w4.heap.size w4 (((w4.alloc (.cells #[.int .i64 xk, .int .i64 (xd - d), .int .i64 xs, .int .i64 xt, .bool xm, .int .i64 xst, .int .i64 xmn, .int .i64 xmx] 78)).alloc (.cells #[.int .i64 xk, .int .i64 (xd - d), .int .i64 xs, .int .i64 xt, .bool xm, .int .i64 xst, .int .i64 xmn, .int .i64 xmx] 78)).drew) from (two_under _ _ _).drew)
      have HSP := Lib.hid (HR4.out.step (by have := HSZ.out; omega) HA.out own3 hg3)
      have k3 := HR4.out.out2 (by have := HSZ.out; omega) HA.out hg3
      have q0 := cell_of_blk k3 0
      have q1 := free_of_blk k3 0
      have q2 := (Array.getElem?_eq_some_iff.1 k3).1
      simp at q0
      clear own3 hg3 k3 HA
      go_wp2_with fail
      go_roundw
      case rel => exact ⟨k + 1, by omega, by rw [show i + (k + 1) = j + 1 by have := HJ.out; omega]; go_num, Lib.hid ⟨_, by rw [HZ.out]; exact HSP.out⟩⟩
      case measure => simp [intOf]; omega
    · obtain rfl : k = m := by omega
      obtain ⟨Av, cv, hv, -, -, -, -⟩ := own_slice HR.out.own
      subst hv
      have HT := Lib.hid (show belowN ns i = ((ns.drop i).take k).map (lowerN d) from HBN.out)
      have HL := Lib.hid (show (belowN ns i).length = k by rw [HT.out, List.length_map, List.length_take, List.length_drop, ← HN.out]; omega)
      have q0 := cell_of_blk HR.out.b2 0
      have r0 := cell_of_blk HR.out.b1 0
      have r1 := free_of_blk HR.out.b1 0
      have hx1 := (Array.getElem?_eq_some_iff.1 HR.out.b1).1
      have hx2 := (Array.getElem?_eq_some_iff.1 HR.out.b2).1
      simp at q0 r0
      have HG := Lib.hid (fun wx (hb : Below wr.heap.size wr wx) => show GotText w (belowN ns i) (.returned (.agg #[.slice Av k cv])) (wx.setCell ⟨w.heap.size + 1, 0, none⟩ (.slice Av k cv)) from by
        have h5 := HR.out.later hb
        have h6 := ownsRow_of_block (w' := wx.setCell ⟨w.heap.size + 1, 0, none⟩ (.slice Av k cv)) h5.own (fun g hg => heap_setCell_other _ _ _ _ (by have := (h5.own.lt g hg).1; have := HSZ.out; dsimp only; omega))
        refine ⟨Av, cv, by rw [HL.out], ?_, h5.below.setCell (by dsimp only; omega) _⟩
        rw [HL.out, HT.out]
        exact own_base h6 (by have := HSZ.out; omega))
      have HGD := Lib.hid (show (j = N) ∨ (j < N ∧ ∃ xd : Int, xd ≤ d ∧ wr.cell? ⟨b, o + j * 8 + 1, none⟩ = some (.int .i64 xd)) by
        rcases HS2.out with h | ⟨x, h1, h2⟩
        · exact .inl (by have := HJ.out; omega)
        · rw [← hj] at h1
          obtain ⟨b', o', e, hb', hvx⟩ := (HNS.out.below HR.out.below) j x h1
          injection e with e; injection e with e1 e2; subst e1 e2
          exact .inr ⟨by rw [HN.out]; exact (List.getElem?_eq_some_iff.1 h1).1, x.depth, h2, hvx.c1⟩)
      clear hj
      have hne : ((j : Int) == (i : Int)) = false := by have := HJ.out; rw [beq_eq_false_iff_ne]; omega
      rcases HGD.out with h | ⟨hjN, xd, hxd, z1⟩
      · have hg1 : decide (j < N) = false := decide_eq_false (by omega)
        clear h
        go_upto_region 3 with fail
        refine wp_region_later (by kernel_rfl) (by kernel_rfl) ?_; (repeat (first | go_big_quiet_step (fail) | quiet_step (fail))); refine wpQuiet_nil ?_; rintro _ ⟨s, rfl⟩
        have hbs := Lib.hid s.below
        go_wp2
        refine bodyPost_ret (v := .agg #[.slice Av k cv]) (by simp [results, Try.results80, go_sem, r0, hx1, hx2]) rfl (HG.out _ hbs.out)
      · have hg1 : decide (j < N) = true := decide_eq_true hjN
        have hg3 : decide (d < xd) = false := decide_eq_false (by omega)
        go_upto_region 3 with fail
        refine wp_region_later (by kernel_rfl) (by kernel_rfl) ?_; (repeat (first | go_big_quiet_step (fail) | quiet_step (fail))); refine wpQuiet_nil ?_; rintro _ ⟨s, rfl⟩
        have hbs := Lib.hid s.below
        go_wp2
        refine bodyPost_ret (v := .agg #[.slice Av k cv]) (by simp [results, Try.results80, go_sem, r0, hx1, hx2]) rfl (HG.out _ hbs.out)

end Go.Proofs.Ytbfedahonfjpfaa
