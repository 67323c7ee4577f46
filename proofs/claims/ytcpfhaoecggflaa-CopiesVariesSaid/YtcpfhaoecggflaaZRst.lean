/-
  The specification's stretches of two lines (layer 9). Written by gen/genrst.py.
-/
import Derived.Test.YtcpfhaoecggflaaZRsM
import Derived.Test.YtcpfhaoecggflaaZStr
import Derived.Test.YtcpfhaoecggflaaZRal
namespace Go.Proofs.Ytcpfhaoecggflaa
open Go.RowKit

theorem infoRs : (Try.prog.info? 107).map (fun i => (i.zero, i.size, i.bytes)) = some (some (.agg #[.int .i64 0, .int .i64 0, .slice none 0 0]), 3, 40) := by kernel_rfl
theorem rs_new {w : World} (at' : Nat) : ∀ ad, (some ⟨w.heap.size, 0, none⟩ : Option Addr) = some ad → ∀ (j : Nat) u, [Value.int .i64 at', .int .i64 0, .slice none 0 0][j]? = some u → (w.alloc (.cells #[.int .i64 at', .int .i64 0, .slice none 0 0] 107)).cell? (ad.add j) = some u := fun ad h j u hj => by
  have h := Option.some.inj h
  subst h
  exact new_cells w [.int .i64 at', .int .i64 0, .slice none 0 0] 107 j u hj
/-- what is open behind a round's first half: the row with the stretch that a pair is added to, its block, and the pair -/
structure Half (w Y : World) (base gp g5 L c5 : Nat) (rs2 : List Sr) (r2 : Sr) (x y : Int) : Prop where
  len : L = rs2.length
  own : OwnRs Y base (.slice (some ⟨g5, 0, none⟩) (L + 1) c5) (rs2 ++ [r2])
  small : r2.s.ext ≤ 130 ∧ r2.s.sg.length ≤ 130 ∧ L ≤ 120
  away : g5 ≠ gp ∧ ∀ k, r2.val.ownBlock = some k → k ≠ gp
  bel : Below base w Y
  pair : Y.heap[gp]? = some (.cells #[.int .i64 x, .int .i64 y] 28 (0, 0))
/-- one more sign place -/
theorem Half.more {w Y : World} {base gp g5 L c5 : Nat} {rs2 : List Sr} {r2 : Sr} {x y : Int} (h : Half w Y base gp g5 L c5 rs2 r2 x y) (he : r2.s.ext ≤ 120) :
    Half w (Y.setCell ⟨g5, L * 3 + 1, none⟩ (.int .i64 ((r2.s.ext : Int) + 1))) base gp g5 L c5 rs2 ⟨⟨r2.s.at', r2.s.ext + 1, r2.s.sg⟩, r2.A, r2.c⟩ x y := by
  obtain ⟨hL, hO, hsm, haw, hB, hP⟩ := h
  obtain ⟨hq, hbg, cur, h1, h2, h3, h4, h5, h6⟩ := hO.last
  have hr := hO.ok r2 (by simp)
  have hne : ∀ k, r2.val.ownBlock = some k → k ≠ g5 := fun k hk e => hr.2 k hk (by rw [e]; rfl)
  have hs1 : L * 3 + 1 < cur.size := by rw [hL]; exact (Array.getElem?_eq_some_iff.1 h6.c1).1
  have hb : (Y.setCell ⟨g5, L * 3 + 1, none⟩ (.int .i64 ((r2.s.ext : Int) + 1))).heap[g5]? = some (.cells (cur.setIfInBounds (L * 3 + 1) (.int .i64 ((r2.s.ext + 1 : Nat) : Int))) 107 (0, 0)) := by
    rw [show ((r2.s.ext : Int) + 1) = ((r2.s.ext + 1 : Nat) : Int) by omega]
    exact heap_setCell_same _ _ _ _ _ _ h1
  have HQ : AddR Y (Y.setCell ⟨g5, L * 3 + 1, none⟩ (.int .i64 ((r2.s.ext : Int) + 1))) base g5 (rs2.length * 3) cur ⟨r2.s.at', r2.s.ext + 1, r2.s.sg⟩ r2.A r2.c (cur.setIfInBounds (L * 3 + 1) (.int .i64 ((r2.s.ext + 1 : Nat) : Int))) r2.A r2.c r2.val := by
    subst hL
    refine ⟨hb, by simp, ⟨by rw [set_ne (by omega)]; exact h6.c0, set_at hs1, by rw [set_ne (by omega)]; exact h6.c2⟩, fun q h1 _ => set_ne h1, ?_, .inl rfl, fun k hk hkg _ => ?_, (Below.refl _ _).setCell hbg _⟩
    · refine ownsRow_of_block hr.1 fun k hk => ?_
      exact heap_setCell_other _ _ _ _ (hne k hk)
    · rw [heap_setCell_other _ _ _ _ hkg]
  refine ⟨hL, hO.add h1 HQ, ⟨by dsimp only; omega, hsm.2.1, hsm.2.2⟩, haw, hB.setCell hbg _, ?_⟩
  rw [heap_setCell_other _ _ _ _ (fun e => haw.1 e.symm)]
  exact hP
/-- one more sign -/
theorem Half.sign {w Y w9 : World} {base gp g5 L c5 : Nat} {rs2 : List Sr} {r2 : Sr} {x y xx : Int} {A9 : Option Addr} {c9 : Nat} (h : Half w Y base gp g5 L c5 rs2 r2 x y)
    (hg9 : (Y.alloc (.cells #[.int .i64 xx] 3)).drew.grownBy w9 r2.val.ownBlock) (hn9 : (Value.slice A9 (r2.s.sg.length + 1) c9).ownBlock = r2.val.ownBlock ∨ ∃ q, (Value.slice A9 (r2.s.sg.length + 1) c9).ownBlock = some q ∧ Y.heap.size ≤ q)
    (own9 : w9.ownsRow base 3 1 (.slice A9 (r2.s.sg.length + 1) c9) (r2.s.sg.length + 1) (intsZ r2.s.sg ++ [.int .i64 xx])) :
    OwnRs (w9.setCell ⟨g5, L * 3 + 2, none⟩ (.slice A9 (r2.s.sg.length + 1) c9)) base (.slice (some ⟨g5, 0, none⟩) (L + 1) c5) (rs2 ++ [⟨⟨r2.s.at', r2.s.ext, r2.s.sg ++ [xx]⟩, A9, c9⟩]) ∧ Below base Y (w9.setCell ⟨g5, L * 3 + 2, none⟩ (.slice A9 (r2.s.sg.length + 1) c9)) ∧ (w9.setCell ⟨g5, L * 3 + 2, none⟩ (.slice A9 (r2.s.sg.length + 1) c9)).heap[gp]? = Y.heap[gp]? := by
  obtain ⟨hL, hO, hsm, haw, hB, hP⟩ := h
  obtain ⟨hq, hbg, cur, h1, h2, h3, h4, h5, h6⟩ := hO.last
  have hr := hO.ok r2 (by simp)
  have hgl : g5 < Y.heap.size := (Array.getElem?_eq_some_iff.1 h1).1
  have hgp : gp < Y.heap.size := (Array.getElem?_eq_some_iff.1 hP).1
  have hne : ∀ k, r2.val.ownBlock = some k → k ≠ g5 := fun k hk e => hr.2 k hk (by rw [e]; rfl)
  have hbY : base ≤ Y.heap.size := Nat.le_trans hbg (Nat.le_of_lt hgl)
  have hK : ∀ k, k < Y.heap.size → some k ≠ r2.val.ownBlock → w9.heap[k]? = Y.heap[k]? := fun k hk hkv => (hg9.block k (by simp; omega) hkv).trans (heap_alloc_other _ _ k hk)
  have hs1 : L * 3 + 2 < cur.size := by rw [hL]; exact (Array.getElem?_eq_some_iff.1 h6.c2).1
  have hb9 : w9.heap[g5]? = some (.cells cur 107 (0, 0)) := (hK g5 hgl (fun e => hne g5 e.symm rfl)).trans h1
  have hA9 : ∀ k, (Value.slice A9 (r2.s.sg.length + 1) c9).ownBlock = some k → k ≠ g5 := fun k hk e => by
    rcases hn9 with h | ⟨q, h, hq⟩
    · rw [h] at hk; exact hne k hk e
    · rw [h] at hk; injection hk with hk; omega
  have hl9 : (r2.s.sg ++ [xx]).length = r2.s.sg.length + 1 := by rw [List.length_append]; rfl
  have hbw : Below base Y (w9.setCell ⟨g5, L * 3 + 2, none⟩ (.slice A9 (r2.s.sg.length + 1) c9)) :=
    ((((Below.refl _ _).alloc hbY _).drew).grown hg9 (by simp; omega) (fun q hq => (hr.1.lt q hq).1)).setCell hbg _
  have hQ : AddR Y (w9.setCell ⟨g5, L * 3 + 2, none⟩ (.slice A9 (r2.s.sg.length + 1) c9)) base g5 (rs2.length * 3) cur ⟨r2.s.at', r2.s.ext, r2.s.sg ++ [xx]⟩ r2.A r2.c (cur.setIfInBounds (L * 3 + 2) (.slice A9 (r2.s.sg.length + 1) c9)) A9 c9 r2.val := by
    subst hL
    refine ⟨heap_setCell_same _ _ _ _ _ _ hb9, by rw [Array.size_setIfInBounds], ⟨by rw [set_ne (by omega)]; exact h6.c0, by rw [set_ne (by omega)]; exact h6.c1, by rw [hl9]; exact set_at hs1⟩, fun q h1 h2 => by rw [set_ne h2], ?_, ?_, fun k hk hkg hkv => ?_, hbw⟩
    · rw [hl9]
      refine ownsRow_of_block (w := w9) ?_ fun k hk => heap_setCell_other _ _ _ _ (hA9 k hk)
      rw [show intsZ (r2.s.sg ++ [xx]) = intsZ r2.s.sg ++ [.int .i64 xx] by simp [intsZ]]
      exact own9
    · rw [hl9]; exact hn9
    · rw [heap_setCell_other _ _ _ _ hkg, hK k hk hkv]
  refine ⟨hO.add h1 hQ, hbw, ?_⟩
  rw [heap_setCell_other _ _ _ _ (fun e => haw.1 e.symm)]
  exact hK gp hgp (fun e => haw.2 gp e.symm rfl)
def GotRs (w : World) (ss : List St) (e : Ending) (w' : World) : Prop := ∃ A c rs, e = .returned (.slice A ss.length c) ∧ Hid (rs.map Sr.s = ss) ∧ Hid (∃ base, w.heap.size ≤ base ∧ OwnRs w' base (.slice A ss.length c) rs) ∧ Below w.heap.size w w'

set_option maxHeartbeats 12800000 in
set_option maxRecDepth 100000 in
theorem rstretches_any (A B : Option Addr) (ca cb : Nat) (a b : List Int) (w : World) (hA : IntsIn w A a) (hB : IntsIn w B b) (hla : a.length ≤ 60) (hlb : b.length ≤ 60) :
    Calls Try.prog 59 #[.slice A a.length ca, .slice B b.length cb] w (GotRs w (strsQ a b)) := by
  have HAL := Lib.hid (ralign_any A B ca cb a b w hA hB hla hlb)
  have HIA := Lib.hid hA
  have HIB := Lib.hid hB
  have HPL := Lib.hid (show (pairsQ a b).length ≤ 120 from Nat.le_trans (prs_len a b _ 0 0) (by omega))
  have HOK := Lib.hid (prs_ok a b (a.length + b.length) 0 0)
  obtain ⟨n, hn⟩ : ∃ n, n = a.length := ⟨_, rfl⟩
  obtain ⟨m, hm⟩ : ∃ m, m = b.length := ⟨_, rfl⟩
  have HN := Lib.hid hn
  have HM := Lib.hid hm
  rw [← hn] at HAL hla ⊢
  rw [← hm] at HAL hlb ⊢
  clear hn hm hA hB
  go_enter Try.func59, Try.ntmps59
  go_wp2_with fail
  refine HAL.out.mono ?_; rintro e w2 ⟨A2, N, c2, rfl, hN, hps, hb2⟩
  have HB2 := Lib.hid hb2
  obtain ⟨bs2, hps2⟩ := hps.out
  obtain ⟨ps, hpsq⟩ : ∃ ps, ps = pairsQ a b := ⟨_, rfl⟩
  have HPS := Lib.hid hpsq
  have HNN := Lib.hid (show N = ps.length by rw [hN.out, hpsq])
  have HPO := Lib.hid (show w2.ownsRow bs2 28 2 (.slice A2 N c2) N (ps.flatMap pairC) by rw [hpsq]; exact hps2)
  have hN2 : N ≤ 120 := by rw [hN.out]; exact HPL.out
  clear hps hps2 hb2 hpsq hN HPL HAL
  go_wp2_with fail
  go_loopw [7, 8, 9, 10] (fun v u G i wr => ∃ (k pl : Nat) (ins : Bool) (all : List St) (rs : List Sr), k ≤ N ∧ i = .int .i64 k ∧ u = .int .i64 pl ∧ G = .bool ins ∧ Hid ((⟨pl, !ins, all⟩ : Sts) = stsL a b (ps.take k)) ∧ Hid (rs.map Sr.s = all) ∧ Hid (OwnRs wr w2.heap.size v rs) ∧ Hid (Below w2.heap.size w2 wr)) (fun _ _ _ i _ => N - (intOf i).toNat)
  case atStart => exact ⟨0, 0, false, [], [], Nat.zero_le _, rfl, rfl, rfl, Lib.hid rfl, Lib.hid rfl, Lib.hid (OwnRs.nil _ _), Lib.hid (Below.refl _ _)⟩
  case round =>
    obtain ⟨k, pl, ins, all, rs, hk, rfl, rfl, rfl, hs, hrs, hown, hb⟩ := hrel
    by_cases hlt : k < N
    · have hkl : k < ps.length := by have := HNN.out; omega
      obtain ⟨⟨x, y⟩, hxy⟩ : ∃ r, r = ps[k] := ⟨_, rfl⟩
      have HP := Lib.hid (show okP a.length b.length (x, y) from HOK.out _ (by rw [hxy]; have := HPS.out; subst this; exact List.getElem_mem _))
      have HTK := Lib.hid (show ps.take (k + 1) = ps.take k ++ [(x, y)] by rw [List.take_succ_eq_append_getElem hkl, hxy])
      have HSK := Lib.hid (show StsOk (⟨pl, !ins, all⟩ : Sts) k by rw [hs.out]; exact sts_ok a b k _ (by rw [List.length_take]; omega))
      obtain ⟨A3, c3, hv3, -, -, h3, h4⟩ := own_slice HPO.out
      injection hv3 with e1 e2 e3
      subst e1 e3
      cases A2 with
      | none => have := h4 rfl; omega
      | some ad =>
      obtain ⟨g2, rfl, -, hg2, hc2⟩ := h3 ad rfl
      have hat : ps[k]? = some (x, y) := by rw [List.getElem?_eq_getElem hkl, hxy]
      have q0 := hc2 (k * 2 + 0) (.int .i64 x) (by rw [flat_at (f := pairC) (c := 2) (fun _ => rfl) ps k _ hat 0 (by omega)]; rfl)
      have q1 := hc2 (k * 2 + 1) (.int .i64 y) (by rw [flat_at (f := pairC) (c := 2) (fun _ => rfl) ps k _ hat 1 (by omega)]; rfl)
      have p0 : wr.cell? ⟨g2, k * 2, none⟩ = some (.int .i64 x) := ((bcell hb.out).1 _ _ hg2).trans q0
      have p1 : wr.cell? ⟨g2, k * 2 + 1, none⟩ = some (.int .i64 y) := ((bcell hb.out).1 _ _ hg2).trans q1
      have hg2r : g2 < wr.heap.size := Nat.lt_of_lt_of_le hg2 hb.out.size
      obtain ⟨V, hV⟩ : ∃ V, V = wr.alloc (.cells #[.int .i64 x, .int .i64 y] 28) := ⟨_, rfl⟩
      have kV := Lib.hid (show Below wr.heap.size wr V from hV ▸ below_alloc _ _)
      have DV := Lib.hid (show V.heap[wr.heap.size]? = some (.cells #[.int .i64 x, .int .i64 y] 28 (0, 0)) from hV ▸ heap_alloc_new _ _)
      clear h3 h4 hc2 q0 q1 hat hxy hkl hg2
      go_upto_region 8 with fail
      rw [← hV]
      clear hV p0 p1 hg2r
      obtain ⟨F, hF⟩ : ∃ F, F = agr a b (x, y) := ⟨_, rfl⟩
      have HF := Lib.hid hF
      have BV := Lib.hid (below_more HB2.out (below_more hb.out kV.out))
      have vx := cell_of_blk DV.out 0
      have vy := cell_of_blk DV.out 1
      have vz := (Array.getElem?_eq_some_iff.1 DV.out).1
      simp at vx vy
      clear hF
      go_cut [49] (fun t X => t = .bool F ∧ Hid (Below V.heap.size V X))
      case first =>
        obtain ⟨h1, h2, -⟩ := HP.out
        dsimp only at h1 h2
        rcases h1 with rfl | ⟨h1, h1'⟩
        · have e1 : ¬ ((0 : Int) ≤ -1) := by decide
          have HFF := Lib.hid (show F = false by rw [HF.out]; rfl)
          clear h2
          go_region
          go_wp2_with fail
          all_goals (go_meet; exact ⟨by rw [HFF.out], Lib.hid (below_drew _)⟩)
        · obtain ⟨x, rfl⟩ := Int.eq_ofNat_of_zero_le h1
          have e1 : (0 : Int) ≤ (x : Int) := by omega
          rcases h2 with rfl | ⟨h2, h2'⟩
          · have e2 : ¬ ((0 : Int) ≤ -1) := by decide
            have HFF := Lib.hid (show F = false by rw [HF.out]; simp [agr])
            clear h1 h1'
            go_region
            go_wp2_with fail
            all_goals (go_meet; exact ⟨by rw [HFF.out], Lib.hid (below_drew _)⟩)
          · obtain ⟨y, rfl⟩ := Int.eq_ofNat_of_zero_le h2
            have e2 : (0 : Int) ≤ (y : Int) := by omega
            have hxa : x < a.length := by omega
            have hyb : y < b.length := by omega
            obtain ⟨ba, oa, rfl, hba, ha⟩ := (HIA.out.below BV.out) x a[x] (List.getElem?_eq_getElem hxa)
            obtain ⟨bb, ob, rfl, hbb, hbv⟩ := (HIB.out.below BV.out) y b[y] (List.getElem?_eq_getElem hyb)
            have HFF := Lib.hid (show F = (a[x] == b[y]) by
              rw [HF.out]; unfold agr
              have h1 : ¬ ((x : Int) = -1) := by omega
              have h2 : ¬ ((y : Int) = -1) := by omega
              simp [h1, h2, hxa, hyb])
            obtain ⟨s, hss⟩ : ∃ s, s = a[x] := ⟨_, rfl⟩
            obtain ⟨t, htt⟩ : ∃ t, t = b[y] := ⟨_, rfl⟩
            rw [← hss] at ha HFF
            rw [← htt] at hbv HFF
            have hxn : (x : Int) < (n : Int) := by have := HN.out; omega
            have hyn : (y : Int) < (m : Int) := by have := HM.out; omega
            clear hss htt h1 h2 h1' h2' hxa hyb
            by_cases hst : s = t
            · have e3 : (s == t) = true := by simpa using hst
              rw [e3] at HFF
              go_region
              go_wp2_with fail
              all_goals (go_meet; exact ⟨by rw [HFF.out], Lib.hid (below_drew _)⟩)
            · have e3 : (s == t) = false := by simpa using hst
              rw [e3] at HFF
              go_region
              go_wp2_with fail
              all_goals (go_meet; exact ⟨by rw [HFF.out], Lib.hid (below_drew _)⟩)
      case rest =>
        obtain ⟨rfl, hX⟩ := hcut
        have DX := Lib.hid (blk_keep hX.out DV.out)
        have HNX := Lib.hid (show stsL a b (ps.take (k + 1)) = if F = true then (⟨adv x pl, true, all⟩ : Sts) else ⟨adv x pl, false, if (!ins) = true then all ++ [St.add b ⟨pl, 0, []⟩ (x, y)] else lastF (St.add b · (x, y)) all⟩ by
          rw [HTK.out, stsL_snoc, ← hs.out, HF.out]; rfl)
        have HO := Lib.hid ((hown.out.below kV.out).below hX.out)
        have HBX := Lib.hid (below_more hb.out (below_more kV.out hX.out))
        have HVX := Lib.hid (show wr.heap.size < wc.heap.size from Nat.lt_of_lt_of_le vz hX.out.size)
        have HVO := Lib.hid (show ∀ k, u7.ownBlock = some k → k < wr.heap.size from fun k hk => (hown.out.own.lt k hk).2)
        have HVI := Lib.hid (show ∀ r ∈ rs, ∀ k, r.val.ownBlock = some k → k < wr.heap.size from fun r hr k hk => ((hown.out.ok r hr).1.lt k hk).2)
        have hpl : pl ≤ 200 := by have := HSK.out.pl; dsimp only at this; omega
        clear vx vy vz hown HTK
        cases F with
        | true =>
          have e1 := agr_ne HF.out.symm
          have hadv := Lib.hid (show adv x pl = pl + 1 by unfold adv; rw [if_neg (by simpa using e1)])
          clear e1
          go_wp2
          go_roundw
          case rel => exact ⟨k + 1, pl + 1, false, all, rs, by omega, by go_num, by go_num, rfl, Lib.hid (by rw [HNX.out, if_pos rfl, hadv.out]; rfl), hrs, HO, HBX⟩
          case measure => simp [intOf]; omega
        | false =>
          obtain ⟨ist, hist, hzst, hsst, hbst⟩ := info_hid infoRs
          have hrl : rs.length ≤ 120 := by have := HSK.out.len; dsimp only at this; rw [← hrs.out, List.length_map] at this; omega
          obtain ⟨X, hXX⟩ : ∃ X, X = wc := ⟨_, rfl⟩
          rw [← hXX] at DX HO HBX HVX ⊢
          clear hX hXX
          go_upto_region 10 with fail
          go_cut [53] (fun t Y => t = .bool (!ins) ∧ Y = X)
          case first =>
            cases ins
            all_goals
              go_wp2_with fail
              all_goals (go_meet; exact ⟨rfl, rfl⟩)
          case rest =>
            obtain ⟨rfl, hYX⟩ := hcut
            rw [hYX]
            clear hYX
            go_upto_if 53 with fail
            go_cut [7, 9] (fun v t Y => ∃ (g5 L c5 : Nat) (rs2 : List Sr) (r2 : Sr), v = .slice (some ⟨g5, 0, none⟩) (L + 1) c5 ∧ t = .bool true ∧ Hid (Half w2 Y w2.heap.size wr.heap.size g5 L c5 rs2 r2 x y) ∧ Hid ((if (!ins) = true then all ++ [St.add b ⟨pl, 0, []⟩ (x, y)] else lastF (St.add b · (x, y)) all) = (rs2.map Sr.s) ++ [St.add b r2.s (x, y)]) ∧ Hid (r2.s.ext ≤ 120 ∧ r2.s.sg.length ≤ 120))
            case first =>
              have hws : w2.heap.size ≤ X.heap.size := HBX.out.size
              cases ins with
              | false =>
                have own2 := Lib.hid (HO.out.own.alloc (.cells #[.int .i64 pl, .int .i64 0, .slice none 0 0] 107))
                go_wp2_with (first
                  | (at_builtin; refine wpList_append_src _ rfl (.tmp 54) (.tmp 57) 104 rfl w2.heap.size 107 ist (.agg #[.int .i64 0, .int .i64 0, .slice none 0 0]) 3 40 Try.underlying104 hist.out hzst.out hsst.out hbst.out rfl (by decide) u7 rs.length (rs.flatMap Sr.cells) rfl own2.out (some ⟨X.heap.size, 0, none⟩) 1 1 [.int .i64 pl, .int .i64 0, .slice none 0 0] rfl rfl pair_some (rs_new pl) (st_one pl) (by unfold maxLen; omega) (by omega) (by simp; omega) (rs.length + 1) rfl ?_))
                intro A3 c3 w3 own3 hg3 hn3
                have HG3 := Lib.hid hg3
                have HN3 := Lib.hid hn3
                have HO3 := Lib.hid own3
                clear own3 hg3 hn3
                have HS3 := Lib.hid (OwnRs.snoc (at' := pl) (HO.out.below (below_alloc X (.cells #[.int .i64 pl, .int .i64 0, .slice none 0 0] 107))) rfl HG3.out (by rcases HN3.out with h | h; exact .inl h; exact .inr (by rw [h]; simp)) HO3.out)
                have HO3' := HO3.out
                obtain ⟨A4, c4, hv4, -, -, h3, h4⟩ := own_slice HO3'
                injection hv4 with e1 e2 e3
                subst e1 e3
                cases A3 with
                | none => have := h4 rfl; omega
                | some ad =>
                obtain ⟨g5, rfl, -, -, -⟩ := h3 ad rfl
                have HK3 := Lib.hid (show g5 ≠ wr.heap.size by
                  rcases HN3.out with h | h
                  · have := HVO.out g5 (by rw [← h]; rfl); omega
                  · have h : some g5 = some (X.heap.size + 1) := h
                    injection h with h; have := HVX.out; omega)
                have HB3 := Lib.hid ((HBX.out.alloc hws (.cells #[.int .i64 pl, .int .i64 0, .slice none 0 0] 107)).grown HG3.out (by simp; omega) (fun g hg => (own2.out.lt g hg).1))
                have HD3 := Lib.hid (show w3.heap[wr.heap.size]? = some (.cells #[.int .i64 x, .int .i64 y] 28 (0, 0)) from
                  (HG3.out.block wr.heap.size (by have := HVX.out; simp; omega) (fun e => by have := HVO.out _ e.symm; omega)).trans ((heap_alloc_other _ _ _ HVX.out).trans DX.out))
                have HH := Lib.hid (show Half w2 w3 w2.heap.size wr.heap.size g5 rs.length c3 rs ⟨⟨pl, 0, []⟩, none, 0⟩ x y from ⟨rfl, HS3.out, ⟨Nat.zero_le _, Nat.zero_le _, hrl⟩, ⟨HK3.out, fun k hk => by cases hk⟩, HB3.out, HD3.out⟩)
                clear h3 h4 HO3' own2
                go_wp2_with fail
                all_goals (go_meet; exact ⟨g5, rs.length, c3, rs, ⟨⟨pl, 0, []⟩, none, 0⟩, rfl, rfl, HH, Lib.hid (by rw [← hrs.out]; rfl), Lib.hid ⟨Nat.zero_le _, Nat.zero_le _⟩⟩)
              | true =>
                have hne := HSK.out.some rfl
                have hne2 : rs ≠ [] := fun e => hne (by rw [← hrs.out, e]; rfl)
                obtain ⟨rs2, r2, rfl⟩ : ∃ l p, rs = l ++ [p] := ⟨_, _, (List.dropLast_concat_getLast hne2).symm⟩
                have HO4 := HO.out.own
                obtain ⟨A4, c4, hv4, -, -, h3, h4⟩ := own_slice HO4
                cases A4 with
                | none => have := h4 rfl; simp at this
                | some ad =>
                obtain ⟨g5, rfl, -, -, -⟩ := h3 ad rfl
                have hl4 : (rs2 ++ [r2]).length = rs2.length + 1 := by simp
                rw [hl4] at hv4 hrl
                subst hv4
                have HEE := Lib.hid (show (if (!true) = true then all ++ [St.add b ⟨pl, 0, []⟩ (x, y)] else lastF (St.add b · (x, y)) all) = (rs2.map Sr.s) ++ [St.add b r2.s (x, y)] by
                  rw [if_neg (by decide), ← hrs.out, List.map_append, List.map_singleton, lastF_snoc])
                have HBD := Lib.hid (show r2.s.ext ≤ 120 ∧ r2.s.sg.length ≤ 120 by have := HSK.out.each r2.s (by dsimp only; rw [← hrs.out]; simp); omega)
                have HH := Lib.hid (show Half w2 X w2.heap.size wr.heap.size g5 rs2.length c4 rs2 r2 x y from ⟨rfl, HO.out, ⟨by have := HBD.out.1; omega, by have := HBD.out.2; omega, by omega⟩, ⟨(fun e => by have := HVO.out g5 rfl; omega), fun k hk e => by have := HVI.out r2 (by simp) k hk; omega⟩, HBX.out, DX.out⟩)
                clear h3 h4 HO4 hne hne2 hl4
                go_wp2_with fail
                all_goals (go_meet; exact ⟨g5, rs2.length, c4, rs2, r2, rfl, rfl, HH, HEE, HBD⟩)
            case rest =>
              obtain ⟨g5, L, c5, rs2, r2, rfl, rfl, hH, hE, hbd⟩ := hcut
              obtain ⟨X2, hX2⟩ : ∃ X2, X2 = wc := ⟨_, rfl⟩
              rw [← hX2] at hH ⊢
              clear hX2
              have i1 : ((L + 1 : Nat) : Int) - 1 = (L : Int) := by omega
              have hL1 := hH.out.small.2.2
              have HWR := Lib.hid (show IntKind.i64.wrap (((L + 1 : Nat) : Int) - 1) = (L : Int) by rw [i1]; exact IntWalk.i64_in _ (by omega))
              have d0 := cell_of_blk hH.out.pair 0
              have dz := (Array.getElem?_eq_some_iff.1 hH.out.pair).1
              simp at d0
              have i2 : L < L + 1 := by omega
              have i3 : (L : Int) < ((L + 1 : Nat) : Int) := by omega
              have i4 : 0 ≤ ((L + 1 : Nat) : Int) - 1 := by omega
              have hw := HWR.out
              obtain ⟨xb, hxb⟩ : ∃ xb, xb = decide ((0 : Int) ≤ x) := ⟨_, rfl⟩
              have HXB := Lib.hid hxb
              clear hxb
              go_upto_region 14 with fail
              go_cut [66] (fun t Y => t = .bool xb ∧ Y = X2)
              case first =>
                by_cases h0 : (0 : Int) ≤ x
                · have hx := Lib.hid (show xb = true by rw [HXB.out]; simpa using h0)
                  go_wp2_with fail
                  all_goals (go_meet; exact ⟨by rw [hx.out], rfl⟩)
                · have hx := Lib.hid (show xb = false by rw [HXB.out]; simpa using h0)
                  go_wp2_with fail
                  all_goals (go_meet; exact ⟨by rw [hx.out], rfl⟩)
              case rest =>
              obtain ⟨rfl, hYX⟩ := hcut
              rw [hYX]
              clear hYX d0 dz
              go_upto_if 66 with fail
              go_cut [8] (fun u Y => ∃ (r3 : Sr), u = .int .i64 (adv x pl : Nat) ∧ Hid (Half w2 Y w2.heap.size wr.heap.size g5 L c5 rs2 r3 x y) ∧ Hid (St.add b r2.s (x, y) = St.add b r3.s (-1, y)) ∧ Hid (r3.s.sg.length ≤ 120))
              case first =>
                rcases HP.out.1 with hx | ⟨hx, -⟩
                · dsimp only at hx
                  have hxx := Lib.hid hx
                  obtain rfl : xb = false := by rw [HXB.out, hx]; decide
                  have hadv := Lib.hid (show adv x pl = pl by unfold adv; rw [if_pos hx])
                  clear hx
                  go_wp2_with fail
                  all_goals (go_meet; exact ⟨r2, by rw [hadv.out], hH, Lib.hid (by rw [hxx.out]), Lib.hid hbd.out.2⟩)
                · dsimp only at hx
                  have hxx := Lib.hid (show ¬ x = -1 by omega)
                  obtain rfl : xb = true := by rw [HXB.out]; simpa using hx
                  have hadv := Lib.hid (show adv x pl = pl + 1 by unfold adv; rw [if_neg hxx.out])
                  obtain ⟨hq, hbg, cur, h1, -, -, -, -, h6⟩ := hH.out.own.last
                  have c1 : X2.cell? ⟨g5, L * 3 + 1, none⟩ = some (.int .i64 r2.s.ext) := (cell_of_blk h1 _).trans (by rw [hH.out.len]; exact h6.c1)
                  have f1 : X2.frozen? ⟨g5, L * 3 + 1, none⟩ = false := free_of_blk h1 _
                  have hgl : g5 < X2.heap.size := (Array.getElem?_eq_some_iff.1 h1).1
                  have hb1 := hbd.out.1
                  clear hx h1 h6 hq hbg
                  go_wp2_with fail
                  all_goals (go_meet; exact ⟨⟨⟨r2.s.at', r2.s.ext + 1, r2.s.sg⟩, r2.A, r2.c⟩, by rw [hadv.out]; go_num, Lib.hid (hH.out.more hb1), Lib.hid (by unfold St.add; dsimp only; rw [if_neg hxx.out, if_pos rfl]), Lib.hid hbd.out.2⟩)
              case rest =>
                obtain ⟨r3, rfl, hH3, hE3, hb3⟩ := hcut
                obtain ⟨X3, hX3⟩ : ∃ X3, X3 = wc := ⟨_, rfl⟩
                rw [← hX3] at hH3 ⊢
                clear hX3 hH hbd
                have d0 := cell_of_blk hH3.out.pair 1
                have dz := (Array.getElem?_eq_some_iff.1 hH3.out.pair).1
                simp at d0
                rcases HP.out.2.1 with hy | ⟨hy, hyb⟩
                · dsimp only at hy
                  subst hy
                  have e1 : ¬ ((0 : Int) ≤ -1) := by decide
                  have HS3 := Lib.hid (show St.add b r2.s (x, -1) = r3.s by rw [hE3.out]; unfold St.add; rfl)
                  go_wp2
                  go_roundw
                  case rel => exact ⟨k + 1, adv x pl, true, _, rs2 ++ [r3], by omega, by go_num, rfl, rfl, Lib.hid (by rw [HNX.out, if_neg (by decide)]; rfl), Lib.hid (by rw [hE.out, List.map_append, HS3.out]; rfl), by have := hH3.out.own; rw [hH3.out.len] at this; exact Lib.hid (by rw [hH3.out.len]; exact this), Lib.hid hH3.out.bel⟩
                  case measure => simp [intOf]; omega
                · dsimp only at hy hyb
                  obtain ⟨y, rfl⟩ := Int.eq_ofNat_of_zero_le hy
                  have e1 : (0 : Int) ≤ (y : Int) := hy
                  have hyl : y < b.length := by omega
                  obtain ⟨bb, oo, rfl, hbb, hcb0⟩ := HIB.out y b[y] (List.getElem?_eq_getElem hyl)
                  have hcb := ((below_more HB2.out hH3.out.bel).cell (p := ⟨bb, _, none⟩) hbb).trans hcb0
                  have hbb2 : bb < w2.heap.size := Nat.lt_of_lt_of_le hbb HB2.out.size
                  have HS3 := Lib.hid (show St.add b r2.s (x, (y : Int)) = ⟨r3.s.at', r3.s.ext, r3.s.sg ++ [b[y]]⟩ by
                    rw [hE3.out]; unfold St.add
                    have h2 : ¬ ((y : Int) = -1) := by omega
                    simp [h2, hyl])
                  obtain ⟨xx, hxx⟩ : ∃ xx, xx = b[y] := ⟨_, rfl⟩
                  rw [← hxx] at hcb HS3
                  have hyn : (y : Int) < (m : Int) := by have := HM.out; omega
                  obtain ⟨iv, hiv, hzv, hsv, hbv⟩ := info_hid infoInt
                  clear hxx hcb0 hyl hy hyb
                  go_upto_region 18 with fail
                  obtain ⟨hq, hbg, cur, h1, -, -, -, -, h6⟩ := hH3.out.own.last
                  have hr := Lib.hid (hH3.out.own.ok r3 (by simp))
                  have hne : ∀ k, r3.val.ownBlock = some k → k ≠ g5 := fun k hk e => hr.out.2 k hk (by rw [e]; rfl)
                  have HNE := Lib.hid hne
                  have HAW := Lib.hid hH3.out.away.2
                  have HZG := Lib.hid h1
                  have hgz : g5 < X3.heap.size := (Array.getElem?_eq_some_iff.1 h1).1
                  have hbz : bb < X3.heap.size := Nat.lt_of_lt_of_le hbb2 hH3.out.bel.size
                  have zS : X3.cell? ⟨g5, L * 3 + 2, none⟩ = some (.slice r3.A r3.s.sg.length r3.c) := (cell_of_blk h1 _).trans (by rw [hH3.out.len]; exact h6.c2)
                  have HNB := Lib.hid (show ¬ some bb = r3.val.ownBlock from fun e => by have := (hr.out.1.lt _ e.symm).1; omega)
                  have HZN := Lib.hid (show w2.heap.size ≤ (X3.alloc (.cells #[.int .i64 xx] 3)).drew.heap.size by have := hH3.out.bel.size; simp; omega)
                  have HZA := Lib.hid (show (X3.alloc (.cells #[.int .i64 xx] 3)).drew.cell? ⟨g5, L * 3 + 2, none⟩ = some (.slice r3.A r3.s.sg.length r3.c) ∧ (X3.alloc (.cells #[.int .i64 xx] 3)).drew.cell? ⟨wr.heap.size, 1, none⟩ = some (.int .i64 y) ∧ (X3.alloc (.cells #[.int .i64 xx] 3)).drew.cell? ⟨bb, oo + y, none⟩ = some (.int .i64 xx) from
                    ⟨(World.cell?_of_block (a := ⟨g5, L * 3 + 2, none⟩) (heap_alloc_other _ _ g5 (by omega))).trans zS, (World.cell?_of_block (a := ⟨wr.heap.size, 1, none⟩) (heap_alloc_other _ _ wr.heap.size (by omega))).trans d0, (World.cell?_of_block (a := ⟨bb, oo + y, none⟩) (heap_alloc_other _ _ bb (by omega))).trans hcb⟩)
                  have HXA := Lib.hid (show (X3.alloc (.cells #[.int .i64 xx] 3)).drew.ownsRow w2.heap.size 3 1 (.slice r3.A r3.s.sg.length r3.c) r3.s.sg.length (intsZ r3.s.sg) from (World.ownsRow.alloc hr.out.1 _).drew)
                  have HNR := Lib.hid (show ∀ ad, (some ⟨X3.heap.size, 0, none⟩ : Option Addr) = some ad → ∀ (j : Nat) u, [Value.int .i64 xx][j]? = some u → (X3.alloc (.cells #[.int .i64 xx] 3)).drew.cell? (ad.add j) = some u from fun ad h j u hj => by
                    have h := Option.some.inj h
                    subst h
                    exact new_cells X3 [.int .i64 xx] 3 j u hj)
                  have HN1 := Lib.hid (show ∀ u ∈ [Value.int .i64 xx], u.oneCell' = true from fun u hu => by simp at hu; subst hu; rfl)
                  have HK9 := Lib.hid (fun w9 (hg9 : (X3.alloc (.cells #[.int .i64 xx] 3)).drew.grownBy w9 r3.val.ownBlock) k (hk : k < X3.heap.size) (hne : some k ≠ r3.val.ownBlock) => show w9.heap[k]? = (X3.alloc (.cells #[.int .i64 xx] 3)).drew.heap[k]? from hg9.block k (by simp; omega) hne)
                  have HFZ := Lib.hid (show (X3.alloc (.cells #[.int .i64 xx] 3)).drew.frozen? ⟨g5, L * 3 + 2, none⟩ = false from (World.frozen?_of_block (a := ⟨g5, L * 3 + 2, none⟩) (heap_alloc_other _ _ g5 hgz)).trans (free_of_blk HZG.out _))
                  have hsg3 := hb3.out
                  have HS : X3.drew.cell? ⟨g5, L * 3 + 2, none⟩ = some (.slice r3.A r3.s.sg.length r3.c) ∧ X3.drew.cell? ⟨wr.heap.size, 1, none⟩ = some (.int .i64 y) ∧ X3.drew.cell? ⟨bb, oo + y, none⟩ = some (.int .i64 xx) := ⟨zS, d0, hcb⟩
                  clear h1 h6 hq hbg hne zS d0 hcb hr
                  refine wp_region_tillZ (fun wx => wx.cell? ⟨g5, L * 3 + 2, none⟩ = some (.slice r3.A r3.s.sg.length r3.c) ∧ wx.cell? ⟨wr.heap.size, 1, none⟩ = some (.int .i64 y) ∧ wx.cell? ⟨bb, oo + y, none⟩ = some (.int .i64 xx)) 14 (by kernel_rfl) ?_
                  refine tillZ_take (i := 0) (v := ?_) rfl (by kernel_rfl) (by kernel_rfl) (by kernel_rfl) (by kernel_rfl) (fun _ _ _ h => h) (Or.inl ⟨by rfl, ?_⟩) HS ?_
                  case refine_2 => (intro wx hSw; obtain ⟨s1, s2, s3⟩ := hSw; go_simp; try with_reducible rfl)
                  refine tillZ_take (i := 1) (v := ?_) rfl (by kernel_rfl) (by kernel_rfl) (by kernel_rfl) (by kernel_rfl) (fun _ _ _ h => h) (Or.inl ⟨by rfl, ?_⟩) HS ?_
                  case refine_2 => (intro wx hSw; obtain ⟨s1, s2, s3⟩ := hSw; go_simp; try with_reducible rfl)
                  refine tillZ_take (i := 2) (v := ?_) rfl (by kernel_rfl) (by kernel_rfl) (by kernel_rfl) (by kernel_rfl) (fun _ _ _ h => h) (Or.inl ⟨by rfl, ?_⟩) HS ?_
                  case refine_2 => (intro wx hSw; obtain ⟨s1, s2, s3⟩ := hSw; go_simp; try with_reducible rfl)
                  refine tillZ_take (i := 3) (v := ?_) rfl (by kernel_rfl) (by kernel_rfl) (by kernel_rfl) (by kernel_rfl) (fun _ _ _ h => h) (Or.inl ⟨by rfl, ?_⟩) HS ?_
                  case refine_2 => (intro wx hSw; obtain ⟨s1, s2, s3⟩ := hSw; go_simp; try with_reducible rfl)
                  refine tillZ_take (i := 4) (v := ?_) rfl (by kernel_rfl) (by kernel_rfl) (by kernel_rfl) (by kernel_rfl) (fun _ _ _ h => h) (Or.inl ⟨by rfl, ?_⟩) HS ?_
                  case refine_2 => (intro wx hSw; obtain ⟨s1, s2, s3⟩ := hSw; go_simp; try with_reducible rfl)
                  refine tillZ_take (i := 5) (v := ?_) rfl (by kernel_rfl) (by kernel_rfl) (by kernel_rfl) (by kernel_rfl) (fun _ _ _ h => h) (Or.inl ⟨by rfl, ?_⟩) HS ?_
                  case refine_2 => (intro wx hSw; obtain ⟨s1, s2, s3⟩ := hSw; go_simp; try with_reducible rfl)
                  refine tillZ_take (i := 6) (v := ?_) rfl (by kernel_rfl) (by kernel_rfl) (by kernel_rfl) (by kernel_rfl) (fun _ _ _ h => h) (Or.inl ⟨by rfl, ?_⟩) HS ?_
                  case refine_2 => (intro wx hSw; obtain ⟨s1, s2, s3⟩ := hSw; go_simp; try with_reducible rfl)
                  refine tillZ_take (i := 7) (v := ?_) rfl (by kernel_rfl) (by kernel_rfl) (by kernel_rfl) (by kernel_rfl) (fun _ _ _ h => h) (Or.inl ⟨by rfl, ?_⟩) HS ?_
                  case refine_2 => (intro wx hSw; obtain ⟨s1, s2, s3⟩ := hSw; go_simp; try with_reducible rfl)
                  refine tillZ_take (i := 8) (v := ?_) rfl (by kernel_rfl) (by kernel_rfl) (by kernel_rfl) (by kernel_rfl) (fun _ _ _ h => h) (Or.inl ⟨by rfl, ?_⟩) HS ?_
                  case refine_2 => (intro wx hSw; obtain ⟨s1, s2, s3⟩ := hSw; go_simp; try with_reducible rfl)
                  refine tillZ_take (i := 9) (v := ?_) rfl (by kernel_rfl) (by kernel_rfl) (by kernel_rfl) (by kernel_rfl) (fun _ _ _ h => h) (Or.inl ⟨by rfl, ?_⟩) HS ?_
                  case refine_2 => (intro wx hSw; obtain ⟨s1, s2, s3⟩ := hSw; go_simp; try with_reducible rfl)
                  have zA := HZA.out.1
                  have zA2 := HZA.out.2.1
                  have zA3 := HZA.out.2.2
                  refine tillZ_step (i := 10) (by kernel_rfl) rfl (fun K hK => ?_)
                  go_simp
                  refine hK.out _ _ (.inr ⟨zA, zA2, zA3⟩) ?_
                  clear hK K HS
                  refine tillZ_step (i := 11) (by kernel_rfl) rfl (fun K hK => ?_)
                  refine step_append_src2 _ rfl (.tmp 83) (.tmp 89) 22 rfl w2.heap.size 3 iv (.int .i64 0) 1 8 Try.underlying22 hiv.out hzv.out hsv.out hbv.out rfl (by decide) (.slice r3.A r3.s.sg.length r3.c) r3.s.sg.length (intsZ r3.s.sg) rfl HXA.out (some ⟨X3.heap.size, 0, none⟩) 1 1 [.int .i64 xx] rfl rfl (fun h => by cases h) HNR.out HN1.out (by unfold maxLen; omega) (by omega) HZN.out (r3.s.sg.length + 1) rfl ?_
                  intro A9 c9 w9 own9 hg9 hn9
                  have k1 := (World.cell?_of_block (a := ⟨g5, L * 3 + 2, none⟩) (HK9.out w9 hg9 g5 hgz (fun e => HNE.out g5 e.symm rfl))).trans zA
                  have k2 := (World.cell?_of_block (a := ⟨wr.heap.size, 1, none⟩) (HK9.out w9 hg9 wr.heap.size dz (fun e => HAW.out _ e.symm rfl))).trans zA2
                  have k3 := (World.cell?_of_block (a := ⟨bb, oo + y, none⟩) (HK9.out w9 hg9 bb hbz HNB.out)).trans zA3
                  have hf9 : w9.frozen? ⟨g5, L * 3 + 2, none⟩ = false := (World.frozen?_of_block (a := ⟨g5, L * 3 + 2, none⟩) (HK9.out w9 hg9 g5 hgz (fun e => HNE.out g5 e.symm rfl))).trans HFZ.out
                  have HSG := Lib.hid (hH3.out.sign (xx := xx) (A9 := A9) (c9 := c9) (w9 := w9) hg9 (by
                    rcases hn9 with h | h
                    · exact .inl h
                    · exact .inr ⟨_, h, by simp⟩) own9)
                  have hg9l : g5 < w9.heap.size := by have := hg9.size; simp at this; omega
                  have HS : w9.cell? ⟨g5, L * 3 + 2, none⟩ = some (.slice r3.A r3.s.sg.length r3.c) ∧ w9.cell? ⟨wr.heap.size, 1, none⟩ = some (.int .i64 y) ∧ w9.cell? ⟨bb, oo + y, none⟩ = some (.int .i64 xx) := ⟨k1, k2, k3⟩
                  clear own9 hg9 hn9
                  refine hK.out _ _ (.inr HS) ?_
                  clear hK K
                  refine tillZ_step (i := 12) (by kernel_rfl) rfl (fun K hK => ?_)
                  go_simp
                  refine hK.out _ _ (.inr HS) ?_
                  clear hK K
                  refine tillZ_take (i := 13) (v := ?_) rfl (by kernel_rfl) (by kernel_rfl) (by kernel_rfl) (by kernel_rfl) (fun _ _ _ h => h) (Or.inl ⟨by rfl, ?_⟩) HS ?_
                  case refine_2 => (intro wx hSw; obtain ⟨s1, s2, s3⟩ := hSw; go_simp; try with_reducible rfl)
                  refine tillZ_step (i := 14) (by kernel_rfl) rfl (fun K hK => ?_)
                  go_simp
                  refine hK.out _ _ (.inl rfl) ?_
                  clear hK K
                  refine tillZ_done (by kernel_rfl) ?_ _
                  go_wp2
                  go_roundw
                  case rel => exact ⟨k + 1, adv x pl, true, _, rs2 ++ [⟨⟨r3.s.at', r3.s.ext, r3.s.sg ++ [xx]⟩, A9, c9⟩], by omega, by go_num, rfl, rfl, Lib.hid (by rw [HNX.out, if_neg (by decide)]; rfl), Lib.hid (by rw [hE.out, List.map_append, HS3.out]; rfl), Lib.hid HSG.out.1, Lib.hid (hH3.out.bel.trans (HSG.out.2.1))⟩
                  case measure => simp [intOf]; omega
    · have hkN : k = N := by omega
      subst hkN
      have he := Lib.hid (show all = strsQ a b by
        have := hs.out
        rw [List.take_of_length_le (by have := HNN.out; omega), HPS.out] at this
        unfold strsQ; rw [← this])
      have hrl := Lib.hid (show rs.length = (strsQ a b).length by rw [← he.out, ← hrs.out, List.length_map])
      have HO := hown.out.own
      obtain ⟨A4, c4, hv4, -, -, -, -⟩ := own_slice HO
      subst hv4
      have HW := hown.out
      rw [hrl.out] at HW ⊢
      clear HO
      go_wp2
      go_ret
      exact ⟨A4, c4, rs, rfl, Lib.hid (by rw [hrs.out, he.out]), Lib.hid ⟨_, HB2.out.size, HW⟩, below_more HB2.out hb.out⟩

end Go.Proofs.Ytcpfhaoecggflaa
