/-
  The program's stretches of two lines (layer 9).
-/
import Derived.Test.YtcpfhaoecggflaaZStM
import Derived.Test.YtcpfhaoecggflaaZPrs
namespace Go.Proofs.Ytcpfhaoecggflaa
open Go.RowKit

/-- what is known of the stretches that are found behind so many pairs -/
structure StsOk (s : Sts) (k : Nat) : Prop where
  pl : s.pl ≤ k
  len : s.all.length ≤ k
  each : ∀ t ∈ s.all, t.ext ≤ k ∧ t.sg.length ≤ k
  some : s.ag = false → s.all ≠ []
theorem adv_le (p : Int) (i : Nat) : adv p i ≤ i + 1 := by unfold adv; split <;> omega
theorem add_le (b : List Int) (t : St) (p : Int × Int) (k : Nat) (h : t.ext ≤ k ∧ t.sg.length ≤ k) : (St.add b t p).ext ≤ k + 1 ∧ (St.add b t p).sg.length ≤ k + 1 := by
  unfold St.add
  dsimp only
  constructor
  · split <;> omega
  · split
    · omega
    · rw [List.length_append]; simp; omega
theorem sts_ok (a b : List Int) : ∀ (n : Nat) (ps : List (Int × Int)), ps.length = n → StsOk (stsL a b ps) n
  | 0, ps, h => by
    obtain rfl := List.eq_nil_of_length_eq_zero h
    exact ⟨Nat.le_refl _, Nat.le_refl _, (fun t h => by cases h), fun h => by cases h⟩
  | n + 1, ps, h => by
    obtain ⟨l, p, rfl⟩ : ∃ l p, ps = l ++ [p] := ⟨_, _, (List.dropLast_concat_getLast (by intro e; rw [e] at h; cases h)).symm⟩
    have hl : l.length = n := by simpa using h
    have ih := sts_ok a b n l hl
    rw [stsL_snoc]
    obtain ⟨h1, h2, h3, h4⟩ := ih
    generalize stsL a b l = s at h1 h2 h3 h4
    unfold Sts.next
    have ha := adv_le p.1 s.pl
    split
    · exact ⟨by dsimp only; omega, by dsimp only; omega, fun t ht => by have := h3 t ht; omega, fun h => by cases h⟩
    · cases hag : s.ag with
      | true =>
        refine ⟨by dsimp only; omega, by simp; omega, fun t ht => ?_, fun _ => by simp⟩
        simp at ht
        rcases ht with ht | rfl
        · have := h3 t ht; omega
        · exact add_le b _ p n ⟨Nat.zero_le _, Nat.zero_le _⟩
      | false =>
        have hne := h4 hag
        obtain ⟨r, t, e⟩ : ∃ r t, s.all = r ++ [t] := ⟨_, _, (List.dropLast_concat_getLast hne).symm⟩
        rw [e] at h2 h3
        refine ⟨by dsimp only; omega, ?_, fun u hu => ?_, fun _ => ?_⟩
        · simp only [Bool.false_eq_true, if_false]; rw [e, lastF_snoc]; simp at h2 ⊢; omega
        · simp only [Bool.false_eq_true, if_false] at hu
          rw [e, lastF_snoc] at hu
          rcases List.mem_append.1 hu with hu | hu
          · have := h3 u (by simp [hu]); omega
          · simp at hu; subst hu; exact add_le b t p n (h3 t (by simp))
        · simp only [Bool.false_eq_true, if_false]; rw [e, lastF_snoc]; simp

theorem infoSt : (Try.prog.info? 98).map (fun i => (i.zero, i.size, i.bytes)) = some (some (.agg #[.int .i64 0, .int .i64 0, .slice none 0 0]), 3, 40) := by kernel_rfl
theorem adv_two (x : Int) (la lb : Nat) (y : Int) (i : Nat) (h : okP la lb (x, y)) : ((x != -1) = false ∧ adv x i = i) ∨ ((x != -1) = true ∧ adv x i = i + 1) := by
  unfold adv
  by_cases e : x = -1
  · subst e; exact .inl ⟨by decide, rfl⟩
  · exact .inr ⟨by simpa using e, if_neg e⟩
theorem agr_ne {a b : List Int} {x y : Int} (h : agr a b (x, y) = true) : (x != -1) = true := by
  unfold agr at h
  simp only [Bool.and_eq_true, Bool.not_eq_true'] at h
  have := h.1.1
  simp at this ⊢
  exact this
theorem st_new {w : World} (at' : Nat) : ∀ ad, (some ⟨w.heap.size, 0, none⟩ : Option Addr) = some ad → ∀ (j : Nat) u, [Value.int .i64 at', .int .i64 0, .slice none 0 0][j]? = some u → (w.alloc (.cells #[.int .i64 at', .int .i64 0, .slice none 0 0] 98)).cell? (ad.add j) = some u := fun ad h j u hj => by
  have h := Option.some.inj h
  subst h
  exact new_cells w [.int .i64 at', .int .i64 0, .slice none 0 0] 98 j u hj
theorem st_one (at' : Nat) : ∀ u ∈ [Value.int .i64 at', .int .i64 0, .slice none 0 0], u.oneCell' = true := fun u hu => by
  simp at hu
  rcases hu with rfl | rfl | rfl <;> rfl

/-- stretches that the call made -/
def GotSts (w : World) (ss : List St) (e : Ending) (w' : World) : Prop := ∃ A c rs, e = .returned (.slice A ss.length c) ∧ Hid (rs.map Sr.s = ss) ∧ Hid (∃ base, w.heap.size ≤ base ∧ OwnSt w' base (.slice A ss.length c) rs) ∧ Below w.heap.size w w'

set_option maxHeartbeats 6400000 in
set_option maxRecDepth 100000 in
theorem stretches_any (A B : Option Addr) (ca cb : Nat) (a b : List Int) (w : World) (hA : IntsIn w A a) (hB : IntsIn w B b) (hla : a.length ≤ 60) (hlb : b.length ≤ 60) :
    Calls Try.prog 53 #[.slice A a.length ca, .slice B b.length cb] w (GotSts w (strsQ a b)) := by
  have HAL := Lib.hid (align_any A B ca cb a b w hA hB hla hlb)
  have HIA := Lib.hid hA
  have HIB := Lib.hid hB
  have HPL := Lib.hid (show (pairsQ a b).length ≤ 120 from Nat.le_trans (prs_len a b _ 0 0) (by omega))
  have HOK := Lib.hid (prs_ok a b (a.length + b.length) 0 0)
  obtain ⟨n, hn⟩ : ∃ n, n = a.length := ⟨_, rfl⟩
  obtain ⟨m, hm⟩ : ∃ m, m = b.length := ⟨_, rfl⟩
  have HN := Lib.hid hn
  have HM := Lib.hid hm
  rw [← hn] at HAL hla ⊢
  rw [← hm] at HAL hlb ⊢
  clear hn hm hA hB
  go_enter Try.func53, Try.ntmps53
  go_wp2_with fail
  refine HAL.out.mono ?_; rintro e w1 ⟨g, rfl, hal, hb1⟩
  have HPR := Lib.hid (pairs_any g a b A B ca cb w1 hal.out)
  have HB1 := Lib.hid hb1
  clear hal hb1 HAL
  go_wp2_with fail
  refine HPR.out.mono ?_; rintro e w2 ⟨A2, c2, rfl, hps, hb2⟩
  have HB2 := Lib.hid (below_more HB1.out hb2)
  obtain ⟨ps, hpsq⟩ : ∃ ps, ps = pairsQ a b := ⟨_, rfl⟩
  have HPS := Lib.hid hpsq
  obtain ⟨N, hN⟩ : ∃ N, N = (pairsQ a b).length := ⟨_, rfl⟩
  have HNN := Lib.hid (show N = ps.length by rw [hN, hpsq])
  have HPO := Lib.hid (show w2.ownsRow w1.heap.size 28 2 (.slice A2 N c2) N (ps.flatMap pairC) by rw [hN, hpsq]; exact hps.out)
  have hN2 : N ≤ 120 := by rw [hN]; exact HPL.out
  rw [← hN]
  clear hps hb2 HPR hpsq hN HPL
  obtain ⟨ip, hip, hzp, hsp, hbp⟩ := info_hid infoPair
  go_wp2_with fail
  go_loopw [5, 6, 7, 16] (fun v u G i wr => ∃ (k pl : Nat) (ag : Bool) (all : List St) (rs : List Sr), k ≤ N ∧ i = .int .i64 k ∧ u = .int .i64 pl ∧ G = .bool ag ∧ Hid ((⟨pl, ag, all⟩ : Sts) = stsL a b (ps.take k)) ∧ Hid (rs.map Sr.s = all) ∧ Hid (OwnSt wr w2.heap.size v rs) ∧ Hid (Below w2.heap.size w2 wr)) (fun _ _ _ i _ => N - (intOf i).toNat)
  case atStart => exact ⟨0, 0, true, [], [], Nat.zero_le _, rfl, rfl, rfl, Lib.hid rfl, Lib.hid rfl, Lib.hid (OwnSt.nil _ _), Lib.hid (Below.refl _ _)⟩
  case round =>
    obtain ⟨k, pl, ag, all, rs, hk, rfl, rfl, rfl, hs, hrs, hown, hb⟩ := hrel
    by_cases hlt : k < N
    · have hkl : k < ps.length := by have := HNN.out; omega
      obtain ⟨⟨x, y⟩, hxy⟩ : ∃ r, r = ps[k] := ⟨_, rfl⟩
      have HP := Lib.hid (show okP a.length b.length (x, y) from HOK.out _ (by rw [hxy]; have := HPS.out; subst this; exact List.getElem_mem _))
      have HTK := Lib.hid (show ps.take (k + 1) = ps.take k ++ [(x, y)] by rw [List.take_succ_eq_append_getElem hkl, hxy])
      have HSK := Lib.hid (show StsOk (⟨pl, ag, all⟩ : Sts) k by rw [hs.out]; exact sts_ok a b k _ (by rw [List.length_take]; omega))
      have hx0 : w2.cell? ⟨0, 0, none⟩ = w2.cell? ⟨0, 0, none⟩ := rfl
      obtain ⟨A3, c3, hv3, -, -, h3, h4⟩ := own_slice HPO.out
      injection hv3 with e1 e2 e3
      subst e1 e3
      cases A2 with
      | none => have := h4 rfl; omega
      | some ad =>
      obtain ⟨g2, rfl, -, hg2, hc2⟩ := h3 ad rfl
      have hat : ps[k]? = some (x, y) := by rw [List.getElem?_eq_getElem hkl, hxy]
      have q0 := hc2 (k * 2 + 0) (.int .i64 x) (by rw [flat_at (f := pairC) (c := 2) (fun _ => rfl) ps k _ hat 0 (by omega)]; rfl)
      have q1 := hc2 (k * 2 + 1) (.int .i64 y) (by rw [flat_at (f := pairC) (c := 2) (fun _ => rfl) ps k _ hat 1 (by omega)]; rfl)
      have p0 : wr.cell? ⟨g2, k * 2, none⟩ = some (.int .i64 x) := ((bcell hb.out).1 _ _ hg2).trans q0
      have p1 : wr.cell? ⟨g2, k * 2 + 1, none⟩ = some (.int .i64 y) := ((bcell hb.out).1 _ _ hg2).trans q1
      have hg2r : g2 < wr.heap.size := Nat.lt_of_lt_of_le hg2 hb.out.size
      obtain ⟨V, hV⟩ : ∃ V, V = wr.alloc (.cells #[.int .i64 x, .int .i64 y] 28) := ⟨_, rfl⟩
      have kV := Lib.hid (show Below wr.heap.size wr V from hV ▸ below_alloc _ _)
      have DV := Lib.hid (show V.heap[wr.heap.size]? = some (.cells #[.int .i64 x, .int .i64 y] 28 (0, 0)) from hV ▸ heap_alloc_new _ _)
      clear hx0 h3 h4 hc2 q0 q1 hat hxy hkl hg2
      go_upto_region 6 with fail
      rw [← hV]
      clear hV p0 p1 hg2r
      obtain ⟨F, hF⟩ : ∃ F, F = agr a b (x, y) := ⟨_, rfl⟩
      have HF := Lib.hid hF
      have BV := Lib.hid (below_more HB2.out (below_more hb.out kV.out))
      have vx := cell_of_blk DV.out 0
      have vy := cell_of_blk DV.out 1
      have vz := (Array.getElem?_eq_some_iff.1 DV.out).1
      simp at vx vy
      clear hF
      go_cut [10] (fun t X => t = .bool F ∧ Hid (Below V.heap.size V X))
      case first =>
        obtain ⟨h1, h2, -⟩ := HP.out
        dsimp only at h1 h2
        rcases h1 with rfl | ⟨h1, h1'⟩
        · have e1 : ((-1 : Int) != -1) = false := by decide
          have HFF := Lib.hid (show F = false by rw [HF.out]; rfl)
          clear h2
          go_region
          go_wp2_with fail
          all_goals (go_meet; exact ⟨by rw [HFF.out], Lib.hid (below_drew _)⟩)
        · obtain ⟨x, rfl⟩ := Int.eq_ofNat_of_zero_le h1
          have e1 := not_neg x
          rcases h2 with rfl | ⟨h2, h2'⟩
          · have e2 : ((-1 : Int) != -1) = false := by decide
            have HFF := Lib.hid (show F = false by rw [HF.out]; simp [agr])
            clear h1 h1'
            go_region
            go_wp2_with fail
            all_goals (go_meet; exact ⟨by rw [HFF.out], Lib.hid (below_drew _)⟩)
          · obtain ⟨y, rfl⟩ := Int.eq_ofNat_of_zero_le h2
            have e2 := not_neg y
            have hxa : x < a.length := by omega
            have hyb : y < b.length := by omega
            obtain ⟨ba, oa, rfl, hba, ha⟩ := (HIA.out.below BV.out) x a[x] (List.getElem?_eq_getElem hxa)
            obtain ⟨bb, ob, rfl, hbb, hbv⟩ := (HIB.out.below BV.out) y b[y] (List.getElem?_eq_getElem hyb)
            have HFF := Lib.hid (show F = (a[x] == b[y]) by
              rw [HF.out]; unfold agr
              have h1 : ¬ ((x : Int) = -1) := by omega
              have h2 : ¬ ((y : Int) = -1) := by omega
              simp [h1, h2, hxa, hyb])
            obtain ⟨s, hss⟩ : ∃ s, s = a[x] := ⟨_, rfl⟩
            obtain ⟨t, htt⟩ : ∃ t, t = b[y] := ⟨_, rfl⟩
            rw [← hss] at ha HFF
            rw [← htt] at hbv HFF
            have hxn : (x : Int) < (n : Int) := by have := HN.out; omega
            have hyn : (y : Int) < (m : Int) := by have := HM.out; omega
            clear hss htt h1 h2 h1' h2' hxa hyb
            by_cases hst : s = t
            · have e3 : (s == t) = true := by simpa using hst
              rw [e3] at HFF
              go_region
              go_wp2_with fail
              all_goals (go_meet; exact ⟨by rw [HFF.out], Lib.hid (below_drew _)⟩)
            · have e3 : (s == t) = false := by simpa using hst
              rw [e3] at HFF
              go_region
              go_wp2_with fail
              all_goals (go_meet; exact ⟨by rw [HFF.out], Lib.hid (below_drew _)⟩)
      case rest =>
        obtain ⟨rfl, hX⟩ := hcut
        have DX := Lib.hid (blk_keep hX.out DV.out)
        have HNX := Lib.hid (show stsL a b (ps.take (k + 1)) = if F = true then (⟨adv x pl, true, all⟩ : Sts) else ⟨adv x pl, false, if ag then all ++ [St.add b ⟨pl, 0, []⟩ (x, y)] else lastF (St.add b · (x, y)) all⟩ by
          rw [HTK.out, stsL_snoc, ← hs.out, HF.out]; rfl)
        have HO := Lib.hid ((hown.out.below kV.out).below hX.out)
        have HBX := Lib.hid (below_more hb.out (below_more kV.out hX.out))
        have HVX := Lib.hid (show wr.heap.size < wc.heap.size from Nat.lt_of_lt_of_le vz hX.out.size)
        have HVO := Lib.hid (show ∀ k, u5.ownBlock = some k → k < wr.heap.size from fun k hk => (hown.out.own.lt k hk).2)
        have HVI := Lib.hid (show ∀ r ∈ rs, ∀ k, r.val.ownBlock = some k → k < wr.heap.size from fun r hr k hk => ((hown.out.ok r hr).1.lt k hk).2)
        have hpl : pl ≤ 200 := by have := HSK.out.pl; dsimp only at this; omega
        clear vx vy vz hown HTK
        cases F with
        | true =>
          have e1 := agr_ne HF.out.symm
          have hadv := Lib.hid (show adv x pl = pl + 1 by unfold adv; rw [if_neg (by simpa using e1)])
          have z0 := cell_of_blk DX.out 0; have z1 := cell_of_blk DX.out 1; have hz_z := (Array.getElem?_eq_some_iff.1 DX.out).1; simp at z0 z1
          cases ag
          all_goals
            go_wp2
            go_roundw
            case rel => exact ⟨k + 1, pl + 1, true, all, rs, by omega, by go_num, by go_num, rfl, Lib.hid (by rw [HNX.out, if_pos rfl, hadv.out]), hrs, HO, HBX⟩
            case measure => simp [intOf]; omega
        | false =>
          obtain ⟨ist, hist, hzst, hsst, hbst⟩ := info_hid infoSt
          have hrl : rs.length ≤ 120 := by have := HSK.out.len; dsimp only at this; rw [← hrs.out, List.length_map] at this; omega
          obtain ⟨X, hXX⟩ : ∃ X, X = wc := ⟨_, rfl⟩
          rw [← hXX] at DX HO HBX HVX ⊢
          clear hX hXX
          go_upto_region 7 with fail
          go_cut [45] (fun t Y => t = .bool ag ∧ Y = X)
          case first =>
            cases ag
            all_goals
              go_wp2_with fail
              all_goals (go_meet; exact ⟨rfl, rfl⟩)
          case rest =>
            obtain ⟨rfl, hYX⟩ := hcut
            rw [hYX]
            clear hYX
            go_upto_if 45 with fail
            go_cut [5] (fun v Y => ∃ (g5 L c5 : Nat) (rs2 : List Sr) (r2 : Sr), v = .slice (some ⟨g5, 0, none⟩) (L + 1) c5 ∧ Hid (L = rs2.length) ∧ Hid (OwnSt Y w2.heap.size (.slice (some ⟨g5, 0, none⟩) (L + 1) c5) (rs2 ++ [r2])) ∧ Hid ((if ag then all ++ [St.add b ⟨pl, 0, []⟩ (x, y)] else lastF (St.add b · (x, y)) all) = (rs2.map Sr.s) ++ [St.add b r2.s (x, y)]) ∧ Hid (r2.s.ext ≤ 120 ∧ r2.s.sg.length ≤ 120) ∧ Hid (L ≤ 120 ∧ g5 ≠ wr.heap.size ∧ ∀ k, r2.val.ownBlock = some k → k ≠ wr.heap.size) ∧ Hid (Below w2.heap.size w2 Y) ∧ Hid (Y.heap[wr.heap.size]? = some (.cells #[.int .i64 x, .int .i64 y] 28 (0, 0))))
            case first =>
              have hws : w2.heap.size ≤ X.heap.size := HBX.out.size
              cases ag with
              | true =>
                have own2 := Lib.hid (HO.out.own.alloc (.cells #[.int .i64 pl, .int .i64 0, .slice none 0 0] 98))
                go_wp2_with (first
                  | (at_builtin; refine wpList_append_src _ rfl (.tmp 46) (.tmp 49) 95 rfl w2.heap.size 98 ist (.agg #[.int .i64 0, .int .i64 0, .slice none 0 0]) 3 40 Try.underlying95 hist.out hzst.out hsst.out hbst.out rfl (by decide) u5 rs.length (rs.flatMap Sr.cells) rfl own2.out (some ⟨X.heap.size, 0, none⟩) 1 1 [.int .i64 pl, .int .i64 0, .slice none 0 0] rfl rfl pair_some (st_new pl) (st_one pl) (by unfold maxLen; omega) (by omega) (by simp; omega) (rs.length + 1) rfl ?_))
                intro A3 c3 w3 own3 hg3 hn3
                have HG3 := Lib.hid hg3
                have HN3 := Lib.hid hn3
                have HO3 := Lib.hid own3
                clear own3 hg3 hn3
                have HS3 := Lib.hid (OwnSt.snoc (at' := pl) (HO.out.below (below_alloc X (.cells #[.int .i64 pl, .int .i64 0, .slice none 0 0] 98))) rfl HG3.out (by rcases HN3.out with h | h; exact .inl h; exact .inr (by rw [h]; simp)) HO3.out)
                have HO3' := HO3.out
                obtain ⟨A4, c4, hv4, -, -, h3, h4⟩ := own_slice HO3'
                injection hv4 with e1 e2 e3
                subst e1 e3
                cases A3 with
                | none => have := h4 rfl; omega
                | some ad =>
                obtain ⟨g5, rfl, -, -, -⟩ := h3 ad rfl
                have HK3 := Lib.hid (show g5 ≠ wr.heap.size by
                  rcases HN3.out with h | h
                  · have := HVO.out g5 (by rw [← h]; rfl); omega
                  · have h : some g5 = some (X.heap.size + 1) := h
                    injection h with h; have := HVX.out; omega)
                have HB3 := Lib.hid ((HBX.out.alloc hws (.cells #[.int .i64 pl, .int .i64 0, .slice none 0 0] 98)).grown HG3.out (by simp; omega) (fun g hg => (own2.out.lt g hg).1))
                have HD3 := Lib.hid (show w3.heap[wr.heap.size]? = some (.cells #[.int .i64 x, .int .i64 y] 28 (0, 0)) from
                  (HG3.out.block wr.heap.size (by have := HVX.out; simp; omega) (fun e => by have := HVO.out _ e.symm; omega)).trans ((heap_alloc_other _ _ _ HVX.out).trans DX.out))
                clear h3 h4 HO3' own2
                go_wp2_with fail
                all_goals (go_meet; exact ⟨g5, rs.length, c3, rs, ⟨⟨pl, 0, []⟩, none, 0⟩, rfl, Lib.hid rfl, HS3, Lib.hid (by rw [← hrs.out]; rfl), Lib.hid ⟨Nat.zero_le _, Nat.zero_le _⟩, Lib.hid ⟨hrl, HK3.out, fun k hk => by cases hk⟩, HB3, HD3⟩)
              | false =>
                have hne := HSK.out.some rfl
                have hne2 : rs ≠ [] := fun e => hne (by rw [← hrs.out, e]; rfl)
                obtain ⟨rs2, r2, rfl⟩ : ∃ l p, rs = l ++ [p] := ⟨_, _, (List.dropLast_concat_getLast hne2).symm⟩
                have HO4 := HO.out.own
                obtain ⟨A4, c4, hv4, -, -, h3, h4⟩ := own_slice HO4
                cases A4 with
                | none => have := h4 rfl; simp at this
                | some ad =>
                obtain ⟨g5, rfl, -, -, -⟩ := h3 ad rfl
                have hl4 : (rs2 ++ [r2]).length = rs2.length + 1 := by simp
                rw [hl4] at hv4 hrl
                subst hv4
                have HEE := Lib.hid (show (if false = true then all ++ [St.add b ⟨pl, 0, []⟩ (x, y)] else lastF (St.add b · (x, y)) all) = (rs2.map Sr.s) ++ [St.add b r2.s (x, y)] by
                  rw [if_neg (by decide), ← hrs.out, List.map_append, List.map_singleton, lastF_snoc])
                have HBD := Lib.hid (show r2.s.ext ≤ 120 ∧ r2.s.sg.length ≤ 120 by have := HSK.out.each r2.s (by dsimp only; rw [← hrs.out]; simp); omega)
                have HNE := Lib.hid (show rs2.length ≤ 120 ∧ g5 ≠ wr.heap.size ∧ ∀ k, r2.val.ownBlock = some k → k ≠ wr.heap.size from ⟨by omega, (fun e => by have := HVO.out g5 rfl; omega), fun k hk e => by have := HVI.out r2 (by simp) k hk; omega⟩)
                clear h3 h4 HO4 hne hne2 hl4
                go_wp2_with fail
                all_goals (go_meet; exact ⟨g5, rs2.length, c4, rs2, r2, rfl, Lib.hid rfl, HO, HEE, HBD, HNE, HBX, DX⟩)
            case rest =>
              obtain ⟨g5, L, c5, rs2, r2, rfl, hL, hO, hE, hbd, hNE, hBY, hDY⟩ := hcut
              have HAD := Lib.hid (fun wx (hbx : Below wc.heap.size wc wx) => show Calls Try.prog 89 #[.pointer (some ⟨g5, L * 3, none⟩), .agg #[.int .i64 x, .int .i64 y], .slice B m cb] wx (fun e w' => e = .returned (.tuple #[]) ∧ ∃ A' c', Hid (OwnSt w' w2.heap.size (.slice (some ⟨g5, 0, none⟩) (L + 1) c5) (rs2 ++ [⟨St.add b r2.s (x, y), A', c'⟩])) ∧ Hid (Below w2.heap.size wx w') ∧ Hid (w'.heap[wr.heap.size]? = wx.heap[wr.heap.size]?)) by
                have hOx := hO.out.below hbx
                obtain ⟨hq, hbg, cur, h1, h2, h3, h4, h5, h6⟩ := hOx.last
                have hr := hOx.ok r2 (by simp)
                have hdx := blk_keep hbx hDY.out
                have := add_any w2.heap.size g5 (rs2.length * 3) cur r2.s.at' r2.s.ext r2.s.sg r2.A r2.c x y B cb a.length b wx h1 h6 hr.1 (by have := hbd.out.1; omega) (by have := hbd.out.2; omega) hbg (Nat.le_trans hBY.out.size hbx.size) (fun k hk e => hr.2 k hk (by rw [e]; rfl)) (HIB.out.below (below_more HB2.out (below_more hBY.out hbx))) (fun k o hp e => by
                  obtain ⟨b', o', e', hlt', _⟩ := HIB.out 0 b[0] (List.getElem?_eq_getElem hp)
                  rw [e] at e'; injection e' with e'; injection e' with e1 e2
                  have := HB2.out.size; omega) HP.out
                rw [← HM.out, ← hL.out] at this
                refine this.mono fun e w' ⟨he, cur', A', c', hq'⟩ => ⟨he, A', c', Lib.hid ?_, Lib.hid hq'.out.below, Lib.hid (hq'.out.keep _ (Array.getElem?_eq_some_iff.1 hdx).1 (fun e => hNE.out.2.1 e.symm) (fun e => hNE.out.2.2 _ e.symm rfl))⟩
                rw [hL.out] at hq'
                exact hOx.add h1 hq'.out)
              have i1 : ((L + 1 : Nat) : Int) - 1 = (L : Int) := by omega
              have hL1 := hNE.out.1
              have HWR := Lib.hid (show IntKind.i64.wrap (((L + 1 : Nat) : Int) - 1) = (L : Int) by rw [i1]; exact IntWalk.i64_in _ (by omega))
              have d0 := cell_of_blk hDY.out 0
              have d1 := cell_of_blk hDY.out 1
              have dz := (Array.getElem?_eq_some_iff.1 hDY.out).1
              simp at d0 d1
              have i2 : L < L + 1 := by omega
              have i3 : (L : Int) < ((L + 1 : Nat) : Int) := by omega
              have i4 : 0 ≤ ((L + 1 : Nat) : Int) - 1 := by omega
              go_upto_region 10 with fail
              have hw := HWR.out
              refine wp_region_later_tail 7 (by kernel_rfl) (by kernel_rfl) ?_; simp only [List.take_succ_cons, List.take_zero, List.drop_succ_cons, List.drop_zero]; (repeat (first | go_big_quiet_step (fail) | quiet_step (fail))); refine wpQuiet_nil ?_; rintro _ ⟨s, rfl⟩
              rcases adv_two x a.length b.length y pl HP.out with ⟨e1, hadv⟩ | ⟨e1, hadv⟩
              · have HAV := Lib.hid hadv
                clear hadv
                go_wp2_with (first | (go_at_call 89; refine (HAD.out s.w s.below).mono ?_; rintro e w9 ⟨rfl, A', c', hO9, hB9, hD9⟩; have D9 := hD9.out.trans (blk_keep s.below hDY.out); have n0 := cell_of_blk D9 0; have nz := (Array.getElem?_eq_some_iff.1 D9).1; simp at n0; have HO9 := Lib.hid hO9.out; have HB9 := Lib.hid (hBY.out.trans (s.below.mono hBY.out.size)); have HB8 := Lib.hid hB9.out; clear hw D9 hO9 hB9 hD9))
                go_roundw
                case rel => exact ⟨k + 1, adv x pl, false, _, rs2 ++ [⟨St.add b r2.s (x, y), A', c'⟩], by omega, by go_num, by rw [HAV.out], rfl, Lib.hid (by rw [HNX.out, if_neg (by decide)]), Lib.hid (by rw [hE.out, List.map_append]; rfl), HO9, Lib.hid (HB9.out.trans HB8.out)⟩
                case measure => simp [intOf]; omega
              · have HAV := Lib.hid hadv
                clear hadv
                go_wp2_with (first | (go_at_call 89; refine (HAD.out s.w s.below).mono ?_; rintro e w9 ⟨rfl, A', c', hO9, hB9, hD9⟩; have D9 := hD9.out.trans (blk_keep s.below hDY.out); have n0 := cell_of_blk D9 0; have nz := (Array.getElem?_eq_some_iff.1 D9).1; simp at n0; have HO9 := Lib.hid hO9.out; have HB9 := Lib.hid (hBY.out.trans (s.below.mono hBY.out.size)); have HB8 := Lib.hid hB9.out; clear hw D9 hO9 hB9 hD9))
                go_roundw
                case rel => exact ⟨k + 1, adv x pl, false, _, rs2 ++ [⟨St.add b r2.s (x, y), A', c'⟩], by omega, by go_num, by rw [HAV.out]; go_num, rfl, Lib.hid (by rw [HNX.out, if_neg (by decide)]), Lib.hid (by rw [hE.out, List.map_append]; rfl), HO9, Lib.hid (HB9.out.trans HB8.out)⟩
                case measure => simp [intOf]; omega
    · have hkN : k = N := by omega
      subst hkN
      have he := Lib.hid (show all = strsQ a b by
        have := hs.out
        rw [List.take_of_length_le (by have := HNN.out; omega), HPS.out] at this
        unfold strsQ; rw [← this])
      have hrl := Lib.hid (show rs.length = (strsQ a b).length by rw [← he.out, ← hrs.out, List.length_map])
      have HO := hown.out.own
      obtain ⟨A4, c4, hv4, -, -, -, -⟩ := own_slice HO
      subst hv4
      have HW := hown.out
      rw [hrl.out] at HW ⊢
      clear HO
      go_wp2
      go_ret
      exact ⟨A4, c4, rs, rfl, Lib.hid (by rw [hrs.out, he.out]), Lib.hid ⟨_, HB2.out.size, HW⟩, below_more HB2.out hb.out⟩

end Go.Proofs.Ytcpfhaoecggflaa
