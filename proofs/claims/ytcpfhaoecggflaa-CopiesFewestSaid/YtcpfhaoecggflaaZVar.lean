/-
  The program's Variants (layer 9).
-/
import Derived.Test.YtcpfhaoecggflaaZVnM
namespace Go.Proofs.Ytcpfhaoecggflaa
open Go.RowKit

theorem infoVn : (Try.prog.info? 39).map (fun i => (i.zero, i.size, i.bytes)) = some (some (.agg #[.int .i64 0, .int .i64 0, .slice none 0 0]), 3, 40) := by kernel_rfl
theorem vn_one' (a c : Int) (A : Option Addr) (n d : Nat) : ∀ u ∈ [Value.int .i64 a, .int .i64 c, .slice A n d], u.oneCell' = true := fun u hu => by
  simp at hu
  rcases hu with rfl | rfl | rfl <;> rfl
theorem vn_new (w : World) (o : Obj) (cs : List Value) (t : TypeId) : ∀ ad, (some ⟨w.heap.size + 1, 0, none⟩ : Option Addr) = some ad → ∀ (j : Nat) u, cs[j]? = some u → ((w.alloc o).alloc (.cells cs.toArray t)).cell? (ad.add j) = some u := fun ad h j u hj => by
  have h := Option.some.inj h
  subst h
  have := new_cells (w.alloc o) cs t j u hj
  simpa using this
theorem got_err {w w' : World} {base : List Int} {rs : List Rw} (h : varE base rs ≠ 0) (hb : Below w.heap.size w w') : GotVars w base rs (.returned (.tuple #[.slice none 0 0, .int .i64 (varE base rs)])) w' :=
  ⟨none, 0, 0, [], rfl, Lib.hid rfl, Lib.hid ⟨by rw [if_pos h], List.Pairwise.nil⟩, Lib.hid (fun i y h => by simp at h), hb⟩

theorem lns_zero : ∀ (rs : List Rw), lnsErr rs = 0 → ∀ r ∈ rs, r.zs.length ≤ 60
  | [], _, r, hr => by cases hr
  | x :: l, h, r, hr => by
    rw [lnsErr] at h
    split at h
    · rename_i h1; exact absurd h h1
    · rename_i h1
      rcases List.mem_cons.1 hr with rfl | hr
      · have h1 : lnErr r.zs = 0 := by simpa using h1
        unfold lnErr at h1
        split at h1
        · cases h1
        · omega
      · exact lns_zero l h r hr
theorem strs_len (a b : List Int) (h : a.length ≤ 60) (h2 : b.length ≤ 60) : (strsQ a b).length ≤ 120 := by
  have h1 := (sts_ok a b _ (pairsQ a b) rfl).len
  have h3 := prs_len a b (a.length + b.length) 0 0
  unfold strsQ
  unfold pairsQ at h1 ⊢
  omega
theorem vPre_len (base : List Int) (rs : List Rw) (h : base.length ≤ 60) (hr : ∀ r ∈ rs, r.zs.length ≤ 60) : ∀ i, (vPre base rs i).length ≤ i * 120
  | 0 => Nat.le_refl _
  | i + 1 => by
    have ih := vPre_len base rs h hr i
    rw [vPre, List.length_append]
    cases hk : rs[i]? with
    | none => simp; omega
    | some r =>
      have := strs_len base r.zs h (hr r (List.mem_of_getElem? hk))
      simp; omega

set_option maxHeartbeats 12800000 in
set_option maxRecDepth 100000 in
theorem variants_any (A S : Option Addr) (ca cs : Nat) (base : List Int) (rs : List Rw) (w : World) (hA : IntsIn w A base) (hla : base.length ≤ maxLen) (hS : RowsIn w S rs) (hls : rs.length ≤ maxLen) :
    Calls Try.prog 20 #[.slice A base.length ca, .slice S rs.length cs] w (GotVars w base rs) := by
  obtain ⟨W, hW⟩ : ∃ W, W = w.alloc (.cells #[.slice A base.length ca] 22) := ⟨_, rfl⟩
  have HBW := Lib.hid (show Below w.heap.size w W from hW ▸ below_alloc _ _)
  have HC1 := Lib.hid (show Calls Try.prog 47 #[.slice (some ⟨w.heap.size, 0, none⟩) 1 1] W (fun e w' => e = .returned (.int .i64 (lnsErr [⟨A, ca, base⟩])) ∧ W = w') from
    checkL_any (some ⟨w.heap.size, 0, none⟩) 1 [⟨A, ca, base⟩] W (fun k r hk => by
      have hW' : W.heap[w.heap.size]? = some (.cells #[.slice A base.length ca] 22 (0, 0)) := hW ▸ heap_alloc_new _ _
      match k, hk with
      | 0, hk => simp at hk; subst hk; exact ⟨_, 0, rfl, (Array.getElem?_eq_some_iff.1 hW').1, cell_of_blk hW' 0, hA.below HBW.out, hla⟩
      | k + 1, hk => simp at hk) (show 1 ≤ maxLen by unfold maxLen; decide))
  have HE1 := Lib.hid (show lnsErr [⟨A, ca, base⟩] = lnErr base by unfold lnsErr lnsErr; split; rfl; rename_i h; simp at h; exact h.symm)
  rw [HE1.out] at HC1
  have HIA := Lib.hid hA
  have HIS := Lib.hid hS
  have HLA := Lib.hid (show lnErr base = 0 → base.length ≤ 60 from fun h => by unfold lnErr at h; split at h; cases h; omega)
  have HVE := Lib.hid (show varE base rs = if lnErr base ≠ 0 then lnErr base else if 8 < rs.length then 2 else lnsErr rs from rfl)
  obtain ⟨n, hn⟩ : ∃ n, n = base.length := ⟨_, rfl⟩
  obtain ⟨m, hm⟩ : ∃ m, m = rs.length := ⟨_, rfl⟩
  have HN := Lib.hid hn
  have HM := Lib.hid hm
  obtain ⟨E1, hE1⟩ : ∃ E1, E1 = lnErr base := ⟨_, rfl⟩
  rw [← hE1] at HC1 HVE HLA
  rw [← hn] at hW ⊢
  rw [← hm] at hls HVE ⊢
  clear hn hm hE1 hA hS hla HE1
  unfold maxLen at hls
  go_enter Try.func20, Try.ntmps20
  go_wp2_with fail
  rw [← hW]
  clear hW
  refine HC1.out.mono ?_; rintro e w' ⟨rfl, rfl⟩
  clear HC1
  by_cases h1 : E1 = 0
  case neg =>
    have hd : (E1 != 0) = true := by simpa using h1
    have hv := Lib.hid (show varE base rs = E1 by rw [HVE.out, if_pos h1])
    have HG := Lib.hid (got_err (w := w) (w' := W) (base := base) (rs := rs) (by rw [hv.out]; exact h1) HBW.out)
    rw [hv.out] at HG
    go_wp2
    go_ret2
    exact HG.out
  case pos =>
  subst h1
  have hd : ((0 : Int) != 0) = false := by decide
  by_cases h2 : 8 < m
  · have hv := Lib.hid (show varE base rs = 2 by rw [HVE.out, if_neg (by simp), if_pos h2])
    have HG := Lib.hid (got_err (w := w) (w' := W) (base := base) (rs := rs) (by rw [hv.out]; decide) HBW.out)
    rw [hv.out] at HG
    go_wp2
    go_ret2
    exact HG.out
  · have hd8 : decide ((8 : Int) < (m : Int)) = false := by simp; omega
    have HC2 := Lib.hid (checkL_any S cs rs W (HIS.out.below HBW.out) (by have := HM.out; unfold maxLen; omega))
    obtain ⟨E2, hE2⟩ : ∃ E2, E2 = lnsErr rs := ⟨_, rfl⟩
    have HE2 := Lib.hid hE2
    have hv := Lib.hid (show varE base rs = E2 by rw [HVE.out, if_neg (by simp), if_neg h2, hE2])
    rw [← hE2, ← HM.out] at HC2
    clear hE2
    go_wp2_with fail
    refine HC2.out.mono ?_; rintro e w' ⟨rfl, rfl⟩
    clear HC2
    by_cases h3 : E2 = 0
    case neg =>
      have hd : (E2 != 0) = true := by simpa using h3
      have HG := Lib.hid (got_err (w := w) (w' := W) (base := base) (rs := rs) (by rw [hv.out]; exact h3) HBW.out)
      rw [hv.out] at HG
      go_wp2
      go_ret2
      exact HG.out
    case pos =>
    subst h3
    have hn6 := HLA.out (by first | rfl | trivial)
    have HZR := Lib.hid (lns_zero rs HE2.out.symm)
    have hn7 : n ≤ 60 := by have := HN.out; omega
    have hm8 : m ≤ 8 := by omega
    obtain ⟨iv, hiv, hzv, hsv, hbv⟩ := info_hid infoVn
    go_wp2_with fail
    go_loopw [8, 29] (fun v u wr => ∃ (i : Nat) (vs : List Vn), i ≤ m ∧ u = .int .i64 i ∧ Hid (vs.map Vn.ct = vPre base rs i) ∧ Hid (OwnVs wr W.heap.size v vs) ∧ Hid (Below W.heap.size W wr)) (fun _ u _ => m - (intOf u).toNat)
    case atStart => exact ⟨0, [], Nat.zero_le _, rfl, Lib.hid rfl, Lib.hid (OwnVs.nil _ _), Lib.hid (Below.refl _ _)⟩
    case round =>
      obtain ⟨i, vs, hi, rfl, hvs, hown, hb⟩ := hrel
      by_cases hlt : i < m
      · have hk : i < rs.length := by have := HM.out; omega
        have hget := List.getElem?_eq_getElem hk
        obtain ⟨r, hrr⟩ : ∃ r, r = rs[i] := ⟨_, rfl⟩
        rw [← hrr] at hget
        have hr6 := HZR.out r (List.mem_of_getElem? hget)
        obtain ⟨bs, os, rfl, hbs, hcs, hri, -⟩ := (HIS.out.below (below_more HBW.out hb.out)) i r hget
        have HST := Lib.hid (by have := stretches_any A r.A ca r.c base r.zs wr (HIA.out.below (below_more HBW.out hb.out)) hri (by have := HN.out; omega) hr6; rw [← HN.out] at this; exact this)
        have HPS := Lib.hid (vPre_at base rs i r hget)
        have HLS := Lib.hid (strs_len base r.zs (by have := HN.out; omega) hr6)
        have HLV := Lib.hid (vPre_len base rs (by have := HN.out; omega) HZR.out i)
        obtain ⟨ss, hss⟩ : ∃ ss, ss = strsQ base r.zs := ⟨_, rfl⟩
        rw [← hss] at HST HPS HLS
        clear hss hrr hget hk hri
        go_wp2_with fail
        refine HST.out.mono ?_; rintro e ws ⟨As, cS, rsS, rfl, hrsS, hoS, hbS⟩
        obtain ⟨B2, hB2, hOS⟩ := hoS.out
        have HOS := Lib.hid hOS
        have HAP := Lib.hid (show StAp u8 (.slice As ss.length cS) rsS from fun k hk => ⟨fun e => by have := (hOS.own.lt k e).1; have := (hown.out.own.lt k hk).2; omega, fun r hr e => by have := ((hOS.ok r hr).1.lt k e).1; have := (hown.out.own.lt k hk).2; omega⟩)
        have HO1 := Lib.hid (hown.out.below hbS)
        have HB1 := Lib.hid (below_more hb.out hbS)
        obtain ⟨q, hq⟩ : ∃ q, q = ss.length := ⟨_, rfl⟩
        have HQ := Lib.hid hq
        rw [← hq] at HOS HAP HLS ⊢
        have HRS := Lib.hid hrsS.out
        have hq12 := HLS.out
        clear hq hOS hoS hbS hB2 hown HST hrsS
        go_wp2_with fail
        go_loopw [8, 38] (fun v u wq => ∃ (j : Nat) (vs2 : List Vn), j ≤ q ∧ u = .int .i64 j ∧ Hid (vs2.map Vn.ct = vPre base rs i ++ (ss.take j).map (vOf i)) ∧ Hid (OwnVs wq W.heap.size v vs2) ∧ Hid (OwnSt wq B2 (.slice As q cS) rsS) ∧ Hid (StAp v (.slice As q cS) rsS) ∧ Hid (Below W.heap.size W wq)) (fun _ u _ => q - (intOf u).toNat)
        case atStart => exact ⟨0, vs, Nat.zero_le _, rfl, Lib.hid (by rw [hvs.out]; simp), HO1, HOS, HAP, HB1⟩
        case round =>
          obtain ⟨j, vs2, hj, rfl, hv2, ho2, hs2, ha2, hb2⟩ := hrel
          clear hb
          by_cases hlj : j < q
          · have hkl : j < ss.length := by have := HQ.out; omega
            have hkr : j < rsS.length := by have := congrArg List.length HRS.out; simp at this; omega
            obtain ⟨r2, hr2⟩ : ∃ r2, r2 = rsS[j] := ⟨_, rfl⟩
            have hgr : rsS[j]? = some r2 := by rw [hr2]; exact List.getElem?_eq_getElem hkr
            have hmem : r2 ∈ rsS := List.mem_of_getElem? hgr
            have HSS := Lib.hid (show ss.take (j + 1) = ss.take j ++ [r2.s] by
              rw [List.take_succ_eq_append_getElem hkl]
              congr 2
              have h1 : ss[j]? = some r2.s := by rw [← HRS.out, List.getElem?_map, hgr]; rfl
              rw [List.getElem?_eq_getElem hkl] at h1
              exact Option.some.inj h1)
            have hsv := hs2.out.own
            obtain ⟨A3, c3, hv3, -, -, h3, h4⟩ := own_slice hsv
            injection hv3 with e1 e2 e3
            subst e1 e3
            cases As with
            | none => have := h4 rfl; omega
            | some ad =>
            obtain ⟨gs, rfl, -, hgs, -⟩ := h3 ad rfl
            have hcl := hs2.out.cells hgr
            have x0 := hcl 0 (by omega)
            have x1 := hcl 1 (by omega)
            have x2 := hcl 2 (by omega)
            simp only [Sr.cells, Sr.val, List.getElem?_cons_zero, List.getElem?_cons_succ, Nat.add_zero] at x0 x1 x2
            have HIR := Lib.hid (hs2.out.ints hmem)
            have HAB := Lib.hid (show ∀ k, u8.ownBlock = some k → r2.val.ownBlock ≠ some k from fun k hk => (ha2.out k hk).2 r2 hmem)
            have hws : W.heap.size ≤ wr.heap.size := hb2.out.size
            have hvl : vs2.length ≤ 2000 := by
              have h1 := congrArg List.length hv2.out
              have h2 := vPre_len base rs (by have := HN.out; omega) HZR.out i
              simp at h1
              have h3 : i * 120 ≤ 960 := by omega
              omega
            have own2 := Lib.hid ((ho2.out.own.alloc (.cells #[.int .i64 r2.s.at', .int .i64 r2.s.ext, .slice r2.A r2.s.sg.length r2.c] 98)).alloc (.cells #[.int .i64 r2.s.at', .int .i64 i, .slice r2.A r2.s.sg.length r2.c] 39))
            have HKB := Lib.hid (show Below wr.heap.size wr ((wr.alloc (.cells #[.int .i64 r2.s.at', .int .i64 r2.s.ext, .slice r2.A r2.s.sg.length r2.c] 98)).alloc (.cells #[.int .i64 r2.s.at', .int .i64 i, .slice r2.A r2.s.sg.length r2.c] 39)) from (below_alloc _ _).alloc (by simp) _)
            clear h3 h4 hsv hcl hkl hkr hr2 hgr e2
            go_wp2_with (first
              | (at_builtin; refine wpList_append_src _ rfl (.tmp 42) (.tmp 49) 32 rfl W.heap.size 39 iv (.agg #[.int .i64 0, .int .i64 0, .slice none 0 0]) 3 40 Try.underlying32 hiv.out hzv.out hsv.out hbv.out rfl (by decide) u8 vs2.length (vs2.flatMap Vn.cells) rfl own2.out (some ⟨wr.heap.size + 1, 0, none⟩) 1 1 [.int .i64 r2.s.at', .int .i64 i, .slice r2.A r2.s.sg.length r2.c] rfl rfl pair_some (vn_new wr _ _ _) (vn_one' _ _ _ _ _) (by unfold maxLen; omega) (by omega) (by simp; omega) (vs2.length + 1) rfl ?_))
            intro A4 c4 w4 own4 hg4 hn4
            have HG4 := Lib.hid hg4
            have HN4 := Lib.hid hn4
            have HO4 := Lib.hid own4
            clear own4 hg4 hn4
            have HNV := Lib.hid (show (Value.slice A4 (vs2.length + 1) c4).ownBlock = u8.ownBlock ∨ (Value.slice A4 (vs2.length + 1) c4).ownBlock = some ((wr.alloc (.cells #[.int .i64 r2.s.at', .int .i64 r2.s.ext, .slice r2.A r2.s.sg.length r2.c] 98)).alloc (.cells #[.int .i64 r2.s.at', .int .i64 i, .slice r2.A r2.s.sg.length r2.c] 39)).heap.size by
              rcases HN4.out with h | h
              · exact .inl h
              · exact .inr (by rw [h]; simp))
            have HSN := Lib.hid (OwnVs.snoc (x := ⟨r2.s.at', i, r2.s.sg, r2.A, r2.c⟩) (ho2.out.below HKB.out) rfl HG4.out HNV.out (HIR.out.below HKB.out) (fun g o e h0 e2 => HAB.out g e2 (by unfold Sr.val; rw [show r2.A = some ⟨g, o, none⟩ from e]; rfl)) HO4.out)
            have HSG := Lib.hid (OwnSt.grown (hs2.out.below HKB.out) ha2.out HG4.out HNV.out)
            have HB4 := Lib.hid ((hb2.out.trans (HKB.out.mono hws)).grown HG4.out (by simp; omega) (fun g hg => (own2.out.lt g hg).1))
            clear own2 x0 x1 x2
            go_wp2
            go_roundw
            case rel => exact ⟨j + 1, vs2 ++ [⟨r2.s.at', i, r2.s.sg, r2.A, r2.c⟩], by omega, by go_num, Lib.hid (by rw [List.map_append, hv2.out, HSS.out, List.map_append, List.append_assoc]; rfl), HSN, Lib.hid HSG.out.1, Lib.hid HSG.out.2, HB4⟩
            case measure => simp [intOf]; omega
          · obtain rfl : j = q := by omega
            have HV3 := Lib.hid (show vs2.map Vn.ct = vPre base rs (i + 1) by rw [hv2.out, HPS.out, List.take_of_length_le (by have := HQ.out; omega)])
            go_wp2
            go_roundw
            case rel => exact ⟨i + 1, vs2, by omega, by go_num, HV3, ho2, hb2⟩
            case measure => simp [intOf]; omega
      · obtain rfl : i = m := by omega
        have hvl : vs.length ≤ 2000 := by
          have h1 := congrArg List.length hvs.out
          have h2 := vPre_len base rs (by have := HN.out; omega) HZR.out i
          simp at h1
          omega
        have HOW := hown.out.own
        obtain ⟨A4, c4, hv4, -, -, -, -⟩ := own_slice HOW
        subst hv4
        have HSO := Lib.hid (sortV_any A4 c4 vs W.heap.size wr HOW hb.out.size (by omega))
        have HWD := Lib.hid hown.out
        clear HOW hown
        go_wp2_with fail
        refine HSO.out.mono ?_; rintro e w9 ⟨rfl, vs', hperm, hsort, hat, hb9, hkeep⟩
        have HR := Lib.hid (show GotVars w base rs (.returned (.tuple #[.slice A4 vs.length c4, .int .i64 0])) w9 by
          refine ⟨A4, vs.length, c4, vs'.map Vn.ct, by rw [hv.out], Lib.hid (by rw [List.length_map]; exact hperm.length_eq.symm), Lib.hid ⟨?_, ?_⟩, Lib.hid fun t y hy => ?_, below_more HBW.out (hb.out.trans hb9)⟩
          · rw [if_neg (by rw [hv.out]; simp), ← HM.out, ← hvs.out]
            exact hperm.map _
          · rw [List.pairwise_map]
            exact hsort
          · rw [List.getElem?_map] at hy
            cases hx : vs'[t]? with
            | none => rw [hx] at hy; cases hy
            | some x =>
              rw [hx] at hy
              have hy : x.ct = y := Option.some.inj hy
              subst hy
              obtain ⟨g, rfl, hg, hc⟩ := hat t x hx
              have hxm : x ∈ vs := hperm.mem_iff.1 (List.mem_of_getElem? hx)
              obtain ⟨k1, k2⟩ := HWD.out.ok x hxm
              have q0 := hc 0 (by omega)
              have q1 := hc 1 (by omega)
              have q2 := hc 2 (by omega)
              refine ⟨g, x.A, x.c, rfl, hg, q0, q1, q2, k1.blocks hb9.size fun g' o e h0 hlt' => hkeep g' hlt' fun g2 o2 e2 e3 => k2 g' o e h0 ?_⟩
              injection e2 with e2; injection e2 with e2
              rw [e3, ← e2]; rfl)
        clear hperm hsort hat hb9 hkeep HSO HWD
        go_wp2
        go_ret2
        exact HR.out

end Go.Proofs.Ytcpfhaoecggflaa
