/-
  The specification's Variants (layer 9).
-/
import Derived.Test.YtcpfhaoecggflaaZRvM
import Derived.Test.YtcpfhaoecggflaaZVp2
namespace Go.Proofs.Ytcpfhaoecggflaa
open Go.RowKit

theorem infoRv : (Try.prog.info? 40).map (fun i => (i.zero, i.size, i.bytes)) = some (some (.agg #[.int .i64 0, .int .i64 0, .slice none 0 0]), 3, 40) := by kernel_rfl
theorem rv_new (w : World) (cs : List Value) (t : TypeId) : ∀ ad, (some ⟨w.heap.size, 0, none⟩ : Option Addr) = some ad → ∀ (j : Nat) u, cs[j]? = some u → (w.alloc (.cells cs.toArray t)).cell? (ad.add j) = some u := fun ad h j u hj => by
  have h := Option.some.inj h
  subst h
  exact new_cells w cs t j u hj
def vMid (base : List Int) (rs : List Rw) (a i : Nat) : List (Int × Int × List Int) := vAll base rs a ++ (List.range i).flatMap (vAt base rs a)
theorem vMid_zero (base : List Int) (rs : List Rw) (a : Nat) : vMid base rs a 0 = vAll base rs a := by unfold vMid; simp
theorem vMid_end (base : List Int) (rs : List Rw) (a : Nat) : vMid base rs a rs.length = vAll base rs (a + 1) := by
  unfold vMid vAll
  rw [List.range_succ, List.flatMap_append]; simp [vRow]
theorem vMid_succ (base : List Int) (rs : List Rw) (a i : Nat) : vMid base rs a (i + 1) = vMid base rs a i ++ vAt base rs a i := by
  unfold vMid
  rw [List.range_succ, List.flatMap_append, List.append_assoc]; simp
theorem vAt_len {base : List Int} {rs : List Rw} (h : base.length ≤ 60) (hr : ∀ r ∈ rs, r.zs.length ≤ 60) (a i : Nat) : (vAt base rs a i).length ≤ 120 := by
  unfold vAt
  cases hk : rs[i]? with
  | none => simp
  | some r =>
    have h1 := strs_len base r.zs h (hr r (List.mem_of_getElem? hk))
    have h2 := List.length_filter_le (fun x : St => x.at' == a) (strsQ base r.zs)
    simp only [List.length_map]; omega
theorem vFl_len {base : List Int} {rs : List Rw} (h : base.length ≤ 60) (hr : ∀ r ∈ rs, r.zs.length ≤ 60) (a : Nat) : ∀ i, ((List.range i).flatMap (vAt base rs a)).length ≤ i * 120
  | 0 => by simp
  | i + 1 => by
    have h1 := vFl_len h hr a i
    have h2 := vAt_len h hr a i
    rw [List.range_succ, List.flatMap_append, List.length_append]
    simp only [List.flatMap_cons, List.flatMap_nil, List.append_nil]; omega
theorem vAll_len {base : List Int} {rs : List Rw} (h : base.length ≤ 60) (hr : ∀ r ∈ rs, r.zs.length ≤ 60) (h8 : rs.length ≤ 8) : ∀ a, (vAll base rs a).length ≤ a * 960
  | 0 => by simp [vAll]
  | a + 1 => by
    have h1 := vAll_len h hr h8 a
    have h2 := vFl_len h hr a rs.length
    unfold vAll at h1 ⊢
    rw [List.range_succ, List.flatMap_append, List.length_append]
    simp only [List.flatMap_cons, List.flatMap_nil, List.append_nil]
    unfold vRow at h1 ⊢
    omega
def GotRv (w : World) (base : List Int) (rs : List Rw) (e : Ending) (w' : World) : Prop := ∃ A k c L, e = .returned (.tuple #[.slice A k c, .int .i64 (varE base rs)]) ∧ Hid (k = L.length) ∧ Hid (L = if varE base rs ≠ 0 then [] else vAll base rs (base.length + 1)) ∧ Hid (VarsAt w' A L) ∧ Below w.heap.size w w'
theorem gotv_err {w w' : World} {base : List Int} {rs : List Rw} (h : varE base rs ≠ 0) (hb : Below w.heap.size w w') : GotRv w base rs (.returned (.tuple #[.slice none 0 0, .int .i64 (varE base rs)])) w' :=
  ⟨none, 0, 0, [], rfl, Lib.hid rfl, Lib.hid (by rw [if_pos h]), Lib.hid (fun i y h => by simp at h), hb⟩

set_option maxHeartbeats 12800000 in
set_option maxRecDepth 100000 in
theorem rvariants_any (A S : Option Addr) (ca cs : Nat) (base : List Int) (rs : List Rw) (w : World) (hA : IntsIn w A base) (hla : base.length ≤ maxLen) (hS : RowsIn w S rs) (hls : rs.length ≤ maxLen) :
    Calls Try.prog 21 #[.slice A base.length ca, .slice S rs.length cs] w (GotRv w base rs) := by
  have HC1 := Lib.hid (rcheckL_any A ca base w hA hla)
  have HIA := Lib.hid hA
  have HIS := Lib.hid hS
  have HLA := Lib.hid (show lnErr base = 0 → base.length ≤ 60 from fun h => by unfold lnErr at h; split at h; cases h; omega)
  have HVE := Lib.hid (show varE base rs = if lnErr base ≠ 0 then lnErr base else if 8 < rs.length then 2 else lnsErr rs from rfl)
  obtain ⟨n, hn⟩ : ∃ n, n = base.length := ⟨_, rfl⟩
  obtain ⟨m, hm⟩ : ∃ m, m = rs.length := ⟨_, rfl⟩
  have HN := Lib.hid hn
  have HM := Lib.hid hm
  obtain ⟨E1, hE1⟩ : ∃ E1, E1 = lnErr base := ⟨_, rfl⟩
  rw [← hE1] at HC1 HVE HLA
  rw [← hn] at HC1 ⊢
  rw [← hm] at hls HVE ⊢
  clear hn hm hE1 hA hS hla
  unfold maxLen at hls
  go_enter Try.func21, Try.ntmps21
  go_wp2_with fail
  refine HC1.out.mono ?_; rintro e w' ⟨rfl, rfl⟩
  clear HC1
  by_cases h1 : E1 = 0
  case neg =>
    have hd : (E1 != 0) = true := by simpa using h1
    have hv := Lib.hid (show varE base rs = E1 by rw [HVE.out, if_pos h1])
    have HG := Lib.hid (gotv_err (w := w) (w' := w) (base := base) (rs := rs) (by rw [hv.out]; exact h1) (Below.refl _ _))
    rw [hv.out] at HG
    go_wp2
    go_ret2
    exact HG.out
  case pos =>
  subst h1
  have hd : ((0 : Int) != 0) = false := by decide
  by_cases h2 : 8 < m
  · have hd8 : (8 : Int) < (m : Int) := by omega
    have hv := Lib.hid (show varE base rs = 2 by rw [HVE.out, if_neg (by simp), if_pos h2])
    have HG := Lib.hid (gotv_err (w := w) (w' := w) (base := base) (rs := rs) (by rw [hv.out]; decide) (Below.refl _ _))
    rw [hv.out] at HG
    go_wp2
    go_ret2
    exact HG.out
  · have hd8 : ¬ ((8 : Int) < (m : Int)) := by omega
    have hv := Lib.hid (show varE base rs = lnsErr rs by rw [HVE.out, if_neg (by simp), if_neg h2])
    clear HVE
    go_wp2_with fail
    go_loopw [7] (fun u wr => ∃ i : Nat, i ≤ m ∧ u = .int .i64 i ∧ Hid (lnsErr rs = lnsErr (rs.drop i)) ∧ w = wr) (fun u _ => m - (intOf u).toNat)
    case atStart => exact ⟨0, Nat.zero_le _, rfl, Lib.hid (by rw [List.drop_zero]), rfl⟩
    case round =>
      obtain ⟨i, hi, rfl, hf, rfl⟩ := hrel
      by_cases hlt : i < m
      · have hk : i < rs.length := by have := HM.out; omega
        have hget := List.getElem?_eq_getElem hk
        obtain ⟨r, hrr⟩ : ∃ r, r = rs[i] := ⟨_, rfl⟩
        rw [← hrr] at hget
        obtain ⟨bs, os, rfl, hbs, hcs, hri, hrl⟩ := HIS.out i r hget
        have HC2 := Lib.hid (rcheckL_any r.A r.c r.zs w hri hrl)
        have HF := Lib.hid (show lnsErr rs = if lnErr r.zs ≠ 0 then lnErr r.zs else lnsErr (rs.drop (i + 1)) by rw [hf.out, lns_drop hget])
        obtain ⟨E2, hE2⟩ : ∃ E2, E2 = lnErr r.zs := ⟨_, rfl⟩
        rw [← hE2] at HC2 HF
        clear hE2 hrr hget hk hri hf
        go_wp2_with fail
        refine HC2.out.mono ?_; rintro e w' ⟨rfl, rfl⟩
        by_cases h3 : E2 = 0
        · subst h3
          have hr := Lib.hid (show lnsErr rs = lnsErr (rs.drop (i + 1)) by rw [HF.out, if_neg (by simp)])
          clear HF HC2
          go_wp2
          go_roundw
          case rel => exact ⟨i + 1, by omega, by go_num, hr, trivial⟩
          case measure => simp [intOf]; omega
        · have hd2 : (E2 != 0) = true := by simpa using h3
          have hv2 := Lib.hid (show varE base rs = E2 by rw [hv.out, HF.out, if_pos h3])
          have HG := Lib.hid (gotv_err (w := w) (w' := w) (base := base) (rs := rs) (by rw [hv2.out]; exact h3) (Below.refl _ _))
          rw [hv2.out] at HG
          clear HF HC2
          go_wp2
          go_ret2
          exact HG.out
      · have hie : m = i := by omega
        subst hie
        have he := Lib.hid (show lnsErr rs = 0 by rw [hf.out, List.drop_eq_nil_of_le (by have := HM.out; omega)]; rfl)
        have hv0 := Lib.hid (show varE base rs = 0 by rw [hv.out, he.out])
        have HZR := Lib.hid (lns_zero rs he.out)
        have hn6 := HLA.out (by first | rfl | trivial)
        have hn7 : n ≤ 60 := by have := HN.out; omega
        have hm8 : m ≤ 8 := by omega
        clear hf he hv
        have hrm8 : rs.length ≤ 8 := by have := HM.out; omega
        obtain ⟨iv, hiv, hzv, hsv, hbv⟩ := info_hid infoRv
        go_wp2_with fail
        go_loopw [9, 10] (fun v u wr => ∃ (a : Nat) (vs : List Vn), a ≤ n + 1 ∧ u = .int .i64 a ∧ Hid (vs.map Vn.ct = vAll base rs a) ∧ Hid (OwnRv wr w.heap.size v vs) ∧ Hid (Below w.heap.size w wr)) (fun _ u _ => n + 1 - (intOf u).toNat)
        case atStart => exact ⟨0, [], Nat.zero_le _, rfl, Lib.hid rfl, Lib.hid (OwnRv.nil _ _), Lib.hid (Below.refl _ _)⟩
        case round =>
          obtain ⟨a, vs, ha, rfl, hvs, hown, hb⟩ := hrel
          by_cases hlta : a ≤ n
          · go_wp2_with fail
            go_loopw [9, 11] (fun v u wq => ∃ (i : Nat) (vs2 : List Vn), i ≤ m ∧ u = .int .i64 i ∧ Hid (vs2.map Vn.ct = vMid base rs a i) ∧ Hid (OwnRv wq w.heap.size v vs2) ∧ Hid (Below w.heap.size w wq)) (fun _ u _ => m - (intOf u).toNat)
            case atStart => exact ⟨0, vs, Nat.zero_le _, rfl, Lib.hid (by rw [hvs.out, vMid_zero]), hown, hb⟩
            case round =>
              obtain ⟨i, vs1, hi, rfl, hv1, ho1, hb1⟩ := hrel
              by_cases hlt : i < m
              · have hk : i < rs.length := by have := HM.out; omega
                have hget := List.getElem?_eq_getElem hk
                obtain ⟨r, hrr⟩ : ∃ r, r = rs[i] := ⟨_, rfl⟩
                rw [← hrr] at hget
                have hr6 := HZR.out r (List.mem_of_getElem? hget)
                obtain ⟨bs, os, rfl, hbs, hcs, hri, -⟩ := (HIS.out.below hb1.out) i r hget
                have HST := Lib.hid (by have := rstretches_any A r.A ca r.c base r.zs wr (HIA.out.below hb1.out) hri (by have := HN.out; omega) hr6; rw [← HN.out] at this; exact this)
                have HPS := Lib.hid (show vMid base rs a (i + 1) = vMid base rs a i ++ ((strsQ base r.zs).filter (fun x => x.at' == a)).map (vOf i) by rw [vMid_succ, vAt, hget])
                have HLS := Lib.hid (strs_len base r.zs (by have := HN.out; omega) hr6)
                have HLV := Lib.hid (show (vMid base rs a i).length ≤ 60000 by
                  have h1 := vAll_len (base := base) (rs := rs) (by have := HN.out; omega) HZR.out hrm8 a
                  have h2 := vFl_len (base := base) (rs := rs) (by have := HN.out; omega) HZR.out a i
                  unfold vMid; rw [List.length_append]; omega)
                obtain ⟨ss, hss⟩ : ∃ ss, ss = strsQ base r.zs := ⟨_, rfl⟩
                rw [← hss] at HST HPS HLS
                clear hss hrr hget hk hri
                go_wp2_with fail
                refine HST.out.mono ?_; rintro e ws ⟨As, cS, rsS, rfl, hrsS, hoS, hbS⟩
                obtain ⟨B2, hB2, hOS⟩ := hoS.out
                have HOS := Lib.hid hOS
                have HAP := Lib.hid (show RsAp u9 (.slice As ss.length cS) rsS from fun k hk => ⟨fun e => by have := (hOS.own.lt k e).1; have := (ho1.out.own.lt k hk).2; omega, fun r hr e => by have := ((hOS.ok r hr).1.lt k e).1; have := (ho1.out.own.lt k hk).2; omega⟩)
                have HO1 := Lib.hid (ho1.out.below hbS)
                have HB1 := Lib.hid (below_more hb1.out hbS)
                obtain ⟨q, hq⟩ : ∃ q, q = ss.length := ⟨_, rfl⟩
                have HQ := Lib.hid hq
                rw [← hq] at HOS HAP HLS ⊢
                have HRS := Lib.hid hrsS.out
                have hq12 := HLS.out
                clear hq hOS hoS hbS hB2 ho1 HST hrsS
                go_wp2_with fail
                go_loopw [9, 13] (fun v u wq => ∃ (j : Nat) (vs2 : List Vn), j ≤ q ∧ u = .int .i64 j ∧ Hid (vs2.map Vn.ct = vMid base rs a i ++ ((ss.take j).filter (fun x => x.at' == a)).map (vOf i)) ∧ Hid (OwnRv wq w.heap.size v vs2) ∧ Hid (OwnRs wq B2 (.slice As q cS) rsS) ∧ Hid (RsAp v (.slice As q cS) rsS) ∧ Hid (Below w.heap.size w wq)) (fun _ u _ => q - (intOf u).toNat)
                case atStart => exact ⟨0, vs1, Nat.zero_le _, rfl, Lib.hid (by rw [hv1.out]; simp), HO1, HOS, HAP, HB1⟩
                case round =>
                  obtain ⟨j, vs2, hj, rfl, hv2, ho2, hs2, ha2, hb2⟩ := hrel
                  by_cases hlj : j < q
                  · have hkl : j < ss.length := by have := HQ.out; omega
                    have hkr : j < rsS.length := by have := congrArg List.length HRS.out; simp at this; omega
                    obtain ⟨r2, hr2⟩ : ∃ r2, r2 = rsS[j] := ⟨_, rfl⟩
                    have hgr : rsS[j]? = some r2 := by rw [hr2]; exact List.getElem?_eq_getElem hkr
                    have hmem : r2 ∈ rsS := List.mem_of_getElem? hgr
                    have HSS := Lib.hid (show ss.take (j + 1) = ss.take j ++ [r2.s] by
                      rw [List.take_succ_eq_append_getElem hkl]
                      congr 2
                      have h1 : ss[j]? = some r2.s := by rw [← HRS.out, List.getElem?_map, hgr]; rfl
                      rw [List.getElem?_eq_getElem hkl] at h1
                      exact Option.some.inj h1)
                    have hsv := hs2.out.own
                    obtain ⟨A3, c3, hv3, -, -, h3, h4⟩ := own_slice hsv
                    injection hv3 with e1 e2 e3
                    subst e1 e3
                    cases As with
                    | none => have := h4 rfl; omega
                    | some ad =>
                    obtain ⟨gs, rfl, -, hgs, -⟩ := h3 ad rfl
                    have hcl := hs2.out.cells hgr
                    have x0 := hcl 0 (by omega)
                    have x1 := hcl 1 (by omega)
                    have x2 := hcl 2 (by omega)
                    simp only [Sr.cells, Sr.val, List.getElem?_cons_zero, List.getElem?_cons_succ, Nat.add_zero] at x0 x1 x2
                    have HIR := Lib.hid (hs2.out.ints hmem)
                    have HAB := Lib.hid (show ∀ k, u9.ownBlock = some k → r2.val.ownBlock ≠ some k from fun k hk => (ha2.out k hk).2 r2 hmem)
                    have hws : w.heap.size ≤ wr.heap.size := hb2.out.size
                    have hvl : vs2.length ≤ 70000 := by
                      have h1 := congrArg List.length hv2.out
                      have h2 := List.length_filter_le (fun x : St => x.at' == a) (ss.take j)
                      have h5 := HLV.out
                      simp only [List.length_map, List.length_append, List.length_take] at h1 h2
                      omega
                    clear h3 h4 hsv hcl hkl hkr hr2 hgr e2
                    by_cases hat : r2.s.at' = a
                    · subst hat
                      have e1 : ((r2.s.at' : Int) == (r2.s.at' : Int)) = true := by simp
                      have own2 := Lib.hid (ho2.out.own.alloc (.cells #[.int .i64 r2.s.at', .int .i64 i, .slice r2.A r2.s.sg.length r2.c] 40))
                      have HKB := Lib.hid (show Below wr.heap.size wr (wr.alloc (.cells #[.int .i64 r2.s.at', .int .i64 i, .slice r2.A r2.s.sg.length r2.c] 40)) from below_alloc _ _)
                      go_wp2_with (first
                        | (at_builtin; refine wpList_append_src _ rfl (.tmp 67) (.tmp 76) 35 rfl w.heap.size 40 iv (.agg #[.int .i64 0, .int .i64 0, .slice none 0 0]) 3 40 Try.underlying35 hiv.out hzv.out hsv.out hbv.out rfl (by decide) u9 vs2.length (vs2.flatMap Vn.cells) rfl own2.out (some ⟨wr.heap.size, 0, none⟩) 1 1 [.int .i64 r2.s.at', .int .i64 i, .slice r2.A r2.s.sg.length r2.c] rfl rfl pair_some (rv_new wr _ _) (vn_one' _ _ _ _ _) (by unfold maxLen; omega) (by omega) (by simp; omega) (vs2.length + 1) rfl ?_))
                      intro A4 c4 w4 own4 hg4 hn4
                      have HG4 := Lib.hid hg4
                      have HN4 := Lib.hid hn4
                      have HO4 := Lib.hid own4
                      clear own4 hg4 hn4
                      have HNV := Lib.hid (show (Value.slice A4 (vs2.length + 1) c4).ownBlock = u9.ownBlock ∨ (Value.slice A4 (vs2.length + 1) c4).ownBlock = some (wr.alloc (.cells #[.int .i64 r2.s.at', .int .i64 i, .slice r2.A r2.s.sg.length r2.c] 40)).heap.size by
                        rcases HN4.out with h | h
                        · exact .inl h
                        · exact .inr (by rw [h]; simp))
                      have HSN := Lib.hid (OwnRv.snoc (x := ⟨r2.s.at', i, r2.s.sg, r2.A, r2.c⟩) (ho2.out.below HKB.out) rfl HG4.out HNV.out (HIR.out.below HKB.out) (fun g o e h0 e2 => HAB.out g e2 (by unfold Sr.val; rw [show r2.A = some ⟨g, o, none⟩ from e]; rfl)) HO4.out)
                      have HSG := Lib.hid (OwnRs.grown (hs2.out.below HKB.out) ha2.out HG4.out HNV.out)
                      have HB4 := Lib.hid ((hb2.out.trans (HKB.out.mono hws)).grown HG4.out (by simp; omega) (fun g hg => (own2.out.lt g hg).1))
                      clear own2 x0 x1 x2
                      go_wp2
                      go_roundw
                      case rel => exact ⟨j + 1, vs2 ++ [⟨r2.s.at', i, r2.s.sg, r2.A, r2.c⟩], by omega, by go_num, Lib.hid (by rw [List.map_append, hv2.out, HSS.out, List.filter_append, List.map_append, List.append_assoc]; simp [vOf, Vn.ct]), HSN, Lib.hid HSG.out.1, Lib.hid HSG.out.2, HB4⟩
                      case measure => simp [intOf]; omega
                    · have e1 : ((r2.s.at' : Int) == (a : Int)) = false := by simp; omega
                      go_wp2
                      go_roundw
                      case rel => exact ⟨j + 1, vs2, by omega, by go_num, Lib.hid (by rw [hv2.out, HSS.out, List.filter_append]; simp [hat]), ho2, hs2, ha2, hb2⟩
                      case measure => simp [intOf]; omega
                  · have hjq : q = j := by omega
                    subst hjq
                    have HV3 := Lib.hid (show vs2.map Vn.ct = vMid base rs a (i + 1) by rw [hv2.out, HPS.out, List.take_of_length_le (by have := HQ.out; omega)])
                    go_wp2
                    go_roundw
                    case rel => exact ⟨i + 1, vs2, by omega, by go_num, HV3, ho2, hb2⟩
                    case measure => simp [intOf]; omega
              · have him : m = i := by omega
                subst him
                have HV3 := Lib.hid (show vs1.map Vn.ct = vAll base rs (a + 1) by rw [hv1.out, HM.out, vMid_end])
                go_wp2
                go_roundw
                case rel => exact ⟨a + 1, vs1, by omega, by go_num, HV3, ho1, hb1⟩
                case measure => simp [intOf]; omega
          · have han : a = n + 1 := by omega
            subst han
            have HOW := hown.out.own
            obtain ⟨A4, c4, hv4, -, -, h3, h4⟩ := own_slice HOW
            subst hv4
            have HR := Lib.hid (show GotRv w base rs (.returned (.tuple #[.slice A4 vs.length c4, .int .i64 0])) wr by
              refine ⟨A4, vs.length, c4, vs.map Vn.ct, by rw [hv0.out], Lib.hid (by rw [List.length_map]), Lib.hid (by rw [if_neg (by rw [hv0.out]; simp), hvs.out, HN.out]), Lib.hid fun t y hy => ?_, hb.out⟩
              rw [List.getElem?_map] at hy
              cases hx : vs[t]? with
              | none => rw [hx] at hy; cases hy
              | some x =>
                rw [hx] at hy
                have hy : x.ct = y := Option.some.inj hy
                subst hy
                have hxm : x ∈ vs := List.mem_of_getElem? hx
                have htl := (List.getElem?_eq_some_iff.1 hx).1
                cases A4 with
                | none => have := h4 rfl; omega
                | some ad =>
                obtain ⟨g, rfl, -, hg, hc⟩ := h3 ad rfl
                have q0 := hc _ _ (by rw [flat_at (f := Vn.cells) (c := 3) (fun _ => rfl) vs t x hx 0 (by omega)]; rfl)
                have q1 := hc _ _ (by rw [flat_at (f := Vn.cells) (c := 3) (fun _ => rfl) vs t x hx 1 (by omega)]; rfl)
                have q2 := hc _ _ (by rw [flat_at (f := Vn.cells) (c := 3) (fun _ => rfl) vs t x hx 2 (by omega)]; rfl)
                exact ⟨g, x.A, x.c, rfl, hg, q0, q1, q2, (hown.out.ok x hxm).1⟩)
            clear h3 h4 HOW
            go_wp2
            go_ret2
            exact HR.out

end Go.Proofs.Ytcpfhaoecggflaa
