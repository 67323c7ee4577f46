/-
  The closure that gives scribes: its contract (layer 9).
-/
import Derived.Test.YtcpfhaoecggflaaZGiv
import Derived.Laws.EntriesVeiled
import Derived.WalkMore
import Derived.Deep.LoopGhost
namespace Go.Proofs.Ytcpfhaoecggflaa
open Go.RowKit

def GotGv (base bh bn bm ba bg : Nat) (ap : Nat → Nat → Bool) (n most : Nat) (w : World) (hs : List Nat) (v : Value) (r : Option (List Nat)) (e : Ending) (w' : World) : Prop :=
  ∃ v', e = .returned (.bool r.isSome) ∧ Gv base bh bn bm ba bg ap n most w' (r.getD hs) v' ∧ HKeeps bh v w v' w'

theorem some_none {a : Addr} {n : Nat} : (some a : Option Addr) = none → n = 0 := fun h => by cases h
theorem one_newN (w : World) (cs : List Value) (t : TypeId) : ∀ ad, (some ⟨w.heap.size, 0, none⟩ : Option Addr) = some ad → ∀ (j : Nat) u, cs[j]? = some u → (w.alloc (.cells cs.toArray t)).cell? (ad.add j) = some u := fun ad h j u hj => by
  have h := Option.some.inj h
  subst h
  exact new_cells w cs t j u hj
theorem one_oneN (x : Int) : ∀ u ∈ [Value.int .i64 x], u.oneCell' = true := fun u hu => by
  simp at hu
  rw [hu]; rfl

set_option maxRecDepth 100000 in
set_option maxHeartbeats 12800000 in
theorem give_any (base bh bn bm ba bg : Nat) (ap : Nat → Nat → Bool) (n most : Nat) (b : Bxs base bh bn bm ba bg) (hn8 : n ≤ 8) (hm8 : most ≤ 8) :
    ∀ (f : Nat) (hs : List Nat) (v : Value) (w : World), n = hs.length + f → usedOf hs ≤ hs.length → Gv base bh bn bm ba bg ap n most w hs v →
    Calls Try.prog 119 #[.int .i64 (usedOf hs : Nat), .pointer (some ⟨bh, 0, none⟩), .pointer (some ⟨bn, 0, none⟩), .pointer (some ⟨bm, 0, none⟩), .pointer (some ⟨ba, 0, none⟩), .pointer (some ⟨bg, 0, none⟩)] w (GotGv base bh bn bm ba bg ap n most w hs v (giveF ap n most f hs)) := by
  intro f
  induction f with
  | zero =>
    intro hs v w hl hu hv
    rw [giveF_done ap n most 0 hs (by omega)]
    obtain ⟨A, c, rfl, -, -, -, -⟩ := own_slice hv.own
    have z0 := cell_of_blk hv.eh 0
    have z1 := cell_of_blk hv.en 0
    simp at z0 z1
    have HG := Lib.hid (show GotGv base bh bn bm ba bg ap n most w hs (.slice A hs.length c) (some hs) (.returned (.bool true)) w from ⟨_, rfl, hv, HKeeps.refl _ _ _⟩)
    obtain rfl : n = hs.length := by omega
    obtain ⟨U, hU⟩ : ∃ U, U = usedOf hs := ⟨_, rfl⟩
    rw [← hU]
    have h8 : hs.length ≤ 8 := hn8
    obtain ⟨L, hL⟩ : ∃ L, L = hs.length := ⟨_, rfl⟩
    rw [← hL] at z0 z1 HG ⊢
    clear hv hl hU hL hu h8 hn8
    have f1 : ((L : Int) == (L : Int)) = true := by simp
    go_enter Try.func119, Try.ntmps119
    go_wp2
    go_step3
    go_wp2
    try rw [Exit.noGoto_ret]
    go_ret
    exact HG.out
  | succ f ih =>
    intro hs v w hl hu hv
    have HR := Lib.hid (giveF_go ap n most f hs (by omega))
    obtain ⟨r, hr⟩ : ∃ r, r = giveF ap n most (f + 1) hs := ⟨_, rfl⟩
    rw [← hr] at HR ⊢
    obtain ⟨M, hM⟩ : ∃ M, M = min (usedOf hs + 1) most := ⟨_, rfl⟩
    rw [← hM, ← from_zero] at HR
    obtain ⟨A, c, rfl, -, -, -, -⟩ := own_slice hv.own
    have z0 := cell_of_blk hv.eh 0
    have z1 := cell_of_blk hv.en 0
    have z2 := cell_of_blk hv.em 0
    simp at z0 z1 z2
    have HV := Lib.hid hv
    have HB := Lib.hid b
    have HI := Lib.hid ih
    have HU := Lib.hid hu
    obtain ⟨U, hU⟩ : ∃ U, U = usedOf hs := ⟨_, rfl⟩
    rw [← hU] at hM hu ⊢
    obtain ⟨L, hL⟩ : ∃ L, L = hs.length := ⟨_, rfl⟩
    rw [← hL] at z0 hl hu HV
    have HL := Lib.hid hL
    have HUU := Lib.hid hU
    have f1 : ((L : Int) == (n : Int)) = false := beq_eq_false_iff_ne.2 (by omega)
    have f2 : min ((U : Int) + 1) (most : Int) = (M : Int) := by omega
    have hM9 : M ≤ 8 := by omega
    have HMU := Lib.hid (show M ≤ U + 1 by omega)
    have hU8 : U ≤ 8 := by omega
    have HLF := Lib.hid hl
    clear hr hL hU hv ih b hl
    rw [← HL.out]
    go_enter Try.func119, Try.ntmps119
    obtain ⟨ii, hii, hzi, hsi, hbi⟩ := info_hid infoInt
    go_wp2
    go_step3
    go_wp2
    go_step3
    go_upto_region 4 with (fail)
    go_cut [20, 21] (fun z u wx => z = .int .i64 M ∧ u = .int .i64 0 ∧ w = wx)
    case first =>
      go_wp2
      all_goals
        go_meet
        exact ⟨by congr 1; omega, rfl, rfl⟩
    case rest =>
    obtain ⟨rfl, rfl, rfl⟩ := hcut
    have hM6 : M ≤ most := by omega
    clear f1 f2 z0 z1 z2 hM
    go_wp2
    go_loopg [21] M (fun g s21 wx => ∃ (k : Nat) (v' : Value), k + g = M ∧ s21 = .int .i64 k ∧ Hid (Gv base bh bn bm ba bg ap n most wx hs v') ∧ Hid (HKeeps bh (.slice A L c) w v' wx) ∧ Hid (firstS ap hs (giveF ap n most f) (from_ k M) = r))
    case atStart => exact ⟨0, .slice A L c, by omega, rfl, HV, Lib.hid (HKeeps.refl _ _ _), Lib.hid HR.out.symm⟩
    case round =>
      obtain ⟨k, v', hkg, rfl, hg, hk, hf⟩ := hrel
      cases gk with
      | zero =>
        obtain rfl : k = M := by omega
        have HG := Lib.hid (show GotGv base bh bn bm ba bg ap n most w hs (.slice A L c) r (.returned (.bool false)) wr by
          have := hf.out
          rw [from_end] at this
          have hr : r = none := this.symm
          subst hr
          exact ⟨_, rfl, hg.out, hk.out⟩)
        go_wp2
        try rw [Exit.noGoto_ret]
        go_ret
        exact HG.out
      | succ gk =>
        have hkM : k < M := by omega
        obtain ⟨A1, c1, hv1, hc1, hm1, h3, h4⟩ := own_slice hg.out.own
        rw [← HL.out] at hv1 hc1
        subst hv1
        have HC := Lib.hid (fun (e : Nat) (o : Nat) (he : hs[e]? = some o) (ad : Addr) (hA : A1 = some ad) => show ∃ g, ad = ⟨g, 0, none⟩ ∧ g < wr.heap.size ∧ wr.cell? ⟨g, e, none⟩ = some (.int .i64 (o : Nat)) by
          obtain ⟨g, e1, -, h5, h6⟩ := h3 ad hA
          exact ⟨g, e1, h5, h6 e _ (by unfold natsV; rw [List.getElem?_map, he]; rfl)⟩)
        have HN := Lib.hid (show A1 = none → L = 0 from fun h => by rw [HL.out]; exact h4 h)
        have y0 := cell_of_blk hg.out.eh 0
        simp at y0
        clear h3 h4
        unfold maxLen at hm1
        go_wp2
        clear y0
        obtain ⟨gq, rfl⟩ : ∃ gq, gq = gk := ⟨_, rfl⟩
        obtain ⟨wo, rfl⟩ : ∃ wo, wo = wr := ⟨_, rfl⟩
        have HRD := Lib.hid (show Gv base bh bn bm ba bg ap n most wo hs (.slice A1 L c1) ∧ HKeeps bh (.slice A L c) w (.slice A1 L c1) wo from ⟨hg.out, hk.out⟩)
        have HFS := Lib.hid hf.out
        have hkg0 : k + 1 + gq = M := by omega
        clear hg hk hf hkg
        go_loopg [26] L (fun g s26 wx => ∃ e : Nat, e + g = L ∧ s26 = .int .i64 e ∧ Hid (clash ap hs k e = false) ∧ wo = wx)
        case atStart => exact ⟨0, by omega, rfl, Lib.hid rfl, rfl⟩
        case round =>
          obtain ⟨e, heg, rfl, hcl, rfl⟩ := hrel
          cases gk with
          | zero =>
            obtain rfl : L = e := by omega
            have y0 := cell_of_blk HRD.out.1.eh 0
            have y5 := cell_of_blk HRD.out.1.eg 0
            simp at y0 y5
            have hsz := Lib.hid HRD.out.1.sz
            have hbhb := Lib.hid HB.out.h
            have own1 := Lib.hid (HRD.out.1.own.alloc (.cells #[.int .i64 (k : Nat)] 3))
            rw [← HL.out] at own1
            have hL8 : L ≤ 8 := by have := HLF.out; omega
            go_wp2_with (first
              | (at_builtin; refine wpList_append_src _ rfl (.tmp 42) (.tmp 44) 22 rfl base 3 ii (.int .i64 0) 1 8 Try.underlying22 hii.out hzi.out hsi.out hbi.out rfl (by decide) (.slice A1 L c1) L (natsV hs) rfl own1.out (some ⟨wo.heap.size, 0, none⟩) 1 1 [.int .i64 (k : Nat)] rfl rfl some_none (one_newN wo _ _) (one_oneN _) (by unfold maxLen; omega) (by omega) (by have := hsz.out; simp; omega) (L + 1) rfl ?_))
            intro A4 c4 w4 own4 hg4 hn4
            have own5 := own4
            rw [HL.out] at own5
            have HAP := Lib.hid (HRD.out.1.append HB.out own5 hg4 (by rw [World.size_alloc, ← HL.out]; exact hn4))
            rw [← HL.out] at HAP
            clear own4 own5 hg4 hn4 own1
            have y1 := cell_of_blk HAP.out.1 0
            have y2 := free_of_blk HAP.out.1 0
            have hbl := (Array.getElem?_eq_some_iff.1 HAP.out.1).1
            simp at y1
            clear y0
            go_upto_region 13 with (fail)
            obtain ⟨w5, hw5⟩ : ∃ w5, w5 = w4.setCell ⟨bh, 0, none⟩ (.slice A4 (L + 1) c4) := ⟨_, rfl⟩
            rw [← hw5] at HAP ⊢
            clear hw5 y1 y2 hbl y5
            have y5 := cell_of_blk HAP.out.2.1.eg 0
            simp at y5
            have HUS := Lib.hid (usedOf_snoc hs k)
            rw [← HUU.out] at HUS
            have HCA := Lib.hid (HI.out (hs ++ [k]) _ w5 (by have := HLF.out; have := HL.out; simp; omega) (by have := HL.out; have := HMU.out; have := HU.out; rw [HUS.out]; have := HUU.out; simp; omega) HAP.out.2.1)
            obtain ⟨r2, hr2⟩ : ∃ r2, r2 = giveF ap n most f (hs ++ [k]) := ⟨_, rfl⟩
            have HR2 := Lib.hid hr2.symm
            rw [← hr2] at HCA
            have HCB1 := Lib.hid (show U ≤ k + 1 → Calls Try.prog 119 #[.int .i64 ((k : Int) + 1), .pointer (some ⟨bh, 0, none⟩), .pointer (some ⟨bn, 0, none⟩), .pointer (some ⟨bm, 0, none⟩), .pointer (some ⟨ba, 0, none⟩), .pointer (some ⟨bg, 0, none⟩)] w5 (GotGv base bh bn bm ba bg ap n most w5 (hs ++ [k]) (.slice A4 (L + 1) c4) r2) from fun h => by
              have h1 := HCA.out
              rw [HUS.out, show max U (k + 1) = k + 1 by omega] at h1
              exact h1)
            have HCB2 := Lib.hid (show k + 1 ≤ U → Calls Try.prog 119 #[.int .i64 (U : Int), .pointer (some ⟨bh, 0, none⟩), .pointer (some ⟨bn, 0, none⟩), .pointer (some ⟨bm, 0, none⟩), .pointer (some ⟨ba, 0, none⟩), .pointer (some ⟨bg, 0, none⟩)] w5 (GotGv base bh bn bm ba bg ap n most w5 (hs ++ [k]) (.slice A4 (L + 1) c4) r2) from fun h => by
              have h1 := HCA.out
              rw [HUS.out, show max U (k + 1) = U by omega] at h1
              exact h1)
            clear hr2 HCA
            go_wp2_with fail
            all_goals
              first
              | (with_reducible refine (HCB1.out (by omega)).mono ?_)
              | (with_reducible refine (HCB2.out (by omega)).mono ?_)
              rintro e6 w6 ⟨v6, rfl, hg6, hk6⟩
              have HK6 := Lib.hid (HRD.out.2.trans (HAP.out.2.2.trans hk6))
              clear hk6
              cases r2 with
              | some l =>
                have HG := Lib.hid (show GotGv base bh bn bm ba bg ap n most w hs (.slice A L c) r (.returned (.bool true)) w6 by
                  have h1 := HFS.out
                  rw [firstS_yes hkM (by rw [← HL.out]; exact hcl.out) HR2.out] at h1
                  rw [← h1]
                  exact ⟨v6, rfl, hg6, HK6.out⟩)
                clear hg6
                have e1 : (some l).isSome = true := rfl
                go_wp2
                try rw [Exit.noGoto_ret]
                go_ret
                exact HG.out
              | none =>
                have HFN := Lib.hid (show firstS ap hs (giveF ap n most f) (from_ (k + 1) M) = r by
                  rw [← firstS_no hkM (by rw [← HL.out]; exact hcl.out) HR2.out]; exact HFS.out)
                have HG6 := Lib.hid (show Gv base bh bn bm ba bg ap n most w6 (hs ++ [k]) v6 from hg6)
                clear hg6
                obtain ⟨A6, c6, rfl, hc6, hm6, h36, h46⟩ := own_slice HG6.out.own
                have hl6 : (hs ++ [k]).length = L + 1 := by rw [List.length_append, ← HL.out]; rfl
                rw [hl6] at hc6 h46 HG6 HK6
                obtain ⟨ad6, rfl⟩ : ∃ ad, A6 = some ad := by
                  cases A6 with
                  | none => have := h46 rfl; omega
                  | some ad => exact ⟨ad, rfl⟩
                obtain ⟨g6, rfl, -⟩ := h36 ad6 rfl
                have HBK := Lib.hid (HG6.out.back HB.out)
                have HKB := Lib.hid (HK6.out.trans HBK.out.2)
                have x1 := cell_of_blk HG6.out.eh 0
                have x2 := free_of_blk HG6.out.eh 0
                have x3 := (Array.getElem?_eq_some_iff.1 HG6.out.eh).1
                simp at x1
                rw [← HL.out] at HBK HKB
                unfold maxLen at hm6
                have hLc : L ≤ c6 := by omega
                clear h36 h46 hl6
                go_wp2
                go_roundg gq
                case measure => omega
                case rel => exact ⟨k + 1, _, by omega, by go_num, Lib.hid HBK.out.1, Lib.hid HKB.out, HFN⟩
          | succ g2 =>
            have hel : e < L := by omega
            have hes : e < hs.length := by have := HL.out; omega
            have heg := List.getElem?_eq_getElem hes
            obtain ⟨o, ho⟩ : ∃ o, o = hs[e] := ⟨_, rfl⟩
            rw [← ho] at heg
            obtain ⟨ad, rfl⟩ : ∃ ad, A1 = some ad := by
              cases A1 with
              | none => have := HN.out rfl; omega
              | some ad => exact ⟨ad, rfl⟩
            obtain ⟨g, rfl, hgw, x0⟩ := HC.out e o heg ad rfl
            obtain ⟨cs, ha1, ha2⟩ := HRD.out.1.ea
            have y1 := cell_of_blk ha1 (e * 8 + L)
            rw [ha2 e L hel (by have := HLF.out; omega)] at y1
            have hbal := (Array.getElem?_eq_some_iff.1 ha1).1
            have HCM := Lib.hid (clash_more hcl.out heg)
            have HCY := Lib.hid (fun h => clash_yes (ap := ap) (c := k) hes h)
            rw [heg, ← HL.out] at HCY
            rw [← HL.out] at HCM
            have hei : (e : Int) < (L : Int) := by omega
            have hl8 : (L : Int) < 8 := by have := HLF.out; omega
            have he8 : (e : Int) < 8 := by omega
            clear ho heg hes ha1 ha2
            by_cases hok : o = k
            · have f1 : ((o : Int) == (k : Int)) = true := by rw [beq_iff_eq]; omega
              have f2 : (o == k) = true := by rw [beq_iff_eq]; exact hok
              clear hok
              obtain ⟨V, hV⟩ : ∃ V, V = ap e L := ⟨_, rfl⟩
              rw [← hV] at y1 HCM HCY
              clear hV
              cases V with
              | true =>
                have HC2 := Lib.hid (firstS_clash (ap := ap) (hs := hs) (F := giveF ap n most f) hkM (by rw [← HL.out]; exact HCY.out (by simp [f2])))
                go_wp2
                go_roundg gq
                case measure => omega
                case rel => exact ⟨k + 1, _, by omega, by go_num, Lib.hid HRD.out.1, Lib.hid HRD.out.2, Lib.hid (by rw [← HC2.out]; exact HFS.out)⟩
              | false =>
                have HC2 := Lib.hid (show clash ap hs k (e + 1) = false by rw [HCM.out]; simp)
                go_wp2
                go_roundg g2
                case measure => omega
                case rel => exact ⟨e + 1, by omega, by go_num, HC2, rfl⟩
            · have f1 : ((o : Int) == (k : Int)) = false := beq_eq_false_iff_ne.2 (by omega)
              have f2 : (o == k) = false := beq_eq_false_iff_ne.2 hok
              clear hok
              have HC2 := Lib.hid (show clash ap hs k (e + 1) = false by rw [HCM.out, f2]; rfl)
              go_wp2
              go_roundg g2
              case measure => omega
              case rel => exact ⟨e + 1, by omega, by go_num, HC2, rfl⟩

end Go.Proofs.Ytcpfhaoecggflaa
