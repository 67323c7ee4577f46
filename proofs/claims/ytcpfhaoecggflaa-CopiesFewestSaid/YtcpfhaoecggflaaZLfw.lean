/-
  Contract of the law of the fewest scribes: it returns true (layer 9).
-/
import Derived.Test.YtcpfhaoecggflaaZHnd
import Derived.Test.YtcpfhaoecggflaaZFwS
import Derived.Test.YtcpfhaoecggflaaZWrk
namespace Go.Proofs.Ytcpfhaoecggflaa
open Go.RowKit

/-- a pair of copies that are apart has two scribes in a list -/
def KeepP (ap : Nat → Nat → Bool) (os : List Nat) (i k : Nat) : Prop := ap i k = true → os[i]? ≠ os[k]?
theorem rk_le (own : List Nat) (s : Nat) : rk own s ≤ s := by
  unfold rk; exact Nat.le_trans (List.length_filter_le _ _) (by rw [List.length_range]; exact Nat.le_refl _)
theorem natsV_snoc (l : List Nat) (c : Nat) : natsV (l ++ [c]) = natsV l ++ [.int .i64 (c : Nat)] := by unfold natsV; simp

set_option maxRecDepth 100000 in
set_option maxHeartbeats 25600000 in
theorem law_cfewest (S : Option Addr) (cs : Nat) (L : List Tr) (n d : Int) (O : Option Addr) (co : Nat) (zs : List Int) (w : World) (hS : TrsIn w S L) (hlc : L.length ≤ cs) (hcm : cs ≤ maxLen) (hO : IntsIn w O zs) (hlo : zs.length ≤ co) (hom : co ≤ maxLen) :
    Calls Try.prog 14 #[.slice S L.length cs, .agg #[.int .i64 n, .int .i64 d], .slice O zs.length co] w fun e w' => e = .returned (.bool true) ∧ Below w.heap.size w w' := by
  obtain ⟨W, hW⟩ : ∃ W', W' = w.alloc (.cells #[.int .i64 n, .int .i64 d] 53) := ⟨_, rfl⟩; have szW : W.heap.size = w.heap.size + 1 := (by rw [hW]; simp); have kbW : Below w.heap.size w W := hW ▸ below_alloc _ _; have HBW := Lib.hid (kbW); have D0 := Lib.hid (show W.heap[w.heap.size]? = some (.cells #[.int .i64 n, .int .i64 d] 53 (0, 0)) by rw [hW]; exact heap_alloc_new _ _); have SZW := Lib.hid szW; clear szW kbW
  have HP := Lib.hid (hands_any S cs L n d W (hS.below HBW.out) (Nat.le_trans hlc hcm))
  have HSI := Lib.hid (hS.below HBW.out)
  have HOI := Lib.hid (hO.below HBW.out)
  have HAP := Lib.hid (fun (i k : Nat) (a b : Tr) (ha : L[i]? = some a) (hb : L[k]? = some b) (wx : World) (hx : Below W.heap.size W wx) =>
    show Calls Try.prog 29 #[.slice a.A a.ts.length a.c, .slice b.A b.ts.length b.c, .agg #[.int .i64 n, .int .i64 d]] wx (fun e w' => e = .returned (.tuple #[.bool (apAt L n d i k), .int .i64 (erAt L n d i k)]) ∧ Below wx.heap.size wx w') by
    obtain ⟨_, _, _, _, _, h1, h2⟩ := (HSI.out.below hx) i a ha
    obtain ⟨_, _, _, _, _, h3, h4⟩ := (HSI.out.below hx) k b hb
    have h := apart_any a.A b.A a.c b.c a.ts b.ts n d wx h1 h3 h2 h4
    unfold GotAp at h
    rw [apAt_is ha hb, erAt_is ha hb]; exact h)
  unfold GotHn at HP
  obtain ⟨m, hm⟩ : ∃ m, m = L.length := ⟨_, rfl⟩
  have HM := Lib.hid hm
  obtain ⟨z, hz⟩ : ∃ z, z = zs.length := ⟨_, rfl⟩
  have HZ := Lib.hid hz
  rw [← hm] at HP ⊢
  rw [← hz] at hlo ⊢
  unfold maxLen at hom
  clear hm hz hS hO hlc hcm
  go_enter Try.func14, Try.ntmps14
  go_wp2_with fail
  rw [← hW]; clear hW
  refine HP.out.mono ?_; rintro e w1 ⟨H, ch, E, hl, rfl, hih, hzh, hb1⟩
  have HB1 := Lib.hid (below_more HBW.out hb1)
  have HBV := Lib.hid hb1
  clear hb1 HP
  by_cases hE : E = 0
  case neg =>
    have f1 : (E != 0) = true := by simpa using hE
    go_wp2_with fail
    refine (works_any _).mono ?_; rintro e w3 ⟨rfl, hb3⟩
    go_wp2
    go_ret
    exact ⟨rfl, below_more HB1.out hb3⟩
  subst hE
  obtain ⟨hm8, her, hok⟩ := hih.out.none
  rw [← HM.out] at hm8 her hok
  have HER := Lib.hid her
  have HOK := Lib.hid hok
  have HLN := Lib.hid hok.len
  have HHI := Lib.hid hzh.out
  rw [hok.len]
  clear hih hzh her hok
  have f1 : ((0 : Int) != 0) = false := by decide
  have f2 : ((m : Int) != (m : Int)) = false := by simp
  have f3 : decide ((8 : Int) < (m : Int)) = false := decide_eq_false (by omega)
  obtain ⟨ii, hii, hzi, hsi, hbi⟩ := info_hid infoInt
  go_wp2
  clear f1 f2 f3
  go_loopw [9, 10] (fun v u wr => ∃ (i : Nat) (os : List Nat), i ≤ m ∧ u = .int .i64 i ∧ Hid (os.length = i) ∧ Hid (∀ c ∈ os, c < m) ∧ Hid (wr.ownsRow w1.heap.size 3 1 v i (natsV os)) ∧ Hid (Below w1.heap.size w1 wr)) (fun _ u _ => m - (intOf u).toNat)
  case atStart => exact ⟨0, [], Nat.zero_le _, rfl, Lib.hid rfl, Lib.hid (fun c h => by cases h), Lib.hid (World.ownsRow_nil _ _ _ _), Lib.hid (Below.refl _ _)⟩
  case round =>
    obtain ⟨i, os, hi, rfl, hol, hom2, hown, hb⟩ := hrel
    by_cases hlt : i < m
    · have hw1 := Lib.hid hb.out.size
      by_cases hz0 : 0 < z
      · have him : i % z < zs.length := by have := HZ.out; have := Nat.mod_lt i hz0; omega
        obtain ⟨b, o, rfl, hbl, x0⟩ := (HOI.out.below (below_more HBV.out hb.out)) (i % z) _ (List.getElem?_eq_getElem him)
        obtain ⟨y, hy⟩ : ∃ y, y = zs[i % z] := ⟨_, rfl⟩
        rw [← hy] at x0
        obtain ⟨⟨t1, t2⟩, Y, t3, t4⟩ := modN_is y m (by omega)
        have d1 : decide ((0 : Int) < (z : Int)) = true := decide_eq_true (by omega)
        have d2 : decide (0 < z) = true := decide_eq_true hz0
        have hmod : ((i : Int) % (z : Int)) < (z : Int) := Int.emod_lt_of_pos _ (by omega)
        have hmod0 : 0 ≤ ((i : Int) % (z : Int)) := Int.emod_nonneg _ (by omega)
        have hmodt : ((i : Int) % (z : Int)).toNat = i % z := by omega
        clear hy him
        have HO1 := Lib.hid (hown.out.alloc (.cells #[.int .i64 (Y : Nat)] 3))
        go_wp2_with (first
          | (at_builtin; refine wpList_append_src _ rfl (.tmp 59) (.tmp 70) 22 rfl w1.heap.size 3 ii (.int .i64 0) 1 8 Try.underlying22 hii.out hzi.out hsi.out hbi.out rfl (by decide) u9 i (natsV os) rfl HO1.out (some ⟨wr.heap.size, 0, none⟩) 1 1 [.int .i64 (Y : Nat)] rfl rfl pair_some (one_new wr _ _) (one_oneN' _) (by unfold maxLen; omega) (by omega) (by have := hw1.out; simp; omega) (i + 1) rfl ?_))
        intro A3 c3 w3 own3 hg3 hn3
        have HB4 := Lib.hid ((hb.out.alloc hw1.out (.cells #[.int .i64 (Y : Nat)] 3)).grown hg3 (by have := hw1.out; simp; omega) (fun g hg => (HO1.out.lt g hg).1))
        rw [← natsV_snoc] at own3
        have HO3 := Lib.hid own3
        clear own3 hg3 hn3
        go_wp2
        go_roundw
        case rel => exact ⟨i + 1, os ++ [Y], by omega, by go_num, Lib.hid (by rw [List.length_append, hol.out]; rfl), Lib.hid (fun c hc => by
          rcases List.mem_append.1 hc with hc | hc
          · exact hom2.out c hc
          · rw [List.mem_singleton.1 hc]; omega), HO3, HB4⟩
        case measure => simp [intOf]; omega
      · have d1 : decide ((0 : Int) < (z : Int)) = false := decide_eq_false (by omega)
        have d2 : decide (0 < z) = false := decide_eq_false hz0
        have hmi : (i : Int) % (m : Int) = (i : Int) := Int.emod_eq_of_lt (by omega) (by omega)
        have HO1 := Lib.hid (hown.out.alloc (.cells #[.int .i64 (i : Nat)] 3))
        go_wp2_with (first
          | (at_builtin; refine wpList_append_src _ rfl (.tmp 59) (.tmp 70) 22 rfl w1.heap.size 3 ii (.int .i64 0) 1 8 Try.underlying22 hii.out hzi.out hsi.out hbi.out rfl (by decide) u9 i (natsV os) rfl HO1.out (some ⟨wr.heap.size, 0, none⟩) 1 1 [.int .i64 (i : Nat)] rfl rfl pair_some (one_new wr _ _) (one_oneN' _) (by unfold maxLen; omega) (by omega) (by have := hw1.out; simp; omega) (i + 1) rfl ?_))
        intro A3 c3 w3 own3 hg3 hn3
        have HB4 := Lib.hid ((hb.out.alloc hw1.out (.cells #[.int .i64 (i : Nat)] 3)).grown hg3 (by have := hw1.out; simp; omega) (fun g hg => (HO1.out.lt g hg).1))
        rw [← natsV_snoc] at own3
        have HO3 := Lib.hid own3
        clear own3 hg3 hn3
        go_wp2
        go_roundw
        case rel => exact ⟨i + 1, os ++ [i], by omega, by go_num, Lib.hid (by rw [List.length_append, hol.out]; rfl), Lib.hid (fun c hc => by
          rcases List.mem_append.1 hc with hc | hc
          · exact hom2.out c hc
          · rw [List.mem_singleton.1 hc]; omega), HO3, HB4⟩
        case measure => simp [intOf]; omega
    · obtain rfl : m = i := by omega
      obtain ⟨OA, oc, hv, -, -, -, -⟩ := own_slice hown.out
      subst hv
      have HOZ := Lib.hid (nats_ints hown.out)
      have HB5 := Lib.hid (below_more HB1.out hb.out)
      have HSI5 := Lib.hid (HSI.out.below (below_more HBV.out hb.out))
      have HHI5 := Lib.hid (HHI.out.below hb.out)
      have HAP5 := Lib.hid (fun (i k : Nat) (a b : Tr) (ha : L[i]? = some a) (hb9 : L[k]? = some b) (wx : World) (hx : Below wr.heap.size wr wx) => HAP.out i k a b ha hb9 wx (below_more (below_more HBV.out hb.out) hx))
      have D5 := Lib.hid (blk_keep (below_more HBV.out hb.out) D0.out)
      have HUM := Lib.hid (show usedOf hl ≤ m from HOK.out.few (fun i => i) m (fun i k hik _ _ e => by dsimp only at e; omega) (fun i hi => hi))
      clear hown hb HHI HAP HSI
      obtain ⟨w5, rfl⟩ : ∃ w5, w5 = wr := ⟨_, rfl⟩
      obtain ⟨apS, hap⟩ : ∃ apS, apS = apAt L n d := ⟨_, rfl⟩
      have HSY := Lib.hid (show ∀ i k, apS i k = apS k i from fun i k => by rw [hap]; exact apAt_sym L n d i k)
      rw [← hap] at HOK HAP5
      clear hap
      go_wp2
      go_loopw [12, 13, 14] (fun sc kp u wr => ∃ (i : Nat) (K : Bool), i ≤ m ∧ u = .int .i64 i ∧ sc = .int .i64 (usedOf (hl.take i) : Nat) ∧ kp = .bool K ∧ Hid (K = true → ∀ i' k, i' < i → k < m → k ≠ i' → KeepP apS os i' k) ∧ Hid (Below w5.heap.size w5 wr)) (fun _ _ u _ => m - (intOf u).toNat)
      case atStart => exact ⟨0, true, Nat.zero_le _, rfl, rfl, rfl, Lib.hid (fun _ i' k h => absurd h (Nat.not_lt_zero i')), Lib.hid (Below.refl _ _)⟩
      case round =>
        obtain ⟨i, K0, hi2, rfl, rfl, rfl, hkp, hb⟩ := hrel
        by_cases hlt2 : i < m
        · have hil : i < hl.length := by have := HLN.out; omega
          have hgc := List.getElem?_eq_getElem hil
          obtain ⟨c, hc⟩ : ∃ c, c = hl[i] := ⟨_, rfl⟩
          rw [← hc] at hgc
          obtain ⟨b, o, rfl, hbl, x0⟩ := (HHI5.out.below hb.out) i _ (toZ_at hgc)
          have HCU := Lib.hid (HOK.out.fine.canon i c hgc)
          have HTK := Lib.hid (show usedOf (hl.take (i + 1)) = max (usedOf (hl.take i)) (c + 1) by
            rw [List.take_succ_eq_append_getElem hil, ← hc, usedOf_snoc])
          have hT8 : usedOf (hl.take (i + 1)) ≤ m := Nat.le_trans (usedOf_take hl (i + 1)) HUM.out
          have HGC := Lib.hid hgc
          obtain ⟨U, hU⟩ : ∃ U, U = usedOf (hl.take i) := ⟨_, rfl⟩
          obtain ⟨T, hT⟩ : ∃ T, T = usedOf (hl.take (i + 1)) := ⟨_, rfl⟩
          have HTT := Lib.hid hT
          rw [← hU] at HCU HTK ⊢
          rw [← hT] at HTK hT8
          have hUT : U ≤ T := by have := HTK.out; omega
          have hcT : c + 1 ≤ T := by have := HTK.out; omega
          have hcU : c ≤ U := HCU.out
          have d1 : decide ((c : Int) < 0) = false := decide_eq_false (by omega)
          have d2 : decide (U < c) = false := decide_eq_false (by omega)
          have hij : (i : Int) < (m : Int) := by omega
          clear hgc hc hil hU hT
          go_upto_region 21 with (fail)
          go_cut [12] (fun z wx => z = .int .i64 (T : Nat) ∧ wr = wx)
          case first =>
            go_wp2
            all_goals
              go_meet
              exact ⟨by have := HTK.out; congr 1; omega, rfl⟩
          case rest =>
          obtain ⟨rfl, rfl⟩ := hcut
          clear d1 d2
          go_wp2
          obtain ⟨wo, rfl⟩ : ∃ wo, wo = wr := ⟨_, rfl⟩
          go_loopw [13, 15, 16] (fun kp al u wq => ∃ (k : Nat) (K a0 : Bool), k ≤ m ∧ u = .int .i64 k ∧ kp = .bool K ∧ al = .bool a0 ∧ Hid (K = true → (∀ i' k', i' < i → k' < m → k' ≠ i' → KeepP apS os i' k') ∧ ∀ k', k' < k → k' ≠ i → KeepP apS os i k') ∧ Hid (a0 = true → ∀ k', k' < k → k' ≠ i → apS i k' = false) ∧ Hid (Below wo.heap.size wo wq)) (fun _ _ u _ => m - (intOf u).toNat)
          case atStart => exact ⟨0, K0, true, Nat.zero_le _, rfl, rfl, rfl, Lib.hid (fun h => ⟨hkp.out h, fun k' h2 => absurd h2 (Nat.not_lt_zero k')⟩), Lib.hid (fun _ k' h2 => absurd h2 (Nat.not_lt_zero k')), Lib.hid (Below.refl _ _)⟩
          case round =>
            obtain ⟨k, K, a0, hk, rfl, rfl, rfl, hK, ha0, hbq⟩ := hrel
            have HBT := Lib.hid (below_more hb.out hbq.out)
            by_cases hkm : k < m
            · by_cases hki : k = i
              · have g1 : ((i : Int) == (k : Int)) = true := by rw [beq_iff_eq]; omega
                have HK2 := Lib.hid (show K = true → (∀ i' k', i' < i → k' < m → k' ≠ i' → KeepP apS os i' k') ∧ ∀ k', k' < k + 1 → k' ≠ i → KeepP apS os i k' from fun h => ⟨(hK.out h).1, fun k' h2 h3 => (hK.out h).2 k' (by omega) h3⟩)
                have HA2 := Lib.hid (show a0 = true → ∀ k', k' < k + 1 → k' ≠ i → apS i k' = false from fun h k' h2 h3 => ha0.out h k' (by omega) h3)
                clear hki
                go_wp2
                go_roundw
                case rel => exact ⟨k + 1, K, a0, by omega, by go_num, rfl, rfl, HK2, HA2, hbq⟩
                case measure => simp [intOf]; omega
              · have g1 : ((i : Int) == (k : Int)) = false := beq_eq_false_iff_ne.2 (by omega)
                have hiL : i < L.length := by have := HM.out; omega
                have hkL : k < L.length := by have := HM.out; omega
                have hgi := List.getElem?_eq_getElem hiL
                have hgk := List.getElem?_eq_getElem hkL
                obtain ⟨a, ha⟩ : ∃ r, r = L[i] := ⟨_, rfl⟩
                obtain ⟨b1, hb'⟩ : ∃ r, r = L[k] := ⟨_, rfl⟩
                rw [← ha] at hgi
                rw [← hb'] at hgk
                obtain ⟨x, p, rfl, hxl, y0, -, -⟩ := (HSI5.out.below HBT.out) i a hgi
                obtain ⟨x', p', hxe, -, y1, -, -⟩ := (HSI5.out.below HBT.out) k b1 hgk
                injection hxe with hxe; injection hxe with e1 e2
                subst e1 e2
                have HA1 := Lib.hid (fun wx hx => HAP5.out i k a b1 hgi hgk wx (below_more HBT.out hx))
                have hE0 := HER.out i k hlt2 hkm (by omega)
                rw [hE0] at HA1
                obtain ⟨V, hV⟩ : ∃ V, V = apS i k := ⟨_, rfl⟩
                have HV := Lib.hid hV.symm
                rw [← hV] at HA1
                have HNB := Lib.hid (blk_keep HBT.out D5.out)
                have z0 := cell_of_blk HNB.out 0
                have z1 := cell_of_blk HNB.out 1
                have z2 := (Array.getElem?_eq_some_iff.1 HNB.out).1
                simp at z0 z1
                have hkj : (k : Int) < (m : Int) := by omega
                have hkl : k < hl.length := by have := HLN.out; omega
                have hgk2 := List.getElem?_eq_getElem hkl
                obtain ⟨ck, hck⟩ : ∃ c, c = hl[k] := ⟨_, rfl⟩
                rw [← hck] at hgk2
                have HCK := Lib.hid hgk2
                have hiO : i < os.length := by have := hol.out; omega
                have hkO : k < os.length := by have := hol.out; omega
                have hgo1 := List.getElem?_eq_getElem hiO
                have hgo2 := List.getElem?_eq_getElem hkO
                obtain ⟨o1, ho1⟩ : ∃ c, c = os[i] := ⟨_, rfl⟩
                obtain ⟨o2, ho2⟩ : ∃ c, c = os[k] := ⟨_, rfl⟩
                rw [← ho1] at hgo1
                rw [← ho2] at hgo2
                have HO1 := Lib.hid hgo1
                have HO2 := Lib.hid hgo2
                clear hiL hkL hgi hgk ha hb' hE0 hV hkl hgk2 hck hiO hkO hgo1 hgo2 ho1 ho2 hcU hcT hUT hT8
                go_wp2
                refine wp_region_later (by kernel_rfl) (by kernel_rfl) ?_; (repeat (first | go_big_quiet_step ((((go_at_call 29; exact Calls.later _ (HA1.out _ (Later.below _)))))) | quiet_step ((((go_at_call 29; exact Calls.later _ (HA1.out _ (Later.below _)))))))); refine wpQuiet_nil ?_; rintro _ ⟨s, rfl⟩
                have HB6 := Lib.hid (below_more hbq.out s.below)
                have HB7 := Lib.hid (below_more HBT.out s.below)
                obtain ⟨ws, hws⟩ : ∃ ws, ws = s.w := ⟨_, rfl⟩
                rw [← hws] at HB6 HB7 ⊢
                clear hws y0 y1 z0 z1 z2 g1
                obtain ⟨bh, oh, hbe, hbl1, x1⟩ := (HHI5.out.below HB7.out) i _ (toZ_at HGC.out)
                obtain ⟨bh2, oh2, hbe2, -, x2⟩ := (HHI5.out.below HB7.out) k _ (toZ_at HCK.out)
                injection hbe with hbe; injection hbe with e1 e2
                subst e1 e2
                injection hbe2 with hbe; injection hbe with e1 e2
                subst e1 e2
                obtain ⟨bo, oo, rfl, hbl2, v1⟩ := (HOZ.out.below HB7.out) i _ (toZ_at HO1.out)
                obtain ⟨bo2, oo2, hbe2, -, v2⟩ := (HOZ.out.below HB7.out) k _ (toZ_at HO2.out)
                injection hbe2 with hbe; injection hbe with e1 e2
                subst e1 e2
                cases V with
                | true =>
                  have hcc : c ≠ ck := by
                    rcases Nat.lt_trichotomy i k with h | h | h
                    · exact HOK.out.fine.proper i k c ck h HGC.out HCK.out HV.out
                    · exact absurd h.symm hki
                    · exact fun e => HOK.out.fine.proper k i ck c h HCK.out HGC.out (by rw [HSY.out]; exact HV.out) e.symm
                  have g2 : ((c : Int) == (ck : Int)) = false := beq_eq_false_iff_ne.2 (by omega)
                  have g3 : (c == ck) = false := beq_eq_false_iff_ne.2 hcc
                  clear hcc
                  go_wp2_with fail
                  refine wp_region_later (by kernel_rfl) (by kernel_rfl) ?_; (repeat (first | go_big_quiet_step (fail) | quiet_step (fail))); refine wpQuiet_nil ?_; rintro _ ⟨s, rfl⟩
                  have HB8 := Lib.hid (below_more HB6.out s.below)
                  have HB9 := Lib.hid (below_more HB7.out s.below)
                  generalize s.w = W8 at HB8 HB9 ⊢
                  clear x1 x2 v1 v2 g2 g3 hbl1
                  obtain ⟨bo, oo, hbe, hbl3, v1⟩ := (HOZ.out.below HB9.out) i _ (toZ_at HO1.out)
                  injection hbe with hbe; injection hbe with e1 e2
                  subst e1 e2
                  obtain ⟨bo2, oo2, hbe2, -, v2⟩ := (HOZ.out.below HB9.out) k _ (toZ_at HO2.out)
                  injection hbe2 with hbe; injection hbe with e1 e2
                  subst e1 e2
                  have HA2 := Lib.hid (show (false = true) → ∀ k', k' < k + 1 → k' ≠ i → apS i k' = false from fun h => by cases h)
                  by_cases ho : o1 = o2
                  · have g4 : ((o1 : Int) == (o2 : Int)) = true := by rw [beq_iff_eq]; omega
                    have g5 : (o1 == o2) = true := by rw [beq_iff_eq]; omega
                    have HK2 := Lib.hid (show (false = true) → (∀ i' k', i' < i → k' < m → k' ≠ i' → KeepP apS os i' k') ∧ ∀ k', k' < k + 1 → k' ≠ i → KeepP apS os i k' from fun h => by cases h)
                    clear ho
                    cases a0 <;> cases K
                    all_goals
                      go_wp2_with fail
                      refine wp_region_later (by kernel_rfl) (by kernel_rfl) ?_; (repeat (first | go_big_quiet_step (fail) | quiet_step (fail))); refine wpQuiet_nil ?_; rintro _ ⟨s, rfl⟩
                      have HB10 := Lib.hid (below_more HB8.out s.below)
                      generalize s.w = W9 at HB10 ⊢
                      go_wp2
                      go_roundw
                      case rel => exact ⟨k + 1, _, _, by omega, by go_num, rfl, rfl, by first | exact HK2 | exact Lib.hid (fun _ => HK2.out trivial), by first | exact HA2 | exact Lib.hid (fun _ => HA2.out trivial), HB10⟩
                      case measure => simp [intOf]; omega
                  · have g4 : ((o1 : Int) == (o2 : Int)) = false := beq_eq_false_iff_ne.2 (by omega)
                    have g5 : (o1 == o2) = false := beq_eq_false_iff_ne.2 ho
                    have HK2 := Lib.hid (show K = true → (∀ i' k', i' < i → k' < m → k' ≠ i' → KeepP apS os i' k') ∧ ∀ k', k' < k + 1 → k' ≠ i → KeepP apS os i k' from fun h => ⟨(hK.out h).1, fun k' h2 h3 => by
                      by_cases e : k' = k
                      · subst e; intro _; rw [HO1.out, HO2.out]; exact fun e9 => ho (by injection e9)
                      · exact (hK.out h).2 k' (by omega) h3⟩)
                    clear ho
                    cases a0 <;> cases K
                    all_goals
                      go_wp2_with fail
                      refine wp_region_later (by kernel_rfl) (by kernel_rfl) ?_; (repeat (first | go_big_quiet_step (fail) | quiet_step (fail))); refine wpQuiet_nil ?_; rintro _ ⟨s, rfl⟩
                      have HB10 := Lib.hid (below_more HB8.out s.below)
                      generalize s.w = W9 at HB10 ⊢
                      go_wp2
                      go_roundw
                      case rel => exact ⟨k + 1, _, _, by omega, by go_num, rfl, rfl, by first | exact HK2 | exact Lib.hid (fun _ => HK2.out trivial), by first | exact HA2 | exact Lib.hid (fun _ => HA2.out trivial), HB10⟩
                      case measure => simp [intOf]; omega
                | false =>
                  go_wp2_with fail
                  refine wp_region_later (by kernel_rfl) (by kernel_rfl) ?_; (repeat (first | go_big_quiet_step (fail) | quiet_step (fail))); refine wpQuiet_nil ?_; rintro _ ⟨s, rfl⟩
                  have HB8 := Lib.hid (below_more HB6.out s.below)
                  generalize s.w = W8 at HB8 ⊢
                  clear x1 x2 v1 v2 hbl1 hbl2
                  have HK2 := Lib.hid (show K = true → (∀ i' k', i' < i → k' < m → k' ≠ i' → KeepP apS os i' k') ∧ ∀ k', k' < k + 1 → k' ≠ i → KeepP apS os i k' from fun h => ⟨(hK.out h).1, fun k' h2 h3 => by
                    by_cases e : k' = k
                    · subst e; intro h9; rw [HV.out] at h9; cases h9
                    · exact (hK.out h).2 k' (by omega) h3⟩)
                  have HA2 := Lib.hid (show a0 = true → ∀ k', k' < k + 1 → k' ≠ i → apS i k' = false from fun h k' h2 h3 => by
                    by_cases e : k' = k
                    · subst e; exact HV.out
                    · exact ha0.out h k' (by omega) h3)
                  cases a0 <;> cases K
                  all_goals
                    go_wp2_with fail
                    refine wp_region_later (by kernel_rfl) (by kernel_rfl) ?_; (repeat (first | go_big_quiet_step (fail) | quiet_step (fail))); refine wpQuiet_nil ?_; rintro _ ⟨s, rfl⟩
                    have HB10 := Lib.hid (below_more HB8.out s.below)
                    generalize s.w = W9 at HB10 ⊢
                    go_wp2
                    go_roundw
                    case rel => exact ⟨k + 1, _, _, by omega, by go_num, rfl, rfl, by first | exact HK2 | exact Lib.hid (fun _ => HK2.out trivial), by first | exact HA2 | exact Lib.hid (fun _ => HA2.out trivial), HB10⟩
                    case measure => simp [intOf]; omega
            · obtain rfl : m = k := by omega
              have HKN := Lib.hid (show K = true → ∀ i' k', i' < i + 1 → k' < m → k' ≠ i' → KeepP apS os i' k' from fun h i' k' h1 h2 h3 => by
                by_cases e : i' = i
                · subst e; exact (hK.out h).2 k' h2 h3
                · exact (hK.out h).1 i' k' (by omega) h2 h3)
              cases a0 with
              | true =>
                have hc0 : c = 0 := by
                  have h := HOK.out.alone i hlt2 (fun k' h1 h2 => ⟨ha0.out rfl k' h1 h2, by rw [HSY.out]; exact ha0.out rfl k' h1 h2⟩)
                  rw [HGC.out] at h; injection h
                have g4 : ((c : Int) != 0) = false := by rw [hc0]; rfl
                obtain ⟨bh, oh, hbe, hbl1, x1⟩ := (HHI5.out.below HBT.out) i _ (toZ_at HGC.out)
                injection hbe with hbe; injection hbe with e1 e2
                subst e1 e2
                clear hc0
                go_wp2
                go_roundw
                case rel => exact ⟨i + 1, K, by omega, by go_num, by rw [HTT.out], rfl, HKN, HBT⟩
                case measure => simp [intOf]; omega
              | false =>
                go_wp2
                go_roundw
                case rel => exact ⟨i + 1, K, by omega, by go_num, by rw [HTT.out], rfl, HKN, HBT⟩
                case measure => simp [intOf]; omega
        · obtain rfl : m = i := by omega
          rw [List.take_of_length_le (by have := HLN.out; omega)]
          have HKK := Lib.hid (show K0 = true → usedOf hl ≤ rk os m from fun h => HOK.out.fewer hol.out hom2.out (fun i k a b hik ha hb9 hap e => by
            have hkm : k < os.length := (List.getElem?_eq_some_iff.1 hb9).1
            rw [hol.out] at hkm
            exact (hkp.out h) i k (by omega) hkm (by omega) hap (by rw [ha, hb9, e])))
          have HBX := Lib.hid (below_more HB5.out hb.out)
          have HOX := Lib.hid (HOZ.out.below hb.out)
          obtain ⟨UH, hUH⟩ : ∃ U, U = usedOf hl := ⟨_, rfl⟩
          have hum := HUM.out
          rw [← hUH] at HKK hum ⊢
          clear hUH hkp HUM HOK HER HAP5 HSI5 HHI5 HOZ HB5 hb D5 HSY
          obtain ⟨w6, rfl⟩ : ∃ w6, w6 = wr := ⟨_, rfl⟩
          go_wp2
          go_loopw [19, 20] (fun mn u wr => ∃ (s : Nat), s ≤ m ∧ u = .int .i64 s ∧ mn = .int .i64 (rk os s : Nat) ∧ Hid (Below w6.heap.size w6 wr)) (fun _ u _ => m - (intOf u).toNat)
          case atStart => exact ⟨0, Nat.zero_le _, rfl, rfl, Lib.hid (Below.refl _ _)⟩
          case round =>
            obtain ⟨s, hs, rfl, rfl, hb⟩ := hrel
            have HRL := Lib.hid (rk_le os s)
            have HRS := Lib.hid (rk_succ os s)
            obtain ⟨R, hR⟩ : ∃ R, R = rk os s := ⟨_, rfl⟩
            by_cases hsm : s < m
            · rw [← hR] at HRL HRS ⊢
              have hrl := HRL.out
              clear hR
              obtain ⟨w7, rfl⟩ : ∃ w7, w7 = wr := ⟨_, rfl⟩
              go_wp2
              go_loopw [21, 22] (fun us u wr => ∃ (j B : Nat), j ≤ m ∧ u = .int .i64 j ∧ us = .int .i64 (B : Nat) ∧ Hid (B = if (os.take j).any (· == s) then 1 else 0) ∧ Hid (Below w7.heap.size w7 wr)) (fun _ u _ => m - (intOf u).toNat)
              case atStart => exact ⟨0, 0, Nat.zero_le _, rfl, rfl, Lib.hid (by simp), Lib.hid (Below.refl _ _)⟩
              case round =>
                obtain ⟨j, B, hj, rfl, rfl, hB, hbj⟩ := hrel
                by_cases hjm : j < m
                · have hjO : j < os.length := by have := hol.out; omega
                  have hgo := List.getElem?_eq_getElem hjO
                  have HTK := Lib.hid (List.take_succ_eq_append_getElem hjO)
                  obtain ⟨o1, ho1⟩ : ∃ c, c = os[j] := ⟨_, rfl⟩
                  rw [← ho1] at hgo HTK
                  obtain ⟨bo, oo, rfl, hbl2, v1⟩ := (HOX.out.below (below_more hb.out hbj.out)) j _ (toZ_at hgo)
                  clear hgo ho1 hjO
                  by_cases ho : o1 = s
                  · have g4 : ((o1 : Int) == (s : Int)) = true := by rw [beq_iff_eq]; omega
                    have g5 : (o1 == s) = true := by rw [beq_iff_eq]; omega
                    have HB1 := Lib.hid (show 1 = if (os.take (j + 1)).any (· == s) then 1 else 0 by rw [HTK.out, List.any_append, if_pos]; simp [g5])
                    go_wp2
                    go_roundw
                    case rel => exact ⟨j + 1, 1, by omega, by go_num, rfl, HB1, hbj⟩
                    case measure => simp [intOf]; omega
                  · have g4 : ((o1 : Int) == (s : Int)) = false := beq_eq_false_iff_ne.2 (by omega)
                    have g5 : (o1 == s) = false := beq_eq_false_iff_ne.2 ho
                    have HB1 := Lib.hid (show B = if (os.take (j + 1)).any (· == s) then 1 else 0 by rw [HTK.out, List.any_append, hB.out]; simp [g5])
                    go_wp2
                    go_roundw
                    case rel => exact ⟨j + 1, B, by omega, by go_num, rfl, HB1, hbj⟩
                    case measure => simp [intOf]; omega
                · obtain rfl : m = j := by omega
                  have HBE := Lib.hid (show rk os (s + 1) = R + B by
                    rw [HRS.out, hB.out, List.take_of_length_le (by have := hol.out; omega)]; rfl)
                  have hB1 : B ≤ 1 := by rw [hB.out]; split <;> omega
                  have HBJ := Lib.hid (below_more hb.out hbj.out)
                  clear hB hbj
                  go_wp2
                  go_roundw
                  case rel => exact ⟨s + 1, by omega, by go_num, by rw [HBE.out]; go_num, HBJ⟩
                  case measure => simp [intOf]; omega
            · obtain rfl : m = s := by omega
              rw [← hR] at HKK HRL ⊢
              have hrl := HRL.out
              have HBY := Lib.hid (below_more HBX.out hb.out)
              clear hR HRS
              cases K0 with
              | true =>
                have hkk := HKK.out rfl
                have d1 : decide ((UH : Int) ≤ (R : Int)) = true := decide_eq_true (by omega)
                have d2 : decide (UH ≤ R) = true := decide_eq_true hkk
                go_wp2_with fail
                refine (works_any _).mono ?_; rintro e w8 ⟨rfl, hb8⟩
                go_wp2
                go_ret
                exact ⟨rfl, below_more HBY.out hb8⟩
              | false =>
                go_wp2_with fail
                refine (works_any _).mono ?_; rintro e w8 ⟨rfl, hb8⟩
                go_wp2
                go_ret
                exact ⟨rfl, below_more HBY.out hb8⟩

end Go.Proofs.Ytcpfhaoecggflaa
