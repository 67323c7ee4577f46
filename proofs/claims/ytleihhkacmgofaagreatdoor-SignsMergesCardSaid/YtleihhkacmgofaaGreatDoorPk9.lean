/-
  Contract of the specification's Merge. And what builds on it.
-/
import Derived.Test.YtleihhkacmgofaaGreatDoorPk8
import Derived.Test.YtleihhkacmgofaaGreatDoorCards
import Derived.Test.YtleihhkacmgofaaGreatDoorTie
import Derived.ProofKit
import Derived.OpenShut
import Derived.Deep.DeepHandedRow
import Derived.Deep.DeepLaidRun
import Derived.Deep.Slices
import Derived.Lib.LaidTab
import Derived.Lib.SmallJoins
import Derived.MakeChecks

/- Contract of the specification's Merge. -/
namespace Go.Proofs.YtleihhkacmgofaaGreatDoor
open Go.RowKit

set_option maxHeartbeats 3200000 in
set_option maxRecDepth 100000 in
theorem rmerge_any (a b : Lm) (w : World) (ha : LmOk w a) (hb : LmOk w b) :
    Calls Tryz.prog 15 #[a.val, b.val] w (GotListE w (mergeL a.li b.li)) := by
  obtain ⟨W, hW⟩ : ∃ W, W = (((w.alloc (.cells #[.int .i64 a.per, .slice a.A a.ms.length a.cap] 24)).alloc (.cells #[.int .i64 b.per, .slice b.A b.ms.length b.cap] 24)).alloc (.cells #[.int .i64 0, .slice none 0 0] 24)) := ⟨_, rfl⟩
  have HB := Lib.hid (show Below w.heap.size w W from hW ▸ (((Below.refl _ _).alloc (Nat.le_refl _) _).alloc (by simp) _).alloc (by simp; omega) _)
  have C1 := Lib.hid (show W.heap[w.heap.size]? = some (.cells #[.int .i64 a.per, .slice a.A a.ms.length a.cap] 24 (0, 0)) by
    rw [hW, heap_alloc_other _ _ _ (by simp; omega), heap_alloc_other _ _ _ (by simp)]; exact heap_alloc_new _ _)
  have C2 := Lib.hid (show W.heap[w.heap.size + 1]? = some (.cells #[.int .i64 b.per, .slice b.A b.ms.length b.cap] 24 (0, 0)) by
    rw [hW, heap_alloc_other _ _ _ (by simp)]; have := heap_alloc_new (w.alloc (.cells #[.int .i64 a.per, .slice a.A a.ms.length a.cap] 24)) (.cells #[.int .i64 b.per, .slice b.A b.ms.length b.cap] 24); simpa using this)
  have C3 := Lib.hid (show W.heap[w.heap.size + 1 + 1]? = some (.cells #[.int .i64 0, .slice none 0 0] 24 (0, 0)) by
    rw [hW]; have := heap_alloc_new ((w.alloc (.cells #[.int .i64 a.per, .slice a.A a.ms.length a.cap] 24)).alloc (.cells #[.int .i64 b.per, .slice b.A b.ms.length b.cap] 24)) (.cells #[.int .i64 0, .slice none 0 0] 24); simpa using this)
  have HS := Lib.hid (show W.heap.size = w.heap.size + 1 + 1 + 1 by rw [hW]; simp)
  have HA0 := Lib.hid ha
  have HB0 := Lib.hid hb
  have hlen := hb.len
  have hcap := hb.cap
  unfold maxLen at hcap
  obtain ⟨E, hE⟩ : ∃ E, E = checkErr a.li := ⟨_, rfl⟩
  have HE := Lib.hid hE.symm
  have HCK := Lib.hid (fun wx (hx : Below w.heap.size w wx) r (h : checkErr a.li = r) => show Calls Tryz.prog 17 #[.agg #[.int .i64 a.per, .slice a.A a.ms.length a.cap]] wx _ from rcheck_is a wx (ha.below hx) r h)
  have HCB := Lib.hid (fun wx (hx : Below w.heap.size w wx) r (h : checkErr b.li = r) => show Calls Tryz.prog 17 #[.agg #[.int .i64 b.per, .slice b.A b.ms.length b.cap]] wx _ from rcheck_is b wx (hb.below hx) r h)
  clear ha hb
  show Calls _ _ #[.agg #[.int .i64 a.per, .slice a.A a.ms.length a.cap], .agg #[.int .i64 b.per, .slice b.A b.ms.length b.cap]] w _
  by_cases h0 : E = 0
  case neg =>
    have hb : (E != 0) = true := by simpa using h0
    have HF := Lib.hid (show mergeL a.li b.li = (⟨0, []⟩, E) by unfold mergeL; rw [HE.out, if_pos h0])
    clear hE h0
    go_enter Tryz.func15, Tryz.ntmps15
    go_wp2_with fail
    rw [← hW]
    refine (HCK.out W HB.out E HE.out).mono ?_; rintro e w1 ⟨rfl, hb1⟩
    have k2 := blk_keep hb1 C3.out
    have r0 := cell_of_blk k2 0
    have r1 := cell_of_blk k2 1
    have f0 := free_of_blk k2 0
    have f1 := free_of_blk k2 1
    simp at r0 r1
    have B1 := Lib.hid (HB.out.trans (hb1.mono HB.out.size))
    clear hb1 k2
    go_wp2_with fail
    rw [HF.out]
    refine bodyPost_ret (v := .tuple #[.agg #[.int .i64 0, .slice none 0 0], .int .i64 E]) (by simp [results, Tryz.results15, go_sem, r0, r1]) rfl ⟨⟨0, [], none, 0⟩, rfl, lm_none _, rfl, ?_⟩
    exact (B1.out.setCell (by dsimp only; omega) _).setCell (by dsimp only; omega) _
  subst h0
  clear hE
  obtain ⟨E, hE⟩ : ∃ E, E = checkErr b.li := ⟨_, rfl⟩
  have HE2 := Lib.hid hE.symm
  by_cases h0 : E = 0
  case neg =>
    have hb : (E != 0) = true := by simpa using h0
    have HF := Lib.hid (show mergeL a.li b.li = (⟨0, []⟩, E) by unfold mergeL; rw [HE.out, HE2.out, if_neg (by simp), if_pos h0])
    clear hE h0
    go_enter Tryz.func15, Tryz.ntmps15
    go_wp2_with fail
    rw [← hW]
    refine (HCK.out W HB.out 0 HE.out).mono ?_; rintro e w1 ⟨rfl, hb1⟩
    have K2 := Lib.hid (blk_keep hb1 C2.out)
    have K3 := Lib.hid (blk_keep hb1 C3.out)
    have HX := Lib.hid (HB.out.trans (hb1.mono HB.out.size))
    have x0 := cell_of_blk K2.out 0
    have x1 := cell_of_blk K2.out 1
    simp at x0 x1
    clear hb1
    go_wp2_with fail
    refine (HCB.out w1 HX.out E HE2.out).mono ?_; rintro e w2 ⟨rfl, hb2⟩
    have k2 := blk_keep hb2 K3.out
    have r0 := cell_of_blk k2 0
    have r1 := cell_of_blk k2 1
    have f0 := free_of_blk k2 0
    have f1 := free_of_blk k2 1
    simp at r0 r1
    have B1 := Lib.hid (HX.out.trans (hb2.mono HX.out.size))
    clear hb2 k2 x0 x1
    go_wp2_with fail
    rw [HF.out]
    refine bodyPost_ret (v := .tuple #[.agg #[.int .i64 0, .slice none 0 0], .int .i64 E]) (by simp [results, Tryz.results15, go_sem, r0, r1]) rfl ⟨⟨0, [], none, 0⟩, rfl, lm_none _, rfl, ?_⟩
    exact (B1.out.setCell (by dsimp only; omega) _).setCell (by dsimp only; omega) _
  subst h0
  clear hE
  have CA := Lib.hid (check_all a.li HE.out)
  have CB := Lib.hid (check_all b.li HE2.out)
  have HNA := Lib.hid (show a.ms.length ≤ 200 by have := CA.out.1; rw [show a.li.signs = a.signs from rfl, Lm.length_signs] at this; exact this)
  have HNB := Lib.hid (show b.ms.length ≤ 200 by have := CB.out.1; rw [show b.li.signs = b.signs from rfl, Lm.length_signs] at this; exact this)
  have OA := Lib.hid (check_okV a.li HE.out)
  have OB := Lib.hid (check_okV b.li HE2.out)
  obtain ⟨is, his, hzs, hss, hbs⟩ := info_hid infoSg
  obtain ⟨BA, hBA⟩ : ∃ X, X = b.A := ⟨_, rfl⟩
  have HBA := Lib.hid hBA
  obtain ⟨AA, hAA⟩ : ∃ X, X = a.A := ⟨_, rfl⟩
  have HAA := Lib.hid hAA
  rw [← hBA] at C2 ⊢ hW
  rw [← hAA] at C1 ⊢ hW
  clear hBA hAA
  obtain ⟨m, hm⟩ : ∃ m, m = a.ms.length := ⟨_, rfl⟩
  have HM := Lib.hid hm
  have hna := HNA.out
  have hal := HA0.out.len
  have hac := HA0.out.cap
  unfold maxLen at hac
  rw [← hm] at C1 hW hna hal ⊢
  clear hm
  obtain ⟨n, hn⟩ : ∃ n, n = b.ms.length := ⟨_, rfl⟩
  have HN := Lib.hid hn
  have hnb := HNB.out
  rw [← hn] at C2 hW hnb hlen ⊢
  clear hn
  have HIX := Lib.hid (fun wx (hx : Below w.heap.size w wx) code r (h : indexI b.signs code = r) => show Calls Tryz.prog 32 #[.agg #[.int .i64 b.per, .slice BA n b.cap], .string code] wx fun e w' => e = .returned (.int .i64 r) ∧ Below wx.heap.size wx w' by
    rw [HBA.out, HN.out, ← h]; exact index_any b code wx (HB0.out.below hx))
  have HIA := Lib.hid (fun wx (hx : Below w.heap.size w wx) code r (h : indexI a.signs code = r) => show Calls Tryz.prog 32 #[.agg #[.int .i64 a.per, .slice AA m a.cap], .string code] wx fun e w' => e = .returned (.int .i64 r) ∧ Below wx.heap.size wx w' by
    rw [HAA.out, HM.out, ← h]; exact index_any a code wx (HA0.out.below hx))
  rw [← HAA.out, ← HM.out] at HCK
  rw [← HBA.out, ← HN.out] at HCB
  go_enter Tryz.func15, Tryz.ntmps15
  go_wp2_with fail
  rw [← hW]
  refine (HCK.out W HB.out 0 HE.out).mono ?_; rintro e w1 ⟨rfl, hb1⟩
  have K1 := Lib.hid (blk_keep hb1 C1.out)
  have K2 := Lib.hid (blk_keep hb1 C2.out)
  have K3 := Lib.hid (blk_keep hb1 C3.out)
  have HX1 := Lib.hid (HB.out.trans (hb1.mono HB.out.size))
  have x0 := cell_of_blk K2.out 0
  have x1 := cell_of_blk K2.out 1
  simp at x0 x1
  clear hb1
  go_wp2_with fail
  refine (HCB.out w1 HX1.out 0 HE2.out).mono ?_; rintro e w2 ⟨rfl, hb2⟩
  have L1 := Lib.hid (blk_keep hb2 K1.out)
  have L2 := Lib.hid (blk_keep hb2 K2.out)
  have L3 := Lib.hid (blk_keep hb2 K3.out)
  have HX2 := Lib.hid (HX1.out.trans (hb2.mono HX1.out.size))
  have y0 := cell_of_blk L1.out 0
  have y1 := cell_of_blk L2.out 0
  simp at y0 y1
  have hs2 : w.heap.size + 1 + 1 < w2.heap.size := (Array.getElem?_eq_some_iff.1 L3.out).1
  clear hb2 x0 x1
  go_wp2_with fail
  have BX := Lib.hid (heap_alloc_new w2 (.cells #[.int .i64 (max a.per b.per), .slice none 0 0] 24))
  have BWX := Lib.hid (below_alloc w2 (.cells #[.int .i64 (max a.per b.per), .slice none 0 0] 24))
  generalize w2.alloc (.cells #[.int .i64 (max a.per b.per), .slice none 0 0] 24) = W3 at BX BWX ⊢
  clear y0 y1
  go_loopw [8] (fun i wr => ∃ k : Nat, k ≤ m ∧ i = .int .i64 k ∧ Hid (Push w2 wr (max a.per b.per) (((a.signs.take k).map (joinS b.signs)).map (sgWith tidyV)) ∧ (a.signs.take k).any (clash1 b.signs) = false)) (fun i _ => m - (intOf i).toNat)
  case atStart => exact ⟨0, Nat.zero_le _, rfl, Lib.hid ⟨⟨none, 0, [], BWX.out, BX.out, ⟨World.ownsRow_nil _ _ _ _, (fun m h => (by cases h)), (fun m h => (by cases h))⟩, by simp⟩, by simp⟩⟩
  case round =>
    obtain ⟨k, hk, rfl, hrl⟩ := hrel
    obtain ⟨A, c, cs, hb3, hk3, ho3, hm3⟩ := hrl.out.1
    have HWR := Lib.hid (HX2.out.trans (hb3.mono HX2.out.size))
    have HL1 := Lib.hid (blk_keep hb3 L1.out)
    have HL2 := Lib.hid (blk_keep hb3 L2.out)
    have hws := hb3.size
    have q1 := cell_of_blk HL1.out 1
    simp at q1
    have HCL := Lib.hid hrl.out.2
    have HP := Lib.hid (And.intro hb3 (And.intro hk3 (And.intro ho3 hm3)))
    have hwn : w2.heap.size < wr.heap.size := (Array.getElem?_eq_some_iff.1 hk3).1
    clear hb3 hk3 ho3 hm3 hrl
    by_cases hlt : k < m
    · have hget : a.ms[k]? = some (a.ms[k]'(by have := HM.out; omega)) := List.getElem?_eq_getElem _
      obtain ⟨u, hu⟩ : ∃ u, u = a.ms[k]'(by have := HM.out; omega) := ⟨_, rfl⟩
      rw [← hu] at hget
      obtain ⟨ab, ao, haA, hab, hva, huo⟩ := HA0.out.signs k u hget
      obtain ⟨y0, y1, y2, y3, y4⟩ := hva.below HWR.out hab
      have hsa : ab < wr.heap.size := by have := HWR.out.size; omega
      have HU0 := Lib.hid huo
      have hgs : a.signs[k]? = some u.s := Lm.getElem_signs hget
      have HSN := Lib.hid (show a.signs.take (k + 1) = a.signs.take k ++ [u.s] from take_step _ _ _ hgs)
      have HUV := Lib.hid (OA.out.2.2.2 u.s (List.mem_of_getElem? hgs))
      rw [← HAA.out] at haA
      subst haA
      have hcl : cs.length ≤ 200 := by
        have h1 : (cs.map (·.s)).length = _ := congrArg List.length HP.out.2.2.2
        rw [List.length_map, List.length_map, List.length_map] at h1
        have h3 : (a.signs.take k).length ≤ k := List.length_take_le _ _
        omega
      have hum : u.s ∈ a.signs := List.mem_of_getElem? hgs
      have HUM := Lib.hid hum
      clear hu hget hva huo hab hgs hum
      obtain ⟨V, hV⟩ : ∃ V, V = tidyV (joinS b.signs u.s).vals := ⟨_, rfl⟩
      have HV := Lib.hid hV
      have HVS := Lib.hid (show ∀ v ∈ V, v.text.size ≤ maxLen from hV ▸ tidyV_sz (fun v hv => by
        rcases List.mem_append.1 (show v ∈ u.s.vals ++ extraV b.signs u.s.code from hv) with hv | hv
        · exact HUV.out.2 v hv
        · obtain ⟨t, ht, hv⟩ := extra_mem hv
          exact (OB.out.2.2.2 t ht).2 v hv))
      clear hV
      go_upto_region 13 with fail
      have HBX := Lib.hid (show ((wr.alloc (.cells #[.string u.s.code, .int .i64 u.s.wide, .int .i64 u.s.high, .bool u.s.even, .slice u.A u.s.vals.length u.cap] 39)).alloc (.cells #[.string u.s.code, .int .i64 u.s.wide, .int .i64 u.s.high, .bool u.s.even, .slice u.A u.s.vals.length u.cap] 39)).heap[wr.heap.size]? = some (.cells #[.string u.s.code, .int .i64 u.s.wide, .int .i64 u.s.high, .bool u.s.even, .slice u.A u.s.vals.length u.cap] 39 (0, 0)) by
        rw [heap_alloc_other _ _ _ (by simp)]; exact heap_alloc_new _ _)
      have HB4 := Lib.hid (((Below.refl wr.heap.size wr).alloc (Nat.le_refl _) (.cells #[.string u.s.code, .int .i64 u.s.wide, .int .i64 u.s.high, .bool u.s.even, .slice u.A u.s.vals.length u.cap] 39)).alloc (by simp) (.cells #[.string u.s.code, .int .i64 u.s.wide, .int .i64 u.s.high, .bool u.s.even, .slice u.A u.s.vals.length u.cap] 39))
      have HUW := Lib.hid (HU0.out.below HWR.out)
      have hob := OwnSigns.one (HUW.out.below (below_alloc wr (.cells #[.string u.s.code, .int .i64 u.s.wide, .int .i64 u.s.high, .bool u.s.even, .slice u.A u.s.vals.length u.cap] 39)))
      rw [show (wr.alloc (.cells #[.string u.s.code, .int .i64 u.s.wide, .int .i64 u.s.high, .bool u.s.even, .slice u.A u.s.vals.length u.cap] 39)).heap.size = wr.heap.size + 1 by simp] at hob
      have HOB := Lib.hid (show OwnSigns ((wr.alloc (.cells #[.string u.s.code, .int .i64 u.s.wide, .int .i64 u.s.high, .bool u.s.even, .slice u.A u.s.vals.length u.cap] 39)).alloc (.cells #[.string u.s.code, .int .i64 u.s.wide, .int .i64 u.s.high, .bool u.s.even, .slice u.A u.s.vals.length u.cap] 39)) (wr.heap.size + 1) (some ⟨wr.heap.size + 1, 0, none⟩) 1 [u] from hob)
      have HS4 := Lib.hid (show ((wr.alloc (.cells #[.string u.s.code, .int .i64 u.s.wide, .int .i64 u.s.high, .bool u.s.even, .slice u.A u.s.vals.length u.cap] 39)).alloc (.cells #[.string u.s.code, .int .i64 u.s.wide, .int .i64 u.s.high, .bool u.s.even, .slice u.A u.s.vals.length u.cap] 39)).heap.size = wr.heap.size + 1 + 1 by simp)
      clear hob
      generalize (wr.alloc (.cells #[.string u.s.code, .int .i64 u.s.wide, .int .i64 u.s.high, .bool u.s.even, .slice u.A u.s.vals.length u.cap] 39)).alloc (.cells #[.string u.s.code, .int .i64 u.s.wide, .int .i64 u.s.high, .bool u.s.even, .slice u.A u.s.vals.length u.cap] 39) = W4 at HBX HB4 HOB HS4 ⊢
      have HX4 := Lib.hid (HWR.out.trans (HB4.out.mono HWR.out.size))
      have z0 := cell_of_blk HBX.out 0
      have p0 := cell_of_blk (blk_keep HB4.out HL2.out) 0
      have p1 := cell_of_blk (blk_keep HB4.out HL2.out) 1
      simp at z0 p0 p1
      clear y0 y1 y2 y3 y4 q1
      by_cases hin : hasC b.signs u.s.code = true
      case neg =>
        have hin : hasC b.signs u.s.code = false := by simpa using hin
        have HI := Lib.hid (HIX.out W4 HX4.out u.s.code (-1) (indexI_none _ _ hin))
        have HVE := Lib.hid (show tidiedR ([u].map (·.s.vals)) = V by
          rw [HV.out]
          show tidyV u.s.vals = tidyV (u.s.vals ++ extraV b.signs u.s.code)
          rw [extra_none _ _ hin, List.append_nil])
        have HC1 := Lib.hid (clash1_no hin)
        clear hin
        go_wp2_with fail
        refine HI.out.mono ?_; rintro e w5 ⟨rfl, hb5⟩
        have HBE := Lib.hid (HB4.out.trans (hb5.mono HB4.out.size))
        have BX5 := Lib.hid (blk_keep hb5 HBX.out)
        have HSE := Lib.hid (show wr.heap.size < w5.heap.size by have := hb5.size; have := HS4.out; omega)
        have htd := tidied_any (some ⟨wr.heap.size + 1, 0, none⟩) 1 [u] w5 ((HOB.out.below hb5).lm 0).signs (Nat.le_refl _) (by unfold maxLen; omega) (by simp) (fun m hm => by simp at hm; subst hm; exact ⟨by have := HUV.out.1; omega, HUV.out.2⟩)
        rw [HVE.out] at htd
        have HTD := Lib.hid htd
        clear hb5 z0 p0 p1 htd
        go_wp2_with fail
        refine HTD.out.mono ?_; rintro e w6 ⟨A2, c2, rfl, own6, hb6⟩
        obtain ⟨hv2, hl2, hc2, hfr⟩ := own_vals own6 HVS.out
        have BX6 := Lib.hid (blk_keep hb6 BX5.out)
        have f4 := free_of_blk BX6.out 4
        have g4 := cell_of_blk BX6.out 4
        simp at g4
        have HBX7 := Lib.hid (show (w6.setCell ⟨wr.heap.size, 4, none⟩ (.slice A2 V.length c2)).heap[wr.heap.size]? = some (.cells #[.string u.s.code, .int .i64 u.s.wide, .int .i64 u.s.high, .bool u.s.even, .slice A2 V.length c2] 39 (0, 0)) by
          rw [heap_setCell_same _ _ _ _ _ _ BX6.out]; rfl)
        have HB6 := Lib.hid (HBE.out.trans (hb6.mono HBE.out.size))
        have hwx := HBE.out.size
        have HM7 := Lib.hid (show SmOk (w6.setCell ⟨wr.heap.size, 4, none⟩ (.slice A2 V.length c2)) (u.with V A2 c2) from
          ⟨valsAt_set hv2 (fun _ b o e e2 => by have := hfr b o e; have := HSE.out; omega) _ _, hl2, hc2, HU0.out.code⟩)
        have HB7 := Lib.hid (HB6.out.setCell (p := ⟨wr.heap.size, 4, none⟩) (Nat.le_refl _) (.slice A2 V.length c2))
        have HFR := Lib.hid hfr
        clear own6 hb6 hv2 hl2 hc2 hfr
        go_upto_region 20 with fail
        generalize w6.setCell ⟨wr.heap.size, 4, none⟩ (.slice A2 V.length c2) = W7 at HBX7 HM7 HB7 ⊢
        clear f4 g4
        have HO7 := Lib.hid (HP.out.2.2.1.below HB7.out)
        have HK7 := Lib.hid (blk_keep HB7.out HP.out.2.1)
        have HB77 := Lib.hid (HP.out.1.trans (HB7.out.mono HP.out.1.size))
        have z0 := cell_of_blk HBX7.out 0
        have z1 := cell_of_blk HBX7.out 1
        have z2 := cell_of_blk HBX7.out 2
        have z3 := cell_of_blk HBX7.out 3
        have z4 := cell_of_blk HBX7.out 4
        have m1 := cell_of_blk HK7.out 1
        simp at z0 z1 z2 z3 z4 m1
        go_wp2_with (first
          | (at_builtin; refine wpList_append_src _ rfl (.tmp 86) (.tmp 88) 22 rfl (w2.heap.size + 1) 39 is (.agg #[.string ⟨#[]⟩, .int .i64 0, .int .i64 0, .bool false, .slice none 0 0]) 5 64 Tryz.underlying22 his.out hzs.out hss.out hbs.out rfl (by decide) (.slice A cs.length c) cs.length (cs.flatMap Sm.cells) rfl ?own3 (some ⟨W7.heap.size, 0, none⟩) 1 1 (Sm.cells (u.with V A2 c2)) rfl ?l3 ?n3 ?c3 sm_one ?m3 ?b3 ?s3 (cs.length + 1) rfl ?_))
        case own3 => exact HO7.out.own.alloc _
        case l3 => rfl
        case n3 => intro h; cases h
        case c3 =>
          intro ad had i u' hi
          injection had with had
          subst had
          have := new_cells W7 (Sm.cells (u.with V A2 c2)) 39 i u' hi
          simpa [Sm.cells, Sm.with] using this
        case m3 => unfold maxLen; omega
        case b3 => omega
        case s3 => have := HB77.out.size; simp; omega
        · intro A4 c4 w8 own8 hg8 hat
          obtain ⟨hk8, hpush⟩ := push_ok HB77.out HK7.out HO7.out HP.out.2.2.2 HM7.out (fun _ b o e e2 => by
            have h1 := HFR.out b o e
            have h2 := (HP.out.2.2.1.own.lt b e2).2
            omega) own8 hg8 (by simpa using hat)
          have HPUSH := Lib.hid hpush
          have t1 := cell_of_blk hk8 1
          have tf := free_of_blk hk8 1
          simp at t1
          clear own8 hg8 hat hpush hk8 m1 z0 z1 z2 z3 z4
          go_wp2_with fail
          go_roundw
          case rel => exact ⟨k + 1, by omega, by go_num, Lib.hid ⟨by rw [HSN.out, List.map_append, List.map_append]; have h := HPUSH.out; rw [HV.out] at h; exact h, by rw [HSN.out, List.any_append, HCL.out, Bool.false_or, List.any_cons, HC1.out]; rfl⟩⟩
          case measure => simp [intOf]; omega
      case pos =>
        obtain ⟨i, t, hI, hti, hte⟩ := indexI_hit _ _ hin
        have HI := Lib.hid (HIX.out W4 HX4.out u.s.code i hI)
        have him : i < n := by
          have h1 := (List.getElem?_eq_some_iff.1 hti).1
          rw [Lm.length_signs] at h1
          rw [HN.out]; exact h1
        have hgu : b.ms[i]? = some (b.ms[i]'(by have := HN.out; omega)) := List.getElem?_eq_getElem _
        obtain ⟨tm, htm⟩ : ∃ tm, tm = b.ms[i]'(by have := HN.out; omega) := ⟨_, rfl⟩
        rw [← htm] at hgu
        have hts : tm.s = t := by
          have h := Lm.getElem_signs hgu
          rw [hti] at h
          injection h with h; exact h.symm
        subst hts
        obtain ⟨bb, bo, hbB, hbb, hvb, hto⟩ := HB0.out.signs i tm hgu
        have HT0 := Lib.hid hto
        have hvx := hvb
        have HVB := Lib.hid (And.intro hbb hvx)
        rw [← HBA.out] at hbB
        subst hbB
        have HTM := Lib.hid (show tm.s ∈ b.signs from List.mem_of_getElem? hti)
        have HTV := Lib.hid (OB.out.2.2.2 tm.s HTM.out)
        have HC1 := Lib.hid (show clash1 b.signs u.s = !shapeEq tm.s u.s from clash1_at CB.out.2.2.2.2 hti hte)
        have HVE := Lib.hid (show tidiedR ([u, tm].map (·.s.vals)) = V by
          rw [HV.out]
          show tidiedR [u.s.vals, tm.s.vals] = tidyV (u.s.vals ++ extraV b.signs u.s.code)
          rw [extra_hit b.signs u.s.code CB.out.2.2.2.2 i tm.s hti hte, tidied_two])
        have hi0 : (i : Int) ≥ 0 := by omega
        have hi1 : (i : Int) < (n : Int) := by omega
        have hi2 : ((i : Int)).toNat = i := by omega
        clear hin hI hti hte htm hgu hvb hvx hto hbb
        go_wp2_with fail
        refine HI.out.mono ?_; rintro e w5 ⟨rfl, hb5⟩
        have HBE5 := Lib.hid (HB4.out.trans (hb5.mono HB4.out.size))
        have HX5 := Lib.hid (HWR.out.trans (HBE5.out.mono HWR.out.size))
        have BX5 := Lib.hid (blk_keep hb5 HBX.out)
        have HOB5 := Lib.hid (HOB.out.below hb5)
        have HS5 := Lib.hid (show wr.heap.size + 1 + 1 ≤ w5.heap.size by have := hb5.size; have := HS4.out; omega)
        obtain ⟨v0, v1, v2, v3, v4⟩ := HVB.out.2.below HX5.out HVB.out.1
        have hsb : bb < w5.heap.size := by have := HX5.out.size; have := HVB.out.1; omega
        have d1 := cell_of_blk (blk_keep HBE5.out HL2.out) 1
        clear hb5 p0 p1
        simp at d1
        go_upto_region 16 with fail
        have HBT := Lib.hid (heap_alloc_new w5 (.cells #[.string tm.s.code, .int .i64 tm.s.wide, .int .i64 tm.s.high, .bool tm.s.even, .slice tm.A tm.s.vals.length tm.cap] 39))
        have HBW := Lib.hid (below_alloc w5 (.cells #[.string tm.s.code, .int .i64 tm.s.wide, .int .i64 tm.s.high, .bool tm.s.even, .slice tm.A tm.s.vals.length tm.cap] 39))
        have HS6 := Lib.hid (show (w5.alloc (.cells #[.string tm.s.code, .int .i64 tm.s.wide, .int .i64 tm.s.high, .bool tm.s.even, .slice tm.A tm.s.vals.length tm.cap] 39)).heap.size = w5.heap.size + 1 by simp)
        generalize w5.alloc (.cells #[.string tm.s.code, .int .i64 tm.s.wide, .int .i64 tm.s.high, .bool tm.s.even, .slice tm.A tm.s.vals.length tm.cap] 39) = W6 at HBT HBW HS6 ⊢
        have HOB6 := Lib.hid (HOB5.out.below HBW.out)
        have BX6 := Lib.hid (blk_keep HBW.out BX5.out)
        have HBE6 := Lib.hid (HBE5.out.trans (HBW.out.mono HBE5.out.size))
        have HX6 := Lib.hid (HX5.out.trans (HBW.out.mono HX5.out.size))
        have t0 := cell_of_blk HBT.out 0
        have t1 := cell_of_blk HBT.out 1
        have t2 := cell_of_blk HBT.out 2
        have t3 := cell_of_blk HBT.out 3
        have t4 := cell_of_blk HBT.out 4
        simp at t0 t1 t2 t3 t4
        have z0 := cell_of_blk BX6.out 0
        have z1 := cell_of_blk BX6.out 1
        have z2 := cell_of_blk BX6.out 2
        have z3 := cell_of_blk BX6.out 3
        have hs5 : w.heap.size + 1 + 1 < W6.heap.size := by have := HS5.out; have := HS6.out; omega
        clear v0 v1 v2 v3 v4 d1
        simp at z0 z1 z2 z3
        by_cases hq : shapeEq tm.s u.s = true
        case neg =>
          have hq : shapeEq tm.s u.s = false := by simpa using hq
          have HF := Lib.hid (show mergeL a.li b.li = (⟨0, []⟩, 11) by
            unfold mergeL
            rw [HE.out, HE2.out, if_neg (by simp), if_neg (by simp), if_pos]
            rw [clash_flip]
            refine List.any_eq_true.2 ⟨u.s, HUM.out, ?_⟩
            show clash1 b.signs u.s = true
            rw [HC1.out, hq]; rfl)
          have L3r := Lib.hid (blk_keep HBE6.out (blk_keep HP.out.1 L3.out))
          have hd3 : ((tm.s.wide != u.s.wide) = true) ∨ ((tm.s.wide != u.s.wide) = false ∧ (tm.s.high != u.s.high) = true) ∨ ((tm.s.wide != u.s.wide) = false ∧ (tm.s.high != u.s.high) = false ∧ (!(tm.s.even == u.s.even)) = true) := by
            unfold shapeEq at hq
            cases h1 : (tm.s.wide == u.s.wide) <;> cases h2 : (tm.s.high == u.s.high) <;> cases h3 : (tm.s.even == u.s.even) <;> simp_all
          clear hq
          have r0 := cell_of_blk L3r.out 0
          have r1 := cell_of_blk L3r.out 1
          have f0 := free_of_blk L3r.out 0
          have f1 := free_of_blk L3r.out 1
          simp at r0 r1
          rcases hd3 with h1 | ⟨h1, h2⟩ | ⟨h1, h2, h3⟩
          all_goals (
            go_wp2_with fail
            rw [HF.out]
            refine bodyPost_ret (v := .tuple #[.agg #[.int .i64 0, .slice none 0 0], .int .i64 11]) (by simp [results, Tryz.results15, go_sem, r0, r1]) rfl ⟨⟨0, [], none, 0⟩, rfl, lm_none _, rfl, ?_⟩
            exact (HX6.out.setCell (by dsimp only; omega) _).setCell (by dsimp only; omega) _)
        case pos =>
          have hq3 : (tm.s.wide != u.s.wide) = false ∧ (tm.s.high != u.s.high) = false ∧ (!(tm.s.even == u.s.even)) = false := by
            unfold shapeEq at hq
            cases h1 : (tm.s.wide == u.s.wide) <;> cases h2 : (tm.s.high == u.s.high) <;> cases h3 : (tm.s.even == u.s.even) <;> simp_all
          rw [hq] at HC1
          obtain ⟨h1, h2, h3⟩ := hq3
          clear hq
          go_upto_region 18 with fail
          obtain ⟨SL, hSL⟩ : ∃ SL, SL = Value.slice (some ⟨wr.heap.size + 1, 0, none⟩) 1 1 := ⟨_, rfl⟩
          rw [← hSL]
          have HSL := Lib.hid hSL
          clear z0 z1 z2 z3 h1 h2 h3 hSL
          go_wp2_with (first
            | (at_builtin; refine wpList_append_src _ rfl (.tmp 78) (.tmp 80) 22 rfl (wr.heap.size + 1) 39 is (.agg #[.string ⟨#[]⟩, .int .i64 0, .int .i64 0, .bool false, .slice none 0 0]) 5 64 Tryz.underlying22 his.out hzs.out hss.out hbs.out rfl (by decide) SL 1 (Sm.cells u) rfl ?ownb (some ⟨W6.heap.size, 0, none⟩) 1 1 (Sm.cells tm) rfl ?lb ?nb ?cb sm_one ?mb ?bb ?sb 2 rfl ?_))
          case ownb => rw [HSL.out]; exact HOB6.out.own.alloc _
          case lb => rfl
          case nb => intro h; cases h
          case cb =>
            intro ad had i u' hi
            injection had with had
            subst had
            have := new_cells W6 (Sm.cells tm) 39 i u' hi
            simpa [Sm.cells] using this
          case mb => unfold maxLen; omega
          case bb => omega
          case sb => have := HS6.out; have := HS5.out; simp; omega
          · intro A5 c5 w7 own7 hg7 hat
            rw [HSL.out] at hg7 hat
            have HOB7 := Lib.hid (OwnSigns.append (m := tm) HOB6.out (HT0.out.below HX6.out) (fun h0 b' o e e2 => by
              have h1 := vals_lt HT0.out.vals h0 b' o e
              have h2 := (HOB6.out.own.lt b' e2).1
              have h3 := HWR.out.size
              omega) own7 hg7 (by simpa using hat))
            have BX7 := Lib.hid (show w7.heap[wr.heap.size]? = some (.cells #[.string u.s.code, .int .i64 u.s.wide, .int .i64 u.s.high, .bool u.s.even, .slice u.A u.s.vals.length u.cap] 39 (0, 0)) by
              have h1 := HS5.out
              have h2 := HS6.out
              rw [hg7.block _ (by simp; omega) (fun e => by injection e with e; dsimp only at e; omega), heap_alloc_other _ _ _ (by omega)]; exact BX6.out)
            have HBE := Lib.hid ((HBE6.out.alloc HBE6.out.size (.cells #[.string tm.s.code, .int .i64 tm.s.wide, .int .i64 tm.s.high, .bool tm.s.even, .slice tm.A tm.s.vals.length tm.cap] 39)).grown hg7 (by have := HBE6.out.size; simp; omega) (fun g hg => by injection hg with hg; dsimp only at hg; omega))
            have HSE := Lib.hid (show wr.heap.size < w7.heap.size from (Array.getElem?_eq_some_iff.1 BX7.out).1)
            have htd := tidied_any A5 c5 [u, tm] w7 (HOB7.out.lm 0).signs (HOB7.out.lm 0).len (HOB7.out.lm 0).cap (by simp) (fun m hm => by
              simp at hm
              rcases hm with rfl | rfl
              · exact ⟨by have := HUV.out.1; omega, HUV.out.2⟩
              · exact ⟨by have := HTV.out.1; omega, HTV.out.2⟩)
            rw [HVE.out] at htd
            have HTD := Lib.hid htd
            clear own7 hg7 hat htd t0 t1 t2 t3 t4
            go_wp2_with fail
            refine HTD.out.mono ?_; rintro e w6 ⟨A2, c2, rfl, own6, hb6⟩
            obtain ⟨hv2, hl2, hc2, hfr⟩ := own_vals own6 HVS.out
            have BX6 := Lib.hid (blk_keep hb6 BX7.out)
            have f4 := free_of_blk BX6.out 4
            have g4 := cell_of_blk BX6.out 4
            simp at g4
            have HBX7 := Lib.hid (show (w6.setCell ⟨wr.heap.size, 4, none⟩ (.slice A2 V.length c2)).heap[wr.heap.size]? = some (.cells #[.string u.s.code, .int .i64 u.s.wide, .int .i64 u.s.high, .bool u.s.even, .slice A2 V.length c2] 39 (0, 0)) by
              rw [heap_setCell_same _ _ _ _ _ _ BX6.out]; rfl)
            have HB6 := Lib.hid (HBE.out.trans (hb6.mono HBE.out.size))
            have hwx := HBE.out.size
            have HM7 := Lib.hid (show SmOk (w6.setCell ⟨wr.heap.size, 4, none⟩ (.slice A2 V.length c2)) (u.with V A2 c2) from
              ⟨valsAt_set hv2 (fun _ b o e e2 => by have := hfr b o e; have := HSE.out; omega) _ _, hl2, hc2, HU0.out.code⟩)
            have HB7 := Lib.hid (HB6.out.setCell (p := ⟨wr.heap.size, 4, none⟩) (Nat.le_refl _) (.slice A2 V.length c2))
            have HFR := Lib.hid hfr
            clear own6 hb6 hv2 hl2 hc2 hfr
            go_upto_region 20 with fail
            generalize w6.setCell ⟨wr.heap.size, 4, none⟩ (.slice A2 V.length c2) = W7 at HBX7 HM7 HB7 ⊢
            clear f4 g4
            have HO7 := Lib.hid (HP.out.2.2.1.below HB7.out)
            have HK7 := Lib.hid (blk_keep HB7.out HP.out.2.1)
            have HB77 := Lib.hid (HP.out.1.trans (HB7.out.mono HP.out.1.size))
            have z0 := cell_of_blk HBX7.out 0
            have z1 := cell_of_blk HBX7.out 1
            have z2 := cell_of_blk HBX7.out 2
            have z3 := cell_of_blk HBX7.out 3
            have z4 := cell_of_blk HBX7.out 4
            have m1 := cell_of_blk HK7.out 1
            simp at z0 z1 z2 z3 z4 m1
            go_wp2_with (first
              | (at_builtin; refine wpList_append_src _ rfl (.tmp 86) (.tmp 88) 22 rfl (w2.heap.size + 1) 39 is (.agg #[.string ⟨#[]⟩, .int .i64 0, .int .i64 0, .bool false, .slice none 0 0]) 5 64 Tryz.underlying22 his.out hzs.out hss.out hbs.out rfl (by decide) (.slice A cs.length c) cs.length (cs.flatMap Sm.cells) rfl ?own4 (some ⟨W7.heap.size, 0, none⟩) 1 1 (Sm.cells (u.with V A2 c2)) rfl ?l4 ?n4 ?c4 sm_one ?m4 ?b4 ?s4 (cs.length + 1) rfl ?_))
            case own4 => exact HO7.out.own.alloc _
            case l4 => rfl
            case n4 => intro h; cases h
            case c4 =>
              intro ad had i u' hi
              injection had with had
              subst had
              have := new_cells W7 (Sm.cells (u.with V A2 c2)) 39 i u' hi
              simpa [Sm.cells, Sm.with] using this
            case m4 => unfold maxLen; omega
            case b4 => omega
            case s4 => have := HB77.out.size; simp; omega
            · intro A4 c4 w8 own8 hg8 hat
              obtain ⟨hk8, hpush⟩ := push_ok HB77.out HK7.out HO7.out HP.out.2.2.2 HM7.out (fun _ b o e e2 => by
                have h1 := HFR.out b o e
                have h2 := (HP.out.2.2.1.own.lt b e2).2
                omega) own8 hg8 (by simpa using hat)
              have HPUSH := Lib.hid hpush
              have t1 := cell_of_blk hk8 1
              have tf := free_of_blk hk8 1
              simp at t1
              clear own8 hg8 hat hpush hk8 m1 z0 z1 z2 z3 z4
              go_wp2_with fail
              go_roundw
              case rel => exact ⟨k + 1, by omega, by go_num, Lib.hid ⟨by rw [HSN.out, List.map_append, List.map_append]; have h := HPUSH.out; rw [HV.out] at h; exact h, by rw [HSN.out, List.any_append, HCL.out, Bool.false_or, List.any_cons, HC1.out]; rfl⟩⟩
              case measure => simp [intOf]; omega
    · obtain rfl : k = m := by omega
      have HTA := Lib.hid (show a.signs.take k = a.signs by rw [HM.out, ← Lm.length_signs, List.take_length])
      have HCF := Lib.hid (show clash a.signs b.signs = false by rw [clash_flip, ← HTA.out]; exact HCL.out)
      have HP0 := Lib.hid (show Push w2 wr (max a.per b.per) ((a.signs.map (joinS b.signs) ++ newS a.signs (b.signs.take 0)).map (sgWith tidyV)) from
        ⟨A, c, cs, HP.out.1, HP.out.2.1, HP.out.2.2.1, by rw [HP.out.2.2.2, HTA.out]; simp [newS]⟩)
      clear HWR HL1 HL2 HCL HP
      go_wp2_with fail
      clear q1 hws hwn hk hlt
      go_loopw [13] (fun i wr => ∃ k : Nat, k ≤ n ∧ i = .int .i64 k ∧ Hid (Push w2 wr (max a.per b.per) ((a.signs.map (joinS b.signs) ++ newS a.signs (b.signs.take k)).map (sgWith tidyV)))) (fun i _ => n - (intOf i).toNat)
      case atStart => exact ⟨0, Nat.zero_le _, rfl, HP0⟩
      case round =>
        clear HP0
        obtain ⟨j, hj, rfl, hrl⟩ := hrel
        obtain ⟨k, hkk⟩ : ∃ k, k = j := ⟨_, rfl⟩
        subst hkk
        obtain ⟨A, c, cs, hb3, hk3, ho3, hm3⟩ := hrl.out
        have HWR := Lib.hid (HX2.out.trans (hb3.mono HX2.out.size))
        have HL1 := Lib.hid (blk_keep hb3 L1.out)
        have HL2 := Lib.hid (blk_keep hb3 L2.out)
        have hws := hb3.size
        have q1 := cell_of_blk HL2.out 1
        have o0 := cell_of_blk HL1.out 0
        have o1 := cell_of_blk HL1.out 1
        simp at q1 o0 o1
        have HP := Lib.hid (And.intro hb3 (And.intro hk3 (And.intro ho3 hm3)))
        have hwn : w2.heap.size < wr.heap.size := (Array.getElem?_eq_some_iff.1 hk3).1
        clear hb3 hk3 ho3 hm3 hrl
        by_cases hlt : k < n
        · have hget : b.ms[k]? = some (b.ms[k]'(by have := HN.out; omega)) := List.getElem?_eq_getElem _
          obtain ⟨tm, htm⟩ : ∃ tm, tm = b.ms[k]'(by have := HN.out; omega) := ⟨_, rfl⟩
          rw [← htm] at hget
          obtain ⟨bb, bo, hbB, hbb, hvb, hto⟩ := HB0.out.signs k tm hget
          have HGB := Lib.hid hget
          have HT0 := Lib.hid hto
          have hvx := hvb
          have HVB := Lib.hid (And.intro hbb hvx)
          obtain ⟨y0, y1, y2, y3, y4⟩ := hvb.below HWR.out hbb
          have hsb : bb < wr.heap.size := by have := HWR.out.size; omega
          have hgs : b.signs[k]? = some tm.s := Lm.getElem_signs hget
          have HTM := Lib.hid (show tm.s ∈ b.signs from List.mem_of_getElem? hgs)
          have HTV := Lib.hid (OB.out.2.2.2 tm.s HTM.out)
          have HSN0 := Lib.hid (show b.signs.take (k + 1) = b.signs.take k ++ [tm.s] from take_step _ _ _ hgs)
          have HSB := Lib.hid (show SignsAt w BA b.ms by rw [HBA.out]; exact HB0.out.signs)
          rw [← HBA.out] at hbB
          subst hbB
          have hcl : cs.length ≤ 400 := by
            have h1 : (cs.map (·.s)).length = _ := congrArg List.length HP.out.2.2.2
            rw [List.length_map, List.length_map, List.length_append, List.length_map, Lm.length_signs, ← HM.out] at h1
            unfold newS at h1
            have h2 := List.length_filter_le (fun t => !hasC a.signs t.code) (b.signs.take k)
            have h3 : (b.signs.take k).length ≤ k := List.length_take_le _ _
            omega
          have hwa0 : w.heap.size < wr.heap.size := by omega
          have hwa1 : w.heap.size + 1 < wr.heap.size := by omega
          clear htm hget hvb hvx hto hbb hgs
          by_cases hin : hasC a.signs tm.s.code = true
          case pos =>
            obtain ⟨i, t, hI, -, -⟩ := indexI_hit _ _ hin
            have HI := Lib.hid (fun wx (hx : Below wr.heap.size wr wx) => HIA.out wx (HWR.out.trans (hx.mono HWR.out.size)) tm.s.code i hI)
            have HSN := Lib.hid (show newS a.signs (b.signs.take (k + 1)) = newS a.signs (b.signs.take k) by
              rw [HSN0.out]; unfold newS; rw [List.filter_append]; simp [hin])
            have hi0 : (0 : Int) ≤ (i : Int) := by omega
            clear hI hin
            go_wp2_with fail
            refine wp_region_later (by kernel_rfl) (by kernel_rfl) ?_; (repeat (first | go_big_quiet_step (((go_at_call 32; exact Calls.later _ (HI.out _ (Later.below _))))) | quiet_step (((go_at_call 32; exact Calls.later _ (HI.out _ (Later.below _))))))); refine wpQuiet_nil ?_; rintro _ ⟨s, rfl⟩
            have HB5 := Lib.hid s.below
            generalize s.w = W5 at HB5 ⊢
            go_wp2_with fail
            go_roundw
            case rel => exact ⟨k + 1, by omega, by go_num, Lib.hid (by rw [HSN.out]; exact ⟨A, c, cs, HP.out.1.trans (HB5.out.mono HP.out.1.size), blk_keep HB5.out HP.out.2.1, HP.out.2.2.1.below HB5.out, HP.out.2.2.2⟩)⟩
            case measure => simp [intOf]; omega
          case neg =>
            have hin : hasC a.signs tm.s.code = false := by simpa using hin
            have HI := Lib.hid (fun wx (hx : Below wr.heap.size wr wx) => HIA.out wx (HWR.out.trans (hx.mono HWR.out.size)) tm.s.code (-1) (indexI_none _ _ hin))
            have HSN := Lib.hid (show (a.signs.map (joinS b.signs) ++ newS a.signs (b.signs.take (k + 1))).map (sgWith tidyV) = (a.signs.map (joinS b.signs) ++ newS a.signs (b.signs.take k)).map (sgWith tidyV) ++ [sgWith tidyV tm.s] by
              rw [HSN0.out]; unfold newS; rw [List.filter_append, ← List.append_assoc, List.map_append]; simp [hin])
            clear hin
            go_wp2_with fail
            refine wp_region_later (by kernel_rfl) (by kernel_rfl) ?_; (repeat (first | go_big_quiet_step (((go_at_call 32; exact Calls.later _ (HI.out _ (Later.below _))))) | quiet_step (((go_at_call 32; exact Calls.later _ (HI.out _ (Later.below _))))))); refine wpQuiet_nil ?_; rintro _ ⟨s, rfl⟩
            have HB5 := Lib.hid s.below
            generalize s.w = W5 at HB5 ⊢
            have HX5 := Lib.hid (HWR.out.trans (HB5.out.mono HWR.out.size))
            have HP5 := Lib.hid (And.intro (HP.out.1.trans (HB5.out.mono HP.out.1.size)) (And.intro (blk_keep HB5.out HP.out.2.1) (And.intro (HP.out.2.2.1.below HB5.out) HP.out.2.2.2)))
            have HM2 := Lib.hid (blk_keep HB5.out HL2.out)
            obtain ⟨v0, v1, v2, v3, v4⟩ := HVB.out.2.below HX5.out HVB.out.1
            have hsb5 : bb < W5.heap.size := by have := HB5.out.size; omega
            have q5 := cell_of_blk HM2.out 1
            simp at q5
            obtain ⟨V, hV⟩ : ∃ V, V = tidyV tm.s.vals := ⟨_, rfl⟩
            have HV := Lib.hid hV
            have HVS := Lib.hid (show ∀ v ∈ V, v.text.size ≤ maxLen from hV ▸ tidyV_sz HTV.out.2)
            clear hV y0 y1 y2 y3 y4 q1 o0 o1 hsb
            go_upto_region 26 with fail
            have HBX := Lib.hid (heap_alloc_new W5 (.cells #[.string tm.s.code, .int .i64 tm.s.wide, .int .i64 tm.s.high, .bool tm.s.even, .slice tm.A tm.s.vals.length tm.cap] 39))
            have HBE := Lib.hid (below_alloc W5 (.cells #[.string tm.s.code, .int .i64 tm.s.wide, .int .i64 tm.s.high, .bool tm.s.even, .slice tm.A tm.s.vals.length tm.cap] 39))
            have HS6 := Lib.hid (show (W5.alloc (.cells #[.string tm.s.code, .int .i64 tm.s.wide, .int .i64 tm.s.high, .bool tm.s.even, .slice tm.A tm.s.vals.length tm.cap] 39)).heap.size = W5.heap.size + 1 by simp)
            generalize W5.alloc (.cells #[.string tm.s.code, .int .i64 tm.s.wide, .int .i64 tm.s.high, .bool tm.s.even, .slice tm.A tm.s.vals.length tm.cap] 39) = W6 at HBX HBE HS6 ⊢
            have HX6 := Lib.hid (HX5.out.trans (HBE.out.mono HX5.out.size))
            have q6 := cell_of_blk (blk_keep HBE.out HM2.out) 1
            simp at q6
            have htd := tidied_any (some ⟨bb, bo + k * 5, none⟩) (b.cap - k) [tm] W6 ((HSB.out.one HGB.out).below HX6.out) (by simp; omega) (by unfold maxLen; omega) (by simp) (fun m hm => by simp at hm; subst hm; exact ⟨by have := HTV.out.1; omega, HTV.out.2⟩)
            have HTD := Lib.hid (show Calls Tryz.prog 25 #[.slice (some ⟨bb, bo + k * 5, none⟩) 1 (b.cap - k)] W6 (GotRow W6 42 4 V.length (V.flatMap Va.cells)) by
              rw [HV.out]; exact htd)
            have HSE := Lib.hid (show W5.heap.size < W6.heap.size by have := HS6.out; omega)
            clear v0 v1 v2 v3 v4 q5 htd
            go_wp2_with fail
            refine HTD.out.mono ?_; rintro e w6 ⟨A2, c2, rfl, own6, hb6⟩
            obtain ⟨hv2, hl2, hc2, hfr⟩ := own_vals own6 HVS.out
            have BX6 := Lib.hid (blk_keep hb6 HBX.out)
            have f4 := free_of_blk BX6.out 4
            have g4 := cell_of_blk BX6.out 4
            simp at g4
            have HBX7 := Lib.hid (show (w6.setCell ⟨W5.heap.size, 4, none⟩ (.slice A2 V.length c2)).heap[W5.heap.size]? = some (.cells #[.string tm.s.code, .int .i64 tm.s.wide, .int .i64 tm.s.high, .bool tm.s.even, .slice A2 V.length c2] 39 (0, 0)) by
              rw [heap_setCell_same _ _ _ _ _ _ BX6.out]; rfl)
            have HB6 := Lib.hid (HBE.out.trans (hb6.mono HBE.out.size))
            have hwx := HBE.out.size
            have HM7 := Lib.hid (show SmOk (w6.setCell ⟨W5.heap.size, 4, none⟩ (.slice A2 V.length c2)) (tm.with V A2 c2) from
              ⟨valsAt_set hv2 (fun _ b o e e2 => by have := hfr b o e; have := HSE.out; omega) _ _, hl2, hc2, HT0.out.code⟩)
            have HB7 := Lib.hid (HB6.out.setCell (p := ⟨W5.heap.size, 4, none⟩) (Nat.le_refl _) (.slice A2 V.length c2))
            have HFR := Lib.hid hfr
            clear own6 hb6 hv2 hl2 hc2 hfr
            go_upto_region 27 with fail
            generalize w6.setCell ⟨W5.heap.size, 4, none⟩ (.slice A2 V.length c2) = W7 at HBX7 HM7 HB7 ⊢
            clear f4 g4
            have HO7 := Lib.hid (HP5.out.2.2.1.below HB7.out)
            have HK7 := Lib.hid (blk_keep HB7.out HP5.out.2.1)
            have HB77 := Lib.hid (HP5.out.1.trans (HB7.out.mono HP5.out.1.size))
            have z0 := cell_of_blk HBX7.out 0
            have z1 := cell_of_blk HBX7.out 1
            have z2 := cell_of_blk HBX7.out 2
            have z3 := cell_of_blk HBX7.out 3
            have z4 := cell_of_blk HBX7.out 4
            have m1 := cell_of_blk HK7.out 1
            simp at z0 z1 z2 z3 z4 m1
            go_wp2_with (first
              | (at_builtin; refine wpList_append_src _ rfl (.tmp 121) (.tmp 123) 22 rfl (w2.heap.size + 1) 39 is (.agg #[.string ⟨#[]⟩, .int .i64 0, .int .i64 0, .bool false, .slice none 0 0]) 5 64 Tryz.underlying22 his.out hzs.out hss.out hbs.out rfl (by decide) (.slice A cs.length c) cs.length (cs.flatMap Sm.cells) rfl ?own5 (some ⟨W7.heap.size, 0, none⟩) 1 1 (Sm.cells (tm.with V A2 c2)) rfl ?l5 ?n5 ?c5 sm_one ?m5 ?b5 ?s5 (cs.length + 1) rfl ?_))
            case own5 => exact HO7.out.own.alloc _
            case l5 => rfl
            case n5 => intro h; cases h
            case c5 =>
              intro ad had i u' hi
              injection had with had
              subst had
              have := new_cells W7 (Sm.cells (tm.with V A2 c2)) 39 i u' hi
              simpa [Sm.cells, Sm.with] using this
            case m5 => unfold maxLen; omega
            case b5 => omega
            case s5 => have := HB77.out.size; simp; omega
            · intro A4 c4 w8 own8 hg8 hat
              obtain ⟨hk8, hpush⟩ := push_ok HB77.out HK7.out HO7.out HP5.out.2.2.2 HM7.out (fun _ b o e e2 => by
                have h1 := HFR.out b o e
                have h2 := (HP5.out.2.2.1.own.lt b e2).2
                omega) own8 hg8 (by simpa using hat)
              have HPUSH := Lib.hid hpush
              have t1 := cell_of_blk hk8 1
              have tf := free_of_blk hk8 1
              simp at t1
              clear own8 hg8 hat hpush hk8 m1 z0 z1 z2 z3 z4
              go_wp2_with fail
              go_roundw
              case rel => exact ⟨k + 1, by omega, by go_num, Lib.hid (by rw [HSN.out]; have h := HPUSH.out; rw [HV.out] at h; exact h)⟩
              case measure => simp [intOf]; omega
        · obtain rfl : k = n := by omega
          have HLI := Lib.hid (show (Lm.mk (max a.per b.per) cs A c).li = unionL a.li b.li by
            unfold Lm.li Lm.signs unionL unionS
            dsimp only
            rw [HP.out.2.2.2, HN.out, ← Lm.length_signs, List.take_length]
            rfl)
          have HK9 := Lib.hid HP.out.2.1
          have HO9 := Lib.hid HP.out.2.2.1
          have L3r := Lib.hid (blk_keep HP.out.1 L3.out)
          have z0 := cell_of_blk HK9.out 0
          have z1 := cell_of_blk HK9.out 1
          simp at z0 z1
          have HCK3 := Lib.hid (fun r (h : checkErr (unionL a.li b.li) = r) => show Calls Tryz.prog 17 #[.agg #[.int .i64 (max a.per b.per), .slice A cs.length c]] wr _ from rcheck_is ⟨max a.per b.per, cs, A, c⟩ wr (HO9.out.lm _) r (by rw [HLI.out]; exact h))
          rcases union_two a.li b.li HE.out HE2.out with hu | hu
          · have HF := Lib.hid (show mergeL a.li b.li = (unionL a.li b.li, 0) by
              unfold mergeL
              rw [HE.out, HE2.out, hu, if_neg (by simp), if_neg (by simp), if_neg (by rw [show a.li.signs = a.signs from rfl, show b.li.signs = b.signs from rfl, HCF.out]; simp), if_neg (by simp)])
            have HE3 := Lib.hid hu
            clear hu
            go_wp2_with fail
            refine (HCK3.out 0 HE3.out).mono ?_; rintro e w10 ⟨rfl, hb10⟩
            have y0 := cell_of_blk (blk_keep hb10 HK9.out) 0
            have y1 := cell_of_blk (blk_keep hb10 HK9.out) 1
            have HK10 := Lib.hid (blk_keep hb10 L3r.out)
            have r0 := cell_of_blk HK10.out 0
            have r1 := cell_of_blk HK10.out 1
            have f0 := free_of_blk HK10.out 0
            have f1 := free_of_blk HK10.out 1
            simp at r0 r1 y0 y1
            have HO10 := Lib.hid (HO9.out.below hb10)
            have HX10 := Lib.hid (HWR.out.trans (hb10.mono HWR.out.size))
            have hne : (Value.slice A cs.length c).ownBlock ≠ some (w.heap.size + 1 + 1) := fun e => by have h1 := (HO10.out.own.lt _ e).1; omega
            have hap : ∀ m ∈ cs, ApartG (w.heap.size + 1 + 1) m.A m.s.vals := fun m hm => apart_list (HO10.out.ok m hm) HK10.out
            have HO := Lib.hid ((HO10.out.other hne hap 0 (.int .i64 (max a.per b.per))).other hne hap 1 (.slice A cs.length c))
            clear hb10 z0 z1 hne hap
            go_wp2_with fail
            rw [HF.out]
            refine bodyPost_ret (v := .tuple #[.agg #[.int .i64 (max a.per b.per), .slice A cs.length c], .int .i64 0]) (by simp [results, Tryz.results15, go_sem, r0, r1]) rfl ⟨⟨max a.per b.per, cs, A, c⟩, rfl, HO.out.lm _, HLI.out, ?_⟩
            exact (HX10.out.setCell (by dsimp only; omega) _).setCell (by dsimp only; omega) _
          · have HF := Lib.hid (show mergeL a.li b.li = (⟨0, []⟩, 2) by
              unfold mergeL
              rw [HE.out, HE2.out, hu, if_neg (by simp), if_neg (by simp), if_neg (by rw [show a.li.signs = a.signs from rfl, show b.li.signs = b.signs from rfl, HCF.out]; simp), if_pos (by simp)])
            have HE3 := Lib.hid hu
            clear hu
            go_wp2_with fail
            refine (HCK3.out 2 HE3.out).mono ?_; rintro e w10 ⟨rfl, hb10⟩
            have HK10 := Lib.hid (blk_keep hb10 L3r.out)
            have r0 := cell_of_blk HK10.out 0
            have r1 := cell_of_blk HK10.out 1
            have f0 := free_of_blk HK10.out 0
            have f1 := free_of_blk HK10.out 1
            simp at r0 r1
            have HX10 := Lib.hid (HWR.out.trans (hb10.mono HWR.out.size))
            clear hb10 z0 z1
            go_wp2_with fail
            rw [HF.out]
            refine bodyPost_ret (v := .tuple #[.agg #[.int .i64 0, .slice none 0 0], .int .i64 2]) (by simp [results, Tryz.results15, go_sem, r0, r1]) rfl ⟨⟨0, [], none, 0⟩, rfl, lm_none _, rfl, ?_⟩
            exact (HX10.out.setCell (by dsimp only; omega) _).setCell (by dsimp only; omega) _

end Go.Proofs.YtleihhkacmgofaaGreatDoor

/- Contract of the law of Merge: it returns true. -/
namespace Go.Proofs.YtleihhkacmgofaaGreatDoor
open Go.RowKit

theorem big_bds {L M : Lm} (h : bigB L.signs = false) (hli : M.li = L.li) : M.ms.length ≤ 1000000 ∧ ∀ m ∈ M.ms, m.s.vals.length ≤ 1000000 := by
  have h2 : bigB M.signs = false := by rw [show M.signs = L.signs from congrArg (fun l : Li => l.signs) hli]; exact h
  have := not_big h2
  exact ⟨by omega, fun m hm => by have := (this.2 m hm).1; omega⟩
theorem tidyV_len (vs : List Va) (h : ∀ v ∈ vs, okV v) : (tidyV vs).length ≤ 9 * vs.length := by
  have h1 := (foldV_ok vs [] h (fun x h => by cases h)).2
  have h2 := runsR_len (pointsR [vs])
  unfold tidyV tidiedR
  have e : pointsR [vs] = vs.foldl putV [] := rfl
  rw [e] at h2 ⊢
  simp at h1
  omega
theorem small_merge (a b : Li) : smallL (mergeL a b).1 := by
  have h0 : smallL ⟨0, []⟩ := ⟨by simp, fun s h => by cases h⟩
  unfold mergeL
  split
  · exact h0
  · rename_i ha
    split
    · exact h0
    · rename_i hb
      split
      · exact h0
      · split
        · exact h0
        · have h1 := check_okV a (by simpa using ha)
          have h2 := check_okV b (by simpa using hb)
          have h3 := union_okV a.signs b.signs h1.2.2.2 h2.2.2.2 h2.1
          unfold unionL
          refine ⟨?_, fun s hs => ?_⟩
          · have := union_len a.signs b.signs
            dsimp only
            rw [List.length_map]; omega
          · obtain ⟨u, hu, rfl⟩ := List.mem_map.1 hs
            have h4 := h3 u hu
            have h5 := tidyV_len u.vals h4.2
            show (tidyV u.vals).length ≤ _
            omega

theorem lm_set {w : World} {l : Lm} {g : Nat} {n : Int} {A : Option Addr} {k c : Nat} {t : TypeId} (h : LmOk w l) (hg : w.heap[g]? = some (.cells #[.int .i64 n, .slice A k c] t (0, 0))) (o : Nat) (u : Value) : LmOk (w.setCell ⟨g, o, none⟩ u) l := by
  refine ⟨fun j m hj => ?_, h.len, h.cap⟩
  obtain ⟨b, p, hA, hb, hva, hok⟩ := h.signs j m hj
  have hne : b ≠ g := by
    rintro rfl
    have c0 := hva.c0
    rw [cell_of_blk hg] at c0
    rcases hq : p + j * 5 with _ | _ | q
    · rw [hq] at c0; simp at c0
    · rw [hq] at c0; simp at c0
    · rw [hq] at c0; simp at c0
  have hc : ∀ q, (w.setCell ⟨g, o, none⟩ u).cell? ⟨b, q, none⟩ = w.cell? ⟨b, q, none⟩ := fun q => World.cell?_of_block (a := ⟨b, q, none⟩) (heap_setCell_other _ _ _ _ hne)
  exact ⟨b, p, hA, by simpa using hb, ⟨(hc _).trans hva.c0, (hc _).trans hva.c1, (hc _).trans hva.c2, (hc _).trans hva.c3, (hc _).trans hva.c4⟩, smOk_set hok (apart_list hok hg) _ _⟩

set_option maxHeartbeats 3200000 in
set_option maxRecDepth 100000 in
theorem law_merges (L M : Lm) (w : World) (hE : Env w) (hl : LmOk w L) (hm : LmOk w M) :
    Calls Tryz.prog 4 #[L.val, M.val] w fun e w' => e = .returned (.bool true) ∧ Below w.heap.size w w' := by
  obtain ⟨W, hW⟩ : ∃ W, W = ((w.alloc (.cells #[.int .i64 L.per, .slice L.A L.ms.length L.cap] 24)).alloc (.cells #[.int .i64 M.per, .slice M.A M.ms.length M.cap] 24)) := ⟨_, rfl⟩
  have HB := Lib.hid (show Below w.heap.size w W from hW ▸ ((Below.refl _ _).alloc (Nat.le_refl _) _).alloc (by simp) _)
  have C1 := Lib.hid (show W.heap[w.heap.size]? = some (.cells #[.int .i64 L.per, .slice L.A L.ms.length L.cap] 24 (0, 0)) by
    rw [hW, heap_alloc_other _ _ _ (by simp)]; exact heap_alloc_new _ _)
  have C2 := Lib.hid (show W.heap[w.heap.size + 1]? = some (.cells #[.int .i64 M.per, .slice M.A M.ms.length M.cap] 24 (0, 0)) by
    rw [hW]; have := heap_alloc_new (w.alloc (.cells #[.int .i64 L.per, .slice L.A L.ms.length L.cap] 24)) (.cells #[.int .i64 M.per, .slice M.A M.ms.length M.cap] 24); simpa using this)
  have HL := Lib.hid (hl.below HB.out)
  have HM := Lib.hid (hm.below HB.out)
  have HE := Lib.hid (hE.below HB.out)
  clear hl hm hE
  obtain ⟨B, hB⟩ : ∃ B, bigB L.signs = B := ⟨_, rfl⟩
  obtain ⟨B', hB'⟩ : ∃ B, bigB M.signs = B := ⟨_, rfl⟩
  have HBB := Lib.hid hB
  have HBB' := Lib.hid hB'
  clear hB hB'
  show Calls _ _ #[.agg #[.int .i64 L.per, .slice L.A L.ms.length L.cap], .agg #[.int .i64 M.per, .slice M.A M.ms.length M.cap]] w _
  have HBG := Lib.hid (fun r (h : bigB L.signs = r) => show Calls Tryz.prog 6 #[.agg #[.int .i64 L.per, .slice L.A L.ms.length L.cap]] W _ from big_is L W HL.out r h)
  have HBM := Lib.hid (fun w1 r (hb : Below W.heap.size W w1) (h : bigB M.signs = r) => show Calls Tryz.prog 6 #[.agg #[.int .i64 M.per, .slice M.A M.ms.length M.cap]] w1 _ from big_is M w1 (HM.out.below hb) r h)
  have HWK := Lib.hid (fun w1 (hb : Below W.heap.size W w1) => works_any w1 (HE.out.below hb))
  go_enter Tryz.func4, Tryz.ntmps4
  go_wp2_with fail
  rw [← hW]
  refine (HBG.out _ HBB.out).mono ?_; rintro e w1 ⟨rfl, hb1⟩
  have b1 := Lib.hid hb1
  have x0 := cell_of_blk (blk_keep hb1 C2.out) 0
  have x1 := cell_of_blk (blk_keep hb1 C2.out) 1
  simp at x0 x1
  clear hb1 HBG hW
  cases B with
  | true =>
    go_wp2_with fail
    refine (HWK.out _ b1.out).mono ?_; rintro e w2 ⟨rfl, hb2⟩
    go_wp2
    go_ret
    exact ⟨rfl, (HB.out.trans (b1.out.mono HB.out.size)).trans (hb2.mono (by have := HB.out.size; have := b1.out.size; omega))⟩
  | false =>
  go_wp2_with fail
  refine (HBM.out _ _ b1.out HBB'.out).mono ?_; rintro e w2 ⟨rfl, hb2⟩
  have b2 := Lib.hid (below_more b1.out hb2)
  clear hb2 HBM x0 x1
  cases B' with
  | true =>
    go_wp2_with fail
    refine (HWK.out _ b2.out).mono ?_; rintro e w3 ⟨rfl, hb3⟩
    go_wp2
    go_ret
    exact ⟨rfl, (HB.out.trans (b2.out.mono HB.out.size)).trans (hb3.mono (by have := HB.out.size; have := b2.out.size; omega))⟩
  | false =>
  have D1 := Lib.hid (blk_keep b2.out C1.out)
  have D2 := Lib.hid (blk_keep b2.out C2.out)
  have L1 := Lib.hid (HL.out.below b2.out)
  have M1 := Lib.hid (HM.out.below b2.out)
  have BL := Lib.hid (big_bds (L := L) (M := L) HBB.out rfl)
  have BM := Lib.hid (big_bds (L := M) (M := M) HBB'.out rfl)
  have BLN := Lib.hid (fun (N : Lm) (h : N.li = L.li) => big_bds (L := L) (M := N) HBB.out h)
  have BMN := Lib.hid (fun (N : Lm) (h : N.li = M.li) => big_bds (L := M) (M := N) HBB'.out h)
  have HK := Lib.hid (fun w' (hb : Below w2.heap.size w2 w') => show w'.cell? ⟨w.heap.size, 0, none⟩ = some (.int .i64 L.per) ∧ w'.cell? ⟨w.heap.size, 1, none⟩ = some (.slice L.A L.ms.length L.cap) ∧ w'.cell? ⟨w.heap.size + 1, 0, none⟩ = some (.int .i64 M.per) ∧ w'.cell? ⟨w.heap.size + 1, 1, none⟩ = some (.slice M.A M.ms.length M.cap) ∧ Below w2.heap.size w2 w' from
    ⟨cell_of_blk (blk_keep hb D1.out) 0, cell_of_blk (blk_keep hb D1.out) 1, cell_of_blk (blk_keep hb D2.out) 0, cell_of_blk (blk_keep hb D2.out) 1, hb⟩)
  have HDR := Lib.hid (show Below w2.heap.size w2 w2.drew from (Below.refl _ _).drew)
  have HSB := Lib.hid (fun wx (h : wx.cell? ⟨w.heap.size, 0, none⟩ = some (.int .i64 L.per) ∧ wx.cell? ⟨w.heap.size, 1, none⟩ = some (.slice L.A L.ms.length L.cap) ∧ wx.cell? ⟨w.heap.size + 1, 0, none⟩ = some (.int .i64 M.per) ∧ wx.cell? ⟨w.heap.size + 1, 1, none⟩ = some (.slice M.A M.ms.length M.cap) ∧ Below w2.heap.size w2 wx) => h.2.2.2.2)
  have HCL := Lib.hid (fun wx (hb : Below w2.heap.size w2 wx) => show Calls Tryz.prog 9 #[.agg #[.int .i64 L.per, .slice L.A L.ms.length L.cap]] wx (GotList wx L.li) from copy_any L wx (L1.out.below hb) BL.out.1 BL.out.2)
  have HCM := Lib.hid (fun wx (hb : Below w2.heap.size w2 wx) => show Calls Tryz.prog 9 #[.agg #[.int .i64 M.per, .slice M.A M.ms.length M.cap]] wx (GotList wx M.li) from copy_any M wx (M1.out.below hb) BM.out.1 BM.out.2)
  have HMG := Lib.hid (fun wx (P Q : Lm) (h : LmOk wx P) (h2 : LmOk wx Q) (e1 : P.li = L.li) (e2 : Q.li = M.li) => show Calls Tryz.prog 14 #[P.val, Q.val] wx (GotListE wx (mergeL L.li M.li)) by
    rw [← e1, ← e2]; exact pmerge_any P Q wx h h2)
  have HRG := Lib.hid (fun wx (hb : Below w2.heap.size w2 wx) => show Calls Tryz.prog 15 #[.agg #[.int .i64 L.per, .slice L.A L.ms.length L.cap], .agg #[.int .i64 M.per, .slice M.A M.ms.length M.cap]] wx (GotListE wx (mergeL L.li M.li)) from
    rmerge_any L M wx (L1.out.below hb) (M1.out.below hb))
  have S1 := Lib.hid (small_merge L.li M.li)
  obtain ⟨⟨X, ex⟩, hq⟩ : ∃ q, q = mergeL L.li M.li := ⟨_, rfl⟩
  rw [← hq] at HMG HRG S1
  have HW2 := Lib.hid (fun wx (hb : Below w2.heap.size w2 wx) => HWK.out wx (below_more b2.out hb))
  have HDA := Lib.hid (show Below w2.heap.size w2 (w2.alloc (.cells #[.int .i64 0, .slice none 0 0] 24)).drew from ((Below.refl _ _).alloc (Nat.le_refl _) _).drew)
  have BXA := Lib.hid (show (w2.alloc (.cells #[.int .i64 0, .slice none 0 0] 24)).drew.heap[w2.heap.size]? = some (.cells #[.int .i64 0, .slice none 0 0] 24 (0, 0)) from heap_alloc_new w2 _)
  clear HWK BL BM BLN BMN hq
  go_wp2_with fail
  go_region_held3 (fun w' => w'.cell? ⟨w.heap.size, 0, none⟩ = some (.int .i64 L.per) ∧ w'.cell? ⟨w.heap.size, 1, none⟩ = some (.slice L.A L.ms.length L.cap) ∧ w'.cell? ⟨w.heap.size + 1, 0, none⟩ = some (.int .i64 M.per) ∧ w'.cell? ⟨w.heap.size + 1, 1, none⟩ = some (.slice M.A M.ms.length M.cap) ∧ Below w2.heap.size w2 w')
    (first | (refine HK.out _ ?_; first | assumption | exact HDR.out | exact HDA.out | (refine Below.alloc ?_ ?_ _; assumption; assumption) | (refine Below.setCell (Below.setCell ?_ ?_ _) ?_ _; assumption; (first | exact Nat.le_refl _ | assumption); (first | exact Nat.le_refl _ | assumption))))
    (first
      | (go_at_call 9; ((with_reducible refine (HCL.out _ (HSB.out _ (by assumption))).mono ?_)); rintro e wa ⟨N1, rfl, hok1, hli1, hb1⟩; have hbw1 := below_more (HSB.out _ (by assumption)) hb1; have hsz1 := hbw1.size; (try have hok2a := hok2.below hb1); (try have hok2a := (hok2.below (below_alloc wb (.cells #[.int .i64 0, .slice none 0 0] 24))).below hb1); (try have ka := blk_keep hb1 BXA.out); (try have ka := blk_keep hb1 kb); (try have ka := blk_keep hb1 (heap_alloc_new wb (.cells #[.int .i64 0, .slice none 0 0] 24))))
      | (go_at_call 9; ((with_reducible refine (HCM.out _ (HSB.out _ (by assumption))).mono ?_)); rintro e wb ⟨N2, rfl, hok2, hli2, hb2⟩; have hbw2 := below_more (HSB.out _ (by assumption)) hb2; have hsz2 := hbw2.size; (try have hok1b := hok1.below hb2); (try have hok1b := (hok1.below (below_alloc wa (.cells #[.int .i64 0, .slice none 0 0] 24))).below hb2); (try have kb := blk_keep hb2 BXA.out); (try have kb := blk_keep hb2 ka); (try have kb := blk_keep hb2 (heap_alloc_new wa (.cells #[.int .i64 0, .slice none 0 0] 24))))
      | (go_at_call 14; refine (HMG.out _ N1 N2 (by first | exact hok1 | exact hok1b | exact hok1.below (below_alloc _ _) | exact hok1b.below (below_alloc _ _)) (by first | exact hok2 | exact hok2a | exact hok2.below (below_alloc _ _) | exact hok2a.below (below_alloc _ _)) hli1 hli2).mono ?_; rintro e w5 ⟨⟨p3, m3, A3, c3⟩, rfl, hok3, hli3, hb3⟩; have hbw3 := below_more (HSB.out _ (by assumption)) hb3; have hsz3 := hbw3.size; unfold Lm.val; dsimp only; (try (have k5 := (by first | exact blk_keep hb3 ka | exact blk_keep hb3 kb | exact blk_keep hb3 (heap_alloc_new wa (.cells #[.int .i64 0, .slice none 0 0] 24)) | exact blk_keep hb3 (heap_alloc_new wb (.cells #[.int .i64 0, .slice none 0 0] 24))); have t0 := cell_of_blk k5 0; have t1 := cell_of_blk k5 1; have t2 := free_of_blk k5 0; have t3 := free_of_blk k5 1; simp at t0 t1))))
  all_goals (
    have E3 := Lib.hid hli3
    first
      | (have HC9 := Lib.hid (show ((w5.setCell ⟨w2.heap.size, 0, none⟩ (.int .i64 p3)).setCell ⟨w2.heap.size, 1, none⟩ (.slice A3 m3.length c3)).heap[w2.heap.size]? = some (.cells #[.int .i64 p3, .slice A3 m3.length c3] 24 (0, 0)) by
          rw [heap_setCell_same _ _ _ _ _ _ (heap_setCell_same _ _ _ _ _ _ k5)]; rfl)
         have hx : (w5.setCell ⟨w2.heap.size, 0, none⟩ (.int .i64 p3)).heap[w2.heap.size]? = some (.cells #[.int .i64 p3, .slice none 0 0] 24 (0, 0)) := by
          rw [heap_setCell_same _ _ _ _ _ _ k5]; rfl
         have HO9 := Lib.hid (lm_set (lm_set hok3 k5 0 (.int .i64 p3)) hx 1 (.slice A3 m3.length c3))
         have HB9 := Lib.hid ((hbw3.setCell (p := ⟨w2.heap.size, 0, none⟩) (by first | exact Nat.le_refl _ | assumption) (.int .i64 p3)).setCell (p := ⟨w2.heap.size, 1, none⟩) (by first | exact Nat.le_refl _ | assumption) (.slice A3 m3.length c3))
         generalize (w5.setCell ⟨w2.heap.size, 0, none⟩ (.int .i64 p3)).setCell ⟨w2.heap.size, 1, none⟩ (.slice A3 m3.length c3) = W9 at HC9 HO9 HB9 ⊢
         clear hx k5 t0 t1 t2 t3)
      | (have HC9 := Lib.hid (show ((w5.setCell ⟨wa.heap.size, 0, none⟩ (.int .i64 p3)).setCell ⟨wa.heap.size, 1, none⟩ (.slice A3 m3.length c3)).heap[wa.heap.size]? = some (.cells #[.int .i64 p3, .slice A3 m3.length c3] 24 (0, 0)) by
          rw [heap_setCell_same _ _ _ _ _ _ (heap_setCell_same _ _ _ _ _ _ k5)]; rfl)
         have hx : (w5.setCell ⟨wa.heap.size, 0, none⟩ (.int .i64 p3)).heap[wa.heap.size]? = some (.cells #[.int .i64 p3, .slice none 0 0] 24 (0, 0)) := by
          rw [heap_setCell_same _ _ _ _ _ _ k5]; rfl
         have HO9 := Lib.hid (lm_set (lm_set hok3 k5 0 (.int .i64 p3)) hx 1 (.slice A3 m3.length c3))
         have HB9 := Lib.hid ((hbw3.setCell (p := ⟨wa.heap.size, 0, none⟩) (by first | exact Nat.le_refl _ | assumption) (.int .i64 p3)).setCell (p := ⟨wa.heap.size, 1, none⟩) (by first | exact Nat.le_refl _ | assumption) (.slice A3 m3.length c3))
         generalize (w5.setCell ⟨wa.heap.size, 0, none⟩ (.int .i64 p3)).setCell ⟨wa.heap.size, 1, none⟩ (.slice A3 m3.length c3) = W9 at HC9 HO9 HB9 ⊢
         clear hx k5 t0 t1 t2 t3)
      | (have HC9 := Lib.hid (show ((w5.setCell ⟨wb.heap.size, 0, none⟩ (.int .i64 p3)).setCell ⟨wb.heap.size, 1, none⟩ (.slice A3 m3.length c3)).heap[wb.heap.size]? = some (.cells #[.int .i64 p3, .slice A3 m3.length c3] 24 (0, 0)) by
          rw [heap_setCell_same _ _ _ _ _ _ (heap_setCell_same _ _ _ _ _ _ k5)]; rfl)
         have hx : (w5.setCell ⟨wb.heap.size, 0, none⟩ (.int .i64 p3)).heap[wb.heap.size]? = some (.cells #[.int .i64 p3, .slice none 0 0] 24 (0, 0)) := by
          rw [heap_setCell_same _ _ _ _ _ _ k5]; rfl
         have HO9 := Lib.hid (lm_set (lm_set hok3 k5 0 (.int .i64 p3)) hx 1 (.slice A3 m3.length c3))
         have HB9 := Lib.hid ((hbw3.setCell (p := ⟨wb.heap.size, 0, none⟩) (by first | exact Nat.le_refl _ | assumption) (.int .i64 p3)).setCell (p := ⟨wb.heap.size, 1, none⟩) (by first | exact Nat.le_refl _ | assumption) (.slice A3 m3.length c3))
         generalize (w5.setCell ⟨wb.heap.size, 0, none⟩ (.int .i64 p3)).setCell ⟨wb.heap.size, 1, none⟩ (.slice A3 m3.length c3) = W9 at HC9 HO9 HB9 ⊢
         clear hx k5 t0 t1 t2 t3)
      | (have HC9 := Lib.hid (heap_alloc_new w5 (.cells #[.int .i64 p3, .slice A3 m3.length c3] 24))
         have HO9 := Lib.hid (hok3.below (below_alloc w5 (.cells #[.int .i64 p3, .slice A3 m3.length c3] 24)))
         have HB9 := Lib.hid (hbw3.alloc hsz3 (.cells #[.int .i64 p3, .slice A3 m3.length c3] 24))
         generalize w5.alloc (.cells #[.int .i64 p3, .slice A3 m3.length c3] 24) = W9 at HC9 HO9 HB9 ⊢)
    have x0 := cell_of_blk (blk_keep HB9.out D1.out) 0
    have x1 := cell_of_blk (blk_keep HB9.out D1.out) 1
    have y0 := cell_of_blk (blk_keep HB9.out D2.out) 0
    have y1 := cell_of_blk (blk_keep HB9.out D2.out) 1
    simp at x0 x1 y0 y1
    clear hok3 hli3 hb3 hbw3 hsz3
    (try clear hb1 hbw1 hsz1 hok1)
    (try clear hb2 hbw2 hsz2 hok2)
    go_wp2_with fail
    refine (HRG.out _ HB9.out).mono ?_; rintro e w6 ⟨⟨p4, m4, A4, c4⟩, rfl, hok4, hli4, hb4⟩
    have BX := Lib.hid (heap_alloc_new w6 (.cells #[.int .i64 p4, .slice A4 m4.length c4] 24))
    have BA := Lib.hid (below_alloc w6 (.cells #[.int .i64 p4, .slice A4 m4.length c4] 24))
    have HK9 := Lib.hid (blk_keep (below_more hb4 BA.out) HC9.out)
    have HO6 := Lib.hid (HO9.out.below (below_more hb4 BA.out))
    have HB6 := Lib.hid (below_more (below_more HB9.out hb4) BA.out)
    have HO4 := Lib.hid (hok4.below BA.out)
    have E4 := Lib.hid hli4
    have k6 := (Array.getElem?_eq_some_iff.1 HK9.out).1
    simp at k6
    have a0 := cell_of_blk HK9.out 0
    have a1 := cell_of_blk HK9.out 1
    simp at a0 a1
    have HS1 := Lib.hid (rsame_true ⟨p3, m3, A3, c3⟩ ⟨p4, m4, A4, c4⟩ X _ HO6.out HO4.out E3.out E4.out S1.out)
    unfold Lm.val at HS1
    dsimp only at HS1
    clear hb4 hok4 hli4 x0 x1 y0 y1
    unfold Lm.val
    dsimp only
    go_wp2_with fail
    refine HS1.out.mono ?_; rintro e w8 ⟨rfl, hb8⟩
    have B8 := Lib.hid (below_more HB6.out hb8)
    clear hb8 a0 a1
    go_wp2_with fail
    refine (HW2.out _ B8.out).mono ?_; rintro e wz ⟨rfl, hbz⟩
    go_wp2
    go_ret
    exact ⟨rfl, HB.out.trans ((below_more (below_more b2.out B8.out) hbz).mono HB.out.size)⟩)

end Go.Proofs.YtleihhkacmgofaaGreatDoor

/- What is common to the laws' main proofs: a list opened, the tables that a row lists, and what is said behind the call. -/
namespace Go.Proofs.YtleihhkacmgofaaGreatDoor
open Go.ChangeShapes Go.WideShapes Go.ChangeAt Go.RowKit Go.Deep

theorem own : ownKnob Tryz.prog.godebug = none := by kernel_rfl
theorem laidOut : laidOutB Tryz.prog = true := by kernel_rfl
theorem cellsStr : Tryz.prog.cellsOf 9 = 1 := by kernel_rfl
theorem cellsVal : Tryz.prog.cellsOf 42 = 4 := by kernel_rfl
theorem cellsSgn : Tryz.prog.cellsOf 39 = 5 := by kernel_rfl
theorem cellsInt : Tryz.prog.cellsOf 3 = 1 := by kernel_rfl
theorem cellsBool : Tryz.prog.cellsOf 4 = 1 := by kernel_rfl
theorem cellsVals : Tryz.prog.cellsOf 36 = 1 := by kernel_rfl
theorem cellsLst : Tryz.prog.cellsOf 24 = 2 := by kernel_rfl
theorem cellsSgns : Tryz.prog.cellsOf 22 = 1 := by kernel_rfl

section
variable {H : Type} {enc : TypeId × Value → H} {W : World} {base : Nat} {spare : Nat → Bool} {held : Bool}

theorem spot_of {a : Addr} {c : Nat} {cs : List Value} (h : W.cells? base (a.add (0 * c)) c = some cs) (hc : 0 < c) : ∃ b o, a = ⟨b, o, none⟩ := by
  obtain ⟨_, hl, hat⟩ := World.cells?_some h
  obtain ⟨b, o, sp⟩ := a
  have h0 := hat 0 hc
  rw [List.getElem?_eq_getElem (by omega)] at h0
  have hsp : sp = none := by simpa [Addr.add] using World.cell?_spot h0
  exact ⟨b, o, by rw [hsp]⟩
/-- the cells of an element of a row -/
theorem elem_cells {b o i c : Nat} {cs : List Value} (h : W.cells? base ((⟨b, o, none⟩ : Addr).add (i * c)) c = some cs) (hc : 0 < c) :
    b < W.heap.size ∧ cs.length = c ∧ ∀ j, j < c → W.cell? ⟨b, o + i * c + j, none⟩ = cs[j]? := by
  obtain ⟨_, hl, hat⟩ := World.cells?_some h
  have hat' : ∀ j, j < c → W.cell? ⟨b, o + i * c + j, none⟩ = cs[j]? := fun j hj => by
    have := hat j hj
    rwa [addr_add, addr_add] at this
  refine ⟨?_, hl, hat'⟩
  have h0 := hat' 0 hc
  rw [List.getElem?_eq_getElem (by omega)] at h0
  exact cell_lt h0

theorem take1 {cs : List Value} {o : Nat} {v : Value} (h : (cs.drop o).take 1 = [v]) : cs[o]? = some v := by
  have := congrArg (·[0]?) h
  simpa [List.getElem?_take, List.getElem?_drop] using this

theorem open_va {n : Nat} {cs : List Value} {x : DataW H × List MemPlace} (h : DataW.trod enc Tryz.prog W base spare held n 42 cs = some x) :
    ∃ v : Va, cs[0]? = some (.int .i64 v.kind) ∧ cs[1]? = some (.string v.text) ∧ cs[2]? = some (.int .i64 v.fr) ∧ cs[3]? = some (.int .i64 v.to) ∧ v.text.size ≤ maxLen := by
  obtain ⟨xs, m, _, _, _, hl, hf⟩ := DataW.trod_struct Tryz.underlying42 h
  have hl : xs.length = 4 := hl
  have g := fun i (hi : i < 4) => List.getElem?_eq_getElem (l := xs) (i := i) (by omega)
  have h0 : DataW.trod enc Tryz.prog W base spare held m 3 ((cs.drop 0).take (Tryz.prog.cellsOf 3)) = some (xs[0]'(by omega)) := (hf 0 _ rfl).trans (g 0 (by omega))
  have h1 : DataW.trod enc Tryz.prog W base spare held m 9 ((cs.drop 1).take (Tryz.prog.cellsOf 9)) = some (xs[1]'(by omega)) := (hf 1 _ rfl).trans (g 1 (by omega))
  have h2 : DataW.trod enc Tryz.prog W base spare held m 3 ((cs.drop 2).take (Tryz.prog.cellsOf 3)) = some (xs[2]'(by omega)) := (hf 2 _ rfl).trans (g 2 (by omega))
  have h3 : DataW.trod enc Tryz.prog W base spare held m 3 ((cs.drop 3).take (Tryz.prog.cellsOf 3)) = some (xs[3]'(by omega)) := (hf 3 _ rfl).trans (g 3 (by omega))
  rw [cellsInt] at h0 h2 h3
  rw [cellsStr] at h1
  obtain ⟨k, e0, _, _⟩ := DataW.trod_int Tryz.underlying3 h0
  obtain ⟨t, e1, _, ht⟩ := DataW.trod_string Tryz.underlying9 h1
  obtain ⟨f, e2, _, _⟩ := DataW.trod_int Tryz.underlying3 h2
  obtain ⟨u, e3, _, _⟩ := DataW.trod_int Tryz.underlying3 h3
  exact ⟨⟨k, t, f, u⟩, take1 e0, take1 e1, take1 e2, take1 e3, ht⟩

theorem list_of {α : Type} (n : Nat) (Q : Nat → α → Prop) (h : ∀ i, i < n → ∃ x, Q i x) : ∃ l : List α, l.length = n ∧ ∀ i x, l[i]? = some x → Q i x := by
  induction n with
  | zero => exact ⟨[], rfl, fun i x h => by simp at h⟩
  | succ n ih =>
    obtain ⟨l, hl, hq⟩ := ih (fun i hi => h i (by omega))
    obtain ⟨x, hx⟩ := h n (by omega)
    refine ⟨l ++ [x], by simp [hl], fun i y hy => ?_⟩
    by_cases hi : i < n
    · rw [List.getElem?_append_left (by omega)] at hy
      exact hq i y hy
    · rw [List.getElem?_append_right (by omega), hl] at hy
      have hin : i = n := by
        by_cases e : i = n
        · exact e
        · rw [show i - n = (i - n - 1) + 1 by omega] at hy; simp at hy
      subst hin
      simp at hy
      subst hy
      exact hx

theorem open_vals {n : Nat} {cs : List Value} {x : DataW H × List MemPlace} (h : DataW.trod enc Tryz.prog W base spare held n 36 cs = some x) :
    ∃ (A : Option Addr) (vs : List Va) (cap : Nat), cs = [.slice A vs.length cap] ∧ ValsAt W A vs ∧ vs.length ≤ cap ∧ cap ≤ maxLen := by
  rcases open_slice Tryz.underlying36 h with ⟨rfl, _⟩ | ⟨a, len, cap, m, k, D, Pl, rfl, _, hl, hm, hmm, _, hi⟩
  · exact ⟨none, [], 0, rfl, ValsAt.nil _, Nat.le_refl _, Nat.zero_le _⟩
  · rw [cellsVal] at hi
    have hlm : len ≤ m := by rw [hmm]; split <;> omega
    obtain ⟨vs, hvl, hvs⟩ := list_of len (fun i (v : Va) => ∃ b o, a = ⟨b, o, none⟩ ∧ b < W.heap.size ∧ VaAt W b (o + i * 4) v) (fun i hil => by
      obtain ⟨cs0, hc0, _⟩ := hi 0 (by omega)
      obtain ⟨b, o, rfl⟩ := spot_of hc0 (by omega)
      obtain ⟨cs', hc, ht⟩ := hi i (by omega)
      obtain ⟨hb, hcl, hat⟩ := elem_cells hc (by omega)
      obtain ⟨v, e0, e1, e2, e3, es⟩ := open_va ht
      exact ⟨v, b, o, rfl, hb, ⟨(hat 0 (by omega)).trans e0, (hat 1 (by omega)).trans e1, (hat 2 (by omega)).trans e2, (hat 3 (by omega)).trans e3, es⟩⟩)
    refine ⟨some a, vs, cap, by rw [hvl], fun i v hv => ?_, by omega, hm⟩
    obtain ⟨b, o, e, hb, hva⟩ := hvs i v hv
    exact ⟨b, o, by rw [e], hb, hva⟩

theorem open_sg {n : Nat} {cs : List Value} {x : DataW H × List MemPlace} (h : DataW.trod enc Tryz.prog W base spare held n 39 cs = some x) :
    ∃ m : Sm, cs[0]? = some (.string m.s.code) ∧ cs[1]? = some (.int .i64 m.s.wide) ∧ cs[2]? = some (.int .i64 m.s.high) ∧ cs[3]? = some (.bool m.s.even) ∧ cs[4]? = some (.slice m.A m.s.vals.length m.cap) ∧ SmOk W m := by
  obtain ⟨xs, m, _, _, _, hl, hf⟩ := DataW.trod_struct Tryz.underlying39 h
  have hl : xs.length = 5 := hl
  have g := fun i (hi : i < 5) => List.getElem?_eq_getElem (l := xs) (i := i) (by omega)
  have h0 : DataW.trod enc Tryz.prog W base spare held m 9 ((cs.drop 0).take (Tryz.prog.cellsOf 9)) = some (xs[0]'(by omega)) := (hf 0 _ rfl).trans (g 0 (by omega))
  have h1 : DataW.trod enc Tryz.prog W base spare held m 3 ((cs.drop 1).take (Tryz.prog.cellsOf 3)) = some (xs[1]'(by omega)) := (hf 1 _ rfl).trans (g 1 (by omega))
  have h2 : DataW.trod enc Tryz.prog W base spare held m 3 ((cs.drop 2).take (Tryz.prog.cellsOf 3)) = some (xs[2]'(by omega)) := (hf 2 _ rfl).trans (g 2 (by omega))
  have h3 : DataW.trod enc Tryz.prog W base spare held m 4 ((cs.drop 3).take (Tryz.prog.cellsOf 4)) = some (xs[3]'(by omega)) := (hf 3 _ rfl).trans (g 3 (by omega))
  have h4 : DataW.trod enc Tryz.prog W base spare held m 36 ((cs.drop 4).take (Tryz.prog.cellsOf 36)) = some (xs[4]'(by omega)) := (hf 4 _ rfl).trans (g 4 (by omega))
  rw [cellsInt] at h1 h2
  rw [cellsStr] at h0
  rw [cellsBool] at h3
  rw [cellsVals] at h4
  obtain ⟨c, e0, _, hc⟩ := DataW.trod_string Tryz.underlying9 h0
  obtain ⟨wd, e1, _, _⟩ := DataW.trod_int Tryz.underlying3 h1
  obtain ⟨hg, e2, _, _⟩ := DataW.trod_int Tryz.underlying3 h2
  obtain ⟨ev, e3, _⟩ := DataW.trod_bool Tryz.underlying4 h3
  obtain ⟨A, vs, cap, e4, hvs, hle, hca⟩ := open_vals h4
  exact ⟨⟨⟨c, wd, hg, ev, vs⟩, A, cap⟩, take1 e0, take1 e1, take1 e2, take1 e3, take1 e4, ⟨hvs, hle, hca, hc⟩⟩

theorem open_signs {n : Nat} {cs : List Value} {x : DataW H × List MemPlace} (h : DataW.trod enc Tryz.prog W base spare held n 22 cs = some x) :
    ∃ (A : Option Addr) (ms : List Sm) (cap : Nat), cs = [.slice A ms.length cap] ∧ SignsAt W A ms ∧ ms.length ≤ cap ∧ cap ≤ maxLen := by
  rcases open_slice Tryz.underlying22 h with ⟨rfl, _⟩ | ⟨a, len, cap, m, k, D, Pl, rfl, _, hl, hm, hmm, _, hi⟩
  · exact ⟨none, [], 0, rfl, fun i v hv => by simp at hv, Nat.le_refl _, Nat.zero_le _⟩
  · rw [cellsSgn] at hi
    have hlm : len ≤ m := by rw [hmm]; split <;> omega
    obtain ⟨ms, hvl, hvs⟩ := list_of len (fun i (v : Sm) => ∃ b o, a = ⟨b, o, none⟩ ∧ b < W.heap.size ∧ SmAt W b (o + i * 5) v ∧ SmOk W v) (fun i hil => by
      obtain ⟨cs0, hc0, _⟩ := hi 0 (by omega)
      obtain ⟨b, o, rfl⟩ := spot_of hc0 (by omega)
      obtain ⟨cs', hc, ht⟩ := hi i (by omega)
      obtain ⟨hb, hcl, hat⟩ := elem_cells hc (by omega)
      obtain ⟨v, e0, e1, e2, e3, e4, eo⟩ := open_sg ht
      exact ⟨v, b, o, rfl, hb, ⟨(hat 0 (by omega)).trans e0, (hat 1 (by omega)).trans e1, (hat 2 (by omega)).trans e2, (hat 3 (by omega)).trans e3, (hat 4 (by omega)).trans e4⟩, eo⟩)
    refine ⟨some a, ms, cap, by rw [hvl], fun i v hv => ?_, by omega, hm⟩
    obtain ⟨b, o, e, hb, hva⟩ := hvs i v hv
    exact ⟨b, o, by rw [e], hb, hva⟩

set_option maxRecDepth 100000 in
theorem open_list {r : Reach} {b0 : Nat} {v : Value} {d : DataW H} {p : List MemPlace} (hv : Value.okWide Tryz.prog W r b0 24 v) (h : DataW.Trod enc Tryz.prog W base spare held 24 v d p) :
    ∃ L : Lm, v = L.val ∧ LmOk W L := by
  obtain ⟨v0, v1, y0, y1, n, rfl, _, _, t0, t1⟩ := Joins.open_agg2 Tryz.underlying24 (by kernel_rfl) cellsLst hv h
  obtain ⟨per, e0, _, _⟩ := DataW.trod_int Tryz.underlying3 t0
  obtain ⟨A, ms, cap, e1, hs, hl, hc⟩ := open_signs t1
  injection e0 with e0
  injection e1 with e1
  subst e0 e1
  exact ⟨⟨per, ms, A, cap⟩, rfl, hs, hl, hc⟩

/-- arguments that read behind the call as they read before -/
theorem args_stay {P : Program} (hl : laidOutB P = true) {W' : World} {sp : Nat → Bool} (hb : Below W.heap.size W W') : ∀ {ts : List TypeId} {vs : List Value} {ds : List (DataW H)} {ps : List MemPlace}, (∀ t ∈ ts, P.readableRec t = true ∧ t < P.types.size) →
    DataW.TrodAll enc P W 0 (fun _ => true) true ts vs ds ps → (∀ x ∈ ps, x.block < W.heap.size) → (∀ x ∈ ps, sp x.block = true) → DataW.TrodAll enc P W' 0 sp true ts vs ds ps
  | [], [], [], _, _, h, _, _ => h
  | _ :: _, _ :: _, _ :: _, _, hr, ⟨p, q, h1, h2, e⟩, hlt, hs =>
    have hr0 := hr _ (List.mem_cons.2 (Or.inl rfl))
    ⟨p, q, WideElems.Trod_stays hl hr0.1 hr0.2 h1 (fun x hx => hb.same (hlt x (by rw [e]; exact List.mem_append_left _ hx))) (fun x hx => hs x (by rw [e]; exact List.mem_append_left _ hx)),
      args_stay hl hb (fun t ht => hr t (List.mem_cons.2 (Or.inr ht))) h2 (fun x hx => hlt x (by rw [e]; exact List.mem_append_right _ hx)) (fun x hx => hs x (by rw [e]; exact List.mem_append_right _ hx)), e⟩

set_option maxRecDepth 100000 in
/-- what is said behind a call that returns true and turns nothing of what was there -/
theorem post_true {f : Func} {s : ChangeSpec} {W' : World} {args : Array Value} {ds gs : List (DataW H)} {before : List MemPlace} (hW : DataW.Whole enc Tryz.prog f.params.toList s.vars false W args.toList ds gs before)
    (hv : s.vars = []) (hr : (f.params.toList.all fun t => Tryz.prog.readableRec t && decide (t < Tryz.prog.types.size)) = true) (hres : f.resultTypes = #[4])
    (h1 : (s.fn H (ds ++ gs)).results = [.lit (.bool true)]) (h2 : (s.fn H (ds ++ gs)).args = ds) (h3 : (s.fn H (ds ++ gs)).vars = []) (hb : Below W.heap.size W W') :
    s.post enc Tryz.prog f false true false false W args (.bool true) W' := by
  obtain ⟨p, q, hA, hV, hpq, hfz, hnd⟩ := id hW
  rw [hv] at hV
  obtain ⟨hgs, hq⟩ := trodVars_none hV
  have hlt : ∀ x ∈ p, x.block < W.heap.size := DataW.TrodAll.lt hA
  refine ⟨ds, gs, before, [], p, [], hW, ?_, ?_, ?_, hb.frame _, fun h => by cases h⟩
  · rw [h1, hres]
    exact trodAll_cons_mk (shut_bool Tryz.underlying4 _) trodAll_mk0
  · rw [h2]
    exact args_stay laidOut hb (fun t ht => by have := List.all_eq_true.1 hr t ht; simpa only [Bool.and_eq_true, decide_eq_true_eq] using this) hA hlt (fun x hx => decide_eq_true (hlt x hx))
  · rw [h3, hv]; rfl
end
end Go.Proofs.YtleihhkacmgofaaGreatDoor

/- From the tables that the rows list to what the walks read of them; and a world that holds them. -/
namespace Go.Proofs.YtleihhkacmgofaaGreatDoor
open Go.ChangeShapes Go.WideShapes Go.ChangeAt Go.RowKit Go.Deep

theorem gKind : Tryz.prog.globalNamed "ostracon/signs.kindLetters" = some 1 := by kernel_rfl
theorem tPow : (Tryz.prog.globals[2]?).map (·.type) = some 132 := by kernel_rfl
theorem tKind : (Tryz.prog.globals[1]?).map (·.type) = some 130 := by kernel_rfl
theorem cellsPow : Tryz.prog.cellsOf 132 = 20 := by kernel_rfl
theorem cellsKind : Tryz.prog.cellsOf 130 = 4 := by kernel_rfl
theorem cellsU64 : Tryz.prog.cellsOf 113 = 1 := by kernel_rfl

/-- the tables that the rows list -/
def tables : List (String × DataW Unit) := Rows.signsTidiesRow.laid

theorem str_of {W : World} {n : Nat} {c : Value} {bs : List UInt8} {p : List MemPlace} (h : DataW.trod (fun _ => ()) Tryz.prog W 0 (fun _ => true) false n 9 [c] = some (.lit (.string bs), p)) : c = .string ⟨bs.toArray⟩ := by
  obtain ⟨s, e, hx, _⟩ := DataW.trod_string Tryz.underlying9 h
  injection e with e _
  injection hx with h1 _
  injection h1 with h1
  injection h1 with h1
  rw [e, h1]

theorem env_of {W : World} (h : laidMetH Tryz.prog tables W) (hs : W.ShapedOpen Tryz.prog) : Env W := by
  rw [MakeChecks.laidMetH_plain _ _ _ (by kernel_rfl)] at h
  obtain ⟨_, ⟨_, _, _, _, _, _, _, _, _, _, ⟨_, _, _, _, _, _, _, _, _, _, ⟨g3, t3, c3, f3, p3, q3, hg3, ht3, hv3, hd3, ⟨_, _, _, _, _, _, _, _, _, _, ⟨g5, t5, c5, f5, p5, q5, hg5, ht5, hv5, hd5, _, _⟩, _⟩, _⟩, _⟩, _⟩, _⟩ := h
  have hgp := gPow
  obtain rfl := Option.some.inj (hgp.symm.trans hg3)
  obtain rfl := Option.some.inj (tPow.symm.trans ht3)
  obtain rfl := Option.some.inj (gKind.symm.trans hg5)
  obtain rfl := Option.some.inj (tKind.symm.trans ht5)
  have hpow : c3.toList = Lib.pow10Tab.map fun z => Value.int .u64 z := Lib.cells_of_tab Tryz.underlying132 Tryz.underlying113 cellsU64 cellsPow hd3
  obtain ⟨xs, m, _, hx, hl, hxl, hf⟩ := DataW.trod_array Tryz.underlying130 hd5
  rw [cellsStr] at hf
  rw [cellsKind] at hl
  have key : ∀ (i : Nat) (bs : List UInt8), i < 4 → (xs.map (·.1))[i]? = some (.lit (.string bs)) → W.cell? ⟨1, i, none⟩ = some (.string ⟨bs.toArray⟩) := fun i bs hi hb => by
    have h1 := hf i hi
    rw [Nat.mul_one] at h1
    rw [List.getElem?_map, Option.map_eq_some_iff] at hb
    obtain ⟨⟨y, py⟩, hy, hyb⟩ := hb
    rw [hy] at h1
    dsimp only at hyb
    subst hyb
    have hc : c5[i]? = some (.string ⟨bs.toArray⟩) := by
      have hi' : i < c5.toList.length := by omega
      have hd : (c5.toList.drop i).take 1 = [c5.toList[i]] := by rw [List.drop_eq_getElem_cons hi']; rfl
      rw [hd] at h1
      have := str_of h1
      rw [← this, ← Array.getElem?_toList, List.getElem?_eq_getElem hi']
    exact (World.var?_cell gKind hv5 i).trans hc
  have hxl : xs.map (·.1) = [.lit (.string []), .lit (.string [115]), .lit (.string [119]), .lit (.string [99])] := by
    have := congrArg Prod.fst hx
    injection this with this
    exact this.symm
  refine ⟨hs, ?_, ?_, ?_, ?_⟩
  · exact key 1 _ (by omega) (by rw [hxl]; rfl)
  · exact key 2 _ (by omega) (by rw [hxl]; rfl)
  · exact key 3 _ (by omega) (by rw [hxl]; rfl)
  · unfold Lib.TabIs
    rw [hv3, ← hpow]

/-- the cells of a table of numbers or strings, of such tables -/
def flat1 : DataW Unit → List Value
  | .lit (.int k n) => [.int k n]
  | .lit (.string bs) => [.string ⟨bs.toArray⟩]
  | _ => []
def flat2 : DataW Unit → List Value
  | .agg xs => xs.flatMap fun
    | .agg ys => ys.flatMap flat1
    | d => flat1 d
  | _ => []
/-- a block's cells for the table -/
def put (d : DataW Unit) : Obj → Obj
  | .cells _ t frozen => .cells (flat2 d).toArray t frozen
  | o => o

/-- A world for the witnesses: the settled one, each table holding what the rows list. -/
noncomputable def laidWorld (os : Os) : World :=
  { World.holding Tryz.prog os ⟨#[], #[], []⟩ with heap := ((((((World.holding Tryz.prog os ⟨#[], #[], []⟩).heap.modify 3 (put Rows.laid_math_bits_deBruijn32tab)).modify 4 (put Rows.laid_math_bits_deBruijn64tab)).modify 2 (put Rows.laid_internal_strconv_uint64pow10)).modify 6 (put Rows.laid_unicode_utf8_acceptRanges)).modify 1 (put Rows.laid_ostracon_signs_kindLetters)).modify 5 (put Rows.laid_unicode_utf8_first) }
end Go.Proofs.YtleihhkacmgofaaGreatDoor
