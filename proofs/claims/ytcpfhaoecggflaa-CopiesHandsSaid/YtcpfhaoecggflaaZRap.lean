/-
  The specification's Apart (layer 9).
-/
import Derived.Test.YtcpfhaoecggflaaZApa
import Derived.Test.YtcpfhaoecggflaaZRfi
namespace Go.Proofs.Ytcpfhaoecggflaa
open Go.RowKit

theorem ratMost_is (p q r s : Nat) (w : World) (hp : p ≤ 1152921504606846976) (hq : q ≤ 1152921504606846976) (hr : r ≤ 10000) (hs : s ≤ 10000) (V : Bool) (hV : decide (p * s ≤ r * q) = V) :
    Calls Try.prog 72 #[.agg #[.int .i64 p, .int .i64 q], .agg #[.int .i64 r, .int .i64 s]] w fun e w' => e = .returned (.bool V) ∧ Below w.heap.size w w' := by
  rw [← hV]; exact ratMost_any p q r s w (by omega) (by omega) (by omega) (by omega)

set_option maxRecDepth 100000 in
set_option maxHeartbeats 12800000 in
theorem rapart_any (A B : Option Addr) (ca cb : Nat) (a b : List (Int × Int)) (n d : Int) (w : World) (hA : TlsIn w A a) (hB : TlsIn w B b) (hla : a.length ≤ maxLen) (hlb : b.length ≤ maxLen) :
    Calls Try.prog 30 #[.slice A a.length ca, .slice B b.length cb, .agg #[.int .i64 n, .int .i64 d]] w (GotAp w a b n d) := by
  obtain ⟨W, hW⟩ : ∃ W, W = w.alloc (.cells #[.int .i64 n, .int .i64 d] 56) := ⟨_, rfl⟩
  have HBW := Lib.hid (show Below w.heap.size w W from hW ▸ below_alloc _ _)
  have HWN := Lib.hid (show W.heap[w.heap.size]? = some (.cells #[.int .i64 n, .int .i64 d] 56 (0, 0)) from hW ▸ heap_alloc_new _ _)
  have HSW := Lib.hid (show w.heap.size < W.heap.size from (Array.getElem?_eq_some_iff.1 HWN.out).1)
  have HA := Lib.hid (hA.below HBW.out)
  have HB := Lib.hid (hB.below HBW.out)
  unfold maxLen at hla hlb
  by_cases h0 : a.length = b.length
  case neg =>
    have HG := Lib.hid (ap_len (w := w) (w' := W) (a := a) (b := b) (n := n) (d := d) (by unfold lenB; simp [h0]) HBW.out)
    have f1 : ((a.length : Int) != (b.length : Int)) = true := by simp; omega
    go_enter Try.func30, Try.ntmps30
    go_wp2
    rw [← hW]
    go_ret2
    exact HG.out
  by_cases h1 : 1 ≤ a.length
  case neg =>
    have HG := Lib.hid (ap_len (w := w) (w' := W) (a := a) (b := b) (n := n) (d := d) (by unfold lenB; simp; omega) HBW.out)
    have f1 : ((a.length : Int) != (b.length : Int)) = false := by simp; omega
    have f2 : decide ((a.length : Int) < 1) = true := decide_eq_true (by omega)
    clear h0
    go_enter Try.func30, Try.ntmps30
    go_wp2
    rw [← hW]
    go_ret2
    exact HG.out
  by_cases h2 : a.length ≤ 12
  case neg =>
    have HG := Lib.hid (ap_len (w := w) (w' := W) (a := a) (b := b) (n := n) (d := d) (by unfold lenB; simp; omega) HBW.out)
    have f1 : ((a.length : Int) != (b.length : Int)) = false := by simp; omega
    have f2 : decide ((a.length : Int) < 1) = false := decide_eq_false (by omega)
    clear h0
    go_enter Try.func30, Try.ntmps30
    go_wp2
    rw [← hW]
    go_ret2
    exact HG.out
  have HL := Lib.hid (show lenB a b = true by unfold lenB; simp; omega)
  have HN := Lib.hid h0
  obtain ⟨m, hm⟩ : ∃ m, m = a.length := ⟨_, rfl⟩
  rw [← h0, ← hm]
  rw [← hm] at h1 h2
  have HM := Lib.hid hm
  clear hm h0 hA hB hla hlb
  have f1 : ((m : Int) != (m : Int)) = false := by simp
  have f2 : decide ((m : Int) < 1) = false := decide_eq_false (by omega)
  have f3 : decide ((12 : Int) < (m : Int)) = false := decide_eq_false (by omega)
  go_enter Try.func30, Try.ntmps30
  go_wp2
  rw [← hW]
  clear hW f1 f2 f3
  go_loopw [8] (fun u wr => ∃ i : Nat, i ≤ m ∧ u = .int .i64 i ∧ Hid ((List.range i).all (goodAt a b) = true) ∧ Hid (Below W.heap.size W wr)) (fun u _ => m - (intOf u).toNat)
  case atStart => exact ⟨0, Nat.zero_le _, rfl, Lib.hid rfl, Lib.hid (Below.refl _ _)⟩
  case round =>
    obtain ⟨i, hi, rfl, hgd, hb⟩ := hrel
    by_cases hlt : i < m
    · have hka : i < a.length := by have := HM.out; omega
      have hkb : i < b.length := by have := HM.out; have := HN.out; omega
      have hu := List.getElem?_eq_getElem hka
      have hv := List.getElem?_eq_getElem hkb
      obtain ⟨⟨p, q⟩, hpq⟩ : ∃ u, u = a[i] := ⟨_, rfl⟩
      obtain ⟨⟨r, t⟩, hrs⟩ : ∃ u, u = b[i] := ⟨_, rfl⟩
      rw [← hpq] at hu
      rw [← hrs] at hv
      obtain ⟨g1, o1, rfl, hg1, x0, x1⟩ := (HA.out.below hb.out) i _ hu
      obtain ⟨g2, o2, rfl, hg2, y0, y1⟩ := (HB.out.below hb.out) i _ hv
      dsimp only at x0 x1 y0 y1
      have HGA := Lib.hid (goodAt_is hu hv)
      clear hu hv hpq hrs hka hkb
      have hij : (i : Int) < (m : Int) := by omega
      obtain ⟨V, hV⟩ : ∃ V, V = tallyB p q r t := ⟨_, rfl⟩
      have HFI := Lib.hid (fun wx => show Calls Try.prog 67 #[.agg #[.int .i64 p, .int .i64 q],   .agg #[.int .i64 r, .int .i64 t]] wx (fun e w' => e = .returned (.bool V) ∧ Below wx.heap.size wx w') by
        rw [hV]; exact good_any p q r t wx)
      dsimp only at HGA
      rw [← hV] at HGA
      clear hV
      go_wp2
      refine wp_region_later (by kernel_rfl) (by kernel_rfl) ?_; (repeat (first | go_big_quiet_step ((((go_at_call 67; exact Calls.later _ (HFI.out _))))) | quiet_step ((((go_at_call 67; exact Calls.later _ (HFI.out _))))))); refine wpQuiet_nil ?_; rintro _ ⟨s, rfl⟩
      cases V with
      | true =>
        have HB5 := Lib.hid (hb.out.trans (s.below.mono hb.out.size))
        go_wp2
        go_roundw
        case rel => exact ⟨i + 1, by omega, by go_num, Lib.hid (all_more hgd.out HGA.out), HB5⟩
        case measure => simp [intOf]; omega
      | false =>
        have HG := Lib.hid (ap_bad (w := w) (w' := s.w) (a := a) (b := b) (n := n) (d := d) HL.out (all_not (k := i) (by have := HM.out; omega) HGA.out) (below_more HBW.out (hb.out.trans (s.below.mono hb.out.size))))
        go_wp2
        go_ret2
        exact HG.out
    · obtain rfl : m = i := by omega
      have HBR := Lib.hid (below_more HBW.out hb.out)
      have HLN := Lib.hid (blk_keep hb.out HWN.out)
      have z0 := cell_of_blk HLN.out 0; have z1 := cell_of_blk HLN.out 1; have hz_z := (Array.getElem?_eq_some_iff.1 HLN.out).1; simp at z0 z1
      have HLI := Lib.hid (fun wx => limited_any n d wx)
      by_cases hlim : limB n d = true
      case neg =>
        have hlim : limB n d = false := by simpa using hlim
        have HG := Lib.hid (fun wx hbx => ap_lim (w := w) (w' := wx) (a := a) (b := b) (n := n) (d := d) HL.out (by rw [← HM.out]; exact hgd.out) hlim (below_more HBR.out hbx))
        rw [hlim] at HLI
        clear hlim
        go_wp2_with fail
        refine (HLI.out _).mono ?_; rintro e w5 ⟨rfl, hb5⟩
        have HG := Lib.hid (HG.out w5 hb5)
        clear hb5
        go_wp2
        go_ret2
        exact HG.out
      case pos =>
        obtain ⟨N, D, rfl, rfl, hN, hD⟩ := lim_nat hlim
        have HLT := Lib.hid hlim
        rw [hlim] at HLI
        clear hlim
        go_wp2_with fail
        refine (HLI.out _).mono ?_; rintro e w5 ⟨rfl, hb5⟩
        have HBR5 := Lib.hid (hb.out.trans (hb5.mono hb.out.size))
        clear hb5 hb HBR HLN z0 z1 hz_z HLI
        have HA5 := Lib.hid (HA.out.below HBR5.out)
        have HB5 := Lib.hid (HB.out.below HBR5.out)
        go_wp2_with fail
        go_loopw [9, 10] (fun z u wq => ∃ (k : Nat) (b0 : Bool), k ≤ m ∧ z = .bool b0 ∧ u = .int .i64 k ∧ Hid ((List.range k).any (amAt a b N D) = b0) ∧ Hid (Below w5.heap.size w5 wq)) (fun _ u _ => m - (intOf u).toNat)
        case atStart => exact ⟨0, false, Nat.zero_le _, rfl, rfl, Lib.hid rfl, Lib.hid (Below.refl _ _)⟩
        case round =>
          obtain ⟨k, b0, hk, rfl, rfl, hany, hbq⟩ := hrel
          by_cases hlk : k < m
          · have hka : k < a.length := by have := HM.out; omega
            have hkb : k < b.length := by have := HM.out; have := HN.out; omega
            have hu := List.getElem?_eq_getElem hka
            have hv := List.getElem?_eq_getElem hkb
            obtain ⟨⟨p, q⟩, hpq⟩ : ∃ u, u = a[k] := ⟨_, rfl⟩
            obtain ⟨⟨r, t⟩, hrs⟩ : ∃ u, u = b[k] := ⟨_, rfl⟩
            rw [← hpq] at hu
            rw [← hrs] at hv
            obtain ⟨g1, o1, rfl, hg1, x0, x1⟩ := (HA5.out.below hbq.out) k _ hu
            obtain ⟨g2, o2, rfl, hg2, y0, y1⟩ := (HB5.out.below hbq.out) k _ hv
            dsimp only at x0 x1 y0 y1
            have hgood : tallyB p q r t = true := by
              have h1 := goodAt_is hu hv
              have h2 := List.all_eq_true.1 hgd.out k (List.mem_range.2 hlk)
              rw [h1] at h2; exact h2
            obtain ⟨x, y, hxy, hx6, hy6⟩ := fish_nat hgood
            have HAM := Lib.hid (amAt_is (n := N) (d := D) hu hv)
            dsimp only at HAM
            rw [hxy] at HAM
            have HFI := Lib.hid (fun wx => show Calls Try.prog 28 #[.agg #[.int .i64 p, .int .i64 q], .agg #[.int .i64 r, .int .i64 t]] wx (fun e w' => e = .returned (.tuple #[.agg #[.int .i64 x, .int .i64 y], .int .i64 0]) ∧ Below wx.heap.size wx w') by
              have := rfisher_any p q r t wx; rw [hxy] at this; exact this)
            obtain ⟨V, hV⟩ : ∃ V, V = decide (x * D ≤ N * y) := ⟨_, rfl⟩
            have HAT := Lib.hid (fun wx => ratMost_is x y N D wx hx6 hy6 hN hD V hV.symm)
            have HAV := Lib.hid (show amAt a b N D k = V by
              rw [HAM.out, hV, Bool.eq_iff_iff]
              simp only [decide_eq_true_eq]
              rw [← Int.natCast_mul, ← Int.natCast_mul]
              omega)
            have hij : (k : Int) < (m : Int) := by omega
            clear hu hv hpq hrs hka hkb hgood hxy hV HAM
            have HKS := Lib.hid (fun wx (hb9 : Below wr.heap.size wr wx) => show (wx.cell? ⟨g1, o1 + k * 2, none⟩ = some (.int .i64 p) ∧ wx.cell? ⟨g1, o1 + k * 2 + 1, none⟩ = some (.int .i64 q) ∧ wx.cell? ⟨g2, o2 + k * 2, none⟩ = some (.int .i64 r) ∧ wx.cell? ⟨g2, o2 + k * 2 + 1, none⟩ = some (.int .i64 t)) from
              ⟨((bcell hb9).1 _ _ hg1).trans x0, ((bcell hb9).1 _ _ hg1).trans x1, ((bcell hb9).1 _ _ hg2).trans y0, ((bcell hb9).1 _ _ hg2).trans y1⟩)
            have HDA := Lib.hid (show Below wr.heap.size wr (wr.alloc (.cells #[.int .i64 0, .int .i64 0] 56)).drew from (below_alloc _ _).drew)
            have HDR := Lib.hid (show Below wr.heap.size wr wr.drew from (Below.refl _ _).drew)
            go_upto_region 14 with (fail)
            go_cut [11, 12] (fun z f wx => ∃ g, z = .pointer (some ⟨g, 0, none⟩) ∧ f = .int .i64 0 ∧ Hid (wr.heap.size ≤ g ∧ wx.heap[g]? = some (.cells #[.int .i64 x, .int .i64 y] 56 (0, 0))) ∧ Hid (Below wr.heap.size wr wx))
            case first =>
              go_region_held3 (fun wx => wx.cell? ⟨g1, o1 + k * 2, none⟩ = some (.int .i64 p) ∧ wx.cell? ⟨g1, o1 + k * 2 + 1, none⟩ = some (.int .i64 q) ∧ wx.cell? ⟨g2, o2 + k * 2, none⟩ = some (.int .i64 r) ∧ wx.cell? ⟨g2, o2 + k * 2 + 1, none⟩ = some (.int .i64 t))
                ((refine HKS.out _ ?_; first | exact HDR.out | exact HDA.out | assumption | (refine Below.alloc ?_ ?_ _ <;> first | assumption | exact HDR.out | exact Nat.le_refl _ | exact Below.size (by assumption)) | (refine Below.setCell (Below.setCell ?_ ?_ _) ?_ _ <;> first | assumption | exact Nat.le_refl _ | exact Below.size (by assumption))))
                (first
                  | (go_at_call 28; refine (HFI.out _).mono ?_; rintro e wa ⟨rfl, hba⟩; have ka : Below wr.heap.size wr wa := by first | exact below_more HDR.out hba | exact below_more HDA.out hba
                     (try (have z := blk_keep hba (show (wr.alloc (.cells #[.int .i64 0, .int .i64 0] 56)).drew.heap[wr.heap.size]? = _ from heap_alloc_new wr (.cells #[.int .i64 0, .int .i64 0] 56)); have z0 := cell_of_blk z 0; have z1 := cell_of_blk z 1; have v0 := free_of_blk z 0; have v1 := free_of_blk z 1; have hzz := (Array.getElem?_eq_some_iff.1 z).1; simp at z0 z1 v0 v1 hzz; have HZ := Lib.hid z; clear z)))
                  | fail)
              all_goals (
                go_wp2_with fail
                go_meet
                first
                | exact ⟨_, rfl, rfl, Lib.hid ⟨ka.size, heap_alloc_new _ _⟩, Lib.hid (ka.alloc ka.size _)⟩
                | exact ⟨_, rfl, rfl, Lib.hid ⟨Nat.le_refl _, two_set HZ.out⟩, Lib.hid ((ka.setCell (Nat.le_refl _) _).setCell (Nat.le_refl _) _)⟩
                | fail)
            case rest =>
            obtain ⟨g, rfl, rfl, hgc, hbw⟩ := hcut
            obtain ⟨ws, hws⟩ : ∃ ws, ws = wc := ⟨_, rfl⟩
            rw [← hws] at hgc hbw ⊢
            clear hws HKS HDA HDR HFI x0 x1 y0 y1 hij
            have HBQ := Lib.hid (below_more hbq.out hbw.out)
            cases b0 with
            | true =>
              go_wp2
              go_roundw
              case rel => exact ⟨k + 1, true, by omega, rfl, by go_num, Lib.hid (by rw [any_more hany.out]; rfl), HBQ⟩
              case measure => simp [intOf]; omega
            | false =>
              have HGC := Lib.hid hgc.out.2
              have z0 := cell_of_blk HGC.out 0
              have z1 := cell_of_blk HGC.out 1
              have hzz := (Array.getElem?_eq_some_iff.1 HGC.out).1
              have HLQ := Lib.hid (blk_keep (HBR5.out.trans (HBQ.out.mono HBR5.out.size)) HWN.out)
              have z2 := cell_of_blk HLQ.out 0
              have z3 := cell_of_blk HLQ.out 1
              have hz3 := (Array.getElem?_eq_some_iff.1 HLQ.out).1
              simp at z0 z1 z2 z3
              go_wp2_with fail
              refine (HAT.out _).mono ?_; rintro e w6 ⟨rfl, hb6⟩
              have HB6 := Lib.hid (below_more HBQ.out hb6)
              clear hb6
              go_wp2
              go_roundw
              case rel => exact ⟨k + 1, V, by omega, rfl, by go_num, Lib.hid (by rw [any_more hany.out, HAV.out]; rfl), HB6⟩
              case measure => simp [intOf]; omega
          · obtain rfl : k = m := by omega
            have HG := Lib.hid (ap_ok (w := w) (w' := wr) (a := a) (b := b) (n := N) (d := D) (r := b0) HL.out (by rw [← HM.out]; exact hgd.out) HLT.out (by rw [← HM.out]; exact hany.out) (below_more HBW.out (HBR5.out.trans (hbq.out.mono HBR5.out.size))))
            go_wp2
            go_ret2
            exact HG.out

end Go.Proofs.Ytcpfhaoecggflaa
