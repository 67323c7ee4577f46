/-
  The program's Apart (layer 9).
-/
import Derived.Test.YtcpfhaoecggflaaZApP
import Derived.Test.YtcpfhaoecggflaaZTail
import Derived.Test.YtcpfhaoecggflaaZPrs
namespace Go.Proofs.Ytcpfhaoecggflaa
open Go.RowKit

theorem atMost_is (p q r s : Nat) (w : World) (hp : p ≤ 1152921504606846976) (hq : q ≤ 1152921504606846976) (hr : r ≤ 10000) (hs : s ≤ 10000) (V : Bool) (hV : decide (p * s ≤ r * q) = V) :
    Calls Try.prog 70 #[.agg #[.int .i64 p, .int .i64 q], .agg #[.int .i64 r, .int .i64 s]] w fun e w' => e = .returned (.bool V) ∧ Below w.heap.size w w' := by
  rw [← hV]; exact atMost_any p q r s w (by omega) (by omega) (by omega) (by omega)

theorem two_set {wa : World} {n : Nat} {T : TypeId} {X Y : Int} (hz : wa.heap[n]? = some (.cells #[.int .i64 0, .int .i64 0] T (0, 0))) :
    ((wa.setCell ⟨n, 0, none⟩ (.int .i64 X)).setCell ⟨n, 1, none⟩ (.int .i64 Y)).heap[n]? = some (.cells #[.int .i64 X, .int .i64 Y] T (0, 0)) := by
  have h1 := heap_setCell_same wa n 0 (.int .i64 X) _ T hz
  have h2 := heap_setCell_same _ n 1 (.int .i64 Y) _ T h1
  exact h2
theorem one_new (w : World) (cs : List Value) (t : TypeId) : ∀ ad, (some ⟨w.heap.size, 0, none⟩ : Option Addr) = some ad → ∀ (j : Nat) u, cs[j]? = some u → (w.alloc (.cells cs.toArray t)).cell? (ad.add j) = some u := fun ad h j u hj => by
  have h := Option.some.inj h
  subst h
  exact new_cells w cs t j u hj

set_option maxRecDepth 100000 in
set_option maxHeartbeats 12800000 in
theorem apart_any (A B : Option Addr) (ca cb : Nat) (a b : List (Int × Int)) (n d : Int) (w : World) (hA : TlsIn w A a) (hB : TlsIn w B b) (hla : a.length ≤ maxLen) (hlb : b.length ≤ maxLen) :
    Calls Try.prog 29 #[.slice A a.length ca, .slice B b.length cb, .agg #[.int .i64 n, .int .i64 d]] w (GotAp w a b n d) := by
  obtain ⟨W, hW⟩ : ∃ W, W = w.alloc (.cells #[.int .i64 n, .int .i64 d] 53) := ⟨_, rfl⟩
  have HBW := Lib.hid (show Below w.heap.size w W from hW ▸ below_alloc _ _)
  have HWN := Lib.hid (show W.heap[w.heap.size]? = some (.cells #[.int .i64 n, .int .i64 d] 53 (0, 0)) from hW ▸ heap_alloc_new _ _)
  have HSW := Lib.hid (show w.heap.size < W.heap.size from (Array.getElem?_eq_some_iff.1 HWN.out).1)
  have HA := Lib.hid (hA.below HBW.out)
  have HB := Lib.hid (hB.below HBW.out)
  unfold maxLen at hla hlb
  by_cases h0 : a.length = b.length
  case neg =>
    have HG := Lib.hid (ap_len (w := w) (w' := W) (a := a) (b := b) (n := n) (d := d) (by unfold lenB; simp [h0]) HBW.out)
    have f1 : ((a.length : Int) != (b.length : Int)) = true := by simp; omega
    go_enter Try.func29, Try.ntmps29
    go_wp2
    rw [← hW]
    go_ret2
    exact HG.out
  by_cases h1 : 1 ≤ a.length
  case neg =>
    have HG := Lib.hid (ap_len (w := w) (w' := W) (a := a) (b := b) (n := n) (d := d) (by unfold lenB; simp; omega) HBW.out)
    have f1 : ((a.length : Int) != (b.length : Int)) = false := by simp; omega
    have f2 : ((a.length : Int) == 0) = true := by rw [beq_iff_eq]; omega
    clear h0
    go_enter Try.func29, Try.ntmps29
    go_wp2
    rw [← hW]
    go_ret2
    exact HG.out
  by_cases h2 : a.length ≤ 12
  case neg =>
    have HG := Lib.hid (ap_len (w := w) (w' := W) (a := a) (b := b) (n := n) (d := d) (by unfold lenB; simp; omega) HBW.out)
    have f1 : ((a.length : Int) != (b.length : Int)) = false := by simp; omega
    have f2 : ((a.length : Int) == 0) = false := beq_eq_false_iff_ne.2 (by omega)
    clear h0
    go_enter Try.func29, Try.ntmps29
    go_wp2
    rw [← hW]
    go_ret2
    exact HG.out
  have HL := Lib.hid (show lenB a b = true by unfold lenB; simp; omega)
  have HN := Lib.hid h0
  obtain ⟨m, hm⟩ : ∃ m, m = a.length := ⟨_, rfl⟩
  rw [← h0, ← hm]
  rw [← hm] at h1 h2
  have HM := Lib.hid hm
  clear hm h0 hA hB hla hlb
  have f1 : ((m : Int) != (m : Int)) = false := by simp
  have f2 : ((m : Int) == 0) = false := by simp; omega
  have f3 : decide ((12 : Int) < (m : Int)) = false := by simp; omega
  obtain ⟨ic, hic, hzc, hsc, hbc⟩ := info_hid infoCh
  go_enter Try.func29, Try.ntmps29
  go_wp2
  rw [← hW]
  clear hW f1 f2 f3
  go_loopw [8, 31] (fun v u wr => ∃ (i : Nat) (xs : List (Nat × Nat)), i ≤ m ∧ u = .int .i64 i ∧ Hid (xs.length = i) ∧ Hid (Frs a b xs) ∧ Hid ((List.range i).all (goodAt a b) = true) ∧ Hid (wr.ownsRow W.heap.size 53 2 v i (xs.flatMap frC)) ∧ Hid (Below W.heap.size W wr)) (fun _ u _ => m - (intOf u).toNat)
  case atStart => exact ⟨0, [], Nat.zero_le _, rfl, Lib.hid rfl, Lib.hid (fun k x h => by simp at h), Lib.hid rfl, Lib.hid (World.ownsRow_nil _ _ _ _), Lib.hid (Below.refl _ _)⟩
  case round =>
    obtain ⟨i, xs, hi, rfl, hxl, hfr, hgd, hown, hb⟩ := hrel
    by_cases hlt : i < m
    · have hka : i < a.length := by have := HM.out; omega
      have hkb : i < b.length := by have := HM.out; have := HN.out; omega
      have hu := List.getElem?_eq_getElem hka
      have hv := List.getElem?_eq_getElem hkb
      obtain ⟨⟨p, q⟩, hpq⟩ : ∃ u, u = a[i] := ⟨_, rfl⟩
      obtain ⟨⟨r, s⟩, hrs⟩ : ∃ u, u = b[i] := ⟨_, rfl⟩
      rw [← hpq] at hu
      rw [← hrs] at hv
      obtain ⟨g1, o1, rfl, hg1, x0, x1⟩ := (HA.out.below hb.out) i _ hu
      obtain ⟨g2, o2, rfl, hg2, y0, y1⟩ := (HB.out.below hb.out) i _ hv
      dsimp only at x0 x1 y0 y1
      have HU := Lib.hid hu
      have HV := Lib.hid hv
      clear hu hv hpq hrs hka hkb
      have hij : (i : Int) < (m : Int) := by omega
      have HGA := Lib.hid (goodAt_is HU.out HV.out)
      obtain ⟨⟨⟨X, Y⟩, E⟩, hq⟩ : ∃ z, z = fishQ p q r s := ⟨_, rfl⟩
      have HQ := Lib.hid hq
      have HFI := Lib.hid (fun wx => show Calls Try.prog 27 #[.agg #[.int .i64 p, .int .i64 q], .agg #[.int .i64 r, .int .i64 s]] wx (fun e w' => e = .returned (.tuple #[.agg #[.int .i64 X, .int .i64 Y], .int .i64 E]) ∧ Below wx.heap.size wx w') by
        have := fisher_any p q r s wx; rw [← hq] at this; exact this)
      clear hq
      have HKS := Lib.hid (fun wx (hb9 : Below wr.heap.size wr wx) => show (wx.cell? ⟨g1, o1 + i * 2, none⟩ = some (.int .i64 p) ∧ wx.cell? ⟨g1, o1 + i * 2 + 1, none⟩ = some (.int .i64 q) ∧ wx.cell? ⟨g2, o2 + i * 2, none⟩ = some (.int .i64 r) ∧ wx.cell? ⟨g2, o2 + i * 2 + 1, none⟩ = some (.int .i64 s)) from
        ⟨((bcell hb9).1 _ _ hg1).trans x0, ((bcell hb9).1 _ _ hg1).trans x1, ((bcell hb9).1 _ _ hg2).trans y0, ((bcell hb9).1 _ _ hg2).trans y1⟩)
      have HDA := Lib.hid (show Below wr.heap.size wr (wr.alloc (.cells #[.int .i64 0, .int .i64 0] 53)).drew from (below_alloc _ _).drew)
      have HDR := Lib.hid (show Below wr.heap.size wr wr.drew from (Below.refl _ _).drew)
      go_upto_region 7 with (fail)
      go_cut [10, 11] (fun z f wx => ∃ g, z = .pointer (some ⟨g, 0, none⟩) ∧ f = .int .i64 E ∧ Hid (wr.heap.size ≤ g ∧ wx.heap[g]? = some (.cells #[.int .i64 X, .int .i64 Y] 53 (0, 0))) ∧ Hid (Below wr.heap.size wr wx))
      case first =>
        go_region_held3 (fun wx => wx.cell? ⟨g1, o1 + i * 2, none⟩ = some (.int .i64 p) ∧ wx.cell? ⟨g1, o1 + i * 2 + 1, none⟩ = some (.int .i64 q) ∧ wx.cell? ⟨g2, o2 + i * 2, none⟩ = some (.int .i64 r) ∧ wx.cell? ⟨g2, o2 + i * 2 + 1, none⟩ = some (.int .i64 s))
          ((refine HKS.out _ ?_; first | exact HDR.out | exact HDA.out | assumption | (refine Below.alloc ?_ ?_ _ <;> first | assumption | exact HDR.out | exact Nat.le_refl _ | exact Below.size (by assumption)) | (refine Below.setCell (Below.setCell ?_ ?_ _) ?_ _ <;> first | assumption | exact Nat.le_refl _ | exact Below.size (by assumption))))
          (first
            | (go_at_call 27; refine (HFI.out _).mono ?_; rintro e wa ⟨rfl, hba⟩; have ka : Below wr.heap.size wr wa := by first | exact below_more HDR.out hba | exact below_more HDA.out hba
               (try (have z := blk_keep hba (show (wr.alloc (.cells #[.int .i64 0, .int .i64 0] 53)).drew.heap[wr.heap.size]? = _ from heap_alloc_new wr (.cells #[.int .i64 0, .int .i64 0] 53)); have z0 := cell_of_blk z 0; have z1 := cell_of_blk z 1; have v0 := free_of_blk z 0; have v1 := free_of_blk z 1; have hzz := (Array.getElem?_eq_some_iff.1 z).1; simp at z0 z1 v0 v1 hzz; have HZ := Lib.hid z; clear z)))
            | fail)
        all_goals (
          go_wp2_with fail
          go_meet
          first
          | exact ⟨_, rfl, rfl, Lib.hid ⟨ka.size, heap_alloc_new _ _⟩, Lib.hid (ka.alloc ka.size _)⟩
          | exact ⟨_, rfl, rfl, Lib.hid ⟨Nat.le_refl _, two_set HZ.out⟩, Lib.hid ((ka.setCell (Nat.le_refl _) _).setCell (Nat.le_refl _) _)⟩
          | fail)
      case rest =>
      obtain ⟨g, rfl, rfl, hgc, hbw⟩ := hcut
      obtain ⟨ws, hws⟩ : ∃ ws, ws = wc := ⟨_, rfl⟩
      rw [← hws] at hgc hbw ⊢
      clear hws
      have HBS := Lib.hid (hb.out.trans (hbw.out.mono hb.out.size))
      have hzw := Lib.hid (show W.heap.size ≤ ws.heap.size from Nat.le_trans hb.out.size hbw.out.size)
      clear HKS HDA HDR HFI x0 x1 y0 y1 hij
      by_cases hE : E = 0
      case neg =>
        have hgood : tallyB p q r s = false := by
          cases h : tallyB p q r s with
          | false => rfl
          | true => obtain ⟨x, y, hxy, -⟩ := fish_nat h; rw [← HQ.out] at hxy; exact absurd (by injection hxy) hE
        have hEq : E = 80 := by have := HQ.out; rw [fish_bad hgood] at this; injection this
        subst hEq
        have HG := Lib.hid (ap_bad (w := w) (w' := ws) (a := a) (b := b) (n := n) (d := d) HL.out (all_not (k := i) (by have := HM.out; omega) (by rw [HGA.out]; exact hgood)) (below_more HBW.out HBS.out))
        clear hgood hE
        have hd : ((80 : Int) != 0) = true := by decide
        go_wp2
        go_ret2
        exact HG.out
      case pos =>
        subst hE
        have hgood : tallyB p q r s = true := by
          cases h : tallyB p q r s with
          | true => rfl
          | false => have := HQ.out; rw [fish_bad h] at this; injection this with _ h2; cases h2
        obtain ⟨x, y, hxy, hx6, hy6⟩ := fish_nat hgood
        have hX : X = x ∧ Y = y := by
          have := HQ.out.trans hxy
          injection this with h1 _
          injection h1 with h2 h3
          exact ⟨h2, h3⟩
        obtain ⟨rfl, rfl⟩ := hX
        have HXY := Lib.hid hxy
        have HGD := Lib.hid hgood
        have HGC := Lib.hid hgc.out.2
        have z0 := cell_of_blk HGC.out 0
        have z1 := cell_of_blk HGC.out 1
        have hzz := (Array.getElem?_eq_some_iff.1 HGC.out).1
        simp at z0 z1
        have hd : ((0 : Int) != 0) = false := by decide
        clear hxy hgood
        have own1 := Lib.hid ((own_below hown.out hbw.out).alloc (.cells #[.int .i64 x, .int .i64 y] 53))
        go_wp2_with (first
          | (at_builtin; refine wpList_append_src _ rfl (.tmp 49) (.tmp 51) 116 rfl W.heap.size 53 ic (.agg #[.int .i64 0, .int .i64 0]) 2 16 Try.underlying116 hic.out hzc.out hsc.out hbc.out rfl (by decide) u8 i (xs.flatMap frC) rfl own1.out (some ⟨ws.heap.size, 0, none⟩) 1 1 [.int .i64 x, .int .i64 y] rfl rfl pair_some (one_new ws _ _) (pair_one _ _) (by unfold maxLen; omega) (by omega) (by have := hzw.out; simp; omega) (i + 1) rfl ?_))
        intro A3 c3 w3 own3 hg3 _
        have b3 := Lib.hid ((HBS.out.alloc hzw.out (.cells #[.int .i64 x, .int .i64 y] 53)).grown hg3 (by have := hzw.out; simp; omega) (fun g hg => (own1.out.lt g hg).1))
        have own3 := Lib.hid own3
        clear hg3
        go_wp2
        go_roundw
        case rel => exact ⟨i + 1, xs ++ [(x, y)], by omega, by go_num, Lib.hid (by rw [List.length_append, hxl.out]; rfl), Lib.hid (hfr.out.snoc (by rw [hxl.out]; exact HU.out) (by rw [hxl.out]; exact HV.out) HXY.out hx6 hy6), Lib.hid (all_more hgd.out (by rw [HGA.out]; exact HGD.out)), Lib.hid (by rw [List.flatMap_append]; exact own3.out), b3⟩
        case measure => simp [intOf]; omega
    · obtain rfl : m = i := by omega
      have HBR := Lib.hid (below_more HBW.out hb.out)
      obtain ⟨AX, cx, hv, -, -, h3, h4⟩ := own_slice hown.out
      subst hv
      cases AX with
      | none => have := h4 rfl; omega
      | some ad =>
      obtain ⟨gc, rfl, -, hgc, hcs⟩ := h3 ad rfl
      have HCS := Lib.hid hcs
      clear h3 h4 hcs hown
      have HLN := Lib.hid (blk_keep hb.out HWN.out)
      have z0 := cell_of_blk HLN.out 0; have z1 := cell_of_blk HLN.out 1; have hz_z := (Array.getElem?_eq_some_iff.1 HLN.out).1; simp at z0 z1
      by_cases hlim : limB n d = true
      case neg =>
        have hlim : limB n d = false := by simpa using hlim
        have HG := Lib.hid (ap_lim (w := w) (w' := wr) (a := a) (b := b) (n := n) (d := d) HL.out (by rw [← HM.out]; exact hgd.out) hlim HBR.out)
        have hc : d < 1 ∨ (1 ≤ d ∧ 10000 < d) ∨ (1 ≤ d ∧ d ≤ 10000 ∧ n < 0) ∨ (1 ≤ d ∧ d ≤ 10000 ∧ 0 ≤ n ∧ d < n) := by
          unfold limB at hlim; simp at hlim; omega
        clear hlim
        rcases hc with h | ⟨h, h'⟩ | ⟨h, h', h3⟩ | ⟨h, h', h3, h4⟩
        all_goals
          go_wp2
          go_ret2
          exact HG.out
      case pos =>
        obtain ⟨N, D, rfl, rfl, hN, hD⟩ := lim_nat hlim
        have HLI := Lib.hid hlim
        unfold limB at hlim
        simp at hlim
        obtain ⟨⟨l1, l2⟩, l3⟩ := hlim
        have g1 : decide ((D : Int) < 1) = false := decide_eq_false (by omega)
        have g2 : decide ((10000 : Int) < (D : Int)) = false := decide_eq_false (by omega)
        have g3 : decide ((N : Int) < 0) = false := decide_eq_false (by omega)
        have g4 : decide (D < N) = false := decide_eq_false (by omega)
        clear l1 l2 l3
        go_wp2
        clear g1 g2 g3 g4
        obtain ⟨wo, rfl⟩ : ∃ wo, wo = wr := ⟨_, rfl⟩
        go_loopw [76] (fun u wq => ∃ k : Nat, k ≤ m ∧ u = .int .i64 k ∧ Hid ((List.range k).any (amAt a b N D) = false) ∧ Hid (Below wo.heap.size wo wq)) (fun u _ => m - (intOf u).toNat)
        case atStart => exact ⟨0, Nat.zero_le _, rfl, Lib.hid rfl, Lib.hid (Below.refl _ _)⟩
        case round =>
          obtain ⟨k, hk, rfl, hany, hbq⟩ := hrel
          by_cases hlk : k < m
          · have hkx : k < xs.length := by have := hxl.out; omega
            have hget := List.getElem?_eq_getElem hkx
            obtain ⟨⟨x, y⟩, hxy⟩ : ∃ z, z = xs[k] := ⟨_, rfl⟩
            rw [← hxy] at hget
            have HAM := Lib.hid (hfr.out.am (n := N) (d := D) hget)
            obtain ⟨-, -, -, -, -, hx6, hy6⟩ := hfr.out k _ hget
            dsimp only at hx6 hy6
            have q0 := ((bcell hbq.out).1 _ _ hgc).trans (HCS.out (k * 2) _ (by have := flat_at (f := frC) (c := 2) (fun _ => rfl) xs k _ hget 0 (by omega); exact this))
            have q1 := ((bcell hbq.out).1 _ _ hgc).trans (HCS.out (k * 2 + 1) _ (by have := flat_at (f := frC) (c := 2) (fun _ => rfl) xs k _ hget 1 (by omega); exact this))
            have HLQ := Lib.hid (blk_keep hbq.out HLN.out)
            have z2 := cell_of_blk HLQ.out 0
            have z3 := cell_of_blk HLQ.out 1
            have hzl := (Array.getElem?_eq_some_iff.1 HLQ.out).1
            simp at z2 z3
            have hki : (k : Int) < (m : Int) := by omega
            have hgq : gc < wr.heap.size := Nat.lt_of_lt_of_le hgc hbq.out.size
            clear hget hxy hkx z0 z1
            obtain ⟨V, hV⟩ : ∃ V, V = decide (x * D ≤ N * y) := ⟨_, rfl⟩
            have HAT := Lib.hid (fun wx => atMost_is x y N D wx hx6 hy6 hN hD V hV.symm)
            rw [← hV] at HAM
            clear hV
            go_wp2_with fail
            refine (HAT.out _).mono ?_; rintro e w5 ⟨rfl, hb5⟩
            have HB5 := Lib.hid (below_more hbq.out (below_more (below_alloc _ _) hb5))
            clear hb5
            cases V with
            | true =>
              have HG := Lib.hid (ap_ok (w := w) (w' := w5) (a := a) (b := b) (n := N) (d := D) (r := true) HL.out (by rw [← HM.out]; exact hgd.out) HLI.out (any_yes (k := k) (by have := HM.out; omega) HAM.out) (below_more HBR.out HB5.out))
              go_wp2
              go_ret2
              exact HG.out
            | false =>
              go_wp2
              go_roundw
              case rel => exact ⟨k + 1, by omega, by go_num, Lib.hid (by rw [any_more hany.out, HAM.out]; rfl), HB5⟩
              case measure => simp [intOf]; omega
          · obtain rfl : k = m := by omega
            have HG := Lib.hid (ap_ok (w := w) (w' := wr) (a := a) (b := b) (n := N) (d := D) (r := false) HL.out (by rw [← HM.out]; exact hgd.out) HLI.out (by rw [← HM.out]; exact hany.out) (below_more HBR.out hbq.out))
            go_wp2
            go_ret2
            exact HG.out

end Go.Proofs.Ytcpfhaoecggflaa
