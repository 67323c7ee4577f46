/-
  The specification's costs: the table of two lines (layer 9).
-/
import Derived.Test.YtcpfhaoecggflaaZRtM
import Derived.Deep.RegionHeld3
import Derived.Deep.DeepCutAuto
namespace Go.Proofs.Ytcpfhaoecggflaa
open Go.RowKit

theorem pairC_any (x y : Int) (w : World) : Calls Try.prog 88 #[.int .i64 x, .int .i64 y] w fun e w' => e = .returned (.int .i64 (if x = y then 0 else 3)) ∧ w = w' := by
  by_cases h : x = y
  · have hd : (x == y) = true := by simpa using h
    go_enter Try.func88, Try.ntmps88
    go_wp2
    go_ret
    exact ⟨of_int (by first | rfl | rw [if_pos h]), rfl⟩
  · have hd : (x == y) = false := by simpa using h
    go_enter Try.func88, Try.ntmps88
    go_wp2
    go_ret
    exact ⟨of_int (by first | rfl | rw [if_neg h]), rfl⟩
theorem infoInts : (Try.prog.info? 22).map (fun i => (i.zero, i.size, i.bytes)) = some (some (.slice none 0 0), 1, 24) := by kernel_rfl
/-- the rests of which the table speaks while a row is filled: the rows behind p, and row p from q on -/
def doneR (p q : Nat) (i j : Nat) : Prop := p + 1 ≤ i ∨ (i = p ∧ q ≤ j)

set_option maxRecDepth 100000 in
set_option maxHeartbeats 12800000 in
theorem costs_any (A B : Option Addr) (ca cb : Nat) (a b : List Int) (w : World) (hA : IntsIn w A a) (hB : IntsIn w B b) (hla : a.length ≤ 60) (hlb : b.length ≤ 60) :
    Calls Try.prog 87 #[.slice A a.length ca, .slice B b.length cb] w fun e w' => ∃ go, e = .returned (.slice (some ⟨go, 0, none⟩) (a.length + 1) (a.length + 1)) ∧ Hid (Rt w' w.heap.size go a b 0 (fun _ _ => True)) ∧ Below w.heap.size w w' := by
  obtain ⟨iv, hiv, hzv, hsv, hbv⟩ := info_hid infoInts
  obtain ⟨is, his, hzs, hss, hbs⟩ := info_hid infoInt
  have HIA := Lib.hid hA
  have HIB := Lib.hid hB
  obtain ⟨n, hn⟩ : ∃ n, n = a.length := ⟨_, rfl⟩
  obtain ⟨m, hm⟩ : ∃ m, m = b.length := ⟨_, rfl⟩
  have HN := Lib.hid hn
  have HM := Lib.hid hm
  rw [← hn] at hla ⊢
  rw [← hm] at hlb ⊢
  clear hn hm hA hB
  have hn1 : IntKind.i64.wrap ((n : Int) + 1) = ((n + 1 : Nat) : Int) := IntWalk.i64_in _ (by omega)
  have hm1 : IntKind.i64.wrap ((m : Int) + 1) = ((m + 1 : Nat) : Int) := IntWalk.i64_in _ (by omega)
  have HM1 := Lib.hid hm1
  clear hm1
  go_enter Try.func87, Try.ntmps87
  go_wp2_with (first
    | (at_make; refine wpList_make_full _ rfl (.tmp 11) (.tmp 11) 31 rfl w.heap.size 22 iv (.slice none 0 0) 1 Try.underlying31 hiv.out hzv.out hsv.out .i64 .i64 (n + 1 : Nat) (n + 1 : Nat) (n + 1) rfl rfl rfl rfl ?b2 ?b3 ?b4 ?_))
  case b2 => rw [hbv.out]; omega
  case b3 => unfold maxLen; omega
  case b4 => exact Nat.le_refl _
  · intro W hown hg
    have HOW := Lib.hid hown
    have HBW := Lib.hid (show Below w.heap.size w W from (Below.refl _ _).grown hg (Nat.le_refl _) (fun g hg => by cases hg))
    clear hown hg hn1
    go_wp2_with fail
    obtain ⟨go, hgo⟩ : ∃ go, go = w.heap.size := ⟨_, rfl⟩
    have HR0 := Lib.hid (show Rt W w.heap.size go a b (n + 1) (fun _ _ => True) by rw [hgo, HN.out]; rw [HN.out] at HOW; exact Rt.make HOW.out _)
    have HGB := Lib.hid (Nat.le_of_eq hgo.symm)
    rw [← hgo]
    clear hgo HOW
    go_loopw [6] (fun i wr => ∃ p : Nat, p ≤ n + 1 ∧ i = .int .i64 ((p : Int) - 1) ∧ Hid (Rt wr w.heap.size go a b p (fun _ _ => True)) ∧ Hid (Below w.heap.size w wr)) (fun i _ => (intOf i + 1).toNat)
    case atStart => exact ⟨n + 1, Nat.le_refl _, by go_num, HR0, HBW⟩
    case round =>
      obtain ⟨p, hp, rfl, ha, hb⟩ := hrel
      clear HR0 HBW
      cases p with
      | zero =>
        have e1 : ((0 : Nat) : Int) - 1 = -1 := rfl
        rw [e1]
        go_wp2
        go_ret
        exact ⟨go, rfl, ha, hb.out⟩
      | succ p =>
        have e1 : ((p + 1 : Nat) : Int) - 1 = (p : Int) := by omega
        rw [e1]
        clear e1
        have HC0 := Lib.hid (ha.out.cell0 p (by have := HN.out; omega))
        have HWS := Lib.hid (show w.heap.size ≤ wr.heap.size from hb.out.size)
        have hm1 := HM1.out
        go_wp2_with (first
          | (at_make; refine wpList_make_full _ rfl (.tmp 23) (.tmp 23) 22 rfl w.heap.size 3 is (.int .i64 0) 1 Try.underlying22 his.out hzs.out hss.out .i64 .i64 (m + 1 : Nat) (m + 1 : Nat) (m + 1) rfl rfl rfl rfl ?c2 ?c3 ?c4 ?_))
        case c2 => rw [hbs.out]; omega
        case c3 => unfold maxLen; omega
        case c4 => exact HWS.out
        · intro W1 hown1 hg1
          obtain ⟨⟨u0, hu0⟩, hf0, hg0, -⟩ := HC0.out
          have hc : W1.cell? ⟨go, p, none⟩ = some u0 := (World.cell?_of_block (a := ⟨go, p, none⟩) (hg1.block go hg0 (by simp))).trans hu0
          have hf : W1.frozen? ⟨go, p, none⟩ = false := (World.frozen?_of_block (a := ⟨go, p, none⟩) (hg1.block go hg0 (by simp))).trans hf0
          have hgl : go < W1.heap.size := Nat.lt_of_lt_of_le hg0 hg1.size
          have HR1 := Lib.hid (show Rt (W1.setCell ⟨go, p, none⟩ (.slice (some ⟨wr.heap.size, 0, none⟩) (m + 1) (m + 1))) w.heap.size go a b p (doneR p (m + 1)) by
            have := Rt.row ha.out (by have := HN.out; omega) hg1 (by rw [← HM.out]; exact hown1)
            rw [← HM.out] at this
            exact this.mono fun i j hi hj h1 h2 => ⟨by unfold doneR at h2; have := HM.out; omega, trivial⟩)
          have HB1 := Lib.hid ((hb.out.grown hg1 HWS.out (fun g hg => by cases hg)).setCell (show w.heap.size ≤ (⟨go, p, none⟩ : Addr).block from HGB.out) (.slice (some ⟨wr.heap.size, 0, none⟩) (m + 1) (m + 1)))
          have hp61 : p ≤ 60 := by omega
          have hpn : p < n + 1 := by omega
          have hpi : (p : Int) < ((n + 1 : Nat) : Int) := by omega
          clear hu0 hf0 hg0 hown1 hg1 hm1 HC0
          go_wp2_with fail
          go_loopw [7] (fun j wq => ∃ q : Nat, q ≤ m + 1 ∧ j = .int .i64 ((q : Int) - 1) ∧ Hid (Rt wq w.heap.size go a b p (doneR p q)) ∧ Hid (Below w.heap.size w wq)) (fun j _ => (intOf j + 1).toNat)
          case atStart => exact ⟨m + 1, Nat.le_refl _, by go_num, HR1, HB1⟩
          case round =>
            obtain ⟨q, hq, rfl, ha2, hb2⟩ := hrel
            clear hb HR1 HB1 hc hf hgl
            cases q with
            | zero =>
              have e1 : ((0 : Nat) : Int) - 1 = -1 := rfl
              rw [e1]
              go_wp2
              go_roundw
              case rel => exact ⟨p, by omega, rfl, Lib.hid (ha2.out.mono fun i j hi hj h1 _ => by unfold doneR; omega), hb2⟩
              case measure => simp [intOf]
            | succ q =>
              have e1 : ((q + 1 : Nat) : Int) - 1 = (q : Int) := by omega
              rw [e1]
              clear e1
              have HQP := Lib.hid (show p ≤ a.length ∧ q ≤ b.length by have := HN.out; have := HM.out; omega)
              obtain ⟨r, c0, hbr, hrl, hgl, hval, hcel, -⟩ := ha2.out.at (i := p) (Nat.le_refl _) HQP.out.1
              have HRB := Lib.hid hbr
              have HST := Lib.hid (fun wx (hbx : Below wr.heap.size wr wx) (v : Int) (hv : v = cst (a.drop p) (b.drop q)) => show Rt (wx.setCell ⟨r, q, none⟩ (.int .i64 v)) w.heap.size go a b p (fun i' j' => (i' = p ∧ j' = q) ∨ doneR p (q + 1) i' j') by
                obtain ⟨r', d0, -, -, -, -, -, dset⟩ := (ha2.out.below hbx).at (i := p) (Nat.le_refl _) HQP.out.1
                have := ((bcell hbx).1 go p hgl).trans c0
                rw [d0] at this
                injection this with this; injection this with this; injection this with this; injection this with this
                subst this
                exact dset q v HQP.out.2 hv)
              obtain ⟨⟨u0, hu0⟩, hf0⟩ := hcel q HQP.out.2
              have HBD := Lib.hid (show cst (a.drop p) (b.drop q) ≤ 2 * (((n : Int) - p) + ((m : Int) - q)) by
                have := (cst_bd (a.drop p) (b.drop q)).2
                rw [List.length_drop, List.length_drop] at this
                have := HN.out; have := HM.out; omega)
              rw [← HM.out] at c0
              have hq61 : q ≤ 60 := by omega
              have hqm : q < m + 1 := by omega
              have hqi : (q : Int) < ((m + 1 : Nat) : Int) := by omega
              have HB2 := Lib.hid hb2.out
              by_cases hpl : p < n
              · obtain ⟨r1, d0, -, hrl1, -, dval, -, -⟩ := ha2.out.at (i := p + 1) (by omega) (by have := HN.out; omega)
                rw [← HM.out] at d0
                have du := dval q HQP.out.2 (by unfold doneR; omega)
                have bu := cst_bd (a.drop (p + 1)) (b.drop q)
                rw [List.length_drop, List.length_drop] at bu
                by_cases hql : q < m
                · have dz := dval (q + 1) (by have := HM.out; omega) (by unfold doneR; omega)
                  have dv := hval (q + 1) (by have := HM.out; omega) (by unfold doneR; omega)
                  have bz := cst_bd (a.drop (p + 1)) (b.drop (q + 1))
                  have bv := cst_bd (a.drop p) (b.drop (q + 1))
                  rw [List.length_drop, List.length_drop] at bz bv
                  have hpa : p < a.length := by have := HN.out; omega
                  have hqb : q < b.length := by have := HM.out; omega
                  obtain ⟨ba, oa, rfl, hba, ca1⟩ := (HIA.out.below hb2.out) p a[p] (List.getElem?_eq_getElem hpa)
                  obtain ⟨bb, ob, rfl, hbb, cb1⟩ := (HIB.out.below hb2.out) q b[q] (List.getElem?_eq_getElem hqb)
                  have HC := Lib.hid (show cst (a.drop p) (b.drop q) = min (min ((if a[p] = b[q] then 0 else 3) + cst (a.drop (p + 1)) (b.drop (q + 1))) (cst (a.drop (p + 1)) (b.drop q) + 2)) (cst (a.drop p) (b.drop (q + 1)) + 2) by
                    rw [drop_lt hpa, drop_lt hqb, cst_cons]; unfold bth; split <;> omega)
                  have HPC := Lib.hid (fun wx => pairC_any a[p] b[q] wx)
                  obtain ⟨pc, hpc⟩ : ∃ pc : Int, pc = if a[p] = b[q] then 0 else 3 := ⟨_, rfl⟩
                  have hpc0 : 0 ≤ pc ∧ pc ≤ 3 := by rw [hpc]; split <;> omega
                  rw [← hpc] at HC HPC
                  obtain ⟨x, hx⟩ : ∃ x, x = a[p] := ⟨_, rfl⟩
                  obtain ⟨y, hy⟩ : ∃ y, y = b[q] := ⟨_, rfl⟩
                  obtain ⟨u, hu⟩ : ∃ u, u = cst (a.drop (p + 1)) (b.drop q) := ⟨_, rfl⟩
                  obtain ⟨v, hv⟩ : ∃ v, v = cst (a.drop p) (b.drop (q + 1)) := ⟨_, rfl⟩
                  obtain ⟨z, hz⟩ : ∃ z, z = cst (a.drop (p + 1)) (b.drop (q + 1)) := ⟨_, rfl⟩
                  rw [← hx] at ca1 HPC
                  rw [← hy] at cb1 HPC
                  rw [← hu] at du bu HC
                  rw [← hv] at dv bv HC
                  rw [← hz] at dz bz HC
                  have u0' := bu.1
                  have u1' : u ≤ 300 := by have := HN.out; have := HM.out; omega
                  have v0' := bv.1
                  have v1' : v ≤ 300 := by have := HN.out; have := HM.out; omega
                  have z0' := bz.1
                  have z1' : z ≤ 300 := by have := HN.out; have := HM.out; omega
                  have p0' := hpc0.1
                  have p1' := hpc0.2
                  clear hx hy hu hv hz hpc hpc0 bu bv bz hpa hqb dval hval hcel hb2 hbr
                  have t1 : ((p : Int) + 1).toNat = p + 1 := by omega
                  have t2 : ((q : Int) + 1).toNat = q + 1 := by omega
                  have t3 : 0 ≤ (p : Int) + 1 := by omega
                  have t4 : 0 ≤ (q : Int) + 1 := by omega
                  have t5 : (p : Int) + 1 < ((n + 1 : Nat) : Int) := by omega
                  have t6 : (q : Int) + 1 < ((m + 1 : Nat) : Int) := by omega
                  have t7 : p + 1 < n + 1 := by omega
                  have t8 : q + 1 < m + 1 := by omega
                  have t9 : (p : Int) + 1 < (n : Int) + 1 := by omega
                  have t10 : (q : Int) + 1 < (m : Int) + 1 := by omega
                  go_wp2_with fail
                  all_goals
                    have w1 := IntWalk.i64_in ((p : Int) + 1) (by omega)
                    have w2 := IntWalk.i64_in ((q : Int) + 1) (by omega)
                    have w3 := IntWalk.i64_in (pc + z) (by omega)
                    refine wp_region_later (by kernel_rfl) (by kernel_rfl) ?_; (repeat (first | go_big_quiet_step ((((go_at_call 88; exact Calls.later_same _ (HPC.out _))))) | quiet_step ((((go_at_call 88; exact Calls.later_same _ (HPC.out _))))))); refine wpQuiet_nil ?_; rintro _ ⟨s, rfl⟩
                    all_goals clear w1 w2 w3
                    all_goals
                      go_wp2
                      go_roundw
                      case rel => exact ⟨q, by omega, rfl, Lib.hid ((HST.out _ s.below _ (by have hc := HC.out; have hd := HBD.out; first | omega | (split <;> omega))).mono fun i j hi hj h1 h2 => by unfold doneR at h2 ⊢; omega), Lib.hid ((below_more HB2.out s.below).setCell (show w.heap.size ≤ (⟨r, q, none⟩ : Addr).block from HRB.out) _)⟩
                      case measure => simp [intOf]
                · have HC := Lib.hid (show cst (a.drop p) (b.drop q) = 2 * ((n : Int) - p) ∧ cst (a.drop (p + 1)) (b.drop q) = 2 * ((n : Int) - p - 1) ∧ q = m by
                    have e1 := HN.out
                    have e2 := HM.out
                    rw [List.drop_eq_nil_of_le (show b.length ≤ q by omega), cst_right, cst_right, List.length_drop, List.length_drop]; omega)
                  obtain ⟨u, hu⟩ : ∃ u, u = cst (a.drop (p + 1)) (b.drop q) := ⟨_, rfl⟩
                  rw [← hu] at du bu HC
                  have u0' := bu.1
                  have u1' : u ≤ 300 := by have := HN.out; have := HM.out; omega
                  clear hu bu dval hval hcel hb2 hbr
                  have t1 : ((p : Int) + 1).toNat = p + 1 := by omega
                  have t5 : (p : Int) + 1 < ((n + 1 : Nat) : Int) := by omega
                  have t7 : p + 1 < n + 1 := by omega
                  have t9 : (p : Int) + 1 < (n : Int) + 1 := by omega
                  go_wp2_with fail
                  all_goals
                    go_wp2
                    go_roundw
                    case rel => exact ⟨q, by omega, rfl, Lib.hid ((HST.out _ (Below.refl _ _) _ (by have hc := HC.out; have hd := HBD.out; first | omega | (split <;> omega))).mono fun i j hi hj h1 h2 => by unfold doneR at h2 ⊢; omega), Lib.hid (HB2.out.setCell (show w.heap.size ≤ (⟨r, q, none⟩ : Addr).block from HRB.out) _)⟩
                    case measure => simp [intOf]
              · by_cases hql : q < m
                · have dv := hval (q + 1) (by have := HM.out; omega) (by unfold doneR; omega)
                  have bv := cst_bd (a.drop p) (b.drop (q + 1))
                  rw [List.length_drop, List.length_drop] at bv
                  have HC := Lib.hid (show cst (a.drop p) (b.drop q) = 2 * ((m : Int) - q) ∧ cst (a.drop p) (b.drop (q + 1)) = 2 * ((m : Int) - q - 1) ∧ p = n by
                    have e1 := HN.out
                    have e2 := HM.out
                    rw [List.drop_eq_nil_of_le (show a.length ≤ p by omega), cst_nil, cst_nil, List.length_drop, List.length_drop]; omega)
                  obtain ⟨v, hv⟩ : ∃ v, v = cst (a.drop p) (b.drop (q + 1)) := ⟨_, rfl⟩
                  rw [← hv] at dv bv HC
                  have v0' := bv.1
                  have v1' : v ≤ 300 := by have := HN.out; have := HM.out; omega
                  clear hv bv hval hcel hb2 hbr
                  have t2 : ((q : Int) + 1).toNat = q + 1 := by omega
                  have t6 : (q : Int) + 1 < ((m + 1 : Nat) : Int) := by omega
                  have t8 : q + 1 < m + 1 := by omega
                  have t10 : (q : Int) + 1 < (m : Int) + 1 := by omega
                  go_wp2_with fail
                  all_goals
                    go_wp2
                    go_roundw
                    case rel => exact ⟨q, by omega, rfl, Lib.hid ((HST.out _ (Below.refl _ _) _ (by have hc := HC.out; have hd := HBD.out; first | omega | (split <;> omega))).mono fun i j hi hj h1 h2 => by unfold doneR at h2 ⊢; omega), Lib.hid (HB2.out.setCell (show w.heap.size ≤ (⟨r, q, none⟩ : Addr).block from HRB.out) _)⟩
                    case measure => simp [intOf]
                · have HC := Lib.hid (show cst (a.drop p) (b.drop q) = 0 ∧ p = n ∧ q = m by
                    have e1 := HN.out
                    have e2 := HM.out
                    rw [List.drop_eq_nil_of_le (show a.length ≤ p by omega), cst_nil, List.length_drop]; omega)
                  clear hval hcel hb2 hbr
                  go_wp2_with fail
                  all_goals
                    go_wp2
                    go_roundw
                    case rel => exact ⟨q, by omega, rfl, Lib.hid ((HST.out _ (Below.refl _ _) _ (by have hc := HC.out; have hd := HBD.out; first | omega | (split <;> omega))).mono fun i j hi hj h1 h2 => by unfold doneR at h2 ⊢; omega), Lib.hid (HB2.out.setCell (show w.heap.size ≤ (⟨r, q, none⟩ : Addr).block from HRB.out) _)⟩
                    case measure => simp [intOf]

end Go.Proofs.Ytcpfhaoecggflaa
