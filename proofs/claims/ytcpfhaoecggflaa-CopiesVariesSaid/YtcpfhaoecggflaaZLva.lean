/-
  The law of Variants: it returns true (layer 9).
-/
import Derived.Test.YtcpfhaoecggflaaZRva
import Derived.Test.YtcpfhaoecggflaaZWrk
namespace Go.Proofs.Ytcpfhaoecggflaa
open Go.RowKit

theorem VarsAt.below {w w' : World} {A : Option Addr} {L : List (Int × Int × List Int)} (h : VarsAt w A L) (hb : Below w.heap.size w w') : VarsAt w' A L := fun i y hy => by
  obtain ⟨g, B, c, e, hg, h0, h1, h2, h3⟩ := h i y hy
  exact ⟨g, B, c, e, Nat.lt_of_lt_of_le hg hb.size, ((bcell hb).1 _ _ hg).trans h0, ((bcell hb).1 _ _ hg).trans h1, ((bcell hb).1 _ _ hg).trans h2, h3.below hb⟩
theorem vars_same {base : List Int} {rs : List Rw} {L1 L2 : List (Int × Int × List Int)} (h1 : VarsQ base rs L1) (h2 : L2 = if varE base rs ≠ 0 then [] else vAll base rs (base.length + 1)) : L1 = L2 := by
  by_cases he : varE base rs = 0
  · rw [h2, if_neg (by simpa using he)]
    exact vars_all h1 he fun r _ x hx => strs_end base r.zs x hx
  · rw [h2, if_pos he]
    have := h1.1
    rw [if_pos he] at this
    exact List.Perm.eq_nil this

theorem strs_sg (a b : List Int) (h : a.length ≤ 60) (h2 : b.length ≤ 60) : ∀ x ∈ strsQ a b, x.sg.length ≤ 120 := fun x hx => by
  have h1 := (sts_ok a b _ (pairsQ a b) rfl).each x (by unfold strsQ at hx; exact hx)
  have h3 := prs_len a b (a.length + b.length) 0 0
  unfold pairsQ at h1
  omega
theorem vPre_sg (base : List Int) (rs : List Rw) (h : base.length ≤ 60) (hr : ∀ r ∈ rs, r.zs.length ≤ 60) : ∀ i, ∀ y ∈ vPre base rs i, y.2.2.length ≤ 120
  | 0, y, hy => by cases hy
  | i + 1, y, hy => by
    rw [vPre] at hy
    rcases List.mem_append.1 hy with hy | hy
    · exact vPre_sg base rs h hr i y hy
    · cases hk : rs[i]? with
      | none => rw [hk] at hy; cases hy
      | some r =>
        rw [hk] at hy
        obtain ⟨x, hx, rfl⟩ := List.mem_map.1 hy
        exact strs_sg base r.zs h (hr r (List.mem_of_getElem? hk)) x hx
theorem varE_zero {base : List Int} {rs : List Rw} (h : varE base rs = 0) : base.length ≤ 60 ∧ rs.length ≤ 8 ∧ ∀ r ∈ rs, r.zs.length ≤ 60 := by
  unfold varE at h
  split at h
  · rename_i h1; exact absurd h h1
  · rename_i h1
    split at h
    · cases h
    · have h1 : lnErr base = 0 := by simpa using h1
      refine ⟨?_, by omega, lns_zero rs h⟩
      unfold lnErr at h1
      split at h1
      · cases h1
      · omega
theorem vars_bd {base : List Int} {rs : List Rw} {L : List (Int × Int × List Int)} (h : VarsQ base rs L) : L.length ≤ 100000 ∧ ∀ y ∈ L, y.2.2.length ≤ maxLen := by
  have h1 := h.1
  by_cases he : varE base rs = 0
  · rw [if_neg (by simpa using he)] at h1
    obtain ⟨a, b, c⟩ := varE_zero he
    have hl := vPre_len base rs a c rs.length
    refine ⟨by rw [h1.length_eq]; omega, fun y hy => ?_⟩
    have := vPre_sg base rs a c _ y (h1.mem_iff.1 hy)
    unfold maxLen; omega
  · rw [if_pos he] at h1
    rw [List.Perm.eq_nil h1]
    exact ⟨by simp, fun y hy => by cases hy⟩

set_option maxRecDepth 100000 in
set_option maxHeartbeats 12800000 in
theorem law_cvaries (A : Option Addr) (ca : Nat) (base : List Int) (S : Option Addr) (cs : Nat) (rs : List Rw) (w : World) (hA : IntsIn w A base) (hla : base.length ≤ ca) (hca : ca ≤ maxLen) (hS : RowsIn w S rs) (hls : rs.length ≤ cs) (hcs : cs ≤ maxLen) :
    Calls Try.prog 4 #[.slice A base.length ca, .slice S rs.length cs] w fun e w' => e = .returned (.bool true) ∧ Below w.heap.size w w' := by
  have HP := Lib.hid (variants_any A S ca cs base rs w hA (Nat.le_trans hla hca) hS (Nat.le_trans hls hcs))
  have HR := Lib.hid (fun wx (hb : Below w.heap.size w wx) => rvariants_any A S ca cs base rs wx (hA.below hb) (Nat.le_trans hla hca) (hS.below hb) (Nat.le_trans hls hcs))
  have HLL := Lib.hid (fun L (h : VarsQ base rs L) => vars_bd h)
  have HVS := Lib.hid (fun L1 L2 h1 h2 => vars_same (base := base) (rs := rs) (L1 := L1) (L2 := L2) h1 h2)
  unfold GotVars at HP
  unfold GotRv at HR
  obtain ⟨E, hE⟩ : ∃ E, E = varE base rs := ⟨_, rfl⟩
  simp only [← hE] at HP HR HVS
  obtain ⟨n, hn⟩ : ∃ n, n = base.length := ⟨_, rfl⟩
  obtain ⟨m, hm⟩ : ∃ m, m = rs.length := ⟨_, rfl⟩
  rw [← hn] at HP HR ⊢
  rw [← hm] at HP HR ⊢
  simp only [← hn] at HVS
  clear hE hn hm hA hla hca hS hls hcs
  go_enter Try.func4, Try.ntmps4
  go_wp2_with fail
  refine HP.out.mono ?_; rintro e w1 ⟨A1, k1, c1, L1, rfl, hk1, hq1, hv1, hb1⟩
  have HB1 := Lib.hid hb1
  have HR := Lib.hid (HR.out w1 hb1)
  clear hb1 HP
  go_wp2_with fail
  refine HR.out.mono ?_; rintro e w2 ⟨A2, k2, c2, L2, rfl, hk2, hq2, hv2, hb2⟩
  have HV1 := Lib.hid (hv1.out.below hb2)
  have HB2 := Lib.hid (below_more HB1.out hb2)
  have hLL := HLL.out L1 hq1.out
  have hLe := HVS.out L1 L2 hq1.out hq2.out
  subst hLe
  have hkk : k2 = k1 := hk2.out.trans hk1.out.symm
  subst hkk
  have HK := Lib.hid hk1.out
  have hk9 : k2 ≤ 100000 := by have := hk1.out; omega
  have HLM := Lib.hid hLL.2
  clear hb2 HR hv1 hq1 hq2 hk1 hk2 HVS HLL hLL
  have f1 : (E != E) = false := by simp
  have f3 : ((k2 : Int) != (k2 : Int)) = false := by simp
  go_wp2_with fail
  go_loopw [9] (fun i wr => ∃ j : Nat, j ≤ k2 ∧ i = .int .i64 j ∧ Hid (Below w2.heap.size w2 wr)) (fun i _ => k2 - (intOf i).toNat)
  case atStart => exact ⟨0, Nat.zero_le _, rfl, Lib.hid (Below.refl _ _)⟩
  case round =>
    obtain ⟨j, hj, rfl, hb⟩ := hrel
    by_cases hlt : j < k2
    · have hjl : j < L1.length := by have := HK.out; omega
      obtain ⟨g1, B1, d1, rfl, hg1, x0, x1, x2, hx⟩ := (HV1.out.below hb.out) j _ (List.getElem?_eq_getElem hjl)
      obtain ⟨g2, B2, d2, rfl, hg2, y0, y1, y2, hy⟩ := (hv2.out.below hb.out) j _ (List.getElem?_eq_getElem hjl)
      have hlm := HLM.out _ (List.getElem_mem hjl)
      have HSI := Lib.hid (fun wx (hbx : Below wr.heap.size wr wx) => sameI_any B1 B2 d1 d2 _ _ wx (hx.below hbx) (hy.below hbx) hlm hlm)
      simp only [decide_true] at HSI
      obtain ⟨⟨u, v, z⟩, hp⟩ : ∃ p, p = L1[j] := ⟨_, rfl⟩
      rw [← hp] at x0 x1 x2 y0 y1 y2 HSI
      dsimp only at x0 x1 x2 y0 y1 y2 HSI
      have f4 : (u != u) = false := by simp
      have f5 : (v != v) = false := by simp
      clear hp hjl hx hy hlm
      have hji : (j : Int) < (k2 : Int) := by omega
      go_wp2
      refine wp_region_later (by kernel_rfl) (by kernel_rfl) ?_; (repeat (first | go_big_quiet_step ((((go_at_call 22; exact Calls.later _ (HSI.out _ (Later.below _)))))) | quiet_step ((((go_at_call 22; exact Calls.later _ (HSI.out _ (Later.below _)))))))); refine wpQuiet_nil ?_; rintro _ ⟨s, rfl⟩
      go_wp2
      go_roundw
      case rel => exact ⟨j + 1, by omega, by go_num, Lib.hid (below_more hb.out s.below)⟩
      case measure => simp [intOf]; omega
    · have hjk : k2 = j := by omega
      subst hjk
      go_wp2_with fail
      refine (works_any _).mono ?_; rintro e w3 ⟨rfl, hb3⟩
      go_wp2
      go_ret
      exact ⟨rfl, below_more HB2.out (below_more hb.out hb3)⟩

end Go.Proofs.Ytcpfhaoecggflaa
