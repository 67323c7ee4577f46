/-
  The program's Same, whatever the lists.
-/
import Derived.Test.YthnhpgmohhaeaaaDoorSameA
namespace Go.Proofs.YthnhpgmohhaeaaaDoor
open Go.RowKit

set_option maxHeartbeats 1600000 in
/-- slices.Equal over values -/
theorem sEqual_any (A B : Option Addr) (c d : Nat) (vs us : List Va) (w : World) (hA : ValsAt w A vs) (hB : ValsAt w B us) (hz : vs.length ≤ 1000000) (hz2 : us.length ≤ 1000000) :
    Calls Tryd.prog 89 #[.slice A vs.length c, .slice B us.length d] w fun e w' => e = .returned (.bool (eqUp vaEq vs us)) ∧ Below w.heap.size w w' := by
  by_cases hlen : vs.length = us.length
  case neg =>
    have HF := Lib.hid (eqUp_len vaEq vs us hlen)
    generalize vs.length = n at hlen hz ⊢
    generalize us.length = m at hlen hz2 ⊢
    have hne : ((n : Int) == (m : Int)) = false := by rw [beq_eq_false_iff_ne]; omega
    go_enter Tryd.func89, Tryd.ntmps89
    go_wp2
    go_ret
    exact ⟨of_bool HF.out.symm, Below.refl _ _⟩
  obtain ⟨n, hn⟩ : ∃ n, n = vs.length := ⟨_, rfl⟩
  have HT := Lib.hid (fun k (hk : k = n) h0 => eqUp_true vaEq vs us k hlen (hk.trans hn) h0)
  have HX := Lib.hid (fun k u v h1 h2 h => eqUp_false vaEq vs us k u v h1 h2 h)
  rw [← hlen, ← hn]
  rw [← hn] at hz
  have HN := Lib.hid hn
  have HN2 := Lib.hid (hn.trans hlen)
  generalize eqUp vaEq vs us = R at HT HX ⊢
  clear hn hlen hz2
  go_enter Tryd.func89, Tryd.ntmps89
  go_wp2
  go_loopw [13] (fun i wr => ∃ k : Nat, k ≤ n ∧ i = .int .i64 k ∧ Hid (Below w.heap.size w wr) ∧ Hid (((vs.zip us).take k).all (fun p => vaEq p.1 p.2) = true)) (fun i _ => n - (intOf i).toNat)
  case atStart => exact ⟨0, Nat.zero_le _, rfl, Lib.hid (Below.refl _ _), Lib.hid (by simp)⟩
  case round =>
    obtain ⟨k, hk, rfl, hb, hall⟩ := hrel
    by_cases hlt : k < n
    · have hget : vs[k]? = some (vs[k]'(by have := HN.out; omega)) := List.getElem?_eq_getElem _
      obtain ⟨u, hu⟩ : ∃ u, u = vs[k]'(by have := HN.out; omega) := ⟨_, rfl⟩
      rw [← hu] at hget
      have hget2 : us[k]? = some (us[k]'(by have := HN2.out; omega)) := List.getElem?_eq_getElem _
      obtain ⟨v, hv⟩ : ∃ v, v = us[k]'(by have := HN2.out; omega) := ⟨_, rfl⟩
      rw [← hv] at hget2
      obtain ⟨b, o, e1, hb1, hva⟩ := hA k u hget
      obtain ⟨b', o', e1', hb1', hva'⟩ := hB k v hget2
      subst e1 e1'
      obtain ⟨y0, y1, y2, y3, ysz⟩ := hva.below hb.out hb1
      obtain ⟨z0, z1, z2, z3, zsz⟩ := hva'.below hb.out hb1'
      have h1 : b < wr.heap.size := by have := hb.out.size; omega
      have h2 : b' < wr.heap.size := by have := hb.out.size; omega
      have GET := Lib.hid hget
      have GET2 := Lib.hid hget2
      clear hu hv hget hget2 hva hva' hA hB
      have he := fun w => eqVa2 u.kind v.kind u.fr v.fr u.to v.to u.text v.text w
      obtain ⟨Q, hQ⟩ : ∃ Q, (u.kind == v.kind && strEq u.text v.text && u.fr == v.fr && u.to == v.to) = Q := ⟨_, rfl⟩
      rw [hQ] at he
      have HQ := Lib.hid (show vaEq u v = Q from hQ)
      clear hQ
      cases Q with
      | true =>
        simp only [Bool.not_true] at he
        go_wp2
        refine wp_region_later (by kernel_rfl) (by kernel_rfl) ?_; (repeat (first | go_big_quiet_step (fail) | quiet_step (fail))); refine wpQuiet_nil ?_; rintro _ ⟨s, rfl⟩
        go_wp2
        go_roundw
        case rel => exact ⟨k + 1, by omega, by go_num, Lib.hid (hb.out.trans (s.below.mono hb.out.size)), Lib.hid (allz_step _ _ k (u, v) (zip_at GET.out GET2.out) hall.out HQ.out)⟩
        case measure => simp [intOf]; omega
      | false =>
        simp only [Bool.not_false] at he
        have HR := Lib.hid (HX.out k u v GET.out GET2.out HQ.out)
        go_wp2
        refine wp_region_later (by kernel_rfl) (by kernel_rfl) ?_; (repeat (first | go_big_quiet_step (fail) | quiet_step (fail))); refine wpQuiet_nil ?_; rintro _ ⟨s, rfl⟩
        go_wp2
        go_ret
        exact ⟨of_bool HR.out.symm, hb.out.trans (s.below.mono hb.out.size)⟩
    · obtain rfl : k = n := by omega
      have HR := Lib.hid (HT.out k rfl hall.out)
      go_wp2
      go_ret
      exact ⟨of_bool HR.out.symm, hb.out⟩

theorem shape_is (m m2 : Sm) (w : World) (r : Bool) (h : shapeEq m.s m2.s = r) :
    Calls Tryd.prog 88 #[m.val, m2.val] w fun e w' => e = .returned (.bool r) ∧ Below w.heap.size w w' := by
  rw [← h]
  obtain ⟨⟨code, wide, high, even, vs⟩, A, cap⟩ := m
  obtain ⟨⟨code2, wide2, high2, even2, vs2⟩, A2, cap2⟩ := m2
  unfold Sm.val shapeEq
  dsimp only
  go_enter Tryd.func88, Tryd.ntmps88
  go_wp2
  all_goals go_ret
  all_goals refine ⟨?_, ((Below.refl _ _).alloc (Nat.le_refl _) _).alloc (by simp) _⟩
  all_goals simp [*]

set_option maxHeartbeats 1600000 in
theorem sameSign_any (m m2 : Sm) (w : World) (hm : SmOk w m) (hm2 : SmOk w m2) (hz : m.s.vals.length ≤ 1000000) (hz2 : m2.s.vals.length ≤ 1000000) :
    Calls Tryd.prog 67 #[m.val, m2.val] w fun e w' => e = .returned (.bool (sgEq m.s m2.s)) ∧ Below w.heap.size w w' := by
  obtain ⟨C, hC⟩ : ∃ C, strEq m.s.code m2.s.code = C := ⟨_, rfl⟩
  obtain ⟨S, hS⟩ : ∃ S, shapeEq m.s m2.s = S := ⟨_, rfl⟩
  have HS := Lib.hid (fun w => shape_is m m2 w S hS)
  have HE := Lib.hid (fun w (h : SmOk w m) (h2 : SmOk w m2) => sEqual_any m.A m2.A m.cap m2.cap m.s.vals m2.s.vals w h.vals h2.vals hz hz2)
  have HM := Lib.hid hm
  have HM2 := Lib.hid hm2
  have HF := Lib.hid (show sgEq m.s m2.s = (C && S && eqUp vaEq m.s.vals m2.s.vals) by unfold sgEq; rw [hC, hS])
  clear hm hm2 hz hz2 hS
  obtain ⟨⟨code, wide, high, even, vs⟩, A, cap⟩ := m
  obtain ⟨⟨code2, wide2, high2, even2, vs2⟩, A2, cap2⟩ := m2
  unfold Sm.val at HS ⊢
  dsimp only at hC HS HE HM HM2 HF ⊢
  unfold strEq at hC
  obtain ⟨W, hW⟩ : ∃ W, W = (w.alloc (.cells #[.string code, .int .i64 wide, .int .i64 high, .bool even, .slice A vs.length cap] 63)).alloc (.cells #[.string code2, .int .i64 wide2, .int .i64 high2, .bool even2, .slice A2 vs2.length cap2] 63) := ⟨_, rfl⟩
  have HB := Lib.hid (show Below w.heap.size w W from hW ▸ ((Below.refl _ _).alloc (Nat.le_refl _) _).alloc (by simp) _)
  have C1 := Lib.hid (show W.heap[w.heap.size]? = some (.cells #[.string code, .int .i64 wide, .int .i64 high, .bool even, .slice A vs.length cap] 63 (0, 0)) by
    rw [hW, heap_alloc_other _ _ _ (by simp)]; exact heap_alloc_new _ _)
  have C2 := Lib.hid (show W.heap[w.heap.size + 1]? = some (.cells #[.string code2, .int .i64 wide2, .int .i64 high2, .bool even2, .slice A2 vs2.length cap2] 63 (0, 0)) by
    rw [hW]; have := heap_alloc_new (w.alloc (.cells #[.string code, .int .i64 wide, .int .i64 high, .bool even, .slice A vs.length cap] 63)) (.cells #[.string code2, .int .i64 wide2, .int .i64 high2, .bool even2, .slice A2 vs2.length cap2] 63); simpa using this)
  cases C with
  | false =>
    go_enter Tryd.func67, Tryd.ntmps67
    go_wp2
    go_ret
    exact ⟨of_bool (by rw [HF.out]; rfl), ((Below.refl _ _).alloc (Nat.le_refl _) _).alloc (by simp) _⟩
  | true =>
    go_enter Tryd.func67, Tryd.ntmps67
    go_wp2_with fail
    rw [← hW]
    refine (HS.out _).mono ?_; rintro e w1 ⟨rfl, hb1⟩
    have b1 := Lib.hid (below_more HB.out hb1)
    have x1 := cell_of_blk (blk_keep hb1 C1.out) 4
    have x2 := cell_of_blk (blk_keep hb1 C2.out) 4
    simp at x1 x2
    clear hb1
    cases S with
    | false =>
      go_wp2
      go_ret
      exact ⟨of_bool (by rw [HF.out]; rfl), b1.out⟩
    | true =>
      go_wp2_with fail
      refine (HE.out _ (HM.out.below b1.out) (HM2.out.below b1.out)).mono ?_; rintro e w2 ⟨rfl, hb2⟩
      go_wp2
      go_ret
      exact ⟨of_bool (by rw [HF.out]; rfl), below_more b1.out hb2⟩

end Go.Proofs.YthnhpgmohhaeaaaDoor
