/-
  The specification's Same, whatever the lists.
-/
import Derived.Test.YtbfedahonfjpfaaSameA
import Derived.Deep.RegionHeld3
import Derived.Deep.DeepCutAuto
namespace Go.Proofs.Ytbfedahonfjpfaa
open Go.RowKit

theorem two_below (w : World) (o1 o2 : Obj) : Below w.heap.size w ((w.alloc o1).alloc o2).drew := (((Below.refl _ _).alloc (Nat.le_refl _) o1).alloc (by simp) o2).drew
theorem two_first (w : World) (o1 o2 : Obj) : ((w.alloc o1).alloc o2).drew.heap[w.heap.size]? = some o1 := by
  show ((w.alloc o1).alloc o2).heap[w.heap.size]? = some o1
  rw [heap_alloc_other _ _ _ (by simp)]; exact heap_alloc_new _ _
theorem two_second (w : World) (o1 o2 : Obj) : ((w.alloc o1).alloc o2).drew.heap[w.heap.size + 1]? = some o2 := by
  show ((w.alloc o1).alloc o2).heap[w.heap.size + 1]? = some o2
  have := heap_alloc_new (w.alloc o1) o2
  simpa using this

set_option maxHeartbeats 3200000 in
set_option maxRecDepth 100000 in
theorem rsame_any (l2 l : Lm) (w : World) (hl2 : LmOk w l2) (hl : LmOk w l) (hvm : ∀ m ∈ l.ms, m.s.vals.length ≤ 1000000) (hvm2 : ∀ m ∈ l2.ms, m.s.vals.length ≤ 1000000) (hz : l.ms.length ≤ 1000000) (hz2 : l2.ms.length ≤ 1000000) :
    Calls Try.prog 21 #[l2.val, l.val] w fun e w' => e = .returned (.bool (liEq l2.li l.li)) ∧ Below w.heap.size w w' := by
  have hs := hl.signs
  have hs2 := hl2.signs
  have hlen := hl.len
  have hlen2 := hl2.len
  have hcap := hl.cap
  have hcap2 := hl2.cap
  unfold maxLen at hcap hcap2
  obtain ⟨per, ms, A, cap⟩ := l
  obtain ⟨per2, ms2, A2, cap2⟩ := l2
  dsimp only at hs hs2 hlen hlen2 hcap hcap2 hvm hvm2 hz hz2
  unfold Lm.val Lm.li Lm.signs
  dsimp only
  clear hl hl2
  have BA0 := Lib.hid (show Below w.heap.size w ((w.alloc (.cells #[.int .i64 per2, .slice A2 ms2.length cap2] 24)).alloc (.cells #[.int .i64 per, .slice A ms.length cap] 24)) from ((Below.refl _ _).alloc (Nat.le_refl _) _).alloc (by simp) _)
  by_cases hp : (per2 == per) = true
  case neg =>
    have hp : (per2 == per) = false := by simpa using hp
    have HF2 := Lib.hid (show liEq ⟨per2, ms2.map (·.s)⟩ ⟨per, ms.map (·.s)⟩ = false by unfold liEq; rw [hp]; rfl)
    go_enter Try.func21, Try.ntmps21
    go_wp2
    go_ret
    exact ⟨of_bool HF2.out.symm, BA0.out⟩
  have hper : per2 = per := by simpa using hp
  subst hper
  clear hp
  by_cases hln : ms2.length = ms.length
  case neg =>
    have HF2 := Lib.hid (show liEq ⟨per2, ms2.map (·.s)⟩ ⟨per2, ms.map (·.s)⟩ = false by unfold liEq; rw [eqUp_len _ _ _ (by simpa using hln), Bool.and_false])
    generalize ms2.length = m2 at hln hz2 hlen2 BA0 ⊢
    generalize ms.length = m1 at hln hz hlen BA0 ⊢
    have hne : ((m2 : Int) == (m1 : Int)) = false := by rw [beq_eq_false_iff_ne]; omega
    have hnn : ¬ m2 = m1 := hln
    go_enter Try.func21, Try.ntmps21
    go_wp2
    go_ret
    exact ⟨of_bool HF2.out.symm, BA0.out⟩
  have HT := Lib.hid (fun k (hk : k = ms.length) h0 => show liEq ⟨per2, ms2.map (·.s)⟩ ⟨per2, ms.map (·.s)⟩ = true by
    unfold liEq; rw [eqUp_true sgEq (ms2.map (·.s)) (ms.map (·.s)) k (by simpa using hln) (by simpa using hk.trans hln.symm) h0]; simp)
  have HX := Lib.hid (fun k u v h1 h2 h => show liEq ⟨per2, ms2.map (·.s)⟩ ⟨per2, ms.map (·.s)⟩ = false by
    unfold liEq; rw [eqUp_false sgEq (ms2.map (·.s)) (ms.map (·.s)) k u v h1 h2 h, Bool.and_false])
  clear hz hz2 BA0
  generalize liEq ⟨per2, ms2.map (·.s)⟩ ⟨per2, ms.map (·.s)⟩ = R at HT HX ⊢
  rw [hln] at hlen2 ⊢
  obtain ⟨n, hn⟩ : ∃ n, n = ms.length := ⟨_, rfl⟩
  rw [← hn] at hlen hlen2 HT ⊢
  have HN := Lib.hid hn
  have HN2 := Lib.hid (hn.trans hln.symm)
  clear hn hln
  go_enter Try.func21, Try.ntmps21
  go_wp2
  obtain ⟨W, hW⟩ : ∃ W, W = ((w.alloc (.cells #[.int .i64 per2, .slice A2 n cap2] 24)).alloc (.cells #[.int .i64 per2, .slice A n cap] 24)) := ⟨_, rfl⟩
  rw [← hW]
  have HB := Lib.hid (show Below w.heap.size w W from hW ▸ ((Below.refl _ _).alloc (Nat.le_refl _) _).alloc (by simp) _)
  have C2 := Lib.hid (show W.heap[w.heap.size]? = some (.cells #[.int .i64 per2, .slice A2 n cap2] 24 (0, 0)) by
    rw [hW, heap_alloc_other _ _ _ (by simp)]; exact heap_alloc_new _ _)
  have C1 := Lib.hid (show W.heap[w.heap.size + 1]? = some (.cells #[.int .i64 per2, .slice A n cap] 24 (0, 0)) by
    rw [hW]; have := heap_alloc_new (w.alloc (.cells #[.int .i64 per2, .slice A2 n cap2] 24)) (.cells #[.int .i64 per2, .slice A n cap] 24); simpa using this)
  clear hW
  go_loopw [5] (fun i wr => ∃ k : Nat, k ≤ n ∧ i = .int .i64 k ∧ Hid (Below W.heap.size W wr) ∧ Hid ((((ms2.map (·.s)).zip (ms.map (·.s))).take k).all (fun p => sgEq p.1 p.2) = true)) (fun i _ => n - (intOf i).toNat)
  case atStart => exact ⟨0, Nat.zero_le _, rfl, Lib.hid (Below.refl _ _), Lib.hid (by simp)⟩
  case round =>
    obtain ⟨k, hk, rfl, hb, hall⟩ := hrel
    have hw1 := Lib.hid (HB.out.trans (hb.out.mono HB.out.size))
    have D1 := Lib.hid (blk_keep hb.out C1.out)
    have D2 := Lib.hid (blk_keep hb.out C2.out)
    have x1 := cell_of_blk D1.out 1
    have x2 := cell_of_blk D2.out 1
    simp at x1 x2
    by_cases hlt : k < n
    · have hget : ms[k]? = some (ms[k]'(by have := HN.out; omega)) := List.getElem?_eq_getElem _
      obtain ⟨u, hu⟩ : ∃ u, u = ms[k]'(by have := HN.out; omega) := ⟨_, rfl⟩
      rw [← hu] at hget
      have hget2 : ms2[k]? = some (ms2[k]'(by have := HN2.out; omega)) := List.getElem?_eq_getElem _
      obtain ⟨v, hv⟩ : ∃ v, v = ms2[k]'(by have := HN2.out; omega) := ⟨_, rfl⟩
      rw [← hv] at hget2
      have GET := Lib.hid (show (ms.map (·.s))[k]? = some u.s by rw [List.getElem?_map, hget]; rfl)
      have GET2 := Lib.hid (show (ms2.map (·.s))[k]? = some v.s by rw [List.getElem?_map, hget2]; rfl)
      obtain ⟨b, o, hA, hb1, hva, hok⟩ := hs k u hget
      obtain ⟨b', o', hA', hb1', hva', hok'⟩ := hs2 k v hget2
      have hvl := hvm u (List.mem_of_getElem? hget)
      have hvl2 := hvm2 v (List.mem_of_getElem? hget2)
      obtain ⟨s, Au, cu⟩ := u
      obtain ⟨s', Av, cv⟩ := v
      dsimp only at hvl hvl2 GET GET2
      subst hA hA'
      have Y := Lib.hid (hva.below hw1.out hb1)
      have Z := Lib.hid (hva'.below hw1.out hb1')
      have OU := Lib.hid (hok.below hw1.out)
      have OV := Lib.hid (hok'.below hw1.out)
      have HVL := Lib.hid hvl
      have HVL2 := Lib.hid hvl2
      have hsb : b < wr.heap.size := by have := hw1.out.size; omega
      have hsb' : b' < wr.heap.size := by have := hw1.out.size; omega
      have hsw : w.heap.size + 1 < wr.heap.size := (Array.getElem?_eq_some_iff.1 D1.out).1
      clear hu hv hget hget2 hva hva' hok hok' hs hs2 hvm hvm2 hvl hvl2
      go_wp2
      have HK := Lib.hid (fun w' (hb : Below wr.heap.size wr w') => show w'.cell? ⟨w.heap.size, 1, none⟩ = some (.slice (some ⟨b', o', none⟩) n cap2) ∧ w'.cell? ⟨w.heap.size + 1, 1, none⟩ = some (.slice (some ⟨b, o, none⟩) n cap) ∧ w'.cell? ⟨b', o' + k * 5, none⟩ = some (.string s'.code) ∧ w'.cell? ⟨b', o' + k * 5 + 1, none⟩ = some (.int .i64 s'.wide) ∧ w'.cell? ⟨b', o' + k * 5 + 2, none⟩ = some (.int .i64 s'.high) ∧ w'.cell? ⟨b', o' + k * 5 + 3, none⟩ = some (.bool s'.even) ∧ w'.cell? ⟨b', o' + k * 5 + 4, none⟩ = some (.slice Av s'.vals.length cv) ∧ w'.cell? ⟨b, o + k * 5, none⟩ = some (.string s.code) ∧ w'.cell? ⟨b, o + k * 5 + 1, none⟩ = some (.int .i64 s.wide) ∧ w'.cell? ⟨b, o + k * 5 + 2, none⟩ = some (.int .i64 s.high) ∧ w'.cell? ⟨b, o + k * 5 + 3, none⟩ = some (.bool s.even) ∧ w'.cell? ⟨b, o + k * 5 + 4, none⟩ = some (.slice Au s.vals.length cu) ∧ Below wr.heap.size wr w' from
        ⟨cell_of_blk (blk_keep hb D2.out) 1, cell_of_blk (blk_keep hb D1.out) 1, (Z.out.below hb hsb').c0, (Z.out.below hb hsb').c1, (Z.out.below hb hsb').c2, (Z.out.below hb hsb').c3, (Z.out.below hb hsb').c4,
          (Y.out.below hb hsb).c0, (Y.out.below hb hsb).c1, (Y.out.below hb hsb).c2, (Y.out.below hb hsb).c3, (Y.out.below hb hsb).c4, hb⟩)
      have HSB := Lib.hid (fun w' (h : w'.cell? ⟨w.heap.size, 1, none⟩ = some (.slice (some ⟨b', o', none⟩) n cap2) ∧ w'.cell? ⟨w.heap.size + 1, 1, none⟩ = some (.slice (some ⟨b, o, none⟩) n cap) ∧ w'.cell? ⟨b', o' + k * 5, none⟩ = some (.string s'.code) ∧ w'.cell? ⟨b', o' + k * 5 + 1, none⟩ = some (.int .i64 s'.wide) ∧ w'.cell? ⟨b', o' + k * 5 + 2, none⟩ = some (.int .i64 s'.high) ∧ w'.cell? ⟨b', o' + k * 5 + 3, none⟩ = some (.bool s'.even) ∧ w'.cell? ⟨b', o' + k * 5 + 4, none⟩ = some (.slice Av s'.vals.length cv) ∧ w'.cell? ⟨b, o + k * 5, none⟩ = some (.string s.code) ∧ w'.cell? ⟨b, o + k * 5 + 1, none⟩ = some (.int .i64 s.wide) ∧ w'.cell? ⟨b, o + k * 5 + 2, none⟩ = some (.int .i64 s.high) ∧ w'.cell? ⟨b, o + k * 5 + 3, none⟩ = some (.bool s.even) ∧ w'.cell? ⟨b, o + k * 5 + 4, none⟩ = some (.slice Au s.vals.length cu) ∧ Below wr.heap.size wr w') => h.2.2.2.2.2.2.2.2.2.2.2.2)
      have HDR := Lib.hid (show Below wr.heap.size wr wr.drew from (Below.refl _ _).drew)
      go_cut [6, 7] (fun p q wx => ∃ x y, p = .pointer (some ⟨x, 0, none⟩) ∧ q = .pointer (some ⟨y, 0, none⟩) ∧ Hid (Below wr.heap.size wr wx) ∧ Hid (wx.heap[x]? = some (.cells #[.string s'.code, .int .i64 s'.wide, .int .i64 s'.high, .bool s'.even, .slice Av s'.vals.length cv] 76 (0, 0))) ∧ Hid (wx.heap[y]? = some (.cells #[.string s.code, .int .i64 s.wide, .int .i64 s.high, .bool s.even, .slice Au s.vals.length cu] 76 (0, 0))))
      case first =>
        go_region_held3 (fun w' => w'.cell? ⟨w.heap.size, 1, none⟩ = some (.slice (some ⟨b', o', none⟩) n cap2) ∧ w'.cell? ⟨w.heap.size + 1, 1, none⟩ = some (.slice (some ⟨b, o, none⟩) n cap) ∧ w'.cell? ⟨b', o' + k * 5, none⟩ = some (.string s'.code) ∧ w'.cell? ⟨b', o' + k * 5 + 1, none⟩ = some (.int .i64 s'.wide) ∧ w'.cell? ⟨b', o' + k * 5 + 2, none⟩ = some (.int .i64 s'.high) ∧ w'.cell? ⟨b', o' + k * 5 + 3, none⟩ = some (.bool s'.even) ∧ w'.cell? ⟨b', o' + k * 5 + 4, none⟩ = some (.slice Av s'.vals.length cv) ∧ w'.cell? ⟨b, o + k * 5, none⟩ = some (.string s.code) ∧ w'.cell? ⟨b, o + k * 5 + 1, none⟩ = some (.int .i64 s.wide) ∧ w'.cell? ⟨b, o + k * 5 + 2, none⟩ = some (.int .i64 s.high) ∧ w'.cell? ⟨b, o + k * 5 + 3, none⟩ = some (.bool s.even) ∧ w'.cell? ⟨b, o + k * 5 + 4, none⟩ = some (.slice Au s.vals.length cu) ∧ Below wr.heap.size wr w')
          ((refine HK.out _ ?_; repeat (first | exact Below.refl _ _ | refine Below.drew ?_ | refine Below.alloc ?_ (by simp <;> omega) _ | refine Below.setCell ?_ (by simp <;> omega) _)))
          (fail)
        all_goals go_wp2
        all_goals go_meet
        · exact ⟨wr.heap.size, wr.heap.size + 1, rfl, rfl, Lib.hid (two_below _ _ _), Lib.hid (two_first _ _ _), Lib.hid (two_second _ _ _)⟩
        · exact ⟨wr.heap.size + 1, wr.heap.size, rfl, rfl, Lib.hid (two_below _ _ _), Lib.hid (two_second _ _ _), Lib.hid (two_first _ _ _)⟩
      case rest =>
      obtain ⟨x, y, rfl, rfl, hbc, hbx, hby⟩ := hcut
      clear HK HSB HDR x1 x2
      have p0 := cell_of_blk hbx.out 0
      have p1 := cell_of_blk hbx.out 1
      have p2 := cell_of_blk hbx.out 2
      have p3 := cell_of_blk hbx.out 3
      have p4 := cell_of_blk hbx.out 4
      have q0 := cell_of_blk hby.out 0
      have q1 := cell_of_blk hby.out 1
      have q2 := cell_of_blk hby.out 2
      have q3 := cell_of_blk hby.out 3
      have q4 := cell_of_blk hby.out 4
      simp at p0 p1 p2 p3 p4 q0 q1 q2 q3 q4
      have HEQ := Lib.hid (show sgEq s' s = (strEq s'.code s.code && ((s'.wide == s.wide) && (s'.high == s.high) && (s'.even == s.even)) && eqUp vaEq s'.vals s.vals) from rfl)
      have HNO := Lib.hid (fun h => HX.out k _ _ GET2.out GET.out h)
      have hbo := Lib.hid (HB.out.trans ((hb.out.trans (hbc.out.mono hb.out.size)).mono HB.out.size))
      by_cases c1 : (s'.code.toList == s.code.toList) = true
      case neg =>
        have c1 : (s'.code.toList == s.code.toList) = false := by simpa using c1
        have HR := Lib.hid (HNO.out (by rw [HEQ.out]; unfold strEq; rw [c1]; rfl))
        go_wp2
        go_ret
        exact ⟨of_bool HR.out.symm, hbo.out⟩
      by_cases c2 : (s'.wide == s.wide) = true
      case neg =>
        have c2 : (s'.wide == s.wide) = false := by simpa using c2
        have nc2 : (s'.wide != s.wide) = true := by unfold bne; rw [c2]; rfl
        have HR := Lib.hid (HNO.out (by rw [HEQ.out, c2]; simp))
        go_wp2
        go_ret
        exact ⟨of_bool HR.out.symm, hbo.out⟩
      have nc2 : (s'.wide != s.wide) = false := by unfold bne; rw [c2]; rfl
      by_cases c3 : (s'.high == s.high) = true
      case neg =>
        have c3 : (s'.high == s.high) = false := by simpa using c3
        have nc3 : (s'.high != s.high) = true := by unfold bne; rw [c3]; rfl
        have HR := Lib.hid (HNO.out (by rw [HEQ.out, c3]; simp))
        go_wp2
        go_ret
        exact ⟨of_bool HR.out.symm, hbo.out⟩
      have nc3 : (s'.high != s.high) = false := by unfold bne; rw [c3]; rfl
      by_cases c4 : (s'.even == s.even) = true
      case neg =>
        have c4 : (s'.even == s.even) = false := by simpa using c4
        have nc4 : (s'.even != s.even) = true := by unfold bne; rw [c4]; rfl
        have HR := Lib.hid (HNO.out (by rw [HEQ.out, c4]; simp))
        go_wp2
        go_ret
        exact ⟨of_bool HR.out.symm, hbo.out⟩
      have nc4 : (s'.even != s.even) = false := by unfold bne; rw [c4]; rfl
      have HEQ2 := Lib.hid (show sgEq s' s = eqUp vaEq s'.vals s.vals by rw [HEQ.out]; unfold strEq; rw [c1, c2, c3, c4]; simp)
      have HSV := Lib.hid (fun w (h : SmOk w ⟨s', Av, cv⟩) (h2 : SmOk w ⟨s, Au, cu⟩) => rsameVals_any Av Au cv cu s'.vals s.vals w h.vals h2.vals HVL2.out HVL.out)
      obtain ⟨Q, hQ⟩ : ∃ Q, eqUp vaEq s'.vals s.vals = Q := ⟨_, rfl⟩
      rw [hQ] at HSV HEQ2
      clear hQ
      go_wp2_with fail
      refine (HSV.out _ (OV.out.below hbc.out) (OU.out.below hbc.out)).mono ?_; rintro e w5 ⟨rfl, hb5⟩
      have b5 := Lib.hid (below_more hbc.out hb5)
      clear hb5 p0 p1 p2 p3 p4 q0 q1 q2 q3 q4
      cases Q with
      | false =>
        have HR := Lib.hid (HNO.out HEQ2.out)
        go_wp2_with fail
        go_ret
        exact ⟨of_bool HR.out.symm, HB.out.trans ((hb.out.trans (b5.out.mono hb.out.size)).mono HB.out.size)⟩
      | true =>
        go_wp2_with fail
        go_roundw
        case rel => exact ⟨k + 1, by omega, by go_num, Lib.hid (hb.out.trans (b5.out.mono hb.out.size)), Lib.hid (allz_step _ _ k (_, _) (zip_at GET2.out GET.out) hall.out HEQ2.out)⟩
        case measure => simp [intOf]; omega
    · obtain rfl : k = n := by omega
      have HR := Lib.hid (HT.out k rfl hall.out)
      go_wp2
      go_ret
      exact ⟨of_bool HR.out.symm, hw1.out⟩

end Go.Proofs.Ytbfedahonfjpfaa
