/-
  The specification's Same, whatever the lists. And what builds on it.
-/
import Derived.Test.YtleihhkacmgofabGreatDoorPk3
import Derived.Deep.RegionHeld3
import Derived.Deep.DeepCutAuto

/- The specification's Same, whatever the lists. -/
namespace Go.Proofs.YtleihhkacmgofabGreatDoor
open Go.RowKit

theorem two_below (w : World) (o1 o2 : Obj) : Below w.heap.size w ((w.alloc o1).alloc o2).drew := (((Below.refl _ _).alloc (Nat.le_refl _) o1).alloc (by simp) o2).drew
theorem two_first (w : World) (o1 o2 : Obj) : ((w.alloc o1).alloc o2).drew.heap[w.heap.size]? = some o1 := by
  show ((w.alloc o1).alloc o2).heap[w.heap.size]? = some o1
  rw [heap_alloc_other _ _ _ (by simp)]; exact heap_alloc_new _ _
theorem two_second (w : World) (o1 o2 : Obj) : ((w.alloc o1).alloc o2).drew.heap[w.heap.size + 1]? = some o2 := by
  show ((w.alloc o1).alloc o2).heap[w.heap.size + 1]? = some o2
  have := heap_alloc_new (w.alloc o1) o2
  simpa using this

set_option maxHeartbeats 3200000 in
set_option maxRecDepth 100000 in
theorem rsame_any (l2 l : Lm) (w : World) (hl2 : LmOk w l2) (hl : LmOk w l) (hvm : ∀ m ∈ l.ms, m.s.vals.length ≤ 1000000) (hvm2 : ∀ m ∈ l2.ms, m.s.vals.length ≤ 1000000) (hz : l.ms.length ≤ 1000000) (hz2 : l2.ms.length ≤ 1000000) :
    Calls Tryz.prog 10 #[l2.val, l.val] w fun e w' => e = .returned (.bool (liEq l2.li l.li)) ∧ Below w.heap.size w w' := by
  have hs := hl.signs
  have hs2 := hl2.signs
  have hlen := hl.len
  have hlen2 := hl2.len
  have hcap := hl.cap
  have hcap2 := hl2.cap
  unfold maxLen at hcap hcap2
  obtain ⟨per, ms, A, cap⟩ := l
  obtain ⟨per2, ms2, A2, cap2⟩ := l2
  dsimp only at hs hs2 hlen hlen2 hcap hcap2 hvm hvm2 hz hz2
  unfold Lm.val Lm.li Lm.signs
  dsimp only
  clear hl hl2
  have BA0 := Lib.hid (show Below w.heap.size w ((w.alloc (.cells #[.int .i64 per2, .slice A2 ms2.length cap2] 24)).alloc (.cells #[.int .i64 per, .slice A ms.length cap] 24)) from ((Below.refl _ _).alloc (Nat.le_refl _) _).alloc (by simp) _)
  by_cases hp : (per2 == per) = true
  case neg =>
    have hp : (per2 == per) = false := by simpa using hp
    have HF2 := Lib.hid (show liEq ⟨per2, ms2.map (·.s)⟩ ⟨per, ms.map (·.s)⟩ = false by unfold liEq; rw [hp]; rfl)
    go_enter Tryz.func10, Tryz.ntmps10
    go_wp2
    go_ret
    exact ⟨of_bool HF2.out.symm, BA0.out⟩
  have hper : per2 = per := by simpa using hp
  subst hper
  clear hp
  by_cases hln : ms2.length = ms.length
  case neg =>
    have HF2 := Lib.hid (show liEq ⟨per2, ms2.map (·.s)⟩ ⟨per2, ms.map (·.s)⟩ = false by unfold liEq; rw [eqUp_len _ _ _ (by simpa using hln), Bool.and_false])
    generalize ms2.length = m2 at hln hz2 hlen2 BA0 ⊢
    generalize ms.length = m1 at hln hz hlen BA0 ⊢
    have hne : ((m2 : Int) == (m1 : Int)) = false := by rw [beq_eq_false_iff_ne]; omega
    have hnn : ¬ m2 = m1 := hln
    go_enter Tryz.func10, Tryz.ntmps10
    go_wp2
    go_ret
    exact ⟨of_bool HF2.out.symm, BA0.out⟩
  have HT := Lib.hid (fun k (hk : k = ms.length) h0 => show liEq ⟨per2, ms2.map (·.s)⟩ ⟨per2, ms.map (·.s)⟩ = true by
    unfold liEq; rw [eqUp_true sgEq (ms2.map (·.s)) (ms.map (·.s)) k (by simpa using hln) (by simpa using hk.trans hln.symm) h0]; simp)
  have HX := Lib.hid (fun k u v h1 h2 h => show liEq ⟨per2, ms2.map (·.s)⟩ ⟨per2, ms.map (·.s)⟩ = false by
    unfold liEq; rw [eqUp_false sgEq (ms2.map (·.s)) (ms.map (·.s)) k u v h1 h2 h, Bool.and_false])
  clear hz hz2 BA0
  generalize liEq ⟨per2, ms2.map (·.s)⟩ ⟨per2, ms.map (·.s)⟩ = R at HT HX ⊢
  rw [hln] at hlen2 ⊢
  obtain ⟨n, hn⟩ : ∃ n, n = ms.length := ⟨_, rfl⟩
  rw [← hn] at hlen hlen2 HT ⊢
  have HN := Lib.hid hn
  have HN2 := Lib.hid (hn.trans hln.symm)
  clear hn hln
  go_enter Tryz.func10, Tryz.ntmps10
  go_wp2
  obtain ⟨W, hW⟩ : ∃ W, W = ((w.alloc (.cells #[.int .i64 per2, .slice A2 n cap2] 24)).alloc (.cells #[.int .i64 per2, .slice A n cap] 24)) := ⟨_, rfl⟩
  rw [← hW]
  have HB := Lib.hid (show Below w.heap.size w W from hW ▸ ((Below.refl _ _).alloc (Nat.le_refl _) _).alloc (by simp) _)
  have C2 := Lib.hid (show W.heap[w.heap.size]? = some (.cells #[.int .i64 per2, .slice A2 n cap2] 24 (0, 0)) by
    rw [hW, heap_alloc_other _ _ _ (by simp)]; exact heap_alloc_new _ _)
  have C1 := Lib.hid (show W.heap[w.heap.size + 1]? = some (.cells #[.int .i64 per2, .slice A n cap] 24 (0, 0)) by
    rw [hW]; have := heap_alloc_new (w.alloc (.cells #[.int .i64 per2, .slice A2 n cap2] 24)) (.cells #[.int .i64 per2, .slice A n cap] 24); simpa using this)
  clear hW
  go_loopw [5] (fun i wr => ∃ k : Nat, k ≤ n ∧ i = .int .i64 k ∧ Hid (Below W.heap.size W wr) ∧ Hid ((((ms2.map (·.s)).zip (ms.map (·.s))).take k).all (fun p => sgEq p.1 p.2) = true)) (fun i _ => n - (intOf i).toNat)
  case atStart => exact ⟨0, Nat.zero_le _, rfl, Lib.hid (Below.refl _ _), Lib.hid (by simp)⟩
  case round =>
    obtain ⟨k, hk, rfl, hb, hall⟩ := hrel
    have hw1 := Lib.hid (HB.out.trans (hb.out.mono HB.out.size))
    have D1 := Lib.hid (blk_keep hb.out C1.out)
    have D2 := Lib.hid (blk_keep hb.out C2.out)
    have x1 := cell_of_blk D1.out 1
    have x2 := cell_of_blk D2.out 1
    simp at x1 x2
    by_cases hlt : k < n
    · have hget : ms[k]? = some (ms[k]'(by have := HN.out; omega)) := List.getElem?_eq_getElem _
      obtain ⟨u, hu⟩ : ∃ u, u = ms[k]'(by have := HN.out; omega) := ⟨_, rfl⟩
      rw [← hu] at hget
      have hget2 : ms2[k]? = some (ms2[k]'(by have := HN2.out; omega)) := List.getElem?_eq_getElem _
      obtain ⟨v, hv⟩ : ∃ v, v = ms2[k]'(by have := HN2.out; omega) := ⟨_, rfl⟩
      rw [← hv] at hget2
      have GET := Lib.hid (show (ms.map (·.s))[k]? = some u.s by rw [List.getElem?_map, hget]; rfl)
      have GET2 := Lib.hid (show (ms2.map (·.s))[k]? = some v.s by rw [List.getElem?_map, hget2]; rfl)
      obtain ⟨b, o, hA, hb1, hva, hok⟩ := hs k u hget
      obtain ⟨b', o', hA', hb1', hva', hok'⟩ := hs2 k v hget2
      have hvl := hvm u (List.mem_of_getElem? hget)
      have hvl2 := hvm2 v (List.mem_of_getElem? hget2)
      obtain ⟨s, Au, cu⟩ := u
      obtain ⟨s', Av, cv⟩ := v
      dsimp only at hvl hvl2 GET GET2
      subst hA hA'
      have Y := Lib.hid (hva.below hw1.out hb1)
      have Z := Lib.hid (hva'.below hw1.out hb1')
      have OU := Lib.hid (hok.below hw1.out)
      have OV := Lib.hid (hok'.below hw1.out)
      have HVL := Lib.hid hvl
      have HVL2 := Lib.hid hvl2
      have hsb : b < wr.heap.size := by have := hw1.out.size; omega
      have hsb' : b' < wr.heap.size := by have := hw1.out.size; omega
      have hsw : w.heap.size + 1 < wr.heap.size := (Array.getElem?_eq_some_iff.1 D1.out).1
      clear hu hv hget hget2 hva hva' hok hok' hs hs2 hvm hvm2 hvl hvl2
      go_wp2
      have HK := Lib.hid (fun w' (hb : Below wr.heap.size wr w') => show w'.cell? ⟨w.heap.size, 1, none⟩ = some (.slice (some ⟨b', o', none⟩) n cap2) ∧ w'.cell? ⟨w.heap.size + 1, 1, none⟩ = some (.slice (some ⟨b, o, none⟩) n cap) ∧ w'.cell? ⟨b', o' + k * 5, none⟩ = some (.string s'.code) ∧ w'.cell? ⟨b', o' + k * 5 + 1, none⟩ = some (.int .i64 s'.wide) ∧ w'.cell? ⟨b', o' + k * 5 + 2, none⟩ = some (.int .i64 s'.high) ∧ w'.cell? ⟨b', o' + k * 5 + 3, none⟩ = some (.bool s'.even) ∧ w'.cell? ⟨b', o' + k * 5 + 4, none⟩ = some (.slice Av s'.vals.length cv) ∧ w'.cell? ⟨b, o + k * 5, none⟩ = some (.string s.code) ∧ w'.cell? ⟨b, o + k * 5 + 1, none⟩ = some (.int .i64 s.wide) ∧ w'.cell? ⟨b, o + k * 5 + 2, none⟩ = some (.int .i64 s.high) ∧ w'.cell? ⟨b, o + k * 5 + 3, none⟩ = some (.bool s.even) ∧ w'.cell? ⟨b, o + k * 5 + 4, none⟩ = some (.slice Au s.vals.length cu) ∧ Below wr.heap.size wr w' from
        ⟨cell_of_blk (blk_keep hb D2.out) 1, cell_of_blk (blk_keep hb D1.out) 1, (Z.out.below hb hsb').c0, (Z.out.below hb hsb').c1, (Z.out.below hb hsb').c2, (Z.out.below hb hsb').c3, (Z.out.below hb hsb').c4,
          (Y.out.below hb hsb).c0, (Y.out.below hb hsb).c1, (Y.out.below hb hsb).c2, (Y.out.below hb hsb).c3, (Y.out.below hb hsb).c4, hb⟩)
      have HSB := Lib.hid (fun w' (h : w'.cell? ⟨w.heap.size, 1, none⟩ = some (.slice (some ⟨b', o', none⟩) n cap2) ∧ w'.cell? ⟨w.heap.size + 1, 1, none⟩ = some (.slice (some ⟨b, o, none⟩) n cap) ∧ w'.cell? ⟨b', o' + k * 5, none⟩ = some (.string s'.code) ∧ w'.cell? ⟨b', o' + k * 5 + 1, none⟩ = some (.int .i64 s'.wide) ∧ w'.cell? ⟨b', o' + k * 5 + 2, none⟩ = some (.int .i64 s'.high) ∧ w'.cell? ⟨b', o' + k * 5 + 3, none⟩ = some (.bool s'.even) ∧ w'.cell? ⟨b', o' + k * 5 + 4, none⟩ = some (.slice Av s'.vals.length cv) ∧ w'.cell? ⟨b, o + k * 5, none⟩ = some (.string s.code) ∧ w'.cell? ⟨b, o + k * 5 + 1, none⟩ = some (.int .i64 s.wide) ∧ w'.cell? ⟨b, o + k * 5 + 2, none⟩ = some (.int .i64 s.high) ∧ w'.cell? ⟨b, o + k * 5 + 3, none⟩ = some (.bool s.even) ∧ w'.cell? ⟨b, o + k * 5 + 4, none⟩ = some (.slice Au s.vals.length cu) ∧ Below wr.heap.size wr w') => h.2.2.2.2.2.2.2.2.2.2.2.2)
      have HDR := Lib.hid (show Below wr.heap.size wr wr.drew from (Below.refl _ _).drew)
      go_cut [6, 7] (fun p q wx => ∃ x y, p = .pointer (some ⟨x, 0, none⟩) ∧ q = .pointer (some ⟨y, 0, none⟩) ∧ Hid (Below wr.heap.size wr wx) ∧ Hid (wx.heap[x]? = some (.cells #[.string s'.code, .int .i64 s'.wide, .int .i64 s'.high, .bool s'.even, .slice Av s'.vals.length cv] 38 (0, 0))) ∧ Hid (wx.heap[y]? = some (.cells #[.string s.code, .int .i64 s.wide, .int .i64 s.high, .bool s.even, .slice Au s.vals.length cu] 38 (0, 0))))
      case first =>
        go_region_held3 (fun w' => w'.cell? ⟨w.heap.size, 1, none⟩ = some (.slice (some ⟨b', o', none⟩) n cap2) ∧ w'.cell? ⟨w.heap.size + 1, 1, none⟩ = some (.slice (some ⟨b, o, none⟩) n cap) ∧ w'.cell? ⟨b', o' + k * 5, none⟩ = some (.string s'.code) ∧ w'.cell? ⟨b', o' + k * 5 + 1, none⟩ = some (.int .i64 s'.wide) ∧ w'.cell? ⟨b', o' + k * 5 + 2, none⟩ = some (.int .i64 s'.high) ∧ w'.cell? ⟨b', o' + k * 5 + 3, none⟩ = some (.bool s'.even) ∧ w'.cell? ⟨b', o' + k * 5 + 4, none⟩ = some (.slice Av s'.vals.length cv) ∧ w'.cell? ⟨b, o + k * 5, none⟩ = some (.string s.code) ∧ w'.cell? ⟨b, o + k * 5 + 1, none⟩ = some (.int .i64 s.wide) ∧ w'.cell? ⟨b, o + k * 5 + 2, none⟩ = some (.int .i64 s.high) ∧ w'.cell? ⟨b, o + k * 5 + 3, none⟩ = some (.bool s.even) ∧ w'.cell? ⟨b, o + k * 5 + 4, none⟩ = some (.slice Au s.vals.length cu) ∧ Below wr.heap.size wr w')
          ((refine HK.out _ ?_; repeat (first | exact Below.refl _ _ | refine Below.drew ?_ | refine Below.alloc ?_ (by simp <;> omega) _ | refine Below.setCell ?_ (by simp <;> omega) _)))
          (fail)
        all_goals go_wp2
        all_goals go_meet
        · exact ⟨wr.heap.size, wr.heap.size + 1, rfl, rfl, Lib.hid (two_below _ _ _), Lib.hid (two_first _ _ _), Lib.hid (two_second _ _ _)⟩
        · exact ⟨wr.heap.size + 1, wr.heap.size, rfl, rfl, Lib.hid (two_below _ _ _), Lib.hid (two_second _ _ _), Lib.hid (two_first _ _ _)⟩
      case rest =>
      obtain ⟨x, y, rfl, rfl, hbc, hbx, hby⟩ := hcut
      clear HK HSB HDR x1 x2
      have p0 := cell_of_blk hbx.out 0
      have p1 := cell_of_blk hbx.out 1
      have p2 := cell_of_blk hbx.out 2
      have p3 := cell_of_blk hbx.out 3
      have p4 := cell_of_blk hbx.out 4
      have q0 := cell_of_blk hby.out 0
      have q1 := cell_of_blk hby.out 1
      have q2 := cell_of_blk hby.out 2
      have q3 := cell_of_blk hby.out 3
      have q4 := cell_of_blk hby.out 4
      simp at p0 p1 p2 p3 p4 q0 q1 q2 q3 q4
      have HEQ := Lib.hid (show sgEq s' s = (strEq s'.code s.code && ((s'.wide == s.wide) && (s'.high == s.high) && (s'.even == s.even)) && eqUp vaEq s'.vals s.vals) from rfl)
      have HNO := Lib.hid (fun h => HX.out k _ _ GET2.out GET.out h)
      have hbo := Lib.hid (HB.out.trans ((hb.out.trans (hbc.out.mono hb.out.size)).mono HB.out.size))
      by_cases c1 : (s'.code.toList == s.code.toList) = true
      case neg =>
        have c1 : (s'.code.toList == s.code.toList) = false := by simpa using c1
        have HR := Lib.hid (HNO.out (by rw [HEQ.out]; unfold strEq; rw [c1]; rfl))
        go_wp2
        go_ret
        exact ⟨of_bool HR.out.symm, hbo.out⟩
      by_cases c2 : (s'.wide == s.wide) = true
      case neg =>
        have c2 : (s'.wide == s.wide) = false := by simpa using c2
        have nc2 : (s'.wide != s.wide) = true := by unfold bne; rw [c2]; rfl
        have HR := Lib.hid (HNO.out (by rw [HEQ.out, c2]; simp))
        go_wp2
        go_ret
        exact ⟨of_bool HR.out.symm, hbo.out⟩
      have nc2 : (s'.wide != s.wide) = false := by unfold bne; rw [c2]; rfl
      by_cases c3 : (s'.high == s.high) = true
      case neg =>
        have c3 : (s'.high == s.high) = false := by simpa using c3
        have nc3 : (s'.high != s.high) = true := by unfold bne; rw [c3]; rfl
        have HR := Lib.hid (HNO.out (by rw [HEQ.out, c3]; simp))
        go_wp2
        go_ret
        exact ⟨of_bool HR.out.symm, hbo.out⟩
      have nc3 : (s'.high != s.high) = false := by unfold bne; rw [c3]; rfl
      by_cases c4 : (s'.even == s.even) = true
      case neg =>
        have c4 : (s'.even == s.even) = false := by simpa using c4
        have nc4 : (s'.even != s.even) = true := by unfold bne; rw [c4]; rfl
        have HR := Lib.hid (HNO.out (by rw [HEQ.out, c4]; simp))
        go_wp2
        go_ret
        exact ⟨of_bool HR.out.symm, hbo.out⟩
      have nc4 : (s'.even != s.even) = false := by unfold bne; rw [c4]; rfl
      have HEQ2 := Lib.hid (show sgEq s' s = eqUp vaEq s'.vals s.vals by rw [HEQ.out]; unfold strEq; rw [c1, c2, c3, c4]; simp)
      have HSV := Lib.hid (fun w (h : SmOk w ⟨s', Av, cv⟩) (h2 : SmOk w ⟨s, Au, cu⟩) => rsameVals_any Av Au cv cu s'.vals s.vals w h.vals h2.vals HVL2.out HVL.out)
      obtain ⟨Q, hQ⟩ : ∃ Q, eqUp vaEq s'.vals s.vals = Q := ⟨_, rfl⟩
      rw [hQ] at HSV HEQ2
      clear hQ
      go_wp2_with fail
      refine (HSV.out _ (OV.out.below hbc.out) (OU.out.below hbc.out)).mono ?_; rintro e w5 ⟨rfl, hb5⟩
      have b5 := Lib.hid (below_more hbc.out hb5)
      clear hb5 p0 p1 p2 p3 p4 q0 q1 q2 q3 q4
      cases Q with
      | false =>
        have HR := Lib.hid (HNO.out HEQ2.out)
        go_wp2_with fail
        go_ret
        exact ⟨of_bool HR.out.symm, HB.out.trans ((hb.out.trans (b5.out.mono hb.out.size)).mono HB.out.size)⟩
      | true =>
        go_wp2_with fail
        go_roundw
        case rel => exact ⟨k + 1, by omega, by go_num, Lib.hid (hb.out.trans (b5.out.mono hb.out.size)), Lib.hid (allz_step _ _ k (_, _) (zip_at GET2.out GET.out) hall.out HEQ2.out)⟩
        case measure => simp [intOf]; omega
    · obtain rfl : k = n := by omega
      have HR := Lib.hid (HT.out k rfl hall.out)
      go_wp2
      go_ret
      exact ⟨of_bool HR.out.symm, hw1.out⟩

end Go.Proofs.YtleihhkacmgofabGreatDoor

/- Contract of Big. -/
namespace Go.Proofs.YtleihhkacmgofabGreatDoor
open Go.RowKit

def vaBig (v : Va) : Bool := decide (100 < v.text.size)
def sgBig (s : Sg) : Bool := decide (20 < s.vals.length) || decide (100 < s.code.size) || s.vals.any vaBig
def bigB (l : List Sg) : Bool := decide (210 < l.length) || l.any sgBig
theorem sgBig_of {s : Sg} (h1 : s.vals.length ≤ 20) (h2 : s.code.size ≤ 100) : sgBig s = s.vals.any vaBig := by
  simp [sgBig, Nat.not_lt.2 h1, Nat.not_lt.2 h2]

set_option maxHeartbeats 1600000 in
theorem big_any (l : Lm) (w : World) (hl : LmOk w l) :
    Calls Tryz.prog 15 #[l.val] w fun e w' => e = .returned (.bool (bigB l.signs)) ∧ Below w.heap.size w w' := by
  have hs := hl.signs
  obtain ⟨per, ms, A, cap⟩ := l
  obtain ⟨-, hlen, hcap⟩ := hl
  dsimp only at hs hlen hcap
  unfold Lm.val Lm.signs
  dsimp only
  obtain ⟨n, hn⟩ : ∃ n, n = ms.length := ⟨_, rfl⟩
  rw [← hn] at hlen ⊢
  have hcap' := hcap
  unfold maxLen at hcap'
  have HN := Lib.hid hn
  have HNL := Lib.hid (show (ms.map (·.s)).length = n by rw [List.length_map]; exact hn.symm)
  clear hn
  by_cases h1 : n ≤ 210
  case neg =>
    have hf := Lib.hid (show bigB (ms.map (·.s)) = true by simp [bigB, HNL.out]; exact .inl (by have := HN.out; omega))
    go_enter Tryz.func15, Tryz.ntmps15
    go_wp2
    go_ret
    exact ⟨of_bool hf.out.symm, below_alloc _ _⟩
  have HF := Lib.hid (show bigB (ms.map (·.s)) = (ms.map (·.s)).any sgBig by unfold bigB; rw [HNL.out]; simp [Nat.not_lt.2 h1])
  go_enter Tryz.func15, Tryz.ntmps15
  go_wp2
  have HWb := Lib.hid (below_alloc w (.cells #[.int .i64 per, .slice A n cap] 24))
  go_loop [3] (fun i => ∃ k : Nat, k ≤ n ∧ i = .int .i64 k ∧ Hid (((ms.map (·.s)).take k).any sgBig = false)) (fun i => n - (intOf i).toNat)
  case atStart => exact ⟨0, Nat.zero_le _, rfl, Lib.hid (by simp)⟩
  case round =>
    obtain ⟨k, hk, rfl, hno⟩ := hrel
    by_cases hlt : k < n
    · have hget : ms[k]? = some (ms[k]'(by have := HN.out; omega)) := List.getElem?_eq_getElem _
      obtain ⟨u, hu⟩ : ∃ u, u = ms[k]'(by have := HN.out; omega) := ⟨_, rfl⟩
      rw [← hu] at hget
      obtain ⟨b, o, hA, hb1, hva, hok⟩ := hs k u hget
      subst hA
      obtain ⟨y0, y1, y2, y3, y4⟩ := hva.below HWb.out hb1
      have GET := Lib.hid (show (ms.map (·.s))[k]? = some u.s by rw [List.getElem?_map, hget]; rfl)
      obtain ⟨hvs, hvl, hvc, hcode⟩ := hok
      obtain ⟨⟨code, wide, high, even, vs⟩, A', cap'⟩ := u
      dsimp only at y0 y1 y2 y3 y4 hvs hvl hvc hcode GET
      obtain ⟨m, hm⟩ : ∃ m, m = vs.length := ⟨_, rfl⟩
      rw [← hm] at hvl y4
      have HM := Lib.hid hm
      unfold maxLen at hvc hcode
      have hsb : b < w.heap.size + 1 := by omega
      clear hu hget hva hs hm
      by_cases h20 : m ≤ 20
      case neg =>
        have hfin := Lib.hid (any_true sgBig _ k _ GET.out (by simp [sgBig]; exact .inl (.inl (by have := HM.out; omega))))
        go_wp2
        go_ret
        exact ⟨of_bool (by rw [HF.out, hfin.out]), HWb.out⟩
      by_cases h100 : code.size ≤ 100
      case neg =>
        have hfin := Lib.hid (any_true sgBig _ k _ GET.out (by simp [sgBig]; exact .inl (.inr (by omega))))
        go_wp2
        go_ret
        exact ⟨of_bool (by rw [HF.out, hfin.out]), HWb.out⟩
      have HS := Lib.hid (sgBig_of (s := ⟨code, wide, high, even, vs⟩) (by have := HM.out; dsimp only; omega) (by dsimp only; omega))
      go_wp2
      go_loop [4] (fun i => ∃ j : Nat, j ≤ m ∧ i = .int .i64 j ∧ Hid ((vs.take j).any vaBig = false)) (fun i => m - (intOf i).toNat)
      case atStart => exact ⟨0, Nat.zero_le _, rfl, Lib.hid (by simp)⟩
      case round =>
        obtain ⟨j, hj, rfl, hno2⟩ := hrel
        by_cases hlt2 : j < m
        · have hget : vs[j]? = some (vs[j]'(by have := HM.out; omega)) := List.getElem?_eq_getElem _
          obtain ⟨x, hx⟩ : ∃ x, x = vs[j]'(by have := HM.out; omega) := ⟨_, rfl⟩
          rw [← hx] at hget
          obtain ⟨b2, o2, hA2, hb2, hva2⟩ := hvs j x hget
          subst hA2
          obtain ⟨z0, z1, z2, z3, zsz⟩ := hva2.below HWb.out hb2
          have GET2 := Lib.hid hget
          unfold maxLen at zsz
          have hsb2 : b2 < w.heap.size + 1 := by omega
          clear hx hget hva2 hvs
          by_cases ht : x.text.size ≤ 100
          case neg =>
            have hfin := Lib.hid (any_true sgBig _ k _ GET.out (by rw [HS.out]; exact any_true vaBig _ j x GET2.out (by simp [vaBig]; omega)))
            go_wp2
            go_ret
            exact ⟨of_bool (by rw [HF.out, hfin.out]), HWb.out⟩
          have hst := Lib.hid (any_step vaBig _ j x GET2.out hno2.out (by simp [vaBig]; omega))
          go_wp2
          go_round
          case rel => exact ⟨j + 1, by omega, by go_num, hst⟩
          case measure => simp [intOf]; omega
        · obtain rfl : j = m := by omega
          have hst := Lib.hid (any_step sgBig _ k _ GET.out hno.out (by rw [HS.out]; have := hno2.out; rw [HM.out, List.take_length] at this; exact this))
          go_wp2
          go_round
          case rel => exact ⟨k + 1, by omega, by go_num, hst⟩
          case measure => simp [intOf]; omega
    · obtain rfl : k = n := by omega
      have hfin := Lib.hid (show (ms.map (·.s)).any sgBig = false by have := hno.out; rw [← HNL.out, List.take_length] at this; exact this)
      go_wp2
      go_ret
      exact ⟨of_bool (by rw [HF.out, hfin.out]), HWb.out⟩
theorem big_is (l : Lm) (w : World) (hl : LmOk w l) (r : Bool) (h : bigB l.signs = r) :
    Calls Tryz.prog 15 #[l.val] w fun e w' => e = .returned (.bool r) ∧ Below w.heap.size w w' := by
  rw [← h]; exact big_any l w hl
theorem not_big {l : Lm} (h : bigB l.signs = false) : l.ms.length ≤ 210 ∧ ∀ m ∈ l.ms, m.s.vals.length ≤ 20 ∧ m.s.code.size ≤ 100 ∧ ∀ v ∈ m.s.vals, v.text.size ≤ 100 := by
  simp only [bigB, Bool.or_eq_false_iff, decide_eq_false_iff_not] at h
  rw [Lm.length_signs] at h
  refine ⟨by omega, fun m hm => ?_⟩
  have h2 := List.any_eq_false.1 h.2 m.s (List.mem_map.2 ⟨m, hm, rfl⟩)
  simp [sgBig, vaBig] at h2
  refine ⟨by omega, by omega, fun v hv => ?_⟩
  have := h2.2 v hv
  omega

end Go.Proofs.YtleihhkacmgofabGreatDoor

/- The map by which Find and Merge go: the number of each code. -/
namespace Go.Proofs.YtleihhkacmgofabGreatDoor
open Go.RowKit Go.Maps Go.WideMaps

/-- the last place of a code -/
def lastF (c : ByteArray) : Nat → Int → List Sg → Int
  | _, a, [] => a
  | i, a, s :: r => lastF c (i + 1) (if strEq s.code c then (i : Int) else a) r
theorem lastF_snoc (c : ByteArray) (s : Sg) : ∀ (l : List Sg) (i : Nat) (a : Int), lastF c i a (l ++ [s]) = if strEq s.code c then ((i + l.length : Nat) : Int) else lastF c i a l
  | [], i, a => by simp [lastF]
  | x :: l, i, a => by
    rw [List.cons_append, lastF, lastF_snoc c s l (i + 1), lastF, List.length_cons, show i + 1 + l.length = i + (l.length + 1) by omega]
theorem lastF_no (c : ByteArray) : ∀ (l : List Sg) (i : Nat) (a : Int), l.any (fun s => strEq s.code c) = false → lastF c i a l = a
  | [], _, _, _ => rfl
  | x :: l, i, a, h => by
    simp only [List.any_cons, Bool.or_eq_false_iff] at h
    rw [lastF, h.1, lastF_no c l (i + 1) _ h.2]; rfl
theorem strEq_trans {a b c : ByteArray} (h1 : strEq a c = true) (h2 : strEq b c = true) : strEq b a = true := by
  unfold strEq at *
  simp at *
  rw [h1, h2]
/-- in a list whose signs are without error the last place of a code is the first -/
theorem last_first (p : Int) (c : ByteArray) : ∀ (r done : List Sg), signsErr p done r = 0 → ∀ (i : Nat) (a : Int), r.any (fun s => strEq s.code c) = true →
    ∃ k, k < r.length ∧ lastF c i a r = (i + k : Nat) ∧ r.findIdx? (fun s => strEq s.code c) = some k
  | [], _, _, _, _, h => by simp at h
  | s :: r, done, h, i, a, ha => by
    unfold signsErr at h
    split at h
    · exact absurd h (by decide)
    · rename_i hok
      split at h
      · by_cases hs : strEq s.code c = true
        · refine ⟨0, by simp, ?_, by simp [List.findIdx?_cons, hs]⟩
          have hno : r.any (fun t => strEq t.code c) = false := by
            cases hr : r.any (fun t => strEq t.code c) with
            | false => rfl
            | true =>
              exfalso
              obtain ⟨t, ht, htc⟩ := List.any_eq_true.1 hr
              exact no_twice p t s (strEq_trans htc hs) r (done ++ [s]) h ht (by simp)
          rw [lastF, lastF_no c r _ _ hno, if_pos hs]; rfl
        · have hs : strEq s.code c = false := by simpa using hs
          rw [List.any_cons, hs, Bool.false_or] at ha
          obtain ⟨k, hk, h1, h2⟩ := last_first p c r (done ++ [s]) h (i + 1) (if strEq s.code c then (i : Int) else a) ha
          refine ⟨k + 1, by simpa using hk, ?_, by simp [List.findIdx?_cons, hs, h2]⟩
          rw [lastF, h1]; congr 1; omega
      · exact absurd h (by assumption)
where
  no_twice (p : Int) (t s : Sg) (hts : strEq s.code t.code = true) : ∀ (r done : List Sg), signsErr p done r = 0 → t ∈ r → s ∈ done → False
  | [], _, _, ht, _ => by simp at ht
  | x :: r, done, h, ht, hs => by
    unfold signsErr at h
    split at h
    · exact absurd h (by decide)
    · rename_i hok
      split at h
      · rcases List.mem_cons.1 ht with e | ht
        · subst e
          have : done.any (fun d => strEq d.code t.code) = true := List.any_eq_true.2 ⟨s, hs, hts⟩
          rw [this] at hok
          simp at hok
        · exact no_twice p t s hts r (done ++ [x]) h ht (by simp [hs])
      · exact absurd h (by assumption)

theorem zeroInt (w : World) : (zeroValue 3).run Tryz.prog w = .ok (.int .i64 0) w := by kernel_rfl
theorem mkNum (n : Int) (w : World) : (Instr.makeMap 51 (some (.int .i64 n))).run Tryz.prog w = .ok (.map (some w.heap.size)) (w.alloc (.map #[] 0)) := by
  simp [Instr.makeMap, run_underlying Tryz.underlying51, go_sem]

/-- block b holds the numbers of the codes of ss -/
def NumAt (w : World) (b k : Nat) (ss : List Sg) : Prop :=
  ∃ D : DataW Unit, w.ownsMap Tryz.prog 9 (plainElem Tryz.prog 3) b k D ∧ ∀ c : ByteArray, D.atKey (.string c.data.toList) (.lit (.int .i64 0)) = .lit (.int .i64 (lastF c 0 0 ss)) ∧ Maps.has D (.string c.data.toList) = ss.any (fun s => strEq s.code c)
theorem NumAt.new (w : World) : NumAt (w.alloc (.map #[] 0)) w.heap.size 0 [] :=
  ⟨_, World.ownsMap_made w _ _ _, fun c => ⟨by simp [DataW.atKey, lastF], by rfl⟩⟩
theorem NumAt.alloc {w : World} {b k : Nat} {ss : List Sg} (h : NumAt w b k ss) (o : Obj) : NumAt (w.alloc o) b k ss := by
  obtain ⟨D, h1, h2⟩ := h
  exact ⟨D, h1.alloc o, h2⟩
theorem NumAt.look {w : World} {b k : Nat} {ss : List Sg} (h : NumAt w b k ss) {c : ByteArray} (hc : c.size ≤ maxLen) :
    (Instr.lookup 51 (.map (some b)) (.string c) true).run Tryz.prog w = .ok (.tuple #[.int .i64 (lastF c 0 0 ss), .bool (ss.any fun s => strEq s.code c)]) w := by
  obtain ⟨D, h1, h2⟩ := h
  obtain ⟨v, ps, hrun, hv⟩ := h1.look_ok keyedS Tryz.underlying51 (zeroInt w) (plainElem_int Tryz.underlying3 (a := 0) (by decide)) (keyOf_string_mk Tryz.underlying9 hc)
  rw [(h2 c).1] at hv
  obtain ⟨r, rfl, hz, _⟩ := plainElem_int_inv Tryz.underlying3 hv
  simp only [Prod.mk.injEq, DataW.lit.injEq, Lit.int.injEq, true_and] at hz
  rw [hrun, (h2 c).2, hz.1]
theorem NumAt.put {w : World} {b k : Nat} {ss : List Sg} (h : NumAt w b k ss) {s : Sg} (hc : s.code.size ≤ maxLen) (hk : k < maxLen) (hl : ss.length ≤ 1000000) :
    ∃ w', (Instr.mapUpdate 51 (.map (some b)) (.string s.code) (.int .i64 (ss.length : Int))).run Tryz.prog w = .ok () w' ∧ NumAt w' b (k + 1) (ss ++ [s]) ∧ w.grownBy w' (some b) := by
  obtain ⟨D, h1, h2⟩ := h
  have hwf : (Lit.int .i64 (ss.length : Int)).wf = true := by
    have h1 : IntKind.i64.min = -9223372036854775808 := by decide
    have h2 : IntKind.i64.max = 9223372036854775807 := by decide
    simp [Lit.wf, h1, h2]; omega
  obtain ⟨w', hrun, hown, hg⟩ := h1.update keyedS Tryz.underlying51 hk (keyOf_string_mk Tryz.underlying9 hc) (plainElem_int Tryz.underlying3 hwf)
  refine ⟨w', hrun, ⟨_, hown, fun c => ?_⟩, hg⟩
  by_cases hcs : c.data.toList = s.code.data.toList
  · have hse : strEq s.code c = true := by rw [strEq_iff]; simp [hcs]
    rw [hcs, atKey_put_same h1.isMap (keyedS.key (keyOf_string_mk Tryz.underlying9 hc)), has_put_same h1.isMap (keyedS.key (keyOf_string_mk Tryz.underlying9 hc))]
    exact ⟨by rw [lastF_snoc, hse]; simp, by simp [hse]⟩
  · have hne : Lit.string c.data.toList ≠ Lit.string s.code.data.toList := by intro e; injection e with e; exact hcs e
    have hse : strEq s.code c = false := by rw [strEq_iff]; simpa using fun e => hcs (by rw [e])
    rw [atKey_put_other hne, has_put_other hne, (h2 c).1, (h2 c).2]
    exact ⟨by rw [lastF_snoc, hse]; simp, by simp [hse]⟩

set_option maxHeartbeats 1600000 in
theorem numbers_any (l : Lm) (w : World) (hl : LmOk w l) (hsm : l.ms.length ≤ 1000000) :
    Calls Tryz.prog 22 #[.slice l.A l.ms.length l.cap] w fun e w' => ∃ b, e = .returned (.map (some b)) ∧ NumAt w' b l.ms.length l.signs ∧ Below w.heap.size w w' := by
  have hs := hl.signs
  obtain ⟨per, ms, A, cap⟩ := l
  obtain ⟨-, hlen, hcap⟩ := hl
  dsimp only at hs hlen hcap hsm
  unfold Lm.signs
  dsimp only
  obtain ⟨n, hn⟩ : ∃ n, n = ms.length := ⟨_, rfl⟩
  rw [← hn] at hlen hsm ⊢
  have hcap' := hcap
  unfold maxLen at hcap'
  have HN := Lib.hid hn
  clear hn
  have hmk := fun (n : Int) (w : World) => mkNum n w
  go_enter Tryz.func22, Tryz.ntmps22
  go_wp2
  clear hmk
  go_loopw [11] (fun i wr => ∃ k : Nat, k ≤ n ∧ i = .int .i64 k ∧ Hid (Below w.heap.size w wr) ∧ Hid (w.heap.size < wr.heap.size) ∧ Hid (NumAt wr w.heap.size k ((ms.map (·.s)).take k))) (fun i _ => n - (intOf i).toNat)
  case atStart => exact ⟨0, Nat.zero_le _, rfl, Lib.hid (below_alloc _ _), Lib.hid (by simp), Lib.hid (by simpa using NumAt.new w)⟩
  case round =>
    obtain ⟨k, hk, rfl, hb, hsz, hnum⟩ := hrel
    by_cases hlt : k < n
    · have hget : ms[k]? = some (ms[k]'(by have := HN.out; omega)) := List.getElem?_eq_getElem _
      obtain ⟨u, hu⟩ : ∃ u, u = ms[k]'(by have := HN.out; omega) := ⟨_, rfl⟩
      rw [← hu] at hget
      obtain ⟨b, o, hA, hb1, hva, hok⟩ := hs k u hget
      subst hA
      obtain ⟨y0, y1, y2, y3, y4⟩ := hva.below hb.out hb1
      have GET := Lib.hid (show (ms.map (·.s))[k]? = some u.s by rw [List.getElem?_map, hget]; rfl)
      have hsb : b < wr.heap.size := by have := hb.out.size; omega
      have hsnd := Lib.hid (show ((ms.map (·.s)).take k) ++ [u.s] = (ms.map (·.s)).take (k + 1) by
        obtain ⟨hk', e⟩ := List.getElem?_eq_some_iff.1 GET.out
        rw [List.take_succ_eq_append_getElem hk', e])
      have htl : ((ms.map (·.s)).take k).length = k := by rw [List.length_take, List.length_map]; have := HN.out; omega
      obtain ⟨box, hbox⟩ : ∃ box, box = Obj.cells #[.string u.s.code, .int .i64 u.s.wide, .int .i64 u.s.high, .bool u.s.even, .slice u.A u.s.vals.length u.cap] 38 := ⟨_, rfl⟩
      obtain ⟨w1, hput, hnum1, hgrow⟩ := (hnum.out.alloc box).put (s := u.s) hok.code (by unfold maxLen; omega) (by omega)
      rw [htl] at hput
      have hb2 := Lib.hid (show Below w.heap.size w w1 from (hb.out.alloc (Nat.le_of_lt hsz.out) box).grown hgrow (by have := hsz.out; simp; omega) (by intro g hg; injection hg with hg; omega))
      have hs1 := Lib.hid (show w.heap.size < w1.heap.size by have h1 := hgrow.size; have := hsz.out; simp at h1; omega)
      have HNUM := Lib.hid hnum1
      subst hbox
      clear hu hget hva hok hs hnum1 hgrow htl
      go_wp2
      go_roundw
      case rel => exact ⟨k + 1, by omega, by go_num, hb2, hs1, Lib.hid (by rw [← hsnd.out]; exact HNUM.out)⟩
      case measure => simp [intOf]; omega
    · obtain rfl : k = n := by omega
      have hT := Lib.hid (show (ms.map (·.s)).take k = ms.map (·.s) by rw [HN.out, ← List.length_map (f := (·.s)), List.take_length])
      go_wp2
      go_ret
      exact ⟨_, rfl, by rw [← hT.out]; exact hnum.out, hb.out⟩

theorem signs_ok {l : Li} (h : checkErr l = 0) : signsErr l.per [] l.signs = 0 := by
  unfold checkErr at h
  split at h
  · exact absurd h (by decide)
  · split at h
    · exact absurd h (by decide)
    · exact h
theorem find_last {l : Li} (h : checkErr l = 0) (c : ByteArray) :
    (l.signs.any (fun s => strEq s.code c) = true ∧ indexI l.signs c = lastF c 0 0 l.signs ∧ 0 ≤ indexI l.signs c) ∨ (l.signs.any (fun s => strEq s.code c) = false ∧ indexI l.signs c = -1) := by
  cases ha : l.signs.any (fun s => strEq s.code c) with
  | false => exact .inr ⟨rfl, indexI_none _ _ ha⟩
  | true =>
    obtain ⟨k, _, h1, h2⟩ := last_first l.per c l.signs [] (signs_ok h) 0 0 ha
    refine .inl ⟨rfl, ?_, ?_⟩
    · rw [h1]; simp [indexI, h2]
    · simp [indexI, h2]

end Go.Proofs.YtleihhkacmgofabGreatDoor

/- Contract of sameShape. -/
namespace Go.Proofs.YtleihhkacmgofabGreatDoor
open Go.RowKit

theorem shape_is (m m2 : Sm) (w : World) (r : Bool) (h : shapeEq m.s m2.s = r) :
    Calls Tryz.prog 23 #[m.val, m2.val] w fun e w' => e = .returned (.bool r) ∧ Below w.heap.size w w' := by
  rw [← h]
  obtain ⟨⟨code, wide, high, even, vs⟩, A, cap⟩ := m
  obtain ⟨⟨code2, wide2, high2, even2, vs2⟩, A2, cap2⟩ := m2
  unfold Sm.val shapeEq
  dsimp only
  go_enter Tryz.func23, Tryz.ntmps23
  go_wp2
  all_goals go_ret
  all_goals refine ⟨?_, ((Below.refl _ _).alloc (Nat.le_refl _) _).alloc (by simp) _⟩
  all_goals simp [*]

end Go.Proofs.YtleihhkacmgofabGreatDoor

/- Contract of the specification's Find. -/
namespace Go.Proofs.YtleihhkacmgofabGreatDoor
open Go.RowKit Go.Maps Go.WideMaps

/-- Find -/
def findR (l : Li) (c : ByteArray) : Int × Int := if checkErr l ≠ 0 then (0, checkErr l) else if indexI l.signs c < 0 then (0, 3) else (indexI l.signs c, 0)
theorem ret_ii {a b : Int} {p : Int × Int} (h : (a, b) = p) : Ending.returned (.tuple #[.int .i64 a, .int .i64 b]) = .returned (.tuple #[.int .i64 p.1, .int .i64 p.2]) := by rw [← h]

set_option maxHeartbeats 1600000 in
theorem rfind_any (l : Lm) (c : ByteArray) (w : World) (hl : LmOk w l) :
    Calls Tryz.prog 11 #[l.val, .string c] w fun e w' => e = .returned (.tuple #[.int .i64 (findR l.li c).1, .int .i64 (findR l.li c).2]) ∧ Below w.heap.size w w' := by
  have H0 := Lib.hid (show LmOk (w.alloc (.cells #[.int .i64 l.per, .slice l.A l.ms.length l.cap] 24)) l from hl.below (below_alloc _ _))
  have C0 := Lib.hid (heap_alloc_new w (.cells #[.int .i64 l.per, .slice l.A l.ms.length l.cap] 24))
  have HCK := Lib.hid (fun (w : World) (hl : LmOk w l) (r : Int) (h : checkErr l.li = r) => show Calls Tryz.prog 5 #[.agg #[.int .i64 l.per, .slice l.A l.ms.length l.cap]] w (fun e w' => e = .returned (.int .i64 r) ∧ Below w.heap.size w w') by rw [← h]; exact rcheck_any l w hl)
  have HIX := Lib.hid (fun (w : World) (hl : LmOk w l) (r : Int) (h : indexI l.signs c = r) => show Calls Tryz.prog 17 #[.agg #[.int .i64 l.per, .slice l.A l.ms.length l.cap], .string c] w (fun e w' => e = .returned (.int .i64 r) ∧ Below w.heap.size w w') by rw [← h]; exact index_any l c w hl)
  clear hl
  show Calls _ _ #[.agg #[.int .i64 l.per, .slice l.A l.ms.length l.cap], .string c] w _
  obtain ⟨E, hE⟩ : ∃ E, E = checkErr l.li := ⟨_, rfl⟩
  have HE := Lib.hid hE.symm
  by_cases h0 : E = 0
  case neg =>
    have hb : (E != 0) = true := by simpa using h0
    have HF := Lib.hid (show findR l.li c = (0, E) by unfold findR; rw [HE.out, if_pos h0])
    clear hE h0
    go_enter Tryz.func11, Tryz.ntmps11
    go_wp2_with fail
    refine (HCK.out _ H0.out E HE.out).mono ?_; rintro e w1 ⟨rfl, hb1⟩
    go_wp2
    go_ret2
    exact ⟨ret_ii HF.out.symm, below_of hb1⟩
  subst h0
  clear hE
  obtain ⟨I, hI⟩ : ∃ I, indexI l.signs c = I := ⟨_, rfl⟩
  have HI := Lib.hid hI
  have HG := Lib.hid (show findR l.li c = if I < 0 then (0, 3) else (I, 0) by unfold findR; rw [HE.out, show l.li.signs = l.signs from rfl, hI]; rfl)
  clear hI
  by_cases hneg : I < 0
  · have HF := Lib.hid (show findR l.li c = (0, 3) by rw [HG.out, if_pos hneg])
    go_enter Tryz.func11, Tryz.ntmps11
    go_wp2_with fail
    refine (HCK.out _ H0.out 0 HE.out).mono ?_; rintro e w1 ⟨rfl, hb1⟩
    have x0 := cell_of_blk (blk_keep hb1 C0.out) 0
    have x1 := cell_of_blk (blk_keep hb1 C0.out) 1
    simp at x0 x1
    have L1 := Lib.hid (H0.out.below hb1)
    have b1 := Lib.hid (below_of hb1)
    clear hb1
    go_wp2_with fail
    refine (HIX.out _ L1.out I HI.out).mono ?_; rintro e w2 ⟨rfl, hb2⟩
    go_wp2
    go_ret2
    exact ⟨ret_ii HF.out.symm, below_more b1.out hb2⟩
  · have HF := Lib.hid (show findR l.li c = (I, 0) by rw [HG.out, if_neg hneg])
    go_enter Tryz.func11, Tryz.ntmps11
    go_wp2_with fail
    refine (HCK.out _ H0.out 0 HE.out).mono ?_; rintro e w1 ⟨rfl, hb1⟩
    have x0 := cell_of_blk (blk_keep hb1 C0.out) 0
    have x1 := cell_of_blk (blk_keep hb1 C0.out) 1
    simp at x0 x1
    have L1 := Lib.hid (H0.out.below hb1)
    have b1 := Lib.hid (below_of hb1)
    clear hb1
    go_wp2_with fail
    refine (HIX.out _ L1.out I HI.out).mono ?_; rintro e w2 ⟨rfl, hb2⟩
    go_wp2
    go_ret2
    exact ⟨ret_ii HF.out.symm, below_more b1.out hb2⟩

end Go.Proofs.YtleihhkacmgofabGreatDoor

/- The first value with the kind and the text of another one, as a list (find). -/
namespace Go.Proofs.YtleihhkacmgofabGreatDoor
open Go.RowKit

theorem take_stepF {α : Type} (l : List α) (k : Nat) (x : α) (h : l[k]? = some x) : l.take (k + 1) = l.take k ++ [x] := by
  obtain ⟨hk, e⟩ := List.getElem?_eq_some_iff.1 h
  rw [List.take_succ_eq_append_getElem hk, e]
/-- where find looks -/
def findI (vs : List Va) (v : Va) : Option Nat := vs.findIdx? (fun x => meq x v)
theorem findI_at {vs : List Va} {v : Va} {k : Nat} {x : Va} (h : vs[k]? = some x) (hx : meq x v = true) (hno : (vs.take k).any (fun x => meq x v) = false) : findI vs v = some k := by
  unfold findI
  rw [List.findIdx?_eq_some_iff_getElem]
  obtain ⟨hk, rfl⟩ := List.getElem?_eq_some_iff.1 h
  refine ⟨hk, hx, fun j hj => ?_⟩
  have := List.any_eq_false.1 hno (vs[j]'(by omega)) (List.mem_take_iff_getElem.2 ⟨j, by omega, rfl⟩)
  simpa using this
theorem findI_none {vs : List Va} {v : Va} (hno : vs.any (fun x => meq x v) = false) : findI vs v = none := by
  unfold findI
  rw [List.findIdx?_eq_none_iff]
  intro x hx
  simpa using List.any_eq_false.1 hno x hx
theorem findI_some {vs : List Va} {v : Va} (h : vs.any (fun x => meq x v) = true) : ∃ i x, findI vs v = some i ∧ vs[i]? = some x ∧ meq x v = true := by
  unfold findI
  obtain ⟨x, hx, hm⟩ := List.any_eq_true.1 h
  cases hf : vs.findIdx? (fun x => meq x v) with
  | none => rw [List.findIdx?_eq_none_iff] at hf; have := hf x hx; simp [hm] at this
  | some i =>
    rw [List.findIdx?_eq_some_iff_getElem] at hf
    obtain ⟨hi, h1, _⟩ := hf
    exact ⟨i, vs[i], rfl, List.getElem?_eq_getElem hi, h1⟩
def findV (A : Option Addr) (c : Nat) (vs : List Va) (v : Va) : Value := match findI vs v with
  | some i => .slice (A.map fun a => ⟨a.block, a.off + i * 4, none⟩) 1 (c - i)
  | none => .slice none 0 0

theorem ValsAt.sub {w : World} {b o : Nat} {vs : List Va} (h : ValsAt w (some ⟨b, o, none⟩) vs) {k : Nat} {v : Va} (hk : vs[k]? = some v) : ValsAt w (some ⟨b, o + k * 4, none⟩) [v] := fun j x hj => by
  have hj0 : j = 0 := by have := (List.getElem?_eq_some_iff.1 hj).1; simpa using this
  subst hj0
  simp at hj
  subst hj
  obtain ⟨b', o', e, hlt, hv⟩ := h k v hk
  injection e with e
  injection e with e1 e2
  subst e1 e2
  exact ⟨b, _, rfl, hlt, by simpa using hv⟩

set_option maxHeartbeats 1600000 in
set_option maxRecDepth 100000 in
theorem find_any (A : Option Addr) (c : Nat) (vs : List Va) (v : Va) (w : World) (hvs : ValsAt w A vs) (hl : vs.length ≤ c) (hc : c ≤ maxLen) :
    Calls Tryz.prog 14 #[.slice A vs.length c, v.val] w fun e w' => e = .returned (findV A c vs v) ∧ Below w.heap.size w w' := by
  have HVS := Lib.hid hvs
  clear hvs
  unfold Va.val
  unfold maxLen at hc
  obtain ⟨n, hn⟩ : ∃ n, n = vs.length := ⟨_, rfl⟩
  rw [← hn] at hl ⊢
  have HN := Lib.hid hn
  clear hn
  go_enter Tryz.func14, Tryz.ntmps14
  go_wp2
  have HWb := Lib.hid (below_alloc w (.cells #[.int .i64 v.kind, .string v.text, .int .i64 v.fr, .int .i64 v.to] 43))
  have HB0 := Lib.hid (heap_alloc_new w (.cells #[.int .i64 v.kind, .string v.text, .int .i64 v.fr, .int .i64 v.to] 43))
  generalize w.alloc (.cells #[.int .i64 v.kind, .string v.text, .int .i64 v.fr, .int .i64 v.to] 43) = W at HWb HB0 ⊢
  go_loopw [5] (fun i wr => ∃ k : Nat, k ≤ n ∧ i = .int .i64 k ∧ Hid (Below W.heap.size W wr) ∧ Hid ((vs.take k).any (fun x => meq x v) = false)) (fun i _ => n - (intOf i).toNat)
  case atStart => exact ⟨0, Nat.zero_le _, rfl, Lib.hid (Below.refl _ _), Lib.hid (by simp)⟩
  case round =>
    obtain ⟨k, hk, rfl, hb, hno⟩ := hrel
    have HWr := Lib.hid (below_more HWb.out hb.out)
    have x0 := cell_of_blk (blk_keep hb.out HB0.out) 0
    have x1 := cell_of_blk (blk_keep hb.out HB0.out) 1
    simp at x0 x1
    have hs0 : w.heap.size < wr.heap.size := (Array.getElem?_eq_some_iff.1 (blk_keep hb.out HB0.out)).1
    by_cases hlt : k < n
    · have hget : vs[k]? = some (vs[k]'(by have := HN.out; omega)) := List.getElem?_eq_getElem _
      obtain ⟨x, hx⟩ : ∃ x, x = vs[k]'(by have := HN.out; omega) := ⟨_, rfl⟩
      rw [← hx] at hget
      obtain ⟨b, o, hA, hb1, hva⟩ := HVS.out k x hget
      subst hA
      obtain ⟨y0, y1, -, -, -⟩ := hva.below HWr.out hb1
      have hsb : b < wr.heap.size := by have := HWr.out.size; omega
      have GET := Lib.hid hget
      have HSN := Lib.hid (fun (hm : meq x v = false) => show (vs.take (k + 1)).any (fun x => meq x v) = false by
        rw [take_stepF _ _ _ GET.out, List.any_append, hno.out]; simp [hm])
      clear hx hget hva hb1
      by_cases hk1 : (x.kind == v.kind) = true
      case neg =>
        have hk1 : (x.kind == v.kind) = false := by simpa using hk1
        have HM := Lib.hid (HSN.out (by unfold meq; rw [hk1]; rfl))
        go_wp2_with fail
        refine wp_region_later (by kernel_rfl) (by kernel_rfl) ?_; (repeat (first | go_big_quiet_step (fail) | quiet_step (fail))); refine wpQuiet_nil ?_; rintro _ ⟨s, rfl⟩
        have HB5 := Lib.hid (below_more hb.out s.below)
        generalize s.w = W5 at HB5 ⊢
        go_wp2_with fail
        go_roundw
        case rel => exact ⟨k + 1, by omega, by go_num, HB5, HM⟩
        case measure => simp [intOf]; omega
      by_cases hk2 : (x.text.toList == v.text.toList) = true
      case neg =>
        have hk2 : (x.text.toList == v.text.toList) = false := by simpa using hk2
        have HM := Lib.hid (HSN.out (by unfold meq strEq; rw [hk1, hk2]; rfl))
        go_wp2_with fail
        refine wp_region_later (by kernel_rfl) (by kernel_rfl) ?_; (repeat (first | go_big_quiet_step (fail) | quiet_step (fail))); refine wpQuiet_nil ?_; rintro _ ⟨s, rfl⟩
        have HB5 := Lib.hid (below_more hb.out s.below)
        generalize s.w = W5 at HB5 ⊢
        go_wp2_with fail
        go_roundw
        case rel => exact ⟨k + 1, by omega, by go_num, HB5, HM⟩
        case measure => simp [intOf]; omega
      have HF := Lib.hid (show findV (some ⟨b, o, none⟩) c vs v = .slice (some ⟨b, o + k * 4, none⟩) 1 (c - k) by
        unfold findV
        rw [findI_at GET.out (by unfold meq strEq; rw [hk1, hk2]; rfl) hno.out]; rfl)
      have hck : (c = k) = False := eq_false (by omega)
      have hs1 : IntKind.i64.wrap ((k : Int) + 1) = (k : Int) + 1 := IntWalk.i64_in _ (by omega)
      go_wp2_with fail
      refine wp_region_later (by kernel_rfl) (by kernel_rfl) ?_; (repeat (first | go_big_quiet_step (fail) | quiet_step (fail))); refine wpQuiet_nil ?_; rintro _ ⟨s, rfl⟩
      have HB5 := Lib.hid (below_more HWr.out s.below)
      generalize s.w = W5 at HB5 ⊢
      go_wp2_with fail
      go_ret
      refine ⟨?_, HB5.out⟩
      rw [HF.out]; rfl
    · obtain rfl : k = n := by omega
      have HF := Lib.hid (show findV A c vs v = .slice none 0 0 by
        unfold findV
        rw [findI_none (by have := hno.out; rw [HN.out, List.take_length] at this; exact this)])
      go_wp2_with fail
      go_ret
      exact ⟨by rw [HF.out]; rfl, HWr.out⟩

end Go.Proofs.YtleihhkacmgofabGreatDoor
