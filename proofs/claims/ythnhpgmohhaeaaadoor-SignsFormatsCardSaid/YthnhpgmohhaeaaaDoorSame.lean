/-
  Contract of the specification's Same, of two lists that are equal.
-/
import Derived.Test.YthnhpgmohhaeaaaDoorRsz
import Derived.Deep.RegionHeld3
import Derived.Deep.DeepCutAuto
namespace Go.Proofs.YthnhpgmohhaeaaaDoor
open Go.RowKit

theorem two_below (w : World) (o1 o2 : Obj) : Below w.heap.size w ((w.alloc o1).alloc o2).drew := (((Below.refl _ _).alloc (Nat.le_refl _) o1).alloc (by simp) o2).drew
theorem two_first (w : World) (o1 o2 : Obj) : ((w.alloc o1).alloc o2).drew.heap[w.heap.size]? = some o1 := by
  show ((w.alloc o1).alloc o2).heap[w.heap.size]? = some o1
  rw [heap_alloc_other _ _ _ (by simp)]; exact heap_alloc_new _ _
theorem two_second (w : World) (o1 o2 : Obj) : ((w.alloc o1).alloc o2).drew.heap[w.heap.size + 1]? = some o2 := by
  show ((w.alloc o1).alloc o2).heap[w.heap.size + 1]? = some o2
  have := heap_alloc_new (w.alloc o1) o2
  simpa using this

set_option maxHeartbeats 3200000 in
set_option maxRecDepth 100000 in
theorem same_eq (l l2 : Lm) (w : World) (hl : LmOk w l) (hl2 : LmOk w l2) (heq : l2.li = l.li) (hvm : ∀ m ∈ l.ms, m.s.vals.length ≤ 1000000) :
    Calls Tryd.prog 19 #[l2.val, l.val] w fun e w' => e = .returned (.bool true) ∧ Below w.heap.size w w' := by
  have hs := hl.signs
  have hs2 := hl2.signs
  have hlen := hl.len
  have hlen2 := hl2.len
  have hcap := hl.cap
  have hcap2 := hl2.cap
  unfold maxLen at hcap hcap2
  have hper : l2.per = l.per := congrArg (fun l : Li => l.per) heq
  have hsg : l2.ms.map (·.s) = l.ms.map (·.s) := congrArg (fun l : Li => l.signs) heq
  obtain ⟨per, ms, A, cap⟩ := l
  obtain ⟨per2, ms2, A2, cap2⟩ := l2
  dsimp only at hs hs2 hlen hlen2 hcap hcap2 hper hsg hvm
  subst hper
  have hln : ms2.length = ms.length := by have := congrArg List.length hsg; simpa using this
  unfold Lm.val
  dsimp only
  rw [hln] at hlen2 ⊢
  obtain ⟨n, hn⟩ : ∃ n, n = ms.length := ⟨_, rfl⟩
  rw [← hn] at hlen hlen2 ⊢
  have HN := Lib.hid hn
  have HN2 := Lib.hid (hn.trans hln.symm)
  have HSG := Lib.hid hsg
  clear hn hln hsg heq hl hl2
  go_enter Tryd.func19, Tryd.ntmps19
  go_wp2
  obtain ⟨W, hW⟩ : ∃ W, W = ((w.alloc (.cells #[.int .i64 per2, .slice A2 n cap2] 24)).alloc (.cells #[.int .i64 per2, .slice A n cap] 24)) := ⟨_, rfl⟩
  rw [← hW]
  have HB := Lib.hid (show Below w.heap.size w W from hW ▸ ((Below.refl _ _).alloc (Nat.le_refl _) _).alloc (by simp) _)
  have C2 := Lib.hid (show W.heap[w.heap.size]? = some (.cells #[.int .i64 per2, .slice A2 n cap2] 24 (0, 0)) by
    rw [hW, heap_alloc_other _ _ _ (by simp)]; exact heap_alloc_new _ _)
  have C1 := Lib.hid (show W.heap[w.heap.size + 1]? = some (.cells #[.int .i64 per2, .slice A n cap] 24 (0, 0)) by
    rw [hW]; have := heap_alloc_new (w.alloc (.cells #[.int .i64 per2, .slice A2 n cap2] 24)) (.cells #[.int .i64 per2, .slice A n cap] 24); simpa using this)
  clear hW
  go_loopw [5] (fun i wr => ∃ k : Nat, k ≤ n ∧ i = .int .i64 k ∧ Hid (Below W.heap.size W wr)) (fun i _ => n - (intOf i).toNat)
  case atStart => exact ⟨0, Nat.zero_le _, rfl, Lib.hid (Below.refl _ _)⟩
  case round =>
    obtain ⟨k, hk, rfl, hb⟩ := hrel
    have hw1 := Lib.hid (HB.out.trans (hb.out.mono HB.out.size))
    have D1 := Lib.hid (blk_keep hb.out C1.out)
    have D2 := Lib.hid (blk_keep hb.out C2.out)
    have x1 := cell_of_blk D1.out 1
    have x2 := cell_of_blk D2.out 1
    simp at x1 x2
    by_cases hlt : k < n
    · have hget : ms[k]? = some (ms[k]'(by have := HN.out; omega)) := List.getElem?_eq_getElem _
      obtain ⟨u, hu⟩ : ∃ u, u = ms[k]'(by have := HN.out; omega) := ⟨_, rfl⟩
      rw [← hu] at hget
      have hget2 : ms2[k]? = some (ms2[k]'(by have := HN2.out; omega)) := List.getElem?_eq_getElem _
      obtain ⟨v, hv⟩ : ∃ v, v = ms2[k]'(by have := HN2.out; omega) := ⟨_, rfl⟩
      rw [← hv] at hget2
      have hsv : v.s = u.s := by
        have h := congrArg (·[k]?) HSG.out
        simp only [List.getElem?_map, hget, hget2, Option.map_some] at h
        injection h
      obtain ⟨b, o, hA, hb1, hva, hok⟩ := hs k u hget
      obtain ⟨b', o', hA', hb1', hva', hok'⟩ := hs2 k v hget2
      have hvl := hvm u (List.mem_of_getElem? hget)
      obtain ⟨s, Au, cu⟩ := u
      obtain ⟨s', Av, cv⟩ := v
      dsimp only at hsv hvl
      subst hsv
      subst hA hA'
      have Y := Lib.hid (hva.below hw1.out hb1)
      have Z := Lib.hid (hva'.below hw1.out hb1')
      have OU := Lib.hid (hok.below hw1.out)
      have OV := Lib.hid (hok'.below hw1.out)
      have HVL := Lib.hid hvl
      have hsb : b < wr.heap.size := by have := hw1.out.size; omega
      have hsb' : b' < wr.heap.size := by have := hw1.out.size; omega
      have hsw : w.heap.size + 1 < wr.heap.size := (Array.getElem?_eq_some_iff.1 D1.out).1
      clear hu hv hget hget2 hva hva' hok hok' hs hs2 hvm hvl
      go_wp2
      have HK := Lib.hid (fun w' (hb : Below wr.heap.size wr w') => show w'.cell? ⟨w.heap.size, 1, none⟩ = some (.slice (some ⟨b', o', none⟩) n cap2) ∧ w'.cell? ⟨w.heap.size + 1, 1, none⟩ = some (.slice (some ⟨b, o, none⟩) n cap) ∧ w'.cell? ⟨b', o' + k * 5, none⟩ = some (.string s'.code) ∧ w'.cell? ⟨b', o' + k * 5 + 1, none⟩ = some (.int .i64 s'.wide) ∧ w'.cell? ⟨b', o' + k * 5 + 2, none⟩ = some (.int .i64 s'.high) ∧ w'.cell? ⟨b', o' + k * 5 + 3, none⟩ = some (.bool s'.even) ∧ w'.cell? ⟨b', o' + k * 5 + 4, none⟩ = some (.slice Av s'.vals.length cv) ∧ w'.cell? ⟨b, o + k * 5, none⟩ = some (.string s'.code) ∧ w'.cell? ⟨b, o + k * 5 + 1, none⟩ = some (.int .i64 s'.wide) ∧ w'.cell? ⟨b, o + k * 5 + 2, none⟩ = some (.int .i64 s'.high) ∧ w'.cell? ⟨b, o + k * 5 + 3, none⟩ = some (.bool s'.even) ∧ w'.cell? ⟨b, o + k * 5 + 4, none⟩ = some (.slice Au s'.vals.length cu) ∧ Below wr.heap.size wr w' from
        ⟨cell_of_blk (blk_keep hb D2.out) 1, cell_of_blk (blk_keep hb D1.out) 1, (Z.out.below hb hsb').c0, (Z.out.below hb hsb').c1, (Z.out.below hb hsb').c2, (Z.out.below hb hsb').c3, (Z.out.below hb hsb').c4,
          (Y.out.below hb hsb).c0, (Y.out.below hb hsb).c1, (Y.out.below hb hsb).c2, (Y.out.below hb hsb).c3, (Y.out.below hb hsb).c4, hb⟩)
      have HSB := Lib.hid (fun w' (h : w'.cell? ⟨w.heap.size, 1, none⟩ = some (.slice (some ⟨b', o', none⟩) n cap2) ∧ w'.cell? ⟨w.heap.size + 1, 1, none⟩ = some (.slice (some ⟨b, o, none⟩) n cap) ∧ w'.cell? ⟨b', o' + k * 5, none⟩ = some (.string s'.code) ∧ w'.cell? ⟨b', o' + k * 5 + 1, none⟩ = some (.int .i64 s'.wide) ∧ w'.cell? ⟨b', o' + k * 5 + 2, none⟩ = some (.int .i64 s'.high) ∧ w'.cell? ⟨b', o' + k * 5 + 3, none⟩ = some (.bool s'.even) ∧ w'.cell? ⟨b', o' + k * 5 + 4, none⟩ = some (.slice Av s'.vals.length cv) ∧ w'.cell? ⟨b, o + k * 5, none⟩ = some (.string s'.code) ∧ w'.cell? ⟨b, o + k * 5 + 1, none⟩ = some (.int .i64 s'.wide) ∧ w'.cell? ⟨b, o + k * 5 + 2, none⟩ = some (.int .i64 s'.high) ∧ w'.cell? ⟨b, o + k * 5 + 3, none⟩ = some (.bool s'.even) ∧ w'.cell? ⟨b, o + k * 5 + 4, none⟩ = some (.slice Au s'.vals.length cu) ∧ Below wr.heap.size wr w') => h.2.2.2.2.2.2.2.2.2.2.2.2)
      have HDR := Lib.hid (show Below wr.heap.size wr wr.drew from (Below.refl _ _).drew)
      go_cut [6, 7] (fun p q wx => ∃ x y, p = .pointer (some ⟨x, 0, none⟩) ∧ q = .pointer (some ⟨y, 0, none⟩) ∧ Hid (Below wr.heap.size wr wx) ∧ Hid (wx.heap[x]? = some (.cells #[.string s'.code, .int .i64 s'.wide, .int .i64 s'.high, .bool s'.even, .slice Av s'.vals.length cv] 63 (0, 0))) ∧ Hid (wx.heap[y]? = some (.cells #[.string s'.code, .int .i64 s'.wide, .int .i64 s'.high, .bool s'.even, .slice Au s'.vals.length cu] 63 (0, 0))))
      case first =>
        go_region_held3 (fun w' => w'.cell? ⟨w.heap.size, 1, none⟩ = some (.slice (some ⟨b', o', none⟩) n cap2) ∧ w'.cell? ⟨w.heap.size + 1, 1, none⟩ = some (.slice (some ⟨b, o, none⟩) n cap) ∧ w'.cell? ⟨b', o' + k * 5, none⟩ = some (.string s'.code) ∧ w'.cell? ⟨b', o' + k * 5 + 1, none⟩ = some (.int .i64 s'.wide) ∧ w'.cell? ⟨b', o' + k * 5 + 2, none⟩ = some (.int .i64 s'.high) ∧ w'.cell? ⟨b', o' + k * 5 + 3, none⟩ = some (.bool s'.even) ∧ w'.cell? ⟨b', o' + k * 5 + 4, none⟩ = some (.slice Av s'.vals.length cv) ∧ w'.cell? ⟨b, o + k * 5, none⟩ = some (.string s'.code) ∧ w'.cell? ⟨b, o + k * 5 + 1, none⟩ = some (.int .i64 s'.wide) ∧ w'.cell? ⟨b, o + k * 5 + 2, none⟩ = some (.int .i64 s'.high) ∧ w'.cell? ⟨b, o + k * 5 + 3, none⟩ = some (.bool s'.even) ∧ w'.cell? ⟨b, o + k * 5 + 4, none⟩ = some (.slice Au s'.vals.length cu) ∧ Below wr.heap.size wr w')
          ((refine HK.out _ ?_; repeat (first | exact Below.refl _ _ | refine Below.drew ?_ | refine Below.alloc ?_ (by simp <;> omega) _ | refine Below.setCell ?_ (by simp <;> omega) _)))
          (fail)
        all_goals go_wp2
        all_goals go_meet
        · exact ⟨wr.heap.size, wr.heap.size + 1, rfl, rfl, Lib.hid (two_below _ _ _), Lib.hid (two_first _ _ _), Lib.hid (two_second _ _ _)⟩
        · exact ⟨wr.heap.size + 1, wr.heap.size, rfl, rfl, Lib.hid (two_below _ _ _), Lib.hid (two_second _ _ _), Lib.hid (two_first _ _ _)⟩
      case rest =>
      obtain ⟨x, y, rfl, rfl, hbc, hbx, hby⟩ := hcut
      clear HK HSB HDR x1 x2
      have p0 := cell_of_blk hbx.out 0
      have p1 := cell_of_blk hbx.out 1
      have p2 := cell_of_blk hbx.out 2
      have p3 := cell_of_blk hbx.out 3
      have p4 := cell_of_blk hbx.out 4
      have q0 := cell_of_blk hby.out 0
      have q1 := cell_of_blk hby.out 1
      have q2 := cell_of_blk hby.out 2
      have q3 := cell_of_blk hby.out 3
      have q4 := cell_of_blk hby.out 4
      simp at p0 p1 p2 p3 p4 q0 q1 q2 q3 q4
      go_wp2_with fail
      refine (sameVals_eq Av Au cv cu s'.vals _ (OV.out.below hbc.out).vals (OU.out.below hbc.out).vals HVL.out).mono ?_; rintro e w5 ⟨rfl, hb5⟩
      have b5 := Lib.hid (below_more hbc.out hb5)
      clear hb5 p0 p1 p2 p3 p4 q0 q1 q2 q3 q4
      go_wp2_with fail
      go_roundw
      case rel => exact ⟨k + 1, by omega, by go_num, Lib.hid (hb.out.trans (b5.out.mono hb.out.size))⟩
      case measure => simp [intOf]; omega
    · obtain rfl : k = n := by omega
      go_wp2
      go_ret
      exact ⟨rfl, hw1.out⟩

end Go.Proofs.YthnhpgmohhaeaaaDoor
