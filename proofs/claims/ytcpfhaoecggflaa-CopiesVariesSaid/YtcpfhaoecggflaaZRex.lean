/-
  The specification's Extent (layer 9).
-/
import Derived.Test.YtcpfhaoecggflaaZExt
import Derived.Test.YtcpfhaoecggflaaZRst
namespace Go.Proofs.Ytcpfhaoecggflaa
open Go.RowKit

theorem OwnRs.ints {w : World} {base : Nat} {sv : Value} {rs : List Sr} (h : OwnRs w base sv rs) {r : Sr} (hr : r ∈ rs) : IntsIn w r.A r.s.sg := own_ints (h.ok r hr).1
/-- a stretch's cells -/
theorem OwnRs.cells {w : World} {base g n c : Nat} {rs : List Sr} (h : OwnRs w base (.slice (some ⟨g, 0, none⟩) n c) rs) {k : Nat} {r : Sr} (hk : rs[k]? = some r) : ∀ j, j < 3 → w.cell? ⟨g, k * 3 + j, none⟩ = r.cells[j]? := fun j hj => by
  obtain ⟨A', c', hv, -, -, h3, -⟩ := own_slice h.own
  injection hv with e1 e2 e3
  obtain ⟨g', e, -, -, hc⟩ := h3 ⟨g, 0, none⟩ e1.symm
  injection e with e
  subst e
  have hf := flat_at (f := Sr.cells) (c := 3) cells3 rs k r hk j hj
  have hu : r.cells[j]? = some (r.cells[j]'(by rw [cells3]; exact hj)) := List.getElem?_eq_getElem _
  rw [hu] at hf ⊢
  exact hc _ _ hf

set_option maxRecDepth 100000 in
set_option maxHeartbeats 6400000 in
theorem rextent_any (A B : Option Addr) (ca cb : Nat) (a b : List Int) (t : Int) (w : World) (hA : IntsIn w A a) (hB : IntsIn w B b) (hla : a.length ≤ maxLen) (hlb : b.length ≤ maxLen) :
    Calls Try.prog 24 #[.slice A a.length ca, .slice B b.length cb, .int .i64 t] w (GotExt w (extQ a b t)) := by
  have HC1 := Lib.hid (rcheck2_any A B ca cb a b w hA hB hla hlb)
  have HL := Lib.hid (show alErr a b = 0 → a.length ≤ 60 ∧ b.length ≤ 60 from fun h => by
    unfold alErr at h
    split at h
    · rename_i h1; exact absurd h h1
    · rename_i h1; simp at h1; exact ⟨lnErr_60 h1, lnErr_60 h⟩)
  have HST := Lib.hid (fun h => rstretches_any A B ca cb a b w hA hB (HL.out h).1 (HL.out h).2)
  have HLS := Lib.hid (fun h => strs_len a b (HL.out h).1 (HL.out h).2)
  have HX := Lib.hid (show (extQ a b t) = if alErr a b ≠ 0 then (0, alErr a b) else extF t (strsQ a b) from rfl)
  obtain ⟨R, hR⟩ : ∃ R, R = extQ a b t := ⟨_, rfl⟩
  obtain ⟨E, hE⟩ : ∃ E, E = alErr a b := ⟨_, rfl⟩
  obtain ⟨ss, hss⟩ : ∃ ss, ss = strsQ a b := ⟨_, rfl⟩
  rw [← hR] at HX ⊢
  simp only [← hE, ← hss] at HC1 HL HST HX HLS
  obtain ⟨n, hn⟩ : ∃ n, n = a.length := ⟨_, rfl⟩
  obtain ⟨m, hm⟩ : ∃ m, m = b.length := ⟨_, rfl⟩
  rw [← hn] at HC1 HST ⊢
  rw [← hm] at HC1 HST ⊢
  clear hE hR hss hn hm hA hB hla hlb HL
  go_enter Try.func24, Try.ntmps24
  go_wp2_with fail
  refine HC1.out.mono ?_; rintro e w' ⟨rfl, rfl⟩
  clear HC1
  by_cases h1 : E = 0
  case neg =>
    have hd : (E != 0) = true := by simpa using h1
    have hr := Lib.hid (show ((0 : Int), E) = R by rw [HX.out, if_pos h1])
    clear HX
    go_wp2
    go_ret2
    exact got_ext hr.out (Below.refl _ _)
  case pos =>
    subst h1
    have hd : ((0 : Int) != 0) = false := by decide
    have hr := Lib.hid (show extF t ss = R by rw [HX.out, if_neg (by simp)])
    clear HX
    go_wp2_with fail
    refine (HST.out (by first | rfl | trivial)).mono ?_; rintro e w1 ⟨As, cS, rsS, rfl, hrsS, hoS, hbS⟩
    obtain ⟨B2, hB2, hOS⟩ := hoS.out
    have HOS := Lib.hid hOS
    have HB1 := Lib.hid hbS
    obtain ⟨q, hq⟩ : ∃ q, q = ss.length := ⟨_, rfl⟩
    have HQ := Lib.hid hq
    rw [← hq] at HOS ⊢
    have HRS := Lib.hid hrsS.out
    have hq12 : q ≤ 120 := by rw [hq]; exact HLS.out (by first | rfl | trivial)
    clear hq hOS hoS hbS hB2 HST hrsS HLS
    go_wp2_with fail
    go_loopw [10] (fun u wq => ∃ (j : Nat), j ≤ q ∧ u = .int .i64 j ∧ Hid (extF t (ss.drop j) = R) ∧ Hid (Below w1.heap.size w1 wq)) (fun u _ => q - (intOf u).toNat)
    case atStart => exact ⟨0, Nat.zero_le _, rfl, Lib.hid (by rw [List.drop_zero]; exact hr.out), Lib.hid (Below.refl _ _)⟩
    case round =>
      obtain ⟨j, hj, rfl, hF, hb⟩ := hrel
      by_cases hlj : j < q
      · have hkl : j < ss.length := by have := HQ.out; omega
        have hkr : j < rsS.length := by have := congrArg List.length HRS.out; simp at this; omega
        obtain ⟨r2, hr2⟩ : ∃ r2, r2 = rsS[j] := ⟨_, rfl⟩
        have hgr : rsS[j]? = some r2 := by rw [hr2]; exact List.getElem?_eq_getElem hkr
        have HSS := Lib.hid (show ss.drop j = r2.s :: ss.drop (j + 1) by
          rw [List.drop_eq_getElem_cons hkl]
          congr 1
          have h1 : ss[j]? = some r2.s := by rw [← HRS.out, List.getElem?_map, hgr]; rfl
          rw [List.getElem?_eq_getElem hkl] at h1
          exact Option.some.inj h1)
        have hs2 := HOS.out.below hb.out
        have hsv := hs2.own
        obtain ⟨A3, c3, hv3, -, -, h3, h4⟩ := own_slice hsv
        injection hv3 with e1 e2 e3
        subst e1 e3
        cases As with
        | none => have := h4 rfl; omega
        | some ad =>
        obtain ⟨gs, rfl, -, hgs, -⟩ := h3 ad rfl
        have hcl := hs2.cells hgr
        have x0 := hcl 0 (by omega)
        have x1 := hcl 1 (by omega)
        have x2 := hcl 2 (by omega)
        simp only [Sr.cells, Sr.val, List.getElem?_cons_zero, List.getElem?_cons_succ, Nat.add_zero] at x0 x1 x2
        have HF := Lib.hid (show (if (r2.s.at' : Int) = t then ((r2.s.ext : Int), (0 : Int)) else extF t (ss.drop (j + 1))) = R by rw [← hF.out, HSS.out]; rfl)
        clear h3 h4 hsv hs2 hcl hkl hkr hr2 hgr e2 HSS hF
        by_cases htt : (r2.s.at' : Int) = t
        · have e1 : ((r2.s.at' : Int) == t) = true := by simpa using htt
          have hr := Lib.hid (show ((r2.s.ext : Int), (0 : Int)) = R by rw [← HF.out, if_pos htt])
          clear HF htt
          go_wp2
          go_ret2
          exact got_ext hr.out (below_more HB1.out hb.out)
        · have e1 : ((r2.s.at' : Int) == t) = false := by simpa using htt
          have hr := Lib.hid (show extF t (ss.drop (j + 1)) = R by rw [← HF.out, if_neg htt])
          clear HF htt
          go_wp2
          go_roundw
          case rel => exact ⟨j + 1, by omega, by go_num, hr, Lib.hid hb.out⟩
          case measure => simp [intOf]; omega
      · obtain rfl : j = q := by omega
        have hr := Lib.hid (show ((0 : Int), (1 : Int)) = R by rw [← hF.out, List.drop_of_length_le (by have := HQ.out; omega)]; rfl)
        clear hF
        go_wp2
        go_ret2
        exact got_ext hr.out (below_more HB1.out hb.out)

end Go.Proofs.Ytcpfhaoecggflaa
