/-
  Contracts of slices.Grow (onto nothing) and slices.Concat, at elements of type []api.Node.
-/
import Derived.Test.YtilagndfohnjnaaPkB
import Derived.Test.YtilagndfohnjnaaShelfg
import Derived.Shelf.Spec.SlicesGrow
namespace Go.Proofs.Ytilagndfohnjnaa
open Go.RowKit

theorem infoCNds : (Try.prog.info? 25).map (fun i => (i.zero, i.size, i.bytes)) = some (some (.slice none 0 0), 1, 24) := by kernel_rfl

theorem growNds (n : Nat) (w : World) (hn : n ≤ 2000000) :
    Calls Try.prog 101 #[.slice none 0 0, .int .i64 n] w (GotRow w 25 1 0 []) := by
  by_cases h0 : n = 0
  · subst h0
    have h := Any8.slices_Grow_room Try.growNds none 0 0 0 w (Nat.le_refl _) (by omega) (by omega) (by omega)
    refine Calls.mono h ?_
    rintro e w' ⟨rfl, rfl⟩
    exact ⟨none, 0, rfl, World.ownsRow_nil _ _ _ _, Below.refl _ _⟩
  · obtain ⟨iv, hi, hz, hs, hb⟩ := info_parts infoCNds
    have h := Any8.slices_Grow_grow Try.growNds iv _ hi hz (by rw [hs]; omega) none 0 0 n [] w (Nat.le_refl _) (by omega) (by rw [hb]; omega) (by omega) (by simp) (fun _ => rfl) (fun a h => by cases h)
    refine Calls.mono h ?_
    rintro e w' ⟨rfl, rfl⟩
    refine ⟨_, _, rfl, ?_, ?_⟩
    · have hc : n ≤ grownCap w (0 + n) 0 25 := by have := grownCap_ge w (0 + n) 0 25; omega
      have hm := grownCap_le_maxLen w (0 + n) 0 25 (by unfold maxLen; omega)
      have := World.ownsRow_made (base := w.heap.size) (e := 25) (size := 1) w.drew (#[] ++ Builtin.zeroCells (Value.slice none 0 0).cells (0 + n - 0) ++ Builtin.zeroCells (Value.slice none 0 0).cells (grownCap w (0 + n) 0 25 - (0 + n))) (grownCap w (0 + n) 0 25) (Nat.le_refl _) hm (by
        rw [Array.size_append, Array.size_append, size_zeroCells, size_zeroCells]
        have : (Value.slice none 0 0).cells.size = 1 := rfl
        rw [this]
        rw [Nat.zero_add] at hc ⊢
        simp
        omega)
      exact this
    · exact ((Below.refl _ _).drew).alloc (Nat.le_refl _) _

set_option maxHeartbeats 3200000 in
set_option maxRecDepth 100000 in
theorem concatNds (A : Option Addr) (c : Nat) (ss : List Src) (w : World) (hA : SlicesAt w A ss) (hs : ∀ s ∈ ss, SrcOk 1 w s) (hN : sumN ss ≤ 2000000) (hl : ss.length ≤ 1000000) :
    Calls Try.prog 82 #[.slice A ss.length c] w (GotRow w 25 1 (sumN ss) (ss.flatMap (·.xs))) := by
  obtain ⟨iv, hiv, hzv, hsv, hbv⟩ := info_hid infoCNds
  have HA := Lib.hid hA
  have HS := Lib.hid hs
  have HT := Lib.hid (fun k (s : Src) (h : ss[k]? = some s) => sumN_take h)
  obtain ⟨N, hNN⟩ : ∃ N, N = ss.length := ⟨_, rfl⟩
  rw [← hNN] at hl ⊢
  have HN := Lib.hid hNN
  have HTA := Lib.hid (show ss.take N = ss by rw [hNN, List.take_length])
  obtain ⟨M, hM⟩ : ∃ M, M = sumN ss := ⟨_, rfl⟩
  rw [← hM] at hN
  have HM := Lib.hid hM
  have HLE := Lib.hid (fun k => show sumN (ss.take k) ≤ M by rw [hM]; exact sumN_take_le ss k)
  clear hA hs hNN hM
  go_enter Try.func82, Try.ntmps82
  go_wp2_with fail
  go_loop [3, 5, 11] (fun s _ i => ∃ k t : Nat, k ≤ N ∧ i = .int .i64 k ∧ s = .int .i64 t ∧ t ≤ 2000000 ∧ Hid (t = sumN (ss.take k))) (fun _ _ i => N - (intOf i).toNat)
  case atStart => exact ⟨0, 0, Nat.zero_le _, rfl, rfl, by omega, Lib.hid rfl⟩
  case round =>
    obtain ⟨k, t, hk, rfl, rfl, ht, hts⟩ := hrel
    by_cases hlt : k < N
    · have hget : ss[k]? = some (ss[k]'(by have := HN.out; omega)) := List.getElem?_eq_getElem _
      obtain ⟨s, hs⟩ : ∃ s, s = ss[k]'(by have := HN.out; omega) := ⟨_, rfl⟩
      rw [← hs] at hget
      obtain ⟨g, o, hAe, hg, hc0⟩ := HA.out k s hget
      subst hAe
      have ht2 : t + s.n ≤ 2000000 := by
        have h1 := HT.out k s hget
        have h2 := HLE.out (k + 1)
        have := hts.out
        omega
      have HT2 := Lib.hid (show t + s.n = sumN (ss.take (k + 1)) by rw [HT.out k s hget, hts.out])
      clear hs hget
      obtain ⟨sA, sn, sc, sx⟩ := s
      dsimp only at hc0 ht2 HT2
      go_wp2_with fail
      go_round
      case rel => exact ⟨k + 1, t + sn, by omega, by go_num, by go_num, ht2, HT2⟩
      case measure => simp [intOf]; omega
    · obtain rfl : k = N := by omega
      have HTM := Lib.hid (show t = M by rw [hts.out, HTA.out, HM.out])
      obtain rfl : t = M := HTM.out
      go_wp2_with fail
      refine (growNds t w (by omega)).mono ?_; rintro e w1 ⟨A1, cc, rfl, own1, hb1⟩
      have OWN := Lib.hid own1
      have HB := Lib.hid hb1
      clear own1 hb1
      go_wp2_with fail
      have hws := HB.out.size
      go_loopw [6, 8, 27] (fun v _ i wr => ∃ j d : Nat, j ≤ k ∧ i = .int .i64 j ∧ d ≤ 2000000 ∧ Hid (d = sumN (ss.take j)) ∧ Hid (wr.ownsRow w.heap.size 25 1 v d ((ss.take j).flatMap (·.xs))) ∧ Hid (Below w.heap.size w wr)) (fun _ _ i _ => k - (intOf i).toNat)
      case atStart => exact ⟨0, 0, Nat.zero_le _, rfl, by omega, Lib.hid rfl, OWN, HB⟩
      case round =>
        obtain ⟨j, d, hj, rfl, hd9, hd, hown, hbw⟩ := hrel
        obtain ⟨B, d2, hv, -, -, -, -⟩ := own_slice hown.out
        subst hv
        by_cases hlj : j < k
        · have hget : ss[j]? = some (ss[j]'(by have := HN.out; omega)) := List.getElem?_eq_getElem _
          obtain ⟨s, hs⟩ : ∃ s, s = ss[j]'(by have := HN.out; omega) := ⟨_, rfl⟩
          rw [← hs] at hget
          obtain ⟨g, o, hAe, hg, hc0⟩ := HA.out j s hget
          subst hAe
          have z1 := (hbw.out.cell (p := ⟨g, o + j, none⟩) hg).trans hc0
          have hgw : g < wr.heap.size := Nat.lt_of_lt_of_le hg hbw.out.size
          have HSO := Lib.hid ((HS.out s (List.mem_of_getElem? hget)).below hbw.out)
          have hd2 : d + s.n ≤ 2000000 := by
            have h1 := HT.out j s hget
            have h2 := HLE.out (j + 1)
            have := hd.out
            omega
          have HT2 := Lib.hid (show d + s.n = sumN (ss.take (j + 1)) by rw [HT.out j s hget, hd.out])
          have HF := Lib.hid (show (ss.take (j + 1)).flatMap (·.xs) = (ss.take j).flatMap (·.xs) ++ s.xs by
            obtain ⟨hk', e⟩ := List.getElem?_eq_some_iff.1 hget
            rw [List.take_succ_eq_append_getElem hk', e]; simp)
          clear hs hget hc0
          obtain ⟨sA, sn, sc, sx⟩ := s
          dsimp only at z1 hd2 HT2 HF
          go_wp2_with (first
            | (at_builtin; refine wpList_append_src _ rfl (.tmp 31) (.tmp 32) 99 rfl w.heap.size 25 iv (.slice none 0 0) 1 24 Try.underlying99 hiv.out hzv.out hsv.out hbv.out rfl (by decide) (.slice B d d2) d ((ss.take j).flatMap (·.xs)) rfl ?own0 sA sn sc sx rfl ?l0 ?n0 ?c0 ?o0 ?m0 ?b0 ?s0 (d + sn) rfl ?_))
          case own0 => exact hown.out
          case l0 => have := HSO.out.len; first | exact this | simpa using this
          case n0 => exact HSO.out.none
          case c0 => exact HSO.out.cells
          case o0 => exact HSO.out.one
          case m0 => unfold maxLen; omega
          case b0 => omega
          case s0 => exact hbw.out.size
          intro B2 d3 w3 own3 hg3 _
          have BB := Lib.hid (hbw.out.grown hg3 hbw.out.size (fun g hg => (hown.out.lt g hg).1))
          have OWN3 := Lib.hid (show w3.ownsRow w.heap.size 25 1 (.slice B2 (d + sn) d3) (d + sn) ((ss.take (j + 1)).flatMap (·.xs)) by rw [HF.out]; exact own3)
          clear own3 hg3
          go_wp2_with fail
          go_roundw
          case rel => exact ⟨j + 1, d + sn, by omega, by go_num, hd2, HT2, OWN3, BB⟩
          case measure => simp [intOf]; omega
        · obtain rfl : j = k := by omega
          have HX := Lib.hid (show GotRow w 25 1 (sumN ss) (ss.flatMap (·.xs)) (.returned (.slice B d d2)) wr from
            ⟨B, d2, by rw [hd.out, HTA.out], by have := hown.out; rw [hd.out, HTA.out] at this; exact this, hbw.out⟩)
          go_wp2_with fail
          go_ret
          exact HX.out

end Go.Proofs.Ytilagndfohnjnaa
