/-
  Contract of parseSign.
-/
import Derived.Test.YtleihhkacmgofaaGreatDoorPsr
import Derived.Deep.DeepCutAuto
import Derived.Lib.SplitLaws
namespace Go.Proofs.YtleihhkacmgofaaGreatDoor
open Go.RowKit

theorem split_any (s : ByteArray) (w : World) (hE : Env w) (hs : s.size ≤ 100000) :
    Calls Tryz.prog 73 #[.string s, .string ⟨#[32]⟩] w fun e w' => e = .returned (.slice (some ⟨w.heap.size, 0, none⟩) (splitS s ⟨#[32]⟩).length (splitS s ⟨#[32]⟩).length) ∧
      (Below w.heap.size w w' ∧ w'.heap[w.heap.size]? = some (.cells ((splitS s ⟨#[32]⟩).map Value.string).toArray 9 (0, 0)) ∧ w'.heap.size = w.heap.size + 1) := by
  have hl : (splitS s ⟨#[32]⟩).length = Lib.countB s ⟨#[32]⟩ + 1 := Lib.splitB_all _ (by decide) _ _ _ rfl
  refine (Tryz.strings_Split_shaped s ⟨#[32]⟩ w hE.shaped (by omega) (by decide)).mono ?_
  rintro e w' ⟨rfl, rfl⟩
  exact ⟨by rw [hl], below_alloc _ _, heap_alloc_new _ _, by simp⟩
theorem str_cell {w : World} {g : Nat} {l : List ByteArray} {t : TypeId} (h : w.heap[g]? = some (.cells (l.map Value.string).toArray t (0, 0))) (k : Nat) (s : ByteArray) (hk : l[k]? = some s) : w.cell? ⟨g, k, none⟩ = some (.string s) := by
  rw [cell_of_blk h k]; simp [hk]
theorem ret_sb {m : Sm} {b : Bool} {p : Sg × Bool} {v : Value} (hv : v = m.val) (h : b = p.2) : Ending.returned (.tuple #[v, .bool b]) = .returned (.tuple #[m.val, .bool p.2]) := by
  rw [hv, h]

set_option maxHeartbeats 3200000 in
set_option maxRecDepth 100000 in
theorem sign_parse (s : ByteArray) (w : World) (hE : Env w) (hs : s.size ≤ 100000) : Calls Tryz.prog 54 #[.string s] w (GotSign w (signP s)) := by
  have hsz := Lib.hid (fun x (h : x ∈ splitS s ⟨#[32]⟩) => Nat.le_trans (splitB_size _ _ _ _ x h) hs)
  have HSP := Lib.hid (fun (w : World) (hE : Env w) => split_any s w hE hs)
  have hl : (splitS s ⟨#[32]⟩).length = Lib.countB s ⟨#[32]⟩ + 1 := Lib.splitB_all _ (by decide) _ _ _ rfl
  have hsp : signP s = signF (splitS s ⟨#[32]⟩) := rfl
  obtain ⟨F, hF⟩ : ∃ F, F = splitS s ⟨#[32]⟩ := ⟨_, rfl⟩
  rw [← hF] at hsz HSP hl hsp
  have hE0 := Lib.hid (hE.below (below_alloc w (.cells #[.string ⟨#[]⟩, .int .i64 0, .int .i64 0, .bool false, .slice none 0 0] 39)))
  have hB0 := Lib.hid (heap_alloc_new w (.cells #[.string ⟨#[]⟩, .int .i64 0, .int .i64 0, .bool false, .slice none 0 0] 39))
  have hb0 := Lib.hid (below_alloc w (.cells #[.string ⟨#[]⟩, .int .i64 0, .int .i64 0, .bool false, .slice none 0 0] 39))
  clear hF
  match F, hl, hsp, hsz, HSP with
  | [], hl, _, _, _ => simp at hl
  | [c], hl, hsp, hsz, HSP =>
    have HSP1 := Lib.hid (show signP s = (zeroSg, false) from hsp)
    clear hl hsp
    go_enter Tryz.func54, Tryz.ntmps54
    go_wp2_with fail
    refine (HSP.out _ hE0.out).mono ?_; rintro e w1 ⟨rfl, hbb⟩
    have hb1 := below_more hb0.out hbb.1
    have hB1 := blk_below hbb.1 hB0.out
    have q0 := cell_of_blk hB1 0
    have q1 := cell_of_blk hB1 1
    have q2 := cell_of_blk hB1 2
    have q3 := cell_of_blk hB1 3
    have q4 := cell_of_blk hB1 4
    simp at q0 q1 q2 q3 q4
    have f0 := free_of_blk hB1 0
    have f1 := free_of_blk hB1 1
    have f2 := free_of_blk hB1 2
    have f3 := free_of_blk hB1 3
    have f4 := free_of_blk hB1 4
    have hb1 := Lib.hid hb1
    clear hbb hB1
    go_wp2_with fail
    refine bodyPost_ret (v := .tuple #[Sm.val ⟨zeroSg, none, 0⟩, .bool false]) (by simp [results, Tryz.results54, go_sem, q0, q1, q2, q3, q4, zeroSg, Sm.val]) rfl ⟨⟨zeroSg, none, 0⟩, ret_sb rfl (by rw [HSP1.out]), by rw [HSP1.out], smok_zero _, fun _ _ h => (by cases h), ?_⟩
    exact ((((hb1.out.setCell (Nat.le_refl _) _).setCell (Nat.le_refl _) _).setCell (Nat.le_refl _) _).setCell (Nat.le_refl _) _).setCell (Nat.le_refl _) _
  | c :: z :: r, hl, hsp, hsz, HSP =>
    obtain ⟨⟨p0, p1, pb⟩, hp⟩ : ∃ p, p = pairP z ⟨#[120]⟩ := ⟨_, rfl⟩
    obtain ⟨nb, hnb⟩ : ∃ n, n = nameP c := ⟨_, rfl⟩
    have hcs := hsz.out c (by simp)
    have hzs := hsz.out z (by simp)
    have HSF := Lib.hid (show signP s = if nb && pb then (match valsP (restP r).2 with
      | some vs => (⟨c, p0, p1, (restP r).1, vs⟩, true)
      | none => (zeroSg, false)) else (zeroSg, false) by rw [hsp, signF, ← hnb, ← hp]; rfl)
    have A4 := Lib.hid (fun (w : World) => show Calls Tryz.prog 74 #[.string c] w fun e w' => e = .returned (.bool nb) ∧ w = w' by
      have := name_any c w (le_max hcs); rw [← hnb] at this; exact this)
    have A5 := Lib.hid (fun (w : World) (hE : Env w) => show Calls Tryz.prog 75 #[.string z, .string ⟨#[120]⟩] w fun e w' => e = .returned (.tuple #[.int .i64 p0, .int .i64 p1, .bool pb]) ∧ Below w.heap.size w w' by
      have := pair_any z ⟨#[120]⟩ w hE hzs; rw [← hp] at this; exact this)
    obtain ⟨N, hN⟩ : ∃ N, N = (c :: z :: r).length := ⟨_, rfl⟩
    have HN := Lib.hid (show N = r.length + 2 by rw [hN]; simp)
    rw [← hN] at HSP
    have HCS := Lib.hid (le_max hcs)
    have HNl := Lib.hid (show N ≤ 100001 by
      have h1 := Lib.countB_le ⟨#[32]⟩ (by decide) s.size s (Nat.le_refl _)
      rw [hN, hl]; omega)
    have hN2 : 2 ≤ N := by have := HN.out; omega
    clear hl hsp hp hnb hN hcs hzs
    go_enter Tryz.func54, Tryz.ntmps54
    go_wp2_with fail
    refine (HSP.out _ hE0.out).mono ?_; rintro e w1 ⟨rfl, hbb⟩
    have hb1 := Lib.hid (below_more hb0.out hbb.1)
    have hE1 := Lib.hid (hE0.out.below hbb.1)
    have hB1 := Lib.hid (blk_below hbb.1 hB0.out)
    have hG1 := Lib.hid (show w1.heap[w.heap.size + 1]? = some (.cells ((c :: z :: r).map Value.string).toArray 9 (0, 0)) by simpa using hbb.2.1)
    have hS1 := Lib.hid (show w1.heap.size = w.heap.size + 1 + 1 by simpa using hbb.2.2)
    clear hbb
    have q0 := cell_of_blk hB1.out 0
    have q1 := cell_of_blk hB1.out 1
    have q2 := cell_of_blk hB1.out 2
    have q3 := cell_of_blk hB1.out 3
    have q4 := cell_of_blk hB1.out 4
    simp at q0 q1 q2 q3 q4
    have f0 := free_of_blk hB1.out 0
    have f1 := free_of_blk hB1.out 1
    have f2 := free_of_blk hB1.out 2
    have f3 := free_of_blk hB1.out 3
    have f4 := free_of_blk hB1.out 4
    have y0 : w1.cell? ⟨w.heap.size + 1, 0, none⟩ = some (.string c) := str_cell hG1.out 0 c rfl
    have y1 : w1.cell? ⟨w.heap.size + 1, 1, none⟩ = some (.string z) := str_cell hG1.out 1 z rfl
    cases nb with
    | false =>
      go_wp2_with (first | (go_at_call 74; refine (A4.out _).mono ?_; rintro e w' ⟨rfl, rfl⟩))
      refine bodyPost_ret (v := .tuple #[Sm.val ⟨zeroSg, none, 0⟩, .bool false]) (by simp [results, Tryz.results54, go_sem, q0, q1, q2, q3, q4, zeroSg, Sm.val]) rfl ⟨⟨zeroSg, none, 0⟩, ret_sb rfl (by rw [HSF.out]; rfl), by rw [HSF.out]; rfl, smok_zero _, fun _ _ h => (by cases h), ?_⟩
      exact ((((hb1.out.setCell (Nat.le_refl _) _).setCell (Nat.le_refl _) _).setCell (Nat.le_refl _) _).setCell (Nat.le_refl _) _).setCell (Nat.le_refl _) _
    | true =>
    have hE2 := Lib.hid (show Env (w1.setCell ⟨w.heap.size, 0, none⟩ (.string c)) from hE.below (hb1.out.setCell (Nat.le_refl _) _))
    have hB2 := Lib.hid (heap_setCell_same w1 w.heap.size 0 (.string c) _ _ hB1.out)
    have hG2 := Lib.hid ((heap_setCell_other w1 ⟨w.heap.size, 0, none⟩ (.string c) (w.heap.size + 1) (by dsimp only; omega)).trans hG1.out)
    go_wp2_with fail
    refine (A4.out _).mono ?_; rintro e w' ⟨rfl, rfl⟩
    go_wp2_with fail
    refine (A5.out _ hE2.out).mono ?_; rintro e w2 ⟨rfl, hb2⟩
    have hb3 := Lib.hid (below_more (hb1.out.setCell (Nat.le_refl _) _) hb2)
    have hE3 := Lib.hid (hE.below hb3.out)
    have hB3 := Lib.hid (blk_below hb2 hB2.out)
    have hG3 := Lib.hid (blk_below hb2 hG2.out)
    have hS3 := Lib.hid (show w.heap.size + 1 + 1 ≤ w2.heap.size by have := hb2.size; have := hS1.out; simp at *; omega)
    clear q0 q1 q2 q3 q4 f0 f1 f2 f3 f4 y0 y1 hb2
    have q0 := cell_of_blk hB3.out 0
    have q1 := cell_of_blk hB3.out 1
    have q2 := cell_of_blk hB3.out 2
    have q3 := cell_of_blk hB3.out 3
    have q4 := cell_of_blk hB3.out 4
    simp at q0 q1 q2 q3 q4
    have f0 := free_of_blk hB3.out 0
    have f1 := free_of_blk hB3.out 1
    have f2 := free_of_blk hB3.out 2
    have f3 := free_of_blk hB3.out 3
    have f4 := free_of_blk hB3.out 4
    go_upto_region 6 with fail
    have hb4 := Lib.hid ((hb3.out.setCell (Nat.le_refl w.heap.size) (p := ⟨w.heap.size, 1, none⟩) (.int .i64 p0)).setCell (Nat.le_refl w.heap.size) (p := ⟨w.heap.size, 2, none⟩) (.int .i64 p1))
    have hB4 := Lib.hid (heap_setCell_same _ w.heap.size 2 (.int .i64 p1) _ _ (heap_setCell_same w2 w.heap.size 1 (.int .i64 p0) _ _ hB3.out))
    have hG4 := Lib.hid (((heap_setCell_other _ ⟨w.heap.size, 2, none⟩ (.int .i64 p1) (w.heap.size + 1) (by dsimp only; omega)).trans (heap_setCell_other w2 ⟨w.heap.size, 1, none⟩ (.int .i64 p0) (w.heap.size + 1) (by dsimp only; omega))).trans hG3.out)
    have hS4 := Lib.hid (show w.heap.size + 1 + 1 ≤ ((w2.setCell ⟨w.heap.size, 1, none⟩ (.int .i64 p0)).setCell ⟨w.heap.size, 2, none⟩ (.int .i64 p1)).heap.size by have := hS3.out; simp; omega)
    generalize hw3 : (w2.setCell ⟨w.heap.size, 1, none⟩ (.int .i64 p0)).setCell ⟨w.heap.size, 2, none⟩ (.int .i64 p1) = w3 at hb4 hB4 hG4 hS4 ⊢
    clear hw3 q0 q1 q2 q3 q4 f0 f1 f2 f3 f4 HSP A4 A5 hG1 hG2 hG3 hB1 hB2 hB3 hE0 hE1 hE2 hE3 hb0 hb1 hb3 hB0 hS1 hS3
    have hB4 := Lib.hid (show w3.heap[w.heap.size]? = some (.cells #[.string c, .int .i64 p0, .int .i64 p1, .bool false, .slice none 0 0] 39 (0, 0)) from hB4.out)
    have q0 := cell_of_blk hB4.out 0
    have q1 := cell_of_blk hB4.out 1
    have q2 := cell_of_blk hB4.out 2
    have q3 := cell_of_blk hB4.out 3
    have q4 := cell_of_blk hB4.out 4
    simp at q0 q1 q2 q3 q4
    have f0 := free_of_blk hB4.out 0
    have f1 := free_of_blk hB4.out 1
    have f2 := free_of_blk hB4.out 2
    have f3 := free_of_blk hB4.out 3
    have f4 := free_of_blk hB4.out 4
    cases pb with
    | false =>
      go_wp2_with fail
      refine bodyPost_ret (v := .tuple #[Sm.val ⟨zeroSg, none, 0⟩, .bool false]) (by simp [results, Tryz.results54, go_sem, q0, q1, q2, q3, q4, zeroSg, Sm.val]) rfl ⟨⟨zeroSg, none, 0⟩, ret_sb rfl (by rw [HSF.out]; rfl), by rw [HSF.out]; rfl, smok_zero _, fun _ _ h => (by cases h), ?_⟩
      exact ((((hb4.out.setCell (Nat.le_refl _) _).setCell (Nat.le_refl _) _).setCell (Nat.le_refl _) _).setCell (Nat.le_refl _) _).setCell (Nat.le_refl _) _
    | true =>
    have HSF2 := Lib.hid (show signP s = (match valsP (restP r).2 with
      | some vs => (⟨c, p0, p1, (restP r).1, vs⟩, true)
      | none => (zeroSg, false)) by rw [HSF.out]; rfl)
    have HY := Lib.hid (show ∀ k x, r[k]? = some x → w3.cell? ⟨w.heap.size + 1, k + 2, none⟩ = some (.string x) from fun k x hk => str_cell hG4.out _ x (by simpa using hk))
    clear HSF hG4
    go_upto_region 8 with fail
    obtain ⟨n, hn⟩ : ∃ n, n = r.length := ⟨_, rfl⟩
    have hNn : N = n + 2 := by rw [hn]; exact HN.out
    have HNn := Lib.hid hn
    have hst : ∀ A, (0 < n → A = some ⟨w.heap.size + 1, 2, none⟩) → StrsAt w3 A r := fun A hA k x hk => by
      have := (List.getElem?_eq_some_iff.1 hk).1
      refine ⟨w.heap.size + 1, 2, hA (by omega), by have := hS4.out; omega, ?_⟩
      rw [show 2 + k = k + 2 by omega]; exact HY.out k x hk
    have HST := Lib.hid hst
    clear hst hn HN hN2
    subst hNn
    go_cut [4] (fun f wx => ∃ A, f = .slice A n n ∧ wx = w3 ∧ Hid (StrsAt w3 A r) ∧ Hid (∀ b o, A = some ⟨b, o, none⟩ → b = w.heap.size + 1))
    case first =>
      by_cases hn0 : n = 0
      · subst hn0
        go_wp2_with fail
        go_meet
        exact ⟨_, rfl, rfl, Lib.hid (HST.out _ (fun h => by omega)), Lib.hid (fun b o e => by injection e with e; injection e with e _; exact e.symm)⟩
      · have hnn : ¬ n + 2 = 2 := by omega
        go_wp2_with fail
        go_meet
        exact ⟨_, rfl, rfl, Lib.hid (HST.out _ (fun h => rfl)), Lib.hid (fun b o e => by injection e with e; injection e with e _; exact e.symm)⟩
    case rest =>
    obtain ⟨A, rfl, rfl, hA, hAb⟩ := hcut
    obtain ⟨w3, rfl⟩ : ∃ w3, w3 = wc := ⟨_, rfl⟩
    obtain ⟨ev, hev⟩ : ∃ ev, ev = (restP r).1 := ⟨_, rfl⟩
    have HEV := Lib.hid hev
    clear hev
    go_upto_region 9 with fail
    go_cut [49] (fun f wx => f = .bool ev ∧ wx = w3)
    case first =>
      match r, HNn, hA, HEV with
      | [], HNn, hA, HEV =>
        obtain rfl : n = 0 := HNn.out
        obtain rfl : ev = false := HEV.out
        go_wp2_with fail
        go_meet
        exact ⟨rfl, rfl⟩
      | e :: r', HNn, hA, HEV =>
        obtain ⟨b, o, hAe, hlt, hc0⟩ := hA.out 0 e rfl
        subst hAe
        have hn0 : 0 < n := by have := HNn.out; simp at this; omega
        have HE2 := Lib.hid (show ev = strEq e ⟨#[61]⟩ by rw [HEV.out, restP_fst])
        simp only [Nat.add_zero] at hc0
        by_cases he : (e.toList == [61]) = true
        · obtain rfl : ev = true := by rw [HE2.out]; simpa [strEq, ByteArray.toList_eq] using he
          go_wp2_with fail
          go_meet
          exact ⟨rfl, rfl⟩
        · have he : (e.toList == [61]) = false := by simpa using he
          obtain rfl : ev = false := by rw [HE2.out]; simpa [strEq, ByteArray.toList_eq] using he
          go_wp2_with fail
          go_meet
          exact ⟨rfl, rfl⟩
    case rest =>
    obtain ⟨rfl, rfl⟩ := hcut
    obtain ⟨w3, rfl⟩ : ∃ w3, w3 = wc := ⟨_, rfl⟩
    go_upto_if 49 with fail
    go_cut [4] (fun f wx => ∃ A' n' c', f = .slice A' n' c' ∧ n' ≤ n ∧ Hid (n' = (restP r).2.length) ∧ Hid (StrsAt wx A' (restP r).2) ∧ Hid (∀ b o, A' = some ⟨b, o, none⟩ → b = w.heap.size + 1) ∧ Hid (Below w.heap.size w wx) ∧ Hid (wx.heap[w.heap.size]? = some (.cells #[.string c, .int .i64 p0, .int .i64 p1, .bool ev, .slice none 0 0] 39 (0, 0))) ∧ Hid (w.heap.size + 1 + 1 ≤ wx.heap.size))
    case first =>
      cases ev with
      | false =>
        have HR2 := Lib.hid (restP_no r HEV.out)
        go_wp2_with fail
        go_meet
        exact ⟨_, _, _, rfl, Nat.le_refl _, Lib.hid (by rw [HR2.out]; exact HNn.out), Lib.hid (by rw [HR2.out]; exact hA.out), hAb, hb4, hB4, hS4⟩
      | true =>
        match r, HNn, hA, HEV with
        | [], HNn, hA, HEV => exact (restP_nil HEV.out).elim
        | e :: r', HNn, hA, HEV =>
        have HR2 := Lib.hid (restP_yes e r' HEV.out)
        obtain ⟨b, o, hAe, hlt, hc0⟩ := hA.out 0 e rfl
        subst hAe
        obtain ⟨m, hm⟩ : ∃ m, m = r'.length := ⟨_, rfl⟩
        have hnm : n = m + 1 := by rw [hm]; exact HNn.out
        have HM := Lib.hid hm
        clear hm hc0 hlt
        subst hnm
        have hbw := Lib.hid (hAb.out b o rfl)
        have hb6 := Lib.hid (hb4.out.setCell (Nat.le_refl w.heap.size) (p := ⟨w.heap.size, 3, none⟩) (.bool true))
        have hB6 := Lib.hid (heap_setCell_same w3 w.heap.size 3 (.bool true) _ _ hB4.out)
        have hS6 := Lib.hid (show w.heap.size + 1 + 1 ≤ (w3.setCell ⟨w.heap.size, 3, none⟩ (.bool true)).heap.size by have := hS4.out; simp; omega)
        have hA6 : ∀ A', (0 < m → A' = some ⟨b, o + 1, none⟩) → StrsAt (w3.setCell ⟨w.heap.size, 3, none⟩ (.bool true)) A' r' := fun A' hA' k x hk => by
          have hkm : 0 < m := by rw [HM.out]; exact Nat.lt_of_le_of_lt (Nat.zero_le _) (List.getElem?_eq_some_iff.1 hk).1
          obtain ⟨b2, o2, e2, hlt2, hc2⟩ := hA.out (k + 1) x hk
          injection e2 with e2; injection e2 with e2 e3; subst e2 e3
          refine ⟨b, o + 1, hA' hkm, by simp; exact hlt2, ?_⟩
          rw [World.cell?_setCell_other _ _ _ _ (by intro e; injection e with e; have := hbw.out; omega), show o + 1 + k = o + (k + 1) by omega]
          exact hc2
        have HA6 := Lib.hid hA6
        clear hA6 hA
        by_cases hm0 : m = 0
        · subst hm0
          go_wp2_with fail
          go_meet
          exact ⟨_, _, _, rfl, by omega, Lib.hid (by rw [HR2.out]; exact HM.out), Lib.hid (by rw [HR2.out]; exact HA6.out _ (fun h => by omega)), Lib.hid (fun b' o' e' => by injection e' with e'; injection e' with e' _; rw [← e']; exact hbw.out), hb6, hB6, hS6⟩
        · have hmm : ¬ m + 1 = 1 := by omega
          go_wp2_with fail
          go_meet
          exact ⟨_, _, _, rfl, by omega, Lib.hid (by rw [HR2.out]; exact HM.out), Lib.hid (by rw [HR2.out]; exact HA6.out _ (fun h => rfl)), Lib.hid (fun b' o' e' => by injection e' with e'; injection e' with e' _; rw [← e']; exact hbw.out), hb6, hB6, hS6⟩
    case rest =>
    obtain ⟨A', n', c', rfl, hnn', hn', hA', hAb', hb5, hB5, hS5⟩ := hcut
    obtain ⟨w5, rfl⟩ : ∃ w5, w5 = wc := ⟨_, rfl⟩
    obtain ⟨R, hR⟩ : ∃ R, R = (restP r).2 := ⟨_, rfl⟩
    have HSF3 := Lib.hid (show signP s = (match valsP R with
      | some vs => (⟨c, p0, p1, ev, vs⟩, true)
      | none => (zeroSg, false)) by rw [HSF2.out, hR, HEV.out])
    have HRs := Lib.hid (show ∀ x ∈ R, x.size ≤ 100000 from fun x hx => hsz.out x (by
      rw [hR] at hx
      cases r with
      | nil => simp [restP] at hx
      | cons e r' =>
        rw [restP_cons] at hx
        split at hx
        · exact List.mem_cons_of_mem _ (List.mem_cons_of_mem _ (List.mem_cons_of_mem _ hx))
        · exact List.mem_cons_of_mem _ (List.mem_cons_of_mem _ hx)))
    rw [← hR] at hn' hA'
    clear hR HSF2 HEV HST hsz hA hAb hb4 hB4 hS4 HY q0 q1 q2 q3 q4 f0 f1 f2 f3 f4
    have hn0 : n' ≤ 100001 := by have := HNl.out; omega
    clear HNl
    obtain ⟨iv, hiv, hzv, hsv, hbv⟩ := info_hid infoVa
    go_wp2_with fail
    go_loopw [55] (fun i wr => ∃ k : Nat, k ≤ n' ∧ i = .int .i64 k ∧ Hid (∃ v done, SignRel w wr c p0 p1 ev A' R k v done)) (fun i _ => n' - (intOf i).toNat)
    case atStart =>
      refine ⟨0, Nat.zero_le _, rfl, Lib.hid ⟨.slice none 0 0, [], ⟨hb5.out, hB5.out, hA'.out, World.ownsRow_nil _ _ _ _, rfl, by simp, fun b o e => ?_, by simp⟩⟩⟩
      have := hAb'.out b o e
      exact ⟨by omega, by simp [Value.ownBlock], by have := hS5.out; omega⟩
    case round =>
      obtain ⟨k, hk, rfl, hrl⟩ := hrel
      obtain ⟨v, done, hr⟩ := hrl.out
      have HR := Lib.hid hr
      clear hr hrl
      have hlt0 : w.heap.size < wr.heap.size := (Array.getElem?_eq_some_iff.1 HR.out.b0).1
      by_cases hlt : k < n'
      · have hget : R[k]? = some (R[k]'(by have := hn'.out; omega)) := List.getElem?_eq_getElem _
        obtain ⟨x, hx⟩ : ∃ x, x = R[k]'(by have := hn'.out; omega) := ⟨_, rfl⟩
        rw [← hx] at hget
        obtain ⟨b, o, hAe, hlb, hc0⟩ := HR.out.strs k x hget
        subst hAe
        have hxs := Lib.hid (HRs.out x (List.mem_of_getElem? hget))
        have GET := Lib.hid hget
        clear hx hget
        have hEr := Lib.hid (hE.below HR.out.below)
        obtain ⟨⟨⟨uk, ut, uf, uto⟩, ub⟩, hu⟩ : ∃ u, u = valueP x := ⟨_, rfl⟩
        have HU := Lib.hid hu.symm
        have AV := Lib.hid (fun (w : World) (hE : Env w) => show Calls Tryz.prog 76 #[.string x] w fun e w' => e = .returned (.tuple #[.agg #[.int .i64 uk, .string ut, .int .i64 uf, .int .i64 uto], .bool ub]) ∧ Below w.heap.size w w' by
          have := value_any x w hE hxs.out; rw [← hu] at this; exact this)
        clear hu
        go_wp2_with fail
        refine (AV.out _ hEr.out).mono ?_; rintro e w1 ⟨rfl, hb1⟩
        have hs1 : wr.heap.size ≤ w1.heap.size := hb1.size
        have hB1 := blk_below hb1 HR.out.b0
        have q0 := cell_of_blk hB1 0
        have q1 := cell_of_blk hB1 1
        have q2 := cell_of_blk hB1 2
        have q3 := cell_of_blk hB1 3
        have q4 := cell_of_blk hB1 4
        simp at q0 q1 q2 q3 q4
        have f0 := free_of_blk hB1 0
        have f1 := free_of_blk hB1 1
        have f2 := free_of_blk hB1 2
        have f3 := free_of_blk hB1 3
        have f4 := free_of_blk hB1 4
        have hlt1 : w.heap.size < w1.heap.size := by omega
        have hne1 : w.heap.size ≠ w1.heap.size := by omega
        have HB1 := Lib.hid hb1
        have HBB1 := Lib.hid hB1
        clear hb1 hB1 hc0 AV
        cases ub with
        | false =>
          have HF := Lib.hid (show signP s = (zeroSg, false) by
            obtain ⟨hk', e⟩ := List.getElem?_eq_some_iff.1 GET.out
            rw [HSF3.out, HR.out.vals, List.drop_eq_getElem_cons hk', e, valsP, HU.out]; rfl)
          have hbw1 := Lib.hid (HR.out.below.trans (HB1.out.mono (Nat.le_of_lt hlt0)))
          have hbx := Lib.hid ((HR.out.below.trans (HB1.out.mono (Nat.le_of_lt hlt0))).alloc (Nat.le_of_lt hlt1) (.cells #[.int .i64 uk, .string ut, .int .i64 uf, .int .i64 uto] 42))
          go_wp2_with fail
          refine bodyPost_ret (v := .tuple #[Sm.val ⟨zeroSg, none, 0⟩, .bool false]) (by simp [results, Tryz.results54, go_sem, q0, q1, q2, q3, q4, zeroSg, Sm.val, hlt1]) rfl ⟨⟨zeroSg, none, 0⟩, ret_sb rfl (by rw [HF.out]), by rw [HF.out], smok_zero _, fun _ _ h => (by cases h), ?_⟩
          first | exact below_set5 hbw1.out _ _ _ _ _ | exact below_set5 hbx.out _ _ _ _ _ | exact Below.alloc (below_set5 hbw1.out _ _ _ _ _) (by simp; omega) _
        | true =>
          have HOK := Lib.hid (show (valueP x).2 = true by rw [HU.out])
          have HUC := Lib.hid (show (valueP x).1 = ⟨uk, ut, uf, uto⟩ by rw [HU.out])
          go_wp2_with (first
            | (at_builtin; refine wpList_append_src _ rfl (.tmp 68) (.tmp 70) 36 rfl (w.heap.size + 1) 42 iv (.agg #[.int .i64 0, .string ⟨#[]⟩, .int .i64 0, .int .i64 0]) 4 40 Tryz.underlying36 hiv.out hzv.out hsv.out hbv.out rfl (by decide) v k (done.flatMap Va.cells) rfl ?own2 (some ⟨w1.heap.size + 1, 0, none⟩) 1 1 (Va.cells ⟨uk, ut, uf, uto⟩) rfl ?l2 ?n2 ?c2 ?o2 ?m2 ?b2 ?s2 (k + 1) rfl ?_))
          case own2 => exact ((ownsRow_of_block HR.out.own (fun g hg => HB1.out.block g (HR.out.own.lt g hg).2)).alloc _).alloc _
          case l2 => rfl
          case n2 => intro h; cases h
          case o2 => intro u hu; simp [Va.cells] at hu; rcases hu with rfl | rfl | rfl | rfl <;> rfl
          case c2 =>
            intro ad had j u' hj
            injection had with had
            subst had
            have := new_cells (w1.alloc (.cells #[.int .i64 uk, .string ut, .int .i64 uf, .int .i64 uto] 42)) (Va.cells ⟨uk, ut, uf, uto⟩) 42 j u' hj
            simpa [Va.cells] using this
          case m2 => unfold maxLen; omega
          case b2 => omega
          case s2 => simp; omega
          · intro A2 c2 w3 own2 hg2 hat
            have k3 : w3.heap[w.heap.size]? = some (.cells #[.string c, .int .i64 p0, .int .i64 p1, .bool ev, v] 39 (0, 0)) := by
              rw [hg2.block _ (by simp; omega) (fun e => by have := (HR.out.own.lt _ e.symm).1; omega), heap_alloc_other _ _ _ (by simp; omega), heap_alloc_other _ _ _ (by omega)]; exact HBB1.out
            have p4 := cell_of_blk k3 4
            have pf := free_of_blk k3 4
            simp at p4
            have STEP := Lib.hid (SignRel.step HR.out GET.out (le_max hxs.out) HOK.out HB1.out (by rw [HUC.out]; exact own2) hg2 (by simpa using hat))
            clear own2 hg2 hat k3 q0 q1 q2 q3 q4 f0 f1 f2 f3 f4
            go_wp2
            go_roundw
            case rel => exact ⟨k + 1, by omega, by go_num, Lib.hid ⟨_, _, STEP.out⟩⟩
            case measure => simp [intOf]; omega
      · obtain rfl : k = n' := by omega
        have HB1 := Lib.hid HR.out.b0
        have q0 := cell_of_blk HB1.out 0
        have q1 := cell_of_blk HB1.out 1
        have q2 := cell_of_blk HB1.out 2
        have q3 := cell_of_blk HB1.out 3
        have q4 := cell_of_blk HB1.out 4
        simp at q0 q1 q2 q3 q4
        have f0 := free_of_blk HB1.out 0
        have f1 := free_of_blk HB1.out 1
        have f2 := free_of_blk HB1.out 2
        have f3 := free_of_blk HB1.out 3
        have f4 := free_of_blk HB1.out 4
        obtain ⟨Av, cv, hv, -, -, -, -⟩ := own_slice HR.out.own
        subst hv
        have HF := Lib.hid (show signP s = (⟨c, p0, p1, ev, done⟩, true) by
          have h1 := HR.out.vals
          rw [hn'.out, List.drop_length] at h1
          rw [HSF3.out, h1]; simp [valsP])
        have HOKS := Lib.hid (SignRel.ok HR.out HCS.out)
        have HLEN := Lib.hid HR.out.len
        go_wp2_with fail
        refine bodyPost_ret (v := .tuple #[Sm.val ⟨⟨c, p0, p1, ev, done⟩, Av, cv⟩, .bool true]) (by simp [results, Tryz.results54, go_sem, q0, q1, q2, q3, q4, Sm.val, HLEN.out]) rfl ⟨⟨⟨c, p0, p1, ev, done⟩, Av, cv⟩, ret_sb rfl (by rw [HF.out]), by rw [HF.out], ?_, fun b o e => ⟨Nat.le_of_succ_le (HOKS.out.2 b o e).1, by simp; exact (HOKS.out.2 b o e).2⟩, ?_⟩
        · exact smok_of_blocks HOKS.out.1 (by simp) (fun b o e _ => by
            have := (HOKS.out.2 b o e).1
            rw [heap_setCell_other _ _ _ _ (by dsimp only; omega), heap_setCell_other _ _ _ _ (by dsimp only; omega), heap_setCell_other _ _ _ _ (by dsimp only; omega), heap_setCell_other _ _ _ _ (by dsimp only; omega), heap_setCell_other _ _ _ _ (by dsimp only; omega)])
        · exact ((((HR.out.below.setCell (Nat.le_refl _) _).setCell (Nat.le_refl _) _).setCell (Nat.le_refl _) _).setCell (Nat.le_refl _) _).setCell (Nat.le_refl _) _
end Go.Proofs.YtleihhkacmgofaaGreatDoor
