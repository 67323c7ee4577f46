/-
  The program's Align, and the specification's tests of lines (layer 9).
-/
import Derived.Test.YtcpfhaoecggflaaZPrs
import Derived.Test.YtcpfhaoecggflaaZChk
namespace Go.Proofs.Ytcpfhaoecggflaa
open Go.RowKit

def alErr (a b : List Int) : Int := if lnErr a ≠ 0 then lnErr a else lnErr b
/-- an alignment that the call made, its cost, and the error -/
def GotAl (w : World) (a b : List Int) (e : Ending) (w' : World) : Prop :=
  ∃ A k c ps, e = .returned (.tuple #[.slice A k c, .int .i64 (if alErr a b ≠ 0 then 0 else cst a b), .int .i64 (alErr a b)]) ∧ Hid (ps = if alErr a b ≠ 0 then [] else pairsQ a b) ∧ Hid (k = ps.length) ∧ Hid (∃ base, w'.ownsRow base 28 2 (.slice A k c) k (ps.flatMap pairC)) ∧ Below w.heap.size w w'
theorem lns_two (A B : Option Addr) (ca cb : Nat) (a b : List Int) : lnsErr [⟨A, ca, a⟩, ⟨B, cb, b⟩] = alErr a b := by
  unfold alErr lnsErr lnsErr lnsErr
  dsimp only
  split
  · rfl
  · split
    · rfl
    · rename_i h; simp at h; exact h.symm
theorem lnErr_60 {a : List Int} (h : lnErr a = 0) : a.length ≤ 60 := by
  unfold lnErr at h
  split at h
  · cases h
  · omega

set_option maxRecDepth 100000 in
set_option maxHeartbeats 6400000 in
theorem alignP_any (A B : Option Addr) (ca cb : Nat) (a b : List Int) (w : World) (hA : IntsIn w A a) (hB : IntsIn w B b) (hla : a.length ≤ maxLen) (hlb : b.length ≤ maxLen) :
    Calls Try.prog 17 #[.slice A a.length ca, .slice B b.length cb] w (GotAl w a b) := by
  obtain ⟨W, hW⟩ : ∃ W, W = w.alloc (.cells #[.slice A a.length ca, .slice B b.length cb] 22) := ⟨_, rfl⟩
  have HBW := Lib.hid (show Below w.heap.size w W from hW ▸ below_alloc _ _)
  have HC1 := Lib.hid (show Calls Try.prog 47 #[.slice (some ⟨w.heap.size, 0, none⟩) 2 2] W (fun e w' => e = .returned (.int .i64 (lnsErr [⟨A, ca, a⟩, ⟨B, cb, b⟩])) ∧ W = w') from
    checkL_any (some ⟨w.heap.size, 0, none⟩) 2 [⟨A, ca, a⟩, ⟨B, cb, b⟩] W (fun k r hk => by
      have hW' : W.heap[w.heap.size]? = some (.cells #[.slice A a.length ca, .slice B b.length cb] 22 (0, 0)) := hW ▸ heap_alloc_new _ _
      match k, hk with
      | 0, hk => simp at hk; subst hk; exact ⟨_, 0, rfl, (Array.getElem?_eq_some_iff.1 hW').1, cell_of_blk hW' 0, hA.below HBW.out, hla⟩
      | 1, hk => simp at hk; subst hk; exact ⟨_, 0, rfl, (Array.getElem?_eq_some_iff.1 hW').1, cell_of_blk hW' 1, hB.below HBW.out, hlb⟩
      | k + 2, hk => simp at hk) (show 2 ≤ maxLen by unfold maxLen; decide))
  rw [lns_two] at HC1
  have HL := Lib.hid (show alErr a b = 0 → a.length ≤ 60 ∧ b.length ≤ 60 from fun h => by
    unfold alErr at h
    split at h
    · rename_i h1; exact absurd h h1
    · rename_i h1; simp at h1; exact ⟨lnErr_60 h1, lnErr_60 h⟩)
  have HIA := Lib.hid hA
  have HIB := Lib.hid hB
  have HAL := Lib.hid (fun h => align_any A B ca cb a b W (hA.below HBW.out) (hB.below HBW.out) (HL.out h).1 (HL.out h).2)
  obtain ⟨E, hE⟩ : ∃ E, E = alErr a b := ⟨_, rfl⟩
  have HE := Lib.hid hE
  rw [← hE] at HC1 HL HAL
  obtain ⟨n, hn⟩ : ∃ n, n = a.length := ⟨_, rfl⟩
  obtain ⟨m, hm⟩ : ∃ m, m = b.length := ⟨_, rfl⟩
  rw [← hn] at hW HAL ⊢
  rw [← hm] at hW HAL ⊢
  clear hE hn hm hA hB hla hlb
  go_enter Try.func17, Try.ntmps17
  go_wp2_with fail
  rw [← hW]
  clear hW
  refine HC1.out.mono ?_; rintro e w' ⟨rfl, rfl⟩
  clear HC1
  by_cases h1 : E = 0
  case neg =>
    have hd : (E != 0) = true := by simpa using h1
    have HG := Lib.hid (show GotAl w a b (.returned (.tuple #[.slice none 0 0, .int .i64 0, .int .i64 E])) W from
      ⟨none, 0, 0, [], by rw [← HE.out, if_pos h1], Lib.hid (by rw [← HE.out, if_pos h1]), Lib.hid rfl, Lib.hid ⟨0, World.ownsRow_nil _ _ _ _⟩, HBW.out⟩)
    go_wp2
    go_ret3
    exact HG.out
  case pos =>
    subst h1
    have hd : ((0 : Int) != 0) = false := by decide
    go_wp2_with fail
    refine (HAL.out (by first | rfl | trivial)).mono ?_; rintro e w1 ⟨g, rfl, hal, hb1⟩
    have HPR := Lib.hid (pairs_any g a b A B ca cb w1 hal.out)
    have HAT := Lib.hid hal.out
    have HB1 := Lib.hid (below_more HBW.out hb1)
    clear hal hb1 HAL
    go_wp2_with fail
    refine HPR.out.mono ?_; rintro e w2 ⟨A2, c2, rfl, hps, hb2⟩
    have HCO := Lib.hid (cost_any g a b A B ca cb w2 (HAT.out.below hb2))
    have HB2 := Lib.hid (below_more HB1.out hb2)
    have HG := Lib.hid (show GotAl w a b (.returned (.tuple #[.slice A2 (pairsQ a b).length c2, .int .i64 (cst a b), .int .i64 0])) w2 from
      ⟨A2, _, c2, pairsQ a b, by rw [← HE.out]; rfl, Lib.hid (by rw [← HE.out]; rfl), Lib.hid rfl, Lib.hid ⟨_, hps.out⟩, HB2.out⟩)
    clear hps hb2 HPR
    go_wp2_with (first | (go_at_call 50; refine HCO.out.mono ?_; rintro e w' ⟨rfl, rfl⟩))
    go_ret3
    exact HG.out

set_option maxHeartbeats 3200000 in
theorem rcheckL_any (A : Option Addr) (cap : Nat) (zs : List Int) (w : World) (hz : IntsIn w A zs) (hl : zs.length ≤ maxLen) : Calls Try.prog 58 #[.slice A zs.length cap] w fun e w' => e = .returned (.int .i64 (lnErr zs)) ∧ w = w' := by
  have HE := Lib.hid (show lnErr zs = if 60 < zs.length then 2 else if negB zs = true then 23 else 0 from rfl)
  obtain ⟨n, hn⟩ : ∃ n, n = zs.length := ⟨_, rfl⟩
  rw [← hn] at hl HE ⊢
  unfold maxLen at hl
  have HN := Lib.hid hn
  clear hn
  by_cases h6 : 60 < n
  · have hr := Lib.hid (show lnErr zs = 2 by rw [HE.out, if_pos h6])
    go_enter Try.func58, Try.ntmps58
    go_wp2
    go_ret
    exact ⟨of_int hr.out.symm, rfl⟩
  · have HE2 := Lib.hid (show lnErr zs = if negB zs = true then 23 else 0 by rw [HE.out, if_neg h6])
    go_enter Try.func58, Try.ntmps58
    go_wp2
    go_loop [3] (fun i => ∃ (j : Nat), j ≤ n ∧ i = .int .i64 j ∧ Hid (negB (zs.take j) = false)) (fun i => n - (intOf i).toNat)
    case atStart => exact ⟨0, Nat.zero_le _, rfl, Lib.hid rfl⟩
    case round =>
      obtain ⟨j, hj, rfl, hf⟩ := hrel
      by_cases hlt : j < n
      · have hk : j < zs.length := by have := HN.out; omega
        obtain ⟨b, o, rfl, hb, hc⟩ := hz j _ (List.getElem?_eq_getElem hk)
        have HS := Lib.hid (show negB (zs.take (j + 1)) = decide (zs[j] < 0) by rw [List.take_succ_eq_append_getElem hk, negB_snoc, hf.out]; rfl)
        obtain ⟨x, hx⟩ : ∃ x, x = zs[j] := ⟨_, rfl⟩
        rw [← hx] at hc HS
        clear hx hk
        by_cases h1 : x < 0
        · have hr := Lib.hid (show lnErr zs = 23 by rw [HE2.out, if_pos (negB_take zs (j + 1) (by rw [HS.out]; simpa using h1))])
          go_wp2
          go_ret
          exact ⟨of_int hr.out.symm, rfl⟩
        · have hs2 := Lib.hid (show negB (zs.take (j + 1)) = false by rw [HS.out]; simpa using h1)
          go_wp2
          go_round
          case rel => exact ⟨j + 1, by omega, by go_num, hs2⟩
          case measure => simp [intOf]; omega
      · obtain rfl : j = n := by omega
        have hr := Lib.hid (show lnErr zs = 0 by
          have := hf.out
          rw [HN.out, List.take_length] at this
          rw [HE2.out, this]; rfl)
        go_wp2
        go_ret
        exact ⟨of_int hr.out.symm, rfl⟩

set_option maxHeartbeats 1600000 in
theorem rcheck2_any (A B : Option Addr) (ca cb : Nat) (a b : List Int) (w : World) (hA : IntsIn w A a) (hB : IntsIn w B b) (hla : a.length ≤ maxLen) (hlb : b.length ≤ maxLen) :
    Calls Try.prog 51 #[.slice A a.length ca, .slice B b.length cb] w fun e w' => e = .returned (.int .i64 (alErr a b)) ∧ w = w' := by
  have H1 := Lib.hid (rcheckL_any A ca a w hA hla)
  have H2 := Lib.hid (rcheckL_any B cb b w hB hlb)
  have HE := Lib.hid (show alErr a b = if lnErr a ≠ 0 then lnErr a else lnErr b from rfl)
  obtain ⟨x, hx⟩ : ∃ x, x = lnErr a := ⟨_, rfl⟩
  obtain ⟨y, hy⟩ : ∃ y, y = lnErr b := ⟨_, rfl⟩
  rw [← hx] at H1 HE
  rw [← hy] at H2 HE
  rw [HE.out]
  clear hx hy hA hB hla hlb
  go_enter Try.func51, Try.ntmps51
  go_wp2_with fail
  refine H1.out.mono ?_; rintro e w' ⟨rfl, rfl⟩
  by_cases h : x = 0
  · subst h
    have hd : ((0 : Int) != 0) = false := by decide
    go_wp2_with (first | (refine H2.out.mono ?_; rintro e w' ⟨rfl, rfl⟩))
    go_ret
    exact ⟨of_int (by simp), rfl⟩
  · have hd : (x != 0) = true := by simpa using h
    go_wp2
    go_ret
    exact ⟨of_int (by first | rfl | rw [if_pos h]), rfl⟩

end Go.Proofs.Ytcpfhaoecggflaa
