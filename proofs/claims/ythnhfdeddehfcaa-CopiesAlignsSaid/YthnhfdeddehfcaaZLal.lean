/-
  The specification's Align, and the contract of the law of Align: it returns true (layer 9).
-/
import Derived.Test.YthnhfdeddehfcaaZRal
import Derived.Test.YthnhfdeddehfcaaZPal
import Derived.Test.YthnhfdeddehfcaaZWrk
namespace Go.Proofs.Ythnhfdeddehfcaa
open Go.RowKit

set_option maxRecDepth 100000 in
set_option maxHeartbeats 6400000 in
theorem ralignE_any (A B : Option Addr) (ca cb : Nat) (a b : List Int) (w : World) (hA : IntsIn w A a) (hB : IntsIn w B b) (hla : a.length ≤ maxLen) (hlb : b.length ≤ maxLen) :
    Calls Try.prog 18 #[.slice A a.length ca, .slice B b.length cb] w (GotAl w a b) := by
  have HC1 := Lib.hid (rcheck2_any A B ca cb a b w hA hB hla hlb)
  have HL := Lib.hid (show alErr a b = 0 → a.length ≤ 60 ∧ b.length ≤ 60 from fun h => by
    unfold alErr at h
    split at h
    · rename_i h1; exact absurd h h1
    · rename_i h1; simp at h1; exact ⟨lnErr_60 h1, lnErr_60 h⟩)
  have HAL := Lib.hid (fun h => ralign_any A B ca cb a b w hA hB (HL.out h).1 (HL.out h).2)
  obtain ⟨E, hE⟩ : ∃ E, E = alErr a b := ⟨_, rfl⟩
  have HE := Lib.hid hE
  rw [← hE] at HC1 HL HAL
  obtain ⟨n, hn⟩ : ∃ n, n = a.length := ⟨_, rfl⟩
  obtain ⟨m, hm⟩ : ∃ m, m = b.length := ⟨_, rfl⟩
  rw [← hn] at HC1 HAL ⊢
  rw [← hm] at HC1 HAL ⊢
  clear hE hn hm hA hB hla hlb
  go_enter Try.func18, Try.ntmps18
  go_wp2_with fail
  refine HC1.out.mono ?_; rintro e w' ⟨rfl, rfl⟩
  clear HC1
  by_cases h1 : E = 0
  case neg =>
    have hd : (E != 0) = true := by simpa using h1
    have HG := Lib.hid (show GotAl w a b (.returned (.tuple #[.slice none 0 0, .int .i64 0, .int .i64 E])) w from
      ⟨none, 0, 0, [], by rw [← HE.out, if_pos h1], Lib.hid (by rw [← HE.out, if_pos h1]), Lib.hid rfl, Lib.hid ⟨0, World.ownsRow_nil _ _ _ _⟩, Below.refl _ _⟩)
    go_wp2
    go_ret3
    exact HG.out
  case pos =>
    subst h1
    have hd : ((0 : Int) != 0) = false := by decide
    go_wp2_with fail
    refine (HAL.out (by first | rfl | trivial)).mono ?_; rintro e w1 ⟨A2, k, c2, rfl, hk, hps, hb1⟩
    have HG := Lib.hid (show GotAl w a b (.returned (.tuple #[.slice A2 k c2, .int .i64 (cst a b), .int .i64 0])) w1 from
      ⟨A2, _, c2, pairsQ a b, by rw [← HE.out]; rfl, Lib.hid (by rw [← HE.out]; rfl), hk, hps, hb1⟩)
    clear hps hb1 hk
    go_wp2
    go_ret3
    exact HG.out

/-- pairs as they lie in memory -/
def PairsIn (w : World) (A : Option Addr) (ps : List (Int × Int)) : Prop := ∀ k p, ps[k]? = some p → ∃ g, A = some ⟨g, 0, none⟩ ∧ g < w.heap.size ∧ w.cell? ⟨g, k * 2, none⟩ = some (.int .i64 p.1) ∧ w.cell? ⟨g, k * 2 + 1, none⟩ = some (.int .i64 p.2)
theorem PairsIn.below {w w' : World} {A : Option Addr} {ps : List (Int × Int)} (h : PairsIn w A ps) (hb : Below w.heap.size w w') : PairsIn w' A ps := fun k p hk => by
  obtain ⟨g, e, hlt, h1, h2⟩ := h k p hk
  exact ⟨g, e, Nat.lt_of_lt_of_le hlt hb.size, ((bcell hb).1 _ _ hlt).trans h1, ((bcell hb).1 _ _ hlt).trans h2⟩
theorem own_pairs {w : World} {base : Nat} {A : Option Addr} {k c : Nat} {ps : List (Int × Int)} (h : w.ownsRow base 28 2 (.slice A k c) k (ps.flatMap pairC)) : PairsIn w A ps := fun j p hj => by
  obtain ⟨A2, c2, hv, -, -, h3, h4⟩ := own_slice h
  injection hv with e1 e2 e3
  subst e1 e3
  have f0 := flat_at (f := pairC) (c := 2) (fun _ => rfl) ps j p hj 0 (by omega)
  have f1 := flat_at (f := pairC) (c := 2) (fun _ => rfl) ps j p hj 1 (by omega)
  cases A with
  | none =>
    have h0 := h4 rfl
    have := h.1
    rw [h0] at this
    have hl := (List.getElem?_eq_some_iff.1 hj).1
    rw [flat_len (c := 2) (fun _ => rfl)] at this
    omega
  | some ad =>
    obtain ⟨g, rfl, -, hg, hc⟩ := h3 ad rfl
    exact ⟨g, rfl, hg, hc _ _ f0, hc _ _ f1⟩
theorem nePair (n d : Int) (w : World) : (binOp .neq 28 (.agg #[.int .i64 n, .int .i64 d]) (.agg #[.int .i64 n, .int .i64 d])).run Try.prog w = .ok (.bool false) w := by
  rw [run_neq_struct]
  simp [go_sem]
theorem pairs_120 {a b : List Int} (h : alErr a b = 0) : (pairsQ a b).length ≤ 120 := by
  unfold alErr at h
  split at h
  · rename_i h1; exact absurd h h1
  · rename_i h1
    simp at h1
    have := lnErr_60 h1
    have := lnErr_60 h
    have := prs_len a b (a.length + b.length) 0 0
    unfold pairsQ; omega

set_option maxRecDepth 100000 in
set_option maxHeartbeats 12800000 in
theorem law_caligns (A : Option Addr) (ca : Nat) (a : List Int) (B : Option Addr) (cb : Nat) (b : List Int) (w : World) (hA : IntsIn w A a) (hla : a.length ≤ ca) (hca : ca ≤ maxLen) (hB : IntsIn w B b) (hlb : b.length ≤ cb) (hcb : cb ≤ maxLen) :
    Calls Try.prog 3 #[.slice A a.length ca, .slice B b.length cb] w fun e w' => e = .returned (.bool true) ∧ Below w.heap.size w w' := by
  have HP := Lib.hid (alignP_any A B ca cb a b w hA hB (Nat.le_trans hla hca) (Nat.le_trans hlb hcb))
  have HR := Lib.hid (fun wx (hb : Below w.heap.size w wx) => ralignE_any A B ca cb a b wx (hA.below hb) (hB.below hb) (Nat.le_trans hla hca) (Nat.le_trans hlb hcb))
  have H120 := Lib.hid (show (if alErr a b ≠ 0 then [] else pairsQ a b).length ≤ 120 by
    by_cases h : alErr a b = 0
    · rw [if_neg (by simpa using h)]; exact pairs_120 h
    · rw [if_pos h]; simp)
  unfold GotAl at HP HR
  obtain ⟨E, hE⟩ : ∃ E, E = alErr a b := ⟨_, rfl⟩
  simp only [← hE] at HP HR H120
  obtain ⟨ps, hps⟩ : ∃ ps, ps = if E ≠ 0 then [] else pairsQ a b := ⟨_, rfl⟩
  obtain ⟨C, hC⟩ : ∃ C, C = if E ≠ 0 then 0 else cst a b := ⟨_, rfl⟩
  simp only [← hps, ← hC] at HP HR H120
  obtain ⟨n, hn⟩ : ∃ n, n = a.length := ⟨_, rfl⟩
  obtain ⟨m, hm⟩ : ∃ m, m = b.length := ⟨_, rfl⟩
  rw [← hn] at HP HR ⊢
  rw [← hm] at HP HR ⊢
  clear hps hC hE hn hm hA hB hla hlb hca hcb
  go_enter Try.func3, Try.ntmps3
  go_wp2_with fail
  refine HP.out.mono ?_; rintro e w1 ⟨A1, k1, c1, ps1, rfl, hp1, hk1, ⟨base1, ho1⟩, hb1⟩
  have PI1 := Lib.hid (own_pairs ho1)
  have HB1 := Lib.hid hb1
  have HR := Lib.hid (HR.out w1 hb1)
  clear hb1 ho1 HP
  go_wp2_with fail
  refine HR.out.mono ?_; rintro e w2 ⟨A2, k2, c2, ps2, rfl, hp2, hk2, ⟨base2, ho2⟩, hb2⟩
  have PI2 := Lib.hid (own_pairs ho2)
  have PI1 := Lib.hid (PI1.out.below hb2)
  have HB2 := Lib.hid (below_more HB1.out hb2)
  clear hb2 ho2 HR
  have q1 := hp1.out
  have q2 := hp2.out
  subst q1 q2
  have hkk : k2 = k1 := hk2.out.trans hk1.out.symm
  subst hkk
  have HK := Lib.hid hk1.out
  have hk120 : k2 ≤ 120 := by have := H120.out; have := hk1.out; omega
  clear hp1 hp2 hk1 hk2
  have f1 : (C != C) = false := by simp
  have f2 : (E != E) = false := by simp
  have f3 : ((k2 : Int) != (k2 : Int)) = false := by simp
  have f4 := fun n d wx => nePair n d wx
  have F4 := Lib.hid f4
  clear f4
  go_wp2_with fail
  go_loopw [11] (fun i wr => ∃ j : Nat, j ≤ k2 ∧ i = .int .i64 j ∧ Hid (Below w2.heap.size w2 wr)) (fun i _ => k2 - (intOf i).toNat)
  case atStart => exact ⟨0, Nat.zero_le _, rfl, Lib.hid (Below.refl _ _)⟩
  case round =>
    obtain ⟨j, hj, rfl, hb⟩ := hrel
    by_cases hlt : j < k2
    · have hjl : j < ps2.length := by have := HK.out; omega
      obtain ⟨g1, rfl, hg1, x0, x1⟩ := (PI1.out.below hb.out) j _ (List.getElem?_eq_getElem hjl)
      obtain ⟨g2, rfl, hg2, y0, y1⟩ := (PI2.out.below hb.out) j _ (List.getElem?_eq_getElem hjl)
      obtain ⟨p, hp⟩ : ∃ p, p = ps2[j] := ⟨_, rfl⟩
      rw [← hp] at x0 x1 y0 y1
      obtain ⟨u, v⟩ := p
      dsimp only at x0 x1 y0 y1
      have f4 := fun wx => F4.out u v wx
      clear hp hjl
      go_wp2
      refine wp_region_later (by kernel_rfl) (by kernel_rfl) ?_; (repeat (first | go_big_quiet_step (fail) | quiet_step (fail))); refine wpQuiet_nil ?_; rintro _ ⟨s, rfl⟩
      go_wp2
      go_roundw
      case rel => exact ⟨j + 1, by omega, by go_num, Lib.hid (below_more hb.out s.below)⟩
      case measure => simp [intOf]; omega
    · obtain rfl : j = k2 := by omega
      go_wp2_with fail
      refine (works_any _).mono ?_; rintro e w3 ⟨rfl, hb3⟩
      go_wp2
      go_ret
      exact ⟨rfl, below_more HB2.out (below_more hb.out hb3)⟩

end Go.Proofs.Ythnhfdeddehfcaa
