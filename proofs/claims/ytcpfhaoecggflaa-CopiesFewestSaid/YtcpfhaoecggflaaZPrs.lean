/-
  The program's pairs of an alignment, and its cost (layer 9).
-/
import Derived.Test.YtcpfhaoecggflaaZNxt
namespace Go.Proofs.Ytcpfhaoecggflaa
open Go.RowKit

def pairC (p : Int × Int) : List Value := [.int .i64 p.1, .int .i64 p.2]
theorem infoPair : (Try.prog.info? 28).map (fun i => (i.zero, i.size, i.bytes)) = some (some (.agg #[.int .i64 0, .int .i64 0]), 2, 16) := by kernel_rfl
/-- a row of pairs that the call made -/
def GotPairs (w : World) (ps : List (Int × Int)) (e : Ending) (w' : World) : Prop :=
  ∃ A c, e = .returned (.slice A ps.length c) ∧ Hid (w'.ownsRow w.heap.size 28 2 (.slice A ps.length c) ps.length (ps.flatMap pairC)) ∧ Below w.heap.size w w'

set_option maxHeartbeats 1600000 in
theorem cost_any (g : Nat) (a b : List Int) (A B : Option Addr) (ca cb : Nat) (w : World) (h : AlAt w g a b A B ca cb (fun _ _ => True)) :
    Calls Try.prog 50 #[.pointer (some ⟨g, 0, none⟩)] w fun e w' => e = .returned (.int .i64 (cst a b)) ∧ w = w' := by
  have r0 := h.rest 0 0 (Nat.zero_le _) (Nat.zero_le _) trivial
  have r1 : w.cell? ⟨g, 2, none⟩ = some (.int .i64 (cst a b)) := r0
  clear r0
  go_enter Try.func50, Try.ntmps50
  go_wp2
  go_ret
  exact ⟨rfl, rfl⟩

theorem adv_at (p : Int) (i : Nat) (h : p = -1 ∨ p = (i : Int)) : (p = -1 ∧ adv p i = i) ∨ (p = (i : Int) ∧ adv p i = i + 1) := by
  unfold adv
  rcases h with rfl | rfl
  · exact .inl ⟨rfl, rfl⟩
  · exact .inr ⟨rfl, if_neg (by omega)⟩

theorem nat_ne (p : Nat) : ((p : Int) != -1) = true := by simp
theorem pair_some {a : Addr} {n : Nat} : (some a : Option Addr) = none → n = 0 := fun h => by cases h
theorem pair_one (x y : Int) : ∀ u ∈ [Value.int .i64 x, .int .i64 y], u.oneCell' = true := fun u hu => by
  simp at hu
  rcases hu with rfl | rfl <;> rfl
theorem pair_new (w : World) (o : Obj) (x y : Int) : ∀ ad, (some ⟨w.heap.size + 1, 0, none⟩ : Option Addr) = some ad → ∀ (j : Nat) u, [Value.int .i64 x, .int .i64 y][j]? = some u → ((w.alloc o).alloc (.cells #[.int .i64 x, .int .i64 y] 28)).cell? (ad.add j) = some u := fun ad h j u hj => by
  have h := Option.some.inj h
  subst h
  have := new_cells (w.alloc o) [.int .i64 x, .int .i64 y] 28 j u hj
  simpa using this
theorem below_two {B : Nat} {w w1 : World} (h : B ≤ w1.heap.size) (hb : Below B w w1) (o o' : Obj) : Below B w ((w1.alloc o).alloc o') := (hb.alloc h o).alloc (by simp; omega) o'

set_option maxHeartbeats 6400000 in
set_option maxRecDepth 100000 in
theorem pairs_any (g : Nat) (a b : List Int) (A B : Option Addr) (ca cb : Nat) (w : World) (h : AlAt w g a b A B ca cb (fun _ _ => True)) :
    Calls Try.prog 49 #[.pointer (some ⟨g, 0, none⟩)] w (GotPairs w (pairsQ a b)) := by
  have la := h.la
  have lb := h.lb
  have HH := Lib.hid h
  have hgl := h.lt
  obtain ⟨n, hn⟩ : ∃ n, n = a.length := ⟨_, rfl⟩
  obtain ⟨m, hm⟩ : ∃ m, m = b.length := ⟨_, rfl⟩
  have HN := Lib.hid hn
  have HM := Lib.hid hm
  rw [← hn] at la
  rw [← hm] at lb
  clear hn hm h
  obtain ⟨ip, hip, hzp, hsp, hbp⟩ := info_hid infoPair
  go_enter Try.func49, Try.ntmps49
  go_wp2
  go_loopw [3, 4, 5] (fun v i j wr => ∃ (p q f k : Nat) (ps : List (Int × Int)), i = .int .i64 p ∧ j = .int .i64 q ∧ p ≤ n ∧ q ≤ m ∧ k ≤ p + q ∧ Hid (n - p + (m - q) ≤ f) ∧ Hid (ps ++ prs a b f p q = pairsQ a b) ∧ Hid (k = ps.length) ∧ Hid (wr.ownsRow w.heap.size 28 2 v k (ps.flatMap pairC)) ∧ Hid (Below w.heap.size w wr)) (fun _ i j _ => n + m - (intOf i).toNat - (intOf j).toNat)
  case atStart => exact ⟨0, 0, n + m, 0, [], rfl, rfl, Nat.zero_le _, Nat.zero_le _, Nat.le_refl _, Lib.hid (by omega), Lib.hid (by rw [HN.out, HM.out]; rfl), Lib.hid rfl, Lib.hid (by simpa using World.ownsRow_nil _ _ _ _), Lib.hid (Below.refl _ _)⟩
  case round =>
    obtain ⟨p, q, f, k, ps, rfl, rfl, hp, hq, hkk, hf, hps, hk, hown, hb⟩ := hrel
    have c0 := (HH.out.below hb.out).c0
    have c1 := (HH.out.below hb.out).c1
    rw [← HN.out] at c0
    rw [← HM.out] at c1
    have hgr : g < wr.heap.size := Nat.lt_of_lt_of_le hgl hb.out.size
    by_cases hend : p < n ∨ q < m
    · have HX := Lib.hid (next_any g a b A B ca cb p q wr (HH.out.below hb.out) (by have := HN.out; omega) (by have := HM.out; omega))
      obtain ⟨hok, hx1, hx2⟩ := nxt_ok a b p q (by have := HN.out; have := HM.out; omega)
      have HS := Lib.hid (fun f' => prs_step a b f' p q (by have := HN.out; have := HM.out; omega))
      obtain ⟨⟨x, y⟩, hxy⟩ : ∃ r, r = nxt a b p q := ⟨_, rfl⟩
      rw [← hxy] at HX hok hx1 hx2 HS
      clear hxy
      dsimp only at HX hok hx1 hx2 HS
      cases f with
      | zero => have := hf.out; omega
      | succ f =>
      unfold okP at hok
      rcases adv_at x p (by rcases hx1 with h | h; exact .inl h; exact .inr h.1) with ⟨rfl, ex⟩ | ⟨rfl, ex⟩
      · rcases adv_at y q (by rcases hx2 with h | h; exact .inl h; exact .inr h.1) with ⟨rfl, ey⟩ | ⟨rfl, ey⟩
        · exact absurd ⟨rfl, rfl⟩ hok.2.2
        · have hq2 : q < m := by have := HM.out; omega
          have hp1 : ((-1 : Int) != -1) = false := by decide
          have hp2 : ((q : Int) != -1) = true := nat_ne q
          rw [ex, ey] at HS
          clear hx1 hx2 ex ey hend
          have hps2 := Lib.hid (show (ps ++ [(-1, (q : Int))]) ++ prs a b f p (q + 1) = pairsQ a b by
            rw [← hps.out, HS.out f, List.append_assoc]; rfl)
          have hkk2 : k + 1 ≤ p + (q + 1) := by omega
          have hpp : p ≤ n := by omega
          have hqq : (q + 1) ≤ m := by omega
          have hff := Lib.hid (show n - p + (m - (q + 1)) ≤ f by have := hf.out; omega)
          have HP1 := Lib.hid hp1
          have HP2 := Lib.hid hp2
          clear hps hf hok HS hp1 hp2
          by_cases hpn : p < n
          all_goals
            have f1 := HP1.out
            have f2 := HP2.out
            go_wp2_with (first
              | (go_at_call 86; refine HX.out.mono ?_; rintro e w1 ⟨rfl, hb1⟩; have HB1 := Lib.hid hb1; have hz1 := hb1.size; have own1 := Lib.hid (((own_below hown.out hb1).alloc (.cells #[.int .i64 (-1), .int .i64 ((q : Int))] 28)).alloc (.cells #[.int .i64 (-1), .int .i64 ((q : Int))] 28)); have hzw := Lib.hid (show w.heap.size ≤ w1.heap.size from Nat.le_trans hb.out.size hz1); clear hb1)
              | (at_builtin; refine wpList_append_src _ rfl (.tmp 37) (.tmp 39) 23 rfl w.heap.size 28 ip (.agg #[.int .i64 0, .int .i64 0]) 2 16 Try.underlying23 hip.out hzp.out hsp.out hbp.out rfl (by decide) u3 k (ps.flatMap pairC) rfl own1.out (some ⟨w1.heap.size + 1, 0, none⟩) 1 1 [.int .i64 (-1), .int .i64 ((q : Int))] rfl rfl pair_some (pair_new w1 _ _ _) (pair_one _ _) (by unfold maxLen; omega) (by omega) (by have := hzw.out; simp; omega) (k + 1) rfl ?_))
            intro A3 c3 w3 own3 hg3 _
            have b3 := Lib.hid ((below_two hzw.out (below_more hb.out HB1.out) (.cells #[.int .i64 (-1), .int .i64 ((q : Int))] 28) (.cells #[.int .i64 (-1), .int .i64 ((q : Int))] 28)).grown hg3 (by have := hzw.out; simp; omega) (fun g hg => (own1.out.lt g hg).1))
            have own3 := Lib.hid own3
            clear hg3
            go_wp2
            go_roundw
            case rel => exact ⟨p, (q + 1), f, k + 1, ps ++ [(-1, (q : Int))], by go_num, by go_num, hpp, hqq, hkk2, hff, hps2, Lib.hid (by rw [List.length_append, ← hk.out]; rfl), Lib.hid (by rw [List.flatMap_append]; exact own3.out), b3⟩
            case measure => simp [intOf]; omega
      · have hp3 : p < n := by have := HN.out; omega
        rcases adv_at y q (by rcases hx2 with h | h; exact .inl h; exact .inr h.1) with ⟨rfl, ey⟩ | ⟨rfl, ey⟩
        · have hp1 : ((p : Int) != -1) = true := nat_ne p
          have hp2 : ((-1 : Int) != -1) = false := by decide
          rw [ex, ey] at HS
          clear hx1 hx2 ex ey hend
          have hps2 := Lib.hid (show (ps ++ [((p : Int), -1)]) ++ prs a b f (p + 1) q = pairsQ a b by
            rw [← hps.out, HS.out f, List.append_assoc]; rfl)
          have hkk2 : k + 1 ≤ (p + 1) + q := by omega
          have hpp : (p + 1) ≤ n := by omega
          have hqq : q ≤ m := by omega
          have hff := Lib.hid (show n - (p + 1) + (m - q) ≤ f by have := hf.out; omega)
          have HP1 := Lib.hid hp1
          have HP2 := Lib.hid hp2
          clear hps hf hok HS hp1 hp2
          all_goals
            have f1 := HP1.out
            have f2 := HP2.out
            go_wp2_with (first
              | (go_at_call 86; refine HX.out.mono ?_; rintro e w1 ⟨rfl, hb1⟩; have HB1 := Lib.hid hb1; have hz1 := hb1.size; have own1 := Lib.hid (((own_below hown.out hb1).alloc (.cells #[.int .i64 ((p : Int)), .int .i64 (-1)] 28)).alloc (.cells #[.int .i64 ((p : Int)), .int .i64 (-1)] 28)); have hzw := Lib.hid (show w.heap.size ≤ w1.heap.size from Nat.le_trans hb.out.size hz1); clear hb1)
              | (at_builtin; refine wpList_append_src _ rfl (.tmp 37) (.tmp 39) 23 rfl w.heap.size 28 ip (.agg #[.int .i64 0, .int .i64 0]) 2 16 Try.underlying23 hip.out hzp.out hsp.out hbp.out rfl (by decide) u3 k (ps.flatMap pairC) rfl own1.out (some ⟨w1.heap.size + 1, 0, none⟩) 1 1 [.int .i64 ((p : Int)), .int .i64 (-1)] rfl rfl pair_some (pair_new w1 _ _ _) (pair_one _ _) (by unfold maxLen; omega) (by omega) (by have := hzw.out; simp; omega) (k + 1) rfl ?_))
            intro A3 c3 w3 own3 hg3 _
            have b3 := Lib.hid ((below_two hzw.out (below_more hb.out HB1.out) (.cells #[.int .i64 ((p : Int)), .int .i64 (-1)] 28) (.cells #[.int .i64 ((p : Int)), .int .i64 (-1)] 28)).grown hg3 (by have := hzw.out; simp; omega) (fun g hg => (own1.out.lt g hg).1))
            have own3 := Lib.hid own3
            clear hg3
            go_wp2
            go_roundw
            case rel => exact ⟨(p + 1), q, f, k + 1, ps ++ [((p : Int), -1)], by go_num, by go_num, hpp, hqq, hkk2, hff, hps2, Lib.hid (by rw [List.length_append, ← hk.out]; rfl), Lib.hid (by rw [List.flatMap_append]; exact own3.out), b3⟩
            case measure => simp [intOf]; omega
        · have hq2 : q < m := by have := HM.out; omega
          have hp1 : ((p : Int) != -1) = true := nat_ne p
          have hp2 : ((q : Int) != -1) = true := nat_ne q
          rw [ex, ey] at HS
          clear hx1 hx2 ex ey hend
          have hps2 := Lib.hid (show (ps ++ [((p : Int), (q : Int))]) ++ prs a b f (p + 1) (q + 1) = pairsQ a b by
            rw [← hps.out, HS.out f, List.append_assoc]; rfl)
          have hkk2 : k + 1 ≤ (p + 1) + (q + 1) := by omega
          have hpp : (p + 1) ≤ n := by omega
          have hqq : (q + 1) ≤ m := by omega
          have hff := Lib.hid (show n - (p + 1) + (m - (q + 1)) ≤ f by have := hf.out; omega)
          have HP1 := Lib.hid hp1
          have HP2 := Lib.hid hp2
          clear hps hf hok HS hp1 hp2
          all_goals
            have f1 := HP1.out
            have f2 := HP2.out
            go_wp2_with (first
              | (go_at_call 86; refine HX.out.mono ?_; rintro e w1 ⟨rfl, hb1⟩; have HB1 := Lib.hid hb1; have hz1 := hb1.size; have own1 := Lib.hid (((own_below hown.out hb1).alloc (.cells #[.int .i64 ((p : Int)), .int .i64 ((q : Int))] 28)).alloc (.cells #[.int .i64 ((p : Int)), .int .i64 ((q : Int))] 28)); have hzw := Lib.hid (show w.heap.size ≤ w1.heap.size from Nat.le_trans hb.out.size hz1); clear hb1)
              | (at_builtin; refine wpList_append_src _ rfl (.tmp 37) (.tmp 39) 23 rfl w.heap.size 28 ip (.agg #[.int .i64 0, .int .i64 0]) 2 16 Try.underlying23 hip.out hzp.out hsp.out hbp.out rfl (by decide) u3 k (ps.flatMap pairC) rfl own1.out (some ⟨w1.heap.size + 1, 0, none⟩) 1 1 [.int .i64 ((p : Int)), .int .i64 ((q : Int))] rfl rfl pair_some (pair_new w1 _ _ _) (pair_one _ _) (by unfold maxLen; omega) (by omega) (by have := hzw.out; simp; omega) (k + 1) rfl ?_))
            intro A3 c3 w3 own3 hg3 _
            have b3 := Lib.hid ((below_two hzw.out (below_more hb.out HB1.out) (.cells #[.int .i64 ((p : Int)), .int .i64 ((q : Int))] 28) (.cells #[.int .i64 ((p : Int)), .int .i64 ((q : Int))] 28)).grown hg3 (by have := hzw.out; simp; omega) (fun g hg => (own1.out.lt g hg).1))
            have own3 := Lib.hid own3
            clear hg3
            go_wp2
            go_roundw
            case rel => exact ⟨(p + 1), (q + 1), f, k + 1, ps ++ [((p : Int), (q : Int))], by go_num, by go_num, hpp, hqq, hkk2, hff, hps2, Lib.hid (by rw [List.length_append, ← hk.out]; rfl), Lib.hid (by rw [List.flatMap_append]; exact own3.out), b3⟩
            case measure => simp [intOf]; omega
    · have hnp : ¬ p < n := fun h => hend (.inl h)
      have hnq : ¬ q < m := fun h => hend (.inr h)
      have he := Lib.hid (show ps = pairsQ a b by rw [← hps.out, prs_end a b f p q (by have := HN.out; omega) (by have := HM.out; omega), List.append_nil])
      have e1 := hk.out
      have e2 := he.out
      subst e1 e2
      have HO := hown.out
      obtain ⟨A4, c4, hv, -, -, -, -⟩ := own_slice HO
      subst hv
      clear he hk hps
      go_wp2
      go_ret
      exact ⟨A4, c4, rfl, Lib.hid HO, hb.out⟩

end Go.Proofs.Ytcpfhaoecggflaa
