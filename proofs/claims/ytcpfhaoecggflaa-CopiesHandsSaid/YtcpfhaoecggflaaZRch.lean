/-
  The specification's number of ways to choose (layer 9).
-/
import Derived.Test.YtcpfhaoecggflaaZCho
import Derived.Test.YtcpfhaoecggflaaZHld
import Derived.Test.YtcpfhaoecggflaaZSt2
namespace Go.Proofs.Ytcpfhaoecggflaa
open Go.RowKit

theorem own_base {w : World} {base b' : Nat} {e : TypeId} {size : Nat} {v : Value} {n : Nat} {xs : List Value} (h : w.ownsRow base e size v n xs) (hb : b' ≤ base) : w.ownsRow b' e size v n xs := by
  refine ⟨h.1, ?_⟩
  rcases h.2 with h2 | ⟨g, cap, cur, rfl, h3, h4, h5⟩
  · exact .inl h2
  · exact .inr ⟨g, cap, cur, rfl, Nat.le_trans hb h3, h4, h5⟩

set_option maxRecDepth 100000 in
set_option maxHeartbeats 6400000 in
theorem rchoose_any (n k : Nat) (w : World) (hn : n ≤ 60) (hk : k ≤ n) : Calls Try.prog 68 #[.int .i64 n, .int .i64 k] w fun e w' => e = .returned (.int .i64 (bin n k : Nat)) ∧ Below w.heap.size w w' := by
  obtain ⟨is, his, hzs, hss, hbs⟩ := info_hid infoInt
  go_enter Try.func68, Try.ntmps68
  go_wp2
  obtain ⟨W, hW⟩ : ∃ W, W = w.alloc (.cells #[.int .i64 1] 3) := ⟨_, rfl⟩
  have HBW := Lib.hid (show Below w.heap.size w W from hW ▸ below_alloc _ _)
  have HOW := Lib.hid (show W.ownsRow w.heap.size 3 1 (.slice (some ⟨w.heap.size, 0, none⟩) 1 1) 1 (natC (bin 0) 1) from hW ▸ own_new w [.int .i64 1] 3 1 1 rfl (by unfold maxLen; decide))
  rw [← hW]
  clear hW
  go_loopw [5, 6] (fun v i wr => ∃ j : Nat, j ≤ n ∧ i = .int .i64 ((j : Int) + 1) ∧ Hid (wr.ownsRow w.heap.size 3 1 v (j + 1) (natC (bin j) (j + 1))) ∧ Hid (Below w.heap.size w wr)) (fun _ i _ => n + 1 - (intOf i).toNat)
  case atStart => exact ⟨0, Nat.zero_le _, rfl, HOW, HBW⟩
  case round =>
    obtain ⟨j, hj, rfl, hown, hbw⟩ := hrel
    obtain ⟨wo, hwo⟩ : ∃ wo, wo = wr := ⟨_, rfl⟩
    rw [← hwo] at hown hbw ⊢
    clear hwo
    have HO := hown.out
    obtain ⟨A5, c5, hv, -, hc5, h3, h4⟩ := own_slice HO
    subst hv
    cases A5 with
    | none => have := h4 rfl; omega
    | some ad =>
    obtain ⟨g, rfl, hg0, hg1, -⟩ := h3 ad rfl
    have HG := Lib.hid (show w.heap.size ≤ g from hg0)
    clear HO h3 h4 hg0
    by_cases hlt : j < n
    · have hd : decide ((j : Int) + 1 ≤ (n : Int)) = true := by simp; omega
      have hz0 := Lib.hid (show w.heap.size ≤ wo.heap.size from hbw.out.size)
      go_wp2
      obtain ⟨U, hU⟩ : ∃ U, U = wo.alloc (.cells #[.int .i64 1] 3) := ⟨_, rfl⟩
      have own1 := Lib.hid (show U.ownsRow w.heap.size 3 1 (.slice (some ⟨g, 0, none⟩) (j + 1) c5) (j + 1) (natC (bin j) (j + 1)) from hU ▸ hown.out.alloc _)
      have own2 := Lib.hid (show U.ownsRow wo.heap.size 3 1 (.slice (some ⟨wo.heap.size, 0, none⟩) 1 1) 1 (natC (bin (j + 1)) 1) by
        rw [hU, show natC (bin (j + 1)) 1 = [.int .i64 1] by rw [natC_snoc, bin_zero]; rfl]
        exact own_new wo [.int .i64 1] 3 1 1 rfl (by unfold maxLen; decide))
      have hbU := Lib.hid (show Below w.heap.size w U from hU ▸ hbw.out.alloc hz0.out _)
      have hsU := Lib.hid (show wo.heap.size ≤ U.heap.size by rw [hU]; simp)
      rw [← hU]
      clear hU
      go_loopw [7, 8] (fun v i wq => ∃ k : Nat, k ≤ j ∧ i = .int .i64 ((k : Int) + 1) ∧ Hid (wq.ownsRow w.heap.size 3 1 (.slice (some ⟨g, 0, none⟩) (j + 1) c5) (j + 1) (natC (bin j) (j + 1))) ∧ Hid (wq.ownsRow wo.heap.size 3 1 v (k + 1) (natC (bin (j + 1)) (k + 1))) ∧ Hid (Below w.heap.size w wq) ∧ Hid (wo.heap.size ≤ wq.heap.size)) (fun _ i _ => j + 1 - (intOf i).toNat)
      case atStart => exact ⟨0, Nat.zero_le _, rfl, own1, own2, hbU, Lib.hid hsU.out⟩
      case round =>
        obtain ⟨k, hk, rfl, ho, hv, hb, hs⟩ := hrel
        have HZ0 := Lib.hid hz0.out
        clear own1 own2 hbU hsU hown
        by_cases hlk : k < j
        · have hd2 : decide ((k : Int) + 1 < (j : Int) + 1) = true := by simp; omega
          have c0 : wr.cell? ⟨g, k, none⟩ = some (.int .i64 (bin j k : Int)) := by rw [ho.out.cellAt k (by omega), natC_at _ _ _ (by omega)]
          have c1 : wr.cell? ⟨g, k + 1, none⟩ = some (.int .i64 (bin j (k + 1) : Int)) := by rw [ho.out.cellAt (k + 1) (by omega), natC_at _ _ _ (by omega)]
          have hgl : g < wr.heap.size := (ho.out.lt g rfl).2
          have HBN := Lib.hid (show bin (j + 1) (k + 1) = bin j k + bin j (k + 1) from rfl)
          have b1 := bin_60 (n := j) (k + 1) (by omega)
          have b0 := bin_60 (n := j) k (by omega)
          obtain ⟨x, hx⟩ : ∃ x, x = bin j k := ⟨_, rfl⟩
          obtain ⟨y, hy⟩ : ∃ y, y = bin j (k + 1) := ⟨_, rfl⟩
          rw [← hx] at c0 b0 HBN
          rw [← hy] at c1 b1 HBN
          clear hx hy
          have i1 : (k : Int) + 1 - 1 = (k : Int) := by omega
          have i2 : (k : Int) < ((j + 1 : Nat) : Int) := by omega
          have i3 : (k : Int) + 1 < ((j + 1 : Nat) : Int) := by omega
          have i8 : (k : Int) < (j : Int) + 1 := by omega
          have i9 : (k : Int) + 1 < (j : Int) + 1 := by omega
          have i4 : ((k : Int) + 1).toNat = k + 1 := by omega
          have i5 : 0 ≤ (k : Int) + 1 := by omega
          have i6 : k < j + 1 := by omega
          have i7 : k + 1 < j + 1 := by omega
          have w1 := IntWalk.i64_in ((k : Int) + 1 - 1) (by omega)
          have w2 := IntWalk.i64_in ((x : Int) + (y : Int)) (by omega)
          have w3 := IntWalk.i64_in (k : Int) (by omega)
          rw [i1] at w1
          have w4 : IntKind.i64.wrap ((k : Int) + 1 - 1) = (k : Int) := by rw [i1]; exact w3
          go_wp2
          have HZN := Lib.hid (show wo.heap.size ≤ (wr.alloc (.cells #[.int .i64 ((x : Int) + (y : Int))] 3)).drew.heap.size by have := hs.out; simp; omega)
          have hgo : g < wo.heap.size := hg1
          have HVL := Lib.hid (show ∀ k, u7.ownBlock = some k → wo.heap.size ≤ k ∧ k < wr.heap.size from fun k hk => hv.out.lt k hk)
          have HZA := Lib.hid (show (wr.alloc (.cells #[.int .i64 ((x : Int) + (y : Int))] 3)).drew.cell? ⟨g, k, none⟩ = some (.int .i64 x) ∧ (wr.alloc (.cells #[.int .i64 ((x : Int) + (y : Int))] 3)).drew.cell? ⟨g, k + 1, none⟩ = some (.int .i64 y) from
            ⟨(World.cell?_of_block (a := ⟨g, k, none⟩) (heap_alloc_other _ _ g hgl)).trans c0, (World.cell?_of_block (a := ⟨g, k + 1, none⟩) (heap_alloc_other _ _ g hgl)).trans c1⟩)
          have HXA := Lib.hid (show (wr.alloc (.cells #[.int .i64 ((x : Int) + (y : Int))] 3)).drew.ownsRow wo.heap.size 3 1 u7 (k + 1) (natC (bin (j + 1)) (k + 1)) from (hv.out.alloc _).drew)
          have HNR := Lib.hid (show ∀ ad, (some ⟨wr.heap.size, 0, none⟩ : Option Addr) = some ad → ∀ (j : Nat) u, [Value.int .i64 ((x : Int) + (y : Int))][j]? = some u → (wr.alloc (.cells #[.int .i64 ((x : Int) + (y : Int))] 3)).drew.cell? (ad.add j) = some u from fun ad h j u hj => by
            have h := Option.some.inj h
            subst h
            exact new_cells wr [.int .i64 ((x : Int) + (y : Int))] 3 j u hj)
          have HN1 := Lib.hid (show ∀ u ∈ [Value.int .i64 ((x : Int) + (y : Int))], u.oneCell' = true from fun u hu => by simp at hu; subst hu; rfl)
          refine wp_region_tillZ (fun wx => wx.cell? ⟨g, k, none⟩ = some (.int .i64 x) ∧ wx.cell? ⟨g, k + 1, none⟩ = some (.int .i64 y)) 13 (by kernel_rfl) ?_
          have HS : wr.drew.cell? ⟨g, k, none⟩ = some (.int .i64 x) ∧ wr.drew.cell? ⟨g, k + 1, none⟩ = some (.int .i64 y) := ⟨c0, c1⟩
          refine tillZ_take (i := 0) (v := ?_) rfl (by kernel_rfl) (by kernel_rfl) (by kernel_rfl) (by kernel_rfl) (fun _ _ _ h => h) (Or.inl ⟨by rfl, ?_⟩) HS ?_
          case refine_2 => (intro wx hSw; obtain ⟨s1, s2⟩ := hSw; go_simp; try with_reducible rfl)
          refine tillZ_take (i := 1) (v := ?_) rfl (by kernel_rfl) (by kernel_rfl) (by kernel_rfl) (by kernel_rfl) (fun _ _ _ h => h) (Or.inl ⟨by rfl, ?_⟩) HS ?_
          case refine_2 => (intro wx hSw; obtain ⟨s1, s2⟩ := hSw; go_simp; try with_reducible rfl)
          refine tillZ_take (i := 2) (v := ?_) rfl (by kernel_rfl) (by kernel_rfl) (by kernel_rfl) (by kernel_rfl) (fun _ _ _ h => h) (Or.inl ⟨by rfl, ?_⟩) HS ?_
          case refine_2 => (intro wx hSw; obtain ⟨s1, s2⟩ := hSw; go_simp; try with_reducible rfl)
          refine tillZ_take (i := 3) (v := ?_) rfl (by kernel_rfl) (by kernel_rfl) (by kernel_rfl) (by kernel_rfl) (fun _ _ _ h => h) (Or.inl ⟨by rfl, ?_⟩) HS ?_
          case refine_2 => (intro wx hSw; obtain ⟨s1, s2⟩ := hSw; go_simp; try with_reducible rfl)
          refine tillZ_take (i := 4) (v := ?_) rfl (by kernel_rfl) (by kernel_rfl) (by kernel_rfl) (by kernel_rfl) (fun _ _ _ h => h) (Or.inl ⟨by rfl, ?_⟩) HS ?_
          case refine_2 => (intro wx hSw; obtain ⟨s1, s2⟩ := hSw; go_simp; try with_reducible rfl)
          refine tillZ_take (i := 5) (v := ?_) rfl (by kernel_rfl) (by kernel_rfl) (by kernel_rfl) (by kernel_rfl) (fun _ _ _ h => h) (Or.inl ⟨by rfl, ?_⟩) HS ?_
          case refine_2 => (intro wx hSw; obtain ⟨s1, s2⟩ := hSw; go_simp; try with_reducible rfl)
          refine tillZ_take (i := 6) (v := ?_) rfl (by kernel_rfl) (by kernel_rfl) (by kernel_rfl) (by kernel_rfl) (fun _ _ _ h => h) (Or.inl ⟨by rfl, ?_⟩) HS ?_
          case refine_2 => (intro wx hSw; obtain ⟨s1, s2⟩ := hSw; go_simp; try with_reducible rfl)
          refine tillZ_take (i := 7) (v := ?_) rfl (by kernel_rfl) (by kernel_rfl) (by kernel_rfl) (by kernel_rfl) (fun _ _ _ h => h) (Or.inl ⟨by rfl, ?_⟩) HS ?_
          case refine_2 => (intro wx hSw; obtain ⟨s1, s2⟩ := hSw; go_simp; try with_reducible rfl)
          refine tillZ_take (i := 8) (v := ?_) rfl (by kernel_rfl) (by kernel_rfl) (by kernel_rfl) (by kernel_rfl) (fun _ _ _ h => h) (Or.inl ⟨by rfl, ?_⟩) HS ?_
          case refine_2 => (intro wx hSw; obtain ⟨s1, s2⟩ := hSw; go_simp; try with_reducible rfl)
          refine tillZ_take (i := 9) (v := ?_) rfl (by kernel_rfl) (by kernel_rfl) (by kernel_rfl) (by kernel_rfl) (fun _ _ _ h => h) (Or.inl ⟨by rfl, ?_⟩) HS ?_
          case refine_2 => (intro wx hSw; obtain ⟨s1, s2⟩ := hSw; go_simp; try with_reducible rfl)
          refine tillZ_take (i := 10) (v := ?_) rfl (by kernel_rfl) (by kernel_rfl) (by kernel_rfl) (by kernel_rfl) (fun _ _ _ h => h) (Or.inl ⟨by rfl, ?_⟩) HS ?_
          case refine_2 => (intro wx hSw; obtain ⟨s1, s2⟩ := hSw; go_simp; try with_reducible rfl)
          refine tillZ_step (i := 11) (by kernel_rfl) rfl (fun K hK => ?_)
          go_simp
          refine hK.out _ _ (.inr HZA.out) ?_
          clear hK K HS
          clear w1 w2 w3 w4 i1
          refine tillZ_step (i := 12) (by kernel_rfl) rfl (fun K hK => ?_)
          refine step_append_src2 _ rfl (.tmp 21) (.tmp 32) 22 rfl wo.heap.size 3 is (.int .i64 0) 1 8 Try.underlying22 his.out hzs.out hss.out hbs.out rfl (by decide) u7 (k + 1) (natC (bin (j + 1)) (k + 1)) rfl HXA.out (some ⟨wr.heap.size, 0, none⟩) 1 1 [.int .i64 ((x : Int) + (y : Int))] rfl rfl (fun h => by cases h) HNR.out HN1.out (by unfold maxLen; omega) (by omega) HZN.out (k + 1 + 1) rfl ?_
          intro A9 c9 w9 own9 hg9 hn9
          have k1 := (World.cell?_of_block (a := ⟨g, k, none⟩) (hg9.block g (by simp; omega) (fun e => by have := (HVL.out g e.symm).1; omega))).trans HZA.out.1
          have k2 := (World.cell?_of_block (a := ⟨g, k + 1, none⟩) (hg9.block g (by simp; omega) (fun e => by have := (HVL.out g e.symm).1; omega))).trans HZA.out.2
          have HOR := Lib.hid (show w9.ownsRow w.heap.size 3 1 (.slice (some ⟨g, 0, none⟩) (j + 1) c5) (j + 1) (natC (bin j) (j + 1)) from ownsRow_of_block ((ho.out.alloc (.cells #[.int .i64 ((x : Int) + (y : Int))] 3)).drew) (fun q hq => by
            have hq : some g = some q := hq
            injection hq with hq; subst hq
            exact hg9.block g (by simp; omega) (fun e => by have := (HVL.out g e.symm).1; omega)))
          have HO9 := Lib.hid (show w9.ownsRow wo.heap.size 3 1 (.slice A9 (k + 1 + 1) c9) (k + 1 + 1) (natC (bin (j + 1)) (k + 1 + 1)) by
            rw [natC_snoc, HBN.out, Int.natCast_add]; exact own9)
          have HZB := Lib.hid (show w.heap.size ≤ wr.heap.size from hb.out.size)
          have HB9 := Lib.hid (((hb.out.alloc HZB.out (.cells #[.int .i64 ((x : Int) + (y : Int))] 3)).drew).grown hg9 (by have := HZB.out; simp; omega) (fun q hq => by have := (HVL.out q hq).1; have := HZ0.out; omega))
          have HS9 := Lib.hid (show wo.heap.size ≤ w9.heap.size by have := hg9.size; have := hs.out; simp at *; omega)
          clear own9 hg9 hn9
          refine hK.out _ _ (.inr ⟨k1, k2⟩) ?_
          clear hK K
          refine tillZ_step (i := 13) (by kernel_rfl) rfl (fun K hK => ?_)
          go_simp
          refine hK.out _ _ (.inl rfl) ?_
          clear hK K
          refine tillZ_done (by kernel_rfl) ?_ _
          go_wp2
          go_roundw
          case rel => exact ⟨k + 1, by omega, by go_num, HOR, HO9, HB9, HS9⟩
          case measure => simp [intOf]; omega
        · obtain rfl : k = j := by omega
          have hd2 : decide ((k : Int) + 1 < (k : Int) + 1) = false := by simp
          have own2 := Lib.hid (hv.out.alloc (.cells #[.int .i64 1] 3))
          have HV7 := Lib.hid (show ∀ q, u7.ownBlock = some q → wo.heap.size ≤ q ∧ q < wr.heap.size from fun q hq => hv.out.lt q hq)
          go_wp2_with (first
            | (at_builtin; refine wpList_append_src _ rfl (.tmp 34) (.tmp 35) 22 rfl wo.heap.size 3 is (.int .i64 0) 1 8 Try.underlying22 his.out hzs.out hss.out hbs.out rfl (by decide) u7 (k + 1) (natC (bin (k + 1)) (k + 1)) rfl own2.out (some ⟨wr.heap.size, 0, none⟩) 1 1 [.int .i64 1] rfl rfl ?n2 ?c2 ?o2 ?m2 ?b2 ?s2 (k + 1 + 1) rfl ?_))
          case n2 => intro h; cases h
          case o2 => intro x hx; simp at hx; subst hx; rfl
          case m2 => unfold maxLen; omega
          case b2 => omega
          case s2 => have := hs.out; simp; omega
          case c2 =>
            intro ad had i u' hj
            have had := Option.some.inj had
            subst had
            exact new_cells wr [.int .i64 1] 3 i u' hj
          · intro A9 c9 w9 own9 hg9 _
            have HZB := Lib.hid (show w.heap.size ≤ wr.heap.size from hb.out.size)
            have HB9 := Lib.hid ((hb.out.alloc HZB.out (.cells #[.int .i64 1] 3)).grown hg9 (by have := HZB.out; simp; omega) (fun q hq => by have := (HV7.out q hq).1; have := HZ0.out; omega))
            have HO9 := Lib.hid (show w9.ownsRow w.heap.size 3 1 (.slice A9 (k + 1 + 1) c9) (k + 1 + 1) (natC (bin (k + 1)) (k + 1 + 1)) by
              rw [natC_snoc, show ((bin (k + 1) (k + 1) : Nat) : Int) = 1 by rw [bin_self]; rfl]
              exact own_base own9 HZ0.out)
            clear own9 hg9 own2
            go_wp2
            go_roundw
            case rel => exact ⟨k + 1, by omega, by go_num, HO9, HB9⟩
            case measure => simp [intOf]; omega
    · obtain rfl : j = n := by omega
      have hd : decide ((j : Int) + 1 ≤ (j : Int)) = false := by simp; omega
      have c0 : wo.cell? ⟨g, k, none⟩ = some (.int .i64 (bin j k : Int)) := by rw [hown.out.cellAt k (by omega), natC_at _ _ _ (by omega)]
      have i1 : (k : Int) < ((j + 1 : Nat) : Int) := by omega
      have i2 : (k : Int) < (j : Int) + 1 := by omega
      go_wp2
      go_ret
      exact ⟨rfl, hbw.out⟩

end Go.Proofs.Ytcpfhaoecggflaa
