/-
  Contract of the specification's Bearers.
-/
import Derived.Test.YthnhpgmohhaeaaaDoorUse
import Derived.Test.YthnhpgmohhaeaaaDoorRchk
namespace Go.Proofs.YthnhpgmohhaeaaaDoor
open Go.RowKit

set_option maxHeartbeats 1600000 in
set_option maxRecDepth 100000 in
theorem rbearers_any (l : Lm) (kd : Int) (t : ByteArray) (p : Int) (w : World) (hl : LmOk w l) (hsm : l.ms.length ≤ 1000000) (hvm : ∀ m ∈ l.ms, m.s.vals.length ≤ 1000000) :
    Calls Tryd.prog 26 #[l.val, .int .i64 kd, .string t, .int .i64 p] w (GotIntsE w (bearersR l.li kd t p)) := by
  have hs := hl.signs
  have H0 := Lib.hid (show LmOk (w.alloc (.cells #[.int .i64 l.per, .slice l.A l.ms.length l.cap] 24)) l from hl.below (below_alloc _ _))
  have HCK := Lib.hid (fun (w : World) (hl : LmOk w l) (r : Int) (h : checkErr l.li = r) => show Calls Tryd.prog 18 #[l.val] w (fun e w' => e = .returned (.int .i64 r) ∧ Below w.heap.size w w') by rw [← h]; exact rcheck_any l w hl)
  obtain ⟨LI, hLI⟩ : ∃ LI, LI = l.li := ⟨_, rfl⟩
  have HLP := Lib.hid (show LI.per = l.per by rw [hLI]; rfl)
  have HLS := Lib.hid (show LI.signs = l.ms.map (·.s) by rw [hLI]; rfl)
  rw [← hLI] at HCK ⊢
  clear hLI
  obtain ⟨per, ms, A, cap⟩ := l
  obtain ⟨-, hlen, hcap⟩ := hl
  dsimp only at hs hlen hcap hsm hvm H0 HLP HLS
  unfold Lm.val at HCK ⊢
  dsimp only at HCK ⊢
  obtain ⟨n, hn⟩ : ∃ n, n = ms.length := ⟨_, rfl⟩
  rw [← hn] at hlen hsm H0 HCK ⊢
  have hcap' := hcap
  unfold maxLen at hcap'
  have HN := Lib.hid hn
  have HSM := Lib.hid hsm
  have C0 := Lib.hid (heap_alloc_new w (.cells #[.int .i64 per, .slice A n cap] 24))
  clear hn hsm
  obtain ⟨is, his, hzs, hss, hbs⟩ := info_hid infoInt
  obtain ⟨E, hE⟩ : ∃ E, E = checkErr LI := ⟨_, rfl⟩
  have HE := Lib.hid hE.symm
  by_cases h0 : E = 0
  case neg =>
    have hb : (E != 0) = true := by simpa using h0
    have HF := Lib.hid (show bearersR LI kd t p = ([], E) by unfold bearersR; rw [HE.out, if_pos h0])
    clear hE h0
    go_enter Tryd.func26, Tryd.ntmps26
    go_wp2_with fail
    refine (HCK.out _ H0.out E HE.out).mono ?_; rintro e w1 ⟨rfl, hb1⟩
    go_wp2
    go_ret2
    rw [HF.out]
    exact ⟨none, 0, rfl, ints_nil _, fun _ => rfl, below_of hb1⟩
  subst h0
  clear hE
  have HG := Lib.hid (show bearersR LI kd t p = if kindB kd = false then ([], 1) else if withinB p per = false then ([], 13) else (bearFrom kd t p 0 (ms.map (·.s)), 0) by
    unfold bearersR; rw [HE.out, HLP.out, HLS.out]; rfl)
  by_cases hk1 : kd < 1
  · have HF := Lib.hid (show bearersR LI kd t p = ([], 1) by rw [HG.out, if_pos]; simp [kindB]; omega)
    go_enter Tryd.func26, Tryd.ntmps26
    go_wp2_with fail
    refine (HCK.out _ H0.out 0 HE.out).mono ?_; rintro e w1 ⟨rfl, hb1⟩
    go_wp2
    go_ret2
    rw [HF.out]
    exact ⟨none, 0, rfl, ints_nil _, fun _ => rfl, below_of hb1⟩
  by_cases hk2 : 3 < kd
  · have HF := Lib.hid (show bearersR LI kd t p = ([], 1) by rw [HG.out, if_pos]; simp [kindB]; omega)
    go_enter Tryd.func26, Tryd.ntmps26
    go_wp2_with fail
    refine (HCK.out _ H0.out 0 HE.out).mono ?_; rintro e w1 ⟨rfl, hb1⟩
    go_wp2
    go_ret2
    rw [HF.out]
    exact ⟨none, 0, rfl, ints_nil _, fun _ => rfl, below_of hb1⟩
  have HG2 := Lib.hid (show bearersR LI kd t p = if withinB p per = false then ([], 13) else (bearFrom kd t p 0 (ms.map (·.s)), 0) by
    rw [HG.out, if_neg]; simp [kindB]; omega)
  by_cases hp1 : p < 1
  · have HF := Lib.hid (show bearersR LI kd t p = ([], 13) by rw [HG2.out, if_pos]; simp [withinB]; omega)
    go_enter Tryd.func26, Tryd.ntmps26
    go_wp2_with fail
    refine (HCK.out _ H0.out 0 HE.out).mono ?_; rintro e w1 ⟨rfl, hb1⟩
    have x0 := cell_of_blk (blk_keep hb1 C0.out) 0
    simp at x0
    go_wp2
    go_ret2
    rw [HF.out]
    exact ⟨none, 0, rfl, ints_nil _, fun _ => rfl, below_of hb1⟩
  by_cases hp2 : per < p
  · have HF := Lib.hid (show bearersR LI kd t p = ([], 13) by rw [HG2.out, if_pos]; simp [withinB]; omega)
    go_enter Tryd.func26, Tryd.ntmps26
    go_wp2_with fail
    refine (HCK.out _ H0.out 0 HE.out).mono ?_; rintro e w1 ⟨rfl, hb1⟩
    have x0 := cell_of_blk (blk_keep hb1 C0.out) 0
    simp at x0
    go_wp2
    go_ret2
    rw [HF.out]
    exact ⟨none, 0, rfl, ints_nil _, fun _ => rfl, below_of hb1⟩
  have HF := Lib.hid (show bearersR LI kd t p = (bearFrom kd t p 0 (ms.map (·.s)), 0) by rw [HG2.out, if_neg]; simp [withinB]; omega)
  rw [HF.out]
  clear HG HG2 HF HLS HLP
  go_enter Tryd.func26, Tryd.ntmps26
  go_wp2_with fail
  refine (HCK.out _ H0.out 0 HE.out).mono ?_; rintro e W ⟨rfl, hb1⟩
  have HWb := Lib.hid (below_of hb1)
  have HB0 := Lib.hid (blk_keep hb1 C0.out)
  have HWs := Lib.hid (show w.heap.size + 1 ≤ W.heap.size by have := hb1.size; simpa using this)
  have x0 := cell_of_blk HB0.out 0
  have x1 := cell_of_blk HB0.out 1
  simp at x0 x1
  clear hb1
  go_wp2
  go_loopw [11, 12] (fun v i wr => ∃ j c : Nat, j ≤ n ∧ c ≤ j ∧ i = .int .i64 j ∧ Hid (Below W.heap.size W wr) ∧ Hid (c = (bearFrom kd t p 0 ((ms.map (·.s)).take j)).length) ∧ Hid (wr.ownsRow W.heap.size 3 1 v c ((bearFrom kd t p 0 ((ms.map (·.s)).take j)).map (Value.int .i64)))) (fun _ i _ => n - (intOf i).toNat)
  case atStart => exact ⟨0, 0, Nat.zero_le _, Nat.le_refl _, rfl, Lib.hid (Below.refl _ _), Lib.hid (by simp [bearFrom]), Lib.hid (by simpa [bearFrom] using World.ownsRow_nil _ _ _ _)⟩
  case round =>
    obtain ⟨j, c, hj, hcj, rfl, hb, hlc, hown⟩ := hrel
    have hw1 := Lib.hid (below_more HWb.out hb.out)
    have hsz : w.heap.size < wr.heap.size := by have := hb.out.size; have := HWs.out; omega
    have B0 := Lib.hid (blk_keep hb.out HB0.out)
    have x0 := cell_of_blk B0.out 0
    have x1 := cell_of_blk B0.out 1
    simp at x0 x1
    by_cases hlt : j < n
    · have hget : ms[j]? = some (ms[j]'(by have := HN.out; omega)) := List.getElem?_eq_getElem _
      obtain ⟨u, hu⟩ : ∃ u, u = ms[j]'(by have := HN.out; omega) := ⟨_, rfl⟩
      rw [← hu] at hget
      obtain ⟨b, o, hA, hb1, hva, hok⟩ := hs j u hget
      subst hA
      obtain ⟨y0, y1, y2, y3, y4⟩ := hva.below hw1.out hb1
      have hokr := Lib.hid (hok.below hw1.out)
      have HV := Lib.hid (hvm u (List.mem_of_getElem? hget))
      have GET := Lib.hid (show (ms.map (·.s))[j]? = some u.s by rw [List.getElem?_map, hget]; rfl)
      have hsb : b < wr.heap.size := by omega
      have hsnd := Lib.hid (show bearFrom kd t p 0 ((ms.map (·.s)).take (j + 1)) = bearFrom kd t p 0 ((ms.map (·.s)).take j) ++ (if bearB u.s kd t p then [(j : Int)] else []) by
        obtain ⟨hk', e⟩ := List.getElem?_eq_some_iff.1 GET.out
        have hl : ((ms.map (·.s)).take j).length = j := by rw [List.length_take]; omega
        rw [List.take_succ_eq_append_getElem hk', e, bearFrom_snoc, hl, Nat.zero_add])
      clear hu hget hva hb1 hs hok hvm
      by_cases hc : bearB u.s kd t p = true
      case neg =>
        have hc : bearB u.s kd t p = false := by simpa using hc
        have hsn2 := Lib.hid (show bearFrom kd t p 0 ((ms.map (·.s)).take (j + 1)) = bearFrom kd t p 0 ((ms.map (·.s)).take j) by rw [hsnd.out, hc]; simp)
        go_wp2_with fail
        refine (rhas_is u kd p t _ hokr.out HV.out false hc).mono ?_; rintro e w2 ⟨rfl, hb2⟩
        have hb3 := Lib.hid hb2
        clear hb2
        go_wp2_with fail
        go_roundw
        case rel => exact ⟨j + 1, c, by omega, by omega, by go_num, Lib.hid (hb.out.trans (hb3.out.mono hb.out.size)), by rw [hsn2.out]; exact hlc, Lib.hid (by rw [hsn2.out]; exact ownsRow_of_block hown.out (fun g hg => hb3.out.block g (hown.out.lt g hg).2))⟩
        case measure => simp [intOf]; omega
      case pos =>
        have hsn2 := Lib.hid (show bearFrom kd t p 0 ((ms.map (·.s)).take (j + 1)) = bearFrom kd t p 0 ((ms.map (·.s)).take j) ++ [(j : Int)] by rw [hsnd.out, hc]; simp)
        go_wp2_with fail
        refine (rhas_is u kd p t _ hokr.out HV.out true hc).mono ?_; rintro e w2 ⟨rfl, hb2⟩
        have hb3 := Lib.hid hb2
        have hs2 := Lib.hid hb2.size
        have own2 := Lib.hid (ownsRow_of_block (w' := w2) hown.out (fun g hg => hb3.out.block g (hown.out.lt g hg).2))
        clear hb2
        go_wp2_with (first
          | (at_builtin; refine wpList_append_src _ rfl (.tmp 48) (.tmp 50) 43 rfl W.heap.size 3 is (.int .i64 0) 1 8 Tryd.underlying43 his.out hzs.out hss.out hbs.out rfl (by decide) u11 c ((bearFrom kd t p 0 ((ms.map (·.s)).take j)).map (Value.int .i64)) rfl ?own2 (some ⟨w2.heap.size, 0, none⟩) 1 1 [.int .i64 j] rfl ?l2 ?n2 ?c2 ?o2 ?m2 ?b2 ?s2 (c + 1) rfl ?_))
        case own2 => exact own2.out.alloc _
        case l2 => rfl
        case n2 => intro h; cases h
        case o2 => intro u hu; simp at hu; subst hu; rfl
        case c2 =>
          intro ad had i u' hj
          injection had with had
          subst had
          have := new_cells w2 [.int .i64 j] 3 i u' hj
          simpa using this
        case m2 => have := HSM.out; unfold maxLen; omega
        case b2 => have := HSM.out; omega
        case s2 => have := hs2.out; have := hb.out.size; simp; omega
        · intro A2 c2 w3 own3 hg3 _
          have b4 := Lib.hid (((hb.out.trans (hb3.out.mono hb.out.size)).alloc (by have := hs2.out; have := hb.out.size; omega) (.cells #[.int .i64 j] 3)).grown hg3 (by have := hs2.out; have := hb.out.size; simp; omega) (fun g hg => (own2.out.lt g hg).1))
          have own3 := Lib.hid own3
          clear hg3
          go_wp2
          go_roundw
          case rel => exact ⟨j + 1, c + 1, by omega, by omega, by go_num, b4, Lib.hid (by rw [hsn2.out, List.length_append, ← hlc.out]; rfl), Lib.hid (by rw [hsn2.out, List.map_append]; exact own3.out)⟩
          case measure => simp [intOf]; omega
    · obtain rfl : j = n := by omega
      obtain ⟨A2, c2, hv, h1, h2⟩ := is_ints hown.out
      subst hv
      have hlen2 := Lib.hid (show (ms.map (·.s)).take j = ms.map (·.s) by rw [HN.out, ← List.length_map (f := (·.s)), List.take_length])
      go_wp2
      go_ret2
      rw [hlen2.out] at h1 h2
      exact ⟨A2, c2, by rw [hlen2.out]; rfl, h1, h2, hw1.out⟩

end Go.Proofs.YthnhpgmohhaeaaaDoor
