/-
  Contracts of the specification's InUse, has and Bearers, and of Bearers.
-/
import Derived.Test.YthnhpgmohhaeaaaDoorWorks
namespace Go.Proofs.YthnhpgmohhaeaaaDoor
open Go.RowKit

/-- values that were made -/
def GotVals (w : World) (vs : List Va) (e : Ending) (w' : World) : Prop :=
  ∃ A c, e = .returned (.slice A vs.length c) ∧ ValsAt w' A vs ∧ vs.length ≤ c ∧ c ≤ maxLen ∧ Below w.heap.size w w'
def usedV (vs : List Va) (p : Int) : List Va := vs.filter (fun v => useB v p)

theorem vals_of_cells {w : World} {base : Nat} {A : Option Addr} {vs : List Va} (h : ∀ ad, A = some ad → ∃ g, ad = ⟨g, 0, none⟩ ∧ base ≤ g ∧ g < w.heap.size ∧ ∀ j u, (vs.flatMap Va.cells)[j]? = some u → w.cell? ⟨g, j, none⟩ = some u)
    (h0 : A = none → vs.length = 0) (hsz : ∀ v ∈ vs, v.text.size ≤ maxLen) : ValsAt w A vs := by
  intro j x hj
  have hj' : j < vs.length := (List.getElem?_eq_some_iff.1 hj).1
  cases hA : A with
  | none => have := h0 hA; omega
  | some ad =>
    obtain ⟨g, rfl, _, hg, hcell⟩ := h ad hA
    have ha : ∀ i, i < 4 → w.cell? ⟨g, j * 4 + i, none⟩ = (Va.cells x)[i]? := fun i hi => by
      have hi' : i < (Va.cells x).length := hi
      rw [hcell (j * 4 + i) ((Va.cells x)[i]) (by rw [flat_at (c := 4) (fun _ => rfl) _ _ _ hj i hi]; exact List.getElem?_eq_getElem hi'), List.getElem?_eq_getElem hi']
    refine ⟨g, 0, rfl, hg, ⟨?_, ?_, ?_, ?_, hsz x (List.mem_of_getElem? hj)⟩⟩
    · rw [Nat.zero_add]; exact ha 0 (by omega)
    · rw [Nat.zero_add]; exact ha 1 (by omega)
    · rw [Nat.zero_add]; exact ha 2 (by omega)
    · rw [Nat.zero_add]; exact ha 3 (by omega)

set_option maxHeartbeats 1600000 in
set_option maxRecDepth 100000 in
theorem ruse_any (m : Sm) (p : Int) (w : World) (hm : SmOk w m) (hsm : m.s.vals.length ≤ 1000000) :
    Calls Tryd.prog 47 #[m.val, .int .i64 p] w (GotVals w (usedV m.s.vals p)) := by
  obtain ⟨⟨code, wide, high, even, vs⟩, A, cap⟩ := m
  obtain ⟨hvs, hl, hcap, hcode⟩ := hm
  dsimp only at hvs hl hcap hcode hsm
  unfold Sm.val
  dsimp only
  obtain ⟨n, hn⟩ : ∃ n, n = vs.length := ⟨_, rfl⟩
  rw [← hn] at hl hsm ⊢
  have hcap' := hcap
  unfold maxLen at hcap'
  have HN := Lib.hid hn
  clear hn
  obtain ⟨iv, hiv, hzv, hsv, hbv⟩ := info_hid infoVa
  go_enter Tryd.func47, Tryd.ntmps47
  go_wp2
  have HB0 := Lib.hid (heap_alloc_new w (.cells #[.string code, .int .i64 wide, .int .i64 high, .bool even, .slice A n cap] 63))
  have HWb := Lib.hid (below_alloc w (.cells #[.string code, .int .i64 wide, .int .i64 high, .bool even, .slice A n cap] 63))
  have HWs := Lib.hid (show (w.alloc (.cells #[.string code, .int .i64 wide, .int .i64 high, .bool even, .slice A n cap] 63)).heap.size = w.heap.size + 1 by simp)
  generalize w.alloc (.cells #[.string code, .int .i64 wide, .int .i64 high, .bool even, .slice A n cap] 63) = W at HB0 HWb HWs ⊢
  go_loopw [5, 6] (fun v i wr => ∃ j c : Nat, j ≤ n ∧ c ≤ j ∧ i = .int .i64 j ∧ Hid (Below W.heap.size W wr) ∧ Hid (c = (usedV (vs.take j) p).length) ∧ Hid (wr.ownsRow W.heap.size 60 4 v c ((usedV (vs.take j) p).flatMap Va.cells))) (fun _ i _ => n - (intOf i).toNat)
  case atStart => exact ⟨0, 0, Nat.zero_le _, Nat.le_refl _, rfl, Lib.hid (Below.refl _ _), Lib.hid (by simp [usedV]), Lib.hid (by simpa [usedV] using World.ownsRow_nil _ _ _ _)⟩
  case round =>
    obtain ⟨j, c, hj, hcj, rfl, hb, hlc, hown⟩ := hrel
    have hw1 := Lib.hid (below_more HWb.out hb.out)
    have hsz : w.heap.size < wr.heap.size := by have := hb.out.size; have := HWs.out; omega
    have B0 := Lib.hid (blk_keep hb.out HB0.out)
    have x4 := cell_of_blk B0.out 4
    simp at x4
    by_cases hlt : j < n
    · have hget : vs[j]? = some (vs[j]'(by have := HN.out; omega)) := List.getElem?_eq_getElem _
      obtain ⟨u, hu⟩ : ∃ u, u = vs[j]'(by have := HN.out; omega) := ⟨_, rfl⟩
      rw [← hu] at hget
      obtain ⟨b, o, hA, hb1, hva⟩ := hvs j u hget
      subst hA
      obtain ⟨y0, y1, y2, y3, ysz⟩ := hva.below hw1.out hb1
      have GET := Lib.hid hget
      have hsnd := Lib.hid (show usedV (vs.take (j + 1)) p = usedV (vs.take j) p ++ (if useB u p then [u] else []) by
        obtain ⟨hk', e⟩ := List.getElem?_eq_some_iff.1 GET.out
        rw [List.take_succ_eq_append_getElem hk', e]; unfold usedV; rw [List.filter_append]; by_cases h : useB u p = true <;> simp [h])
      have hsb : b < wr.heap.size := by omega
      clear hu hget hva hb1 hvs
      by_cases h1 : u.fr ≤ p
      case neg =>
        have hsn2 := Lib.hid (show usedV (vs.take (j + 1)) p = usedV (vs.take j) p by rw [hsnd.out]; simp [useB, h1])
        go_wp2
        go_roundw
        case rel => exact ⟨j + 1, c, by omega, by omega, by go_num, hb, by rw [hsn2.out]; exact hlc, by rw [hsn2.out]; exact hown⟩
        case measure => simp [intOf]; omega
      by_cases h2 : p ≤ u.to
      case neg =>
        have hsn2 := Lib.hid (show usedV (vs.take (j + 1)) p = usedV (vs.take j) p by rw [hsnd.out]; simp [useB, h2])
        go_wp2
        go_roundw
        case rel => exact ⟨j + 1, c, by omega, by omega, by go_num, hb, by rw [hsn2.out]; exact hlc, by rw [hsn2.out]; exact hown⟩
        case measure => simp [intOf]; omega
      have hsn2 := Lib.hid (show usedV (vs.take (j + 1)) p = usedV (vs.take j) p ++ [u] by rw [hsnd.out]; simp [useB, h1, h2])
      go_wp2_with (first
          | (at_builtin; refine wpList_append_src _ rfl (.tmp 32) (.tmp 38) 34 rfl W.heap.size 60 iv (.agg #[.int .i64 0, .string ⟨#[]⟩, .int .i64 0, .int .i64 0]) 4 40 Tryd.underlying34 hiv.out hzv.out hsv.out hbv.out rfl (by decide) u5 c ((usedV (vs.take j) p).flatMap Va.cells) rfl ?own2 (some ⟨wr.heap.size, 0, none⟩) 1 1 u.cells rfl ?l2 ?n2 ?c2 ?o2 ?m2 ?b2 ?s2 (c + 1) rfl ?_))
      case own2 => exact hown.out.alloc _
      case l2 => rfl
      case n2 => intro h; cases h
      case o2 => exact fun x hx => va_one (vs := [u]) x (by simpa using hx)
      case c2 =>
          intro ad had i u' hj
          injection had with had
          subst had
          have := new_cells wr u.cells 60 i u' hj
          simpa [Va.cells] using this
      case m2 => unfold maxLen; omega
      case b2 => omega
      case s2 => have := hb.out.size; simp; omega
      · intro A2 c2 w3 own3 hg3 _
        have b4 := Lib.hid ((hb.out.alloc (by have := hb.out.size; omega) (.cells #[.int .i64 u.kind, .string u.text, .int .i64 u.fr, .int .i64 u.to] 60)).grown hg3 (by have := hb.out.size; simp; omega) (fun g hg => (hown.out.lt g hg).1))
        have own3 := Lib.hid own3
        clear hg3
        go_wp2
        go_roundw
        case rel => exact ⟨j + 1, c + 1, by omega, by omega, by go_num, b4, Lib.hid (by rw [hsn2.out, List.length_append, ← hlc.out]; rfl), Lib.hid (by rw [hsn2.out, List.flatMap_append]; simpa using own3.out)⟩
        case measure => simp [intOf]; omega
    · obtain rfl : j = n := by omega
      obtain ⟨A2, c2, hv, h1, h2, h3, h4⟩ := own_slice hown.out
      subst hv
      have HT := Lib.hid (show vs.take j = vs by rw [HN.out, List.take_length])
      have HC := Lib.hid (show c = (usedV vs p).length by have := hlc.out; rw [HT.out] at this; exact this)
      have HX := Lib.hid (show ValsAt wr A2 (usedV vs p) by
        rw [HT.out] at h3
        refine vals_of_cells h3 (fun e => by rw [← HC.out]; exact h4 e) ?_
        intro v hv; obtain ⟨i, hi⟩ := List.getElem?_of_mem (List.mem_filter.1 hv).1
        obtain ⟨_, _, _, _, hx⟩ := hvs i v hi
        exact hx.sz)
      go_wp2
      go_ret
      exact ⟨A2, c2, by rw [HC.out]; rfl, HX.out, by rw [← HC.out]; exact h1, h2, hw1.out⟩

theorem used_any (vs : List Va) (k : Int) (t : ByteArray) (p : Int) : (usedV vs p).any (fun v => v.kind == k && strEq v.text t) = vs.any (bearV k t p) := by
  unfold usedV
  induction vs with
  | nil => rfl
  | cons x r ih =>
    rw [List.filter_cons, List.any_cons]
    by_cases h : useB x p = true
    · rw [if_pos h, List.any_cons, ih]; simp [bearV, h]
    · rw [if_neg h, ih]
      have h : useB x p = false := by simpa using h
      simp [bearV, h]
theorem used_len (vs : List Va) (p : Int) : (usedV vs p).length ≤ vs.length := List.length_filter_le _ _

set_option maxHeartbeats 1600000 in
set_option maxRecDepth 100000 in
theorem rhas_any (m : Sm) (k p : Int) (t : ByteArray) (w : World) (hm : SmOk w m) (hsm : m.s.vals.length ≤ 1000000) :
    Calls Tryd.prog 51 #[m.val, .int .i64 k, .string t, .int .i64 p] w fun e w' => e = .returned (.bool (bearB m.s k t p)) ∧ Below w.heap.size w w' := by
  have HU := Lib.hid (fun w (hm : SmOk w m) => ruse_any m p w hm hsm)
  have HF := Lib.hid (show bearB m.s k t p = (usedV m.s.vals p).any (fun v => v.kind == k && strEq v.text t) from (used_any _ _ _ _).symm)
  have HL := Lib.hid (Nat.le_trans (used_len m.s.vals p) hsm)
  have H0 := Lib.hid (show SmOk (w.alloc (.cells #[.string m.s.code, .int .i64 m.s.wide, .int .i64 m.s.high, .bool m.s.even, .slice m.A m.s.vals.length m.cap] 63)) m from hm.below (below_alloc _ _))
  generalize usedV m.s.vals p = us at HU HF HL
  unfold Sm.val at HU ⊢
  clear hm hsm
  go_enter Tryd.func51, Tryd.ntmps51
  go_wp2_with fail
  refine (HU.out _ H0.out).mono ?_; rintro e w1 ⟨A, cap, rfl, hvs, hl, hcap, hb1⟩
  have b1 := Lib.hid (below_of hb1)
  have HVS := Lib.hid hvs
  have hz := HL.out
  clear hb1 hvs
  unfold maxLen at hcap
  obtain ⟨n, hn⟩ : ∃ n, n = us.length := ⟨_, rfl⟩
  rw [← hn] at hl hz ⊢
  have HN := Lib.hid hn
  clear hn
  go_wp2
  go_loop [10] (fun i => ∃ j : Nat, j ≤ n ∧ i = .int .i64 j ∧ Hid ((us.take j).any (fun v => v.kind == k && strEq v.text t) = false)) (fun i => n - (intOf i).toNat)
  case atStart => exact ⟨0, Nat.zero_le _, rfl, Lib.hid (by simp)⟩
  case round =>
    obtain ⟨j, hj, rfl, hno⟩ := hrel
    by_cases hlt : j < n
    · have hget : us[j]? = some (us[j]'(by have := HN.out; omega)) := List.getElem?_eq_getElem _
      obtain ⟨u, hu⟩ : ∃ u, u = us[j]'(by have := HN.out; omega) := ⟨_, rfl⟩
      rw [← hu] at hget
      obtain ⟨b, o, hA, hb1, hva⟩ := HVS.out j u hget
      subst hA
      obtain ⟨y0, y1, y2, y3, ysz⟩ := hva
      have GET := Lib.hid hget
      clear hu hget
      by_cases hc1 : (u.kind == k) = true
      case neg =>
        have hc1 : (u.kind == k) = false := by simpa using hc1
        have hst := Lib.hid (any_step _ us j u GET.out hno.out (by rw [hc1]; rfl))
        go_wp2
        go_round
        case rel => exact ⟨j + 1, by omega, by go_num, hst⟩
        case measure => simp [intOf]; omega
      by_cases hc2 : (u.text.toList == t.toList) = true
      case neg =>
        have hc2 : (u.text.toList == t.toList) = false := by simpa using hc2
        have hst := Lib.hid (any_step _ us j u GET.out hno.out (by rw [hc1]; exact hc2))
        go_wp2
        go_round
        case rel => exact ⟨j + 1, by omega, by go_num, hst⟩
        case measure => simp [intOf]; omega
      have hfin := Lib.hid (any_true (fun v : Va => v.kind == k && strEq v.text t) us j u GET.out (by rw [hc1]; exact hc2))
      go_wp2
      go_ret
      exact ⟨of_bool (by rw [HF.out, hfin.out]), b1.out⟩
    · obtain rfl : j = n := by omega
      have hfin := Lib.hid (show us.any (fun v => v.kind == k && strEq v.text t) = false by have := hno.out; rw [HN.out, List.take_length] at this; exact this)
      go_wp2
      go_ret
      exact ⟨of_bool (by rw [HF.out, hfin.out]), b1.out⟩
theorem rhas_is (m : Sm) (k p : Int) (t : ByteArray) (w : World) (hm : SmOk w m) (hsm : m.s.vals.length ≤ 1000000) (r : Bool) (h : bearB m.s k t p = r) :
    Calls Tryd.prog 51 #[m.val, .int .i64 k, .string t, .int .i64 p] w fun e w' => e = .returned (.bool r) ∧ Below w.heap.size w w' := by
  rw [← h]; exact rhas_any m k p t w hm hsm

/-- Bearers -/
def bearersR (l : Li) (k : Int) (t : ByteArray) (p : Int) : List Int × Int :=
  if checkErr l ≠ 0 then ([], checkErr l) else if kindB k = false then ([], 1) else if withinB p l.per = false then ([], 13) else (bearFrom k t p 0 l.signs, 0)
def GotIntsE (w : World) (q : List Int × Int) (e : Ending) (w' : World) : Prop :=
  ∃ A c, e = .returned (.tuple #[.slice A q.1.length c, .int .i64 q.2]) ∧ IntsAt w' A q.1 ∧ (A = none → q.1 = []) ∧ Below w.heap.size w w'
theorem ints_nil (w : World) : IntsAt w none [] := fun _ h => by cases h
theorem kind_is (n : Int) (w : World) (r : Bool) (h : kindB n = r) : Calls Tryd.prog 49 #[.int .i64 n] w fun e w' => e = .returned (.bool r) ∧ w = w' := by
  rw [← h]; exact kind_any n w

set_option maxHeartbeats 1600000 in
theorem bearersE_any (l : Lm) (k : Int) (t : ByteArray) (p : Int) (w : World) (hl : LmOk w l) (hsm : l.ms.length ≤ 1000000) :
    Calls Tryd.prog 25 #[l.val, .int .i64 k, .string t, .int .i64 p] w (GotIntsE w (bearersR l.li k t p)) := by
  have H0 := Lib.hid (show LmOk (w.alloc (.cells #[.int .i64 l.per, .slice l.A l.ms.length l.cap] 24)) l from hl.below (below_alloc _ _))
  have C0 := Lib.hid (heap_alloc_new w (.cells #[.int .i64 l.per, .slice l.A l.ms.length l.cap] 24))
  have HSM := Lib.hid hsm
  clear hl hsm
  show Calls _ _ #[.agg #[.int .i64 l.per, .slice l.A l.ms.length l.cap], .int .i64 k, .string t, .int .i64 p] w _
  obtain ⟨E, hE⟩ : ∃ E, E = checkErr l.li := ⟨_, rfl⟩
  have HE := Lib.hid hE.symm
  by_cases h0 : E = 0
  case neg =>
    have hb : (E != 0) = true := by simpa using h0
    have HF := Lib.hid (show bearersR l.li k t p = ([], E) by unfold bearersR; rw [HE.out, if_pos h0])
    clear hE h0
    go_enter Tryd.func25, Tryd.ntmps25
    go_wp2_with fail
    refine (check_is l _ H0.out E HE.out).mono ?_; rintro e w1 ⟨rfl, hb1⟩
    go_wp2
    go_ret2
    rw [HF.out]
    exact ⟨none, 0, rfl, ints_nil _, fun _ => rfl, below_of hb1⟩
  subst h0
  clear hE
  have HG := Lib.hid (show bearersR l.li k t p = if kindB k = false then ([], 1) else if withinB p l.per = false then ([], 13) else (bearFrom k t p 0 l.signs, 0) by
    unfold bearersR; rw [HE.out]; rfl)
  obtain ⟨K, hK⟩ : ∃ K, kindB k = K := ⟨_, rfl⟩
  have HK := Lib.hid hK
  obtain ⟨N, hN⟩ : ∃ N, withinB p l.per = N := ⟨_, rfl⟩
  have HNN := Lib.hid hN
  rw [hK, hN] at HG
  clear hK hN
  have HB := Lib.hid (fun (w : World) (hl : LmOk w l) => show Calls Tryd.prog 50 #[.agg #[.int .i64 l.per, .slice l.A l.ms.length l.cap], .agg #[.int .i64 k, .string t], .int .i64 p] w (GotInts w (bearFrom k t p 0 l.signs)) from
    bearers_any l k t p w hl HSM.out)
  cases K
  · go_enter Tryd.func25, Tryd.ntmps25
    go_wp2_with fail
    refine (check_is l _ H0.out 0 HE.out).mono ?_; rintro e w1 ⟨rfl, hb1⟩
    have b1 := Lib.hid (below_of hb1)
    clear hb1
    go_wp2_with (first | (go_at_call 49; refine (kind_is _ _ _ HK.out).mono ?_; rintro e w' ⟨rfl, rfl⟩))
    go_ret2
    rw [HG.out]
    exact ⟨none, 0, rfl, ints_nil _, fun _ => rfl, b1.out⟩
  cases N
  · go_enter Tryd.func25, Tryd.ntmps25
    go_wp2_with fail
    refine (check_is l _ H0.out 0 HE.out).mono ?_; rintro e w1 ⟨rfl, hb1⟩
    have b1 := Lib.hid (below_of hb1)
    have x0 := cell_of_blk (blk_keep hb1 C0.out) 0
    simp at x0
    clear hb1
    go_wp2_with (first | (go_at_call 49; refine (kind_is _ _ _ HK.out).mono ?_; rintro e w' ⟨rfl, rfl⟩) | (go_at_call 40; refine (within_is _ _ _ _ HNN.out).mono ?_; rintro e w' ⟨rfl, rfl⟩))
    go_ret2
    rw [HG.out]
    exact ⟨none, 0, rfl, ints_nil _, fun _ => rfl, b1.out⟩
  · go_enter Tryd.func25, Tryd.ntmps25
    go_wp2_with fail
    refine (check_is l _ H0.out 0 HE.out).mono ?_; rintro e w1 ⟨rfl, hb1⟩
    have b1 := Lib.hid (below_of hb1)
    have H2 := Lib.hid (H0.out.below hb1)
    have x0 := cell_of_blk (blk_keep hb1 C0.out) 0
    have x1 := cell_of_blk (blk_keep hb1 C0.out) 1
    simp at x0 x1
    clear hb1
    go_wp2_with (first | (go_at_call 49; refine (kind_is _ _ _ HK.out).mono ?_; rintro e w' ⟨rfl, rfl⟩) | (go_at_call 40; refine (within_is _ _ _ _ HNN.out).mono ?_; rintro e w' ⟨rfl, rfl⟩))
    refine (HB.out _ H2.out).mono ?_; rintro e w2 ⟨A, c, rfl, hi, hn, hb2⟩
    have HI := Lib.hid hi
    have HN0 := Lib.hid hn
    have b2 := Lib.hid (b1.out.trans (hb2.mono b1.out.size))
    clear hi hn hb2
    go_wp2
    go_ret2
    rw [HG.out]
    exact ⟨A, c, rfl, HI.out, HN0.out, b2.out⟩

end Go.Proofs.YthnhpgmohhaeaaaDoor
