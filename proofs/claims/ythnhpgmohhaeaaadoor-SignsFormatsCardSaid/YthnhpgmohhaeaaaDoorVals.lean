/-
  Contracts of Values and Size, the program's and the specification's, and of SameValues.
-/
import Derived.Test.YthnhpgmohhaeaaaDoorLBear
namespace Go.Proofs.YthnhpgmohhaeaaaDoor
open Go.RowKit

set_option maxHeartbeats 1600000 in
set_option maxRecDepth 100000 in
theorem valuesIn_any (A : Option Addr) (cap : Nat) (vs : List Va) (p : Int) (w : World) (hvs : ValsAt w A vs) (hl : vs.length ≤ cap) (hcap : cap ≤ maxLen) (hsm : vs.length ≤ 1000000) :
    Calls Tryd.prog 46 #[.slice A vs.length cap, .int .i64 p] w (GotVals w (usedV vs p)) := by
  obtain ⟨n, hn⟩ : ∃ n, n = vs.length := ⟨_, rfl⟩
  rw [← hn] at hl hsm ⊢
  have hcap' := hcap
  unfold maxLen at hcap'
  have HN := Lib.hid hn
  clear hn
  obtain ⟨iv, hiv, hzv, hsv, hbv⟩ := info_hid infoVa
  go_enter Tryd.func46, Tryd.ntmps46
  go_wp2
  go_loopw [5, 10] (fun v i wr => ∃ j c : Nat, j ≤ n ∧ c ≤ j ∧ i = .int .i64 j ∧ Hid (Below w.heap.size w wr) ∧ Hid (c = (usedV (vs.take j) p).length) ∧ Hid (wr.ownsRow w.heap.size 60 4 v c ((usedV (vs.take j) p).flatMap Va.cells))) (fun _ i _ => n - (intOf i).toNat)
  case atStart => exact ⟨0, 0, Nat.zero_le _, Nat.le_refl _, rfl, Lib.hid (Below.refl _ _), Lib.hid (by simp [usedV]), Lib.hid (by simpa [usedV] using World.ownsRow_nil _ _ _ _)⟩
  case round =>
    obtain ⟨j, c, hj, hcj, rfl, hb, hlc, hown⟩ := hrel
    by_cases hlt : j < n
    · have hget : vs[j]? = some (vs[j]'(by have := HN.out; omega)) := List.getElem?_eq_getElem _
      obtain ⟨u, hu⟩ : ∃ u, u = vs[j]'(by have := HN.out; omega) := ⟨_, rfl⟩
      rw [← hu] at hget
      obtain ⟨b, o, hA, hb1, hva⟩ := hvs j u hget
      subst hA
      obtain ⟨y0, y1, y2, y3, ysz⟩ := hva.below hb.out hb1
      have GET := Lib.hid hget
      have hsnd := Lib.hid (show usedV (vs.take (j + 1)) p = usedV (vs.take j) p ++ (if useB u p then [u] else []) by
        obtain ⟨hk', e⟩ := List.getElem?_eq_some_iff.1 GET.out
        rw [List.take_succ_eq_append_getElem hk', e]; unfold usedV; rw [List.filter_append]; by_cases h : useB u p = true <;> simp [h])
      have hsb : b < wr.heap.size := by have := hb.out.size; omega
      clear hu hget hva hb1 hvs
      by_cases hc : useB u p = true
      case neg =>
        have hc : useB u p = false := by simpa using hc
        have hsn2 := Lib.hid (show usedV (vs.take (j + 1)) p = usedV (vs.take j) p by rw [hsnd.out, hc]; simp)
        go_wp2_with fail
        refine (inUse_is u p _ false hc).mono ?_; rintro e w2 ⟨rfl, hb2⟩
        have hb3 := Lib.hid (below_of hb2)
        clear hb2
        go_wp2_with fail
        go_roundw
        case rel => exact ⟨j + 1, c, by omega, by omega, by go_num, Lib.hid (hb.out.trans (hb3.out.mono hb.out.size)), by rw [hsn2.out]; exact hlc, Lib.hid (by rw [hsn2.out]; exact ownsRow_of_block hown.out (fun g hg => hb3.out.block g (hown.out.lt g hg).2))⟩
        case measure => simp [intOf]; omega
      have hsn2 := Lib.hid (show usedV (vs.take (j + 1)) p = usedV (vs.take j) p ++ [u] by rw [hsnd.out, hc]; simp)
      go_wp2_with fail
      refine (inUse_is u p _ true hc).mono ?_; rintro e w2 ⟨rfl, hb2⟩
      have hb3 := Lib.hid (below_of hb2)
      have hs2 := Lib.hid (show wr.heap.size + 1 ≤ w2.heap.size by have := hb2.size; simpa using this)
      have KB := Lib.hid (blk_keep hb2 (heap_alloc_new wr (.cells #[.int .i64 u.kind, .string u.text, .int .i64 u.fr, .int .i64 u.to] 60)))
      have z0 := cell_of_blk KB.out 0
      have z1 := cell_of_blk KB.out 1
      have z2 := cell_of_blk KB.out 2
      have z3 := cell_of_blk KB.out 3
      simp at z0 z1 z2 z3
      have own2 := Lib.hid (ownsRow_of_block (w' := w2) hown.out (fun g hg => hb3.out.block g (hown.out.lt g hg).2))
      clear hb2
      go_wp2_with (first
          | (at_builtin; refine wpList_append_src _ rfl (.tmp 17) (.tmp 19) 34 rfl w.heap.size 60 iv (.agg #[.int .i64 0, .string ⟨#[]⟩, .int .i64 0, .int .i64 0]) 4 40 Tryd.underlying34 hiv.out hzv.out hsv.out hbv.out rfl (by decide) u5 c ((usedV (vs.take j) p).flatMap Va.cells) rfl ?own2 (some ⟨w2.heap.size, 0, none⟩) 1 1 u.cells rfl ?l2 ?n2 ?c2 ?o2 ?m2 ?b2 ?s2 (c + 1) rfl ?_))
      case own2 => exact own2.out.alloc _
      case l2 => rfl
      case n2 => intro h; cases h
      case o2 => exact fun x hx => va_one (vs := [u]) x (by simpa using hx)
      case c2 =>
          intro ad had i u' hj
          injection had with had
          subst had
          have := new_cells w2 u.cells 60 i u' hj
          simpa [Va.cells] using this
      case m2 => unfold maxLen; omega
      case b2 => omega
      case s2 => have := hb.out.size; have := hs2.out; simp; omega
      · intro A2 c2 w3 own3 hg3 _
        have b4 := Lib.hid (((hb.out.trans (hb3.out.mono hb.out.size)).alloc (by have := hb.out.size; have := hs2.out; omega) (.cells #[.int .i64 u.kind, .string u.text, .int .i64 u.fr, .int .i64 u.to] 60)).grown hg3 (by have := hb.out.size; have := hs2.out; simp; omega) (fun g hg => (hown.out.lt g hg).1))
        have own3 := Lib.hid own3
        clear hg3
        go_wp2
        go_roundw
        case rel => exact ⟨j + 1, c + 1, by omega, by omega, by go_num, b4, Lib.hid (by rw [hsn2.out, List.length_append, ← hlc.out]; rfl), Lib.hid (by rw [hsn2.out, List.flatMap_append]; simpa using own3.out)⟩
        case measure => simp [intOf]; omega
    · obtain rfl : j = n := by omega
      obtain ⟨A2, c2, hv, h1, h2, h3, h4⟩ := own_slice hown.out
      subst hv
      have HT := Lib.hid (show vs.take j = vs by rw [HN.out, List.take_length])
      have HC := Lib.hid (show c = (usedV vs p).length by have := hlc.out; rw [HT.out] at this; exact this)
      have HX := Lib.hid (show ValsAt wr A2 (usedV vs p) by
        rw [HT.out] at h3
        refine vals_of_cells h3 (fun e => by rw [← HC.out]; exact h4 e) ?_
        intro v hv; obtain ⟨i, hi⟩ := List.getElem?_of_mem ((List.mem_filter.1 hv).1)
        obtain ⟨_, _, _, _, hx⟩ := hvs i v hi
        exact hx.sz)
      go_wp2
      go_ret
      exact ⟨A2, c2, by rw [HC.out]; rfl, HX.out, by rw [← HC.out]; exact h1, h2, hb.out⟩

/-- Values -/
def valsOf (l : Li) (i : Int) : List Va := match l.signs[i.toNat]? with
  | some s => s.vals
  | none => []
def valsR (l : Li) (i p : Int) : List Va × Int := if sipErr l i p ≠ 0 then ([], sipErr l i p) else (usedV (valsOf l i) p, 0)
def GotValsE (w : World) (q : List Va × Int) (e : Ending) (w' : World) : Prop :=
  ∃ A c, e = .returned (.tuple #[.slice A q.1.length c, .int .i64 q.2]) ∧ ValsAt w' A q.1 ∧ q.1.length ≤ c ∧ c ≤ maxLen ∧ Below w.heap.size w w'
theorem sip_zero {l : Li} {i p : Int} (h : sipErr l i p = 0) : hasB l.signs.length i = true := by
  unfold sipErr at h
  by_cases h1 : checkErr l ≠ 0
  · rw [if_pos h1] at h; exact absurd h h1
  · rw [if_neg h1] at h
    cases hb : hasB l.signs.length i with
    | true => rfl
    | false => rw [hb] at h; simp at h
theorem has_at {l : Lm} {i : Int} (h : hasB l.signs.length i = true) : ∃ (k : Nat) (u : Sm), i = k ∧ k < l.ms.length ∧ l.ms[k]? = some u := by
  rw [Lm.length_signs] at h
  simp [hasB] at h
  obtain ⟨k, rfl⟩ : ∃ k : Nat, i = k := ⟨i.toNat, by omega⟩
  have hk : k < l.ms.length := by omega
  exact ⟨k, l.ms[k], rfl, hk, List.getElem?_eq_getElem hk⟩

set_option maxHeartbeats 1600000 in
theorem values_any (l : Lm) (i p : Int) (w : World) (hl : LmOk w l) (hvm : ∀ m ∈ l.ms, m.s.vals.length ≤ 1000000) :
    Calls Tryd.prog 20 #[l.val, .int .i64 i, .int .i64 p] w (GotValsE w (valsR l.li i p)) := by
  have H0 := Lib.hid (show LmOk (w.alloc (.cells #[.int .i64 l.per, .slice l.A l.ms.length l.cap] 24)) l from hl.below (below_alloc _ _))
  have C0 := Lib.hid (heap_alloc_new w (.cells #[.int .i64 l.per, .slice l.A l.ms.length l.cap] 24))
  show Calls _ _ #[.agg #[.int .i64 l.per, .slice l.A l.ms.length l.cap], .int .i64 i, .int .i64 p] w _
  obtain ⟨E, hE⟩ : ∃ E, E = sipErr l.li i p := ⟨_, rfl⟩
  have HE := Lib.hid hE.symm
  by_cases h0 : E = 0
  case neg =>
    have hb : (E != 0) = true := by simpa using h0
    have HF := Lib.hid (show valsR l.li i p = ([], E) by unfold valsR; rw [HE.out, if_pos h0])
    clear hE h0 hvm
    go_enter Tryd.func20, Tryd.ntmps20
    go_wp2_with fail
    refine (sip_is l i p _ H0.out E HE.out).mono ?_; rintro e w1 ⟨rfl, hb1⟩
    go_wp2
    go_ret2
    rw [HF.out]
    exact ⟨none, 0, rfl, ValsAt.nil _, Nat.le_refl _, Nat.zero_le _, below_of hb1⟩
  subst h0
  clear hE
  obtain ⟨k, u, rfl, hk, hget⟩ := has_at (l := l) (sip_zero HE.out)
  have HF := Lib.hid (show valsR l.li k p = (usedV u.s.vals p, 0) by
    unfold valsR valsOf
    rw [HE.out, if_neg (by simp), show l.li.signs[(k : Int).toNat]? = some u.s by rw [Int.toNat_natCast]; exact Lm.getElem_signs hget])
  obtain ⟨b, o, hA, hb0, hva, hok⟩ := hl.signs k u hget
  have HV := Lib.hid (hvm u (List.mem_of_getElem? hget))
  have HVA := Lib.hid hva
  have HOK := Lib.hid hok
  have hlen := hl.len
  have hcap := hl.cap
  clear hvm hget hva hok hl
  obtain ⟨per, ms, A, cap⟩ := l
  dsimp only at hA hk hlen hcap H0 C0 HE HF ⊢
  subst hA
  have HS := Lib.hid (fun w (h : LmOk w ⟨per, ms, some ⟨b, o, none⟩, cap⟩) => show Calls Tryd.prog 45 #[.agg #[.int .i64 per, .slice (some ⟨b, o, none⟩) ms.length cap], .int .i64 k, .int .i64 p] w (fun e w' => e = .returned (.int .i64 0) ∧ Below w.heap.size w w') from sip_is _ k p w h 0 HE.out)
  generalize ms.length = n at *
  go_enter Tryd.func20, Tryd.ntmps20
  go_wp2_with fail
  refine (HS.out _ H0.out).mono ?_; rintro e w1 ⟨rfl, hb1⟩
  have b1 := Lib.hid (below_of hb1)
  have x1 := cell_of_blk (blk_keep hb1 C0.out) 1
  simp at x1
  obtain ⟨y0, y1, y2, y3, y4⟩ := HVA.out.below b1.out hb0
  have HOK1 := Lib.hid (HOK.out.below b1.out)
  have hb0' : b < w1.heap.size := by have := b1.out.size; omega
  clear hb1
  go_wp2_with fail
  refine (valuesIn_any u.A u.cap u.s.vals p _ HOK1.out.vals HOK1.out.len HOK1.out.cap HV.out).mono ?_; rintro e w2 ⟨A2, c2, rfl, hv2, hl2, hc2, hb2⟩
  have V2 := Lib.hid (And.intro hv2 (And.intro hl2 hc2))
  have b2 := Lib.hid (below_more b1.out hb2)
  clear hv2 hl2 hc2 hb2
  go_wp2
  go_ret2
  rw [HF.out]
  exact ⟨A2, c2, rfl, V2.out.1, V2.out.2.1, V2.out.2.2, b2.out⟩

set_option maxHeartbeats 1600000 in
theorem rvalues_any (l : Lm) (i p : Int) (w : World) (hl : LmOk w l) (hvm : ∀ m ∈ l.ms, m.s.vals.length ≤ 1000000) :
    Calls Tryd.prog 21 #[l.val, .int .i64 i, .int .i64 p] w (GotValsE w (valsR l.li i p)) := by
  have H0 := Lib.hid (show LmOk (w.alloc (.cells #[.int .i64 l.per, .slice l.A l.ms.length l.cap] 24)) l from hl.below (below_alloc _ _))
  have C0 := Lib.hid (heap_alloc_new w (.cells #[.int .i64 l.per, .slice l.A l.ms.length l.cap] 24))
  have HCK := Lib.hid (fun (w : World) (hl : LmOk w l) (r : Int) (h : checkErr l.li = r) => show Calls Tryd.prog 18 #[.agg #[.int .i64 l.per, .slice l.A l.ms.length l.cap]] w (fun e w' => e = .returned (.int .i64 r) ∧ Below w.heap.size w w') by rw [← h]; exact rcheck_any l w hl)
  have hll : l.li.signs.length = l.ms.length := l.length_signs
  have HG := Lib.hid (show valsR l.li i p = if checkErr l.li ≠ 0 then ([], checkErr l.li) else if hasB l.ms.length i = false then ([], 1) else if withinB p l.per = false then ([], 13) else (usedV (valsOf l.li i) p, 0) by
    unfold valsR sipErr
    rw [hll, show l.li.per = l.per from rfl]
    by_cases h1 : checkErr l.li ≠ 0
    · simp [h1]
    · by_cases h2 : hasB l.ms.length i = false
      · simp [h1, h2]
      · by_cases h3 : withinB p l.per = false
        · simp [h1, h2, h3]
        · simp [h1, h2, h3])
  have hlen := hl.len
  have hcap := hl.cap
  have hcap' := hcap
  unfold maxLen at hcap'
  clear hll
  show Calls _ _ #[.agg #[.int .i64 l.per, .slice l.A l.ms.length l.cap], .int .i64 i, .int .i64 p] w _
  obtain ⟨E, hE⟩ : ∃ E, E = checkErr l.li := ⟨_, rfl⟩
  have HE := Lib.hid hE.symm
  by_cases h0 : E = 0
  case neg =>
    have hb : (E != 0) = true := by simpa using h0
    have HF := Lib.hid (show valsR l.li i p = ([], E) by rw [HG.out, HE.out, if_pos h0])
    clear hE h0 hvm
    go_enter Tryd.func21, Tryd.ntmps21
    go_wp2_with fail
    refine (HCK.out _ H0.out E HE.out).mono ?_; rintro e w1 ⟨rfl, hb1⟩
    go_wp2
    go_ret2
    rw [HF.out]
    exact ⟨none, 0, rfl, ValsAt.nil _, Nat.le_refl _, Nat.zero_le _, below_of hb1⟩
  subst h0
  clear hE
  have HG1 := Lib.hid (show valsR l.li i p = if hasB l.ms.length i = false then ([], 1) else if withinB p l.per = false then ([], 13) else (usedV (valsOf l.li i) p, 0) by rw [HG.out, HE.out]; rfl)
  by_cases hi0 : i < 0
  · have HF := Lib.hid (show valsR l.li i p = ([], 1) by rw [HG1.out, if_pos (by simp [hasB]; omega)])
    clear hvm
    go_enter Tryd.func21, Tryd.ntmps21
    go_wp2_with fail
    refine (HCK.out _ H0.out 0 HE.out).mono ?_; rintro e w1 ⟨rfl, hb1⟩
    have x1 := cell_of_blk (blk_keep hb1 C0.out) 1
    simp at x1
    go_wp2
    go_ret2
    rw [HF.out]
    exact ⟨none, 0, rfl, ValsAt.nil _, Nat.le_refl _, Nat.zero_le _, below_of hb1⟩
  obtain ⟨k, rfl⟩ : ∃ k : Nat, i = k := ⟨i.toNat, by omega⟩
  by_cases hi1 : l.ms.length ≤ k
  · have HF := Lib.hid (show valsR l.li k p = ([], 1) by rw [HG1.out, if_pos (by simp [hasB]; omega)])
    clear hvm
    go_enter Tryd.func21, Tryd.ntmps21
    go_wp2_with fail
    refine (HCK.out _ H0.out 0 HE.out).mono ?_; rintro e w1 ⟨rfl, hb1⟩
    have x1 := cell_of_blk (blk_keep hb1 C0.out) 1
    simp at x1
    go_wp2
    go_ret2
    rw [HF.out]
    exact ⟨none, 0, rfl, ValsAt.nil _, Nat.le_refl _, Nat.zero_le _, below_of hb1⟩
  have hk : k < l.ms.length := by omega
  have HG2 := Lib.hid (show valsR l.li k p = if withinB p l.per = false then ([], 13) else (usedV (valsOf l.li k) p, 0) by rw [HG1.out, if_neg (by simp [hasB]; omega)])
  by_cases hp1 : p < 1
  · have HF := Lib.hid (show valsR l.li k p = ([], 13) by rw [HG2.out, if_pos]; simp [withinB]; omega)
    clear hvm
    go_enter Tryd.func21, Tryd.ntmps21
    go_wp2_with fail
    refine (HCK.out _ H0.out 0 HE.out).mono ?_; rintro e w1 ⟨rfl, hb1⟩
    have x0 := cell_of_blk (blk_keep hb1 C0.out) 0
    have x1 := cell_of_blk (blk_keep hb1 C0.out) 1
    simp at x0 x1
    go_wp2
    go_ret2
    rw [HF.out]
    exact ⟨none, 0, rfl, ValsAt.nil _, Nat.le_refl _, Nat.zero_le _, below_of hb1⟩
  by_cases hp2 : l.per < p
  · have HF := Lib.hid (show valsR l.li k p = ([], 13) by rw [HG2.out, if_pos]; simp [withinB]; omega)
    clear hvm
    go_enter Tryd.func21, Tryd.ntmps21
    go_wp2_with fail
    refine (HCK.out _ H0.out 0 HE.out).mono ?_; rintro e w1 ⟨rfl, hb1⟩
    have x0 := cell_of_blk (blk_keep hb1 C0.out) 0
    have x1 := cell_of_blk (blk_keep hb1 C0.out) 1
    simp at x0 x1
    go_wp2
    go_ret2
    rw [HF.out]
    exact ⟨none, 0, rfl, ValsAt.nil _, Nat.le_refl _, Nat.zero_le _, below_of hb1⟩
  have hget : l.ms[k]? = some l.ms[k] := List.getElem?_eq_getElem hk
  obtain ⟨u, hu⟩ : ∃ u, u = l.ms[k] := ⟨_, rfl⟩
  rw [← hu] at hget
  have HF := Lib.hid (show valsR l.li k p = (usedV u.s.vals p, 0) by
    rw [HG2.out, if_neg (by simp [withinB]; omega)]
    unfold valsOf
    rw [show l.li.signs[(k : Int).toNat]? = some u.s by rw [Int.toNat_natCast]; exact Lm.getElem_signs hget])
  obtain ⟨b, o, hA, hb0, hva, hok⟩ := hl.signs k u hget
  have HV := Lib.hid (hvm u (List.mem_of_getElem? hget))
  have HVA := Lib.hid hva
  have HOK := Lib.hid hok
  clear hvm hget hva hok hl HG HG1 HG2 hi1 hu
  obtain ⟨per, ms, A, cap⟩ := l
  dsimp only at hA hk hlen hcap H0 C0 HE HF HCK hcap' hp2 ⊢
  subst hA
  generalize hnn : ms.length = n at *
  clear hnn
  go_enter Tryd.func21, Tryd.ntmps21
  go_wp2_with fail
  refine (HCK.out _ H0.out 0 HE.out).mono ?_; rintro e w1 ⟨rfl, hb1⟩
  have b1 := Lib.hid (below_of hb1)
  have x0 := cell_of_blk (blk_keep hb1 C0.out) 0
  have x1 := cell_of_blk (blk_keep hb1 C0.out) 1
  simp at x0 x1
  obtain ⟨y0, y1, y2, y3, y4⟩ := HVA.out.below b1.out hb0
  have HOK1 := Lib.hid (HOK.out.below b1.out)
  have hb0' : b < w1.heap.size := by have := b1.out.size; omega
  clear hb1
  go_wp2_with fail
  refine (ruse_any u p _ HOK1.out HV.out).mono ?_; rintro e w2 ⟨A2, c2, rfl, hv2, hl2, hc2, hb2⟩
  have V2 := Lib.hid (And.intro hv2 (And.intro hl2 hc2))
  have b2 := Lib.hid (below_more b1.out hb2)
  clear hv2 hl2 hc2 hb2
  go_wp2
  go_ret2
  rw [HF.out]
  exact ⟨A2, c2, rfl, V2.out.1, V2.out.2.1, V2.out.2.2, b2.out⟩

end Go.Proofs.YthnhpgmohhaeaaaDoor
