/-
  Values once more: what it returns lies in memory of its own.
-/
import Derived.Test.YthnhpgmohhaeaaaDoorVals
namespace Go.Proofs.YthnhpgmohhaeaaaDoor
open Go.RowKit

def GotValsF (w : World) (vs : List Va) (e : Ending) (w' : World) : Prop :=
  ∃ A c, e = .returned (.slice A vs.length c) ∧ ValsAt w' A vs ∧ vs.length ≤ c ∧ c ≤ maxLen ∧ Below w.heap.size w w' ∧ ∀ b o, A = some ⟨b, o, none⟩ → w.heap.size ≤ b
def GotValsEF (w : World) (q : List Va × Int) (e : Ending) (w' : World) : Prop :=
  ∃ A c, e = .returned (.tuple #[.slice A q.1.length c, .int .i64 q.2]) ∧ ValsAt w' A q.1 ∧ q.1.length ≤ c ∧ c ≤ maxLen ∧ Below w.heap.size w w' ∧ ∀ b o, A = some ⟨b, o, none⟩ → w.heap.size ≤ b

set_option maxHeartbeats 1600000 in
set_option maxRecDepth 100000 in
theorem valuesInF_any (A : Option Addr) (cap : Nat) (vs : List Va) (p : Int) (w : World) (hvs : ValsAt w A vs) (hl : vs.length ≤ cap) (hcap : cap ≤ maxLen) (hsm : vs.length ≤ 1000000) :
    Calls Tryd.prog 46 #[.slice A vs.length cap, .int .i64 p] w (GotValsF w (usedV vs p)) := by
  obtain ⟨n, hn⟩ : ∃ n, n = vs.length := ⟨_, rfl⟩
  rw [← hn] at hl hsm ⊢
  have hcap' := hcap
  unfold maxLen at hcap'
  have HN := Lib.hid hn
  clear hn
  obtain ⟨iv, hiv, hzv, hsv, hbv⟩ := info_hid infoVa
  go_enter Tryd.func46, Tryd.ntmps46
  go_wp2
  go_loopw [5, 10] (fun v i wr => ∃ j c : Nat, j ≤ n ∧ c ≤ j ∧ i = .int .i64 j ∧ Hid (Below w.heap.size w wr) ∧ Hid (c = (usedV (vs.take j) p).length) ∧ Hid (wr.ownsRow w.heap.size 60 4 v c ((usedV (vs.take j) p).flatMap Va.cells))) (fun _ i _ => n - (intOf i).toNat)
  case atStart => exact ⟨0, 0, Nat.zero_le _, Nat.le_refl _, rfl, Lib.hid (Below.refl _ _), Lib.hid (by simp [usedV]), Lib.hid (by simpa [usedV] using World.ownsRow_nil _ _ _ _)⟩
  case round =>
    obtain ⟨j, c, hj, hcj, rfl, hb, hlc, hown⟩ := hrel
    by_cases hlt : j < n
    · have hget : vs[j]? = some (vs[j]'(by have := HN.out; omega)) := List.getElem?_eq_getElem _
      obtain ⟨u, hu⟩ : ∃ u, u = vs[j]'(by have := HN.out; omega) := ⟨_, rfl⟩
      rw [← hu] at hget
      obtain ⟨b, o, hA, hb1, hva⟩ := hvs j u hget
      subst hA
      obtain ⟨y0, y1, y2, y3, ysz⟩ := hva.below hb.out hb1
      have GET := Lib.hid hget
      have hsnd := Lib.hid (show usedV (vs.take (j + 1)) p = usedV (vs.take j) p ++ (if useB u p then [u] else []) by
        obtain ⟨hk', e⟩ := List.getElem?_eq_some_iff.1 GET.out
        rw [List.take_succ_eq_append_getElem hk', e]; unfold usedV; rw [List.filter_append]; by_cases h : useB u p = true <;> simp [h])
      have hsb : b < wr.heap.size := by have := hb.out.size; omega
      clear hu hget hva hb1 hvs
      by_cases hc : useB u p = true
      case neg =>
        have hc : useB u p = false := by simpa using hc
        have hsn2 := Lib.hid (show usedV (vs.take (j + 1)) p = usedV (vs.take j) p by rw [hsnd.out, hc]; simp)
        go_wp2_with fail
        refine (inUse_is u p _ false hc).mono ?_; rintro e w2 ⟨rfl, hb2⟩
        have hb3 := Lib.hid (below_of hb2)
        clear hb2
        go_wp2_with fail
        go_roundw
        case rel => exact ⟨j + 1, c, by omega, by omega, by go_num, Lib.hid (hb.out.trans (hb3.out.mono hb.out.size)), by rw [hsn2.out]; exact hlc, Lib.hid (by rw [hsn2.out]; exact ownsRow_of_block hown.out (fun g hg => hb3.out.block g (hown.out.lt g hg).2))⟩
        case measure => simp [intOf]; omega
      have hsn2 := Lib.hid (show usedV (vs.take (j + 1)) p = usedV (vs.take j) p ++ [u] by rw [hsnd.out, hc]; simp)
      go_wp2_with fail
      refine (inUse_is u p _ true hc).mono ?_; rintro e w2 ⟨rfl, hb2⟩
      have hb3 := Lib.hid (below_of hb2)
      have hs2 := Lib.hid (show wr.heap.size + 1 ≤ w2.heap.size by have := hb2.size; simpa using this)
      have KB := Lib.hid (blk_keep hb2 (heap_alloc_new wr (.cells #[.int .i64 u.kind, .string u.text, .int .i64 u.fr, .int .i64 u.to] 60)))
      have z0 := cell_of_blk KB.out 0
      have z1 := cell_of_blk KB.out 1
      have z2 := cell_of_blk KB.out 2
      have z3 := cell_of_blk KB.out 3
      simp at z0 z1 z2 z3
      have own2 := Lib.hid (ownsRow_of_block (w' := w2) hown.out (fun g hg => hb3.out.block g (hown.out.lt g hg).2))
      clear hb2
      go_wp2_with (first
          | (at_builtin; refine wpList_append_src _ rfl (.tmp 17) (.tmp 19) 34 rfl w.heap.size 60 iv (.agg #[.int .i64 0, .string ⟨#[]⟩, .int .i64 0, .int .i64 0]) 4 40 Tryd.underlying34 hiv.out hzv.out hsv.out hbv.out rfl (by decide) u5 c ((usedV (vs.take j) p).flatMap Va.cells) rfl ?own2 (some ⟨w2.heap.size, 0, none⟩) 1 1 u.cells rfl ?l2 ?n2 ?c2 ?o2 ?m2 ?b2 ?s2 (c + 1) rfl ?_))
      case own2 => exact own2.out.alloc _
      case l2 => rfl
      case n2 => intro h; cases h
      case o2 => exact fun x hx => va_one (vs := [u]) x (by simpa using hx)
      case c2 =>
          intro ad had i u' hj
          injection had with had
          subst had
          have := new_cells w2 u.cells 60 i u' hj
          simpa [Va.cells] using this
      case m2 => unfold maxLen; omega
      case b2 => omega
      case s2 => have := hb.out.size; have := hs2.out; simp; omega
      · intro A2 c2 w3 own3 hg3 _
        have b4 := Lib.hid (((hb.out.trans (hb3.out.mono hb.out.size)).alloc (by have := hb.out.size; have := hs2.out; omega) (.cells #[.int .i64 u.kind, .string u.text, .int .i64 u.fr, .int .i64 u.to] 60)).grown hg3 (by have := hb.out.size; have := hs2.out; simp; omega) (fun g hg => (hown.out.lt g hg).1))
        have own3 := Lib.hid own3
        clear hg3
        go_wp2
        go_roundw
        case rel => exact ⟨j + 1, c + 1, by omega, by omega, by go_num, b4, Lib.hid (by rw [hsn2.out, List.length_append, ← hlc.out]; rfl), Lib.hid (by rw [hsn2.out, List.flatMap_append]; simpa using own3.out)⟩
        case measure => simp [intOf]; omega
    · obtain rfl : j = n := by omega
      obtain ⟨A2, c2, hv, h1, h2, h3, h4⟩ := own_slice hown.out
      subst hv
      have HNEW := Lib.hid (show ∀ b o, A2 = some ⟨b, o, none⟩ → w.heap.size ≤ b from fun b o e => by
        obtain ⟨g, e2, hg, _⟩ := h3 _ e; injection e2 with e2; rw [e2]; exact hg)
      have HT := Lib.hid (show vs.take j = vs by rw [HN.out, List.take_length])
      have HC := Lib.hid (show c = (usedV vs p).length by have := hlc.out; rw [HT.out] at this; exact this)
      have HX := Lib.hid (show ValsAt wr A2 (usedV vs p) by
        rw [HT.out] at h3
        refine vals_of_cells h3 (fun e => by rw [← HC.out]; exact h4 e) ?_
        intro v hv; obtain ⟨i, hi⟩ := List.getElem?_of_mem ((List.mem_filter.1 hv).1)
        obtain ⟨_, _, _, _, hx⟩ := hvs i v hi
        exact hx.sz)
      go_wp2
      go_ret
      exact ⟨A2, c2, by rw [HC.out]; rfl, HX.out, by rw [← HC.out]; exact h1, h2, hb.out, HNEW.out⟩


set_option maxHeartbeats 1600000 in
theorem valuesF_any (l : Lm) (i p : Int) (w : World) (hl : LmOk w l) (hvm : ∀ m ∈ l.ms, m.s.vals.length ≤ 1000000) :
    Calls Tryd.prog 20 #[l.val, .int .i64 i, .int .i64 p] w (GotValsEF w (valsR l.li i p)) := by
  have H0 := Lib.hid (show LmOk (w.alloc (.cells #[.int .i64 l.per, .slice l.A l.ms.length l.cap] 24)) l from hl.below (below_alloc _ _))
  have C0 := Lib.hid (heap_alloc_new w (.cells #[.int .i64 l.per, .slice l.A l.ms.length l.cap] 24))
  show Calls _ _ #[.agg #[.int .i64 l.per, .slice l.A l.ms.length l.cap], .int .i64 i, .int .i64 p] w _
  obtain ⟨E, hE⟩ : ∃ E, E = sipErr l.li i p := ⟨_, rfl⟩
  have HE := Lib.hid hE.symm
  by_cases h0 : E = 0
  case neg =>
    have hb : (E != 0) = true := by simpa using h0
    have HF := Lib.hid (show valsR l.li i p = ([], E) by unfold valsR; rw [HE.out, if_pos h0])
    clear hE h0 hvm
    go_enter Tryd.func20, Tryd.ntmps20
    go_wp2_with fail
    refine (sip_is l i p _ H0.out E HE.out).mono ?_; rintro e w1 ⟨rfl, hb1⟩
    go_wp2
    go_ret2
    rw [HF.out]
    exact ⟨none, 0, rfl, ValsAt.nil _, Nat.le_refl _, Nat.zero_le _, below_of hb1, fun _ _ h => by cases h⟩
  subst h0
  clear hE
  obtain ⟨k, u, rfl, hk, hget⟩ := has_at (l := l) (sip_zero HE.out)
  have HF := Lib.hid (show valsR l.li k p = (usedV u.s.vals p, 0) by
    unfold valsR valsOf
    rw [HE.out, if_neg (by simp), show l.li.signs[(k : Int).toNat]? = some u.s by rw [Int.toNat_natCast]; exact Lm.getElem_signs hget])
  obtain ⟨b, o, hA, hb0, hva, hok⟩ := hl.signs k u hget
  have HV := Lib.hid (hvm u (List.mem_of_getElem? hget))
  have HVA := Lib.hid hva
  have HOK := Lib.hid hok
  have hlen := hl.len
  have hcap := hl.cap
  clear hvm hget hva hok hl
  obtain ⟨per, ms, A, cap⟩ := l
  dsimp only at hA hk hlen hcap H0 C0 HE HF ⊢
  subst hA
  have HS := Lib.hid (fun w (h : LmOk w ⟨per, ms, some ⟨b, o, none⟩, cap⟩) => show Calls Tryd.prog 45 #[.agg #[.int .i64 per, .slice (some ⟨b, o, none⟩) ms.length cap], .int .i64 k, .int .i64 p] w (fun e w' => e = .returned (.int .i64 0) ∧ Below w.heap.size w w') from sip_is _ k p w h 0 HE.out)
  generalize ms.length = n at *
  go_enter Tryd.func20, Tryd.ntmps20
  go_wp2_with fail
  refine (HS.out _ H0.out).mono ?_; rintro e w1 ⟨rfl, hb1⟩
  have b1 := Lib.hid (below_of hb1)
  have x1 := cell_of_blk (blk_keep hb1 C0.out) 1
  simp at x1
  obtain ⟨y0, y1, y2, y3, y4⟩ := HVA.out.below b1.out hb0
  have HOK1 := Lib.hid (HOK.out.below b1.out)
  have hb0' : b < w1.heap.size := by have := b1.out.size; omega
  clear hb1
  go_wp2_with fail
  refine (valuesInF_any u.A u.cap u.s.vals p _ HOK1.out.vals HOK1.out.len HOK1.out.cap HV.out).mono ?_; rintro e w2 ⟨A2, c2, rfl, hv2, hl2, hc2, hb2, hnew⟩
  have HNEW := Lib.hid (fun b o e => Nat.le_trans b1.out.size (hnew b o e))
  have V2 := Lib.hid (And.intro hv2 (And.intro hl2 hc2))
  have b2 := Lib.hid (below_more b1.out hb2)
  clear hv2 hl2 hc2 hb2 hnew
  go_wp2
  go_ret2
  rw [HF.out]
  exact ⟨A2, c2, rfl, V2.out.1, V2.out.2.1, V2.out.2.2, b2.out, HNEW.out⟩


/-- Large -/
def largeB (l : List Sg) : Bool := bigB l || decide (30 < l.length)
theorem large_any (l : Lm) (w : World) (hl : LmOk w l) :
    Calls Tryd.prog 37 #[l.val] w fun e w' => e = .returned (.bool (largeB l.signs)) ∧ Below w.heap.size w w' := by
  have H0 := Lib.hid (show LmOk (w.alloc (.cells #[.int .i64 l.per, .slice l.A l.ms.length l.cap] 24)) l from hl.below (below_alloc _ _))
  have C0 := Lib.hid (heap_alloc_new w (.cells #[.int .i64 l.per, .slice l.A l.ms.length l.cap] 24))
  obtain ⟨B, hB⟩ : ∃ B, bigB l.signs = B := ⟨_, rfl⟩
  have HF := Lib.hid (show largeB l.signs = (B || decide (30 < l.ms.length)) by unfold largeB; rw [hB, Lm.length_signs])
  have HB := Lib.hid (fun w (h : LmOk w l) => show Calls Tryd.prog 12 #[.agg #[.int .i64 l.per, .slice l.A l.ms.length l.cap]] w _ from big_is l w h B hB)
  clear hB hl
  show Calls _ _ #[.agg #[.int .i64 l.per, .slice l.A l.ms.length l.cap]] w _
  generalize l.ms.length = n at *
  cases B with
  | true =>
    go_enter Tryd.func37, Tryd.ntmps37
    go_wp2_with fail
    refine (HB.out _ H0.out).mono ?_; rintro e w1 ⟨rfl, hb1⟩
    go_wp2
    go_ret
    exact ⟨of_bool (by rw [HF.out]; rfl), below_of hb1⟩
  | false =>
    go_enter Tryd.func37, Tryd.ntmps37
    go_wp2_with fail
    refine (HB.out _ H0.out).mono ?_; rintro e w1 ⟨rfl, hb1⟩
    have x1 := cell_of_blk (blk_keep hb1 C0.out) 1
    simp at x1
    have b1 := Lib.hid (below_of hb1)
    clear hb1
    go_wp2
    go_ret
    refine ⟨of_bool ?_, b1.out⟩
    rw [HF.out]
    simp
    omega

end Go.Proofs.YthnhpgmohhaeaaaDoor
