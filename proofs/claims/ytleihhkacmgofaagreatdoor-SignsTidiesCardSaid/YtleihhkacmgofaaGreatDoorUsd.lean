/-
  Values in use: what it is to be handed values in new memory; contracts of valuesIn and of the specification's InUse.
-/
import Derived.Test.YtleihhkacmgofaaGreatDoorBear
namespace Go.Proofs.YtleihhkacmgofaaGreatDoor
open Go.RowKit

/-- values that were made -/
def GotVals (w : World) (vs : List Va) (e : Ending) (w' : World) : Prop :=
  ∃ A c, e = .returned (.slice A vs.length c) ∧ ValsAt w' A vs ∧ vs.length ≤ c ∧ c ≤ maxLen ∧ Below w.heap.size w w'
/-- .. in memory of the call's own -/
def GotValsF (w : World) (vs : List Va) (e : Ending) (w' : World) : Prop :=
  ∃ A c, e = .returned (.slice A vs.length c) ∧ ValsAt w' A vs ∧ vs.length ≤ c ∧ c ≤ maxLen ∧ Below w.heap.size w w' ∧ ∀ b o, A = some ⟨b, o, none⟩ → w.heap.size ≤ b
theorem GotValsF.got {w : World} {vs : List Va} {e : Ending} {w' : World} (h : GotValsF w vs e w') : GotVals w vs e w' := by
  obtain ⟨A, c, h1, h2, h3, h4, h5, _⟩ := h
  exact ⟨A, c, h1, h2, h3, h4, h5⟩
def usedV (vs : List Va) (p : Int) : List Va := vs.filter (fun v => useB v p)

/-- a row that the call made itself -/
def GotRow (w : World) (e : TypeId) (size n : Nat) (xs : List Value) (en : Ending) (w' : World) : Prop :=
  ∃ A c, en = .returned (.slice A n c) ∧ w'.ownsRow w.heap.size e size (.slice A n c) n xs ∧ Below w.heap.size w w'
theorem own_base {w : World} {b0 b1 : Nat} {e : TypeId} {size : Nat} {v : Value} {n : Nat} {xs : List Value} (h : w.ownsRow b1 e size v n xs) (hb : b0 ≤ b1) : w.ownsRow b0 e size v n xs := by
  refine ⟨h.1, ?_⟩
  rcases h.2 with h2 | ⟨g, cap, cur, rfl, h3, h4⟩
  · exact .inl h2
  · exact .inr ⟨g, cap, cur, rfl, Nat.le_trans hb h3, h4⟩

theorem vals_of_cells {w : World} {base : Nat} {A : Option Addr} {vs : List Va} (h : ∀ ad, A = some ad → ∃ g, ad = ⟨g, 0, none⟩ ∧ base ≤ g ∧ g < w.heap.size ∧ ∀ j u, (vs.flatMap Va.cells)[j]? = some u → w.cell? ⟨g, j, none⟩ = some u)
    (h0 : A = none → vs.length = 0) (hsz : ∀ v ∈ vs, v.text.size ≤ maxLen) : ValsAt w A vs := by
  intro j x hj
  have hj' : j < vs.length := (List.getElem?_eq_some_iff.1 hj).1
  cases hA : A with
  | none => have := h0 hA; omega
  | some ad =>
    obtain ⟨g, rfl, _, hg, hcell⟩ := h ad hA
    have ha : ∀ i, i < 4 → w.cell? ⟨g, j * 4 + i, none⟩ = (Va.cells x)[i]? := fun i hi => by
      have hi' : i < (Va.cells x).length := hi
      rw [hcell (j * 4 + i) ((Va.cells x)[i]) (by rw [flat_at (c := 4) (fun _ => rfl) _ _ _ hj i hi]; exact List.getElem?_eq_getElem hi'), List.getElem?_eq_getElem hi']
    refine ⟨g, 0, rfl, hg, ⟨?_, ?_, ?_, ?_, hsz x (List.mem_of_getElem? hj)⟩⟩
    · rw [Nat.zero_add]; exact ha 0 (by omega)
    · rw [Nat.zero_add]; exact ha 1 (by omega)
    · rw [Nat.zero_add]; exact ha 2 (by omega)
    · rw [Nat.zero_add]; exact ha 3 (by omega)

theorem own_vals {w : World} {base : Nat} {A : Option Addr} {c : Nat} {vs : List Va} (h : w.ownsRow base 42 4 (.slice A vs.length c) vs.length (vs.flatMap Va.cells)) (hsz : ∀ v ∈ vs, v.text.size ≤ maxLen) : ValsAt w A vs ∧ vs.length ≤ c ∧ c ≤ maxLen ∧ ∀ b o, A = some ⟨b, o, none⟩ → base ≤ b := by
  obtain ⟨A2, c2, hv, h1, h2, h3, h4⟩ := own_slice h
  injection hv with e1 e2 e3
  subst e1 e3
  refine ⟨vals_of_cells h3 h4 hsz, h1, h2, fun b o e => ?_⟩
  obtain ⟨g, e2, hg, _⟩ := h3 _ e
  injection e2 with e2; rw [e2]; exact hg
theorem GotRow.vals {w : World} {vs : List Va} {e : Ending} {w' : World} (h : GotRow w 42 4 vs.length (vs.flatMap Va.cells) e w') (hsz : ∀ v ∈ vs, v.text.size ≤ maxLen) : GotValsF w vs e w' := by
  obtain ⟨A, c, rfl, hown, hb⟩ := h
  obtain ⟨h1, h2, h3, h4⟩ := own_vals hown hsz
  exact ⟨A, c, rfl, h1, h2, h3, hb, h4⟩
theorem vals_sizes {w : World} {A : Option Addr} {vs : List Va} (h : ValsAt w A vs) : ∀ v ∈ vs, v.text.size ≤ maxLen := by
  intro v hv
  obtain ⟨i, hi⟩ := List.getElem?_of_mem hv
  obtain ⟨_, _, _, _, hx⟩ := h i v hi
  exact hx.sz
theorem used_sizes {w : World} {A : Option Addr} {vs : List Va} (h : ValsAt w A vs) (p : Int) : ∀ v ∈ usedV vs p, v.text.size ≤ maxLen := fun v hv => vals_sizes h v (List.mem_filter.1 hv).1

set_option maxHeartbeats 1600000 in
set_option maxRecDepth 100000 in
theorem ruseR_any (m : Sm) (p : Int) (w : World) (hm : SmOk w m) (hsm : m.s.vals.length ≤ 1000000) :
    Calls Tryz.prog 18 #[m.val, .int .i64 p] w (GotRow w 42 4 (usedV m.s.vals p).length ((usedV m.s.vals p).flatMap Va.cells)) := by
  obtain ⟨⟨code, wide, high, even, vs⟩, A, cap⟩ := m
  obtain ⟨hvs, hl, hcap, hcode⟩ := hm
  dsimp only at hvs hl hcap hcode hsm
  unfold Sm.val
  dsimp only
  obtain ⟨n, hn⟩ : ∃ n, n = vs.length := ⟨_, rfl⟩
  rw [← hn] at hl hsm ⊢
  have hcap' := hcap
  unfold maxLen at hcap'
  have HN := Lib.hid hn
  clear hn
  obtain ⟨iv, hiv, hzv, hsv, hbv⟩ := info_hid infoVa
  go_enter Tryz.func18, Tryz.ntmps18
  go_wp2
  have HB0 := Lib.hid (heap_alloc_new w (.cells #[.string code, .int .i64 wide, .int .i64 high, .bool even, .slice A n cap] 39))
  have HWb := Lib.hid (below_alloc w (.cells #[.string code, .int .i64 wide, .int .i64 high, .bool even, .slice A n cap] 39))
  have HWs := Lib.hid (show (w.alloc (.cells #[.string code, .int .i64 wide, .int .i64 high, .bool even, .slice A n cap] 39)).heap.size = w.heap.size + 1 by simp)
  generalize w.alloc (.cells #[.string code, .int .i64 wide, .int .i64 high, .bool even, .slice A n cap] 39) = W at HB0 HWb HWs ⊢
  go_loopw [5, 6] (fun v i wr => ∃ j c : Nat, j ≤ n ∧ c ≤ j ∧ i = .int .i64 j ∧ Hid (Below W.heap.size W wr) ∧ Hid (c = (usedV (vs.take j) p).length) ∧ Hid (wr.ownsRow W.heap.size 42 4 v c ((usedV (vs.take j) p).flatMap Va.cells))) (fun _ i _ => n - (intOf i).toNat)
  case atStart => exact ⟨0, 0, Nat.zero_le _, Nat.le_refl _, rfl, Lib.hid (Below.refl _ _), Lib.hid (by simp [usedV]), Lib.hid (by simpa [usedV] using World.ownsRow_nil _ _ _ _)⟩
  case round =>
    obtain ⟨j, c, hj, hcj, rfl, hb, hlc, hown⟩ := hrel
    have hw1 := Lib.hid (below_more HWb.out hb.out)
    have hsz : w.heap.size < wr.heap.size := by have := hb.out.size; have := HWs.out; omega
    have B0 := Lib.hid (blk_keep hb.out HB0.out)
    have x4 := cell_of_blk B0.out 4
    simp at x4
    by_cases hlt : j < n
    · have hget : vs[j]? = some (vs[j]'(by have := HN.out; omega)) := List.getElem?_eq_getElem _
      obtain ⟨u, hu⟩ : ∃ u, u = vs[j]'(by have := HN.out; omega) := ⟨_, rfl⟩
      rw [← hu] at hget
      obtain ⟨b, o, hA, hb1, hva⟩ := hvs j u hget
      subst hA
      obtain ⟨y0, y1, y2, y3, ysz⟩ := hva.below hw1.out hb1
      have GET := Lib.hid hget
      have hsnd := Lib.hid (show usedV (vs.take (j + 1)) p = usedV (vs.take j) p ++ (if useB u p then [u] else []) by
        obtain ⟨hk', e⟩ := List.getElem?_eq_some_iff.1 GET.out
        rw [List.take_succ_eq_append_getElem hk', e]; unfold usedV; rw [List.filter_append]; by_cases h : useB u p = true <;> simp [h])
      have hsb : b < wr.heap.size := by omega
      clear hu hget hva hb1 hvs
      by_cases h1 : u.fr ≤ p
      case neg =>
        have hsn2 := Lib.hid (show usedV (vs.take (j + 1)) p = usedV (vs.take j) p by rw [hsnd.out]; simp [useB, h1])
        go_wp2
        go_roundw
        case rel => exact ⟨j + 1, c, by omega, by omega, by go_num, hb, by rw [hsn2.out]; exact hlc, by rw [hsn2.out]; exact hown⟩
        case measure => simp [intOf]; omega
      by_cases h2 : p ≤ u.to
      case neg =>
        have hsn2 := Lib.hid (show usedV (vs.take (j + 1)) p = usedV (vs.take j) p by rw [hsnd.out]; simp [useB, h2])
        go_wp2
        go_roundw
        case rel => exact ⟨j + 1, c, by omega, by omega, by go_num, hb, by rw [hsn2.out]; exact hlc, by rw [hsn2.out]; exact hown⟩
        case measure => simp [intOf]; omega
      have hsn2 := Lib.hid (show usedV (vs.take (j + 1)) p = usedV (vs.take j) p ++ [u] by rw [hsnd.out]; simp [useB, h1, h2])
      go_wp2_with (first
          | (at_builtin; refine wpList_append_src _ rfl (.tmp 32) (.tmp 38) 36 rfl W.heap.size 42 iv (.agg #[.int .i64 0, .string ⟨#[]⟩, .int .i64 0, .int .i64 0]) 4 40 Tryz.underlying36 hiv.out hzv.out hsv.out hbv.out rfl (by decide) u5 c ((usedV (vs.take j) p).flatMap Va.cells) rfl ?own2 (some ⟨wr.heap.size, 0, none⟩) 1 1 u.cells rfl ?l2 ?n2 ?c2 ?o2 ?m2 ?b2 ?s2 (c + 1) rfl ?_))
      case own2 => exact hown.out.alloc _
      case l2 => rfl
      case n2 => intro h; cases h
      case o2 => exact fun x hx => va_one (vs := [u]) x (by simpa using hx)
      case c2 =>
          intro ad had i u' hj
          injection had with had
          subst had
          have := new_cells wr u.cells 42 i u' hj
          simpa [Va.cells] using this
      case m2 => unfold maxLen; omega
      case b2 => omega
      case s2 => have := hb.out.size; simp; omega
      · intro A2 c2 w3 own3 hg3 _
        have b4 := Lib.hid ((hb.out.alloc (by have := hb.out.size; omega) (.cells #[.int .i64 u.kind, .string u.text, .int .i64 u.fr, .int .i64 u.to] 42)).grown hg3 (by have := hb.out.size; simp; omega) (fun g hg => (hown.out.lt g hg).1))
        have own3 := Lib.hid own3
        clear hg3
        go_wp2
        go_roundw
        case rel => exact ⟨j + 1, c + 1, by omega, by omega, by go_num, b4, Lib.hid (by rw [hsn2.out, List.length_append, ← hlc.out]; rfl), Lib.hid (by rw [hsn2.out, List.flatMap_append]; simpa using own3.out)⟩
        case measure => simp [intOf]; omega
    · obtain rfl : j = n := by omega
      obtain ⟨A2, c2, hv, h1, h2, h3, h4⟩ := own_slice hown.out
      subst hv
      have HT := Lib.hid (show vs.take j = vs by rw [HN.out, List.take_length])
      have HC := Lib.hid (show c = (usedV vs p).length by have := hlc.out; rw [HT.out] at this; exact this)
      have HX := Lib.hid (show wr.ownsRow w.heap.size 42 4 (.slice A2 c c2) c ((usedV vs p).flatMap Va.cells) from own_base (by have := hown.out; rw [HT.out] at this; exact this) (by have := HWs.out; omega))
      go_wp2
      go_ret
      rw [← HC.out]
      exact ⟨A2, c2, rfl, HX.out, hw1.out⟩
theorem ruseF_any (m : Sm) (p : Int) (w : World) (hm : SmOk w m) (hsm : m.s.vals.length ≤ 1000000) : Calls Tryz.prog 18 #[m.val, .int .i64 p] w (GotValsF w (usedV m.s.vals p)) :=
  (ruseR_any m p w hm hsm).mono fun _ _ h => h.vals (used_sizes hm.vals p)
theorem ruse_any (m : Sm) (p : Int) (w : World) (hm : SmOk w m) (hsm : m.s.vals.length ≤ 1000000) : Calls Tryz.prog 18 #[m.val, .int .i64 p] w (GotVals w (usedV m.s.vals p)) :=
  (ruseF_any m p w hm hsm).mono fun _ _ h => h.got

theorem used_any (vs : List Va) (k : Int) (t : ByteArray) (p : Int) : (usedV vs p).any (fun v => v.kind == k && strEq v.text t) = vs.any (bearV k t p) := by
  unfold usedV
  induction vs with
  | nil => rfl
  | cons x r ih =>
    rw [List.filter_cons, List.any_cons]
    by_cases h : useB x p = true
    · rw [if_pos h, List.any_cons, ih]; simp [bearV, h]
    · rw [if_neg h, ih]
      have h : useB x p = false := by simpa using h
      simp [bearV, h]
theorem used_len (vs : List Va) (p : Int) : (usedV vs p).length ≤ vs.length := List.length_filter_le _ _

set_option maxHeartbeats 1600000 in
set_option maxRecDepth 100000 in
theorem valuesInR_any (A : Option Addr) (cap : Nat) (vs : List Va) (p : Int) (w : World) (hvs : ValsAt w A vs) (hl : vs.length ≤ cap) (hcap : cap ≤ maxLen) (hsm : vs.length ≤ 1000000) :
    Calls Tryz.prog 27 #[.slice A vs.length cap, .int .i64 p] w (GotRow w 42 4 (usedV vs p).length ((usedV vs p).flatMap Va.cells)) := by
  obtain ⟨n, hn⟩ : ∃ n, n = vs.length := ⟨_, rfl⟩
  rw [← hn] at hl hsm ⊢
  have hcap' := hcap
  unfold maxLen at hcap'
  have HN := Lib.hid hn
  clear hn
  obtain ⟨iv, hiv, hzv, hsv, hbv⟩ := info_hid infoVa
  go_enter Tryz.func27, Tryz.ntmps27
  go_wp2
  go_loopw [5, 10] (fun v i wr => ∃ j c : Nat, j ≤ n ∧ c ≤ j ∧ i = .int .i64 j ∧ Hid (Below w.heap.size w wr) ∧ Hid (c = (usedV (vs.take j) p).length) ∧ Hid (wr.ownsRow w.heap.size 42 4 v c ((usedV (vs.take j) p).flatMap Va.cells))) (fun _ i _ => n - (intOf i).toNat)
  case atStart => exact ⟨0, 0, Nat.zero_le _, Nat.le_refl _, rfl, Lib.hid (Below.refl _ _), Lib.hid (by simp [usedV]), Lib.hid (by simpa [usedV] using World.ownsRow_nil _ _ _ _)⟩
  case round =>
    obtain ⟨j, c, hj, hcj, rfl, hb, hlc, hown⟩ := hrel
    by_cases hlt : j < n
    · have hget : vs[j]? = some (vs[j]'(by have := HN.out; omega)) := List.getElem?_eq_getElem _
      obtain ⟨u, hu⟩ : ∃ u, u = vs[j]'(by have := HN.out; omega) := ⟨_, rfl⟩
      rw [← hu] at hget
      obtain ⟨b, o, hA, hb1, hva⟩ := hvs j u hget
      subst hA
      obtain ⟨y0, y1, y2, y3, ysz⟩ := hva.below hb.out hb1
      have GET := Lib.hid hget
      have hsnd := Lib.hid (show usedV (vs.take (j + 1)) p = usedV (vs.take j) p ++ (if useB u p then [u] else []) by
        obtain ⟨hk', e⟩ := List.getElem?_eq_some_iff.1 GET.out
        rw [List.take_succ_eq_append_getElem hk', e]; unfold usedV; rw [List.filter_append]; by_cases h : useB u p = true <;> simp [h])
      have hsb : b < wr.heap.size := by have := hb.out.size; omega
      clear hu hget hva hb1 hvs
      by_cases hc : useB u p = true
      case neg =>
        have hc : useB u p = false := by simpa using hc
        have hsn2 := Lib.hid (show usedV (vs.take (j + 1)) p = usedV (vs.take j) p by rw [hsnd.out, hc]; simp)
        go_wp2_with fail
        refine (inUse_is u p _ false hc).mono ?_; rintro e w2 ⟨rfl, hb2⟩
        have hb3 := Lib.hid (below_of hb2)
        clear hb2
        go_wp2_with fail
        go_roundw
        case rel => exact ⟨j + 1, c, by omega, by omega, by go_num, Lib.hid (hb.out.trans (hb3.out.mono hb.out.size)), by rw [hsn2.out]; exact hlc, Lib.hid (by rw [hsn2.out]; exact ownsRow_of_block hown.out (fun g hg => hb3.out.block g (hown.out.lt g hg).2))⟩
        case measure => simp [intOf]; omega
      have hsn2 := Lib.hid (show usedV (vs.take (j + 1)) p = usedV (vs.take j) p ++ [u] by rw [hsnd.out, hc]; simp)
      go_wp2_with fail
      refine (inUse_is u p _ true hc).mono ?_; rintro e w2 ⟨rfl, hb2⟩
      have hb3 := Lib.hid (below_of hb2)
      have hs2 := Lib.hid (show wr.heap.size + 1 ≤ w2.heap.size by have := hb2.size; simpa using this)
      have KB := Lib.hid (blk_keep hb2 (heap_alloc_new wr (.cells #[.int .i64 u.kind, .string u.text, .int .i64 u.fr, .int .i64 u.to] 42)))
      have z0 := cell_of_blk KB.out 0
      have z1 := cell_of_blk KB.out 1
      have z2 := cell_of_blk KB.out 2
      have z3 := cell_of_blk KB.out 3
      simp at z0 z1 z2 z3
      have own2 := Lib.hid (ownsRow_of_block (w' := w2) hown.out (fun g hg => hb3.out.block g (hown.out.lt g hg).2))
      clear hb2
      go_wp2_with (first
          | (at_builtin; refine wpList_append_src _ rfl (.tmp 17) (.tmp 19) 36 rfl w.heap.size 42 iv (.agg #[.int .i64 0, .string ⟨#[]⟩, .int .i64 0, .int .i64 0]) 4 40 Tryz.underlying36 hiv.out hzv.out hsv.out hbv.out rfl (by decide) u5 c ((usedV (vs.take j) p).flatMap Va.cells) rfl ?own2 (some ⟨w2.heap.size, 0, none⟩) 1 1 u.cells rfl ?l2 ?n2 ?c2 ?o2 ?m2 ?b2 ?s2 (c + 1) rfl ?_))
      case own2 => exact own2.out.alloc _
      case l2 => rfl
      case n2 => intro h; cases h
      case o2 => exact fun x hx => va_one (vs := [u]) x (by simpa using hx)
      case c2 =>
          intro ad had i u' hj
          injection had with had
          subst had
          have := new_cells w2 u.cells 42 i u' hj
          simpa [Va.cells] using this
      case m2 => unfold maxLen; omega
      case b2 => omega
      case s2 => have := hb.out.size; have := hs2.out; simp; omega
      · intro A2 c2 w3 own3 hg3 _
        have b4 := Lib.hid (((hb.out.trans (hb3.out.mono hb.out.size)).alloc (by have := hb.out.size; have := hs2.out; omega) (.cells #[.int .i64 u.kind, .string u.text, .int .i64 u.fr, .int .i64 u.to] 42)).grown hg3 (by have := hb.out.size; have := hs2.out; simp; omega) (fun g hg => (hown.out.lt g hg).1))
        have own3 := Lib.hid own3
        clear hg3
        go_wp2
        go_roundw
        case rel => exact ⟨j + 1, c + 1, by omega, by omega, by go_num, b4, Lib.hid (by rw [hsn2.out, List.length_append, ← hlc.out]; rfl), Lib.hid (by rw [hsn2.out, List.flatMap_append]; simpa using own3.out)⟩
        case measure => simp [intOf]; omega
    · obtain rfl : j = n := by omega
      obtain ⟨A2, c2, hv, h1, h2, h3, h4⟩ := own_slice hown.out
      subst hv
      have HT := Lib.hid (show vs.take j = vs by rw [HN.out, List.take_length])
      have HC := Lib.hid (show c = (usedV vs p).length by have := hlc.out; rw [HT.out] at this; exact this)
      have HX := Lib.hid (show wr.ownsRow w.heap.size 42 4 (.slice A2 c c2) c ((usedV vs p).flatMap Va.cells) by have := hown.out; rw [HT.out] at this; exact this)
      go_wp2
      go_ret
      rw [← HC.out]
      exact ⟨A2, c2, rfl, HX.out, hb.out⟩
theorem valuesInF_any (A : Option Addr) (cap : Nat) (vs : List Va) (p : Int) (w : World) (hvs : ValsAt w A vs) (hl : vs.length ≤ cap) (hcap : cap ≤ maxLen) (hsm : vs.length ≤ 1000000) :
    Calls Tryz.prog 27 #[.slice A vs.length cap, .int .i64 p] w (GotValsF w (usedV vs p)) :=
  (valuesInR_any A cap vs p w hvs hl hcap hsm).mono fun _ _ h => h.vals (used_sizes hvs p)
theorem valuesIn_any (A : Option Addr) (cap : Nat) (vs : List Va) (p : Int) (w : World) (hvs : ValsAt w A vs) (hl : vs.length ≤ cap) (hcap : cap ≤ maxLen) (hsm : vs.length ≤ 1000000) :
    Calls Tryz.prog 27 #[.slice A vs.length cap, .int .i64 p] w (GotVals w (usedV vs p)) :=
  (valuesInF_any A cap vs p w hvs hl hcap hsm).mono fun _ _ h => h.got

end Go.Proofs.YtleihhkacmgofaaGreatDoor
