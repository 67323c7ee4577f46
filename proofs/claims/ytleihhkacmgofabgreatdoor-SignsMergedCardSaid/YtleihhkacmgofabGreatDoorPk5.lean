/-
  Contract of slices.SortFunc at values, by the order of values. And what builds on it.
-/
import Derived.Test.YtleihhkacmgofabGreatDoorPk4
import Derived.Test.YtleihhkacmgofabGreatDoorShelf
import Derived.Shelf.SlSortCmp.WholeK
import Derived.Shelf.SlSortCmp.NoneTotal
import Derived.StillTailTactics
import Derived.Lib.SmallJoins

/- Contract of slices.SortFunc at values, by the order of values. -/
namespace Go.Proofs.YtleihhkacmgofabGreatDoor
open Go.RowKit Go.Sort

instance : Inhabited Va := ⟨⟨0, ⟨#[]⟩, 0, 0⟩⟩

theorem heap_sorted {α : Type} [Inhabited α] (enc : α → List Value) (k : Nat) (w : World) (blk off n : Nat) (d : Array α) (os : Array Obj) (j : Nat) (hj : j ≠ blk) (hlt : j < w.heap.size) : (sortWorldK enc k w blk off n d os).heap[j]? = w.heap[j]? := by
  unfold sortWorldK
  rw [heap_grow_old _ _ (by simpa [putRowK, putRow, mapBlock, Sort.ahead] using hlt)]
  simp [putRowK, putRow, mapBlock, Sort.ahead, Array.getElem?_modify, Ne.symm hj]
theorem below_sorted {α : Type} [Inhabited α] (enc : α → List Value) (k : Nat) (w : World) (blk off n : Nat) (d : Array α) (os : Array Obj) (base : Nat) (hb : base ≤ blk) (hlt : base ≤ w.heap.size) : Go.RowKit.Below base w (sortWorldK enc k w blk off n d os) :=
  ⟨rfl, rfl, rfl, by simp [sortWorldK, putRowK, putRow, mapBlock, Sort.ahead], fun j hj => heap_sorted enc k w blk off n d os j (by omega) (by omega)⟩

theorem flatK_list (vs : List Va) (j : Nat) (hj : j < vs.length * 4) : (flatK Va.cells 4 vs.toArray)[j]! = (vs.flatMap Va.cells)[j]?.getD default := by
  rw [get_flatK _ _ _ _ (by simpa using hj)]
  have hk : j / 4 < vs.length := by omega
  have h4 : j % 4 < 4 := Nat.mod_lt _ (by omega)
  have e := flat_at (f := Va.cells) (c := 4) (fun _ => rfl) vs (j / 4) vs[j / 4] (List.getElem?_eq_getElem hk) (j % 4) h4
  rw [show j / 4 * 4 + j % 4 = j by omega] at e
  rw [e]
  simp [hk]

theorem cmp_lays (blk off size : Nat) (w : World) : CmpLays Tryz.prog 42 #[] Va.cells 4 orderV blk off size w := by
  intro m os dk _ x y
  refine (order_any x y _).mono ?_
  rintro e w' ⟨rfl, rfl⟩
  exact ⟨rfl, 0, _, by rw [alloc_eq_grow, alloc_eq_grow, grow_grow]; rfl⟩

set_option maxHeartbeats 1600000 in
theorem sortV_any (A : Option Addr) (cap : Nat) (vs : List Va) (base : Nat) (w : World) (hown : w.ownsRow base 43 4 (.slice A vs.length cap) vs.length (vs.flatMap Va.cells)) (hbw : base ≤ w.heap.size) (hsm : vs.length ≤ 1000000) (hsz : ∀ v ∈ vs, v.text.size ≤ maxLen) :
    Calls Tryz.prog 41 #[.slice A vs.length cap, .func (.func 42) #[] #[]] w fun e w' => e = .returned (.tuple #[]) ∧ ∃ vs', vs'.Perm vs ∧ sortedV vs' ∧ ValsAt w' A vs' ∧ Go.RowKit.Below base w w' := by
  cases A with
  | none =>
    have h0 : vs.length = 0 := by
      rcases hown.2 with ⟨_, h⟩ | ⟨g, cap', cur, h, _⟩
      · exact h
      · cases h
    obtain rfl : vs = [] := List.eq_nil_of_length_eq_zero h0
    have hcon := AnyF.slices_SortFunc_none Tryz.sortVa none cap (.func (.func 42) #[] #[]) w
    change Calls Tryz.prog 41 _ _ _ at hcon
    refine hcon.mono ?_
    rintro e w' ⟨rfl, h⟩
    exact ⟨rfl, [], .refl _, List.Pairwise.nil, ValsAt.nil _, h ▸ Go.RowKit.Below.refl _ _⟩
  | some ad =>
    rcases hown.2 with ⟨h, _⟩ | ⟨g, cap', cur, h, hb, hg, hn, hc, hs, htk⟩
    · cases h
    · injection h with h1 h2 h3
      injection h1 with h1
      subst h1 h3
      have hlt : g < w.heap.size := (Array.getElem?_eq_some_iff.1 hg).1
      have hH : HoldsK Va.cells 4 w g 0 vs.toArray := by
        intro j hj
        have hj' : j < vs.length * 4 := by simpa using hj
        rw [Nat.zero_add, flatK_list vs j hj', hown.cellAt j hj']
        have hl : j < (vs.flatMap Va.cells).length := by rw [flat_len (c := 4) (fun _ => rfl)]; exact hj'
        exact ⟨by rw [List.getElem?_eq_getElem hl]; rfl, hown.frozenAt j⟩
      have hcon := AnyQ.slices_SortFunc Tryz.sortVa 4 Tryz.isAgg43 Tryz.sizeOf43 Va.cells (fun _ => rfl) (fun x => fun v hv => va_one (vs := [x]) v (by simpa using hv)) orderV order_swo 42 #[] g 0 cap vs.toArray w
        (enters_of Tryz.func42 (by kernel_rfl) rfl) (cmp_lays g 0 _ w) hH hlt (by simp; omega)
      change Calls Tryz.prog 41 _ _ _ at hcon
      refine hcon.mono ?_
      rintro e w' ⟨rfl, d', n, os, hp, hs2, rfl⟩
      have hsize : d'.size = vs.length := by have := hp.1; simpa using this
      have hperm : d'.toList.Perm vs := by
        have h2 := hp.2.2
        have e1 : d'.extract 0 vs.toArray.size = d' := by rw [show vs.toArray.size = d'.size by simp [hsize]]; exact Array.extract_size
        rw [e1, Array.extract_size] at h2
        simpa using h2
      refine ⟨rfl, d'.toList, hperm, ?_, ?_, below_sorted _ _ _ _ _ _ _ _ _ hb hbw⟩
      · rw [sortedV, List.pairwise_iff_getElem]
        intro i j hi hj hij
        have hi' : i < d'.size := by simpa using hi
        have hj' : j < d'.size := by simpa using hj
        have := hs2 i j (Nat.zero_le _) hij (by simpa [hsize] using hj')
        rw [getElem!_pos d' i hi', getElem!_pos d' j hj'] at this
        unfold ltOf at this
        rw [orderV_lt] at this
        simpa using this
      · intro i v hv
        have hi : i < d'.size := by have := (List.getElem?_eq_some_iff.1 hv).1; simpa using this
        have hv' : d'[i]! = v := by rw [getElem!_pos d' i hi]; have := (List.getElem?_eq_some_iff.1 hv).2; simpa using this
        have hh := holdsK_sortWorldK_c Va.cells 4 w g 0 vs.toArray d' n os hH hlt (by simpa using hsize)
        have hcell := fun c (hc : c < 4) => (hh.cell (i := i) (c := c) hi hc).1
        rw [hv'] at hcell
        refine ⟨g, 0, rfl, Nat.lt_of_lt_of_le hlt (size_sortWorldK_c _ _ _ _ _ _ _ _), ⟨hcell 0 (by omega), hcell 1 (by omega), hcell 2 (by omega), hcell 3 (by omega), ?_⟩⟩
        exact hsz v (hperm.mem_iff.1 (List.mem_of_getElem? hv))

end Go.Proofs.YtleihhkacmgofabGreatDoor

/- Contract of tidy, in the program: values sorted and merged. -/
namespace Go.Proofs.YtleihhkacmgofabGreatDoor
open Go.RowKit

/-- what the values of a valid list keep -/
def okV (v : Va) : Prop := 1 ≤ v.fr ∧ v.fr ≤ v.to ∧ v.to ≤ 9 ∧ v.text.size ≤ maxLen
theorem mergeStep_ok (out : List Va) (v : Va) (h : ∀ x ∈ out, okV x) (hv : okV v) : ∀ x ∈ mergeStep out v, okV x := by
  intro x hx
  rcases snoc_cases out with rfl | ⟨i, l, rfl⟩
  · rw [mergeStep_nil] at hx; simp at hx; subst hx; exact hv
  · have hl := h l (by simp)
    by_cases hj : (meq l v && decide (v.fr ≤ l.to + 1)) = true
    · rw [mergeStep_join _ _ _ hj] at hx
      rcases List.mem_append.1 hx with hx | hx
      · exact h x (by simp [hx])
      · simp at hx; subst hx
        obtain ⟨a1, a2, a3, a4⟩ := hl
        obtain ⟨b1, b2, b3, b4⟩ := hv
        exact ⟨a1, by dsimp only; omega, by dsimp only; omega, a4⟩
    · rw [mergeStep_add _ _ _ (by simpa using hj)] at hx
      rcases List.mem_append.1 hx with hx | hx
      · exact h x hx
      · simp at hx; subst hx; exact hv
theorem mergeR_ok (l : List Va) (h : ∀ x ∈ l, okV x) : ∀ x ∈ mergeR l, okV x := by
  suffices H : ∀ (l out : List Va), (∀ x ∈ l, okV x) → (∀ x ∈ out, okV x) → ∀ x ∈ l.foldl mergeStep out, okV x from H l [] h (fun x h => by cases h)
  intro l
  induction l with
  | nil => intro out _ h; exact h
  | cons v l ih => intro out h1 h2; exact ih _ (fun x hx => h1 x (by simp [hx])) (mergeStep_ok out v h2 (h1 v (by simp)))
theorem mergeR_snoc (l : List Va) (v : Va) : mergeR (l ++ [v]) = mergeStep (mergeR l) v := by unfold mergeR; rw [List.foldl_append]; rfl
theorem mergeStep_len (out : List Va) (v : Va) : (mergeStep out v).length ≤ out.length + 1 := by
  rcases snoc_cases out with rfl | ⟨i, l, rfl⟩
  · rw [mergeStep_nil]; simp
  · by_cases hj : (meq l v && decide (v.fr ≤ l.to + 1)) = true
    · rw [mergeStep_join _ _ _ hj]; simp
    · rw [mergeStep_add _ _ _ (by simpa using hj)]; simp
theorem take_step {α : Type} (l : List α) (k : Nat) (x : α) (h : l[k]? = some x) : l.take (k + 1) = l.take k ++ [x] := by
  obtain ⟨hk, e⟩ := List.getElem?_eq_some_iff.1 h
  rw [List.take_succ_eq_append_getElem hk, e]
/-- the last value's end, written -/
theorem set_to (i : List Va) (l : Va) (n : Int) : ((i ++ [l]).flatMap Va.cells).set (i.length * 4 + 3) (.int .i64 n) = (i ++ [(Va.mk l.kind l.text l.fr (n))]).flatMap Va.cells := by
  rw [List.flatMap_append, List.flatMap_append, ← flat_len (f := Va.cells) (c := 4) (fun _ => rfl) i, List.set_append_right _ _ (by omega)]
  congr 1
  simp [Va.cells]

theorem frz_own {w : World} {base : Nat} {e : TypeId} {size : Nat} {g c n : Nat} {xs : List Value} (h : w.ownsRow base e size (.slice (some ⟨g, 0, none⟩) n c) n xs) (j : Nat) : w.frozen? ⟨g, j, none⟩ = false := h.frozenAt j

set_option maxHeartbeats 3200000 in
set_option maxRecDepth 100000 in
theorem tidy_any (A : Option Addr) (cap : Nat) (vs : List Va) (w : World) (hvs : ValsAt w A vs) (hsm : vs.length ≤ 1000000) (hok : ∀ v ∈ vs, okV v) :
    Calls Tryz.prog 26 #[.slice A vs.length cap] w (GotValsF w (tidiedR [vs])) := by
  obtain ⟨iv, hiv, hzv, hsv, hbv⟩ := info_hid infoVa
  have HC := Lib.hid (cloneV_any A cap vs w hvs hsm)
  have HS := Lib.hid (fun A c w1 h hb => sortV_any A c vs w.heap.size w1 h hb hsm (fun v hv => (hok v hv).2.2.2))
  have HOK := Lib.hid hok
  have HSM := Lib.hid hsm
  clear hok hsm hvs
  obtain ⟨n, hn⟩ : ∃ n, n = vs.length := ⟨_, rfl⟩
  have HN := Lib.hid hn
  rw [← hn] at HC HS HSM ⊢
  clear hn
  go_enter Tryz.func26, Tryz.ntmps26
  go_wp2_with fail
  refine HC.out.mono ?_; rintro e w1 ⟨A1, c1, rfl, own1, hb1⟩
  have OWN1 := Lib.hid own1
  have B1 := Lib.hid hb1
  clear own1 hb1
  go_wp2_with fail
  refine (HS.out A1 c1 w1 OWN1.out B1.out.size).mono ?_; rintro e w2 ⟨rfl, vs2, hperm, hsort, hv2, hb2⟩
  have B2 := Lib.hid (B1.out.trans hb2)
  have HP := Lib.hid hperm
  have HST := Lib.hid hsort
  have V2 := Lib.hid hv2
  have HN2 := Lib.hid (HN.out.trans hperm.length_eq.symm)
  have HOK2 := Lib.hid (fun v (hv : v ∈ vs2) => HOK.out v (hperm.mem_iff.1 hv))
  clear hperm hsort hv2 hb2
  have hsm := HSM.out
  go_wp2_with fail
  go_loopw [4, 14] (fun v i wr => ∃ j c : Nat, j ≤ n ∧ c ≤ j ∧ i = .int .i64 j ∧ Hid (Below w2.heap.size w2 wr) ∧ Hid (c = (mergeR (vs2.take j)).length) ∧ Hid (wr.ownsRow w2.heap.size 43 4 v c ((mergeR (vs2.take j)).flatMap Va.cells))) (fun _ i _ => n - (intOf i).toNat)
  case atStart => exact ⟨0, 0, Nat.zero_le _, Nat.le_refl _, rfl, Lib.hid (Below.refl _ _), Lib.hid (by simp [mergeR]), Lib.hid (by simpa [mergeR] using World.ownsRow_nil _ _ _ _)⟩
  case round =>
    obtain ⟨j, c, hj, hcj, rfl, hb, hlc, hown⟩ := hrel
    by_cases hlt : j < n
    · have hget : vs2[j]? = some (vs2[j]'(by have := HN2.out; omega)) := List.getElem?_eq_getElem _
      obtain ⟨u, hu⟩ : ∃ u, u = vs2[j]'(by have := HN2.out; omega) := ⟨_, rfl⟩
      rw [← hu] at hget
      obtain ⟨b, o, hA, hb1, hva⟩ := V2.out j u hget
      subst hA
      obtain ⟨y0, y1, y2, y3, ysz⟩ := hva.below hb.out hb1
      have HSN := Lib.hid (show mergeR (vs2.take (j + 1)) = mergeStep (mergeR (vs2.take j)) u by rw [take_step _ _ _ hget, mergeR_snoc])
      have hsb : b < wr.heap.size := by have := hb.out.size; omega
      have HUO := Lib.hid (HOK2.out u (List.mem_of_getElem? hget))
      have HMO := Lib.hid (mergeR_ok (vs2.take j) (fun x hx => HOK2.out x (List.mem_of_mem_take hx)))
      obtain ⟨O, hO⟩ : ∃ O, O = mergeR (vs2.take j) := ⟨_, rfl⟩
      rw [← hO] at HSN HMO hlc hown
      clear hu hget hva hb1 hO
      obtain ⟨A2, c2, hv, hc2, hc2m, hcell, hnone⟩ := own_slice hown.out
      subst hv
      have HCL := Lib.hid hcell
      have HNO := Lib.hid hnone
      clear hcell hnone
      cases c with
      | zero =>
        have HADD := Lib.hid (show mergeR (vs2.take (j + 1)) = O ++ [u] by rw [HSN.out, show O = [] from List.eq_nil_of_length_eq_zero hlc.out.symm]; rfl)
        go_wp2_with fail
        refine wp_region_later (by kernel_rfl) (by kernel_rfl) ?_; (repeat (first | go_big_quiet_step (fail) | quiet_step (fail))); refine wpQuiet_nil ?_; rintro _ ⟨s, rfl⟩
        have BS := Lib.hid (hb.out.trans ((below1 s).mono hb.out.size))
        have OWS := Lib.hid (ownsRow_of_block (w' := s.w) hown.out (fun g hg => (below1 s).block g (hown.out.lt g hg).2))
        go_wp2_with (first
          | (at_builtin; refine wpList_append_src _ rfl (.tmp 56) (.tmp 58) 34 rfl w2.heap.size 43 iv (.agg #[.int .i64 0, .string ⟨#[]⟩, .int .i64 0, .int .i64 0]) 4 40 Tryz.underlying34 hiv.out hzv.out hsv.out hbv.out rfl (by decide) (.slice A2 0 c2) 0 (O.flatMap Va.cells) rfl ?own2 (some ⟨s.w.heap.size, 0, none⟩) 1 1 u.cells rfl ?l2 ?n2 ?c2 ?o2 ?m2 ?b2 ?s2 (0 + 1) rfl ?_))
        case own2 => exact OWS.out.alloc _
        case l2 => rfl
        case n2 => intro h; cases h
        case o2 => exact fun x hx => va_one (vs := [u]) x (by simpa using hx)
        case c2 =>
          intro ad had i u' hj
          injection had with had
          subst had
          have := new_cells s.w u.cells 43 i u' hj
          simpa [Va.cells] using this
        case m2 => unfold maxLen; omega
        case b2 => omega
        case s2 => have := BS.out.size; simp; omega
        · intro A3 c3 w3 own3 hg3 _
          have b4 := Lib.hid ((BS.out.alloc BS.out.size (.cells #[.int .i64 u.kind, .string u.text, .int .i64 u.fr, .int .i64 u.to] 43)).grown hg3 (by have := BS.out.size; simp; omega) (fun g hg => (OWS.out.lt g hg).1))
          have own3 := Lib.hid own3
          clear hg3
          go_wp2
          go_roundw
          case rel => exact ⟨j + 1, 0 + 1, by omega, by omega, by go_num, b4, Lib.hid (by rw [HADD.out, List.length_append, ← hlc.out]; rfl), Lib.hid (by rw [HADD.out, List.flatMap_append]; simpa using own3.out)⟩
          case measure => simp [intOf]; omega
      | succ c =>
        obtain ⟨i, l, hOi⟩ : ∃ i l, O = i ++ [l] := (snoc_cases O).resolve_left (fun e => by have := hlc.out; rw [e] at this; simp at this)
        have HIL := Lib.hid (show i.length = c by have := hlc.out; rw [hOi] at this; simp at this; omega)
        have HOI := Lib.hid hOi
        cases hA2 : A2 with
        | none => have := HNO.out hA2; omega
        | some ad =>
        obtain ⟨g, rfl, hg0, hg1, hgc⟩ := HCL.out ad hA2
        subst hA2
        have HLC := Lib.hid (show ∀ t, t < 4 → wr.cell? ⟨g, c * 4 + t, none⟩ = (Va.cells l)[t]? from fun t ht => by
          have ht' : t < (Va.cells l).length := ht
          rw [hgc (c * 4 + t) ((Va.cells l)[t]) (by
            rw [flat_at (c := 4) (fun _ => rfl) _ c l (by rw [HOI.out, List.getElem?_append_right (by have := HIL.out; omega), HIL.out]; simp) t ht]; exact List.getElem?_eq_getElem ht'), List.getElem?_eq_getElem ht'])
        have x0 : wr.cell? ⟨g, c * 4, none⟩ = some (.int .i64 l.kind) := HLC.out 0 (by omega)
        have x1 : wr.cell? ⟨g, c * 4 + 1, none⟩ = some (.string l.text) := HLC.out 1 (by omega)
        have x2 : wr.cell? ⟨g, c * 4 + 2, none⟩ = some (.int .i64 l.fr) := HLC.out 2 (by omega)
        have x3 : wr.cell? ⟨g, c * 4 + 3, none⟩ = some (.int .i64 l.to) := HLC.out 3 (by omega)
        have HLO := Lib.hid (HMO.out l (by rw [HOI.out]; simp))
        have hw9 : IntKind.i64.wrap (l.to + 1) = l.to + 1 := IntWalk.i64_in _ (by have := HLO.out.1; have := HLO.out.2.1; have := HLO.out.2.2.1; omega)
        clear hOi hgc
        have he := fun w => eqMeaning l.kind u.kind l.text u.text w
        by_cases hm : (l.kind == u.kind && strEq l.text u.text) = true
        case neg =>
          have hm : (l.kind == u.kind && strEq l.text u.text) = false := by simpa using hm
          have HADD := Lib.hid (show mergeR (vs2.take (j + 1)) = O ++ [u] by rw [HSN.out, HOI.out, mergeStep_add]; rw [show meq l u = false from hm]; rfl)
          rw [hm] at he
          clear hm
          go_wp2_with fail
          refine wp_region_later (by kernel_rfl) (by kernel_rfl) ?_; (repeat (first | go_big_quiet_step (((go_at_call 43; exact Calls.later _ (meaning_any _ _ _ _ _)))) | quiet_step (((go_at_call 43; exact Calls.later _ (meaning_any _ _ _ _ _)))))); refine wpQuiet_nil ?_; rintro _ ⟨s, rfl⟩
          have BS := Lib.hid (hb.out.trans ((below1 s).mono hb.out.size))
          have OWS := Lib.hid (ownsRow_of_block (w' := s.w) hown.out (fun g hg => (below1 s).block g (hown.out.lt g hg).2))
          go_wp2_with (first
            | (at_builtin; refine wpList_append_src _ rfl (.tmp 56) (.tmp 58) 34 rfl w2.heap.size 43 iv (.agg #[.int .i64 0, .string ⟨#[]⟩, .int .i64 0, .int .i64 0]) 4 40 Tryz.underlying34 hiv.out hzv.out hsv.out hbv.out rfl (by decide) (.slice (some ⟨g, 0, none⟩) (c + 1) c2) (c + 1) (O.flatMap Va.cells) rfl ?own2x (some ⟨s.w.heap.size, 0, none⟩) 1 1 u.cells rfl ?l2x ?n2x ?c2x ?o2x ?m2x ?b2x ?s2x (c + 1 + 1) rfl ?_))
          case own2x => exact OWS.out.alloc _
          case l2x => rfl
          case n2x => intro h; cases h
          case o2x => exact fun x hx => va_one (vs := [u]) x (by simpa using hx)
          case c2x =>
            intro ad had i u' hj
            injection had with had
            subst had
            have := new_cells s.w u.cells 43 i u' hj
            simpa [Va.cells] using this
          case m2x => unfold maxLen; omega
          case b2x => omega
          case s2x => have := BS.out.size; simp; omega
          · intro A3 c3 w3 own3 hg3 _
            have b4 := Lib.hid ((BS.out.alloc BS.out.size (.cells #[.int .i64 u.kind, .string u.text, .int .i64 u.fr, .int .i64 u.to] 43)).grown hg3 (by have := BS.out.size; simp; omega) (fun g hg => (OWS.out.lt g hg).1))
            have own3 := Lib.hid own3
            clear hg3
            go_wp2
            go_roundw
            case rel => exact ⟨j + 1, c + 1 + 1, by omega, by omega, by go_num, b4, Lib.hid (by rw [HADD.out, List.length_append, ← hlc.out]; rfl), Lib.hid (by rw [HADD.out, List.flatMap_append]; simpa using own3.out)⟩
            case measure => simp [intOf]; omega
        rw [hm] at he
        by_cases hf : u.fr ≤ l.to + 1
        case neg =>
          have HADD := Lib.hid (show mergeR (vs2.take (j + 1)) = O ++ [u] by rw [HSN.out, HOI.out, mergeStep_add]; rw [show meq l u = true from hm]; simpa using hf)
          have hf : decide (u.fr ≤ l.to + 1) = false := by simpa using hf
          clear hm
          go_wp2_with fail
          refine wp_region_later (by kernel_rfl) (by kernel_rfl) ?_; (repeat (first | go_big_quiet_step (((go_at_call 43; exact Calls.later _ (meaning_any _ _ _ _ _)))) | quiet_step (((go_at_call 43; exact Calls.later _ (meaning_any _ _ _ _ _)))))); refine wpQuiet_nil ?_; rintro _ ⟨s, rfl⟩
          have BS := Lib.hid (hb.out.trans ((below1 s).mono hb.out.size))
          have OWS := Lib.hid (ownsRow_of_block (w' := s.w) hown.out (fun g hg => (below1 s).block g (hown.out.lt g hg).2))
          go_wp2_with (first
            | (at_builtin; refine wpList_append_src _ rfl (.tmp 56) (.tmp 58) 34 rfl w2.heap.size 43 iv (.agg #[.int .i64 0, .string ⟨#[]⟩, .int .i64 0, .int .i64 0]) 4 40 Tryz.underlying34 hiv.out hzv.out hsv.out hbv.out rfl (by decide) (.slice (some ⟨g, 0, none⟩) (c + 1) c2) (c + 1) (O.flatMap Va.cells) rfl ?own2y (some ⟨s.w.heap.size, 0, none⟩) 1 1 u.cells rfl ?l2y ?n2y ?c2y ?o2y ?m2y ?b2y ?s2y (c + 1 + 1) rfl ?_))
          case own2y => exact OWS.out.alloc _
          case l2y => rfl
          case n2y => intro h; cases h
          case o2y => exact fun x hx => va_one (vs := [u]) x (by simpa using hx)
          case c2y =>
            intro ad had i u' hj
            injection had with had
            subst had
            have := new_cells s.w u.cells 43 i u' hj
            simpa [Va.cells] using this
          case m2y => unfold maxLen; omega
          case b2y => omega
          case s2y => have := BS.out.size; simp; omega
          · intro A3 c3 w3 own3 hg3 _
            have b4 := Lib.hid ((BS.out.alloc BS.out.size (.cells #[.int .i64 u.kind, .string u.text, .int .i64 u.fr, .int .i64 u.to] 43)).grown hg3 (by have := BS.out.size; simp; omega) (fun g hg => (OWS.out.lt g hg).1))
            have own3 := Lib.hid own3
            clear hg3
            go_wp2
            go_roundw
            case rel => exact ⟨j + 1, c + 1 + 1, by omega, by omega, by go_num, b4, Lib.hid (by rw [HADD.out, List.length_append, ← hlc.out]; rfl), Lib.hid (by rw [HADD.out, List.flatMap_append]; simpa using own3.out)⟩
            case measure => simp [intOf]; omega
        have HADD := Lib.hid (show mergeR (vs2.take (j + 1)) = i ++ [(Va.mk l.kind l.text l.fr (max l.to u.to))] by rw [HSN.out, HOI.out, mergeStep_join]; rw [show meq l u = true from hm]; simpa using hf)
        have hf : decide (u.fr ≤ l.to + 1) = true := by simpa using hf
        clear hm
        go_wp2_with fail
        refine wp_region_later (by kernel_rfl) (by kernel_rfl) ?_; (repeat (first | go_big_quiet_step (((go_at_call 43; exact Calls.later _ (meaning_any _ _ _ _ _)))) | quiet_step (((go_at_call 43; exact Calls.later _ (meaning_any _ _ _ _ _)))))); refine wpQuiet_nil ?_; rintro _ ⟨s, rfl⟩
        have BS := Lib.hid (hb.out.trans ((below1 s).mono hb.out.size))
        have OWS := Lib.hid (ownsRow_of_block (w' := s.w) hown.out (fun g hg => (below1 s).block g (hown.out.lt g hg).2))
        have z0 := frz_own OWS.out (c * 4 + 3)
        have p2 : (c : Int) < (c : Int) + 1 := by omega
        go_wp2_with fail
        refine wp_region_still_tail 12 (by kernel_rfl) (by kernel_rfl) ?_; simp only [List.take_succ_cons, List.take_zero, List.drop_succ_cons, List.drop_zero]; change wpStill _ _ (s.w).drew _ _ _; (repeat still_step); refine wpStill_nil ?_; change wpList _ _ _ _ _ (s.w).drew
        go_wp2_with fail
        go_roundw
        case rel =>
          refine ⟨j + 1, c + 1, by omega, by omega, by go_num, Lib.hid ?_, Lib.hid ?_, Lib.hid ?_⟩
          · exact (BS.out.setCell (p := ⟨g, c * 4 + 3, none⟩) hg0 _).drew
          · rw [HADD.out]; simp; exact HIL.out.symm
          · have h1 := (OWS.out.stored (c * 4 + 3) (.int .i64 (max l.to u.to))).1
            rw [HOI.out, ← HIL.out, set_to, ← HADD.out, HIL.out] at h1
            first | exact h1.drew | (rw [show (if l.to < u.to then u.to else l.to) = max l.to u.to by split <;> omega]; exact h1.drew)
        case measure => simp [intOf]; omega
    · obtain rfl : j = n := by omega
      obtain ⟨A2, c2, hv, h1, h2, h3, h4⟩ := own_slice hown.out
      subst hv
      have HT := Lib.hid (show mergeR (vs2.take j) = tidiedR [vs] by
        rw [HN2.out, List.take_length]
        exact tidied_eq [vs] vs2 (fun v => by rw [HP.out.mem_iff]; simp) HST.out (fun v hv => (HOK.out v (by simpa using hv)).2.1))
      have HC2 := Lib.hid (show c = (tidiedR [vs]).length by have := hlc.out; rw [HT.out] at this; exact this)
      have HX := Lib.hid (show GotValsF w (tidiedR [vs]) (.returned (.slice A2 c c2)) wr by
        have h5 := hown.out
        rw [HT.out, HC2.out] at h5
        obtain ⟨k1, k2, k3, k4⟩ := own_vals h5 (fun v hv => (mergeR_ok (vs2.take j) (fun x hx => HOK2.out x (List.mem_of_mem_take hx)) v (by rw [HT.out]; exact hv)).2.2.2)
        rw [HC2.out]
        exact ⟨A2, c2, rfl, k1, k2, k3, B2.out.trans (hb.out.mono B2.out.size), fun b o e => Nat.le_trans B2.out.size (k4 b o e)⟩)
      go_wp2
      go_ret
      exact HX.out

end Go.Proofs.YtleihhkacmgofabGreatDoor

/- Contract of the specification's tidied: first its points. -/
namespace Go.Proofs.YtleihhkacmgofabGreatDoor
open Go.RowKit

theorem putR_len (l : List Va) (v : Va) : (putR l v).length ≤ l.length + 1 := by
  unfold putR
  have h : l.length = (l.takeWhile fun x => vlt x v).length + (l.dropWhile fun x => vlt x v).length := by rw [← List.length_append, List.takeWhile_append_dropWhile]
  simp only [List.length_append]
  split <;> simp <;> omega
theorem putDays_len (v : Va) (l : List Va) : ∀ k, (putDays v l k).length ≤ l.length + k
  | 0 => Nat.le_refl _
  | k + 1 => by have := putDays_len v l k; have := putR_len (putDays v l k) (day v (v.fr + (k : Int))); rw [putDays_succ]; omega
theorem putDays_ok (v : Va) (l : List Va) (hv : okV v) (h : ∀ x ∈ l, okV x) : ∀ k : Nat, v.fr + k ≤ v.to + 1 → ∀ x ∈ putDays v l k, okV x
  | 0, _ => h
  | k + 1, hk => fun x hx => by
    rw [putDays_succ] at hx
    rcases (putR_mem _ _ _).1 hx with hx | rfl
    · exact putDays_ok v l hv h k (by omega) x hx
    · obtain ⟨a1, a2, a3, a4⟩ := hv
      exact ⟨by simp only [day]; omega, by simp only [day]; omega, by simp only [day]; omega, a4⟩
theorem putV_len (v : Va) (l : List Va) (hv : okV v) : (putV l v).length ≤ l.length + 9 := by
  have := putDays_len v l (v.to + 1 - v.fr).toNat
  obtain ⟨a1, a2, a3, a4⟩ := hv
  unfold putV; omega
theorem putV_ok (v : Va) (l : List Va) (hv : okV v) (h : ∀ x ∈ l, okV x) : ∀ x ∈ putV l v, okV x :=
  putDays_ok v l hv h _ (by have := hv.2.1; omega)
theorem foldV_ok : ∀ (vs l : List Va), (∀ v ∈ vs, okV v) → (∀ x ∈ l, okV x) → (∀ x ∈ vs.foldl putV l, okV x) ∧ (vs.foldl putV l).length ≤ l.length + 9 * vs.length
  | [], l, _, h => ⟨h, by simp⟩
  | v :: vs, l, hv, h => by
    have ih := foldV_ok vs (putV l v) (fun x hx => hv x (by simp [hx])) (putV_ok v l (hv v (by simp)) h)
    have := putV_len v l (hv v (by simp))
    exact ⟨ih.1, by have h2 := ih.2; simp only [List.foldl_cons, List.length_cons] at *; omega⟩
theorem foldSS_ok : ∀ (ss : List (List Va)) (l : List Va), (∀ vs ∈ ss, vs.length ≤ 20 ∧ ∀ v ∈ vs, okV v) → (∀ x ∈ l, okV x) →
    (∀ x ∈ ss.foldl (fun l vs => vs.foldl putV l) l, okV x) ∧ (ss.foldl (fun l vs => vs.foldl putV l) l).length ≤ l.length + 180 * ss.length
  | [], l, _, h => ⟨h, by simp⟩
  | vs :: ss, l, hv, h => by
    have h1 := foldV_ok vs l (hv vs (by simp)).2 h
    have ih := foldSS_ok ss (vs.foldl putV l) (fun x hx => hv x (by simp [hx])) h1.1
    have := (hv vs (by simp)).1
    exact ⟨ih.1, by have h2 := ih.2; have h3 := h1.2; simp only [List.foldl_cons, List.length_cons] at *; omega⟩
theorem own_cap0 {w : World} {base : Nat} {e : TypeId} {size : Nat} {A : Option Addr} {c n m : Nat} {xs : List Value} (h : w.ownsRow base e size (.slice A m c) n xs) : A = none → c = 0 := by
  rintro rfl
  rcases h.2 with ⟨h2, _⟩ | ⟨g, cap, cur, h2, _⟩
  · injection h2
  · cases h2
theorem pointsR_snoc (ss : List (List Va)) (vs : List Va) : pointsR (ss ++ [vs]) = vs.foldl putV (pointsR ss) := by unfold pointsR; rw [List.foldl_append]; rfl
theorem foldV_snoc (vs l : List Va) (v : Va) : (vs ++ [v]).foldl putV l = putV (vs.foldl putV l) v := by rw [List.foldl_append]; rfl

theorem runStep_join (i : List Va) (l v : Va) (h : (meq l v && (l.to + 1 == v.fr)) = true) : runStep (i ++ [l]) v = i ++ [Va.mk l.kind l.text l.fr v.to] := by
  simp only [runStep, List.getLast?_append, List.getLast?_singleton, Option.some_or, h, if_true, List.dropLast_concat]
theorem runStep_add (i : List Va) (l v : Va) (h : (meq l v && (l.to + 1 == v.fr)) = false) : runStep (i ++ [l]) v = i ++ [l] ++ [v] := by
  simp only [runStep, List.getLast?_append, List.getLast?_singleton, Option.some_or, h, Bool.false_eq_true, if_false]
theorem runsR_snoc (l : List Va) (v : Va) : runsR (l ++ [v]) = runStep (runsR l) v := by unfold runsR; rw [List.foldl_append]; rfl
theorem runStep_ok (out : List Va) (v : Va) (h : ∀ x ∈ out, okV x) (hv : okV v) : ∀ x ∈ runStep out v, okV x := by
  intro x hx
  rcases snoc_cases out with rfl | ⟨i, l, rfl⟩
  · have hx : x ∈ [v] := hx
    simp at hx; subst hx; exact hv
  · have hl := h l (by simp)
    by_cases hj : (meq l v && (l.to + 1 == v.fr)) = true
    · rw [runStep_join _ _ _ hj] at hx
      rcases List.mem_append.1 hx with hx | hx
      · exact h x (by simp [hx])
      · simp at hx; subst hx
        obtain ⟨a1, a2, a3, a4⟩ := hl
        obtain ⟨b1, b2, b3, b4⟩ := hv
        simp at hj
        exact ⟨a1, by dsimp only; omega, by dsimp only; omega, a4⟩
    · rw [runStep_add _ _ _ (by simpa using hj)] at hx
      rcases List.mem_append.1 hx with hx | hx
      · exact h x hx
      · simp at hx; subst hx; exact hv
theorem runsR_ok (l : List Va) (h : ∀ x ∈ l, okV x) : ∀ x ∈ runsR l, okV x := by
  suffices H : ∀ (l out : List Va), (∀ x ∈ l, okV x) → (∀ x ∈ out, okV x) → ∀ x ∈ l.foldl runStep out, okV x from H l [] h (fun x h => by cases h)
  intro l
  induction l with
  | nil => intro out _ h; exact h
  | cons v l ih => intro out h1 h2; exact ih _ (fun x hx => h1 x (by simp [hx])) (runStep_ok out v h2 (h1 v (by simp)))

end Go.Proofs.YtleihhkacmgofabGreatDoor

/- Signs in a row of the call's own, one of them given other values; what a valid list keeps. -/
namespace Go.Proofs.YtleihhkacmgofabGreatDoor
open Go.RowKit

/-- values that lie apart from block g -/
def ApartG (g : Nat) (A : Option Addr) (vs : List Va) : Prop := 0 < vs.length → ∀ b o, A = some ⟨b, o, none⟩ → g ≠ b
theorem valsAt_set {w : World} {A : Option Addr} {vs : List Va} {g : Nat} (h : ValsAt w A vs) (ha : ApartG g A vs) (o : Nat) (u : Value) : ValsAt (w.setCell ⟨g, o, none⟩ u) A vs := fun k v hk => by
  obtain ⟨b, o', e, hlt, hv⟩ := h k v hk
  have hg : b ≠ g := fun e2 => ha (by have := (List.getElem?_eq_some_iff.1 hk).1; omega) b o' e e2.symm
  have hc : ∀ p, (w.setCell ⟨g, o, none⟩ u).cell? ⟨b, p, none⟩ = w.cell? ⟨b, p, none⟩ := fun p => World.cell?_of_block (a := ⟨b, p, none⟩) (heap_setCell_other _ _ _ _ hg)
  exact ⟨b, o', e, by simpa using hlt, ⟨(hc _).trans hv.c0, (hc _).trans hv.c1, (hc _).trans hv.c2, (hc _).trans hv.c3, hv.sz⟩⟩
theorem smOk_set {w : World} {m : Sm} {g : Nat} (h : SmOk w m) (ha : ApartG g m.A m.s.vals) (o : Nat) (u : Value) : SmOk (w.setCell ⟨g, o, none⟩ u) m := ⟨valsAt_set h.vals ha o u, h.len, h.cap, h.code⟩
/-- a sign with other values -/
def Sm.with (m : Sm) (vs : List Va) (A : Option Addr) (c : Nat) : Sm := ⟨⟨m.s.code, m.s.wide, m.s.high, m.s.even, vs⟩, A, c⟩
theorem flat_set {ms : List Sm} {k : Nat} {m : Sm} (hk : ms[k]? = some m) (vs : List Va) (A : Option Addr) (c : Nat) : (ms.flatMap Sm.cells).set (k * 5 + 4) (.slice A vs.length c) = (ms.set k (m.with vs A c)).flatMap Sm.cells := by
  induction ms generalizing k with
  | nil => simp at hk
  | cons x r ih =>
    cases k with
    | zero =>
      simp at hk; subst hk
      simp [Sm.cells, Sm.with]
    | succ k =>
      have := ih (k := k) (by simpa using hk)
      rw [List.set_cons_succ, List.flatMap_cons, List.flatMap_cons, ← this, List.set_append_right _ _ (by simp [Sm.cells]; omega)]
      congr 1
      congr 1
      simp [Sm.cells]
      omega
theorem OwnSigns.set {w : World} {base g c : Nat} {ms : List Sm} (h : OwnSigns w base (some ⟨g, 0, none⟩) c ms) {k : Nat} {m : Sm} (hk : ms[k]? = some m) {vs : List Va} {A : Option Addr} {c1 : Nat} (hv : ValsAt w A vs) (hl : vs.length ≤ c1) (hc : c1 ≤ maxLen) (ha : ApartG g A vs) :
    OwnSigns (w.setCell ⟨g, k * 5 + 4, none⟩ (.slice A vs.length c1)) base (some ⟨g, 0, none⟩) c (ms.set k (m.with vs A c1)) := by
  have hap : ∀ m ∈ ms, ApartG g m.A m.s.vals := fun m hm h0 b o e e2 => h.apart m hm h0 b o e (by rw [e2]; rfl)
  have hlen : (ms.set k (m.with vs A c1)).length = ms.length := by simp
  refine ⟨?_, fun x hx => ?_, fun x hx h0 b o e => ?_⟩
  · rw [hlen, ← flat_set hk]
    exact (h.own.stored (k * 5 + 4) (.slice A vs.length c1)).1
  · rcases List.mem_or_eq_of_mem_set hx with hx | rfl
    · exact smOk_set (h.ok x hx) (hap x hx) _ _
    · exact ⟨valsAt_set hv ha _ _, hl, hc, (h.ok m (List.mem_of_getElem? hk)).code⟩
  · rcases List.mem_or_eq_of_mem_set hx with hx | rfl
    · have := h.apart x hx h0 b o e; exact this
    · intro e2
      have e2 : some g = some b := e2
      injection e2 with e2
      exact ha h0 b o e e2

/-- a sign with its values changed -/
def sgWith (f : List Va → List Va) (s : Sg) : Sg := ⟨s.code, s.wide, s.high, s.even, f s.vals⟩
/-- the first signs changed -/
def firstW (f : List Va → List Va) (k : Nat) (l : List Sg) : List Sg := (l.take k).map (sgWith f) ++ l.drop k
theorem firstW_len (f : List Va → List Va) (k : Nat) (l : List Sg) : (firstW f k l).length = l.length := by unfold firstW; simp; omega
theorem firstW_at (f : List Va → List Va) (k : Nat) (l : List Sg) (s : Sg) (h : l[k]? = some s) : (firstW f k l)[k]? = some s := by
  unfold firstW
  obtain ⟨hk, e⟩ := List.getElem?_eq_some_iff.1 h
  rw [List.getElem?_append_right (by simp; omega)]
  simp
  rw [show k + (k - min k l.length) = k by omega]
  exact h
theorem firstW_set (f : List Va → List Va) (k : Nat) (l : List Sg) (s : Sg) (h : l[k]? = some s) : (firstW f k l).set k (sgWith f s) = firstW f (k + 1) l := by
  obtain ⟨hk, e⟩ := List.getElem?_eq_some_iff.1 h
  unfold firstW
  rw [List.set_append_right _ _ (by simp; omega), List.take_succ_eq_append_getElem hk, List.drop_eq_getElem_cons hk, List.map_append]
  have hm : k - (List.map (sgWith f) (List.take k l)).length = 0 := by simp; omega
  rw [hm]
  simp [e]
theorem firstW_zero (f : List Va → List Va) (l : List Sg) : firstW f 0 l = l := by simp [firstW]
theorem firstW_all (f : List Va → List Va) (l : List Sg) : firstW f l.length l = l.map (sgWith f) := by simp [firstW]

/-- what a valid list keeps -/
theorem vals_okV (p : Int) : ∀ (vs done : List Va), valsErr p done vs = 0 → p ≤ 9 → ∀ v ∈ vs, okV v
  | [], _, _, _, v, hv => by cases hv
  | x :: r, done, h, hp, v, hv => by
    rw [valsErr] at h
    split at h
    · rename_i h0
      rcases List.mem_cons.1 hv with rfl | hv
      · unfold valErr at h0
        split at h0
        · cases h0
        · rename_i h1
          split at h0
          · cases h0
          · rename_i h2
            have h3 : textB v.kind v.text = true := by
              cases hk : kindB v.kind <;> cases ht : textB v.kind v.text <;> simp_all
            refine ⟨by omega, by omega, by omega, ?_⟩
            unfold textB withinB at h3
            simp at h3
            unfold maxLen; omega
      · exact vals_okV p r _ h hp v hv
    · rename_i h0; exact absurd h h0
theorem signs_okV (p : Int) : ∀ (l done : List Sg), signsErr p done l = 0 → p ≤ 9 → ∀ s ∈ l, s.vals.length ≤ 12 ∧ ∀ v ∈ s.vals, okV v
  | [], _, _, _, s, hs => by cases hs
  | x :: r, done, h, hp, s, hs => by
    rw [signsErr] at h
    split at h
    · cases h
    · split at h
      · rename_i h0
        rcases List.mem_cons.1 hs with rfl | hs
        · unfold signErr at h0
          split at h0
          · cases h0
          · split at h0
            · cases h0
            · exact ⟨by omega, vals_okV p _ _ h0 hp⟩
        · exact signs_okV p r _ h hp s hs
      · rename_i h0; exact absurd h h0
theorem check_okV (l : Li) (h : checkErr l = 0) : l.signs.length ≤ 200 ∧ 1 ≤ l.per ∧ l.per ≤ 9 ∧ ∀ s ∈ l.signs, s.vals.length ≤ 12 ∧ ∀ v ∈ s.vals, okV v := by
  unfold checkErr at h
  split at h
  · cases h
  · split at h
    · cases h
    · rename_i h1 h2
      have h3 : withinB l.per 9 = true := by simpa using h2
      unfold withinB at h3
      simp at h3
      exact ⟨by omega, h3.1, h3.2, signs_okV l.per _ _ h h3.2⟩

/-- Tidy -/
def tidyV (vs : List Va) : List Va := tidiedR [vs]
def tidyL (l : Li) : Li × Int := if checkErr l ≠ 0 then (⟨0, []⟩, checkErr l) else (⟨l.per, l.signs.map (sgWith tidyV)⟩, 0)
/-- a list and an error -/
def GotListE (w : World) (q : Li × Int) (e : Ending) (w' : World) : Prop := ∃ L : Lm, e = .returned (.tuple #[L.val, .int .i64 q.2]) ∧ LmOk w' L ∧ L.li = q.1 ∧ Below w.heap.size w w'
theorem lm_none (w : World) : LmOk w ⟨0, [], none, 0⟩ := ⟨fun k m h => by simp at h, Nat.le_refl _, Nat.zero_le _⟩

end Go.Proofs.YtleihhkacmgofabGreatDoor

/- Contract of Tidy, in the program. -/
namespace Go.Proofs.YtleihhkacmgofabGreatDoor
open Go.RowKit

theorem OwnSigns.other {w : World} {base c : Nat} {A : Option Addr} {ms : List Sm} (h : OwnSigns w base A c ms) {b0 : Nat} (hb : (Value.slice A ms.length c).ownBlock ≠ some b0) (ha : ∀ m ∈ ms, ApartG b0 m.A m.s.vals) (o : Nat) (u : Value) : OwnSigns (w.setCell ⟨b0, o, none⟩ u) base A c ms :=
  ⟨ownsRow_of_block h.own (fun g hg => heap_setCell_other _ _ _ _ (by intro e; subst e; exact hb hg)), fun m hm => smOk_set (h.ok m hm) (ha m hm) _ _, h.apart⟩
/-- a row of signs as it was handed in, in memory of the call's own -/
theorem OwnSigns.cloned {w w1 w' : World} {A : Option Addr} {c : Nat} {ms : List Sm} (hown : w'.ownsRow w1.heap.size 38 5 (.slice A ms.length c) ms.length (ms.flatMap Sm.cells)) (hok : ∀ m ∈ ms, SmOk w m) (hb : Below w.heap.size w w') (hs : w.heap.size ≤ w1.heap.size) : OwnSigns w' w1.heap.size A c ms :=
  ⟨hown, fun m hm => (hok m hm).below hb, fun m hm h0 b o e e2 => by
    obtain ⟨b', o', e', hlt, _⟩ := (hok m hm).vals 0 m.s.vals[0] (List.getElem?_eq_getElem h0)
    rw [e] at e'
    injection e' with e'; injection e' with e1 _
    have := (hown.lt b e2).1
    omega⟩
theorem signs_oks {w : World} {A : Option Addr} {ms : List Sm} (h : SignsAt w A ms) : ∀ m ∈ ms, SmOk w m := fun m hm => by
  obtain ⟨i, hi⟩ := List.getElem?_of_mem hm
  obtain ⟨_, _, _, _, _, h⟩ := h i m hi
  exact h
theorem apart_old {w : World} {m : Sm} (h : SmOk w m) {b0 : Nat} (hb : w.heap.size ≤ b0) : ApartG b0 m.A m.s.vals := fun h0 b o e e2 => by
  obtain ⟨b', o', e', hlt, _⟩ := h.vals 0 m.s.vals[0] (List.getElem?_eq_getElem h0)
  rw [e] at e'
  injection e' with e'; injection e' with e1 _
  omega
theorem pcheck_is (l : Lm) (w : World) (hl : LmOk w l) (r : Int) (h : checkErr l.li = r) : Calls Tryz.prog 21 #[l.val] w fun e w' => e = .returned (.int .i64 r) ∧ Below w.heap.size w w' := by
  rw [← h]; exact check_any l w hl
theorem set_map {ms : List Sm} {k : Nat} {f : List Va → List Va} {l : List Sg} {u : Sm} (h : ms.map (·.s) = firstW f k l) (_hu : ms[k]? = some u) (hl : l[k]? = some u.s) (vs : List Va) (hv : vs = f u.s.vals) (A : Option Addr) (c : Nat) : (ms.set k (u.with vs A c)).map (·.s) = firstW f (k + 1) l := by
  rw [List.map_set, h, ← firstW_set f k l u.s hl, hv]
  rfl

set_option maxHeartbeats 3200000 in
set_option maxRecDepth 100000 in
theorem ptidy_any (l : Lm) (w : World) (hl : LmOk w l) :
    Calls Tryz.prog 9 #[l.val] w (GotListE w (tidyL l.li)) := by
  obtain ⟨W, hW⟩ : ∃ W, W = ((w.alloc (.cells #[.int .i64 l.per, .slice l.A l.ms.length l.cap] 24)).alloc (.cells #[.int .i64 0, .slice none 0 0] 24)) := ⟨_, rfl⟩
  have HB := Lib.hid (show Below w.heap.size w W from hW ▸ ((Below.refl _ _).alloc (Nat.le_refl _) _).alloc (by simp) _)
  have C1 := Lib.hid (show W.heap[w.heap.size]? = some (.cells #[.int .i64 l.per, .slice l.A l.ms.length l.cap] 24 (0, 0)) by
    rw [hW, heap_alloc_other _ _ _ (by simp)]; exact heap_alloc_new _ _)
  have C2 := Lib.hid (show W.heap[w.heap.size + 1]? = some (.cells #[.int .i64 0, .slice none 0 0] 24 (0, 0)) by
    rw [hW]; have := heap_alloc_new (w.alloc (.cells #[.int .i64 l.per, .slice l.A l.ms.length l.cap] 24)) (.cells #[.int .i64 0, .slice none 0 0] 24); simpa using this)
  have HS := Lib.hid (show W.heap.size = w.heap.size + 1 + 1 by rw [hW]; simp)
  have HL := Lib.hid (hl.below HB.out)
  have HL0 := Lib.hid hl
  have hlen := hl.len
  have hcap := hl.cap
  unfold maxLen at hcap
  clear hl
  obtain ⟨E, hE⟩ : ∃ E, E = checkErr l.li := ⟨_, rfl⟩
  have HE := Lib.hid hE.symm
  have HCK := Lib.hid (fun r (h : checkErr l.li = r) => show Calls Tryz.prog 21 #[.agg #[.int .i64 l.per, .slice l.A l.ms.length l.cap]] W _ from pcheck_is l W HL.out r h)
  show Calls _ _ #[.agg #[.int .i64 l.per, .slice l.A l.ms.length l.cap]] w _
  by_cases h0 : E = 0
  case neg =>
    have hb : (E != 0) = true := by simpa using h0
    have HF := Lib.hid (show tidyL l.li = (⟨0, []⟩, E) by unfold tidyL; rw [HE.out, if_pos h0])
    clear hE h0
    go_enter Tryz.func9, Tryz.ntmps9
    go_wp2_with fail
    rw [← hW]
    refine (HCK.out E HE.out).mono ?_; rintro e w1 ⟨rfl, hb1⟩
    have k2 := blk_keep hb1 C2.out
    have r0 := cell_of_blk k2 0
    have r1 := cell_of_blk k2 1
    have f0 := free_of_blk k2 0
    have f1 := free_of_blk k2 1
    simp at r0 r1
    have B1 := Lib.hid (HB.out.trans (hb1.mono HB.out.size))
    clear hb1 k2
    go_wp2_with fail
    rw [HF.out]
    refine bodyPost_ret (v := .tuple #[.agg #[.int .i64 0, .slice none 0 0], .int .i64 E]) (by simp [results, Tryz.results9, go_sem, r0, r1]) rfl ⟨⟨0, [], none, 0⟩, rfl, lm_none _, rfl, ?_⟩
    exact (B1.out.setCell (by dsimp only; omega) _).setCell (by dsimp only; omega) _
  subst h0
  clear hE
  have HOKV := Lib.hid (check_okV l.li HE.out)
  have HF := Lib.hid (show tidyL l.li = (⟨l.per, l.signs.map (sgWith tidyV)⟩, 0) by unfold tidyL; rw [HE.out, if_neg (by simp)]; rfl)
  have HNL := Lib.hid (show l.ms.length ≤ 200 by have := HOKV.out.1; rw [show l.li.signs = l.signs from rfl, Lm.length_signs] at this; exact this)
  go_enter Tryz.func9, Tryz.ntmps9
  go_wp2_with fail
  rw [← hW]
  refine (HCK.out 0 HE.out).mono ?_; rintro e w1 ⟨rfl, hb1⟩
  have B1 := Lib.hid hb1
  have K1 := Lib.hid (blk_keep hb1 C1.out)
  have K2 := Lib.hid (blk_keep hb1 C2.out)
  have x0 := cell_of_blk K1.out 0
  have x1 := cell_of_blk K1.out 1
  simp at x0 x1
  have HW1 := Lib.hid (HB.out.trans (hb1.mono HB.out.size))
  clear hb1
  go_wp2_with fail
  refine (cloneG_any l.A l.cap l.ms w1 (HL0.out.signs.below HW1.out) (by have := HNL.out; omega)).mono ?_; rintro e w2 ⟨A1, c1, rfl, own1, hb2⟩
  have OWN := Lib.hid (OwnSigns.cloned own1 (signs_oks HL0.out.signs) (HW1.out.trans (hb2.mono HW1.out.size)) HW1.out.size)
  have AP0 := Lib.hid (show ∀ m ∈ l.ms, ApartG (w.heap.size + 1) m.A m.s.vals from fun m hm => apart_old (signs_oks HL0.out.signs m hm) (by omega))
  have B2 := Lib.hid hb2
  clear own1 hb2 x0 x1
  have hnl := HNL.out
  obtain ⟨n, hn⟩ : ∃ n, n = l.ms.length := ⟨_, rfl⟩
  have HN := Lib.hid hn
  rw [← hn] at hlen hnl ⊢
  clear hn
  go_wp2_with fail
  go_loopw [6, 18] (fun _ i wr => ∃ k : Nat, k ≤ n ∧ i = .int .i64 k ∧ Hid (∃ cs, cs.length = n ∧ Below w1.heap.size w1 wr ∧ OwnSigns wr w1.heap.size A1 c1 cs ∧ cs.map (·.s) = firstW tidyV k l.signs ∧ ∀ m ∈ cs, ApartG (w.heap.size + 1) m.A m.s.vals)) (fun _ i _ => n - (intOf i).toNat)
  case atStart => exact ⟨0, Nat.zero_le _, rfl, Lib.hid ⟨l.ms, HN.out.symm, B2.out, OWN.out, (firstW_zero _ _).symm, AP0.out⟩⟩
  case round =>
    obtain ⟨k, hk, rfl, hrl⟩ := hrel
    obtain ⟨cs, hcl, hb3, ho3, hm3, ha3⟩ := hrl.out
    have hw1s := hb3.size
    have hws := HW1.out.size
    have hW1 := HS.out
    have hW2 := B1.out.size
    by_cases hlt : k < n
    · have hget : cs[k]? = some (cs[k]'(by omega)) := List.getElem?_eq_getElem _
      obtain ⟨u, hu⟩ : ∃ u, u = cs[k]'(by omega) := ⟨_, rfl⟩
      rw [← hu] at hget
      have hus : l.signs[k]? = some u.s := by
        have h1 : (cs.map (·.s))[k]? = some u.s := by rw [List.getElem?_map, hget]; rfl
        rw [hm3] at h1
        have hkl : k < l.signs.length := by rw [Lm.length_signs, ← HN.out]; exact hlt
        have h2 := firstW_at tidyV k l.signs _ (List.getElem?_eq_getElem hkl)
        rw [h2] at h1
        rw [List.getElem?_eq_getElem hkl]
        exact h1
      have HUV := Lib.hid (HOKV.out.2.2.2 u.s (List.mem_of_getElem? hus))
      obtain ⟨A', c', e', hc1, hc1m, hA1, hA1n⟩ := own_slice ho3.own
      injection e' with e1 e2 e3
      subst e1 e3
      cases hA : A1 with
      | none => have := hA1n hA; omega
      | some ad =>
      obtain ⟨g, rfl, hg0, hg1, hcell⟩ := hA1 ad hA
      subst hA
      have hsm := sm_cells_at hcell hget
      have x4 := hsm.c4
      rw [Nat.zero_add] at x4
      have HUO := Lib.hid (ho3.ok u (List.mem_of_getElem? hget))
      have HGET := Lib.hid hget
      have HUS := Lib.hid hus
      have HCS := Lib.hid (And.intro hcl (And.intro hb3 (And.intro ho3 (And.intro hm3 ha3))))
      clear hu hget hus hsm hcell hA1 hA1n hcl hb3 ho3 hm3 ha3 hrl
      go_wp2_with fail
      refine (tidy_any u.A u.cap u.s.vals wr HUO.out.vals (by have := HUV.out.1; omega) HUV.out.2).mono ?_; rintro e w3 ⟨A2, c2, rfl, hv2, hl2, hc2, hb4, hfr⟩
      have X4 := Lib.hid ((hb4.cell (p := ⟨g, k * 5 + 4, none⟩) hg1).trans x4)
      have OW4 := Lib.hid (HCS.out.2.2.1.below hb4)
      have z4 := OW4.out.own.frozenAt (k * 5 + 4)
      have y4 := X4.out
      have hg3 : g < w3.heap.size := Nat.lt_of_lt_of_le hg1 hb4.size
      have B4 := Lib.hid (HCS.out.2.1.trans (hb4.mono HCS.out.2.1.size))
      have ST := Lib.hid (OW4.out.set HGET.out hv2 hl2 hc2 (fun _ b o e e2 => by have := hfr b o e; omega))
      have AP := Lib.hid (show ∀ m ∈ cs.set k (u.with (tidiedR [u.s.vals]) A2 c2), ApartG (w.heap.size + 1) m.A m.s.vals from fun m hm => by
        rcases List.mem_or_eq_of_mem_set hm with hm | rfl
        · exact HCS.out.2.2.2.2 m hm
        · exact fun _ b o e e2 => by have := hfr b o e; omega)
      clear hv2 hl2 hc2 hb4 hfr x4
      go_wp2_with fail
      go_roundw
      case rel => exact ⟨k + 1, by omega, by go_num, Lib.hid ⟨_, by rw [List.length_set]; exact HCS.out.1, B4.out.setCell (p := ⟨g, _, none⟩) hg0 _, ST.out, set_map HCS.out.2.2.2.1 HGET.out HUS.out _ rfl _ _, AP.out⟩⟩
      case measure => simp [intOf]; omega
    · obtain rfl : k = n := by omega
      have k1 := blk_keep hb3 K1.out
      have k2 := blk_keep hb3 K2.out
      have p0 := cell_of_blk k1 0
      have r0 := cell_of_blk k2 0
      have r1 := cell_of_blk k2 1
      have f0 := free_of_blk k2 0
      have f1 := free_of_blk k2 1
      simp at p0 r0 r1
      have hne : (Value.slice A1 cs.length c1).ownBlock ≠ some (w.heap.size + 1) := fun e => by have := (ho3.own.lt _ e).1; omega
      have HO := Lib.hid ((ho3.other hne ha3 0 (.int .i64 l.per)).other hne ha3 1 (.slice A1 k c1))
      have HM := Lib.hid (show cs.map (·.s) = l.signs.map (sgWith tidyV) by rw [hm3, HN.out, ← Lm.length_signs, firstW_all])
      have HCL := Lib.hid hcl
      have HB3 := Lib.hid (HW1.out.trans (hb3.mono HW1.out.size))
      clear hcl hb3 ho3 hm3 ha3 hrl k1 k2 hne
      go_wp2_with fail
      rw [HF.out]
      refine bodyPost_ret (v := .tuple #[.agg #[.int .i64 l.per, .slice A1 k c1], .int .i64 0]) (by simp [results, Tryz.results9, go_sem, r0, r1]) rfl ⟨⟨l.per, cs, A1, c1⟩, ?_, HO.out.lm _, ?_, ?_⟩
      · unfold Lm.val; dsimp only; rw [HCL.out]
      · unfold Lm.li Lm.signs; dsimp only; rw [HM.out]; rfl
      · exact (HB3.out.setCell (by dsimp only; omega) _).setCell (by dsimp only; omega) _

end Go.Proofs.YtleihhkacmgofabGreatDoor

/- Signs in a row of the call's own: one more; a value of one of them written. -/
namespace Go.Proofs.YtleihhkacmgofabGreatDoor
open Go.RowKit

theorem valsAt_blocks {w w' : World} {A : Option Addr} {vs : List Va} (h : ValsAt w A vs) (hs : w.heap.size ≤ w'.heap.size) (hb : 0 < vs.length → ∀ b o, A = some ⟨b, o, none⟩ → b < w.heap.size → w'.heap[b]? = w.heap[b]?) : ValsAt w' A vs := fun k v hk => by
  obtain ⟨b, o, e, hlt, hv⟩ := h k v hk
  have hc : ∀ p, w'.cell? ⟨b, p, none⟩ = w.cell? ⟨b, p, none⟩ := fun p => World.cell?_of_block (a := ⟨b, p, none⟩) (hb (by have := (List.getElem?_eq_some_iff.1 hk).1; omega) b o e hlt)
  exact ⟨b, o, e, by omega, ⟨(hc _).trans hv.c0, (hc _).trans hv.c1, (hc _).trans hv.c2, (hc _).trans hv.c3, hv.sz⟩⟩
theorem smOk_blocks {w w' : World} {m : Sm} (h : SmOk w m) (hs : w.heap.size ≤ w'.heap.size) (hb : 0 < m.s.vals.length → ∀ b o, m.A = some ⟨b, o, none⟩ → b < w.heap.size → w'.heap[b]? = w.heap[b]?) : SmOk w' m := ⟨valsAt_blocks h.vals hs hb, h.len, h.cap, h.code⟩
theorem vals_lt {w : World} {A : Option Addr} {vs : List Va} (h : ValsAt w A vs) (h0 : 0 < vs.length) : ∀ b o, A = some ⟨b, o, none⟩ → b < w.heap.size := fun b o e => by
  obtain ⟨b', o', e', hlt, _⟩ := h 0 vs[0] (List.getElem?_eq_getElem h0)
  rw [e] at e'
  injection e' with e'; injection e' with e1 _
  omega

/-- one sign more in the row -/
theorem OwnSigns.append {w w3 : World} {base : Nat} {A A3 : Option Addr} {c c3 : Nat} {cs : List Sm} {m : Sm} {blk : Obj} (h : OwnSigns w base A c cs) (hm : SmOk w m) (ha : 0 < m.s.vals.length → ∀ b o, m.A = some ⟨b, o, none⟩ → (Value.slice A cs.length c).ownBlock ≠ some b)
    (hown : w3.ownsRow base 38 5 (.slice A3 (cs.length + 1) c3) (cs.length + 1) (cs.flatMap Sm.cells ++ m.cells))
    (hg : (w.alloc blk).grownBy w3 (Value.slice A cs.length c).ownBlock)
    (hat : (Value.slice A3 (cs.length + 1) c3).ownBlock = (Value.slice A cs.length c).ownBlock ∨ (Value.slice A3 (cs.length + 1) c3).ownBlock = some (w.alloc blk).heap.size) :
    OwnSigns w3 base A3 c3 (cs ++ [m]) := by
  have hs : w.heap.size + 1 ≤ w3.heap.size := by have := hg.size; simpa using this
  have hkeep : ∀ b, b < w.heap.size → (Value.slice A cs.length c).ownBlock ≠ some b → w3.heap[b]? = w.heap[b]? := fun b hb hne => by
    rw [hg.block b (by simp; omega) (fun e => hne e.symm), heap_alloc_other _ _ _ hb]
  have hall : ∀ x ∈ cs ++ [m], SmOk w x ∧ (0 < x.s.vals.length → ∀ b o, x.A = some ⟨b, o, none⟩ → (Value.slice A cs.length c).ownBlock ≠ some b) := fun x hx => by
    rcases List.mem_append.1 hx with hx | hx
    · exact ⟨h.ok x hx, h.apart x hx⟩
    · simp at hx; subst hx; exact ⟨hm, ha⟩
  have hl : (cs ++ [m]).length = cs.length + 1 := by simp
  refine ⟨?_, fun x hx => ?_, fun x hx h0 b o e => ?_⟩
  · rw [hl, List.flatMap_append]
    simpa using hown
  · exact smOk_blocks (hall x hx).1 (by omega) (fun h0 b o e hb => hkeep b hb ((hall x hx).2 h0 b o e))
  · rw [hl]
    rcases hat with ha2 | ha2
    · rw [ha2]; exact (hall x hx).2 h0 b o e
    · rw [ha2]
      intro e2
      injection e2 with e2
      have := vals_lt (hall x hx).1.vals h0 b o e
      simp at e2
      omega

theorem flatV_fr {V : List Va} {j : Nat} {v : Va} (h : V[j]? = some v) (n : Int) : (V.flatMap Va.cells).set (j * 4 + 2) (.int .i64 n) = (V.set j ⟨v.kind, v.text, n, v.to⟩).flatMap Va.cells := by
  induction V generalizing j with
  | nil => simp at h
  | cons x r ih =>
    cases j with
    | zero => simp at h; subst h; simp [Va.cells]
    | succ j =>
      have := ih (j := j) (by simpa using h)
      rw [List.set_cons_succ, List.flatMap_cons, List.flatMap_cons, ← this, List.set_append_right _ _ (by simp [Va.cells]; omega)]
      congr 1
      congr 1
      simp [Va.cells]
      omega
theorem flatV_to {V : List Va} {j : Nat} {v : Va} (h : V[j]? = some v) (n : Int) : (V.flatMap Va.cells).set (j * 4 + 3) (.int .i64 n) = (V.set j ⟨v.kind, v.text, v.fr, n⟩).flatMap Va.cells := by
  induction V generalizing j with
  | nil => simp at h
  | cons x r ih =>
    cases j with
    | zero => simp at h; subst h; simp [Va.cells]
    | succ j =>
      have := ih (j := j) (by simpa using h)
      rw [List.set_cons_succ, List.flatMap_cons, List.flatMap_cons, ← this, List.set_append_right _ _ (by simp [Va.cells]; omega)]
      congr 1
      congr 1
      simp [Va.cells]
      omega

/-- values in a row of the call's own -/
structure OwnVals (w : World) (base : Nat) (A : Option Addr) (c : Nat) (V : List Va) : Prop where
  own : w.ownsRow base 43 4 (.slice A V.length c) V.length (V.flatMap Va.cells)
  sz : ∀ v ∈ V, v.text.size ≤ maxLen
theorem OwnVals.vals {w : World} {base : Nat} {A : Option Addr} {c : Nat} {V : List Va} (h : OwnVals w base A c V) : ValsAt w A V ∧ V.length ≤ c ∧ c ≤ maxLen ∧ ∀ b o, A = some ⟨b, o, none⟩ → base ≤ b := own_vals h.own h.sz
theorem OwnVals.below {w w' : World} {base : Nat} {A : Option Addr} {c : Nat} {V : List Va} (h : OwnVals w base A c V) (hb : Below w.heap.size w w') : OwnVals w' base A c V :=
  ⟨ownsRow_of_block h.own (fun g hg => hb.block g (h.own.lt g hg).2), h.sz⟩
theorem OwnVals.fr {w : World} {base g c : Nat} {V : List Va} (h : OwnVals w base (some ⟨g, 0, none⟩) c V) {j : Nat} {v : Va} (hj : V[j]? = some v) (n : Int) : OwnVals (w.setCell ⟨g, j * 4 + 2, none⟩ (.int .i64 n)) base (some ⟨g, 0, none⟩) c (V.set j ⟨v.kind, v.text, n, v.to⟩) := by
  refine ⟨?_, fun x hx => ?_⟩
  · rw [List.length_set, ← flatV_fr hj]; exact (h.own.stored _ _).1
  · rcases List.mem_or_eq_of_mem_set hx with hx | rfl
    · exact h.sz x hx
    · exact h.sz v (List.mem_of_getElem? hj)
theorem OwnVals.to {w : World} {base g c : Nat} {V : List Va} (h : OwnVals w base (some ⟨g, 0, none⟩) c V) {j : Nat} {v : Va} (hj : V[j]? = some v) (n : Int) : OwnVals (w.setCell ⟨g, j * 4 + 3, none⟩ (.int .i64 n)) base (some ⟨g, 0, none⟩) c (V.set j ⟨v.kind, v.text, v.fr, n⟩) := by
  refine ⟨?_, fun x hx => ?_⟩
  · rw [List.length_set, ← flatV_to hj]; exact (h.own.stored _ _).1
  · rcases List.mem_or_eq_of_mem_set hx with hx | rfl
    · exact h.sz x hx
    · exact h.sz v (List.mem_of_getElem? hj)
/-- the signs of a row while values of one of them are written: the others as they were, this one with the values that lie there now -/
theorem OwnSigns.vals_turned {w w' : World} {base g2 : Nat} {A A2 : Option Addr} {c c2 : Nat} {cs : List Sm} {u : Sm} {k : Nat} {V V' : List Va} (h : OwnSigns w base A c (cs.set k (u.with V A2 c2))) (hk : k < cs.length)
    (hap : ∀ m ∈ cs, ApartG g2 m.A m.s.vals) (hne : (Value.slice A cs.length c).ownBlock ≠ some g2) (hs : w.heap.size ≤ w'.heap.size) (hb : ∀ b, b < w.heap.size → b ≠ g2 → w'.heap[b]? = w.heap[b]?)
    (hl : V'.length = V.length) (hv : ValsAt w' A2 V') (hA : 0 < V'.length → ∀ b o, A2 = some ⟨b, o, none⟩ → b = g2) : OwnSigns w' base A c (cs.set k (u.with V' A2 c2)) := by
  have hlen : ∀ (x : Sm), (cs.set k x).length = cs.length := fun x => by simp
  have hcell : (cs.set k (u.with V' A2 c2)).flatMap Sm.cells = (cs.set k (u.with V A2 c2)).flatMap Sm.cells := by
    have h1 := flat_set (ms := cs) (k := k) (m := cs[k]) (List.getElem?_eq_getElem hk) V A2 c2
    have e : ∀ X : List Va, X.length = V.length → (cs.set k (u.with X A2 c2)).flatMap Sm.cells = (cs.set k (u.with V A2 c2)).flatMap Sm.cells := by
      intro X hX
      rw [List.flatMap_def, List.flatMap_def, List.map_set, List.map_set]
      congr 2
      simp [Sm.cells, Sm.with, hX]
    exact e V' hl
  have hu := h.ok (u.with V A2 c2) (List.mem_of_getElem? (by rw [List.getElem?_set_self (by simpa using hk)]))
  have hoth : ∀ x ∈ cs.set k (u.with V' A2 c2), x = u.with V' A2 c2 ∨ (x ∈ cs ∧ x ∈ cs.set k (u.with V A2 c2)) := fun x hx => by
    obtain ⟨i, hi⟩ := List.getElem?_of_mem hx
    by_cases hik : i = k
    · subst hik
      rw [List.getElem?_set_self (by simpa using hk)] at hi
      injection hi with hi; exact .inl hi.symm
    · rw [List.getElem?_set_ne (fun e => hik e.symm)] at hi
      refine .inr ⟨List.mem_of_getElem? hi, List.mem_of_getElem? (i := i) ?_⟩
      rw [List.getElem?_set_ne (fun e => hik e.symm)]; exact hi
  refine ⟨?_, fun x hx => ?_, fun x hx h0 b o e => ?_⟩
  · rw [hcell]
    have h1 := h.own
    rw [hlen] at h1 ⊢
    exact ownsRow_of_block h1 (fun g hg => hb g (h1.lt g hg).2 (fun e => hne (by rw [← e]; exact hg)))
  · rcases hoth x hx with rfl | ⟨h1, h2⟩
    · exact ⟨hv, by have := hu.len; unfold Sm.with at this ⊢; dsimp only at this ⊢; omega, hu.cap, hu.code⟩
    · exact smOk_blocks (h.ok x h2) hs (fun h0 b o e hlt => hb b hlt (fun e2 => hap x h1 h0 b o e e2.symm))
  · rw [hlen]
    rcases hoth x hx with rfl | ⟨h1, h2⟩
    · have := hA h0 b o e; rw [this]; exact hne
    · have := h.apart x h2 h0 b o e; rw [hlen] at this; exact this

end Go.Proofs.YtleihhkacmgofabGreatDoor

/- Contract of the specification's Tidy. -/
namespace Go.Proofs.YtleihhkacmgofabGreatDoor
open Go.RowKit

theorem rcheck_is (l : Lm) (w : World) (hl : LmOk w l) (r : Int) (h : checkErr l.li = r) : Calls Tryz.prog 5 #[l.val] w fun e w' => e = .returned (.int .i64 r) ∧ Below w.heap.size w w' := by
  rw [← h]; exact rcheck_any l w hl
theorem SignsAt.one {w : World} {b o : Nat} {ms : List Sm} (h : SignsAt w (some ⟨b, o, none⟩) ms) {k : Nat} {m : Sm} (hk : ms[k]? = some m) : SignsAt w (some ⟨b, o + k * 5, none⟩) [m] := fun j x hj => by
  have hj0 : j = 0 := by have := (List.getElem?_eq_some_iff.1 hj).1; simpa using this
  subst hj0
  simp at hj; subst hj
  obtain ⟨b', o', e, hlt, hv, hok⟩ := h k m hk
  injection e with e; injection e with e1 e2
  subst e1 e2
  exact ⟨b, o + k * 5, rfl, hlt, by simpa using hv, hok⟩

theorem tidyV_sz {vs : List Va} (h : ∀ v ∈ vs, okV v) : ∀ v ∈ tidyV vs, v.text.size ≤ maxLen := fun v hv =>
  (runsR_ok (pointsR [vs]) (by
    have := foldV_ok vs [] h (fun x h => by cases h)
    exact this.1) v hv).2.2.2

end Go.Proofs.YtleihhkacmgofabGreatDoor

/- Contract of Restrict, in the program. -/
namespace Go.Proofs.YtleihhkacmgofabGreatDoor
open Go.RowKit

/-- a value in the one period -/
def oneP (v : Va) : Va := ⟨v.kind, v.text, 1, 1⟩
def restrV (p : Int) (vs : List Va) : List Va := (usedV vs p).map oneP
def restrL (l : Li) (p : Int) : Li × Int := if checkErr l ≠ 0 then (⟨0, []⟩, checkErr l) else if withinB p l.per = false then (⟨0, []⟩, 13) else (⟨1, l.signs.map (sgWith (restrV p))⟩, 0)
/-- the first values changed -/
def mixV (V : List Va) (j : Nat) : List Va := (V.take j).map oneP ++ V.drop j
theorem mixV_len (V : List Va) (j : Nat) : (mixV V j).length = V.length := by unfold mixV; simp; omega
theorem mixV_at (V : List Va) (j : Nat) (v : Va) (h : V[j]? = some v) : (mixV V j)[j]? = some v := by
  unfold mixV
  obtain ⟨hk, e⟩ := List.getElem?_eq_some_iff.1 h
  rw [List.getElem?_append_right (by simp; omega)]
  simp
  rw [show j + (j - min j V.length) = j by omega]
  exact h
theorem mixV_set (V : List Va) (j : Nat) (v : Va) (h : V[j]? = some v) : ((mixV V j).set j ⟨v.kind, v.text, 1, v.to⟩).set j ⟨v.kind, v.text, 1, 1⟩ = mixV V (j + 1) := by
  obtain ⟨hk, e⟩ := List.getElem?_eq_some_iff.1 h
  rw [List.set_set]
  unfold mixV
  rw [List.set_append_right _ _ (by simp; omega), List.take_succ_eq_append_getElem hk, List.drop_eq_getElem_cons hk, List.map_append]
  have hm : j - (List.map oneP (List.take j V)).length = 0 := by simp; omega
  rw [hm]
  simp [e, oneP]
theorem mixV_zero (V : List Va) : mixV V 0 = V := by simp [mixV]
theorem mixV_all (V : List Va) : mixV V V.length = V.map oneP := by simp [mixV]
theorem within_ok (n m : Int) (w : World) (r : Bool) (h : withinB n m = r) : Calls Tryz.prog 36 #[.int .i64 n, .int .i64 m] w fun e w' => e = .returned (.bool r) ∧ w = w' := by
  rw [← h]; exact within_any n m w

end Go.Proofs.YtleihhkacmgofabGreatDoor

/- Contract of the specification's Restrict. -/
namespace Go.Proofs.YtleihhkacmgofabGreatDoor
open Go.RowKit

end Go.Proofs.YtleihhkacmgofabGreatDoor

/- The plain functions by which the contracts of Parse are stated. -/
namespace Go.Proofs.YtleihhkacmgofabGreatDoor
open Go.RowKit

def str (l : List UInt8) : ByteArray := ⟨l.toArray⟩
/-- strings.Cut -/
def cutB (s sep : ByteArray) : ByteArray × ByteArray × Bool := (⟨(Lib.cut s.data.toList sep.data.toList).1.toArray⟩, ⟨(Lib.cut s.data.toList sep.data.toList).2.1.toArray⟩, (Lib.cut s.data.toList sep.data.toList).2.2)
/-- strings.Split at one byte or more -/
def splitS (s sep : ByteArray) : List ByteArray := Lib.splitB sep 0 (Lib.countB s sep) s
def numV (l : List UInt8) : Int := l.foldl (fun n c => n * 10 + ((c.toNat : Int) - 48)) 0
/-- a number of one to three digits without a leading zero -/
def numP (s : ByteArray) : Int × Bool :=
  if withinB s.size 3 && !((bytes s).head? == some 48 && !strEq s ⟨#[48]⟩) && (bytes s).all digB then (numV (bytes s), true) else (0, false)
def looseB (c : UInt8) : Bool := !((c.toNat : Int) == 32 || (c.toNat : Int) == 64 || (c.toNat : Int) == 58 || (c.toNat : Int) == 10)
def nameP (s : ByteArray) : Bool := (bytes s).all looseB && !(bytes s).isEmpty
def kindP (s : ByteArray) : Int × Bool := if strEq ⟨#[115]⟩ s then (1, true) else if strEq ⟨#[119]⟩ s then (2, true) else if strEq ⟨#[99]⟩ s then (3, true) else (0, false)
def pairP (s sep : ByteArray) : Int × Int × Bool :=
  if (numP (cutB s sep).1).2 && (numP (cutB s sep).2.1).2 then ((numP (cutB s sep).1).1, (numP (cutB s sep).2.1).1, true) else (0, 0, false)
def zeroVa : Va := ⟨0, ⟨#[]⟩, 0, 0⟩
def zeroSg : Sg := ⟨⟨#[]⟩, 0, 0, false, []⟩
def valueP (s : ByteArray) : Va × Bool :=
  let c := cutB s ⟨#[58]⟩
  let d := cutB c.2.1 ⟨#[64]⟩
  let p := pairP d.2.1 ⟨#[45]⟩
  if (kindP c.1).2 && nameP d.1 && p.2.2 then (⟨(kindP c.1).1, d.1, p.1, p.2.1⟩, true) else (zeroVa, false)
def valsP : List ByteArray → Option (List Va)
  | [] => some []
  | s :: r => if (valueP s).2 then (valsP r).map ((valueP s).1 :: ·) else none
/-- the fields behind a sign's size: whether it is even, and its values -/
def restP : List ByteArray → Bool × List ByteArray
  | [] => (false, [])
  | s :: r => if strEq s ⟨#[61]⟩ then (true, r) else (false, s :: r)
def signF : List ByteArray → Sg × Bool
  | c :: z :: r =>
    if nameP c && (pairP z ⟨#[120]⟩).2.2 then
      match valsP (restP r).2 with
      | some vs => (⟨c, (pairP z ⟨#[120]⟩).1, (pairP z ⟨#[120]⟩).2.1, (restP r).1, vs⟩, true)
      | none => (zeroSg, false)
    else (zeroSg, false)
  | _ => (zeroSg, false)
def signP (s : ByteArray) : Sg × Bool := signF (splitS s ⟨#[32]⟩)
def headP (s : ByteArray) : Int × Bool := if Lib.hasPrefix s.data.toList [112, 101, 114, 105, 111, 100, 115, 32] then numP ⟨(Lib.trimPrefix s.data.toList [112, 101, 114, 105, 111, 100, 115, 32]).toArray⟩ else (0, false)
/-- the lines behind the first one: the signs, or the number of a bad line -/
def linesP : Nat → ByteArray → Int → List Sg ⊕ Int
  | 0, _, _ => .inl []
  | f + 1, t, n =>
    if (bytes t).isEmpty then .inl [] else
    let c := cutB t ⟨#[10]⟩
    if c.2.2 && (signP c.1).2 then
      match linesP f c.2.1 (n + 1) with
      | .inl ss => .inl ((signP c.1).1 :: ss)
      | .inr b => .inr b
    else .inr n
/-- parseLines -/
def allP (t : ByteArray) : Li × Int :=
  let c := cutB t ⟨#[10]⟩
  if c.2.2 && (headP c.1).2 then
    match linesP (t.size + 1) c.2.1 2 with
    | .inl ss => (⟨(headP c.1).1, ss⟩, 0)
    | .inr b => (⟨0, []⟩, b)
  else (⟨0, []⟩, 1)
/-- Parse: the list, the line, the error -/
def parseP (t : ByteArray) : Li × Int × Int :=
  if 65536 < t.size then (⟨0, []⟩, 0, 2)
  else if 0 < (allP t).2 then (⟨0, []⟩, (allP t).2, 4)
  else if checkErr (allP t).1 ≠ 0 then (⟨0, []⟩, 0, checkErr (allP t).1)
  else ((allP t).1, 0, 0)

theorem cut_len (l p : List UInt8) : (Lib.cut l p).1.length ≤ l.length ∧ (Lib.cut l p).2.1.length ≤ l.length ∧ ((Lib.cut l p).2.2 = true → p ≠ [] → (Lib.cut l p).2.1.length < l.length ∨ l = []) := by
  unfold Lib.cut
  split
  · refine ⟨by simp; omega, by simp, fun _ hp => ?_⟩
    have : 0 < p.length := List.length_pos_iff.2 hp
    cases l with
    | nil => exact .inr rfl
    | cons a r => left; simp; omega
  · simp
theorem cutB_size (s sep : ByteArray) : (cutB s sep).1.size ≤ s.size ∧ (cutB s sep).2.1.size ≤ s.size := by
  obtain ⟨h1, h2, -⟩ := cut_len s.data.toList sep.data.toList
  have e : s.data.toList.length = s.size := Array.length_toList
  rw [e] at h1 h2
  unfold cutB
  exact ⟨by show (Lib.cut s.data.toList sep.data.toList).1.toArray.size ≤ s.size; rw [List.size_toArray]; exact h1, by show (Lib.cut s.data.toList sep.data.toList).2.1.toArray.size ≤ s.size; rw [List.size_toArray]; exact h2⟩
theorem cutB_less (s sep : ByteArray) (hp : sep.data.toList ≠ []) (h : (cutB s sep).2.2 = true) (hs : 0 < s.size) : (cutB s sep).2.1.size < s.size := by
  have h1 := (cut_len s.data.toList sep.data.toList).2.2 h hp
  have e : s.data.toList.length = s.size := Array.length_toList
  show (Lib.cut s.data.toList sep.data.toList).2.1.toArray.size < s.size
  rw [List.size_toArray]
  rcases h1 with h1 | h1
  · rw [e] at h1; exact h1
  · rw [h1] at e; simp at e; omega

example : (parseP (str [112, 101, 114, 105, 111, 100, 115, 32, 50, 10, 65, 49, 32, 52, 120, 54, 32, 115, 58, 110, 102, 114, 64, 49, 45, 50, 10, 66, 50, 32, 51, 120, 51, 32, 61, 32, 115, 58, 110, 102, 114, 64, 50, 45, 50, 10])).2 = (0, 0) := by decide +kernel

end Go.Proofs.YtleihhkacmgofabGreatDoor

/- Contracts of parseNumber, isName, parseKind, parsePair. -/
namespace Go.Proofs.YtleihhkacmgofabGreatDoor
open Go.RowKit

/-- what a call finds in the world beside its arguments: the program's own table, and the library's variable -/
structure Env (w : World) : Prop where
  shaped : w.ShapedOpen Tryz.prog
  k1 : w.cell? ⟨1, 1, none⟩ = some (.string ⟨#[115]⟩)
  k2 : w.cell? ⟨1, 2, none⟩ = some (.string ⟨#[119]⟩)
  k3 : w.cell? ⟨1, 3, none⟩ = some (.string ⟨#[99]⟩)
  pow : Lib.TabIs Tryz.prog w "internal/strconv.uint64pow10" .u64 Lib.pow10Tab
theorem cell_lt {w : World} {b o : Nat} {v : Value} (h : w.cell? ⟨b, o, none⟩ = some v) : b < w.heap.size := by
  rcases Nat.lt_or_ge b w.heap.size with h1 | h1
  · exact h1
  · simp [World.cell?, Array.getElem?_eq_none h1] at h
theorem gPow : Tryz.prog.globalNamed "internal/strconv.uint64pow10" = some 2 := by kernel_rfl
theorem Env.below {w w' : World} (h : Env w) (hb : Below w.heap.size w w') : Env w' :=
  ⟨h.shaped.keptBut (hb.frame (fun _ => False)) (fun _ h => h.elim), (hb.cell (p := ⟨_, _, none⟩) (cell_lt h.k1)).trans h.k1, (hb.cell (p := ⟨_, _, none⟩) (cell_lt h.k2)).trans h.k2, (hb.cell (p := ⟨_, _, none⟩) (cell_lt h.k3)).trans h.k3, Go.Joins.tab_stays gPow h.pow hb (Nat.le_refl _)⟩

theorem below_drewN (w : World) (n : Nat) : Below w.heap.size w (w.drewN n) := ⟨rfl, rfl, rfl, Nat.le_refl _, fun _ _ => rfl⟩

theorem cut_any (s sep : ByteArray) (w : World) (hE : Env w) (hs : s.size ≤ 100000) :
    Calls Tryz.prog 46 #[.string s, .string sep] w fun e w' => e = .returned (.tuple #[.string (cutB s sep).1, .string (cutB s sep).2.1, .bool (cutB s sep).2.2]) ∧ Below w.heap.size w w' := by
  refine (Tryz.strings_Cut_shaped s sep w hE.shaped (by omega)).mono ?_
  rintro e w' ⟨rfl, n, rfl⟩
  exact ⟨rfl, below_drewN w n⟩

theorem numV_snoc (l : List UInt8) (c : UInt8) : numV (l ++ [c]) = numV l * 10 + ((c.toNat : Int) - 48) := by simp [numV]
theorem numV_bd (l : List UInt8) (h : l.all digB = true) (hl : l.length ≤ 3) : 0 ≤ numV l ∧ numV l ≤ 999 := by
  match l, h, hl with
  | [], _, _ => simp [numV]
  | [a], h, _ => simp [numV, digB] at *; omega
  | [a, b], h, _ => simp [numV, digB] at *; omega
  | [a, b, c], h, _ => simp [numV, digB] at *; omega
  | a :: b :: c :: d :: r, _, hl => simp at hl

theorem of_two {a a' : Int} {b b' : Bool} (h : (a, b) = (a', b')) : Ending.returned (.tuple #[.int .i64 a, .bool b]) = .returned (.tuple #[.int .i64 a', .bool b']) := by
  injection h with h1 h2; rw [h1, h2]

theorem num_no (s : ByteArray) (h : (withinB s.size 3 && !((bytes s).head? == some 48 && !strEq s ⟨#[48]⟩) && (bytes s).all digB) = false) : numP s = (0, false) := by
  unfold numP; rw [if_neg (by rw [h]; simp)]

theorem ret_ib {a : Int} {b : Bool} {p : Int × Bool} (h : (a, b) = p) : Ending.returned (.tuple #[.int .i64 a, .bool b]) = .returned (.tuple #[.int .i64 p.1, .bool p.2]) := by
  rw [← h]

set_option maxHeartbeats 1600000 in
theorem num_any (s : ByteArray) (w : World) (hs : s.size ≤ maxLen) :
    Calls Tryz.prog 63 #[.string s] w fun e w' => e = .returned (.tuple #[.int .i64 (numP s).1, .bool (numP s).2]) ∧ w = w' := by
  unfold maxLen at hs
  by_cases h1 : withinB s.size 3 = true
  case neg =>
    have h1 : withinB s.size 3 = false := by simpa using h1
    have hf := Lib.hid (num_no s (by rw [h1]; rfl))
    go_enter Tryz.func63, Tryz.ntmps63
    go_wp2_with (first | (go_at_call 36; refine (within_is _ _ _ false h1).mono ?_; rintro e w' ⟨rfl, rfl⟩))
    go_ret2
    exact ⟨ret_ib hf.out.symm, rfl⟩
  have hw : 1 ≤ s.size ∧ s.size ≤ 3 := by simp [withinB] at h1; omega
  obtain ⟨hw0, hw3⟩ := hw
  have hat0 := Lib.hid (show (bytes s).head? = some s[0] by rw [List.head?_eq_getElem?]; exact bytes_at s 0 hw0)
  by_cases h2 : ((s[0].toNat : Int) == 48) = true
  case pos =>
    have h2' := Lib.hid (show s[0] = 48 by
      have h2i : (s[0].toNat : Int) = 48 := by simpa using h2
      have : s[0].toNat = (48 : UInt8).toNat := by show s[0].toNat = 48; omega
      exact UInt8.toNat_inj.1 this)
    by_cases h3 : (s.toList == [48]) = true
    case neg =>
      have h3 : (s.toList == [48]) = false := by simpa using h3
      have hf := Lib.hid (num_no s (by rw [hat0.out, h2'.out]; simp [strEq, ByteArray.toList_eq] at h3 ⊢; simp [h3]))
      go_enter Tryz.func63, Tryz.ntmps63
      go_wp2_with (first | (go_at_call 36; refine (within_is _ _ _ true h1).mono ?_; rintro e w' ⟨rfl, rfl⟩))
      go_ret2
      exact ⟨ret_ib hf.out.symm, rfl⟩
    have hgo := Lib.hid (show (withinB s.size 3 && !((bytes s).head? == some 48 && !strEq s ⟨#[48]⟩)) = true by rw [h1]; simp [strEq, ByteArray.toList_eq] at h3 ⊢; simp [h3])
    go_enter Tryz.func63, Tryz.ntmps63
    go_wp2_with (first | (go_at_call 36; refine (within_is _ _ _ true h1).mono ?_; rintro e w' ⟨rfl, rfl⟩))
    go_loop [2, 20] (fun n i => ∃ k : Nat, k ≤ s.size ∧ i = .int .i64 k ∧ n = .int .i64 (numV ((bytes s).take k)) ∧ Hid (((bytes s).take k).all digB = true)) (fun _ i => s.size - (intOf i).toNat)
    case atStart => exact ⟨0, Nat.zero_le _, rfl, by simp [numV], Lib.hid (by simp)⟩
    case round =>
      obtain ⟨k, hk, rfl, rfl, hall⟩ := hrel
      by_cases hlt : k < s.size
      · have hat := Lib.hid (bytes_at s k hlt)
        by_cases hd : digB s[k] = true
        · have hbd := numV_bd ((bytes s).take k) hall.out (by rw [List.length_take]; omega)
          have hdb : (48 : Int) ≤ (s[k].toNat : Int) ∧ (s[k].toNat : Int) ≤ 57 := by simp [digB] at hd; omega
          obtain ⟨hd1, hd2⟩ := hdb
          obtain ⟨hb1, hb2⟩ := hbd
          have hst := Lib.hid (show numV ((bytes s).take (k + 1)) = numV ((bytes s).take k) * 10 + ((s[k].toNat : Int) - 48) by rw [take_snoc s k hlt, numV_snoc])
          have hal := Lib.hid (all_step s k hlt hall.out hd)
          go_wp2_with (first | (go_at_call 54; refine (dig_any _ _).mono ?_; rintro e w' ⟨rfl, rfl⟩))
          go_round
          case rel => exact ⟨k + 1, by omega, by go_num, by rw [hst.out], hal⟩
          case measure => simp [intOf]; omega
        · have hd : digB s[k] = false := by simpa using hd
          have hf := Lib.hid (num_no s (by rw [all_false_of digB _ _ _ hat.out hd, Bool.and_false]))
          go_wp2_with (first | (go_at_call 54; refine (dig_any _ _).mono ?_; rintro e w' ⟨rfl, rfl⟩))
          go_ret2
          exact ⟨ret_ib hf.out.symm, rfl⟩
      · obtain rfl : k = s.size := by omega
        have hf := Lib.hid (show numP s = (numV ((bytes s).take s.size), true) by
          rw [take_full]
          have := hall.out; rw [take_full] at this
          unfold numP; rw [if_pos (by rw [hgo.out, this]; rfl)])
        go_wp2
        go_ret2
        exact ⟨ret_ib hf.out.symm, rfl⟩
  have h2 : ((s[0].toNat : Int) == 48) = false := by simpa using h2
  have hgo := Lib.hid (show (withinB s.size 3 && !((bytes s).head? == some 48 && !strEq s ⟨#[48]⟩)) = true by
    have : (s[0] == 48) = false := by
      rw [beq_eq_false_iff_ne]; intro e
      rw [e] at h2; simp at h2
    rw [h1, hat0.out]; simp [this])
  go_enter Tryz.func63, Tryz.ntmps63
  go_wp2_with (first | (go_at_call 36; refine (within_is _ _ _ true h1).mono ?_; rintro e w' ⟨rfl, rfl⟩))
  go_loop [2, 20] (fun n i => ∃ k : Nat, k ≤ s.size ∧ i = .int .i64 k ∧ n = .int .i64 (numV ((bytes s).take k)) ∧ Hid (((bytes s).take k).all digB = true)) (fun _ i => s.size - (intOf i).toNat)
  case atStart => exact ⟨0, Nat.zero_le _, rfl, by simp [numV], Lib.hid (by simp)⟩
  case round =>
    obtain ⟨k, hk, rfl, rfl, hall⟩ := hrel
    by_cases hlt : k < s.size
    · have hat := Lib.hid (bytes_at s k hlt)
      by_cases hd : digB s[k] = true
      · have hbd := numV_bd ((bytes s).take k) hall.out (by rw [List.length_take]; omega)
        have hdb : (48 : Int) ≤ (s[k].toNat : Int) ∧ (s[k].toNat : Int) ≤ 57 := by simp [digB] at hd; omega
        obtain ⟨hd1, hd2⟩ := hdb
        obtain ⟨hb1, hb2⟩ := hbd
        have hst := Lib.hid (show numV ((bytes s).take (k + 1)) = numV ((bytes s).take k) * 10 + ((s[k].toNat : Int) - 48) by rw [take_snoc s k hlt, numV_snoc])
        have hal := Lib.hid (all_step s k hlt hall.out hd)
        go_wp2_with (first | (go_at_call 54; refine (dig_any _ _).mono ?_; rintro e w' ⟨rfl, rfl⟩))
        go_round
        case rel => exact ⟨k + 1, by omega, by go_num, by rw [hst.out], hal⟩
        case measure => simp [intOf]; omega
      · have hd : digB s[k] = false := by simpa using hd
        have hf := Lib.hid (num_no s (by rw [all_false_of digB _ _ _ hat.out hd, Bool.and_false]))
        go_wp2_with (first | (go_at_call 54; refine (dig_any _ _).mono ?_; rintro e w' ⟨rfl, rfl⟩))
        go_ret2
        exact ⟨ret_ib hf.out.symm, rfl⟩
    · obtain rfl : k = s.size := by omega
      have hf := Lib.hid (show numP s = (numV ((bytes s).take s.size), true) by
        rw [take_full]
        have := hall.out; rw [take_full] at this
        unfold numP; rw [if_pos (by rw [hgo.out, this]; rfl)])
      go_wp2
      go_ret2
      exact ⟨ret_ib hf.out.symm, rfl⟩

set_option maxHeartbeats 800000 in
theorem name_any (s : ByteArray) (w : World) (hs : s.size ≤ maxLen) :
    Calls Tryz.prog 65 #[.string s] w fun e w' => e = .returned (.bool (nameP s)) ∧ w = w' := by
  unfold maxLen at hs
  go_enter Tryz.func65, Tryz.ntmps65
  go_wp2
  go_loop [6] (fun i => ∃ k : Nat, k ≤ s.size ∧ i = .int .i64 k ∧ Hid (((bytes s).take k).all looseB = true)) (fun i => s.size - (intOf i).toNat)
  case atStart => exact ⟨0, Nat.zero_le _, rfl, Lib.hid (by simp)⟩
  case round =>
    obtain ⟨k, hk, rfl, hall⟩ := hrel
    by_cases hlt : k < s.size
    · have hat := Lib.hid (bytes_at s k hlt)
      by_cases a1 : ((s[k].toNat : Int) == 32) = true
      · have hf := Lib.hid (show nameP s = false by unfold nameP; rw [all_false_of looseB _ _ _ hat.out (by simp [looseB, a1])]; rfl)
        go_wp2
        go_ret
        exact ⟨of_bool hf.out.symm, rfl⟩
      have a1 : ((s[k].toNat : Int) == 32) = false := by simpa using a1
      by_cases a2 : ((s[k].toNat : Int) == 64) = true
      · have hf := Lib.hid (show nameP s = false by unfold nameP; rw [all_false_of looseB _ _ _ hat.out (by simp [looseB, a2])]; rfl)
        go_wp2
        go_ret
        exact ⟨of_bool hf.out.symm, rfl⟩
      have a2 : ((s[k].toNat : Int) == 64) = false := by simpa using a2
      by_cases a3 : ((s[k].toNat : Int) == 58) = true
      · have hf := Lib.hid (show nameP s = false by unfold nameP; rw [all_false_of looseB _ _ _ hat.out (by simp [looseB, a3])]; rfl)
        go_wp2
        go_ret
        exact ⟨of_bool hf.out.symm, rfl⟩
      have a3 : ((s[k].toNat : Int) == 58) = false := by simpa using a3
      by_cases a4 : ((s[k].toNat : Int) == 10) = true
      · have hf := Lib.hid (show nameP s = false by unfold nameP; rw [all_false_of looseB _ _ _ hat.out (by simp [looseB, a4])]; rfl)
        go_wp2
        go_ret
        exact ⟨of_bool hf.out.symm, rfl⟩
      have a4 : ((s[k].toNat : Int) == 10) = false := by simpa using a4
      have hal := Lib.hid (all_step s k hlt hall.out (show looseB s[k] = true by simp [looseB, a1, a2, a3, a4]))
      go_wp2
      go_round
      case rel => exact ⟨k + 1, by omega, by go_num, hal⟩
      case measure => simp [intOf]; omega
    · obtain rfl : k = s.size := by omega
      have hf := Lib.hid (show nameP s = !s.toList.isEmpty by
        have := hall.out; rw [take_full] at this
        unfold nameP; rw [this, ByteArray.toList_eq]; rfl)
      go_wp2
      go_ret
      exact ⟨of_bool hf.out.symm, rfl⟩

theorem num_is (s : ByteArray) (w : World) (hs : s.size ≤ maxLen) (r : Int × Bool) (h : numP s = r) :
    Calls Tryz.prog 63 #[.string s] w fun e w' => e = .returned (.tuple #[.int .i64 r.1, .bool r.2]) ∧ w = w' := by
  rw [← h]; exact num_any s w hs
theorem name_is (s : ByteArray) (w : World) (hs : s.size ≤ maxLen) (r : Bool) (h : nameP s = r) : Calls Tryz.prog 65 #[.string s] w fun e w' => e = .returned (.bool r) ∧ w = w' := by
  rw [← h]; exact name_any s w hs

end Go.Proofs.YtleihhkacmgofabGreatDoor

/- Contracts of parsePair, parseKind, parseHead, parseValue. -/
namespace Go.Proofs.YtleihhkacmgofabGreatDoor
open Go.RowKit

theorem le_max {n : Nat} (h : n ≤ 100000) : n ≤ maxLen := by unfold maxLen; omega
theorem ret_iib {a b : Int} {c : Bool} {p : Int × Int × Bool} (h : (a, b, c) = p) : Ending.returned (.tuple #[.int .i64 a, .int .i64 b, .bool c]) = .returned (.tuple #[.int .i64 p.1, .int .i64 p.2.1, .bool p.2.2]) := by
  rw [← h]

set_option maxHeartbeats 800000 in
theorem pair_any (s sep : ByteArray) (w : World) (hE : Env w) (hs : s.size ≤ 100000) :
    Calls Tryz.prog 66 #[.string s, .string sep] w fun e w' => e = .returned (.tuple #[.int .i64 (pairP s sep).1, .int .i64 (pairP s sep).2.1, .bool (pairP s sep).2.2]) ∧ Below w.heap.size w w' := by
  obtain ⟨c, hc⟩ : ∃ c, c = cutB s sep := ⟨_, rfl⟩
  have hcs := cutB_size s sep
  rw [← hc] at hcs
  obtain ⟨hc1, hc2⟩ := hcs
  obtain ⟨c0, c1, c2⟩ := c
  dsimp only at hc1 hc2
  have h1 := le_max (Nat.le_trans hc1 hs)
  have h2 := le_max (Nat.le_trans hc2 hs)
  have HC := Lib.hid hc.symm
  have hcut (w : World) (hE : Env w) : Calls Tryz.prog 46 #[.string s, .string sep] w fun e w' => e = .returned (.tuple #[.string c0, .string c1, .bool c2]) ∧ Below w.heap.size w w' := by
    have := cut_any s sep w hE hs
    rw [← hc] at this; exact this
  have HCUT := Lib.hid hcut
  clear hc hcut hc1 hc2
  obtain ⟨⟨a, ab⟩, ha⟩ : ∃ a, a = numP c0 := ⟨_, rfl⟩
  obtain ⟨⟨b, bb⟩, hb⟩ : ∃ b, b = numP c1 := ⟨_, rfl⟩
  have HA := Lib.hid ha.symm
  have HB := Lib.hid hb.symm
  have hp := Lib.hid (show pairP s sep = if ab && bb then (a, b, true) else (0, 0, false) by unfold pairP; rw [HC.out]; dsimp only; rw [HA.out, HB.out])
  clear ha hb
  cases ab with
  | false =>
    go_enter Tryz.func66, Tryz.ntmps66
    go_wp2_with (first | (go_at_call 46; refine (HCUT.out _ hE).mono ?_; rintro e w1 ⟨rfl, hb1⟩) | (go_at_call 63; refine (num_is c0 _ h1 (a, false) HA.out).mono ?_; rintro e w' ⟨rfl, rfl⟩))
    go_ret3
    exact ⟨ret_iib (by rw [hp.out]; rfl), hb1⟩
  | true =>
    cases bb with
    | false =>
      go_enter Tryz.func66, Tryz.ntmps66
      go_wp2_with fail
      refine (HCUT.out _ hE).mono ?_; rintro e w1 ⟨rfl, hb1⟩
      go_wp2_with fail
      refine (num_is c0 _ h1 (a, true) HA.out).mono ?_; rintro e w' ⟨rfl, rfl⟩
      go_wp2_with fail
      refine (num_is c1 _ h2 (b, false) HB.out).mono ?_; rintro e w' ⟨rfl, rfl⟩
      go_wp2_with fail
      go_ret3
      exact ⟨ret_iib (by rw [hp.out]; rfl), hb1⟩
    | true =>
      go_enter Tryz.func66, Tryz.ntmps66
      go_wp2_with fail
      refine (HCUT.out _ hE).mono ?_; rintro e w1 ⟨rfl, hb1⟩
      go_wp2_with fail
      refine (num_is c0 _ h1 (a, true) HA.out).mono ?_; rintro e w' ⟨rfl, rfl⟩
      go_wp2_with fail
      refine (num_is c1 _ h2 (b, true) HB.out).mono ?_; rintro e w' ⟨rfl, rfl⟩
      go_wp2_with fail
      go_ret3
      exact ⟨ret_iib (by rw [hp.out]; rfl), hb1⟩

set_option maxHeartbeats 800000 in
theorem kindP_any (s : ByteArray) (w : World) (hE : Env w) :
    Calls Tryz.prog 88 #[.string s] w fun e w' => e = .returned (.tuple #[.int .i64 (kindP s).1, .bool (kindP s).2]) ∧ w = w' := by
  have k1 := hE.k1
  have k2 := hE.k2
  have k3 := hE.k3
  by_cases h1 : (([115] : List UInt8) == s.toList) = true
  · have hf := Lib.hid (show kindP s = (1, true) by unfold kindP; rw [if_pos (by simpa [strEq, ByteArray.toList_eq] using h1)])
    go_enter Tryz.func88, Tryz.ntmps88
    go_wp2
    refine wp_loop_rounds 1 ?_
    rw [rounds_succ]
    go_wp2
    go_ret2
    exact ⟨ret_ib hf.out.symm, rfl⟩
  have h1 : (([115] : List UInt8) == s.toList) = false := by simpa using h1
  have g1 := Lib.hid (show ¬ strEq ⟨#[115]⟩ s = true by simpa [strEq, ByteArray.toList_eq] using h1)
  by_cases h2 : (([119] : List UInt8) == s.toList) = true
  · have hf := Lib.hid (show kindP s = (2, true) by unfold kindP; rw [if_neg g1.out, if_pos (by simpa [strEq, ByteArray.toList_eq] using h2)])
    go_enter Tryz.func88, Tryz.ntmps88
    go_wp2
    refine wp_loop_rounds 2 ?_
    iterate 2 (rw [rounds_succ]; go_wp2)
    go_ret2
    exact ⟨ret_ib hf.out.symm, rfl⟩
  have h2 : (([119] : List UInt8) == s.toList) = false := by simpa using h2
  have g2 := Lib.hid (show ¬ strEq ⟨#[119]⟩ s = true by simpa [strEq, ByteArray.toList_eq] using h2)
  by_cases h3 : (([99] : List UInt8) == s.toList) = true
  · have hf := Lib.hid (show kindP s = (3, true) by unfold kindP; rw [if_neg g1.out, if_neg g2.out, if_pos (by simpa [strEq, ByteArray.toList_eq] using h3)])
    go_enter Tryz.func88, Tryz.ntmps88
    go_wp2
    refine wp_loop_rounds 3 ?_
    iterate 3 (rw [rounds_succ]; go_wp2)
    go_ret2
    exact ⟨ret_ib hf.out.symm, rfl⟩
  have h3 : (([99] : List UInt8) == s.toList) = false := by simpa using h3
  have g3 := Lib.hid (show ¬ strEq ⟨#[99]⟩ s = true by simpa [strEq, ByteArray.toList_eq] using h3)
  have hf := Lib.hid (show kindP s = (0, false) by unfold kindP; rw [if_neg g1.out, if_neg g2.out, if_neg g3.out])
  go_enter Tryz.func88, Tryz.ntmps88
  go_wp2
  refine wp_loop_rounds 4 ?_
  iterate 4 (rw [rounds_succ]; go_wp2)
  go_ret2
  exact ⟨ret_ib hf.out.symm, rfl⟩

end Go.Proofs.YtleihhkacmgofabGreatDoor
