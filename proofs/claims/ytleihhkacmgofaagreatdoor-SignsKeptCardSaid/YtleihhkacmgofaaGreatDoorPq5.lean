/-
  Contract of slices.SortFunc at values, by the order of values. And what builds on it.
-/
import Derived.Test.YtleihhkacmgofaaGreatDoorPq4
import Derived.Test.YtleihhkacmgofaaGreatDoorShelf
import Derived.Shelf.SlSortCmp.WholeK
import Derived.Shelf.SlSortCmp.NoneTotal
import Derived.StillTailTactics

/- Contract of slices.SortFunc at values, by the order of values. -/
namespace Go.Proofs.YtleihhkacmgofaaGreatDoor
open Go.RowKit Go.Sort

instance : Inhabited Va := ⟨⟨0, ⟨#[]⟩, 0, 0⟩⟩

theorem heap_sorted {α : Type} [Inhabited α] (enc : α → List Value) (k : Nat) (w : World) (blk off n : Nat) (d : Array α) (os : Array Obj) (j : Nat) (hj : j ≠ blk) (hlt : j < w.heap.size) : (sortWorldK enc k w blk off n d os).heap[j]? = w.heap[j]? := by
  unfold sortWorldK
  rw [heap_grow_old _ _ (by simpa [putRowK, putRow, mapBlock, Sort.ahead] using hlt)]
  simp [putRowK, putRow, mapBlock, Sort.ahead, Array.getElem?_modify, Ne.symm hj]
theorem below_sorted {α : Type} [Inhabited α] (enc : α → List Value) (k : Nat) (w : World) (blk off n : Nat) (d : Array α) (os : Array Obj) (base : Nat) (hb : base ≤ blk) (hlt : base ≤ w.heap.size) : Go.RowKit.Below base w (sortWorldK enc k w blk off n d os) :=
  ⟨rfl, rfl, rfl, by simp [sortWorldK, putRowK, putRow, mapBlock, Sort.ahead], fun j hj => heap_sorted enc k w blk off n d os j (by omega) (by omega)⟩

theorem flatK_list (vs : List Va) (j : Nat) (hj : j < vs.length * 4) : (flatK Va.cells 4 vs.toArray)[j]! = (vs.flatMap Va.cells)[j]?.getD default := by
  rw [get_flatK _ _ _ _ (by simpa using hj)]
  have hk : j / 4 < vs.length := by omega
  have h4 : j % 4 < 4 := Nat.mod_lt _ (by omega)
  have e := flat_at (f := Va.cells) (c := 4) (fun _ => rfl) vs (j / 4) vs[j / 4] (List.getElem?_eq_getElem hk) (j % 4) h4
  rw [show j / 4 * 4 + j % 4 = j by omega] at e
  rw [e]
  simp [hk]

theorem cmp_lays (blk off size : Nat) (w : World) : CmpLays Tryz.prog 44 #[] Va.cells 4 orderV blk off size w := by
  intro m os dk _ x y
  refine (order_any x y _).mono ?_
  rintro e w' ⟨rfl, rfl⟩
  exact ⟨rfl, 0, _, by rw [alloc_eq_grow, alloc_eq_grow, grow_grow]; rfl⟩

set_option maxHeartbeats 1600000 in
theorem sortV_any (A : Option Addr) (cap : Nat) (vs : List Va) (base : Nat) (w : World) (hown : w.ownsRow base 42 4 (.slice A vs.length cap) vs.length (vs.flatMap Va.cells)) (hbw : base ≤ w.heap.size) (hsm : vs.length ≤ 1000000) (hsz : ∀ v ∈ vs, v.text.size ≤ maxLen) :
    Calls Tryz.prog 43 #[.slice A vs.length cap, .func (.func 44) #[] #[]] w fun e w' => e = .returned (.tuple #[]) ∧ ∃ vs', vs'.Perm vs ∧ sortedV vs' ∧ ValsAt w' A vs' ∧ Go.RowKit.Below base w w' := by
  cases A with
  | none =>
    have h0 : vs.length = 0 := by
      rcases hown.2 with ⟨_, h⟩ | ⟨g, cap', cur, h, _⟩
      · exact h
      · cases h
    obtain rfl : vs = [] := List.eq_nil_of_length_eq_zero h0
    have hcon := AnyF.slices_SortFunc_none Tryz.sortVa none cap (.func (.func 44) #[] #[]) w
    change Calls Tryz.prog 43 _ _ _ at hcon
    refine hcon.mono ?_
    rintro e w' ⟨rfl, h⟩
    exact ⟨rfl, [], .refl _, List.Pairwise.nil, ValsAt.nil _, h ▸ Go.RowKit.Below.refl _ _⟩
  | some ad =>
    rcases hown.2 with ⟨h, _⟩ | ⟨g, cap', cur, h, hb, hg, hn, hc, hs, htk⟩
    · cases h
    · injection h with h1 h2 h3
      injection h1 with h1
      subst h1 h3
      have hlt : g < w.heap.size := (Array.getElem?_eq_some_iff.1 hg).1
      have hH : HoldsK Va.cells 4 w g 0 vs.toArray := by
        intro j hj
        have hj' : j < vs.length * 4 := by simpa using hj
        rw [Nat.zero_add, flatK_list vs j hj', hown.cellAt j hj']
        have hl : j < (vs.flatMap Va.cells).length := by rw [flat_len (c := 4) (fun _ => rfl)]; exact hj'
        exact ⟨by rw [List.getElem?_eq_getElem hl]; rfl, hown.frozenAt j⟩
      have hcon := AnyQ.slices_SortFunc Tryz.sortVa 4 Tryz.isAgg42 Tryz.sizeOf42 Va.cells (fun _ => rfl) (fun x => fun v hv => va_one (vs := [x]) v (by simpa using hv)) orderV order_swo 44 #[] g 0 cap vs.toArray w
        (enters_of Tryz.func44 (by kernel_rfl) rfl) (cmp_lays g 0 _ w) hH hlt (by simp; omega)
      change Calls Tryz.prog 43 _ _ _ at hcon
      refine hcon.mono ?_
      rintro e w' ⟨rfl, d', n, os, hp, hs2, rfl⟩
      have hsize : d'.size = vs.length := by have := hp.1; simpa using this
      have hperm : d'.toList.Perm vs := by
        have h2 := hp.2.2
        have e1 : d'.extract 0 vs.toArray.size = d' := by rw [show vs.toArray.size = d'.size by simp [hsize]]; exact Array.extract_size
        rw [e1, Array.extract_size] at h2
        simpa using h2
      refine ⟨rfl, d'.toList, hperm, ?_, ?_, below_sorted _ _ _ _ _ _ _ _ _ hb hbw⟩
      · rw [sortedV, List.pairwise_iff_getElem]
        intro i j hi hj hij
        have hi' : i < d'.size := by simpa using hi
        have hj' : j < d'.size := by simpa using hj
        have := hs2 i j (Nat.zero_le _) hij (by simpa [hsize] using hj')
        rw [getElem!_pos d' i hi', getElem!_pos d' j hj'] at this
        unfold ltOf at this
        rw [orderV_lt] at this
        simpa using this
      · intro i v hv
        have hi : i < d'.size := by have := (List.getElem?_eq_some_iff.1 hv).1; simpa using this
        have hv' : d'[i]! = v := by rw [getElem!_pos d' i hi]; have := (List.getElem?_eq_some_iff.1 hv).2; simpa using this
        have hh := holdsK_sortWorldK_c Va.cells 4 w g 0 vs.toArray d' n os hH hlt (by simpa using hsize)
        have hcell := fun c (hc : c < 4) => (hh.cell (i := i) (c := c) hi hc).1
        rw [hv'] at hcell
        refine ⟨g, 0, rfl, Nat.lt_of_lt_of_le hlt (size_sortWorldK_c _ _ _ _ _ _ _ _), ⟨hcell 0 (by omega), hcell 1 (by omega), hcell 2 (by omega), hcell 3 (by omega), ?_⟩⟩
        exact hsz v (hperm.mem_iff.1 (List.mem_of_getElem? hv))

end Go.Proofs.YtleihhkacmgofaaGreatDoor

/- Contract of tidy, in the program: values sorted and merged. -/
namespace Go.Proofs.YtleihhkacmgofaaGreatDoor
open Go.RowKit

/-- what the values of a valid list keep -/
def okV (v : Va) : Prop := 1 ≤ v.fr ∧ v.fr ≤ v.to ∧ v.to ≤ 9 ∧ v.text.size ≤ maxLen
theorem mergeStep_ok (out : List Va) (v : Va) (h : ∀ x ∈ out, okV x) (hv : okV v) : ∀ x ∈ mergeStep out v, okV x := by
  intro x hx
  rcases snoc_cases out with rfl | ⟨i, l, rfl⟩
  · rw [mergeStep_nil] at hx; simp at hx; subst hx; exact hv
  · have hl := h l (by simp)
    by_cases hj : (meq l v && decide (v.fr ≤ l.to + 1)) = true
    · rw [mergeStep_join _ _ _ hj] at hx
      rcases List.mem_append.1 hx with hx | hx
      · exact h x (by simp [hx])
      · simp at hx; subst hx
        obtain ⟨a1, a2, a3, a4⟩ := hl
        obtain ⟨b1, b2, b3, b4⟩ := hv
        exact ⟨a1, by dsimp only; omega, by dsimp only; omega, a4⟩
    · rw [mergeStep_add _ _ _ (by simpa using hj)] at hx
      rcases List.mem_append.1 hx with hx | hx
      · exact h x hx
      · simp at hx; subst hx; exact hv
theorem mergeR_ok (l : List Va) (h : ∀ x ∈ l, okV x) : ∀ x ∈ mergeR l, okV x := by
  suffices H : ∀ (l out : List Va), (∀ x ∈ l, okV x) → (∀ x ∈ out, okV x) → ∀ x ∈ l.foldl mergeStep out, okV x from H l [] h (fun x h => by cases h)
  intro l
  induction l with
  | nil => intro out _ h; exact h
  | cons v l ih => intro out h1 h2; exact ih _ (fun x hx => h1 x (by simp [hx])) (mergeStep_ok out v h2 (h1 v (by simp)))
theorem mergeR_snoc (l : List Va) (v : Va) : mergeR (l ++ [v]) = mergeStep (mergeR l) v := by unfold mergeR; rw [List.foldl_append]; rfl
theorem mergeStep_len (out : List Va) (v : Va) : (mergeStep out v).length ≤ out.length + 1 := by
  rcases snoc_cases out with rfl | ⟨i, l, rfl⟩
  · rw [mergeStep_nil]; simp
  · by_cases hj : (meq l v && decide (v.fr ≤ l.to + 1)) = true
    · rw [mergeStep_join _ _ _ hj]; simp
    · rw [mergeStep_add _ _ _ (by simpa using hj)]; simp
theorem take_step {α : Type} (l : List α) (k : Nat) (x : α) (h : l[k]? = some x) : l.take (k + 1) = l.take k ++ [x] := by
  obtain ⟨hk, e⟩ := List.getElem?_eq_some_iff.1 h
  rw [List.take_succ_eq_append_getElem hk, e]
/-- the last value's end, written -/
theorem set_to (i : List Va) (l : Va) (n : Int) : ((i ++ [l]).flatMap Va.cells).set (i.length * 4 + 3) (.int .i64 n) = (i ++ [(Va.mk l.kind l.text l.fr (n))]).flatMap Va.cells := by
  rw [List.flatMap_append, List.flatMap_append, ← flat_len (f := Va.cells) (c := 4) (fun _ => rfl) i, List.set_append_right _ _ (by omega)]
  congr 1
  simp [Va.cells]

theorem frz_own {w : World} {base : Nat} {e : TypeId} {size : Nat} {g c n : Nat} {xs : List Value} (h : w.ownsRow base e size (.slice (some ⟨g, 0, none⟩) n c) n xs) (j : Nat) : w.frozen? ⟨g, j, none⟩ = false := h.frozenAt j

set_option maxHeartbeats 3200000 in
set_option maxRecDepth 100000 in
theorem tidy_any (A : Option Addr) (cap : Nat) (vs : List Va) (w : World) (hvs : ValsAt w A vs) (hsm : vs.length ≤ 1000000) (hok : ∀ v ∈ vs, okV v) :
    Calls Tryz.prog 24 #[.slice A vs.length cap] w (GotValsF w (tidiedR [vs])) := by
  obtain ⟨iv, hiv, hzv, hsv, hbv⟩ := info_hid infoVa
  have HC := Lib.hid (cloneV_any A cap vs w hvs hsm)
  have HS := Lib.hid (fun A c w1 h hb => sortV_any A c vs w.heap.size w1 h hb hsm (fun v hv => (hok v hv).2.2.2))
  have HOK := Lib.hid hok
  have HSM := Lib.hid hsm
  clear hok hsm hvs
  obtain ⟨n, hn⟩ : ∃ n, n = vs.length := ⟨_, rfl⟩
  have HN := Lib.hid hn
  rw [← hn] at HC HS HSM ⊢
  clear hn
  go_enter Tryz.func24, Tryz.ntmps24
  go_wp2_with fail
  refine HC.out.mono ?_; rintro e w1 ⟨A1, c1, rfl, own1, hb1⟩
  have OWN1 := Lib.hid own1
  have B1 := Lib.hid hb1
  clear own1 hb1
  go_wp2_with fail
  refine (HS.out A1 c1 w1 OWN1.out B1.out.size).mono ?_; rintro e w2 ⟨rfl, vs2, hperm, hsort, hv2, hb2⟩
  have B2 := Lib.hid (B1.out.trans hb2)
  have HP := Lib.hid hperm
  have HST := Lib.hid hsort
  have V2 := Lib.hid hv2
  have HN2 := Lib.hid (HN.out.trans hperm.length_eq.symm)
  have HOK2 := Lib.hid (fun v (hv : v ∈ vs2) => HOK.out v (hperm.mem_iff.1 hv))
  clear hperm hsort hv2 hb2
  have hsm := HSM.out
  go_wp2_with fail
  go_loopw [4, 14] (fun v i wr => ∃ j c : Nat, j ≤ n ∧ c ≤ j ∧ i = .int .i64 j ∧ Hid (Below w2.heap.size w2 wr) ∧ Hid (c = (mergeR (vs2.take j)).length) ∧ Hid (wr.ownsRow w2.heap.size 42 4 v c ((mergeR (vs2.take j)).flatMap Va.cells))) (fun _ i _ => n - (intOf i).toNat)
  case atStart => exact ⟨0, 0, Nat.zero_le _, Nat.le_refl _, rfl, Lib.hid (Below.refl _ _), Lib.hid (by simp [mergeR]), Lib.hid (by simpa [mergeR] using World.ownsRow_nil _ _ _ _)⟩
  case round =>
    obtain ⟨j, c, hj, hcj, rfl, hb, hlc, hown⟩ := hrel
    by_cases hlt : j < n
    · have hget : vs2[j]? = some (vs2[j]'(by have := HN2.out; omega)) := List.getElem?_eq_getElem _
      obtain ⟨u, hu⟩ : ∃ u, u = vs2[j]'(by have := HN2.out; omega) := ⟨_, rfl⟩
      rw [← hu] at hget
      obtain ⟨b, o, hA, hb1, hva⟩ := V2.out j u hget
      subst hA
      obtain ⟨y0, y1, y2, y3, ysz⟩ := hva.below hb.out hb1
      have HSN := Lib.hid (show mergeR (vs2.take (j + 1)) = mergeStep (mergeR (vs2.take j)) u by rw [take_step _ _ _ hget, mergeR_snoc])
      have hsb : b < wr.heap.size := by have := hb.out.size; omega
      have HUO := Lib.hid (HOK2.out u (List.mem_of_getElem? hget))
      have HMO := Lib.hid (mergeR_ok (vs2.take j) (fun x hx => HOK2.out x (List.mem_of_mem_take hx)))
      obtain ⟨O, hO⟩ : ∃ O, O = mergeR (vs2.take j) := ⟨_, rfl⟩
      rw [← hO] at HSN HMO hlc hown
      clear hu hget hva hb1 hO
      obtain ⟨A2, c2, hv, hc2, hc2m, hcell, hnone⟩ := own_slice hown.out
      subst hv
      have HCL := Lib.hid hcell
      have HNO := Lib.hid hnone
      clear hcell hnone
      cases c with
      | zero =>
        have HADD := Lib.hid (show mergeR (vs2.take (j + 1)) = O ++ [u] by rw [HSN.out, show O = [] from List.eq_nil_of_length_eq_zero hlc.out.symm]; rfl)
        go_wp2_with fail
        refine wp_region_later (by kernel_rfl) (by kernel_rfl) ?_; (repeat (first | go_big_quiet_step (fail) | quiet_step (fail))); refine wpQuiet_nil ?_; rintro _ ⟨s, rfl⟩
        have BS := Lib.hid (hb.out.trans ((below1 s).mono hb.out.size))
        have OWS := Lib.hid (ownsRow_of_block (w' := s.w) hown.out (fun g hg => (below1 s).block g (hown.out.lt g hg).2))
        go_wp2_with (first
          | (at_builtin; refine wpList_append_src _ rfl (.tmp 56) (.tmp 58) 36 rfl w2.heap.size 42 iv (.agg #[.int .i64 0, .string ⟨#[]⟩, .int .i64 0, .int .i64 0]) 4 40 Tryz.underlying36 hiv.out hzv.out hsv.out hbv.out rfl (by decide) (.slice A2 0 c2) 0 (O.flatMap Va.cells) rfl ?own2 (some ⟨s.w.heap.size, 0, none⟩) 1 1 u.cells rfl ?l2 ?n2 ?c2 ?o2 ?m2 ?b2 ?s2 (0 + 1) rfl ?_))
        case own2 => exact OWS.out.alloc _
        case l2 => rfl
        case n2 => intro h; cases h
        case o2 => exact fun x hx => va_one (vs := [u]) x (by simpa using hx)
        case c2 =>
          intro ad had i u' hj
          injection had with had
          subst had
          have := new_cells s.w u.cells 42 i u' hj
          simpa [Va.cells] using this
        case m2 => unfold maxLen; omega
        case b2 => omega
        case s2 => have := BS.out.size; simp; omega
        · intro A3 c3 w3 own3 hg3 _
          have b4 := Lib.hid ((BS.out.alloc BS.out.size (.cells #[.int .i64 u.kind, .string u.text, .int .i64 u.fr, .int .i64 u.to] 42)).grown hg3 (by have := BS.out.size; simp; omega) (fun g hg => (OWS.out.lt g hg).1))
          have own3 := Lib.hid own3
          clear hg3
          go_wp2
          go_roundw
          case rel => exact ⟨j + 1, 0 + 1, by omega, by omega, by go_num, b4, Lib.hid (by rw [HADD.out, List.length_append, ← hlc.out]; rfl), Lib.hid (by rw [HADD.out, List.flatMap_append]; simpa using own3.out)⟩
          case measure => simp [intOf]; omega
      | succ c =>
        obtain ⟨i, l, hOi⟩ : ∃ i l, O = i ++ [l] := (snoc_cases O).resolve_left (fun e => by have := hlc.out; rw [e] at this; simp at this)
        have HIL := Lib.hid (show i.length = c by have := hlc.out; rw [hOi] at this; simp at this; omega)
        have HOI := Lib.hid hOi
        cases hA2 : A2 with
        | none => have := HNO.out hA2; omega
        | some ad =>
        obtain ⟨g, rfl, hg0, hg1, hgc⟩ := HCL.out ad hA2
        subst hA2
        have HLC := Lib.hid (show ∀ t, t < 4 → wr.cell? ⟨g, c * 4 + t, none⟩ = (Va.cells l)[t]? from fun t ht => by
          have ht' : t < (Va.cells l).length := ht
          rw [hgc (c * 4 + t) ((Va.cells l)[t]) (by
            rw [flat_at (c := 4) (fun _ => rfl) _ c l (by rw [HOI.out, List.getElem?_append_right (by have := HIL.out; omega), HIL.out]; simp) t ht]; exact List.getElem?_eq_getElem ht'), List.getElem?_eq_getElem ht'])
        have x0 : wr.cell? ⟨g, c * 4, none⟩ = some (.int .i64 l.kind) := HLC.out 0 (by omega)
        have x1 : wr.cell? ⟨g, c * 4 + 1, none⟩ = some (.string l.text) := HLC.out 1 (by omega)
        have x2 : wr.cell? ⟨g, c * 4 + 2, none⟩ = some (.int .i64 l.fr) := HLC.out 2 (by omega)
        have x3 : wr.cell? ⟨g, c * 4 + 3, none⟩ = some (.int .i64 l.to) := HLC.out 3 (by omega)
        have HLO := Lib.hid (HMO.out l (by rw [HOI.out]; simp))
        have hw9 : IntKind.i64.wrap (l.to + 1) = l.to + 1 := IntWalk.i64_in _ (by have := HLO.out.1; have := HLO.out.2.1; have := HLO.out.2.2.1; omega)
        clear hOi hgc
        have he := fun w => eqMeaning l.kind u.kind l.text u.text w
        by_cases hm : (l.kind == u.kind && strEq l.text u.text) = true
        case neg =>
          have hm : (l.kind == u.kind && strEq l.text u.text) = false := by simpa using hm
          have HADD := Lib.hid (show mergeR (vs2.take (j + 1)) = O ++ [u] by rw [HSN.out, HOI.out, mergeStep_add]; rw [show meq l u = false from hm]; rfl)
          rw [hm] at he
          clear hm
          go_wp2_with fail
          refine wp_region_later (by kernel_rfl) (by kernel_rfl) ?_; (repeat (first | go_big_quiet_step (((go_at_call 45; exact Calls.later _ (meaning_any _ _ _ _ _)))) | quiet_step (((go_at_call 45; exact Calls.later _ (meaning_any _ _ _ _ _)))))); refine wpQuiet_nil ?_; rintro _ ⟨s, rfl⟩
          have BS := Lib.hid (hb.out.trans ((below1 s).mono hb.out.size))
          have OWS := Lib.hid (ownsRow_of_block (w' := s.w) hown.out (fun g hg => (below1 s).block g (hown.out.lt g hg).2))
          go_wp2_with (first
            | (at_builtin; refine wpList_append_src _ rfl (.tmp 56) (.tmp 58) 36 rfl w2.heap.size 42 iv (.agg #[.int .i64 0, .string ⟨#[]⟩, .int .i64 0, .int .i64 0]) 4 40 Tryz.underlying36 hiv.out hzv.out hsv.out hbv.out rfl (by decide) (.slice (some ⟨g, 0, none⟩) (c + 1) c2) (c + 1) (O.flatMap Va.cells) rfl ?own2x (some ⟨s.w.heap.size, 0, none⟩) 1 1 u.cells rfl ?l2x ?n2x ?c2x ?o2x ?m2x ?b2x ?s2x (c + 1 + 1) rfl ?_))
          case own2x => exact OWS.out.alloc _
          case l2x => rfl
          case n2x => intro h; cases h
          case o2x => exact fun x hx => va_one (vs := [u]) x (by simpa using hx)
          case c2x =>
            intro ad had i u' hj
            injection had with had
            subst had
            have := new_cells s.w u.cells 42 i u' hj
            simpa [Va.cells] using this
          case m2x => unfold maxLen; omega
          case b2x => omega
          case s2x => have := BS.out.size; simp; omega
          · intro A3 c3 w3 own3 hg3 _
            have b4 := Lib.hid ((BS.out.alloc BS.out.size (.cells #[.int .i64 u.kind, .string u.text, .int .i64 u.fr, .int .i64 u.to] 42)).grown hg3 (by have := BS.out.size; simp; omega) (fun g hg => (OWS.out.lt g hg).1))
            have own3 := Lib.hid own3
            clear hg3
            go_wp2
            go_roundw
            case rel => exact ⟨j + 1, c + 1 + 1, by omega, by omega, by go_num, b4, Lib.hid (by rw [HADD.out, List.length_append, ← hlc.out]; rfl), Lib.hid (by rw [HADD.out, List.flatMap_append]; simpa using own3.out)⟩
            case measure => simp [intOf]; omega
        rw [hm] at he
        by_cases hf : u.fr ≤ l.to + 1
        case neg =>
          have HADD := Lib.hid (show mergeR (vs2.take (j + 1)) = O ++ [u] by rw [HSN.out, HOI.out, mergeStep_add]; rw [show meq l u = true from hm]; simpa using hf)
          have hf : decide (u.fr ≤ l.to + 1) = false := by simpa using hf
          clear hm
          go_wp2_with fail
          refine wp_region_later (by kernel_rfl) (by kernel_rfl) ?_; (repeat (first | go_big_quiet_step (((go_at_call 45; exact Calls.later _ (meaning_any _ _ _ _ _)))) | quiet_step (((go_at_call 45; exact Calls.later _ (meaning_any _ _ _ _ _)))))); refine wpQuiet_nil ?_; rintro _ ⟨s, rfl⟩
          have BS := Lib.hid (hb.out.trans ((below1 s).mono hb.out.size))
          have OWS := Lib.hid (ownsRow_of_block (w' := s.w) hown.out (fun g hg => (below1 s).block g (hown.out.lt g hg).2))
          go_wp2_with (first
            | (at_builtin; refine wpList_append_src _ rfl (.tmp 56) (.tmp 58) 36 rfl w2.heap.size 42 iv (.agg #[.int .i64 0, .string ⟨#[]⟩, .int .i64 0, .int .i64 0]) 4 40 Tryz.underlying36 hiv.out hzv.out hsv.out hbv.out rfl (by decide) (.slice (some ⟨g, 0, none⟩) (c + 1) c2) (c + 1) (O.flatMap Va.cells) rfl ?own2y (some ⟨s.w.heap.size, 0, none⟩) 1 1 u.cells rfl ?l2y ?n2y ?c2y ?o2y ?m2y ?b2y ?s2y (c + 1 + 1) rfl ?_))
          case own2y => exact OWS.out.alloc _
          case l2y => rfl
          case n2y => intro h; cases h
          case o2y => exact fun x hx => va_one (vs := [u]) x (by simpa using hx)
          case c2y =>
            intro ad had i u' hj
            injection had with had
            subst had
            have := new_cells s.w u.cells 42 i u' hj
            simpa [Va.cells] using this
          case m2y => unfold maxLen; omega
          case b2y => omega
          case s2y => have := BS.out.size; simp; omega
          · intro A3 c3 w3 own3 hg3 _
            have b4 := Lib.hid ((BS.out.alloc BS.out.size (.cells #[.int .i64 u.kind, .string u.text, .int .i64 u.fr, .int .i64 u.to] 42)).grown hg3 (by have := BS.out.size; simp; omega) (fun g hg => (OWS.out.lt g hg).1))
            have own3 := Lib.hid own3
            clear hg3
            go_wp2
            go_roundw
            case rel => exact ⟨j + 1, c + 1 + 1, by omega, by omega, by go_num, b4, Lib.hid (by rw [HADD.out, List.length_append, ← hlc.out]; rfl), Lib.hid (by rw [HADD.out, List.flatMap_append]; simpa using own3.out)⟩
            case measure => simp [intOf]; omega
        have HADD := Lib.hid (show mergeR (vs2.take (j + 1)) = i ++ [(Va.mk l.kind l.text l.fr (max l.to u.to))] by rw [HSN.out, HOI.out, mergeStep_join]; rw [show meq l u = true from hm]; simpa using hf)
        have hf : decide (u.fr ≤ l.to + 1) = true := by simpa using hf
        clear hm
        go_wp2_with fail
        refine wp_region_later (by kernel_rfl) (by kernel_rfl) ?_; (repeat (first | go_big_quiet_step (((go_at_call 45; exact Calls.later _ (meaning_any _ _ _ _ _)))) | quiet_step (((go_at_call 45; exact Calls.later _ (meaning_any _ _ _ _ _)))))); refine wpQuiet_nil ?_; rintro _ ⟨s, rfl⟩
        have BS := Lib.hid (hb.out.trans ((below1 s).mono hb.out.size))
        have OWS := Lib.hid (ownsRow_of_block (w' := s.w) hown.out (fun g hg => (below1 s).block g (hown.out.lt g hg).2))
        have z0 := frz_own OWS.out (c * 4 + 3)
        have p2 : (c : Int) < (c : Int) + 1 := by omega
        go_wp2_with fail
        refine wp_region_still_tail 12 (by kernel_rfl) (by kernel_rfl) ?_; simp only [List.take_succ_cons, List.take_zero, List.drop_succ_cons, List.drop_zero]; change wpStill _ _ (s.w).drew _ _ _; (repeat still_step); refine wpStill_nil ?_; change wpList _ _ _ _ _ (s.w).drew
        go_wp2_with fail
        go_roundw
        case rel =>
          refine ⟨j + 1, c + 1, by omega, by omega, by go_num, Lib.hid ?_, Lib.hid ?_, Lib.hid ?_⟩
          · exact (BS.out.setCell (p := ⟨g, c * 4 + 3, none⟩) hg0 _).drew
          · rw [HADD.out]; simp; exact HIL.out.symm
          · have h1 := (OWS.out.stored (c * 4 + 3) (.int .i64 (max l.to u.to))).1
            rw [HOI.out, ← HIL.out, set_to, ← HADD.out, HIL.out] at h1
            first | exact h1.drew | (rw [show (if l.to < u.to then u.to else l.to) = max l.to u.to by split <;> omega]; exact h1.drew)
        case measure => simp [intOf]; omega
    · obtain rfl : j = n := by omega
      obtain ⟨A2, c2, hv, h1, h2, h3, h4⟩ := own_slice hown.out
      subst hv
      have HT := Lib.hid (show mergeR (vs2.take j) = tidiedR [vs] by
        rw [HN2.out, List.take_length]
        exact tidied_eq [vs] vs2 (fun v => by rw [HP.out.mem_iff]; simp) HST.out (fun v hv => (HOK.out v (by simpa using hv)).2.1))
      have HC2 := Lib.hid (show c = (tidiedR [vs]).length by have := hlc.out; rw [HT.out] at this; exact this)
      have HX := Lib.hid (show GotValsF w (tidiedR [vs]) (.returned (.slice A2 c c2)) wr by
        have h5 := hown.out
        rw [HT.out, HC2.out] at h5
        obtain ⟨k1, k2, k3, k4⟩ := own_vals h5 (fun v hv => (mergeR_ok (vs2.take j) (fun x hx => HOK2.out x (List.mem_of_mem_take hx)) v (by rw [HT.out]; exact hv)).2.2.2)
        rw [HC2.out]
        exact ⟨A2, c2, rfl, k1, k2, k3, B2.out.trans (hb.out.mono B2.out.size), fun b o e => Nat.le_trans B2.out.size (k4 b o e)⟩)
      go_wp2
      go_ret
      exact HX.out

end Go.Proofs.YtleihhkacmgofaaGreatDoor

/- Contract of the specification's tidied: first its points. -/
namespace Go.Proofs.YtleihhkacmgofaaGreatDoor
open Go.RowKit

theorem putR_len (l : List Va) (v : Va) : (putR l v).length ≤ l.length + 1 := by
  unfold putR
  have h : l.length = (l.takeWhile fun x => vlt x v).length + (l.dropWhile fun x => vlt x v).length := by rw [← List.length_append, List.takeWhile_append_dropWhile]
  simp only [List.length_append]
  split <;> simp <;> omega
theorem putDays_len (v : Va) (l : List Va) : ∀ k, (putDays v l k).length ≤ l.length + k
  | 0 => Nat.le_refl _
  | k + 1 => by have := putDays_len v l k; have := putR_len (putDays v l k) (day v (v.fr + (k : Int))); rw [putDays_succ]; omega
theorem putDays_ok (v : Va) (l : List Va) (hv : okV v) (h : ∀ x ∈ l, okV x) : ∀ k : Nat, v.fr + k ≤ v.to + 1 → ∀ x ∈ putDays v l k, okV x
  | 0, _ => h
  | k + 1, hk => fun x hx => by
    rw [putDays_succ] at hx
    rcases (putR_mem _ _ _).1 hx with hx | rfl
    · exact putDays_ok v l hv h k (by omega) x hx
    · obtain ⟨a1, a2, a3, a4⟩ := hv
      exact ⟨by simp only [day]; omega, by simp only [day]; omega, by simp only [day]; omega, a4⟩
theorem putV_len (v : Va) (l : List Va) (hv : okV v) : (putV l v).length ≤ l.length + 9 := by
  have := putDays_len v l (v.to + 1 - v.fr).toNat
  obtain ⟨a1, a2, a3, a4⟩ := hv
  unfold putV; omega
theorem putV_ok (v : Va) (l : List Va) (hv : okV v) (h : ∀ x ∈ l, okV x) : ∀ x ∈ putV l v, okV x :=
  putDays_ok v l hv h _ (by have := hv.2.1; omega)
theorem foldV_ok : ∀ (vs l : List Va), (∀ v ∈ vs, okV v) → (∀ x ∈ l, okV x) → (∀ x ∈ vs.foldl putV l, okV x) ∧ (vs.foldl putV l).length ≤ l.length + 9 * vs.length
  | [], l, _, h => ⟨h, by simp⟩
  | v :: vs, l, hv, h => by
    have ih := foldV_ok vs (putV l v) (fun x hx => hv x (by simp [hx])) (putV_ok v l (hv v (by simp)) h)
    have := putV_len v l (hv v (by simp))
    exact ⟨ih.1, by have h2 := ih.2; simp only [List.foldl_cons, List.length_cons] at *; omega⟩
theorem foldSS_ok : ∀ (ss : List (List Va)) (l : List Va), (∀ vs ∈ ss, vs.length ≤ 20 ∧ ∀ v ∈ vs, okV v) → (∀ x ∈ l, okV x) →
    (∀ x ∈ ss.foldl (fun l vs => vs.foldl putV l) l, okV x) ∧ (ss.foldl (fun l vs => vs.foldl putV l) l).length ≤ l.length + 180 * ss.length
  | [], l, _, h => ⟨h, by simp⟩
  | vs :: ss, l, hv, h => by
    have h1 := foldV_ok vs l (hv vs (by simp)).2 h
    have ih := foldSS_ok ss (vs.foldl putV l) (fun x hx => hv x (by simp [hx])) h1.1
    have := (hv vs (by simp)).1
    exact ⟨ih.1, by have h2 := ih.2; have h3 := h1.2; simp only [List.foldl_cons, List.length_cons] at *; omega⟩
theorem own_cap0 {w : World} {base : Nat} {e : TypeId} {size : Nat} {A : Option Addr} {c n m : Nat} {xs : List Value} (h : w.ownsRow base e size (.slice A m c) n xs) : A = none → c = 0 := by
  rintro rfl
  rcases h.2 with ⟨h2, _⟩ | ⟨g, cap, cur, h2, _⟩
  · injection h2
  · cases h2
theorem pointsR_snoc (ss : List (List Va)) (vs : List Va) : pointsR (ss ++ [vs]) = vs.foldl putV (pointsR ss) := by unfold pointsR; rw [List.foldl_append]; rfl
theorem foldV_snoc (vs l : List Va) (v : Va) : (vs ++ [v]).foldl putV l = putV (vs.foldl putV l) v := by rw [List.foldl_append]; rfl

theorem runStep_join (i : List Va) (l v : Va) (h : (meq l v && (l.to + 1 == v.fr)) = true) : runStep (i ++ [l]) v = i ++ [Va.mk l.kind l.text l.fr v.to] := by
  simp only [runStep, List.getLast?_append, List.getLast?_singleton, Option.some_or, h, if_true, List.dropLast_concat]
theorem runStep_add (i : List Va) (l v : Va) (h : (meq l v && (l.to + 1 == v.fr)) = false) : runStep (i ++ [l]) v = i ++ [l] ++ [v] := by
  simp only [runStep, List.getLast?_append, List.getLast?_singleton, Option.some_or, h, Bool.false_eq_true, if_false]
theorem runsR_snoc (l : List Va) (v : Va) : runsR (l ++ [v]) = runStep (runsR l) v := by unfold runsR; rw [List.foldl_append]; rfl
theorem runStep_ok (out : List Va) (v : Va) (h : ∀ x ∈ out, okV x) (hv : okV v) : ∀ x ∈ runStep out v, okV x := by
  intro x hx
  rcases snoc_cases out with rfl | ⟨i, l, rfl⟩
  · have hx : x ∈ [v] := hx
    simp at hx; subst hx; exact hv
  · have hl := h l (by simp)
    by_cases hj : (meq l v && (l.to + 1 == v.fr)) = true
    · rw [runStep_join _ _ _ hj] at hx
      rcases List.mem_append.1 hx with hx | hx
      · exact h x (by simp [hx])
      · simp at hx; subst hx
        obtain ⟨a1, a2, a3, a4⟩ := hl
        obtain ⟨b1, b2, b3, b4⟩ := hv
        simp at hj
        exact ⟨a1, by dsimp only; omega, by dsimp only; omega, a4⟩
    · rw [runStep_add _ _ _ (by simpa using hj)] at hx
      rcases List.mem_append.1 hx with hx | hx
      · exact h x hx
      · simp at hx; subst hx; exact hv
theorem runsR_ok (l : List Va) (h : ∀ x ∈ l, okV x) : ∀ x ∈ runsR l, okV x := by
  suffices H : ∀ (l out : List Va), (∀ x ∈ l, okV x) → (∀ x ∈ out, okV x) → ∀ x ∈ l.foldl runStep out, okV x from H l [] h (fun x h => by cases h)
  intro l
  induction l with
  | nil => intro out _ h; exact h
  | cons v l ih => intro out h1 h2; exact ih _ (fun x hx => h1 x (by simp [hx])) (runStep_ok out v h2 (h1 v (by simp)))

set_option maxHeartbeats 3200000 in
set_option maxRecDepth 100000 in
theorem tidied_any (A : Option Addr) (cap : Nat) (ms : List Sm) (w : World) (hms : SignsAt w A ms) (hl : ms.length ≤ cap) (hcap : cap ≤ maxLen) (hsm : ms.length ≤ 100) (hok : ∀ m ∈ ms, m.s.vals.length ≤ 20 ∧ ∀ v ∈ m.s.vals, okV v) :
    Calls Tryz.prog 25 #[.slice A ms.length cap] w (GotRow w 42 4 (tidiedR (ms.map (·.s.vals))).length ((tidiedR (ms.map (·.s.vals))).flatMap Va.cells)) := by
  obtain ⟨iv, hiv, hzv, hsv, hbv⟩ := info_hid infoVa
  obtain ⟨n, hn⟩ : ∃ n, n = ms.length := ⟨_, rfl⟩
  have HN := Lib.hid hn
  have HMS := Lib.hid hms
  have HOK := Lib.hid hok
  have HPO := Lib.hid (fun k => foldSS_ok ((ms.take k).map (·.s.vals)) [] (fun vs hvs => by
    obtain ⟨m, hm, rfl⟩ := List.mem_map.1 hvs
    exact hok m (List.mem_of_mem_take hm)) (fun x h => by cases h))
  rw [← hn] at hl hsm ⊢
  have hcap' := hcap
  unfold maxLen at hcap'
  clear hn hms hok
  go_enter Tryz.func25, Tryz.ntmps25
  go_wp2_with fail
  go_loopw [3, 4, 5, 6, 7] (fun l i _ _ _ wr => ∃ k c : Nat, k ≤ n ∧ i = .int .i64 k ∧ Hid (Below w.heap.size w wr) ∧ Hid (c = (pointsR ((ms.take k).map (·.s.vals))).length) ∧ Hid (wr.ownsRow w.heap.size 42 4 l c ((pointsR ((ms.take k).map (·.s.vals))).flatMap Va.cells))) (fun _ i _ _ _ _ => n - (intOf i).toNat)
  case atStart => exact ⟨0, 0, Nat.zero_le _, rfl, Lib.hid (Below.refl _ _), Lib.hid (by simp [pointsR]), Lib.hid (by simpa [pointsR] using World.ownsRow_nil _ _ _ _)⟩
  case round =>
    obtain ⟨k, c, hk, rfl, hb, hlc, hown⟩ := hrel
    by_cases hlt : k < n
    · have hget : ms[k]? = some (ms[k]'(by have := HN.out; omega)) := List.getElem?_eq_getElem _
      obtain ⟨u, hu⟩ : ∃ u, u = ms[k]'(by have := HN.out; omega) := ⟨_, rfl⟩
      rw [← hu] at hget
      obtain ⟨b, o, hA, hb1, hva, hmo⟩ := HMS.out k u hget
      subst hA
      have HU := Lib.hid (HOK.out u (List.mem_of_getElem? hget))
      have HSN := Lib.hid (show pointsR ((ms.take (k + 1)).map (·.s.vals)) = u.s.vals.foldl putV (pointsR ((ms.take k).map (·.s.vals))) by
        obtain ⟨hk', e⟩ := List.getElem?_eq_some_iff.1 hget
        rw [List.take_succ_eq_append_getElem hk', e, List.map_append, List.map_cons, List.map_nil, pointsR_snoc])
      have hsb : b < wr.heap.size := by have := hb.out.size; omega
      have y4 := (hva.below hb.out hb1).c4
      have HMO := Lib.hid (hmo.below hb.out)
      have HML := Lib.hid (show (pointsR ((ms.take k).map (·.s.vals))).length ≤ 180 * 100 by
        have := (HPO.out k).2; simp at this; unfold pointsR; simp; omega)
      obtain ⟨L0, hL0⟩ : ∃ L, L = pointsR ((ms.take k).map (·.s.vals)) := ⟨_, rfl⟩
      have HLO := Lib.hid (show ∀ x ∈ L0, okV x by rw [hL0]; exact (HPO.out k).1)
      rw [← hL0] at HSN HML hlc hown
      obtain ⟨q, hq⟩ : ∃ q, q = u.s.vals.length := ⟨_, rfl⟩
      have HQ := Lib.hid hq
      have hq20 : q ≤ 20 := by have := HU.out.1; omega
      have hqc : q ≤ u.cap := by have := HMO.out.len; omega
      have hqm := HMO.out.cap
      unfold maxLen at hqm
      rw [← hq] at y4
      clear hu hget hva hmo hb1 hL0 hq
      go_wp2_with fail
      obtain ⟨wo, rfl⟩ : ∃ wo : World, wo = wr := ⟨_, rfl⟩
      go_loopw [3, 5, 6, 7] (fun l i _ _ wr => ∃ j c : Nat, j ≤ q ∧ i = .int .i64 j ∧ Hid (Below wo.heap.size wo wr) ∧ Hid (c = ((u.s.vals.take j).foldl putV L0).length) ∧ Hid (wr.ownsRow w.heap.size 42 4 l c (((u.s.vals.take j).foldl putV L0).flatMap Va.cells))) (fun _ i _ _ _ => q - (intOf i).toNat)
      case atStart => exact ⟨0, c, Nat.zero_le _, rfl, Lib.hid (Below.refl _ _), hlc, hown⟩
      case round =>
        obtain ⟨j, c1, hj, rfl, hb2, hlc2, hown2⟩ := hrel
        have x4 : wr.cell? ⟨b, o + k * 5 + 4, none⟩ = some (.slice u.A q u.cap) := (hb2.out.cell (p := ⟨b, _, none⟩) hsb).trans y4
        have hwo : wo.heap.size ≤ wr.heap.size := hb2.out.size
        have hbw := hb.out.size
        by_cases hlj : j < q
        · have hgj : u.s.vals[j]? = some (u.s.vals[j]'(by have := HQ.out; omega)) := List.getElem?_eq_getElem _
          obtain ⟨v, hv⟩ : ∃ v, v = u.s.vals[j]'(by have := HQ.out; omega) := ⟨_, rfl⟩
          rw [← hv] at hgj
          obtain ⟨b2, o2, hA2, hb3, hva2⟩ := HMO.out.vals j v hgj
          obtain ⟨y0, y1, y2, y3, ysz⟩ := hva2.below hb2.out hb3
          have HV := Lib.hid (HU.out.2 v (List.mem_of_getElem? hgj))
          have hvf := HV.out.1
          have hvt := HV.out.2.1
          have hv9 := HV.out.2.2.1
          have HSN2 := Lib.hid (show (u.s.vals.take (j + 1)).foldl putV L0 = putV ((u.s.vals.take j).foldl putV L0) v by
            obtain ⟨hk', e⟩ := List.getElem?_eq_some_iff.1 hgj
            rw [List.take_succ_eq_append_getElem hk', e, foldV_snoc])
          have hsb2 : b2 < wr.heap.size := by omega
          have hsb' : b < wr.heap.size := by omega
          have hfo := foldV_ok (u.s.vals.take j) L0 (fun x hx => HU.out.2 x (List.mem_of_mem_take hx)) HLO.out
          obtain ⟨L1, hL1⟩ : ∃ L, L = (u.s.vals.take j).foldl putV L0 := ⟨_, rfl⟩
          rw [← hL1] at HSN2 hlc2 hown2 hfo
          have HLO1 := Lib.hid hfo.1
          have HLL1 := Lib.hid (show L1.length ≤ 19000 by have h1 := hfo.2; have h2 := HML.out; have : (u.s.vals.take j).length ≤ j := List.length_take_le _ _; omega)
          have BX := Lib.hid (heap_alloc_new wr (.cells #[.int .i64 v.kind, .string v.text, .int .i64 v.fr, .int .i64 v.to] 42))
          have BWX := Lib.hid (below_alloc wr (.cells #[.int .i64 v.kind, .string v.text, .int .i64 v.fr, .int .i64 v.to] 42))
          have OWX := Lib.hid (hown2.out.alloc (.cells #[.int .i64 v.kind, .string v.text, .int .i64 v.fr, .int .i64 v.to] 42))
          have hsz1 : (wr.alloc (.cells #[.int .i64 v.kind, .string v.text, .int .i64 v.fr, .int .i64 v.to] 42)).heap.size = wr.heap.size + 1 := by simp
          have HSZ := Lib.hid hsz1
          clear hv hgj hva2 hb3 hfo hL1 hsz1
          rw [hA2] at x4
          clear hA2
          go_wp2_with fail
          generalize wr.alloc (.cells #[.int .i64 v.kind, .string v.text, .int .i64 v.fr, .int .i64 v.to] 42) = W2 at BX BWX OWX HSZ ⊢
          obtain ⟨wm, rfl⟩ : ∃ wm : World, wm = wr := ⟨_, rfl⟩
          go_loopw [3, 7] (fun l p wx => ∃ i c : Nat, v.fr + i ≤ v.to + 1 ∧ p = .int .i64 (v.fr + i) ∧ Hid (Below W2.heap.size W2 wx) ∧ Hid (c = (putDays v L1 i).length) ∧ Hid (wx.ownsRow w.heap.size 42 4 l c ((putDays v L1 i).flatMap Va.cells))) (fun _ p _ => (v.to + 1 - intOf p).toNat)
          case atStart => exact ⟨0, c1, by omega, by simp, Lib.hid (Below.refl _ _), hlc2, OWX⟩
          case round =>
            obtain ⟨i, c2, hi, rfl, hb4, hlc4, hown4⟩ := hrel
            have BK := Lib.hid (blk_keep hb4.out BX.out)
            have w0 := cell_of_blk BK.out 0
            have w1 := cell_of_blk BK.out 1
            have w2 := cell_of_blk BK.out 2
            have w3 := cell_of_blk BK.out 3
            simp at w0 w1 w2 w3
            have hx1 := hb4.out.size
            have hx2 := HSZ.out
            have hwx : wm.heap.size < wr.heap.size := by omega
            obtain ⟨A3, c3, hv3, hc3, hc3m, -, -⟩ := own_slice hown4.out
            subst hv3
            have hil := putDays_len v L1 i
            have HIL := Lib.hid (show c2 ≤ 19010 by have := HLL1.out; have := hlc4.out; omega)
            by_cases hle : v.fr + i ≤ v.to
            · have HVA := Lib.hid (own_vals (vs := putDays v L1 i) (by rw [← hlc4.out]; exact hown4.out) (fun x hx => (putDays_ok v L1 HV.out HLO1.out i (by omega) x hx).2.2.2))
              have HC0 := Lib.hid (own_cap0 hown4.out)
              have HPUT := Lib.hid (show Calls Tryz.prog 46 #[.slice A3 c2 c3, .agg #[.int .i64 v.kind, .string v.text, .int .i64 (v.fr + i), .int .i64 (v.fr + i)]] wr (GotRow wr 42 4 (putDays v L1 (i + 1)).length ((putDays v L1 (i + 1)).flatMap Va.cells)) by
                have := put_any A3 c3 (putDays v L1 i) (day v (v.fr + (i : Int))) wr HVA.out.1 HVA.out.2.1 HVA.out.2.2.1 HC0.out (by have := HIL.out; have := hlc4.out; omega)
                rw [← hlc4.out, ← putDays_succ] at this
                exact this)
              clear hil
              go_wp2_with fail
              refine HPUT.out.mono ?_; rintro e w4 ⟨A4, c4, rfl, own4, hb5⟩
              have OWN4 := Lib.hid (own_base own4 (Nat.le_trans hbw (Nat.le_trans hwo (by omega))))
              have B5 := Lib.hid (hb4.out.trans (hb5.mono hb4.out.size))
              clear own4 hb5
              go_wp2_with fail
              go_roundw
              case rel => exact ⟨i + 1, _, by omega, by go_num, B5, Lib.hid rfl, OWN4⟩
              case measure => simp [intOf]; omega
            · have HSN3 := Lib.hid (show putDays v L1 i = (u.s.vals.take (j + 1)).foldl putV L0 by
                rw [HSN2.out]; unfold putV; congr 1; omega)
              go_wp2_with fail
              go_roundw
              case rel => exact ⟨j + 1, c2, by omega, by go_num, Lib.hid (hb2.out.trans ((below_more BWX.out hb4.out).mono hb2.out.size)), Lib.hid (by rw [← HSN3.out]; exact hlc4.out), Lib.hid (by rw [← HSN3.out]; exact hown4.out)⟩
              case measure => simp [intOf]; omega
        · obtain rfl : j = q := by omega
          have HSN3 := Lib.hid (show (u.s.vals.take j).foldl putV L0 = pointsR ((ms.take (k + 1)).map (·.s.vals)) by rw [HSN.out, HQ.out, List.take_length])
          go_wp2_with fail
          go_roundw
          case rel => exact ⟨k + 1, c1, by omega, by go_num, Lib.hid (hb.out.trans (hb2.out.mono hb.out.size)), Lib.hid (by rw [← HSN3.out]; exact hlc2.out), Lib.hid (by rw [← HSN3.out]; exact hown2.out)⟩
          case measure => simp [intOf]; omega
    · obtain rfl : k = n := by omega
      have HT := Lib.hid (show (ms.take k).map (·.s.vals) = ms.map (·.s.vals) by rw [HN.out, List.take_length])
      obtain ⟨P, hP⟩ : ∃ P, P = pointsR (ms.map (·.s.vals)) := ⟨_, rfl⟩
      have HP := Lib.hid (show runsR P = tidiedR (ms.map (·.s.vals)) by rw [hP]; rfl)
      have HPP := Lib.hid (show (∀ x ∈ P, okV x) ∧ P.length ≤ 180 * 100 by
        have h := HPO.out k
        rw [HT.out] at h
        rw [hP]
        refine ⟨h.1, ?_⟩
        have h2 := h.2
        unfold pointsR
        simp at h2 ⊢
        have := HN.out
        omega)
      have hlc1 := hlc.out
      have hown1 := hown.out
      rw [HT.out, ← hP] at hlc1 hown1
      obtain ⟨A3, c3, hv3, hc3, hc3m, -, -⟩ := own_slice hown1
      subst hv3
      have HPV := Lib.hid (own_vals (vs := P) (by rw [← hlc1]; exact hown1) (fun x hx => (HPP.out.1 x hx).2.2.2))
      have HCP := Lib.hid hlc1
      have hcz : c ≤ 18000 := by have := HPP.out.2; omega
      unfold maxLen at hc3m
      clear hP hown1 hlc1 hlc hown
      go_wp2_with fail
      obtain ⟨wo, rfl⟩ : ∃ wo : World, wo = wr := ⟨_, rfl⟩
      go_loopw [8, 9, 10] (fun o i _ wr => ∃ j c2 : Nat, j ≤ c ∧ c2 ≤ j ∧ i = .int .i64 j ∧ Hid (Below wo.heap.size wo wr) ∧ Hid (c2 = (runsR (P.take j)).length) ∧ Hid (wr.ownsRow wo.heap.size 42 4 o c2 ((runsR (P.take j)).flatMap Va.cells))) (fun _ i _ _ => c - (intOf i).toNat)
      case atStart => exact ⟨0, 0, Nat.zero_le _, Nat.le_refl _, rfl, Lib.hid (Below.refl _ _), Lib.hid (by simp [runsR]), Lib.hid (by simpa [runsR] using World.ownsRow_nil _ _ _ _)⟩
      case round =>
        obtain ⟨j, d, hj, hdj, rfl, hb4, hlc4, hown4⟩ := hrel
        by_cases hlt2 : j < c
        · have hget : P[j]? = some (P[j]'(by have := HCP.out; omega)) := List.getElem?_eq_getElem _
          obtain ⟨u, hu⟩ : ∃ u, u = P[j]'(by have := HCP.out; omega) := ⟨_, rfl⟩
          rw [← hu] at hget
          obtain ⟨b, o, hA, hb1, hva⟩ := HPV.out.1 j u hget
          subst hA
          obtain ⟨y0, y1, y2, y3, ysz⟩ := hva.below hb4.out hb1
          have HSN := Lib.hid (show runsR (P.take (j + 1)) = runStep (runsR (P.take j)) u by rw [take_step _ _ _ hget, runsR_snoc])
          have hsb : b < wr.heap.size := by have := hb4.out.size; omega
          have HUO := Lib.hid (HPP.out.1 u (List.mem_of_getElem? hget))
          have HMO := Lib.hid (runsR_ok (P.take j) (fun x hx => HPP.out.1 x (List.mem_of_mem_take hx)))
          obtain ⟨O, hO⟩ : ∃ O, O = runsR (P.take j) := ⟨_, rfl⟩
          rw [← hO] at HSN HMO hlc4 hown4
          clear hu hget hva hb1 hO
          obtain ⟨A2, c2, hv, hc2, hc2m, hcell, hnone⟩ := own_slice hown4.out
          subst hv
          have HCL := Lib.hid hcell
          have HNO := Lib.hid hnone
          clear hcell hnone
          cases d with
          | zero =>
            have HADD := Lib.hid (show runsR (P.take (j + 1)) = O ++ [u] by rw [HSN.out, show O = [] from List.eq_nil_of_length_eq_zero hlc4.out.symm]; rfl)
            go_wp2_with fail
            refine wp_region_later (by kernel_rfl) (by kernel_rfl) ?_; (repeat (first | go_big_quiet_step (fail) | quiet_step (fail))); refine wpQuiet_nil ?_; rintro _ ⟨s, rfl⟩
            have BS := Lib.hid (hb4.out.trans (s.below.mono hb4.out.size))
            have OWS := Lib.hid (ownsRow_of_block (w' := s.w) hown4.out (fun g hg => s.below.block g (hown4.out.lt g hg).2))
            go_wp2_with (first
              | (at_builtin; refine wpList_append_src _ rfl (.tmp 112) (.tmp 117) 36 rfl wo.heap.size 42 iv (.agg #[.int .i64 0, .string ⟨#[]⟩, .int .i64 0, .int .i64 0]) 4 40 Tryz.underlying36 hiv.out hzv.out hsv.out hbv.out rfl (by decide) (.slice A2 0 c2) 0 (O.flatMap Va.cells) rfl ?ownp (some ⟨s.w.heap.size, 0, none⟩) 1 1 u.cells rfl ?lp ?np ?cp ?op ?mp ?bp ?sp (0 + 1) rfl ?_))
            case ownp => exact OWS.out.alloc _
            case lp => rfl
            case np => intro h; cases h
            case op => exact fun x hx => va_one (vs := [u]) x (by simpa using hx)
            case cp =>
              intro ad had i u' hj
              injection had with had
              subst had
              have := new_cells s.w u.cells 42 i u' hj
              simpa [Va.cells] using this
            case mp => unfold maxLen; omega
            case bp => omega
            case sp => have := BS.out.size; simp; omega
            · intro A5 c5 w5 own5 hg5 _
              have b5 := Lib.hid ((BS.out.alloc BS.out.size (.cells #[.int .i64 u.kind, .string u.text, .int .i64 u.fr, .int .i64 u.to] 42)).grown hg5 (by have := BS.out.size; simp; omega) (fun g hg => (OWS.out.lt g hg).1))
              have own5 := Lib.hid own5
              clear hg5
              go_wp2_with fail
              go_roundw
              case rel => exact ⟨j + 1, 0 + 1, by omega, by omega, by go_num, b5, Lib.hid (by rw [HADD.out, List.length_append, ← hlc4.out]; rfl), Lib.hid (by rw [HADD.out, List.flatMap_append]; simpa using own5.out)⟩
              case measure => simp [intOf]; omega
          | succ d =>
            obtain ⟨i, l, hOi⟩ : ∃ i l, O = i ++ [l] := (snoc_cases O).resolve_left (fun e => by have := hlc4.out; rw [e] at this; simp at this)
            have HIL := Lib.hid (show i.length = d by have := hlc4.out; rw [hOi] at this; simp at this; omega)
            have HOI := Lib.hid hOi
            cases hA2 : A2 with
            | none => have := HNO.out hA2; omega
            | some ad =>
            obtain ⟨g, rfl, hg0, hg1, hgc⟩ := HCL.out ad hA2
            subst hA2
            have HLC := Lib.hid (show ∀ t, t < 4 → wr.cell? ⟨g, d * 4 + t, none⟩ = (Va.cells l)[t]? from fun t ht => by
              have ht' : t < (Va.cells l).length := ht
              rw [hgc (d * 4 + t) ((Va.cells l)[t]) (by
                rw [flat_at (c := 4) (fun _ => rfl) _ d l (by rw [HOI.out, List.getElem?_append_right (by have := HIL.out; omega), HIL.out]; simp) t ht]; exact List.getElem?_eq_getElem ht'), List.getElem?_eq_getElem ht'])
            have x0 : wr.cell? ⟨g, d * 4, none⟩ = some (.int .i64 l.kind) := HLC.out 0 (by omega)
            have x1 : wr.cell? ⟨g, d * 4 + 1, none⟩ = some (.string l.text) := HLC.out 1 (by omega)
            have x3 : wr.cell? ⟨g, d * 4 + 3, none⟩ = some (.int .i64 l.to) := HLC.out 3 (by omega)
            have HLO := Lib.hid (HMO.out l (by rw [HOI.out]; simp))
            have hw9 : IntKind.i64.wrap (l.to + 1) = l.to + 1 := IntWalk.i64_in _ (by have := HLO.out.1; have := HLO.out.2.1; have := HLO.out.2.2.1; omega)
            have HJ := Lib.hid (fun h => show runsR (P.take (j + 1)) = O ++ [u] by rw [HSN.out, HOI.out, runStep_add _ _ _ h])
            clear hOi hgc
            by_cases hk1 : (l.kind == u.kind) = true
            case neg =>
              have hk1 : (l.kind == u.kind) = false := by simpa using hk1
              have HADD := Lib.hid (HJ.out (by unfold meq; rw [hk1]; rfl))
              go_wp2_with fail
              refine wp_region_later (by kernel_rfl) (by kernel_rfl) ?_; (repeat (first | go_big_quiet_step (fail) | quiet_step (fail))); refine wpQuiet_nil ?_; rintro _ ⟨s, rfl⟩
              have BS := Lib.hid (hb4.out.trans (s.below.mono hb4.out.size))
              have OWS := Lib.hid (ownsRow_of_block (w' := s.w) hown4.out (fun g hg => s.below.block g (hown4.out.lt g hg).2))
              go_wp2_with (first
                | (at_builtin; refine wpList_append_src _ rfl (.tmp 112) (.tmp 117) 36 rfl wo.heap.size 42 iv (.agg #[.int .i64 0, .string ⟨#[]⟩, .int .i64 0, .int .i64 0]) 4 40 Tryz.underlying36 hiv.out hzv.out hsv.out hbv.out rfl (by decide) (.slice (some ⟨g, 0, none⟩) (d + 1) c2) (d + 1) (O.flatMap Va.cells) rfl ?ownq (some ⟨s.w.heap.size, 0, none⟩) 1 1 u.cells rfl ?lq ?nq ?cq ?oq ?mq ?bq ?sq ((d + 1) + 1) rfl ?_))
              case ownq => exact OWS.out.alloc _
              case lq => rfl
              case nq => intro h; cases h
              case oq => exact fun x hx => va_one (vs := [u]) x (by simpa using hx)
              case cq =>
                intro ad had i u' hj
                injection had with had
                subst had
                have := new_cells s.w u.cells 42 i u' hj
                simpa [Va.cells] using this
              case mq => unfold maxLen; omega
              case bq => omega
              case sq => have := BS.out.size; simp; omega
              · intro A5 c5 w5 own5 hg5 _
                have b5 := Lib.hid ((BS.out.alloc BS.out.size (.cells #[.int .i64 u.kind, .string u.text, .int .i64 u.fr, .int .i64 u.to] 42)).grown hg5 (by have := BS.out.size; simp; omega) (fun g hg => (OWS.out.lt g hg).1))
                have own5 := Lib.hid own5
                clear hg5
                go_wp2_with fail
                go_roundw
                case rel => exact ⟨j + 1, (d + 1) + 1, by omega, by omega, by go_num, b5, Lib.hid (by rw [HADD.out, List.length_append, ← hlc4.out]; rfl), Lib.hid (by rw [HADD.out, List.flatMap_append]; simpa using own5.out)⟩
                case measure => simp [intOf]; omega
            by_cases hk2 : (l.text.toList == u.text.toList) = true
            case neg =>
              have hk2 : (l.text.toList == u.text.toList) = false := by simpa using hk2
              have HADD := Lib.hid (HJ.out (by unfold meq strEq; rw [hk1, hk2]; rfl))
              go_wp2_with fail
              refine wp_region_later (by kernel_rfl) (by kernel_rfl) ?_; (repeat (first | go_big_quiet_step (fail) | quiet_step (fail))); refine wpQuiet_nil ?_; rintro _ ⟨s, rfl⟩
              have BS := Lib.hid (hb4.out.trans (s.below.mono hb4.out.size))
              have OWS := Lib.hid (ownsRow_of_block (w' := s.w) hown4.out (fun g hg => s.below.block g (hown4.out.lt g hg).2))
              go_wp2_with (first
                | (at_builtin; refine wpList_append_src _ rfl (.tmp 112) (.tmp 117) 36 rfl wo.heap.size 42 iv (.agg #[.int .i64 0, .string ⟨#[]⟩, .int .i64 0, .int .i64 0]) 4 40 Tryz.underlying36 hiv.out hzv.out hsv.out hbv.out rfl (by decide) (.slice (some ⟨g, 0, none⟩) (d + 1) c2) (d + 1) (O.flatMap Va.cells) rfl ?ownr (some ⟨s.w.heap.size, 0, none⟩) 1 1 u.cells rfl ?lr ?nr ?cr ?or ?mr ?br ?sr ((d + 1) + 1) rfl ?_))
              case ownr => exact OWS.out.alloc _
              case lr => rfl
              case nr => intro h; cases h
              case or => exact fun x hx => va_one (vs := [u]) x (by simpa using hx)
              case cr =>
                intro ad had i u' hj
                injection had with had
                subst had
                have := new_cells s.w u.cells 42 i u' hj
                simpa [Va.cells] using this
              case mr => unfold maxLen; omega
              case br => omega
              case sr => have := BS.out.size; simp; omega
              · intro A5 c5 w5 own5 hg5 _
                have b5 := Lib.hid ((BS.out.alloc BS.out.size (.cells #[.int .i64 u.kind, .string u.text, .int .i64 u.fr, .int .i64 u.to] 42)).grown hg5 (by have := BS.out.size; simp; omega) (fun g hg => (OWS.out.lt g hg).1))
                have own5 := Lib.hid own5
                clear hg5
                go_wp2_with fail
                go_roundw
                case rel => exact ⟨j + 1, (d + 1) + 1, by omega, by omega, by go_num, b5, Lib.hid (by rw [HADD.out, List.length_append, ← hlc4.out]; rfl), Lib.hid (by rw [HADD.out, List.flatMap_append]; simpa using own5.out)⟩
                case measure => simp [intOf]; omega
            by_cases hk3 : (l.to + 1 == u.fr) = true
            case neg =>
              have hk3 : (l.to + 1 == u.fr) = false := by simpa using hk3
              have HADD := Lib.hid (HJ.out (by rw [hk3]; simp))
              go_wp2_with fail
              refine wp_region_later (by kernel_rfl) (by kernel_rfl) ?_; (repeat (first | go_big_quiet_step (fail) | quiet_step (fail))); refine wpQuiet_nil ?_; rintro _ ⟨s, rfl⟩
              have BS := Lib.hid (hb4.out.trans (s.below.mono hb4.out.size))
              have OWS := Lib.hid (ownsRow_of_block (w' := s.w) hown4.out (fun g hg => s.below.block g (hown4.out.lt g hg).2))
              go_wp2_with (first
                | (at_builtin; refine wpList_append_src _ rfl (.tmp 112) (.tmp 117) 36 rfl wo.heap.size 42 iv (.agg #[.int .i64 0, .string ⟨#[]⟩, .int .i64 0, .int .i64 0]) 4 40 Tryz.underlying36 hiv.out hzv.out hsv.out hbv.out rfl (by decide) (.slice (some ⟨g, 0, none⟩) (d + 1) c2) (d + 1) (O.flatMap Va.cells) rfl ?ownt (some ⟨s.w.heap.size, 0, none⟩) 1 1 u.cells rfl ?lt ?nt ?ct ?ot ?mt ?bt ?st ((d + 1) + 1) rfl ?_))
              case ownt => exact OWS.out.alloc _
              case lt => rfl
              case nt => intro h; cases h
              case ot => exact fun x hx => va_one (vs := [u]) x (by simpa using hx)
              case ct =>
                intro ad had i u' hj
                injection had with had
                subst had
                have := new_cells s.w u.cells 42 i u' hj
                simpa [Va.cells] using this
              case mt => unfold maxLen; omega
              case bt => omega
              case st => have := BS.out.size; simp; omega
              · intro A5 c5 w5 own5 hg5 _
                have b5 := Lib.hid ((BS.out.alloc BS.out.size (.cells #[.int .i64 u.kind, .string u.text, .int .i64 u.fr, .int .i64 u.to] 42)).grown hg5 (by have := BS.out.size; simp; omega) (fun g hg => (OWS.out.lt g hg).1))
                have own5 := Lib.hid own5
                clear hg5
                go_wp2_with fail
                go_roundw
                case rel => exact ⟨j + 1, (d + 1) + 1, by omega, by omega, by go_num, b5, Lib.hid (by rw [HADD.out, List.length_append, ← hlc4.out]; rfl), Lib.hid (by rw [HADD.out, List.flatMap_append]; simpa using own5.out)⟩
                case measure => simp [intOf]; omega
            have HADD := Lib.hid (show runsR (P.take (j + 1)) = i ++ [Va.mk l.kind l.text l.fr u.to] by rw [HSN.out, HOI.out, runStep_join]; unfold meq strEq; rw [hk1, hk2, hk3]; rfl)
            go_wp2_with fail
            refine wp_region_later (by kernel_rfl) (by kernel_rfl) ?_; (repeat (first | go_big_quiet_step (fail) | quiet_step (fail))); refine wpQuiet_nil ?_; rintro _ ⟨s, rfl⟩
            have BS := Lib.hid (hb4.out.trans (s.below.mono hb4.out.size))
            have OWS := Lib.hid (ownsRow_of_block (w' := s.w) hown4.out (fun g hg => s.below.block g (hown4.out.lt g hg).2))
            have z0 := frz_own OWS.out (d * 4 + 3)
            go_wp2_with fail
            go_roundw
            case rel =>
              refine ⟨j + 1, d + 1, by omega, by omega, by go_num, Lib.hid ?_, Lib.hid ?_, Lib.hid ?_⟩
              · exact BS.out.setCell (p := ⟨g, d * 4 + 3, none⟩) hg0 _
              · rw [HADD.out]; simp; exact HIL.out.symm
              · have h1 := (OWS.out.stored (d * 4 + 3) (.int .i64 u.to)).1
                rw [HOI.out, ← HIL.out, set_to, ← HADD.out, HIL.out] at h1
                exact h1
            case measure => simp [intOf]; omega
        · obtain rfl : j = c := by omega
          obtain ⟨A2, c2, hv, -, -, -, -⟩ := own_slice hown4.out
          subst hv
          have HT2 := Lib.hid (show runsR (P.take j) = tidiedR (ms.map (·.s.vals)) by rw [HCP.out, List.take_length]; exact HP.out)
          have HX := Lib.hid (show GotRow w 42 4 (tidiedR (ms.map (·.s.vals))).length ((tidiedR (ms.map (·.s.vals))).flatMap Va.cells) (.returned (.slice A2 d c2)) wr by
            have h5 := hown4.out
            have h6 := hlc4.out
            rw [HT2.out] at h5 h6
            rw [← h6]
            exact ⟨A2, c2, rfl, own_base h5 hb.out.size, hb.out.trans (hb4.out.mono hb.out.size)⟩)
          go_wp2_with fail
          go_ret
          exact HX.out

end Go.Proofs.YtleihhkacmgofaaGreatDoor

/- Signs in a row of the call's own, one of them given other values; what a valid list keeps. -/
namespace Go.Proofs.YtleihhkacmgofaaGreatDoor
open Go.RowKit

/-- values that lie apart from block g -/
def ApartG (g : Nat) (A : Option Addr) (vs : List Va) : Prop := 0 < vs.length → ∀ b o, A = some ⟨b, o, none⟩ → g ≠ b
theorem valsAt_set {w : World} {A : Option Addr} {vs : List Va} {g : Nat} (h : ValsAt w A vs) (ha : ApartG g A vs) (o : Nat) (u : Value) : ValsAt (w.setCell ⟨g, o, none⟩ u) A vs := fun k v hk => by
  obtain ⟨b, o', e, hlt, hv⟩ := h k v hk
  have hg : b ≠ g := fun e2 => ha (by have := (List.getElem?_eq_some_iff.1 hk).1; omega) b o' e e2.symm
  have hc : ∀ p, (w.setCell ⟨g, o, none⟩ u).cell? ⟨b, p, none⟩ = w.cell? ⟨b, p, none⟩ := fun p => World.cell?_of_block (a := ⟨b, p, none⟩) (heap_setCell_other _ _ _ _ hg)
  exact ⟨b, o', e, by simpa using hlt, ⟨(hc _).trans hv.c0, (hc _).trans hv.c1, (hc _).trans hv.c2, (hc _).trans hv.c3, hv.sz⟩⟩
theorem smOk_set {w : World} {m : Sm} {g : Nat} (h : SmOk w m) (ha : ApartG g m.A m.s.vals) (o : Nat) (u : Value) : SmOk (w.setCell ⟨g, o, none⟩ u) m := ⟨valsAt_set h.vals ha o u, h.len, h.cap, h.code⟩
/-- a sign with other values -/
def Sm.with (m : Sm) (vs : List Va) (A : Option Addr) (c : Nat) : Sm := ⟨⟨m.s.code, m.s.wide, m.s.high, m.s.even, vs⟩, A, c⟩
theorem flat_set {ms : List Sm} {k : Nat} {m : Sm} (hk : ms[k]? = some m) (vs : List Va) (A : Option Addr) (c : Nat) : (ms.flatMap Sm.cells).set (k * 5 + 4) (.slice A vs.length c) = (ms.set k (m.with vs A c)).flatMap Sm.cells := by
  induction ms generalizing k with
  | nil => simp at hk
  | cons x r ih =>
    cases k with
    | zero =>
      simp at hk; subst hk
      simp [Sm.cells, Sm.with]
    | succ k =>
      have := ih (k := k) (by simpa using hk)
      rw [List.set_cons_succ, List.flatMap_cons, List.flatMap_cons, ← this, List.set_append_right _ _ (by simp [Sm.cells]; omega)]
      congr 1
      congr 1
      simp [Sm.cells]
      omega
theorem OwnSigns.set {w : World} {base g c : Nat} {ms : List Sm} (h : OwnSigns w base (some ⟨g, 0, none⟩) c ms) {k : Nat} {m : Sm} (hk : ms[k]? = some m) {vs : List Va} {A : Option Addr} {c1 : Nat} (hv : ValsAt w A vs) (hl : vs.length ≤ c1) (hc : c1 ≤ maxLen) (ha : ApartG g A vs) :
    OwnSigns (w.setCell ⟨g, k * 5 + 4, none⟩ (.slice A vs.length c1)) base (some ⟨g, 0, none⟩) c (ms.set k (m.with vs A c1)) := by
  have hap : ∀ m ∈ ms, ApartG g m.A m.s.vals := fun m hm h0 b o e e2 => h.apart m hm h0 b o e (by rw [e2]; rfl)
  have hlen : (ms.set k (m.with vs A c1)).length = ms.length := by simp
  refine ⟨?_, fun x hx => ?_, fun x hx h0 b o e => ?_⟩
  · rw [hlen, ← flat_set hk]
    exact (h.own.stored (k * 5 + 4) (.slice A vs.length c1)).1
  · rcases List.mem_or_eq_of_mem_set hx with hx | rfl
    · exact smOk_set (h.ok x hx) (hap x hx) _ _
    · exact ⟨valsAt_set hv ha _ _, hl, hc, (h.ok m (List.mem_of_getElem? hk)).code⟩
  · rcases List.mem_or_eq_of_mem_set hx with hx | rfl
    · have := h.apart x hx h0 b o e; exact this
    · intro e2
      have e2 : some g = some b := e2
      injection e2 with e2
      exact ha h0 b o e e2

/-- a sign with its values changed -/
def sgWith (f : List Va → List Va) (s : Sg) : Sg := ⟨s.code, s.wide, s.high, s.even, f s.vals⟩
/-- the first signs changed -/
def firstW (f : List Va → List Va) (k : Nat) (l : List Sg) : List Sg := (l.take k).map (sgWith f) ++ l.drop k
theorem firstW_len (f : List Va → List Va) (k : Nat) (l : List Sg) : (firstW f k l).length = l.length := by unfold firstW; simp; omega
theorem firstW_at (f : List Va → List Va) (k : Nat) (l : List Sg) (s : Sg) (h : l[k]? = some s) : (firstW f k l)[k]? = some s := by
  unfold firstW
  obtain ⟨hk, e⟩ := List.getElem?_eq_some_iff.1 h
  rw [List.getElem?_append_right (by simp; omega)]
  simp
  rw [show k + (k - min k l.length) = k by omega]
  exact h
theorem firstW_set (f : List Va → List Va) (k : Nat) (l : List Sg) (s : Sg) (h : l[k]? = some s) : (firstW f k l).set k (sgWith f s) = firstW f (k + 1) l := by
  obtain ⟨hk, e⟩ := List.getElem?_eq_some_iff.1 h
  unfold firstW
  rw [List.set_append_right _ _ (by simp; omega), List.take_succ_eq_append_getElem hk, List.drop_eq_getElem_cons hk, List.map_append]
  have hm : k - (List.map (sgWith f) (List.take k l)).length = 0 := by simp; omega
  rw [hm]
  simp [e]
theorem firstW_zero (f : List Va → List Va) (l : List Sg) : firstW f 0 l = l := by simp [firstW]
theorem firstW_all (f : List Va → List Va) (l : List Sg) : firstW f l.length l = l.map (sgWith f) := by simp [firstW]

/-- what a valid list keeps -/
theorem vals_okV (p : Int) : ∀ (vs done : List Va), valsErr p done vs = 0 → p ≤ 9 → ∀ v ∈ vs, okV v
  | [], _, _, _, v, hv => by cases hv
  | x :: r, done, h, hp, v, hv => by
    rw [valsErr] at h
    split at h
    · rename_i h0
      rcases List.mem_cons.1 hv with rfl | hv
      · unfold valErr at h0
        split at h0
        · cases h0
        · rename_i h1
          split at h0
          · cases h0
          · rename_i h2
            have h3 : textB v.kind v.text = true := by
              cases hk : kindB v.kind <;> cases ht : textB v.kind v.text <;> simp_all
            refine ⟨by omega, by omega, by omega, ?_⟩
            unfold textB withinB at h3
            simp at h3
            unfold maxLen; omega
      · exact vals_okV p r _ h hp v hv
    · rename_i h0; exact absurd h h0
theorem signs_okV (p : Int) : ∀ (l done : List Sg), signsErr p done l = 0 → p ≤ 9 → ∀ s ∈ l, s.vals.length ≤ 12 ∧ ∀ v ∈ s.vals, okV v
  | [], _, _, _, s, hs => by cases hs
  | x :: r, done, h, hp, s, hs => by
    rw [signsErr] at h
    split at h
    · cases h
    · split at h
      · rename_i h0
        rcases List.mem_cons.1 hs with rfl | hs
        · unfold signErr at h0
          split at h0
          · cases h0
          · split at h0
            · cases h0
            · exact ⟨by omega, vals_okV p _ _ h0 hp⟩
        · exact signs_okV p r _ h hp s hs
      · rename_i h0; exact absurd h h0
theorem check_okV (l : Li) (h : checkErr l = 0) : l.signs.length ≤ 200 ∧ 1 ≤ l.per ∧ l.per ≤ 9 ∧ ∀ s ∈ l.signs, s.vals.length ≤ 12 ∧ ∀ v ∈ s.vals, okV v := by
  unfold checkErr at h
  split at h
  · cases h
  · split at h
    · cases h
    · rename_i h1 h2
      have h3 : withinB l.per 9 = true := by simpa using h2
      unfold withinB at h3
      simp at h3
      exact ⟨by omega, h3.1, h3.2, signs_okV l.per _ _ h h3.2⟩

/-- Tidy -/
def tidyV (vs : List Va) : List Va := tidiedR [vs]
def tidyL (l : Li) : Li × Int := if checkErr l ≠ 0 then (⟨0, []⟩, checkErr l) else (⟨l.per, l.signs.map (sgWith tidyV)⟩, 0)
/-- a list and an error -/
def GotListE (w : World) (q : Li × Int) (e : Ending) (w' : World) : Prop := ∃ L : Lm, e = .returned (.tuple #[L.val, .int .i64 q.2]) ∧ LmOk w' L ∧ L.li = q.1 ∧ Below w.heap.size w w'
theorem lm_none (w : World) : LmOk w ⟨0, [], none, 0⟩ := ⟨fun k m h => by simp at h, Nat.le_refl _, Nat.zero_le _⟩

end Go.Proofs.YtleihhkacmgofaaGreatDoor

/- Contract of Tidy, in the program. -/
namespace Go.Proofs.YtleihhkacmgofaaGreatDoor
open Go.RowKit

theorem OwnSigns.other {w : World} {base c : Nat} {A : Option Addr} {ms : List Sm} (h : OwnSigns w base A c ms) {b0 : Nat} (hb : (Value.slice A ms.length c).ownBlock ≠ some b0) (ha : ∀ m ∈ ms, ApartG b0 m.A m.s.vals) (o : Nat) (u : Value) : OwnSigns (w.setCell ⟨b0, o, none⟩ u) base A c ms :=
  ⟨ownsRow_of_block h.own (fun g hg => heap_setCell_other _ _ _ _ (by intro e; subst e; exact hb hg)), fun m hm => smOk_set (h.ok m hm) (ha m hm) _ _, h.apart⟩
/-- a row of signs as it was handed in, in memory of the call's own -/
theorem OwnSigns.cloned {w w1 w' : World} {A : Option Addr} {c : Nat} {ms : List Sm} (hown : w'.ownsRow w1.heap.size 39 5 (.slice A ms.length c) ms.length (ms.flatMap Sm.cells)) (hok : ∀ m ∈ ms, SmOk w m) (hb : Below w.heap.size w w') (hs : w.heap.size ≤ w1.heap.size) : OwnSigns w' w1.heap.size A c ms :=
  ⟨hown, fun m hm => (hok m hm).below hb, fun m hm h0 b o e e2 => by
    obtain ⟨b', o', e', hlt, _⟩ := (hok m hm).vals 0 m.s.vals[0] (List.getElem?_eq_getElem h0)
    rw [e] at e'
    injection e' with e'; injection e' with e1 _
    have := (hown.lt b e2).1
    omega⟩
theorem signs_oks {w : World} {A : Option Addr} {ms : List Sm} (h : SignsAt w A ms) : ∀ m ∈ ms, SmOk w m := fun m hm => by
  obtain ⟨i, hi⟩ := List.getElem?_of_mem hm
  obtain ⟨_, _, _, _, _, h⟩ := h i m hi
  exact h
theorem apart_old {w : World} {m : Sm} (h : SmOk w m) {b0 : Nat} (hb : w.heap.size ≤ b0) : ApartG b0 m.A m.s.vals := fun h0 b o e e2 => by
  obtain ⟨b', o', e', hlt, _⟩ := h.vals 0 m.s.vals[0] (List.getElem?_eq_getElem h0)
  rw [e] at e'
  injection e' with e'; injection e' with e1 _
  omega
theorem pcheck_is (l : Lm) (w : World) (hl : LmOk w l) (r : Int) (h : checkErr l.li = r) : Calls Tryz.prog 22 #[l.val] w fun e w' => e = .returned (.int .i64 r) ∧ Below w.heap.size w w' := by
  rw [← h]; exact check_any l w hl
theorem set_map {ms : List Sm} {k : Nat} {f : List Va → List Va} {l : List Sg} {u : Sm} (h : ms.map (·.s) = firstW f k l) (_hu : ms[k]? = some u) (hl : l[k]? = some u.s) (vs : List Va) (hv : vs = f u.s.vals) (A : Option Addr) (c : Nat) : (ms.set k (u.with vs A c)).map (·.s) = firstW f (k + 1) l := by
  rw [List.map_set, h, ← firstW_set f k l u.s hl, hv]
  rfl

set_option maxHeartbeats 3200000 in
set_option maxRecDepth 100000 in
theorem ptidy_any (l : Lm) (w : World) (hl : LmOk w l) :
    Calls Tryz.prog 8 #[l.val] w (GotListE w (tidyL l.li)) := by
  obtain ⟨W, hW⟩ : ∃ W, W = ((w.alloc (.cells #[.int .i64 l.per, .slice l.A l.ms.length l.cap] 24)).alloc (.cells #[.int .i64 0, .slice none 0 0] 24)) := ⟨_, rfl⟩
  have HB := Lib.hid (show Below w.heap.size w W from hW ▸ ((Below.refl _ _).alloc (Nat.le_refl _) _).alloc (by simp) _)
  have C1 := Lib.hid (show W.heap[w.heap.size]? = some (.cells #[.int .i64 l.per, .slice l.A l.ms.length l.cap] 24 (0, 0)) by
    rw [hW, heap_alloc_other _ _ _ (by simp)]; exact heap_alloc_new _ _)
  have C2 := Lib.hid (show W.heap[w.heap.size + 1]? = some (.cells #[.int .i64 0, .slice none 0 0] 24 (0, 0)) by
    rw [hW]; have := heap_alloc_new (w.alloc (.cells #[.int .i64 l.per, .slice l.A l.ms.length l.cap] 24)) (.cells #[.int .i64 0, .slice none 0 0] 24); simpa using this)
  have HS := Lib.hid (show W.heap.size = w.heap.size + 1 + 1 by rw [hW]; simp)
  have HL := Lib.hid (hl.below HB.out)
  have HL0 := Lib.hid hl
  have hlen := hl.len
  have hcap := hl.cap
  unfold maxLen at hcap
  clear hl
  obtain ⟨E, hE⟩ : ∃ E, E = checkErr l.li := ⟨_, rfl⟩
  have HE := Lib.hid hE.symm
  have HCK := Lib.hid (fun r (h : checkErr l.li = r) => show Calls Tryz.prog 22 #[.agg #[.int .i64 l.per, .slice l.A l.ms.length l.cap]] W _ from pcheck_is l W HL.out r h)
  show Calls _ _ #[.agg #[.int .i64 l.per, .slice l.A l.ms.length l.cap]] w _
  by_cases h0 : E = 0
  case neg =>
    have hb : (E != 0) = true := by simpa using h0
    have HF := Lib.hid (show tidyL l.li = (⟨0, []⟩, E) by unfold tidyL; rw [HE.out, if_pos h0])
    clear hE h0
    go_enter Tryz.func8, Tryz.ntmps8
    go_wp2_with fail
    rw [← hW]
    refine (HCK.out E HE.out).mono ?_; rintro e w1 ⟨rfl, hb1⟩
    have k2 := blk_keep hb1 C2.out
    have r0 := cell_of_blk k2 0
    have r1 := cell_of_blk k2 1
    have f0 := free_of_blk k2 0
    have f1 := free_of_blk k2 1
    simp at r0 r1
    have B1 := Lib.hid (HB.out.trans (hb1.mono HB.out.size))
    clear hb1 k2
    go_wp2_with fail
    rw [HF.out]
    refine bodyPost_ret (v := .tuple #[.agg #[.int .i64 0, .slice none 0 0], .int .i64 E]) (by simp [results, Tryz.results8, go_sem, r0, r1]) rfl ⟨⟨0, [], none, 0⟩, rfl, lm_none _, rfl, ?_⟩
    exact (B1.out.setCell (by dsimp only; omega) _).setCell (by dsimp only; omega) _
  subst h0
  clear hE
  have HOKV := Lib.hid (check_okV l.li HE.out)
  have HF := Lib.hid (show tidyL l.li = (⟨l.per, l.signs.map (sgWith tidyV)⟩, 0) by unfold tidyL; rw [HE.out, if_neg (by simp)]; rfl)
  have HNL := Lib.hid (show l.ms.length ≤ 200 by have := HOKV.out.1; rw [show l.li.signs = l.signs from rfl, Lm.length_signs] at this; exact this)
  go_enter Tryz.func8, Tryz.ntmps8
  go_wp2_with fail
  rw [← hW]
  refine (HCK.out 0 HE.out).mono ?_; rintro e w1 ⟨rfl, hb1⟩
  have B1 := Lib.hid hb1
  have K1 := Lib.hid (blk_keep hb1 C1.out)
  have K2 := Lib.hid (blk_keep hb1 C2.out)
  have x0 := cell_of_blk K1.out 0
  have x1 := cell_of_blk K1.out 1
  simp at x0 x1
  have HW1 := Lib.hid (HB.out.trans (hb1.mono HB.out.size))
  clear hb1
  go_wp2_with fail
  refine (cloneG_any l.A l.cap l.ms w1 (HL0.out.signs.below HW1.out) (by have := HNL.out; omega)).mono ?_; rintro e w2 ⟨A1, c1, rfl, own1, hb2⟩
  have OWN := Lib.hid (OwnSigns.cloned own1 (signs_oks HL0.out.signs) (HW1.out.trans (hb2.mono HW1.out.size)) HW1.out.size)
  have AP0 := Lib.hid (show ∀ m ∈ l.ms, ApartG (w.heap.size + 1) m.A m.s.vals from fun m hm => apart_old (signs_oks HL0.out.signs m hm) (by omega))
  have B2 := Lib.hid hb2
  clear own1 hb2 x0 x1
  have hnl := HNL.out
  obtain ⟨n, hn⟩ : ∃ n, n = l.ms.length := ⟨_, rfl⟩
  have HN := Lib.hid hn
  rw [← hn] at hlen hnl ⊢
  clear hn
  go_wp2_with fail
  go_loopw [6, 18] (fun _ i wr => ∃ k : Nat, k ≤ n ∧ i = .int .i64 k ∧ Hid (∃ cs, cs.length = n ∧ Below w1.heap.size w1 wr ∧ OwnSigns wr w1.heap.size A1 c1 cs ∧ cs.map (·.s) = firstW tidyV k l.signs ∧ ∀ m ∈ cs, ApartG (w.heap.size + 1) m.A m.s.vals)) (fun _ i _ => n - (intOf i).toNat)
  case atStart => exact ⟨0, Nat.zero_le _, rfl, Lib.hid ⟨l.ms, HN.out.symm, B2.out, OWN.out, (firstW_zero _ _).symm, AP0.out⟩⟩
  case round =>
    obtain ⟨k, hk, rfl, hrl⟩ := hrel
    obtain ⟨cs, hcl, hb3, ho3, hm3, ha3⟩ := hrl.out
    have hw1s := hb3.size
    have hws := HW1.out.size
    have hW1 := HS.out
    have hW2 := B1.out.size
    by_cases hlt : k < n
    · have hget : cs[k]? = some (cs[k]'(by omega)) := List.getElem?_eq_getElem _
      obtain ⟨u, hu⟩ : ∃ u, u = cs[k]'(by omega) := ⟨_, rfl⟩
      rw [← hu] at hget
      have hus : l.signs[k]? = some u.s := by
        have h1 : (cs.map (·.s))[k]? = some u.s := by rw [List.getElem?_map, hget]; rfl
        rw [hm3] at h1
        have hkl : k < l.signs.length := by rw [Lm.length_signs, ← HN.out]; exact hlt
        have h2 := firstW_at tidyV k l.signs _ (List.getElem?_eq_getElem hkl)
        rw [h2] at h1
        rw [List.getElem?_eq_getElem hkl]
        exact h1
      have HUV := Lib.hid (HOKV.out.2.2.2 u.s (List.mem_of_getElem? hus))
      obtain ⟨A', c', e', hc1, hc1m, hA1, hA1n⟩ := own_slice ho3.own
      injection e' with e1 e2 e3
      subst e1 e3
      cases hA : A1 with
      | none => have := hA1n hA; omega
      | some ad =>
      obtain ⟨g, rfl, hg0, hg1, hcell⟩ := hA1 ad hA
      subst hA
      have hsm := sm_cells_at hcell hget
      have x4 := hsm.c4
      rw [Nat.zero_add] at x4
      have HUO := Lib.hid (ho3.ok u (List.mem_of_getElem? hget))
      have HGET := Lib.hid hget
      have HUS := Lib.hid hus
      have HCS := Lib.hid (And.intro hcl (And.intro hb3 (And.intro ho3 (And.intro hm3 ha3))))
      clear hu hget hus hsm hcell hA1 hA1n hcl hb3 ho3 hm3 ha3 hrl
      go_wp2_with fail
      refine (tidy_any u.A u.cap u.s.vals wr HUO.out.vals (by have := HUV.out.1; omega) HUV.out.2).mono ?_; rintro e w3 ⟨A2, c2, rfl, hv2, hl2, hc2, hb4, hfr⟩
      have X4 := Lib.hid ((hb4.cell (p := ⟨g, k * 5 + 4, none⟩) hg1).trans x4)
      have OW4 := Lib.hid (HCS.out.2.2.1.below hb4)
      have z4 := OW4.out.own.frozenAt (k * 5 + 4)
      have y4 := X4.out
      have hg3 : g < w3.heap.size := Nat.lt_of_lt_of_le hg1 hb4.size
      have B4 := Lib.hid (HCS.out.2.1.trans (hb4.mono HCS.out.2.1.size))
      have ST := Lib.hid (OW4.out.set HGET.out hv2 hl2 hc2 (fun _ b o e e2 => by have := hfr b o e; omega))
      have AP := Lib.hid (show ∀ m ∈ cs.set k (u.with (tidiedR [u.s.vals]) A2 c2), ApartG (w.heap.size + 1) m.A m.s.vals from fun m hm => by
        rcases List.mem_or_eq_of_mem_set hm with hm | rfl
        · exact HCS.out.2.2.2.2 m hm
        · exact fun _ b o e e2 => by have := hfr b o e; omega)
      clear hv2 hl2 hc2 hb4 hfr x4
      go_wp2_with fail
      go_roundw
      case rel => exact ⟨k + 1, by omega, by go_num, Lib.hid ⟨_, by rw [List.length_set]; exact HCS.out.1, B4.out.setCell (p := ⟨g, _, none⟩) hg0 _, ST.out, set_map HCS.out.2.2.2.1 HGET.out HUS.out _ rfl _ _, AP.out⟩⟩
      case measure => simp [intOf]; omega
    · obtain rfl : k = n := by omega
      have k1 := blk_keep hb3 K1.out
      have k2 := blk_keep hb3 K2.out
      have p0 := cell_of_blk k1 0
      have r0 := cell_of_blk k2 0
      have r1 := cell_of_blk k2 1
      have f0 := free_of_blk k2 0
      have f1 := free_of_blk k2 1
      simp at p0 r0 r1
      have hne : (Value.slice A1 cs.length c1).ownBlock ≠ some (w.heap.size + 1) := fun e => by have := (ho3.own.lt _ e).1; omega
      have HO := Lib.hid ((ho3.other hne ha3 0 (.int .i64 l.per)).other hne ha3 1 (.slice A1 k c1))
      have HM := Lib.hid (show cs.map (·.s) = l.signs.map (sgWith tidyV) by rw [hm3, HN.out, ← Lm.length_signs, firstW_all])
      have HCL := Lib.hid hcl
      have HB3 := Lib.hid (HW1.out.trans (hb3.mono HW1.out.size))
      clear hcl hb3 ho3 hm3 ha3 hrl k1 k2 hne
      go_wp2_with fail
      rw [HF.out]
      refine bodyPost_ret (v := .tuple #[.agg #[.int .i64 l.per, .slice A1 k c1], .int .i64 0]) (by simp [results, Tryz.results8, go_sem, r0, r1]) rfl ⟨⟨l.per, cs, A1, c1⟩, ?_, HO.out.lm _, ?_, ?_⟩
      · unfold Lm.val; dsimp only; rw [HCL.out]
      · unfold Lm.li Lm.signs; dsimp only; rw [HM.out]; rfl
      · exact (HB3.out.setCell (by dsimp only; omega) _).setCell (by dsimp only; omega) _

end Go.Proofs.YtleihhkacmgofaaGreatDoor

/- Signs in a row of the call's own: one more; a value of one of them written. -/
namespace Go.Proofs.YtleihhkacmgofaaGreatDoor
open Go.RowKit

theorem valsAt_blocks {w w' : World} {A : Option Addr} {vs : List Va} (h : ValsAt w A vs) (hs : w.heap.size ≤ w'.heap.size) (hb : 0 < vs.length → ∀ b o, A = some ⟨b, o, none⟩ → b < w.heap.size → w'.heap[b]? = w.heap[b]?) : ValsAt w' A vs := fun k v hk => by
  obtain ⟨b, o, e, hlt, hv⟩ := h k v hk
  have hc : ∀ p, w'.cell? ⟨b, p, none⟩ = w.cell? ⟨b, p, none⟩ := fun p => World.cell?_of_block (a := ⟨b, p, none⟩) (hb (by have := (List.getElem?_eq_some_iff.1 hk).1; omega) b o e hlt)
  exact ⟨b, o, e, by omega, ⟨(hc _).trans hv.c0, (hc _).trans hv.c1, (hc _).trans hv.c2, (hc _).trans hv.c3, hv.sz⟩⟩
theorem smOk_blocks {w w' : World} {m : Sm} (h : SmOk w m) (hs : w.heap.size ≤ w'.heap.size) (hb : 0 < m.s.vals.length → ∀ b o, m.A = some ⟨b, o, none⟩ → b < w.heap.size → w'.heap[b]? = w.heap[b]?) : SmOk w' m := ⟨valsAt_blocks h.vals hs hb, h.len, h.cap, h.code⟩
theorem vals_lt {w : World} {A : Option Addr} {vs : List Va} (h : ValsAt w A vs) (h0 : 0 < vs.length) : ∀ b o, A = some ⟨b, o, none⟩ → b < w.heap.size := fun b o e => by
  obtain ⟨b', o', e', hlt, _⟩ := h 0 vs[0] (List.getElem?_eq_getElem h0)
  rw [e] at e'
  injection e' with e'; injection e' with e1 _
  omega

/-- one sign more in the row -/
theorem OwnSigns.append {w w3 : World} {base : Nat} {A A3 : Option Addr} {c c3 : Nat} {cs : List Sm} {m : Sm} {blk : Obj} (h : OwnSigns w base A c cs) (hm : SmOk w m) (ha : 0 < m.s.vals.length → ∀ b o, m.A = some ⟨b, o, none⟩ → (Value.slice A cs.length c).ownBlock ≠ some b)
    (hown : w3.ownsRow base 39 5 (.slice A3 (cs.length + 1) c3) (cs.length + 1) (cs.flatMap Sm.cells ++ m.cells))
    (hg : (w.alloc blk).grownBy w3 (Value.slice A cs.length c).ownBlock)
    (hat : (Value.slice A3 (cs.length + 1) c3).ownBlock = (Value.slice A cs.length c).ownBlock ∨ (Value.slice A3 (cs.length + 1) c3).ownBlock = some (w.alloc blk).heap.size) :
    OwnSigns w3 base A3 c3 (cs ++ [m]) := by
  have hs : w.heap.size + 1 ≤ w3.heap.size := by have := hg.size; simpa using this
  have hkeep : ∀ b, b < w.heap.size → (Value.slice A cs.length c).ownBlock ≠ some b → w3.heap[b]? = w.heap[b]? := fun b hb hne => by
    rw [hg.block b (by simp; omega) (fun e => hne e.symm), heap_alloc_other _ _ _ hb]
  have hall : ∀ x ∈ cs ++ [m], SmOk w x ∧ (0 < x.s.vals.length → ∀ b o, x.A = some ⟨b, o, none⟩ → (Value.slice A cs.length c).ownBlock ≠ some b) := fun x hx => by
    rcases List.mem_append.1 hx with hx | hx
    · exact ⟨h.ok x hx, h.apart x hx⟩
    · simp at hx; subst hx; exact ⟨hm, ha⟩
  have hl : (cs ++ [m]).length = cs.length + 1 := by simp
  refine ⟨?_, fun x hx => ?_, fun x hx h0 b o e => ?_⟩
  · rw [hl, List.flatMap_append]
    simpa using hown
  · exact smOk_blocks (hall x hx).1 (by omega) (fun h0 b o e hb => hkeep b hb ((hall x hx).2 h0 b o e))
  · rw [hl]
    rcases hat with ha2 | ha2
    · rw [ha2]; exact (hall x hx).2 h0 b o e
    · rw [ha2]
      intro e2
      injection e2 with e2
      have := vals_lt (hall x hx).1.vals h0 b o e
      simp at e2
      omega

theorem flatV_fr {V : List Va} {j : Nat} {v : Va} (h : V[j]? = some v) (n : Int) : (V.flatMap Va.cells).set (j * 4 + 2) (.int .i64 n) = (V.set j ⟨v.kind, v.text, n, v.to⟩).flatMap Va.cells := by
  induction V generalizing j with
  | nil => simp at h
  | cons x r ih =>
    cases j with
    | zero => simp at h; subst h; simp [Va.cells]
    | succ j =>
      have := ih (j := j) (by simpa using h)
      rw [List.set_cons_succ, List.flatMap_cons, List.flatMap_cons, ← this, List.set_append_right _ _ (by simp [Va.cells]; omega)]
      congr 1
      congr 1
      simp [Va.cells]
      omega
theorem flatV_to {V : List Va} {j : Nat} {v : Va} (h : V[j]? = some v) (n : Int) : (V.flatMap Va.cells).set (j * 4 + 3) (.int .i64 n) = (V.set j ⟨v.kind, v.text, v.fr, n⟩).flatMap Va.cells := by
  induction V generalizing j with
  | nil => simp at h
  | cons x r ih =>
    cases j with
    | zero => simp at h; subst h; simp [Va.cells]
    | succ j =>
      have := ih (j := j) (by simpa using h)
      rw [List.set_cons_succ, List.flatMap_cons, List.flatMap_cons, ← this, List.set_append_right _ _ (by simp [Va.cells]; omega)]
      congr 1
      congr 1
      simp [Va.cells]
      omega

/-- values in a row of the call's own -/
structure OwnVals (w : World) (base : Nat) (A : Option Addr) (c : Nat) (V : List Va) : Prop where
  own : w.ownsRow base 42 4 (.slice A V.length c) V.length (V.flatMap Va.cells)
  sz : ∀ v ∈ V, v.text.size ≤ maxLen
theorem OwnVals.vals {w : World} {base : Nat} {A : Option Addr} {c : Nat} {V : List Va} (h : OwnVals w base A c V) : ValsAt w A V ∧ V.length ≤ c ∧ c ≤ maxLen ∧ ∀ b o, A = some ⟨b, o, none⟩ → base ≤ b := own_vals h.own h.sz
theorem OwnVals.below {w w' : World} {base : Nat} {A : Option Addr} {c : Nat} {V : List Va} (h : OwnVals w base A c V) (hb : Below w.heap.size w w') : OwnVals w' base A c V :=
  ⟨ownsRow_of_block h.own (fun g hg => hb.block g (h.own.lt g hg).2), h.sz⟩
theorem OwnVals.fr {w : World} {base g c : Nat} {V : List Va} (h : OwnVals w base (some ⟨g, 0, none⟩) c V) {j : Nat} {v : Va} (hj : V[j]? = some v) (n : Int) : OwnVals (w.setCell ⟨g, j * 4 + 2, none⟩ (.int .i64 n)) base (some ⟨g, 0, none⟩) c (V.set j ⟨v.kind, v.text, n, v.to⟩) := by
  refine ⟨?_, fun x hx => ?_⟩
  · rw [List.length_set, ← flatV_fr hj]; exact (h.own.stored _ _).1
  · rcases List.mem_or_eq_of_mem_set hx with hx | rfl
    · exact h.sz x hx
    · exact h.sz v (List.mem_of_getElem? hj)
theorem OwnVals.to {w : World} {base g c : Nat} {V : List Va} (h : OwnVals w base (some ⟨g, 0, none⟩) c V) {j : Nat} {v : Va} (hj : V[j]? = some v) (n : Int) : OwnVals (w.setCell ⟨g, j * 4 + 3, none⟩ (.int .i64 n)) base (some ⟨g, 0, none⟩) c (V.set j ⟨v.kind, v.text, v.fr, n⟩) := by
  refine ⟨?_, fun x hx => ?_⟩
  · rw [List.length_set, ← flatV_to hj]; exact (h.own.stored _ _).1
  · rcases List.mem_or_eq_of_mem_set hx with hx | rfl
    · exact h.sz x hx
    · exact h.sz v (List.mem_of_getElem? hj)
/-- the signs of a row while values of one of them are written: the others as they were, this one with the values that lie there now -/
theorem OwnSigns.vals_turned {w w' : World} {base g2 : Nat} {A A2 : Option Addr} {c c2 : Nat} {cs : List Sm} {u : Sm} {k : Nat} {V V' : List Va} (h : OwnSigns w base A c (cs.set k (u.with V A2 c2))) (hk : k < cs.length)
    (hap : ∀ m ∈ cs, ApartG g2 m.A m.s.vals) (hne : (Value.slice A cs.length c).ownBlock ≠ some g2) (hs : w.heap.size ≤ w'.heap.size) (hb : ∀ b, b < w.heap.size → b ≠ g2 → w'.heap[b]? = w.heap[b]?)
    (hl : V'.length = V.length) (hv : ValsAt w' A2 V') (hA : 0 < V'.length → ∀ b o, A2 = some ⟨b, o, none⟩ → b = g2) : OwnSigns w' base A c (cs.set k (u.with V' A2 c2)) := by
  have hlen : ∀ (x : Sm), (cs.set k x).length = cs.length := fun x => by simp
  have hcell : (cs.set k (u.with V' A2 c2)).flatMap Sm.cells = (cs.set k (u.with V A2 c2)).flatMap Sm.cells := by
    have h1 := flat_set (ms := cs) (k := k) (m := cs[k]) (List.getElem?_eq_getElem hk) V A2 c2
    have e : ∀ X : List Va, X.length = V.length → (cs.set k (u.with X A2 c2)).flatMap Sm.cells = (cs.set k (u.with V A2 c2)).flatMap Sm.cells := by
      intro X hX
      rw [List.flatMap_def, List.flatMap_def, List.map_set, List.map_set]
      congr 2
      simp [Sm.cells, Sm.with, hX]
    exact e V' hl
  have hu := h.ok (u.with V A2 c2) (List.mem_of_getElem? (by rw [List.getElem?_set_self (by simpa using hk)]))
  have hoth : ∀ x ∈ cs.set k (u.with V' A2 c2), x = u.with V' A2 c2 ∨ (x ∈ cs ∧ x ∈ cs.set k (u.with V A2 c2)) := fun x hx => by
    obtain ⟨i, hi⟩ := List.getElem?_of_mem hx
    by_cases hik : i = k
    · subst hik
      rw [List.getElem?_set_self (by simpa using hk)] at hi
      injection hi with hi; exact .inl hi.symm
    · rw [List.getElem?_set_ne (fun e => hik e.symm)] at hi
      refine .inr ⟨List.mem_of_getElem? hi, List.mem_of_getElem? (i := i) ?_⟩
      rw [List.getElem?_set_ne (fun e => hik e.symm)]; exact hi
  refine ⟨?_, fun x hx => ?_, fun x hx h0 b o e => ?_⟩
  · rw [hcell]
    have h1 := h.own
    rw [hlen] at h1 ⊢
    exact ownsRow_of_block h1 (fun g hg => hb g (h1.lt g hg).2 (fun e => hne (by rw [← e]; exact hg)))
  · rcases hoth x hx with rfl | ⟨h1, h2⟩
    · exact ⟨hv, by have := hu.len; unfold Sm.with at this ⊢; dsimp only at this ⊢; omega, hu.cap, hu.code⟩
    · exact smOk_blocks (h.ok x h2) hs (fun h0 b o e hlt => hb b hlt (fun e2 => hap x h1 h0 b o e e2.symm))
  · rw [hlen]
    rcases hoth x hx with rfl | ⟨h1, h2⟩
    · have := hA h0 b o e; rw [this]; exact hne
    · have := h.apart x h2 h0 b o e; rw [hlen] at this; exact this

end Go.Proofs.YtleihhkacmgofaaGreatDoor
