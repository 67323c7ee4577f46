/-
  Contract of tidy, in the program: values sorted and merged.
-/
import Derived.Test.YtleihhkacmgofaaGreatDoorSrt
import Derived.StillTailTactics

namespace Go.Proofs.YtleihhkacmgofaaGreatDoor
open Go.RowKit

/-- what the values of a valid list keep -/
def okV (v : Va) : Prop := 1 ≤ v.fr ∧ v.fr ≤ v.to ∧ v.to ≤ 9 ∧ v.text.size ≤ maxLen
theorem mergeStep_ok (out : List Va) (v : Va) (h : ∀ x ∈ out, okV x) (hv : okV v) : ∀ x ∈ mergeStep out v, okV x := by
  intro x hx
  rcases snoc_cases out with rfl | ⟨i, l, rfl⟩
  · rw [mergeStep_nil] at hx; simp at hx; subst hx; exact hv
  · have hl := h l (by simp)
    by_cases hj : (meq l v && decide (v.fr ≤ l.to + 1)) = true
    · rw [mergeStep_join _ _ _ hj] at hx
      rcases List.mem_append.1 hx with hx | hx
      · exact h x (by simp [hx])
      · simp at hx; subst hx
        obtain ⟨a1, a2, a3, a4⟩ := hl
        obtain ⟨b1, b2, b3, b4⟩ := hv
        exact ⟨a1, by dsimp only; omega, by dsimp only; omega, a4⟩
    · rw [mergeStep_add _ _ _ (by simpa using hj)] at hx
      rcases List.mem_append.1 hx with hx | hx
      · exact h x hx
      · simp at hx; subst hx; exact hv
theorem mergeR_ok (l : List Va) (h : ∀ x ∈ l, okV x) : ∀ x ∈ mergeR l, okV x := by
  suffices H : ∀ (l out : List Va), (∀ x ∈ l, okV x) → (∀ x ∈ out, okV x) → ∀ x ∈ l.foldl mergeStep out, okV x from H l [] h (fun x h => by cases h)
  intro l
  induction l with
  | nil => intro out _ h; exact h
  | cons v l ih => intro out h1 h2; exact ih _ (fun x hx => h1 x (by simp [hx])) (mergeStep_ok out v h2 (h1 v (by simp)))
theorem mergeR_snoc (l : List Va) (v : Va) : mergeR (l ++ [v]) = mergeStep (mergeR l) v := by unfold mergeR; rw [List.foldl_append]; rfl
theorem mergeStep_len (out : List Va) (v : Va) : (mergeStep out v).length ≤ out.length + 1 := by
  rcases snoc_cases out with rfl | ⟨i, l, rfl⟩
  · rw [mergeStep_nil]; simp
  · by_cases hj : (meq l v && decide (v.fr ≤ l.to + 1)) = true
    · rw [mergeStep_join _ _ _ hj]; simp
    · rw [mergeStep_add _ _ _ (by simpa using hj)]; simp
theorem take_step {α : Type} (l : List α) (k : Nat) (x : α) (h : l[k]? = some x) : l.take (k + 1) = l.take k ++ [x] := by
  obtain ⟨hk, e⟩ := List.getElem?_eq_some_iff.1 h
  rw [List.take_succ_eq_append_getElem hk, e]
/-- the last value's end, written -/
theorem set_to (i : List Va) (l : Va) (n : Int) : ((i ++ [l]).flatMap Va.cells).set (i.length * 4 + 3) (.int .i64 n) = (i ++ [(Va.mk l.kind l.text l.fr (n))]).flatMap Va.cells := by
  rw [List.flatMap_append, List.flatMap_append, ← flat_len (f := Va.cells) (c := 4) (fun _ => rfl) i, List.set_append_right _ _ (by omega)]
  congr 1
  simp [Va.cells]

theorem frz_own {w : World} {base : Nat} {e : TypeId} {size : Nat} {g c n : Nat} {xs : List Value} (h : w.ownsRow base e size (.slice (some ⟨g, 0, none⟩) n c) n xs) (j : Nat) : w.frozen? ⟨g, j, none⟩ = false := h.frozenAt j

set_option maxHeartbeats 3200000 in
set_option maxRecDepth 100000 in
theorem tidy_any (A : Option Addr) (cap : Nat) (vs : List Va) (w : World) (hvs : ValsAt w A vs) (hsm : vs.length ≤ 1000000) (hok : ∀ v ∈ vs, okV v) :
    Calls Tryz.prog 24 #[.slice A vs.length cap] w (GotValsF w (tidiedR [vs])) := by
  obtain ⟨iv, hiv, hzv, hsv, hbv⟩ := info_hid infoVa
  have HC := Lib.hid (cloneV_any A cap vs w hvs hsm)
  have HS := Lib.hid (fun A c w1 h hb => sortV_any A c vs w.heap.size w1 h hb hsm (fun v hv => (hok v hv).2.2.2))
  have HOK := Lib.hid hok
  have HSM := Lib.hid hsm
  clear hok hsm hvs
  obtain ⟨n, hn⟩ : ∃ n, n = vs.length := ⟨_, rfl⟩
  have HN := Lib.hid hn
  rw [← hn] at HC HS HSM ⊢
  clear hn
  go_enter Tryz.func24, Tryz.ntmps24
  go_wp2_with fail
  refine HC.out.mono ?_; rintro e w1 ⟨A1, c1, rfl, own1, hb1⟩
  have OWN1 := Lib.hid own1
  have B1 := Lib.hid hb1
  clear own1 hb1
  go_wp2_with fail
  refine (HS.out A1 c1 w1 OWN1.out B1.out.size).mono ?_; rintro e w2 ⟨rfl, vs2, hperm, hsort, hv2, hb2⟩
  have B2 := Lib.hid (B1.out.trans hb2)
  have HP := Lib.hid hperm
  have HST := Lib.hid hsort
  have V2 := Lib.hid hv2
  have HN2 := Lib.hid (HN.out.trans hperm.length_eq.symm)
  have HOK2 := Lib.hid (fun v (hv : v ∈ vs2) => HOK.out v (hperm.mem_iff.1 hv))
  clear hperm hsort hv2 hb2
  have hsm := HSM.out
  go_wp2_with fail
  go_loopw [4, 14] (fun v i wr => ∃ j c : Nat, j ≤ n ∧ c ≤ j ∧ i = .int .i64 j ∧ Hid (Below w2.heap.size w2 wr) ∧ Hid (c = (mergeR (vs2.take j)).length) ∧ Hid (wr.ownsRow w2.heap.size 42 4 v c ((mergeR (vs2.take j)).flatMap Va.cells))) (fun _ i _ => n - (intOf i).toNat)
  case atStart => exact ⟨0, 0, Nat.zero_le _, Nat.le_refl _, rfl, Lib.hid (Below.refl _ _), Lib.hid (by simp [mergeR]), Lib.hid (by simpa [mergeR] using World.ownsRow_nil _ _ _ _)⟩
  case round =>
    obtain ⟨j, c, hj, hcj, rfl, hb, hlc, hown⟩ := hrel
    by_cases hlt : j < n
    · have hget : vs2[j]? = some (vs2[j]'(by have := HN2.out; omega)) := List.getElem?_eq_getElem _
      obtain ⟨u, hu⟩ : ∃ u, u = vs2[j]'(by have := HN2.out; omega) := ⟨_, rfl⟩
      rw [← hu] at hget
      obtain ⟨b, o, hA, hb1, hva⟩ := V2.out j u hget
      subst hA
      obtain ⟨y0, y1, y2, y3, ysz⟩ := hva.below hb.out hb1
      have HSN := Lib.hid (show mergeR (vs2.take (j + 1)) = mergeStep (mergeR (vs2.take j)) u by rw [take_step _ _ _ hget, mergeR_snoc])
      have hsb : b < wr.heap.size := by have := hb.out.size; omega
      have HUO := Lib.hid (HOK2.out u (List.mem_of_getElem? hget))
      have HMO := Lib.hid (mergeR_ok (vs2.take j) (fun x hx => HOK2.out x (List.mem_of_mem_take hx)))
      obtain ⟨O, hO⟩ : ∃ O, O = mergeR (vs2.take j) := ⟨_, rfl⟩
      rw [← hO] at HSN HMO hlc hown
      clear hu hget hva hb1 hO
      obtain ⟨A2, c2, hv, hc2, hc2m, hcell, hnone⟩ := own_slice hown.out
      subst hv
      have HCL := Lib.hid hcell
      have HNO := Lib.hid hnone
      clear hcell hnone
      cases c with
      | zero =>
        have HADD := Lib.hid (show mergeR (vs2.take (j + 1)) = O ++ [u] by rw [HSN.out, show O = [] from List.eq_nil_of_length_eq_zero hlc.out.symm]; rfl)
        go_wp2_with fail
        refine wp_region_later (by kernel_rfl) (by kernel_rfl) ?_; (repeat (first | go_big_quiet_step (fail) | quiet_step (fail))); refine wpQuiet_nil ?_; rintro _ ⟨s, rfl⟩
        have BS := Lib.hid (hb.out.trans ((below1 s).mono hb.out.size))
        have OWS := Lib.hid (ownsRow_of_block (w' := s.w) hown.out (fun g hg => (below1 s).block g (hown.out.lt g hg).2))
        go_wp2_with (first
          | (at_builtin; refine wpList_append_src _ rfl (.tmp 56) (.tmp 58) 36 rfl w2.heap.size 42 iv (.agg #[.int .i64 0, .string ⟨#[]⟩, .int .i64 0, .int .i64 0]) 4 40 Tryz.underlying36 hiv.out hzv.out hsv.out hbv.out rfl (by decide) (.slice A2 0 c2) 0 (O.flatMap Va.cells) rfl ?own2 (some ⟨s.w.heap.size, 0, none⟩) 1 1 u.cells rfl ?l2 ?n2 ?c2 ?o2 ?m2 ?b2 ?s2 (0 + 1) rfl ?_))
        case own2 => exact OWS.out.alloc _
        case l2 => rfl
        case n2 => intro h; cases h
        case o2 => exact fun x hx => va_one (vs := [u]) x (by simpa using hx)
        case c2 =>
          intro ad had i u' hj
          injection had with had
          subst had
          have := new_cells s.w u.cells 42 i u' hj
          simpa [Va.cells] using this
        case m2 => unfold maxLen; omega
        case b2 => omega
        case s2 => have := BS.out.size; simp; omega
        · intro A3 c3 w3 own3 hg3 _
          have b4 := Lib.hid ((BS.out.alloc BS.out.size (.cells #[.int .i64 u.kind, .string u.text, .int .i64 u.fr, .int .i64 u.to] 42)).grown hg3 (by have := BS.out.size; simp; omega) (fun g hg => (OWS.out.lt g hg).1))
          have own3 := Lib.hid own3
          clear hg3
          go_wp2
          go_roundw
          case rel => exact ⟨j + 1, 0 + 1, by omega, by omega, by go_num, b4, Lib.hid (by rw [HADD.out, List.length_append, ← hlc.out]; rfl), Lib.hid (by rw [HADD.out, List.flatMap_append]; simpa using own3.out)⟩
          case measure => simp [intOf]; omega
      | succ c =>
        obtain ⟨i, l, hOi⟩ : ∃ i l, O = i ++ [l] := (snoc_cases O).resolve_left (fun e => by have := hlc.out; rw [e] at this; simp at this)
        have HIL := Lib.hid (show i.length = c by have := hlc.out; rw [hOi] at this; simp at this; omega)
        have HOI := Lib.hid hOi
        cases hA2 : A2 with
        | none => have := HNO.out hA2; omega
        | some ad =>
        obtain ⟨g, rfl, hg0, hg1, hgc⟩ := HCL.out ad hA2
        subst hA2
        have HLC := Lib.hid (show ∀ t, t < 4 → wr.cell? ⟨g, c * 4 + t, none⟩ = (Va.cells l)[t]? from fun t ht => by
          have ht' : t < (Va.cells l).length := ht
          rw [hgc (c * 4 + t) ((Va.cells l)[t]) (by
            rw [flat_at (c := 4) (fun _ => rfl) _ c l (by rw [HOI.out, List.getElem?_append_right (by have := HIL.out; omega), HIL.out]; simp) t ht]; exact List.getElem?_eq_getElem ht'), List.getElem?_eq_getElem ht'])
        have x0 : wr.cell? ⟨g, c * 4, none⟩ = some (.int .i64 l.kind) := HLC.out 0 (by omega)
        have x1 : wr.cell? ⟨g, c * 4 + 1, none⟩ = some (.string l.text) := HLC.out 1 (by omega)
        have x2 : wr.cell? ⟨g, c * 4 + 2, none⟩ = some (.int .i64 l.fr) := HLC.out 2 (by omega)
        have x3 : wr.cell? ⟨g, c * 4 + 3, none⟩ = some (.int .i64 l.to) := HLC.out 3 (by omega)
        have HLO := Lib.hid (HMO.out l (by rw [HOI.out]; simp))
        have hw9 : IntKind.i64.wrap (l.to + 1) = l.to + 1 := IntWalk.i64_in _ (by have := HLO.out.1; have := HLO.out.2.1; have := HLO.out.2.2.1; omega)
        clear hOi hgc
        have he := fun w => eqMeaning l.kind u.kind l.text u.text w
        by_cases hm : (l.kind == u.kind && strEq l.text u.text) = true
        case neg =>
          have hm : (l.kind == u.kind && strEq l.text u.text) = false := by simpa using hm
          have HADD := Lib.hid (show mergeR (vs2.take (j + 1)) = O ++ [u] by rw [HSN.out, HOI.out, mergeStep_add]; rw [show meq l u = false from hm]; rfl)
          rw [hm] at he
          clear hm
          go_wp2_with fail
          refine wp_region_later (by kernel_rfl) (by kernel_rfl) ?_; (repeat (first | go_big_quiet_step (((go_at_call 45; exact Calls.later _ (meaning_any _ _ _ _ _)))) | quiet_step (((go_at_call 45; exact Calls.later _ (meaning_any _ _ _ _ _)))))); refine wpQuiet_nil ?_; rintro _ ⟨s, rfl⟩
          have BS := Lib.hid (hb.out.trans ((below1 s).mono hb.out.size))
          have OWS := Lib.hid (ownsRow_of_block (w' := s.w) hown.out (fun g hg => (below1 s).block g (hown.out.lt g hg).2))
          go_wp2_with (first
            | (at_builtin; refine wpList_append_src _ rfl (.tmp 56) (.tmp 58) 36 rfl w2.heap.size 42 iv (.agg #[.int .i64 0, .string ⟨#[]⟩, .int .i64 0, .int .i64 0]) 4 40 Tryz.underlying36 hiv.out hzv.out hsv.out hbv.out rfl (by decide) (.slice (some ⟨g, 0, none⟩) (c + 1) c2) (c + 1) (O.flatMap Va.cells) rfl ?own2x (some ⟨s.w.heap.size, 0, none⟩) 1 1 u.cells rfl ?l2x ?n2x ?c2x ?o2x ?m2x ?b2x ?s2x (c + 1 + 1) rfl ?_))
          case own2x => exact OWS.out.alloc _
          case l2x => rfl
          case n2x => intro h; cases h
          case o2x => exact fun x hx => va_one (vs := [u]) x (by simpa using hx)
          case c2x =>
            intro ad had i u' hj
            injection had with had
            subst had
            have := new_cells s.w u.cells 42 i u' hj
            simpa [Va.cells] using this
          case m2x => unfold maxLen; omega
          case b2x => omega
          case s2x => have := BS.out.size; simp; omega
          · intro A3 c3 w3 own3 hg3 _
            have b4 := Lib.hid ((BS.out.alloc BS.out.size (.cells #[.int .i64 u.kind, .string u.text, .int .i64 u.fr, .int .i64 u.to] 42)).grown hg3 (by have := BS.out.size; simp; omega) (fun g hg => (OWS.out.lt g hg).1))
            have own3 := Lib.hid own3
            clear hg3
            go_wp2
            go_roundw
            case rel => exact ⟨j + 1, c + 1 + 1, by omega, by omega, by go_num, b4, Lib.hid (by rw [HADD.out, List.length_append, ← hlc.out]; rfl), Lib.hid (by rw [HADD.out, List.flatMap_append]; simpa using own3.out)⟩
            case measure => simp [intOf]; omega
        rw [hm] at he
        by_cases hf : u.fr ≤ l.to + 1
        case neg =>
          have HADD := Lib.hid (show mergeR (vs2.take (j + 1)) = O ++ [u] by rw [HSN.out, HOI.out, mergeStep_add]; rw [show meq l u = true from hm]; simpa using hf)
          have hf : decide (u.fr ≤ l.to + 1) = false := by simpa using hf
          clear hm
          go_wp2_with fail
          refine wp_region_later (by kernel_rfl) (by kernel_rfl) ?_; (repeat (first | go_big_quiet_step (((go_at_call 45; exact Calls.later _ (meaning_any _ _ _ _ _)))) | quiet_step (((go_at_call 45; exact Calls.later _ (meaning_any _ _ _ _ _)))))); refine wpQuiet_nil ?_; rintro _ ⟨s, rfl⟩
          have BS := Lib.hid (hb.out.trans ((below1 s).mono hb.out.size))
          have OWS := Lib.hid (ownsRow_of_block (w' := s.w) hown.out (fun g hg => (below1 s).block g (hown.out.lt g hg).2))
          go_wp2_with (first
            | (at_builtin; refine wpList_append_src _ rfl (.tmp 56) (.tmp 58) 36 rfl w2.heap.size 42 iv (.agg #[.int .i64 0, .string ⟨#[]⟩, .int .i64 0, .int .i64 0]) 4 40 Tryz.underlying36 hiv.out hzv.out hsv.out hbv.out rfl (by decide) (.slice (some ⟨g, 0, none⟩) (c + 1) c2) (c + 1) (O.flatMap Va.cells) rfl ?own2y (some ⟨s.w.heap.size, 0, none⟩) 1 1 u.cells rfl ?l2y ?n2y ?c2y ?o2y ?m2y ?b2y ?s2y (c + 1 + 1) rfl ?_))
          case own2y => exact OWS.out.alloc _
          case l2y => rfl
          case n2y => intro h; cases h
          case o2y => exact fun x hx => va_one (vs := [u]) x (by simpa using hx)
          case c2y =>
            intro ad had i u' hj
            injection had with had
            subst had
            have := new_cells s.w u.cells 42 i u' hj
            simpa [Va.cells] using this
          case m2y => unfold maxLen; omega
          case b2y => omega
          case s2y => have := BS.out.size; simp; omega
          · intro A3 c3 w3 own3 hg3 _
            have b4 := Lib.hid ((BS.out.alloc BS.out.size (.cells #[.int .i64 u.kind, .string u.text, .int .i64 u.fr, .int .i64 u.to] 42)).grown hg3 (by have := BS.out.size; simp; omega) (fun g hg => (OWS.out.lt g hg).1))
            have own3 := Lib.hid own3
            clear hg3
            go_wp2
            go_roundw
            case rel => exact ⟨j + 1, c + 1 + 1, by omega, by omega, by go_num, b4, Lib.hid (by rw [HADD.out, List.length_append, ← hlc.out]; rfl), Lib.hid (by rw [HADD.out, List.flatMap_append]; simpa using own3.out)⟩
            case measure => simp [intOf]; omega
        have HADD := Lib.hid (show mergeR (vs2.take (j + 1)) = i ++ [(Va.mk l.kind l.text l.fr (max l.to u.to))] by rw [HSN.out, HOI.out, mergeStep_join]; rw [show meq l u = true from hm]; simpa using hf)
        have hf : decide (u.fr ≤ l.to + 1) = true := by simpa using hf
        clear hm
        go_wp2_with fail
        refine wp_region_later (by kernel_rfl) (by kernel_rfl) ?_; (repeat (first | go_big_quiet_step (((go_at_call 45; exact Calls.later _ (meaning_any _ _ _ _ _)))) | quiet_step (((go_at_call 45; exact Calls.later _ (meaning_any _ _ _ _ _)))))); refine wpQuiet_nil ?_; rintro _ ⟨s, rfl⟩
        have BS := Lib.hid (hb.out.trans ((below1 s).mono hb.out.size))
        have OWS := Lib.hid (ownsRow_of_block (w' := s.w) hown.out (fun g hg => (below1 s).block g (hown.out.lt g hg).2))
        have z0 := frz_own OWS.out (c * 4 + 3)
        have p2 : (c : Int) < (c : Int) + 1 := by omega
        go_wp2_with fail
        refine wp_region_still_tail 12 (by kernel_rfl) (by kernel_rfl) ?_; simp only [List.take_succ_cons, List.take_zero, List.drop_succ_cons, List.drop_zero]; change wpStill _ _ (s.w).drew _ _ _; (repeat still_step); refine wpStill_nil ?_; change wpList _ _ _ _ _ (s.w).drew
        go_wp2_with fail
        go_roundw
        case rel =>
          refine ⟨j + 1, c + 1, by omega, by omega, by go_num, Lib.hid ?_, Lib.hid ?_, Lib.hid ?_⟩
          · exact (BS.out.setCell (p := ⟨g, c * 4 + 3, none⟩) hg0 _).drew
          · rw [HADD.out]; simp; exact HIL.out.symm
          · have h1 := (OWS.out.stored (c * 4 + 3) (.int .i64 (max l.to u.to))).1
            rw [HOI.out, ← HIL.out, set_to, ← HADD.out, HIL.out] at h1
            first | exact h1.drew | (rw [show (if l.to < u.to then u.to else l.to) = max l.to u.to by split <;> omega]; exact h1.drew)
        case measure => simp [intOf]; omega
    · obtain rfl : j = n := by omega
      obtain ⟨A2, c2, hv, h1, h2, h3, h4⟩ := own_slice hown.out
      subst hv
      have HT := Lib.hid (show mergeR (vs2.take j) = tidiedR [vs] by
        rw [HN2.out, List.take_length]
        exact tidied_eq [vs] vs2 (fun v => by rw [HP.out.mem_iff]; simp) HST.out (fun v hv => (HOK.out v (by simpa using hv)).2.1))
      have HC2 := Lib.hid (show c = (tidiedR [vs]).length by have := hlc.out; rw [HT.out] at this; exact this)
      have HX := Lib.hid (show GotValsF w (tidiedR [vs]) (.returned (.slice A2 c c2)) wr by
        have h5 := hown.out
        rw [HT.out, HC2.out] at h5
        obtain ⟨k1, k2, k3, k4⟩ := own_vals h5 (fun v hv => (mergeR_ok (vs2.take j) (fun x hx => HOK2.out x (List.mem_of_mem_take hx)) v (by rw [HT.out]; exact hv)).2.2.2)
        rw [HC2.out]
        exact ⟨A2, c2, rfl, k1, k2, k3, B2.out.trans (hb.out.mono B2.out.size), fun b o e => Nat.le_trans B2.out.size (k4 b o e)⟩)
      go_wp2
      go_ret
      exact HX.out

end Go.Proofs.YtleihhkacmgofaaGreatDoor
