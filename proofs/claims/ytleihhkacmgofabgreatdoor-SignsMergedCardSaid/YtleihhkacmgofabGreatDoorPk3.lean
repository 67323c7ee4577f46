/-
  Contracts of inUse, bears, bearers, hasSign, checkSignInPeriod. And what builds on it.
-/
import Derived.Test.YtleihhkacmgofabGreatDoorPk2
import Derived.Laws.StructEq
import Derived.Deep.RegionHeld3
import Derived.Deep.DeepCutAuto

/- Contracts of inUse, bears, bearers, hasSign, checkSignInPeriod. -/
namespace Go.Proofs.YtleihhkacmgofabGreatDoor
open Go.RowKit

def useB (v : Va) (p : Int) : Bool := decide (v.fr ≤ p) && decide (p ≤ v.to)
theorem inUse_any (v : Va) (p : Int) (w : World) : Calls Tryz.prog 68 #[v.val, .int .i64 p] w fun e w' => e = .returned (.bool (useB v p)) ∧ Below w.heap.size w w' := by
  obtain ⟨k, t, f, to⟩ := v
  unfold Va.val useB
  dsimp only
  by_cases h1 : f ≤ p
  · go_enter Tryz.func68, Tryz.ntmps68
    go_wp2
    go_ret
    exact ⟨of_bool (by simp [h1]), below_alloc _ _⟩
  · go_enter Tryz.func68, Tryz.ntmps68
    go_wp2
    go_ret
    exact ⟨of_bool (by simp; omega), below_alloc _ _⟩
theorem inUse_is (v : Va) (p : Int) (w : World) (r : Bool) (h : useB v p = r) : Calls Tryz.prog 68 #[v.val, .int .i64 p] w fun e w' => e = .returned (.bool r) ∧ Below w.heap.size w w' := by
  rw [← h]; exact inUse_any v p w

theorem blk_keep {W w' : World} (hb : Below W.heap.size W w') {g : Nat} {cs : Array Value} {t : TypeId} (h : W.heap[g]? = some (.cells cs t (0, 0))) : w'.heap[g]? = some (.cells cs t (0, 0)) :=
  (hb.block g (Array.getElem?_eq_some_iff.1 h).1).trans h

/-- a sign has a value in a period -/
def bearV (k : Int) (t : ByteArray) (p : Int) (v : Va) : Bool := (v.kind == k && strEq v.text t) && useB v p
def bearB (s : Sg) (k : Int) (t : ByteArray) (p : Int) : Bool := s.vals.any (bearV k t p)

set_option maxHeartbeats 1600000 in
theorem bears_any (m : Sm) (k : Int) (t : ByteArray) (p : Int) (w : World) (hm : SmOk w m) :
    Calls Tryz.prog 50 #[m.val, .agg #[.int .i64 k, .string t], .int .i64 p] w fun e w' => e = .returned (.bool (bearB m.s k t p)) ∧ Below w.heap.size w w' := by
  obtain ⟨⟨code, wide, high, even, vs⟩, A, cap⟩ := m
  obtain ⟨hvs, hl, hcap, hcode⟩ := hm
  dsimp only at hvs hl hcap hcode
  unfold Sm.val bearB
  dsimp only
  obtain ⟨n, hn⟩ : ∃ n, n = vs.length := ⟨_, rfl⟩
  rw [← hn] at hl ⊢
  have hcap' := hcap
  unfold maxLen at hcap'
  have HN := Lib.hid hn
  clear hn
  go_enter Tryz.func50, Tryz.ntmps50
  go_wp2
  have HB0 := Lib.hid (show ((w.alloc (.cells #[.string code, .int .i64 wide, .int .i64 high, .bool even, .slice A n cap] 38)).alloc (.cells #[.int .i64 k, .string t] 68)).heap[w.heap.size + 1]? = some (.cells #[.int .i64 k, .string t] 68 (0, 0)) by
    have := heap_alloc_new (w.alloc (.cells #[.string code, .int .i64 wide, .int .i64 high, .bool even, .slice A n cap] 38)) (.cells #[.int .i64 k, .string t] 68); simpa using this)
  have HWb := Lib.hid (show Below w.heap.size w ((w.alloc (.cells #[.string code, .int .i64 wide, .int .i64 high, .bool even, .slice A n cap] 38)).alloc (.cells #[.int .i64 k, .string t] 68)) from ((Below.refl _ _).alloc (Nat.le_refl _) _).alloc (by simp) _)
  have HWs := Lib.hid (show ((w.alloc (.cells #[.string code, .int .i64 wide, .int .i64 high, .bool even, .slice A n cap] 38)).alloc (.cells #[.int .i64 k, .string t] 68)).heap.size = w.heap.size + 1 + 1 by simp)
  generalize (w.alloc (.cells #[.string code, .int .i64 wide, .int .i64 high, .bool even, .slice A n cap] 38)).alloc (.cells #[.int .i64 k, .string t] 68) = W at HB0 HWb HWs ⊢
  go_loopw [12] (fun i wr => ∃ j : Nat, j ≤ n ∧ i = .int .i64 j ∧ Hid (Below W.heap.size W wr) ∧ Hid ((vs.take j).any (bearV k t p) = false)) (fun i _ => n - (intOf i).toNat)
  case atStart => exact ⟨0, Nat.zero_le _, rfl, Lib.hid (Below.refl _ _), Lib.hid (by simp)⟩
  case round =>
    obtain ⟨j, hj, rfl, hb, hno⟩ := hrel
    have hw1 := Lib.hid (below_more HWb.out hb.out)
    have hsz : w.heap.size + 1 < wr.heap.size := by have := hb.out.size; have := HWs.out; omega
    have B1 := Lib.hid (blk_keep hb.out HB0.out)
    have x0 := cell_of_blk B1.out 0
    have x1 := cell_of_blk B1.out 1
    simp at x0 x1
    by_cases hlt : j < n
    · have hget : vs[j]? = some (vs[j]'(by have := HN.out; omega)) := List.getElem?_eq_getElem _
      obtain ⟨u, hu⟩ : ∃ u, u = vs[j]'(by have := HN.out; omega) := ⟨_, rfl⟩
      rw [← hu] at hget
      obtain ⟨b, o, hA, hb1, hva⟩ := hvs j u hget
      subst hA
      obtain ⟨y0, y1, y2, y3, ysz⟩ := hva.below hw1.out hb1
      have GET := Lib.hid hget
      have hsb : b < wr.heap.size := by omega
      have hsz1 : w.heap.size + 1 < wr.heap.size + 1 := by omega
      clear hu hget hva hb1 hvs
      have he := fun w => eqMeaning u.kind k u.text t w
      by_cases hc : (u.kind == k && strEq u.text t) = true
      case neg =>
        have hc : (u.kind == k && strEq u.text t) = false := by simpa using hc
        have hst := Lib.hid (any_step (bearV k t p) vs j u GET.out hno.out (by unfold bearV; rw [hc]; rfl))
        rw [hc] at he
        clear hc
        go_wp2
        refine wp_region_later (by kernel_rfl) (by kernel_rfl) ?_; (repeat (first | go_big_quiet_step ((first | ((go_at_call 43; exact Calls.later _ (meaning_any _ _ _ _ _))) | ((go_at_call 68; exact Calls.later _ (inUse_is u p _ false (by assumption)))))) | quiet_step ((first | ((go_at_call 43; exact Calls.later _ (meaning_any _ _ _ _ _))) | ((go_at_call 68; exact Calls.later _ (inUse_is u p _ false (by assumption)))))))); refine wpQuiet_nil ?_; rintro _ ⟨s, rfl⟩
        go_wp2
        go_roundw
        case rel => exact ⟨j + 1, by omega, by go_num, Lib.hid (hb.out.trans ((below1 s).mono hb.out.size)), hst⟩
        case measure => simp [intOf]; omega
      rw [hc] at he
      by_cases hu2 : useB u p = true
      · have hfin := Lib.hid (any_true (bearV k t p) vs j u GET.out (by unfold bearV; rw [hc, hu2]; rfl))
        clear hc
        go_wp2
        refine wp_region_later (by kernel_rfl) (by kernel_rfl) ?_; (repeat (first | go_big_quiet_step ((first | ((go_at_call 43; exact Calls.later _ (meaning_any _ _ _ _ _))) | ((go_at_call 68; exact Calls.later _ (inUse_is u p _ true hu2))))) | quiet_step ((first | ((go_at_call 43; exact Calls.later _ (meaning_any _ _ _ _ _))) | ((go_at_call 68; exact Calls.later _ (inUse_is u p _ true hu2))))))); refine wpQuiet_nil ?_; rintro _ ⟨s, rfl⟩
        go_wp2
        go_ret
        exact ⟨of_bool hfin.out.symm, below_more hw1.out (below1 s)⟩
      · have hu2 : useB u p = false := by simpa using hu2
        have hst := Lib.hid (any_step (bearV k t p) vs j u GET.out hno.out (by unfold bearV; rw [hc, hu2]; rfl))
        clear hc
        go_wp2
        refine wp_region_later (by kernel_rfl) (by kernel_rfl) ?_; (repeat (first | go_big_quiet_step ((first | ((go_at_call 43; exact Calls.later _ (meaning_any _ _ _ _ _))) | ((go_at_call 68; exact Calls.later _ (inUse_is u p _ false hu2))))) | quiet_step ((first | ((go_at_call 43; exact Calls.later _ (meaning_any _ _ _ _ _))) | ((go_at_call 68; exact Calls.later _ (inUse_is u p _ false hu2))))))); refine wpQuiet_nil ?_; rintro _ ⟨s, rfl⟩
        go_wp2
        go_roundw
        case rel => exact ⟨j + 1, by omega, by go_num, Lib.hid (hb.out.trans ((below1 s).mono hb.out.size)), hst⟩
        case measure => simp [intOf]; omega
    · obtain rfl : j = n := by omega
      go_wp2
      go_ret
      refine ⟨of_bool ?_, hw1.out⟩
      have := hno.out
      rw [HN.out, List.take_length] at this
      exact this.symm

def bearFrom (k : Int) (t : ByteArray) (p : Int) : Nat → List Sg → List Int
  | _, [] => []
  | i, s :: r => if bearB s k t p then (i : Int) :: bearFrom k t p (i + 1) r else bearFrom k t p (i + 1) r
theorem bearFrom_snoc (k : Int) (t : ByteArray) (p : Int) : ∀ (l : List Sg) (i : Nat) (s : Sg), bearFrom k t p i (l ++ [s]) = bearFrom k t p i l ++ (if bearB s k t p then [((i + l.length : Nat) : Int)] else [])
  | [], i, s => by simp [bearFrom]
  | x :: l, i, s => by
    simp only [List.cons_append, bearFrom]
    have ih := bearFrom_snoc k t p l (i + 1) s
    rw [show i + 1 + l.length = i + (x :: l).length by simp; omega] at ih
    split <;> simp [ih]
theorem bearFrom_len (k : Int) (t : ByteArray) (p : Int) : ∀ (l : List Sg) (i : Nat), (bearFrom k t p i l).length ≤ l.length
  | [], _ => by simp [bearFrom]
  | x :: l, i => by
    have := bearFrom_len k t p l (i + 1)
    simp only [bearFrom]; split <;> simp <;> omega
theorem infoInt : (Tryz.prog.info? 3).map (fun i => (i.zero, i.size, i.bytes)) = some (some (.int .i64 0), 1, 8) := by kernel_rfl
/-- a slice of numbers -/
def IntsAt (w : World) (A : Option Addr) (zs : List Int) : Prop := ∀ ad, A = some ad → ∃ g, ad = ⟨g, 0, none⟩ ∧ g < w.heap.size ∧ ∀ j, j < zs.length → w.cell? ⟨g, j, none⟩ = some (.int .i64 (zs.getD j 0))
def GotInts (w : World) (zs : List Int) (e : Ending) (w' : World) : Prop :=
  ∃ A c, e = .returned (.slice A zs.length c) ∧ IntsAt w' A zs ∧ (A = none → zs = []) ∧ Below w.heap.size w w'
theorem is_ints {w : World} {base : Nat} {v : Value} {n : Nat} {zs : List Int} {e : TypeId} (h : w.ownsRow base e 1 v n (zs.map (Value.int .i64))) : ∃ A c, v = .slice A zs.length c ∧ IntsAt w A zs ∧ (A = none → zs = []) := by
  have hn : n = zs.length := by have := h.1; simp at this; exact this.symm
  subst hn
  obtain ⟨A, c, rfl, h1, h2, hA, hn⟩ := own_slice h
  refine ⟨A, c, rfl, fun ad e => ?_, fun e => List.eq_nil_of_length_eq_zero (hn e)⟩
  obtain ⟨g, rfl, _, hg, hc⟩ := hA ad e
  exact ⟨g, rfl, hg, fun j hj => hc j _ (by rw [List.getElem?_map, List.getElem?_eq_getElem hj]; simp [hj])⟩
theorem bears_is (m : Sm) (k : Int) (t : ByteArray) (p : Int) (w : World) (hm : SmOk w m) (r : Bool) (h : bearB m.s k t p = r) :
    Calls Tryz.prog 50 #[m.val, .agg #[.int .i64 k, .string t], .int .i64 p] w fun e w' => e = .returned (.bool r) ∧ Below w.heap.size w w' := by
  rw [← h]; exact bears_any m k t p w hm

set_option maxHeartbeats 1600000 in
set_option maxRecDepth 100000 in
theorem bearers_any (l : Lm) (kd : Int) (t : ByteArray) (p : Int) (w : World) (hl : LmOk w l) (hsm : l.ms.length ≤ 1000000) :
    Calls Tryz.prog 34 #[l.val, .agg #[.int .i64 kd, .string t], .int .i64 p] w (GotInts w (bearFrom kd t p 0 l.signs)) := by
  have hs := hl.signs
  obtain ⟨per, ms, A, cap⟩ := l
  obtain ⟨-, hlen, hcap⟩ := hl
  dsimp only at hs hlen hcap hsm
  unfold Lm.val Lm.signs
  dsimp only
  obtain ⟨n, hn⟩ : ∃ n, n = ms.length := ⟨_, rfl⟩
  rw [← hn] at hlen hsm ⊢
  have hcap' := hcap
  unfold maxLen at hcap'
  have HN := Lib.hid hn
  have HSM := Lib.hid hsm
  clear hn hsm
  obtain ⟨is, his, hzs, hss, hbs⟩ := info_hid infoInt
  go_enter Tryz.func34, Tryz.ntmps34
  go_wp2
  have HB0 := Lib.hid (show ((w.alloc (.cells #[.int .i64 per, .slice A n cap] 24)).alloc (.cells #[.int .i64 kd, .string t] 68)).heap[w.heap.size + 1]? = some (.cells #[.int .i64 kd, .string t] 68 (0, 0)) by
    have := heap_alloc_new (w.alloc (.cells #[.int .i64 per, .slice A n cap] 24)) (.cells #[.int .i64 kd, .string t] 68); simpa using this)
  have HWb := Lib.hid (show Below w.heap.size w ((w.alloc (.cells #[.int .i64 per, .slice A n cap] 24)).alloc (.cells #[.int .i64 kd, .string t] 68)) from ((Below.refl _ _).alloc (Nat.le_refl _) _).alloc (by simp) _)
  have HWs := Lib.hid (show ((w.alloc (.cells #[.int .i64 per, .slice A n cap] 24)).alloc (.cells #[.int .i64 kd, .string t] 68)).heap.size = w.heap.size + 1 + 1 by simp)
  generalize (w.alloc (.cells #[.int .i64 per, .slice A n cap] 24)).alloc (.cells #[.int .i64 kd, .string t] 68) = W at HB0 HWb HWs ⊢
  go_loopw [7, 13] (fun v i wr => ∃ j c : Nat, j ≤ n ∧ c ≤ j ∧ i = .int .i64 j ∧ Hid (Below W.heap.size W wr) ∧ Hid (c = (bearFrom kd t p 0 ((ms.map (·.s)).take j)).length) ∧ Hid (wr.ownsRow W.heap.size 3 1 v c ((bearFrom kd t p 0 ((ms.map (·.s)).take j)).map (Value.int .i64)))) (fun _ i _ => n - (intOf i).toNat)
  case atStart => exact ⟨0, 0, Nat.zero_le _, Nat.le_refl _, rfl, Lib.hid (Below.refl _ _), Lib.hid (by simp [bearFrom]), Lib.hid (by simpa [bearFrom] using World.ownsRow_nil _ _ _ _)⟩
  case round =>
    obtain ⟨j, c, hj, hcj, rfl, hb, hlc, hown⟩ := hrel
    have hw1 := Lib.hid (below_more HWb.out hb.out)
    have hsz : w.heap.size + 1 < wr.heap.size := by have := hb.out.size; have := HWs.out; omega
    have B1 := Lib.hid (blk_keep hb.out HB0.out)
    have x0 := cell_of_blk B1.out 0
    have x1 := cell_of_blk B1.out 1
    simp at x0 x1
    by_cases hlt : j < n
    · have hget : ms[j]? = some (ms[j]'(by have := HN.out; omega)) := List.getElem?_eq_getElem _
      obtain ⟨u, hu⟩ : ∃ u, u = ms[j]'(by have := HN.out; omega) := ⟨_, rfl⟩
      rw [← hu] at hget
      obtain ⟨b, o, hA, hb1, hva, hok⟩ := hs j u hget
      subst hA
      obtain ⟨y0, y1, y2, y3, y4⟩ := hva.below hw1.out hb1
      have hokr := Lib.hid (hok.below hw1.out)
      have GET := Lib.hid (show (ms.map (·.s))[j]? = some u.s by rw [List.getElem?_map, hget]; rfl)
      have hsb : b < wr.heap.size := by omega
      have hsz1 : w.heap.size + 1 < wr.heap.size + 1 := by omega
      have hsnd := Lib.hid (show bearFrom kd t p 0 ((ms.map (·.s)).take (j + 1)) = bearFrom kd t p 0 ((ms.map (·.s)).take j) ++ (if bearB u.s kd t p then [(j : Int)] else []) by
        obtain ⟨hk', e⟩ := List.getElem?_eq_some_iff.1 GET.out
        have hl : ((ms.map (·.s)).take j).length = j := by rw [List.length_take]; omega
        rw [List.take_succ_eq_append_getElem hk', e, bearFrom_snoc, hl, Nat.zero_add])
      clear hu hget hva hb1 hs hok
      have hbx := Lib.hid (below_alloc wr (.cells #[.string u.s.code, .int .i64 u.s.wide, .int .i64 u.s.high, .bool u.s.even, .slice u.A u.s.vals.length u.cap] 38))
      by_cases hc : bearB u.s kd t p = true
      case neg =>
        have hc : bearB u.s kd t p = false := by simpa using hc
        have hsn2 := Lib.hid (show bearFrom kd t p 0 ((ms.map (·.s)).take (j + 1)) = bearFrom kd t p 0 ((ms.map (·.s)).take j) by rw [hsnd.out, hc]; simp)
        go_wp2_with fail
        refine (bears_is u kd t p _ (hokr.out.below hbx.out) false hc).mono ?_; rintro e w2 ⟨rfl, hb2⟩
        have hb3 := Lib.hid (below_more hbx.out hb2)
        clear hb2
        go_wp2_with fail
        go_roundw
        case rel => exact ⟨j + 1, c, by omega, by omega, by go_num, Lib.hid (hb.out.trans (hb3.out.mono hb.out.size)), by rw [hsn2.out]; exact hlc, Lib.hid (by rw [hsn2.out]; exact ownsRow_of_block hown.out (fun g hg => hb3.out.block g (hown.out.lt g hg).2))⟩
        case measure => simp [intOf]; omega
      case pos =>
        have hsn2 := Lib.hid (show bearFrom kd t p 0 ((ms.map (·.s)).take (j + 1)) = bearFrom kd t p 0 ((ms.map (·.s)).take j) ++ [(j : Int)] by rw [hsnd.out, hc]; simp)
        go_wp2_with fail
        refine (bears_is u kd t p _ (hokr.out.below hbx.out) true hc).mono ?_; rintro e w2 ⟨rfl, hb2⟩
        have hb3 := Lib.hid (below_more hbx.out hb2)
        have hs2 := Lib.hid (show wr.heap.size + 1 ≤ w2.heap.size by have := hb2.size; simpa using this)
        have own2 := Lib.hid (ownsRow_of_block (w' := w2) hown.out (fun g hg => hb3.out.block g (hown.out.lt g hg).2))
        clear hb2
        go_wp2_with (first
          | (at_builtin; refine wpList_append_src _ rfl (.tmp 22) (.tmp 24) 65 rfl W.heap.size 3 is (.int .i64 0) 1 8 Tryz.underlying65 his.out hzs.out hss.out hbs.out rfl (by decide) u7 c ((bearFrom kd t p 0 ((ms.map (·.s)).take j)).map (Value.int .i64)) rfl ?own2 (some ⟨w2.heap.size, 0, none⟩) 1 1 [.int .i64 j] rfl ?l2 ?n2 ?c2 ?o2 ?m2 ?b2 ?s2 (c + 1) rfl ?_))
        case own2 => exact own2.out.alloc _
        case l2 => rfl
        case n2 => intro h; cases h
        case o2 => intro u hu; simp at hu; subst hu; rfl
        case c2 =>
          intro ad had i u' hj
          injection had with had
          subst had
          have := new_cells w2 [.int .i64 j] 3 i u' hj
          simpa using this
        case m2 => have := HSM.out; unfold maxLen; omega
        case b2 => have := HSM.out; omega
        case s2 => have := hs2.out; have := hb.out.size; simp; omega
        · intro A2 c2 w3 own3 hg3 _
          have b4 := Lib.hid (((hb.out.trans (hb3.out.mono hb.out.size)).alloc (by have := hs2.out; have := hb.out.size; omega) (.cells #[.int .i64 j] 3)).grown hg3 (by have := hs2.out; have := hb.out.size; simp; omega) (fun g hg => (own2.out.lt g hg).1))
          have own3 := Lib.hid own3
          clear hg3
          go_wp2
          go_roundw
          case rel => exact ⟨j + 1, c + 1, by omega, by omega, by go_num, b4, Lib.hid (by rw [hsn2.out, List.length_append, ← hlc.out]; rfl), Lib.hid (by rw [hsn2.out, List.map_append]; exact own3.out)⟩
          case measure => simp [intOf]; omega
    · obtain rfl : j = n := by omega
      obtain ⟨A2, c2, hv, h1, h2⟩ := is_ints hown.out
      subst hv
      have hlen2 := Lib.hid (show (ms.map (·.s)).take j = ms.map (·.s) by rw [HN.out, ← List.length_map (f := (·.s)), List.take_length])
      go_wp2
      go_ret
      rw [hlen2.out] at h1 h2
      exact ⟨A2, c2, by rw [hlen2.out]; rfl, h1, h2, hw1.out⟩

end Go.Proofs.YtleihhkacmgofabGreatDoor

/- Values in use: what it is to be handed values in new memory; contracts of valuesIn and of the specification's InUse. -/
namespace Go.Proofs.YtleihhkacmgofabGreatDoor
open Go.RowKit

/-- values that were made -/
def GotVals (w : World) (vs : List Va) (e : Ending) (w' : World) : Prop :=
  ∃ A c, e = .returned (.slice A vs.length c) ∧ ValsAt w' A vs ∧ vs.length ≤ c ∧ c ≤ maxLen ∧ Below w.heap.size w w'
/-- .. in memory of the call's own -/
def GotValsF (w : World) (vs : List Va) (e : Ending) (w' : World) : Prop :=
  ∃ A c, e = .returned (.slice A vs.length c) ∧ ValsAt w' A vs ∧ vs.length ≤ c ∧ c ≤ maxLen ∧ Below w.heap.size w w' ∧ ∀ b o, A = some ⟨b, o, none⟩ → w.heap.size ≤ b
theorem GotValsF.got {w : World} {vs : List Va} {e : Ending} {w' : World} (h : GotValsF w vs e w') : GotVals w vs e w' := by
  obtain ⟨A, c, h1, h2, h3, h4, h5, _⟩ := h
  exact ⟨A, c, h1, h2, h3, h4, h5⟩
def usedV (vs : List Va) (p : Int) : List Va := vs.filter (fun v => useB v p)

/-- a row that the call made itself -/
def GotRow (w : World) (e : TypeId) (size n : Nat) (xs : List Value) (en : Ending) (w' : World) : Prop :=
  ∃ A c, en = .returned (.slice A n c) ∧ w'.ownsRow w.heap.size e size (.slice A n c) n xs ∧ Below w.heap.size w w'
theorem own_base {w : World} {b0 b1 : Nat} {e : TypeId} {size : Nat} {v : Value} {n : Nat} {xs : List Value} (h : w.ownsRow b1 e size v n xs) (hb : b0 ≤ b1) : w.ownsRow b0 e size v n xs := by
  refine ⟨h.1, ?_⟩
  rcases h.2 with h2 | ⟨g, cap, cur, rfl, h3, h4⟩
  · exact .inl h2
  · exact .inr ⟨g, cap, cur, rfl, Nat.le_trans hb h3, h4⟩

theorem vals_of_cells {w : World} {base : Nat} {A : Option Addr} {vs : List Va} (h : ∀ ad, A = some ad → ∃ g, ad = ⟨g, 0, none⟩ ∧ base ≤ g ∧ g < w.heap.size ∧ ∀ j u, (vs.flatMap Va.cells)[j]? = some u → w.cell? ⟨g, j, none⟩ = some u)
    (h0 : A = none → vs.length = 0) (hsz : ∀ v ∈ vs, v.text.size ≤ maxLen) : ValsAt w A vs := by
  intro j x hj
  have hj' : j < vs.length := (List.getElem?_eq_some_iff.1 hj).1
  cases hA : A with
  | none => have := h0 hA; omega
  | some ad =>
    obtain ⟨g, rfl, _, hg, hcell⟩ := h ad hA
    have ha : ∀ i, i < 4 → w.cell? ⟨g, j * 4 + i, none⟩ = (Va.cells x)[i]? := fun i hi => by
      have hi' : i < (Va.cells x).length := hi
      rw [hcell (j * 4 + i) ((Va.cells x)[i]) (by rw [flat_at (c := 4) (fun _ => rfl) _ _ _ hj i hi]; exact List.getElem?_eq_getElem hi'), List.getElem?_eq_getElem hi']
    refine ⟨g, 0, rfl, hg, ⟨?_, ?_, ?_, ?_, hsz x (List.mem_of_getElem? hj)⟩⟩
    · rw [Nat.zero_add]; exact ha 0 (by omega)
    · rw [Nat.zero_add]; exact ha 1 (by omega)
    · rw [Nat.zero_add]; exact ha 2 (by omega)
    · rw [Nat.zero_add]; exact ha 3 (by omega)

theorem own_vals {w : World} {base : Nat} {A : Option Addr} {c : Nat} {vs : List Va} (h : w.ownsRow base 43 4 (.slice A vs.length c) vs.length (vs.flatMap Va.cells)) (hsz : ∀ v ∈ vs, v.text.size ≤ maxLen) : ValsAt w A vs ∧ vs.length ≤ c ∧ c ≤ maxLen ∧ ∀ b o, A = some ⟨b, o, none⟩ → base ≤ b := by
  obtain ⟨A2, c2, hv, h1, h2, h3, h4⟩ := own_slice h
  injection hv with e1 e2 e3
  subst e1 e3
  refine ⟨vals_of_cells h3 h4 hsz, h1, h2, fun b o e => ?_⟩
  obtain ⟨g, e2, hg, _⟩ := h3 _ e
  injection e2 with e2; rw [e2]; exact hg
theorem GotRow.vals {w : World} {vs : List Va} {e : Ending} {w' : World} (h : GotRow w 43 4 vs.length (vs.flatMap Va.cells) e w') (hsz : ∀ v ∈ vs, v.text.size ≤ maxLen) : GotValsF w vs e w' := by
  obtain ⟨A, c, rfl, hown, hb⟩ := h
  obtain ⟨h1, h2, h3, h4⟩ := own_vals hown hsz
  exact ⟨A, c, rfl, h1, h2, h3, hb, h4⟩
theorem vals_sizes {w : World} {A : Option Addr} {vs : List Va} (h : ValsAt w A vs) : ∀ v ∈ vs, v.text.size ≤ maxLen := by
  intro v hv
  obtain ⟨i, hi⟩ := List.getElem?_of_mem hv
  obtain ⟨_, _, _, _, hx⟩ := h i v hi
  exact hx.sz
theorem used_sizes {w : World} {A : Option Addr} {vs : List Va} (h : ValsAt w A vs) (p : Int) : ∀ v ∈ usedV vs p, v.text.size ≤ maxLen := fun v hv => vals_sizes h v (List.mem_filter.1 hv).1

set_option maxHeartbeats 1600000 in
set_option maxRecDepth 100000 in
theorem ruseR_any (m : Sm) (p : Int) (w : World) (hm : SmOk w m) (hsm : m.s.vals.length ≤ 1000000) :
    Calls Tryz.prog 12 #[m.val, .int .i64 p] w (GotRow w 43 4 (usedV m.s.vals p).length ((usedV m.s.vals p).flatMap Va.cells)) := by
  obtain ⟨⟨code, wide, high, even, vs⟩, A, cap⟩ := m
  obtain ⟨hvs, hl, hcap, hcode⟩ := hm
  dsimp only at hvs hl hcap hcode hsm
  unfold Sm.val
  dsimp only
  obtain ⟨n, hn⟩ : ∃ n, n = vs.length := ⟨_, rfl⟩
  rw [← hn] at hl hsm ⊢
  have hcap' := hcap
  unfold maxLen at hcap'
  have HN := Lib.hid hn
  clear hn
  obtain ⟨iv, hiv, hzv, hsv, hbv⟩ := info_hid infoVa
  go_enter Tryz.func12, Tryz.ntmps12
  go_wp2
  have HB0 := Lib.hid (heap_alloc_new w (.cells #[.string code, .int .i64 wide, .int .i64 high, .bool even, .slice A n cap] 38))
  have HWb := Lib.hid (below_alloc w (.cells #[.string code, .int .i64 wide, .int .i64 high, .bool even, .slice A n cap] 38))
  have HWs := Lib.hid (show (w.alloc (.cells #[.string code, .int .i64 wide, .int .i64 high, .bool even, .slice A n cap] 38)).heap.size = w.heap.size + 1 by simp)
  generalize w.alloc (.cells #[.string code, .int .i64 wide, .int .i64 high, .bool even, .slice A n cap] 38) = W at HB0 HWb HWs ⊢
  go_loopw [5, 6] (fun v i wr => ∃ j c : Nat, j ≤ n ∧ c ≤ j ∧ i = .int .i64 j ∧ Hid (Below W.heap.size W wr) ∧ Hid (c = (usedV (vs.take j) p).length) ∧ Hid (wr.ownsRow W.heap.size 43 4 v c ((usedV (vs.take j) p).flatMap Va.cells))) (fun _ i _ => n - (intOf i).toNat)
  case atStart => exact ⟨0, 0, Nat.zero_le _, Nat.le_refl _, rfl, Lib.hid (Below.refl _ _), Lib.hid (by simp [usedV]), Lib.hid (by simpa [usedV] using World.ownsRow_nil _ _ _ _)⟩
  case round =>
    obtain ⟨j, c, hj, hcj, rfl, hb, hlc, hown⟩ := hrel
    have hw1 := Lib.hid (below_more HWb.out hb.out)
    have hsz : w.heap.size < wr.heap.size := by have := hb.out.size; have := HWs.out; omega
    have B0 := Lib.hid (blk_keep hb.out HB0.out)
    have x4 := cell_of_blk B0.out 4
    simp at x4
    by_cases hlt : j < n
    · have hget : vs[j]? = some (vs[j]'(by have := HN.out; omega)) := List.getElem?_eq_getElem _
      obtain ⟨u, hu⟩ : ∃ u, u = vs[j]'(by have := HN.out; omega) := ⟨_, rfl⟩
      rw [← hu] at hget
      obtain ⟨b, o, hA, hb1, hva⟩ := hvs j u hget
      subst hA
      obtain ⟨y0, y1, y2, y3, ysz⟩ := hva.below hw1.out hb1
      have GET := Lib.hid hget
      have hsnd := Lib.hid (show usedV (vs.take (j + 1)) p = usedV (vs.take j) p ++ (if useB u p then [u] else []) by
        obtain ⟨hk', e⟩ := List.getElem?_eq_some_iff.1 GET.out
        rw [List.take_succ_eq_append_getElem hk', e]; unfold usedV; rw [List.filter_append]; by_cases h : useB u p = true <;> simp [h])
      have hsb : b < wr.heap.size := by omega
      clear hu hget hva hb1 hvs
      by_cases h1 : u.fr ≤ p
      case neg =>
        have hsn2 := Lib.hid (show usedV (vs.take (j + 1)) p = usedV (vs.take j) p by rw [hsnd.out]; simp [useB, h1])
        go_wp2
        go_roundw
        case rel => exact ⟨j + 1, c, by omega, by omega, by go_num, hb, by rw [hsn2.out]; exact hlc, by rw [hsn2.out]; exact hown⟩
        case measure => simp [intOf]; omega
      by_cases h2 : p ≤ u.to
      case neg =>
        have hsn2 := Lib.hid (show usedV (vs.take (j + 1)) p = usedV (vs.take j) p by rw [hsnd.out]; simp [useB, h2])
        go_wp2
        go_roundw
        case rel => exact ⟨j + 1, c, by omega, by omega, by go_num, hb, by rw [hsn2.out]; exact hlc, by rw [hsn2.out]; exact hown⟩
        case measure => simp [intOf]; omega
      have hsn2 := Lib.hid (show usedV (vs.take (j + 1)) p = usedV (vs.take j) p ++ [u] by rw [hsnd.out]; simp [useB, h1, h2])
      go_wp2_with (first
          | (at_builtin; refine wpList_append_src _ rfl (.tmp 32) (.tmp 38) 34 rfl W.heap.size 43 iv (.agg #[.int .i64 0, .string ⟨#[]⟩, .int .i64 0, .int .i64 0]) 4 40 Tryz.underlying34 hiv.out hzv.out hsv.out hbv.out rfl (by decide) u5 c ((usedV (vs.take j) p).flatMap Va.cells) rfl ?own2 (some ⟨wr.heap.size, 0, none⟩) 1 1 u.cells rfl ?l2 ?n2 ?c2 ?o2 ?m2 ?b2 ?s2 (c + 1) rfl ?_))
      case own2 => exact hown.out.alloc _
      case l2 => rfl
      case n2 => intro h; cases h
      case o2 => exact fun x hx => va_one (vs := [u]) x (by simpa using hx)
      case c2 =>
          intro ad had i u' hj
          injection had with had
          subst had
          have := new_cells wr u.cells 43 i u' hj
          simpa [Va.cells] using this
      case m2 => unfold maxLen; omega
      case b2 => omega
      case s2 => have := hb.out.size; simp; omega
      · intro A2 c2 w3 own3 hg3 _
        have b4 := Lib.hid ((hb.out.alloc (by have := hb.out.size; omega) (.cells #[.int .i64 u.kind, .string u.text, .int .i64 u.fr, .int .i64 u.to] 43)).grown hg3 (by have := hb.out.size; simp; omega) (fun g hg => (hown.out.lt g hg).1))
        have own3 := Lib.hid own3
        clear hg3
        go_wp2
        go_roundw
        case rel => exact ⟨j + 1, c + 1, by omega, by omega, by go_num, b4, Lib.hid (by rw [hsn2.out, List.length_append, ← hlc.out]; rfl), Lib.hid (by rw [hsn2.out, List.flatMap_append]; simpa using own3.out)⟩
        case measure => simp [intOf]; omega
    · obtain rfl : j = n := by omega
      obtain ⟨A2, c2, hv, h1, h2, h3, h4⟩ := own_slice hown.out
      subst hv
      have HT := Lib.hid (show vs.take j = vs by rw [HN.out, List.take_length])
      have HC := Lib.hid (show c = (usedV vs p).length by have := hlc.out; rw [HT.out] at this; exact this)
      have HX := Lib.hid (show wr.ownsRow w.heap.size 43 4 (.slice A2 c c2) c ((usedV vs p).flatMap Va.cells) from own_base (by have := hown.out; rw [HT.out] at this; exact this) (by have := HWs.out; omega))
      go_wp2
      go_ret
      rw [← HC.out]
      exact ⟨A2, c2, rfl, HX.out, hw1.out⟩
theorem ruseF_any (m : Sm) (p : Int) (w : World) (hm : SmOk w m) (hsm : m.s.vals.length ≤ 1000000) : Calls Tryz.prog 12 #[m.val, .int .i64 p] w (GotValsF w (usedV m.s.vals p)) :=
  (ruseR_any m p w hm hsm).mono fun _ _ h => h.vals (used_sizes hm.vals p)
theorem ruse_any (m : Sm) (p : Int) (w : World) (hm : SmOk w m) (hsm : m.s.vals.length ≤ 1000000) : Calls Tryz.prog 12 #[m.val, .int .i64 p] w (GotVals w (usedV m.s.vals p)) :=
  (ruseF_any m p w hm hsm).mono fun _ _ h => h.got

theorem used_any (vs : List Va) (k : Int) (t : ByteArray) (p : Int) : (usedV vs p).any (fun v => v.kind == k && strEq v.text t) = vs.any (bearV k t p) := by
  unfold usedV
  induction vs with
  | nil => rfl
  | cons x r ih =>
    rw [List.filter_cons, List.any_cons]
    by_cases h : useB x p = true
    · rw [if_pos h, List.any_cons, ih]; simp [bearV, h]
    · rw [if_neg h, ih]
      have h : useB x p = false := by simpa using h
      simp [bearV, h]
theorem used_len (vs : List Va) (p : Int) : (usedV vs p).length ≤ vs.length := List.length_filter_le _ _

end Go.Proofs.YtleihhkacmgofabGreatDoor

/- Contracts of slices.Clone at values and at signs. -/
namespace Go.Proofs.YtleihhkacmgofabGreatDoor
open Go.RowKit

theorem nilV (w : World) (a : Option Addr) (n c : Nat) : (binOp .eql 34 (.slice a n c) (.slice none 0 0)).run Tryz.prog w = .ok (.bool a.isNone) w := Lib.run_eql_slice_nil w _ _ a n c 0 0 Tryz.underlying34
theorem nilG (w : World) (a : Option Addr) (n c : Nat) : (binOp .eql 22 (.slice a n c) (.slice none 0 0)).run Tryz.prog w = .ok (.bool a.isNone) w := Lib.run_eql_slice_nil w _ _ a n c 0 0 Tryz.underlying22

set_option maxHeartbeats 800000 in
theorem cloneV_any (A : Option Addr) (cap : Nat) (vs : List Va) (w : World) (hvs : ValsAt w A vs) (hsm : vs.length ≤ 1000000) :
    Calls Tryz.prog 40 #[.slice A vs.length cap] w (GotRow w 43 4 vs.length (vs.flatMap Va.cells)) := by
  obtain ⟨n, hn⟩ : ∃ n, n = vs.length := ⟨_, rfl⟩
  rw [← hn] at hsm ⊢
  have HN := Lib.hid hn
  have HV := Lib.hid hvs
  clear hn hvs
  obtain ⟨iv, hiv, hzv, hsv, hbv⟩ := info_hid infoVa
  have hq := nilV
  cases A with
  | none =>
    have h0 : n = 0 := HN.out.trans (vals_none HV.out rfl)
    subst h0
    have HX := Lib.hid (show vs = [] from List.eq_nil_of_length_eq_zero HN.out.symm)
    go_enter Tryz.func40, Tryz.ntmps40
    go_wp2
    go_ret
    exact ⟨none, 0, rfl, by rw [HX.out]; exact World.ownsRow_nil _ _ _ _, Below.refl _ _⟩
  | some ad =>
    go_enter Tryz.func40, Tryz.ntmps40
    go_wp2_with (first
        | (at_builtin; refine wpList_append_src _ rfl (.tmp 5) (.tmp 6) 34 rfl w.heap.size 43 iv (.agg #[.int .i64 0, .string ⟨#[]⟩, .int .i64 0, .int .i64 0]) 4 40 Tryz.underlying34 hiv.out hzv.out hsv.out hbv.out rfl (by decide) (.slice (some ⟨w.heap.size, 0, none⟩) 0 0) 0 [] rfl ?own1 (some ad) n cap (vs.flatMap Va.cells) rfl ?l1 ?n1 ?c1 va_one ?m1 ?b1 ?s1 n (Nat.zero_add _).symm ?_))
    case own1 => exact own_empty w 43 4
    case l1 => rw [HN.out]; exact flat_len (f := Va.cells) (fun _ => rfl) _
    case n1 => intro h; cases h
    case c1 => exact vals_cells (HV.out.below (below_alloc _ _))
    case m1 => unfold maxLen; omega
    case b1 => omega
    case s1 => simp
    · intro A1 c1 w1 own1 hg1 _
      have OWN := Lib.hid own1
      have HB := Lib.hid ((below_alloc w (.cells #[] 43)).grown hg1 (by simp) (fun g hg => by have hg : some w.heap.size = some g := hg; injection hg with hg; omega))
      clear own1 hg1
      go_wp2
      go_ret
      exact ⟨A1, c1, rfl, OWN.out, HB.out⟩

theorem signs_none {w : World} {A : Option Addr} {ms : List Sm} (h : SignsAt w A ms) : A = none → ms.length = 0 := by
  intro hA
  cases ms with
  | nil => rfl
  | cons x r => obtain ⟨b, o, e, _⟩ := h 0 x rfl; rw [hA] at e; cases e
theorem split5 (j : Nat) : ∃ k i, i < 5 ∧ j = k * 5 + i := ⟨j / 5, j % 5, Nat.mod_lt _ (by omega), by omega⟩
/-- the cells of a slice of signs, as append reads them -/
theorem signs_cells {w : World} {A : Option Addr} {ms : List Sm} (h : SignsAt w A ms) : ∀ ad, A = some ad → ∀ j u, (ms.flatMap Sm.cells)[j]? = some u → w.cell? (ad.add j) = some u := by
  intro ad hA j u hj
  obtain ⟨k, i, hi, rfl⟩ := split5 j
  have hlt := (List.getElem?_eq_some_iff.1 hj).1
  rw [flat_len (c := 5) (fun _ => rfl)] at hlt
  have hk : k < ms.length := by omega
  have hg : ms[k]? = some ms[k] := List.getElem?_eq_getElem hk
  obtain ⟨b, o, e, _, hv, _⟩ := h k _ hg
  rw [hA] at e; injection e with e; subst e
  rw [flat_at (c := 5) (fun _ => rfl) _ _ _ hg i hi] at hj
  rw [addr_add]
  match i, hi, hj with
  | 0, _, hj => simp [Sm.cells] at hj; subst hj; exact hv.c0
  | 1, _, hj => simp [Sm.cells] at hj; subst hj; rw [show o + (k * 5 + 1) = o + k * 5 + 1 by omega]; exact hv.c1
  | 2, _, hj => simp [Sm.cells] at hj; subst hj; rw [show o + (k * 5 + 2) = o + k * 5 + 2 by omega]; exact hv.c2
  | 3, _, hj => simp [Sm.cells] at hj; subst hj; rw [show o + (k * 5 + 3) = o + k * 5 + 3 by omega]; exact hv.c3
  | 4, _, hj => simp [Sm.cells] at hj; subst hj; rw [show o + (k * 5 + 4) = o + k * 5 + 4 by omega]; exact hv.c4
theorem sms_one {ms : List Sm} : ∀ u ∈ ms.flatMap Sm.cells, u.oneCell' = true := by
  intro u hu
  obtain ⟨v, _, hv⟩ := List.mem_flatMap.1 hu
  exact sm_one u hv

set_option maxHeartbeats 800000 in
theorem cloneG_any (A : Option Addr) (cap : Nat) (ms : List Sm) (w : World) (hms : SignsAt w A ms) (hsm : ms.length ≤ 1000000) :
    Calls Tryz.prog 25 #[.slice A ms.length cap] w (GotRow w 38 5 ms.length (ms.flatMap Sm.cells)) := by
  obtain ⟨n, hn⟩ : ∃ n, n = ms.length := ⟨_, rfl⟩
  rw [← hn] at hsm ⊢
  have HN := Lib.hid hn
  have HV := Lib.hid hms
  clear hn hms
  obtain ⟨iv, hiv, hzv, hsv, hbv⟩ := info_hid infoSg
  have hq := nilG
  cases A with
  | none =>
    have h0 : n = 0 := HN.out.trans (signs_none HV.out rfl)
    subst h0
    have HX := Lib.hid (show ms = [] from List.eq_nil_of_length_eq_zero HN.out.symm)
    go_enter Tryz.func25, Tryz.ntmps25
    go_wp2
    go_ret
    exact ⟨none, 0, rfl, by rw [HX.out]; exact World.ownsRow_nil _ _ _ _, Below.refl _ _⟩
  | some ad =>
    go_enter Tryz.func25, Tryz.ntmps25
    go_wp2_with (first
        | (at_builtin; refine wpList_append_src _ rfl (.tmp 5) (.tmp 6) 22 rfl w.heap.size 38 iv (.agg #[.string ⟨#[]⟩, .int .i64 0, .int .i64 0, .bool false, .slice none 0 0]) 5 64 Tryz.underlying22 hiv.out hzv.out hsv.out hbv.out rfl (by decide) (.slice (some ⟨w.heap.size, 0, none⟩) 0 0) 0 [] rfl ?own1 (some ad) n cap (ms.flatMap Sm.cells) rfl ?l1 ?n1 ?c1 sms_one ?m1 ?b1 ?s1 n (Nat.zero_add _).symm ?_))
    case own1 => exact own_empty w 38 5
    case l1 => rw [HN.out]; exact flat_len (f := Sm.cells) (fun _ => rfl) _
    case n1 => intro h; cases h
    case c1 => exact signs_cells (HV.out.below (below_alloc _ _))
    case m1 => unfold maxLen; omega
    case b1 => omega
    case s1 => simp
    · intro A1 c1 w1 own1 hg1 _
      have OWN := Lib.hid own1
      have HB := Lib.hid ((below_alloc w (.cells #[] 38)).grown hg1 (by simp) (fun g hg => by have hg : some w.heap.size = some g := hg; injection hg with hg; omega))
      clear own1 hg1
      go_wp2
      go_ret
      exact ⟨A1, c1, rfl, OWN.out, HB.out⟩

end Go.Proofs.YtleihhkacmgofabGreatDoor

/- Two lists compared part by part, whatever they are: the program's Same and the specification's. -/
namespace Go.Proofs.YtleihhkacmgofabGreatDoor
open Go.RowKit

/-- equal lengths, and equal at each place -/
def eqUp {α : Type} (f : α → α → Bool) (xs ys : List α) : Bool := decide (xs.length = ys.length) && (xs.zip ys).all fun p => f p.1 p.2
def vaEq (u v : Va) : Bool := u.kind == v.kind && strEq u.text v.text && u.fr == v.fr && u.to == v.to
def shapeEq (s t : Sg) : Bool := (s.wide == t.wide) && (s.high == t.high) && (s.even == t.even)
def sgEq (s t : Sg) : Bool := strEq s.code t.code && shapeEq s t && eqUp vaEq s.vals t.vals
def liEq (a b : Li) : Bool := (a.per == b.per) && eqUp sgEq a.signs b.signs

theorem zip_at {α : Type} {xs ys : List α} {k : Nat} {u v : α} (h1 : xs[k]? = some u) (h2 : ys[k]? = some v) : (xs.zip ys)[k]? = some (u, v) := by
  rw [List.getElem?_zip_eq_some]; exact ⟨h1, h2⟩
theorem allz_step {α : Type} (q : α → Bool) (l : List α) (k : Nat) (v : α) (h : l[k]? = some v) (h0 : (l.take k).all q = true) (h1 : q v = true) : (l.take (k + 1)).all q = true := by
  obtain ⟨hk, rfl⟩ := List.getElem?_eq_some_iff.1 h
  rw [List.take_succ_eq_append_getElem hk, List.all_append, h0, Bool.true_and]; simp [h1]
theorem eqUp_false {α : Type} (f : α → α → Bool) (xs ys : List α) (k : Nat) (u v : α) (h1 : xs[k]? = some u) (h2 : ys[k]? = some v) (h : f u v = false) : eqUp f xs ys = false := by
  unfold eqUp
  rw [all_false_of (fun p : α × α => f p.1 p.2) _ k (u, v) (zip_at h1 h2) h, Bool.and_false]
theorem eqUp_len {α : Type} (f : α → α → Bool) (xs ys : List α) (h : xs.length ≠ ys.length) : eqUp f xs ys = false := by
  unfold eqUp; rw [decide_eq_false h, Bool.false_and]
theorem eqUp_true {α : Type} (f : α → α → Bool) (xs ys : List α) (k : Nat) (h : xs.length = ys.length) (hk : k = xs.length) (h0 : ((xs.zip ys).take k).all (fun p => f p.1 p.2) = true) : eqUp f xs ys = true := by
  have : (xs.zip ys).length ≤ k := by rw [List.length_zip]; omega
  rw [List.take_of_length_le this] at h0
  unfold eqUp; rw [h0, decide_eq_true h]; rfl
theorem eqUp_refl {α : Type} (f : α → α → Bool) (hf : ∀ x, f x x = true) (xs : List α) : eqUp f xs xs = true := by
  unfold eqUp
  rw [decide_eq_true rfl, Bool.true_and, List.all_eq_true]
  rintro ⟨a, b⟩ h
  obtain ⟨k, hk⟩ := List.getElem?_of_mem h
  rw [List.getElem?_zip_eq_some] at hk
  have : a = b := by have := hk.1.symm.trans hk.2; injection this
  subst this; exact hf a
theorem vaEq_refl (v : Va) : vaEq v v = true := by simp [vaEq, strEq_refl]
theorem sgEq_refl (s : Sg) : sgEq s s = true := by simp [sgEq, shapeEq, strEq_refl, eqUp_refl vaEq vaEq_refl]
theorem liEq_refl (l : Li) : liEq l l = true := by simp [liEq, eqUp_refl sgEq sgEq_refl]

theorem eqVa2 (k k2 f f2 u u2 : Int) (t t2 : ByteArray) (w : World) : (binOp .neq 43 (.agg #[.int .i64 k, .string t, .int .i64 f, .int .i64 u]) (.agg #[.int .i64 k2, .string t2, .int .i64 f2, .int .i64 u2])).run Tryz.prog w = .ok (.bool (!(k == k2 && strEq t t2 && f == f2 && u == u2))) w := by
  rw [run_neq_struct]
  simp [go_sem]
  by_cases h1 : k = k2 <;> by_cases h2 : t.toList = t2.toList <;> by_cases h3 : f = f2 <;> by_cases h4 : u = u2 <;> simp [h1, h2, h3, h4, strEq]

set_option maxHeartbeats 1600000 in
/-- the specification's SameValues -/
theorem rsameVals_any (A B : Option Addr) (c d : Nat) (vs us : List Va) (w : World) (hA : ValsAt w A vs) (hB : ValsAt w B us) (hz : vs.length ≤ 1000000) (_hz2 : us.length ≤ 1000000) :
    Calls Tryz.prog 27 #[.slice A vs.length c, .slice B us.length d] w fun e w' => e = .returned (.bool (eqUp vaEq vs us)) ∧ Below w.heap.size w w' := by
  by_cases hlen : vs.length = us.length
  case neg =>
    have HF := Lib.hid (eqUp_len vaEq vs us hlen)
    generalize vs.length = n at hlen hz ⊢
    generalize us.length = m at hlen _hz2 ⊢
    have hne : ((n : Int) == (m : Int)) = false := by rw [beq_eq_false_iff_ne]; omega
    go_enter Tryz.func27, Tryz.ntmps27
    go_wp2
    go_ret
    exact ⟨of_bool HF.out.symm, Below.refl _ _⟩
  obtain ⟨n, hn⟩ : ∃ n, n = vs.length := ⟨_, rfl⟩
  have HT := Lib.hid (fun k (hk : k = n) h0 => eqUp_true vaEq vs us k hlen (hk.trans hn) h0)
  have HX := Lib.hid (fun k u v h1 h2 h => eqUp_false vaEq vs us k u v h1 h2 h)
  rw [← hlen, ← hn]
  rw [← hn] at hz
  have HN := Lib.hid hn
  have HN2 := Lib.hid (hn.trans hlen)
  generalize eqUp vaEq vs us = R at HT HX ⊢
  clear hn hlen _hz2
  go_enter Tryz.func27, Tryz.ntmps27
  go_wp2
  go_loopw [5] (fun i wr => ∃ k : Nat, k ≤ n ∧ i = .int .i64 k ∧ Hid (Below w.heap.size w wr) ∧ Hid (((vs.zip us).take k).all (fun p => vaEq p.1 p.2) = true)) (fun i _ => n - (intOf i).toNat)
  case atStart => exact ⟨0, Nat.zero_le _, rfl, Lib.hid (Below.refl _ _), Lib.hid (by simp)⟩
  case round =>
    obtain ⟨k, hk, rfl, hb, hall⟩ := hrel
    by_cases hlt : k < n
    · have hget : vs[k]? = some (vs[k]'(by have := HN.out; omega)) := List.getElem?_eq_getElem _
      obtain ⟨u, hu⟩ : ∃ u, u = vs[k]'(by have := HN.out; omega) := ⟨_, rfl⟩
      rw [← hu] at hget
      have hget2 : us[k]? = some (us[k]'(by have := HN2.out; omega)) := List.getElem?_eq_getElem _
      obtain ⟨v, hv⟩ : ∃ v, v = us[k]'(by have := HN2.out; omega) := ⟨_, rfl⟩
      rw [← hv] at hget2
      obtain ⟨b, o, e1, hb1, hva⟩ := hA k u hget
      obtain ⟨b', o', e1', hb1', hva'⟩ := hB k v hget2
      subst e1 e1'
      obtain ⟨y0, y1, y2, y3, ysz⟩ := hva.below hb.out hb1
      obtain ⟨z0, z1, z2, z3, zsz⟩ := hva'.below hb.out hb1'
      have h1 : b < wr.heap.size := by have := hb.out.size; omega
      have h2 : b' < wr.heap.size := by have := hb.out.size; omega
      have GET := Lib.hid hget
      have GET2 := Lib.hid hget2
      clear hu hv hget hget2 hva hva' hA hB
      have he := fun w => eqVa2 u.kind v.kind u.fr v.fr u.to v.to u.text v.text w
      obtain ⟨Q, hQ⟩ : ∃ Q, (u.kind == v.kind && strEq u.text v.text && u.fr == v.fr && u.to == v.to) = Q := ⟨_, rfl⟩
      rw [hQ] at he
      have HQ := Lib.hid (show vaEq u v = Q from hQ)
      clear hQ
      cases Q with
      | true =>
        simp only [Bool.not_true] at he
        go_wp2
        refine wp_region_later (by kernel_rfl) (by kernel_rfl) ?_; (repeat (first | go_big_quiet_step (fail) | quiet_step (fail))); refine wpQuiet_nil ?_; rintro _ ⟨s, rfl⟩
        go_wp2
        go_roundw
        case rel => exact ⟨k + 1, by omega, by go_num, Lib.hid (hb.out.trans (s.below.mono hb.out.size)), Lib.hid (allz_step _ _ k (u, v) (zip_at GET.out GET2.out) hall.out HQ.out)⟩
        case measure => simp [intOf]; omega
      | false =>
        simp only [Bool.not_false] at he
        have HR := Lib.hid (HX.out k u v GET.out GET2.out HQ.out)
        go_wp2
        refine wp_region_later (by kernel_rfl) (by kernel_rfl) ?_; (repeat (first | go_big_quiet_step (fail) | quiet_step (fail))); refine wpQuiet_nil ?_; rintro _ ⟨s, rfl⟩
        go_wp2
        go_ret
        exact ⟨of_bool HR.out.symm, hb.out.trans (s.below.mono hb.out.size)⟩
    · obtain rfl : k = n := by omega
      have HR := Lib.hid (HT.out k rfl hall.out)
      go_wp2
      go_ret
      exact ⟨of_bool HR.out.symm, hb.out⟩

end Go.Proofs.YtleihhkacmgofabGreatDoor

/- Contracts of the specification's less and put. -/
namespace Go.Proofs.YtleihhkacmgofabGreatDoor
open Go.RowKit

theorem take_of_all {α : Type} (p : α → Bool) : ∀ (l : List α) (k : Nat), k ≤ l.length → (l.take k).all p = true → (∀ x, l[k]? = some x → p x = false) → l.takeWhile p = l.take k ∧ l.dropWhile p = l.drop k
  | [], k, hk, _, _ => by simp
  | x :: l, 0, _, _, h => by have := h x rfl; simp [this]
  | x :: l, k + 1, hk, ha, h => by
    simp only [List.take_succ_cons, List.all_cons, Bool.and_eq_true] at ha
    have ih := take_of_all p l k (by simpa using hk) ha.2 (fun y hy => h y (by simpa using hy))
    simp [ha.1, ih.1, ih.2]
theorem put_in {vs : List Va} {v : Va} {k : Nat} (hk : k ≤ vs.length) (ha : (vs.take k).all (fun x => vlt x v) = true) (h : ∀ x, vs[k]? = some x → vlt x v = false) (h2 : vs[k]? = none ∨ ∃ x, vs[k]? = some x ∧ veq x v = false) :
    putR vs v = vs.take k ++ [v] ++ vs.drop k := by
  obtain ⟨e1, e2⟩ := take_of_all (fun x => vlt x v) vs k hk ha h
  unfold putR
  rw [e1, e2, List.head?_drop]
  rcases h2 with h2 | ⟨x, h2, h3⟩
  · rw [h2]; simp
  · rw [h2]; simp [h3]
theorem put_had {vs : List Va} {v x : Va} {k : Nat} (ha : (vs.take k).all (fun x => vlt x v) = true) (h : vs[k]? = some x) (hx : vlt x v = false) (h3 : veq x v = true) :
    putR vs v = vs.take k ++ vs.drop k := by
  obtain ⟨e1, e2⟩ := take_of_all (fun x => vlt x v) vs k (by have := (List.getElem?_eq_some_iff.1 h).1; omega) ha (fun y hy => by rw [h] at hy; injection hy with hy; subst hy; exact hx)
  unfold putR
  rw [e1, e2, List.head?_drop, h]
  simp [h3]
theorem ValsAt.drop {w : World} {b o : Nat} {vs : List Va} (h : ValsAt w (some ⟨b, o, none⟩) vs) (k : Nat) : ValsAt w (some ⟨b, o + k * 4, none⟩) (vs.drop k) := fun j v hj => by
  rw [List.getElem?_drop] at hj
  obtain ⟨b', o', e, hlt, hv⟩ := h (k + j) v hj
  injection e with e; injection e with e1 e2
  subst e1 e2
  exact ⟨b, o + k * 4, rfl, hlt, by rw [show o + k * 4 + j * 4 = o + (k + j) * 4 by omega]; exact hv⟩

end Go.Proofs.YtleihhkacmgofabGreatDoor

/- The specification's Same, whatever the lists. -/
namespace Go.Proofs.YtleihhkacmgofabGreatDoor
open Go.RowKit

theorem two_below (w : World) (o1 o2 : Obj) : Below w.heap.size w ((w.alloc o1).alloc o2).drew := (((Below.refl _ _).alloc (Nat.le_refl _) o1).alloc (by simp) o2).drew
theorem two_first (w : World) (o1 o2 : Obj) : ((w.alloc o1).alloc o2).drew.heap[w.heap.size]? = some o1 := by
  show ((w.alloc o1).alloc o2).heap[w.heap.size]? = some o1
  rw [heap_alloc_other _ _ _ (by simp)]; exact heap_alloc_new _ _
theorem two_second (w : World) (o1 o2 : Obj) : ((w.alloc o1).alloc o2).drew.heap[w.heap.size + 1]? = some o2 := by
  show ((w.alloc o1).alloc o2).heap[w.heap.size + 1]? = some o2
  have := heap_alloc_new (w.alloc o1) o2
  simpa using this

set_option maxHeartbeats 3200000 in
set_option maxRecDepth 100000 in
theorem rsame_any (l2 l : Lm) (w : World) (hl2 : LmOk w l2) (hl : LmOk w l) (hvm : ∀ m ∈ l.ms, m.s.vals.length ≤ 1000000) (hvm2 : ∀ m ∈ l2.ms, m.s.vals.length ≤ 1000000) (hz : l.ms.length ≤ 1000000) (hz2 : l2.ms.length ≤ 1000000) :
    Calls Tryz.prog 10 #[l2.val, l.val] w fun e w' => e = .returned (.bool (liEq l2.li l.li)) ∧ Below w.heap.size w w' := by
  have hs := hl.signs
  have hs2 := hl2.signs
  have hlen := hl.len
  have hlen2 := hl2.len
  have hcap := hl.cap
  have hcap2 := hl2.cap
  unfold maxLen at hcap hcap2
  obtain ⟨per, ms, A, cap⟩ := l
  obtain ⟨per2, ms2, A2, cap2⟩ := l2
  dsimp only at hs hs2 hlen hlen2 hcap hcap2 hvm hvm2 hz hz2
  unfold Lm.val Lm.li Lm.signs
  dsimp only
  clear hl hl2
  have BA0 := Lib.hid (show Below w.heap.size w ((w.alloc (.cells #[.int .i64 per2, .slice A2 ms2.length cap2] 24)).alloc (.cells #[.int .i64 per, .slice A ms.length cap] 24)) from ((Below.refl _ _).alloc (Nat.le_refl _) _).alloc (by simp) _)
  by_cases hp : (per2 == per) = true
  case neg =>
    have hp : (per2 == per) = false := by simpa using hp
    have HF2 := Lib.hid (show liEq ⟨per2, ms2.map (·.s)⟩ ⟨per, ms.map (·.s)⟩ = false by unfold liEq; rw [hp]; rfl)
    go_enter Tryz.func10, Tryz.ntmps10
    go_wp2
    go_ret
    exact ⟨of_bool HF2.out.symm, BA0.out⟩
  have hper : per2 = per := by simpa using hp
  subst hper
  clear hp
  by_cases hln : ms2.length = ms.length
  case neg =>
    have HF2 := Lib.hid (show liEq ⟨per2, ms2.map (·.s)⟩ ⟨per2, ms.map (·.s)⟩ = false by unfold liEq; rw [eqUp_len _ _ _ (by simpa using hln), Bool.and_false])
    generalize ms2.length = m2 at hln hz2 hlen2 BA0 ⊢
    generalize ms.length = m1 at hln hz hlen BA0 ⊢
    have hne : ((m2 : Int) == (m1 : Int)) = false := by rw [beq_eq_false_iff_ne]; omega
    have hnn : ¬ m2 = m1 := hln
    go_enter Tryz.func10, Tryz.ntmps10
    go_wp2
    go_ret
    exact ⟨of_bool HF2.out.symm, BA0.out⟩
  have HT := Lib.hid (fun k (hk : k = ms.length) h0 => show liEq ⟨per2, ms2.map (·.s)⟩ ⟨per2, ms.map (·.s)⟩ = true by
    unfold liEq; rw [eqUp_true sgEq (ms2.map (·.s)) (ms.map (·.s)) k (by simpa using hln) (by simpa using hk.trans hln.symm) h0]; simp)
  have HX := Lib.hid (fun k u v h1 h2 h => show liEq ⟨per2, ms2.map (·.s)⟩ ⟨per2, ms.map (·.s)⟩ = false by
    unfold liEq; rw [eqUp_false sgEq (ms2.map (·.s)) (ms.map (·.s)) k u v h1 h2 h, Bool.and_false])
  clear hz hz2 BA0
  generalize liEq ⟨per2, ms2.map (·.s)⟩ ⟨per2, ms.map (·.s)⟩ = R at HT HX ⊢
  rw [hln] at hlen2 ⊢
  obtain ⟨n, hn⟩ : ∃ n, n = ms.length := ⟨_, rfl⟩
  rw [← hn] at hlen hlen2 HT ⊢
  have HN := Lib.hid hn
  have HN2 := Lib.hid (hn.trans hln.symm)
  clear hn hln
  go_enter Tryz.func10, Tryz.ntmps10
  go_wp2
  obtain ⟨W, hW⟩ : ∃ W, W = ((w.alloc (.cells #[.int .i64 per2, .slice A2 n cap2] 24)).alloc (.cells #[.int .i64 per2, .slice A n cap] 24)) := ⟨_, rfl⟩
  rw [← hW]
  have HB := Lib.hid (show Below w.heap.size w W from hW ▸ ((Below.refl _ _).alloc (Nat.le_refl _) _).alloc (by simp) _)
  have C2 := Lib.hid (show W.heap[w.heap.size]? = some (.cells #[.int .i64 per2, .slice A2 n cap2] 24 (0, 0)) by
    rw [hW, heap_alloc_other _ _ _ (by simp)]; exact heap_alloc_new _ _)
  have C1 := Lib.hid (show W.heap[w.heap.size + 1]? = some (.cells #[.int .i64 per2, .slice A n cap] 24 (0, 0)) by
    rw [hW]; have := heap_alloc_new (w.alloc (.cells #[.int .i64 per2, .slice A2 n cap2] 24)) (.cells #[.int .i64 per2, .slice A n cap] 24); simpa using this)
  clear hW
  go_loopw [5] (fun i wr => ∃ k : Nat, k ≤ n ∧ i = .int .i64 k ∧ Hid (Below W.heap.size W wr) ∧ Hid ((((ms2.map (·.s)).zip (ms.map (·.s))).take k).all (fun p => sgEq p.1 p.2) = true)) (fun i _ => n - (intOf i).toNat)
  case atStart => exact ⟨0, Nat.zero_le _, rfl, Lib.hid (Below.refl _ _), Lib.hid (by simp)⟩
  case round =>
    obtain ⟨k, hk, rfl, hb, hall⟩ := hrel
    have hw1 := Lib.hid (HB.out.trans (hb.out.mono HB.out.size))
    have D1 := Lib.hid (blk_keep hb.out C1.out)
    have D2 := Lib.hid (blk_keep hb.out C2.out)
    have x1 := cell_of_blk D1.out 1
    have x2 := cell_of_blk D2.out 1
    simp at x1 x2
    by_cases hlt : k < n
    · have hget : ms[k]? = some (ms[k]'(by have := HN.out; omega)) := List.getElem?_eq_getElem _
      obtain ⟨u, hu⟩ : ∃ u, u = ms[k]'(by have := HN.out; omega) := ⟨_, rfl⟩
      rw [← hu] at hget
      have hget2 : ms2[k]? = some (ms2[k]'(by have := HN2.out; omega)) := List.getElem?_eq_getElem _
      obtain ⟨v, hv⟩ : ∃ v, v = ms2[k]'(by have := HN2.out; omega) := ⟨_, rfl⟩
      rw [← hv] at hget2
      have GET := Lib.hid (show (ms.map (·.s))[k]? = some u.s by rw [List.getElem?_map, hget]; rfl)
      have GET2 := Lib.hid (show (ms2.map (·.s))[k]? = some v.s by rw [List.getElem?_map, hget2]; rfl)
      obtain ⟨b, o, hA, hb1, hva, hok⟩ := hs k u hget
      obtain ⟨b', o', hA', hb1', hva', hok'⟩ := hs2 k v hget2
      have hvl := hvm u (List.mem_of_getElem? hget)
      have hvl2 := hvm2 v (List.mem_of_getElem? hget2)
      obtain ⟨s, Au, cu⟩ := u
      obtain ⟨s', Av, cv⟩ := v
      dsimp only at hvl hvl2 GET GET2
      subst hA hA'
      have Y := Lib.hid (hva.below hw1.out hb1)
      have Z := Lib.hid (hva'.below hw1.out hb1')
      have OU := Lib.hid (hok.below hw1.out)
      have OV := Lib.hid (hok'.below hw1.out)
      have HVL := Lib.hid hvl
      have HVL2 := Lib.hid hvl2
      have hsb : b < wr.heap.size := by have := hw1.out.size; omega
      have hsb' : b' < wr.heap.size := by have := hw1.out.size; omega
      have hsw : w.heap.size + 1 < wr.heap.size := (Array.getElem?_eq_some_iff.1 D1.out).1
      clear hu hv hget hget2 hva hva' hok hok' hs hs2 hvm hvm2 hvl hvl2
      go_wp2
      have HK := Lib.hid (fun w' (hb : Below wr.heap.size wr w') => show w'.cell? ⟨w.heap.size, 1, none⟩ = some (.slice (some ⟨b', o', none⟩) n cap2) ∧ w'.cell? ⟨w.heap.size + 1, 1, none⟩ = some (.slice (some ⟨b, o, none⟩) n cap) ∧ w'.cell? ⟨b', o' + k * 5, none⟩ = some (.string s'.code) ∧ w'.cell? ⟨b', o' + k * 5 + 1, none⟩ = some (.int .i64 s'.wide) ∧ w'.cell? ⟨b', o' + k * 5 + 2, none⟩ = some (.int .i64 s'.high) ∧ w'.cell? ⟨b', o' + k * 5 + 3, none⟩ = some (.bool s'.even) ∧ w'.cell? ⟨b', o' + k * 5 + 4, none⟩ = some (.slice Av s'.vals.length cv) ∧ w'.cell? ⟨b, o + k * 5, none⟩ = some (.string s.code) ∧ w'.cell? ⟨b, o + k * 5 + 1, none⟩ = some (.int .i64 s.wide) ∧ w'.cell? ⟨b, o + k * 5 + 2, none⟩ = some (.int .i64 s.high) ∧ w'.cell? ⟨b, o + k * 5 + 3, none⟩ = some (.bool s.even) ∧ w'.cell? ⟨b, o + k * 5 + 4, none⟩ = some (.slice Au s.vals.length cu) ∧ Below wr.heap.size wr w' from
        ⟨cell_of_blk (blk_keep hb D2.out) 1, cell_of_blk (blk_keep hb D1.out) 1, (Z.out.below hb hsb').c0, (Z.out.below hb hsb').c1, (Z.out.below hb hsb').c2, (Z.out.below hb hsb').c3, (Z.out.below hb hsb').c4,
          (Y.out.below hb hsb).c0, (Y.out.below hb hsb).c1, (Y.out.below hb hsb).c2, (Y.out.below hb hsb).c3, (Y.out.below hb hsb).c4, hb⟩)
      have HSB := Lib.hid (fun w' (h : w'.cell? ⟨w.heap.size, 1, none⟩ = some (.slice (some ⟨b', o', none⟩) n cap2) ∧ w'.cell? ⟨w.heap.size + 1, 1, none⟩ = some (.slice (some ⟨b, o, none⟩) n cap) ∧ w'.cell? ⟨b', o' + k * 5, none⟩ = some (.string s'.code) ∧ w'.cell? ⟨b', o' + k * 5 + 1, none⟩ = some (.int .i64 s'.wide) ∧ w'.cell? ⟨b', o' + k * 5 + 2, none⟩ = some (.int .i64 s'.high) ∧ w'.cell? ⟨b', o' + k * 5 + 3, none⟩ = some (.bool s'.even) ∧ w'.cell? ⟨b', o' + k * 5 + 4, none⟩ = some (.slice Av s'.vals.length cv) ∧ w'.cell? ⟨b, o + k * 5, none⟩ = some (.string s.code) ∧ w'.cell? ⟨b, o + k * 5 + 1, none⟩ = some (.int .i64 s.wide) ∧ w'.cell? ⟨b, o + k * 5 + 2, none⟩ = some (.int .i64 s.high) ∧ w'.cell? ⟨b, o + k * 5 + 3, none⟩ = some (.bool s.even) ∧ w'.cell? ⟨b, o + k * 5 + 4, none⟩ = some (.slice Au s.vals.length cu) ∧ Below wr.heap.size wr w') => h.2.2.2.2.2.2.2.2.2.2.2.2)
      have HDR := Lib.hid (show Below wr.heap.size wr wr.drew from (Below.refl _ _).drew)
      go_cut [6, 7] (fun p q wx => ∃ x y, p = .pointer (some ⟨x, 0, none⟩) ∧ q = .pointer (some ⟨y, 0, none⟩) ∧ Hid (Below wr.heap.size wr wx) ∧ Hid (wx.heap[x]? = some (.cells #[.string s'.code, .int .i64 s'.wide, .int .i64 s'.high, .bool s'.even, .slice Av s'.vals.length cv] 38 (0, 0))) ∧ Hid (wx.heap[y]? = some (.cells #[.string s.code, .int .i64 s.wide, .int .i64 s.high, .bool s.even, .slice Au s.vals.length cu] 38 (0, 0))))
      case first =>
        go_region_held3 (fun w' => w'.cell? ⟨w.heap.size, 1, none⟩ = some (.slice (some ⟨b', o', none⟩) n cap2) ∧ w'.cell? ⟨w.heap.size + 1, 1, none⟩ = some (.slice (some ⟨b, o, none⟩) n cap) ∧ w'.cell? ⟨b', o' + k * 5, none⟩ = some (.string s'.code) ∧ w'.cell? ⟨b', o' + k * 5 + 1, none⟩ = some (.int .i64 s'.wide) ∧ w'.cell? ⟨b', o' + k * 5 + 2, none⟩ = some (.int .i64 s'.high) ∧ w'.cell? ⟨b', o' + k * 5 + 3, none⟩ = some (.bool s'.even) ∧ w'.cell? ⟨b', o' + k * 5 + 4, none⟩ = some (.slice Av s'.vals.length cv) ∧ w'.cell? ⟨b, o + k * 5, none⟩ = some (.string s.code) ∧ w'.cell? ⟨b, o + k * 5 + 1, none⟩ = some (.int .i64 s.wide) ∧ w'.cell? ⟨b, o + k * 5 + 2, none⟩ = some (.int .i64 s.high) ∧ w'.cell? ⟨b, o + k * 5 + 3, none⟩ = some (.bool s.even) ∧ w'.cell? ⟨b, o + k * 5 + 4, none⟩ = some (.slice Au s.vals.length cu) ∧ Below wr.heap.size wr w')
          ((refine HK.out _ ?_; repeat (first | exact Below.refl _ _ | refine Below.drew ?_ | refine Below.alloc ?_ (by simp <;> omega) _ | refine Below.setCell ?_ (by simp <;> omega) _)))
          (fail)
        all_goals go_wp2
        all_goals go_meet
        · exact ⟨wr.heap.size, wr.heap.size + 1, rfl, rfl, Lib.hid (two_below _ _ _), Lib.hid (two_first _ _ _), Lib.hid (two_second _ _ _)⟩
        · exact ⟨wr.heap.size + 1, wr.heap.size, rfl, rfl, Lib.hid (two_below _ _ _), Lib.hid (two_second _ _ _), Lib.hid (two_first _ _ _)⟩
      case rest =>
      obtain ⟨x, y, rfl, rfl, hbc, hbx, hby⟩ := hcut
      clear HK HSB HDR x1 x2
      have p0 := cell_of_blk hbx.out 0
      have p1 := cell_of_blk hbx.out 1
      have p2 := cell_of_blk hbx.out 2
      have p3 := cell_of_blk hbx.out 3
      have p4 := cell_of_blk hbx.out 4
      have q0 := cell_of_blk hby.out 0
      have q1 := cell_of_blk hby.out 1
      have q2 := cell_of_blk hby.out 2
      have q3 := cell_of_blk hby.out 3
      have q4 := cell_of_blk hby.out 4
      simp at p0 p1 p2 p3 p4 q0 q1 q2 q3 q4
      have HEQ := Lib.hid (show sgEq s' s = (strEq s'.code s.code && ((s'.wide == s.wide) && (s'.high == s.high) && (s'.even == s.even)) && eqUp vaEq s'.vals s.vals) from rfl)
      have HNO := Lib.hid (fun h => HX.out k _ _ GET2.out GET.out h)
      have hbo := Lib.hid (HB.out.trans ((hb.out.trans (hbc.out.mono hb.out.size)).mono HB.out.size))
      by_cases c1 : (s'.code.toList == s.code.toList) = true
      case neg =>
        have c1 : (s'.code.toList == s.code.toList) = false := by simpa using c1
        have HR := Lib.hid (HNO.out (by rw [HEQ.out]; unfold strEq; rw [c1]; rfl))
        go_wp2
        go_ret
        exact ⟨of_bool HR.out.symm, hbo.out⟩
      by_cases c2 : (s'.wide == s.wide) = true
      case neg =>
        have c2 : (s'.wide == s.wide) = false := by simpa using c2
        have nc2 : (s'.wide != s.wide) = true := by unfold bne; rw [c2]; rfl
        have HR := Lib.hid (HNO.out (by rw [HEQ.out, c2]; simp))
        go_wp2
        go_ret
        exact ⟨of_bool HR.out.symm, hbo.out⟩
      have nc2 : (s'.wide != s.wide) = false := by unfold bne; rw [c2]; rfl
      by_cases c3 : (s'.high == s.high) = true
      case neg =>
        have c3 : (s'.high == s.high) = false := by simpa using c3
        have nc3 : (s'.high != s.high) = true := by unfold bne; rw [c3]; rfl
        have HR := Lib.hid (HNO.out (by rw [HEQ.out, c3]; simp))
        go_wp2
        go_ret
        exact ⟨of_bool HR.out.symm, hbo.out⟩
      have nc3 : (s'.high != s.high) = false := by unfold bne; rw [c3]; rfl
      by_cases c4 : (s'.even == s.even) = true
      case neg =>
        have c4 : (s'.even == s.even) = false := by simpa using c4
        have nc4 : (s'.even != s.even) = true := by unfold bne; rw [c4]; rfl
        have HR := Lib.hid (HNO.out (by rw [HEQ.out, c4]; simp))
        go_wp2
        go_ret
        exact ⟨of_bool HR.out.symm, hbo.out⟩
      have nc4 : (s'.even != s.even) = false := by unfold bne; rw [c4]; rfl
      have HEQ2 := Lib.hid (show sgEq s' s = eqUp vaEq s'.vals s.vals by rw [HEQ.out]; unfold strEq; rw [c1, c2, c3, c4]; simp)
      have HSV := Lib.hid (fun w (h : SmOk w ⟨s', Av, cv⟩) (h2 : SmOk w ⟨s, Au, cu⟩) => rsameVals_any Av Au cv cu s'.vals s.vals w h.vals h2.vals HVL2.out HVL.out)
      obtain ⟨Q, hQ⟩ : ∃ Q, eqUp vaEq s'.vals s.vals = Q := ⟨_, rfl⟩
      rw [hQ] at HSV HEQ2
      clear hQ
      go_wp2_with fail
      refine (HSV.out _ (OV.out.below hbc.out) (OU.out.below hbc.out)).mono ?_; rintro e w5 ⟨rfl, hb5⟩
      have b5 := Lib.hid (below_more hbc.out hb5)
      clear hb5 p0 p1 p2 p3 p4 q0 q1 q2 q3 q4
      cases Q with
      | false =>
        have HR := Lib.hid (HNO.out HEQ2.out)
        go_wp2_with fail
        go_ret
        exact ⟨of_bool HR.out.symm, HB.out.trans ((hb.out.trans (b5.out.mono hb.out.size)).mono HB.out.size)⟩
      | true =>
        go_wp2_with fail
        go_roundw
        case rel => exact ⟨k + 1, by omega, by go_num, Lib.hid (hb.out.trans (b5.out.mono hb.out.size)), Lib.hid (allz_step _ _ k (_, _) (zip_at GET2.out GET.out) hall.out HEQ2.out)⟩
        case measure => simp [intOf]; omega
    · obtain rfl : k = n := by omega
      have HR := Lib.hid (HT.out k rfl hall.out)
      go_wp2
      go_ret
      exact ⟨of_bool HR.out.symm, hw1.out⟩

end Go.Proofs.YtleihhkacmgofabGreatDoor

/- Contract of Big. -/
namespace Go.Proofs.YtleihhkacmgofabGreatDoor
open Go.RowKit

def vaBig (v : Va) : Bool := decide (100 < v.text.size)
def sgBig (s : Sg) : Bool := decide (20 < s.vals.length) || decide (100 < s.code.size) || s.vals.any vaBig
def bigB (l : List Sg) : Bool := decide (210 < l.length) || l.any sgBig
theorem sgBig_of {s : Sg} (h1 : s.vals.length ≤ 20) (h2 : s.code.size ≤ 100) : sgBig s = s.vals.any vaBig := by
  simp [sgBig, Nat.not_lt.2 h1, Nat.not_lt.2 h2]

set_option maxHeartbeats 1600000 in
theorem big_any (l : Lm) (w : World) (hl : LmOk w l) :
    Calls Tryz.prog 15 #[l.val] w fun e w' => e = .returned (.bool (bigB l.signs)) ∧ Below w.heap.size w w' := by
  have hs := hl.signs
  obtain ⟨per, ms, A, cap⟩ := l
  obtain ⟨-, hlen, hcap⟩ := hl
  dsimp only at hs hlen hcap
  unfold Lm.val Lm.signs
  dsimp only
  obtain ⟨n, hn⟩ : ∃ n, n = ms.length := ⟨_, rfl⟩
  rw [← hn] at hlen ⊢
  have hcap' := hcap
  unfold maxLen at hcap'
  have HN := Lib.hid hn
  have HNL := Lib.hid (show (ms.map (·.s)).length = n by rw [List.length_map]; exact hn.symm)
  clear hn
  by_cases h1 : n ≤ 210
  case neg =>
    have hf := Lib.hid (show bigB (ms.map (·.s)) = true by simp [bigB, HNL.out]; exact .inl (by have := HN.out; omega))
    go_enter Tryz.func15, Tryz.ntmps15
    go_wp2
    go_ret
    exact ⟨of_bool hf.out.symm, below_alloc _ _⟩
  have HF := Lib.hid (show bigB (ms.map (·.s)) = (ms.map (·.s)).any sgBig by unfold bigB; rw [HNL.out]; simp [Nat.not_lt.2 h1])
  go_enter Tryz.func15, Tryz.ntmps15
  go_wp2
  have HWb := Lib.hid (below_alloc w (.cells #[.int .i64 per, .slice A n cap] 24))
  go_loop [3] (fun i => ∃ k : Nat, k ≤ n ∧ i = .int .i64 k ∧ Hid (((ms.map (·.s)).take k).any sgBig = false)) (fun i => n - (intOf i).toNat)
  case atStart => exact ⟨0, Nat.zero_le _, rfl, Lib.hid (by simp)⟩
  case round =>
    obtain ⟨k, hk, rfl, hno⟩ := hrel
    by_cases hlt : k < n
    · have hget : ms[k]? = some (ms[k]'(by have := HN.out; omega)) := List.getElem?_eq_getElem _
      obtain ⟨u, hu⟩ : ∃ u, u = ms[k]'(by have := HN.out; omega) := ⟨_, rfl⟩
      rw [← hu] at hget
      obtain ⟨b, o, hA, hb1, hva, hok⟩ := hs k u hget
      subst hA
      obtain ⟨y0, y1, y2, y3, y4⟩ := hva.below HWb.out hb1
      have GET := Lib.hid (show (ms.map (·.s))[k]? = some u.s by rw [List.getElem?_map, hget]; rfl)
      obtain ⟨hvs, hvl, hvc, hcode⟩ := hok
      obtain ⟨⟨code, wide, high, even, vs⟩, A', cap'⟩ := u
      dsimp only at y0 y1 y2 y3 y4 hvs hvl hvc hcode GET
      obtain ⟨m, hm⟩ : ∃ m, m = vs.length := ⟨_, rfl⟩
      rw [← hm] at hvl y4
      have HM := Lib.hid hm
      unfold maxLen at hvc hcode
      have hsb : b < w.heap.size + 1 := by omega
      clear hu hget hva hs hm
      by_cases h20 : m ≤ 20
      case neg =>
        have hfin := Lib.hid (any_true sgBig _ k _ GET.out (by simp [sgBig]; exact .inl (.inl (by have := HM.out; omega))))
        go_wp2
        go_ret
        exact ⟨of_bool (by rw [HF.out, hfin.out]), HWb.out⟩
      by_cases h100 : code.size ≤ 100
      case neg =>
        have hfin := Lib.hid (any_true sgBig _ k _ GET.out (by simp [sgBig]; exact .inl (.inr (by omega))))
        go_wp2
        go_ret
        exact ⟨of_bool (by rw [HF.out, hfin.out]), HWb.out⟩
      have HS := Lib.hid (sgBig_of (s := ⟨code, wide, high, even, vs⟩) (by have := HM.out; dsimp only; omega) (by dsimp only; omega))
      go_wp2
      go_loop [4] (fun i => ∃ j : Nat, j ≤ m ∧ i = .int .i64 j ∧ Hid ((vs.take j).any vaBig = false)) (fun i => m - (intOf i).toNat)
      case atStart => exact ⟨0, Nat.zero_le _, rfl, Lib.hid (by simp)⟩
      case round =>
        obtain ⟨j, hj, rfl, hno2⟩ := hrel
        by_cases hlt2 : j < m
        · have hget : vs[j]? = some (vs[j]'(by have := HM.out; omega)) := List.getElem?_eq_getElem _
          obtain ⟨x, hx⟩ : ∃ x, x = vs[j]'(by have := HM.out; omega) := ⟨_, rfl⟩
          rw [← hx] at hget
          obtain ⟨b2, o2, hA2, hb2, hva2⟩ := hvs j x hget
          subst hA2
          obtain ⟨z0, z1, z2, z3, zsz⟩ := hva2.below HWb.out hb2
          have GET2 := Lib.hid hget
          unfold maxLen at zsz
          have hsb2 : b2 < w.heap.size + 1 := by omega
          clear hx hget hva2 hvs
          by_cases ht : x.text.size ≤ 100
          case neg =>
            have hfin := Lib.hid (any_true sgBig _ k _ GET.out (by rw [HS.out]; exact any_true vaBig _ j x GET2.out (by simp [vaBig]; omega)))
            go_wp2
            go_ret
            exact ⟨of_bool (by rw [HF.out, hfin.out]), HWb.out⟩
          have hst := Lib.hid (any_step vaBig _ j x GET2.out hno2.out (by simp [vaBig]; omega))
          go_wp2
          go_round
          case rel => exact ⟨j + 1, by omega, by go_num, hst⟩
          case measure => simp [intOf]; omega
        · obtain rfl : j = m := by omega
          have hst := Lib.hid (any_step sgBig _ k _ GET.out hno.out (by rw [HS.out]; have := hno2.out; rw [HM.out, List.take_length] at this; exact this))
          go_wp2
          go_round
          case rel => exact ⟨k + 1, by omega, by go_num, hst⟩
          case measure => simp [intOf]; omega
    · obtain rfl : k = n := by omega
      have hfin := Lib.hid (show (ms.map (·.s)).any sgBig = false by have := hno.out; rw [← HNL.out, List.take_length] at this; exact this)
      go_wp2
      go_ret
      exact ⟨of_bool (by rw [HF.out, hfin.out]), HWb.out⟩
theorem big_is (l : Lm) (w : World) (hl : LmOk w l) (r : Bool) (h : bigB l.signs = r) :
    Calls Tryz.prog 15 #[l.val] w fun e w' => e = .returned (.bool r) ∧ Below w.heap.size w w' := by
  rw [← h]; exact big_any l w hl
theorem not_big {l : Lm} (h : bigB l.signs = false) : l.ms.length ≤ 210 ∧ ∀ m ∈ l.ms, m.s.vals.length ≤ 20 ∧ m.s.code.size ≤ 100 ∧ ∀ v ∈ m.s.vals, v.text.size ≤ 100 := by
  simp only [bigB, Bool.or_eq_false_iff, decide_eq_false_iff_not] at h
  rw [Lm.length_signs] at h
  refine ⟨by omega, fun m hm => ?_⟩
  have h2 := List.any_eq_false.1 h.2 m.s (List.mem_map.2 ⟨m, hm, rfl⟩)
  simp [sgBig, vaBig] at h2
  refine ⟨by omega, by omega, fun v hv => ?_⟩
  have := h2.2 v hv
  omega

end Go.Proofs.YtleihhkacmgofabGreatDoor

/- The map by which Find and Merge go: the number of each code. -/
namespace Go.Proofs.YtleihhkacmgofabGreatDoor
open Go.RowKit Go.Maps Go.WideMaps

/-- the last place of a code -/
def lastF (c : ByteArray) : Nat → Int → List Sg → Int
  | _, a, [] => a
  | i, a, s :: r => lastF c (i + 1) (if strEq s.code c then (i : Int) else a) r
theorem lastF_snoc (c : ByteArray) (s : Sg) : ∀ (l : List Sg) (i : Nat) (a : Int), lastF c i a (l ++ [s]) = if strEq s.code c then ((i + l.length : Nat) : Int) else lastF c i a l
  | [], i, a => by simp [lastF]
  | x :: l, i, a => by
    rw [List.cons_append, lastF, lastF_snoc c s l (i + 1), lastF, List.length_cons, show i + 1 + l.length = i + (l.length + 1) by omega]
theorem lastF_no (c : ByteArray) : ∀ (l : List Sg) (i : Nat) (a : Int), l.any (fun s => strEq s.code c) = false → lastF c i a l = a
  | [], _, _, _ => rfl
  | x :: l, i, a, h => by
    simp only [List.any_cons, Bool.or_eq_false_iff] at h
    rw [lastF, h.1, lastF_no c l (i + 1) _ h.2]; rfl
theorem strEq_trans {a b c : ByteArray} (h1 : strEq a c = true) (h2 : strEq b c = true) : strEq b a = true := by
  unfold strEq at *
  simp at *
  rw [h1, h2]
/-- in a list whose signs are without error the last place of a code is the first -/
theorem last_first (p : Int) (c : ByteArray) : ∀ (r done : List Sg), signsErr p done r = 0 → ∀ (i : Nat) (a : Int), r.any (fun s => strEq s.code c) = true →
    ∃ k, k < r.length ∧ lastF c i a r = (i + k : Nat) ∧ r.findIdx? (fun s => strEq s.code c) = some k
  | [], _, _, _, _, h => by simp at h
  | s :: r, done, h, i, a, ha => by
    unfold signsErr at h
    split at h
    · exact absurd h (by decide)
    · rename_i hok
      split at h
      · by_cases hs : strEq s.code c = true
        · refine ⟨0, by simp, ?_, by simp [List.findIdx?_cons, hs]⟩
          have hno : r.any (fun t => strEq t.code c) = false := by
            cases hr : r.any (fun t => strEq t.code c) with
            | false => rfl
            | true =>
              exfalso
              obtain ⟨t, ht, htc⟩ := List.any_eq_true.1 hr
              exact no_twice p t s (strEq_trans htc hs) r (done ++ [s]) h ht (by simp)
          rw [lastF, lastF_no c r _ _ hno, if_pos hs]; rfl
        · have hs : strEq s.code c = false := by simpa using hs
          rw [List.any_cons, hs, Bool.false_or] at ha
          obtain ⟨k, hk, h1, h2⟩ := last_first p c r (done ++ [s]) h (i + 1) (if strEq s.code c then (i : Int) else a) ha
          refine ⟨k + 1, by simpa using hk, ?_, by simp [List.findIdx?_cons, hs, h2]⟩
          rw [lastF, h1]; congr 1; omega
      · exact absurd h (by assumption)
where
  no_twice (p : Int) (t s : Sg) (hts : strEq s.code t.code = true) : ∀ (r done : List Sg), signsErr p done r = 0 → t ∈ r → s ∈ done → False
  | [], _, _, ht, _ => by simp at ht
  | x :: r, done, h, ht, hs => by
    unfold signsErr at h
    split at h
    · exact absurd h (by decide)
    · rename_i hok
      split at h
      · rcases List.mem_cons.1 ht with e | ht
        · subst e
          have : done.any (fun d => strEq d.code t.code) = true := List.any_eq_true.2 ⟨s, hs, hts⟩
          rw [this] at hok
          simp at hok
        · exact no_twice p t s hts r (done ++ [x]) h ht (by simp [hs])
      · exact absurd h (by assumption)

theorem zeroInt (w : World) : (zeroValue 3).run Tryz.prog w = .ok (.int .i64 0) w := by kernel_rfl
theorem mkNum (n : Int) (w : World) : (Instr.makeMap 51 (some (.int .i64 n))).run Tryz.prog w = .ok (.map (some w.heap.size)) (w.alloc (.map #[] 0)) := by
  simp [Instr.makeMap, run_underlying Tryz.underlying51, go_sem]

/-- block b holds the numbers of the codes of ss -/
def NumAt (w : World) (b k : Nat) (ss : List Sg) : Prop :=
  ∃ D : DataW Unit, w.ownsMap Tryz.prog 9 (plainElem Tryz.prog 3) b k D ∧ ∀ c : ByteArray, D.atKey (.string c.data.toList) (.lit (.int .i64 0)) = .lit (.int .i64 (lastF c 0 0 ss)) ∧ Maps.has D (.string c.data.toList) = ss.any (fun s => strEq s.code c)
theorem NumAt.new (w : World) : NumAt (w.alloc (.map #[] 0)) w.heap.size 0 [] :=
  ⟨_, World.ownsMap_made w _ _ _, fun c => ⟨by simp [DataW.atKey, lastF], by rfl⟩⟩
theorem NumAt.alloc {w : World} {b k : Nat} {ss : List Sg} (h : NumAt w b k ss) (o : Obj) : NumAt (w.alloc o) b k ss := by
  obtain ⟨D, h1, h2⟩ := h
  exact ⟨D, h1.alloc o, h2⟩
theorem NumAt.look {w : World} {b k : Nat} {ss : List Sg} (h : NumAt w b k ss) {c : ByteArray} (hc : c.size ≤ maxLen) :
    (Instr.lookup 51 (.map (some b)) (.string c) true).run Tryz.prog w = .ok (.tuple #[.int .i64 (lastF c 0 0 ss), .bool (ss.any fun s => strEq s.code c)]) w := by
  obtain ⟨D, h1, h2⟩ := h
  obtain ⟨v, ps, hrun, hv⟩ := h1.look_ok keyedS Tryz.underlying51 (zeroInt w) (plainElem_int Tryz.underlying3 (a := 0) (by decide)) (keyOf_string_mk Tryz.underlying9 hc)
  rw [(h2 c).1] at hv
  obtain ⟨r, rfl, hz, _⟩ := plainElem_int_inv Tryz.underlying3 hv
  simp only [Prod.mk.injEq, DataW.lit.injEq, Lit.int.injEq, true_and] at hz
  rw [hrun, (h2 c).2, hz.1]
theorem NumAt.put {w : World} {b k : Nat} {ss : List Sg} (h : NumAt w b k ss) {s : Sg} (hc : s.code.size ≤ maxLen) (hk : k < maxLen) (hl : ss.length ≤ 1000000) :
    ∃ w', (Instr.mapUpdate 51 (.map (some b)) (.string s.code) (.int .i64 (ss.length : Int))).run Tryz.prog w = .ok () w' ∧ NumAt w' b (k + 1) (ss ++ [s]) ∧ w.grownBy w' (some b) := by
  obtain ⟨D, h1, h2⟩ := h
  have hwf : (Lit.int .i64 (ss.length : Int)).wf = true := by
    have h1 : IntKind.i64.min = -9223372036854775808 := by decide
    have h2 : IntKind.i64.max = 9223372036854775807 := by decide
    simp [Lit.wf, h1, h2]; omega
  obtain ⟨w', hrun, hown, hg⟩ := h1.update keyedS Tryz.underlying51 hk (keyOf_string_mk Tryz.underlying9 hc) (plainElem_int Tryz.underlying3 hwf)
  refine ⟨w', hrun, ⟨_, hown, fun c => ?_⟩, hg⟩
  by_cases hcs : c.data.toList = s.code.data.toList
  · have hse : strEq s.code c = true := by rw [strEq_iff]; simp [hcs]
    rw [hcs, atKey_put_same h1.isMap (keyedS.key (keyOf_string_mk Tryz.underlying9 hc)), has_put_same h1.isMap (keyedS.key (keyOf_string_mk Tryz.underlying9 hc))]
    exact ⟨by rw [lastF_snoc, hse]; simp, by simp [hse]⟩
  · have hne : Lit.string c.data.toList ≠ Lit.string s.code.data.toList := by intro e; injection e with e; exact hcs e
    have hse : strEq s.code c = false := by rw [strEq_iff]; simpa using fun e => hcs (by rw [e])
    rw [atKey_put_other hne, has_put_other hne, (h2 c).1, (h2 c).2]
    exact ⟨by rw [lastF_snoc, hse]; simp, by simp [hse]⟩

set_option maxHeartbeats 1600000 in
theorem numbers_any (l : Lm) (w : World) (hl : LmOk w l) (hsm : l.ms.length ≤ 1000000) :
    Calls Tryz.prog 22 #[.slice l.A l.ms.length l.cap] w fun e w' => ∃ b, e = .returned (.map (some b)) ∧ NumAt w' b l.ms.length l.signs ∧ Below w.heap.size w w' := by
  have hs := hl.signs
  obtain ⟨per, ms, A, cap⟩ := l
  obtain ⟨-, hlen, hcap⟩ := hl
  dsimp only at hs hlen hcap hsm
  unfold Lm.signs
  dsimp only
  obtain ⟨n, hn⟩ : ∃ n, n = ms.length := ⟨_, rfl⟩
  rw [← hn] at hlen hsm ⊢
  have hcap' := hcap
  unfold maxLen at hcap'
  have HN := Lib.hid hn
  clear hn
  have hmk := fun (n : Int) (w : World) => mkNum n w
  go_enter Tryz.func22, Tryz.ntmps22
  go_wp2
  clear hmk
  go_loopw [11] (fun i wr => ∃ k : Nat, k ≤ n ∧ i = .int .i64 k ∧ Hid (Below w.heap.size w wr) ∧ Hid (w.heap.size < wr.heap.size) ∧ Hid (NumAt wr w.heap.size k ((ms.map (·.s)).take k))) (fun i _ => n - (intOf i).toNat)
  case atStart => exact ⟨0, Nat.zero_le _, rfl, Lib.hid (below_alloc _ _), Lib.hid (by simp), Lib.hid (by simpa using NumAt.new w)⟩
  case round =>
    obtain ⟨k, hk, rfl, hb, hsz, hnum⟩ := hrel
    by_cases hlt : k < n
    · have hget : ms[k]? = some (ms[k]'(by have := HN.out; omega)) := List.getElem?_eq_getElem _
      obtain ⟨u, hu⟩ : ∃ u, u = ms[k]'(by have := HN.out; omega) := ⟨_, rfl⟩
      rw [← hu] at hget
      obtain ⟨b, o, hA, hb1, hva, hok⟩ := hs k u hget
      subst hA
      obtain ⟨y0, y1, y2, y3, y4⟩ := hva.below hb.out hb1
      have GET := Lib.hid (show (ms.map (·.s))[k]? = some u.s by rw [List.getElem?_map, hget]; rfl)
      have hsb : b < wr.heap.size := by have := hb.out.size; omega
      have hsnd := Lib.hid (show ((ms.map (·.s)).take k) ++ [u.s] = (ms.map (·.s)).take (k + 1) by
        obtain ⟨hk', e⟩ := List.getElem?_eq_some_iff.1 GET.out
        rw [List.take_succ_eq_append_getElem hk', e])
      have htl : ((ms.map (·.s)).take k).length = k := by rw [List.length_take, List.length_map]; have := HN.out; omega
      obtain ⟨box, hbox⟩ : ∃ box, box = Obj.cells #[.string u.s.code, .int .i64 u.s.wide, .int .i64 u.s.high, .bool u.s.even, .slice u.A u.s.vals.length u.cap] 38 := ⟨_, rfl⟩
      obtain ⟨w1, hput, hnum1, hgrow⟩ := (hnum.out.alloc box).put (s := u.s) hok.code (by unfold maxLen; omega) (by omega)
      rw [htl] at hput
      have hb2 := Lib.hid (show Below w.heap.size w w1 from (hb.out.alloc (Nat.le_of_lt hsz.out) box).grown hgrow (by have := hsz.out; simp; omega) (by intro g hg; injection hg with hg; omega))
      have hs1 := Lib.hid (show w.heap.size < w1.heap.size by have h1 := hgrow.size; have := hsz.out; simp at h1; omega)
      have HNUM := Lib.hid hnum1
      subst hbox
      clear hu hget hva hok hs hnum1 hgrow htl
      go_wp2
      go_roundw
      case rel => exact ⟨k + 1, by omega, by go_num, hb2, hs1, Lib.hid (by rw [← hsnd.out]; exact HNUM.out)⟩
      case measure => simp [intOf]; omega
    · obtain rfl : k = n := by omega
      have hT := Lib.hid (show (ms.map (·.s)).take k = ms.map (·.s) by rw [HN.out, ← List.length_map (f := (·.s)), List.take_length])
      go_wp2
      go_ret
      exact ⟨_, rfl, by rw [← hT.out]; exact hnum.out, hb.out⟩

theorem signs_ok {l : Li} (h : checkErr l = 0) : signsErr l.per [] l.signs = 0 := by
  unfold checkErr at h
  split at h
  · exact absurd h (by decide)
  · split at h
    · exact absurd h (by decide)
    · exact h
theorem find_last {l : Li} (h : checkErr l = 0) (c : ByteArray) :
    (l.signs.any (fun s => strEq s.code c) = true ∧ indexI l.signs c = lastF c 0 0 l.signs ∧ 0 ≤ indexI l.signs c) ∨ (l.signs.any (fun s => strEq s.code c) = false ∧ indexI l.signs c = -1) := by
  cases ha : l.signs.any (fun s => strEq s.code c) with
  | false => exact .inr ⟨rfl, indexI_none _ _ ha⟩
  | true =>
    obtain ⟨k, _, h1, h2⟩ := last_first l.per c l.signs [] (signs_ok h) 0 0 ha
    refine .inl ⟨rfl, ?_, ?_⟩
    · rw [h1]; simp [indexI, h2]
    · simp [indexI, h2]

end Go.Proofs.YtleihhkacmgofabGreatDoor

/- Contract of sameShape. -/
namespace Go.Proofs.YtleihhkacmgofabGreatDoor
open Go.RowKit

theorem shape_is (m m2 : Sm) (w : World) (r : Bool) (h : shapeEq m.s m2.s = r) :
    Calls Tryz.prog 23 #[m.val, m2.val] w fun e w' => e = .returned (.bool r) ∧ Below w.heap.size w w' := by
  rw [← h]
  obtain ⟨⟨code, wide, high, even, vs⟩, A, cap⟩ := m
  obtain ⟨⟨code2, wide2, high2, even2, vs2⟩, A2, cap2⟩ := m2
  unfold Sm.val shapeEq
  dsimp only
  go_enter Tryz.func23, Tryz.ntmps23
  go_wp2
  all_goals go_ret
  all_goals refine ⟨?_, ((Below.refl _ _).alloc (Nat.le_refl _) _).alloc (by simp) _⟩
  all_goals simp [*]

end Go.Proofs.YtleihhkacmgofabGreatDoor

/- Contract of the specification's Find. -/
namespace Go.Proofs.YtleihhkacmgofabGreatDoor
open Go.RowKit Go.Maps Go.WideMaps

/-- Find -/
def findR (l : Li) (c : ByteArray) : Int × Int := if checkErr l ≠ 0 then (0, checkErr l) else if indexI l.signs c < 0 then (0, 3) else (indexI l.signs c, 0)
theorem ret_ii {a b : Int} {p : Int × Int} (h : (a, b) = p) : Ending.returned (.tuple #[.int .i64 a, .int .i64 b]) = .returned (.tuple #[.int .i64 p.1, .int .i64 p.2]) := by rw [← h]

set_option maxHeartbeats 1600000 in
theorem rfind_any (l : Lm) (c : ByteArray) (w : World) (hl : LmOk w l) :
    Calls Tryz.prog 11 #[l.val, .string c] w fun e w' => e = .returned (.tuple #[.int .i64 (findR l.li c).1, .int .i64 (findR l.li c).2]) ∧ Below w.heap.size w w' := by
  have H0 := Lib.hid (show LmOk (w.alloc (.cells #[.int .i64 l.per, .slice l.A l.ms.length l.cap] 24)) l from hl.below (below_alloc _ _))
  have C0 := Lib.hid (heap_alloc_new w (.cells #[.int .i64 l.per, .slice l.A l.ms.length l.cap] 24))
  have HCK := Lib.hid (fun (w : World) (hl : LmOk w l) (r : Int) (h : checkErr l.li = r) => show Calls Tryz.prog 5 #[.agg #[.int .i64 l.per, .slice l.A l.ms.length l.cap]] w (fun e w' => e = .returned (.int .i64 r) ∧ Below w.heap.size w w') by rw [← h]; exact rcheck_any l w hl)
  have HIX := Lib.hid (fun (w : World) (hl : LmOk w l) (r : Int) (h : indexI l.signs c = r) => show Calls Tryz.prog 17 #[.agg #[.int .i64 l.per, .slice l.A l.ms.length l.cap], .string c] w (fun e w' => e = .returned (.int .i64 r) ∧ Below w.heap.size w w') by rw [← h]; exact index_any l c w hl)
  clear hl
  show Calls _ _ #[.agg #[.int .i64 l.per, .slice l.A l.ms.length l.cap], .string c] w _
  obtain ⟨E, hE⟩ : ∃ E, E = checkErr l.li := ⟨_, rfl⟩
  have HE := Lib.hid hE.symm
  by_cases h0 : E = 0
  case neg =>
    have hb : (E != 0) = true := by simpa using h0
    have HF := Lib.hid (show findR l.li c = (0, E) by unfold findR; rw [HE.out, if_pos h0])
    clear hE h0
    go_enter Tryz.func11, Tryz.ntmps11
    go_wp2_with fail
    refine (HCK.out _ H0.out E HE.out).mono ?_; rintro e w1 ⟨rfl, hb1⟩
    go_wp2
    go_ret2
    exact ⟨ret_ii HF.out.symm, below_of hb1⟩
  subst h0
  clear hE
  obtain ⟨I, hI⟩ : ∃ I, indexI l.signs c = I := ⟨_, rfl⟩
  have HI := Lib.hid hI
  have HG := Lib.hid (show findR l.li c = if I < 0 then (0, 3) else (I, 0) by unfold findR; rw [HE.out, show l.li.signs = l.signs from rfl, hI]; rfl)
  clear hI
  by_cases hneg : I < 0
  · have HF := Lib.hid (show findR l.li c = (0, 3) by rw [HG.out, if_pos hneg])
    go_enter Tryz.func11, Tryz.ntmps11
    go_wp2_with fail
    refine (HCK.out _ H0.out 0 HE.out).mono ?_; rintro e w1 ⟨rfl, hb1⟩
    have x0 := cell_of_blk (blk_keep hb1 C0.out) 0
    have x1 := cell_of_blk (blk_keep hb1 C0.out) 1
    simp at x0 x1
    have L1 := Lib.hid (H0.out.below hb1)
    have b1 := Lib.hid (below_of hb1)
    clear hb1
    go_wp2_with fail
    refine (HIX.out _ L1.out I HI.out).mono ?_; rintro e w2 ⟨rfl, hb2⟩
    go_wp2
    go_ret2
    exact ⟨ret_ii HF.out.symm, below_more b1.out hb2⟩
  · have HF := Lib.hid (show findR l.li c = (I, 0) by rw [HG.out, if_neg hneg])
    go_enter Tryz.func11, Tryz.ntmps11
    go_wp2_with fail
    refine (HCK.out _ H0.out 0 HE.out).mono ?_; rintro e w1 ⟨rfl, hb1⟩
    have x0 := cell_of_blk (blk_keep hb1 C0.out) 0
    have x1 := cell_of_blk (blk_keep hb1 C0.out) 1
    simp at x0 x1
    have L1 := Lib.hid (H0.out.below hb1)
    have b1 := Lib.hid (below_of hb1)
    clear hb1
    go_wp2_with fail
    refine (HIX.out _ L1.out I HI.out).mono ?_; rintro e w2 ⟨rfl, hb2⟩
    go_wp2
    go_ret2
    exact ⟨ret_ii HF.out.symm, below_more b1.out hb2⟩

end Go.Proofs.YtleihhkacmgofabGreatDoor

/- The first value with the kind and the text of another one, as a list (find). -/
namespace Go.Proofs.YtleihhkacmgofabGreatDoor
open Go.RowKit

theorem take_stepF {α : Type} (l : List α) (k : Nat) (x : α) (h : l[k]? = some x) : l.take (k + 1) = l.take k ++ [x] := by
  obtain ⟨hk, e⟩ := List.getElem?_eq_some_iff.1 h
  rw [List.take_succ_eq_append_getElem hk, e]
/-- where find looks -/
def findI (vs : List Va) (v : Va) : Option Nat := vs.findIdx? (fun x => meq x v)
theorem findI_at {vs : List Va} {v : Va} {k : Nat} {x : Va} (h : vs[k]? = some x) (hx : meq x v = true) (hno : (vs.take k).any (fun x => meq x v) = false) : findI vs v = some k := by
  unfold findI
  rw [List.findIdx?_eq_some_iff_getElem]
  obtain ⟨hk, rfl⟩ := List.getElem?_eq_some_iff.1 h
  refine ⟨hk, hx, fun j hj => ?_⟩
  have := List.any_eq_false.1 hno (vs[j]'(by omega)) (List.mem_take_iff_getElem.2 ⟨j, by omega, rfl⟩)
  simpa using this
theorem findI_none {vs : List Va} {v : Va} (hno : vs.any (fun x => meq x v) = false) : findI vs v = none := by
  unfold findI
  rw [List.findIdx?_eq_none_iff]
  intro x hx
  simpa using List.any_eq_false.1 hno x hx
theorem findI_some {vs : List Va} {v : Va} (h : vs.any (fun x => meq x v) = true) : ∃ i x, findI vs v = some i ∧ vs[i]? = some x ∧ meq x v = true := by
  unfold findI
  obtain ⟨x, hx, hm⟩ := List.any_eq_true.1 h
  cases hf : vs.findIdx? (fun x => meq x v) with
  | none => rw [List.findIdx?_eq_none_iff] at hf; have := hf x hx; simp [hm] at this
  | some i =>
    rw [List.findIdx?_eq_some_iff_getElem] at hf
    obtain ⟨hi, h1, _⟩ := hf
    exact ⟨i, vs[i], rfl, List.getElem?_eq_getElem hi, h1⟩
def findV (A : Option Addr) (c : Nat) (vs : List Va) (v : Va) : Value := match findI vs v with
  | some i => .slice (A.map fun a => ⟨a.block, a.off + i * 4, none⟩) 1 (c - i)
  | none => .slice none 0 0

theorem ValsAt.sub {w : World} {b o : Nat} {vs : List Va} (h : ValsAt w (some ⟨b, o, none⟩) vs) {k : Nat} {v : Va} (hk : vs[k]? = some v) : ValsAt w (some ⟨b, o + k * 4, none⟩) [v] := fun j x hj => by
  have hj0 : j = 0 := by have := (List.getElem?_eq_some_iff.1 hj).1; simpa using this
  subst hj0
  simp at hj
  subst hj
  obtain ⟨b', o', e, hlt, hv⟩ := h k v hk
  injection e with e
  injection e with e1 e2
  subst e1 e2
  exact ⟨b, _, rfl, hlt, by simpa using hv⟩

set_option maxHeartbeats 1600000 in
set_option maxRecDepth 100000 in
theorem find_any (A : Option Addr) (c : Nat) (vs : List Va) (v : Va) (w : World) (hvs : ValsAt w A vs) (hl : vs.length ≤ c) (hc : c ≤ maxLen) :
    Calls Tryz.prog 14 #[.slice A vs.length c, v.val] w fun e w' => e = .returned (findV A c vs v) ∧ Below w.heap.size w w' := by
  have HVS := Lib.hid hvs
  clear hvs
  unfold Va.val
  unfold maxLen at hc
  obtain ⟨n, hn⟩ : ∃ n, n = vs.length := ⟨_, rfl⟩
  rw [← hn] at hl ⊢
  have HN := Lib.hid hn
  clear hn
  go_enter Tryz.func14, Tryz.ntmps14
  go_wp2
  have HWb := Lib.hid (below_alloc w (.cells #[.int .i64 v.kind, .string v.text, .int .i64 v.fr, .int .i64 v.to] 43))
  have HB0 := Lib.hid (heap_alloc_new w (.cells #[.int .i64 v.kind, .string v.text, .int .i64 v.fr, .int .i64 v.to] 43))
  generalize w.alloc (.cells #[.int .i64 v.kind, .string v.text, .int .i64 v.fr, .int .i64 v.to] 43) = W at HWb HB0 ⊢
  go_loopw [5] (fun i wr => ∃ k : Nat, k ≤ n ∧ i = .int .i64 k ∧ Hid (Below W.heap.size W wr) ∧ Hid ((vs.take k).any (fun x => meq x v) = false)) (fun i _ => n - (intOf i).toNat)
  case atStart => exact ⟨0, Nat.zero_le _, rfl, Lib.hid (Below.refl _ _), Lib.hid (by simp)⟩
  case round =>
    obtain ⟨k, hk, rfl, hb, hno⟩ := hrel
    have HWr := Lib.hid (below_more HWb.out hb.out)
    have x0 := cell_of_blk (blk_keep hb.out HB0.out) 0
    have x1 := cell_of_blk (blk_keep hb.out HB0.out) 1
    simp at x0 x1
    have hs0 : w.heap.size < wr.heap.size := (Array.getElem?_eq_some_iff.1 (blk_keep hb.out HB0.out)).1
    by_cases hlt : k < n
    · have hget : vs[k]? = some (vs[k]'(by have := HN.out; omega)) := List.getElem?_eq_getElem _
      obtain ⟨x, hx⟩ : ∃ x, x = vs[k]'(by have := HN.out; omega) := ⟨_, rfl⟩
      rw [← hx] at hget
      obtain ⟨b, o, hA, hb1, hva⟩ := HVS.out k x hget
      subst hA
      obtain ⟨y0, y1, -, -, -⟩ := hva.below HWr.out hb1
      have hsb : b < wr.heap.size := by have := HWr.out.size; omega
      have GET := Lib.hid hget
      have HSN := Lib.hid (fun (hm : meq x v = false) => show (vs.take (k + 1)).any (fun x => meq x v) = false by
        rw [take_stepF _ _ _ GET.out, List.any_append, hno.out]; simp [hm])
      clear hx hget hva hb1
      by_cases hk1 : (x.kind == v.kind) = true
      case neg =>
        have hk1 : (x.kind == v.kind) = false := by simpa using hk1
        have HM := Lib.hid (HSN.out (by unfold meq; rw [hk1]; rfl))
        go_wp2_with fail
        refine wp_region_later (by kernel_rfl) (by kernel_rfl) ?_; (repeat (first | go_big_quiet_step (fail) | quiet_step (fail))); refine wpQuiet_nil ?_; rintro _ ⟨s, rfl⟩
        have HB5 := Lib.hid (below_more hb.out s.below)
        generalize s.w = W5 at HB5 ⊢
        go_wp2_with fail
        go_roundw
        case rel => exact ⟨k + 1, by omega, by go_num, HB5, HM⟩
        case measure => simp [intOf]; omega
      by_cases hk2 : (x.text.toList == v.text.toList) = true
      case neg =>
        have hk2 : (x.text.toList == v.text.toList) = false := by simpa using hk2
        have HM := Lib.hid (HSN.out (by unfold meq strEq; rw [hk1, hk2]; rfl))
        go_wp2_with fail
        refine wp_region_later (by kernel_rfl) (by kernel_rfl) ?_; (repeat (first | go_big_quiet_step (fail) | quiet_step (fail))); refine wpQuiet_nil ?_; rintro _ ⟨s, rfl⟩
        have HB5 := Lib.hid (below_more hb.out s.below)
        generalize s.w = W5 at HB5 ⊢
        go_wp2_with fail
        go_roundw
        case rel => exact ⟨k + 1, by omega, by go_num, HB5, HM⟩
        case measure => simp [intOf]; omega
      have HF := Lib.hid (show findV (some ⟨b, o, none⟩) c vs v = .slice (some ⟨b, o + k * 4, none⟩) 1 (c - k) by
        unfold findV
        rw [findI_at GET.out (by unfold meq strEq; rw [hk1, hk2]; rfl) hno.out]; rfl)
      have hck : (c = k) = False := eq_false (by omega)
      have hs1 : IntKind.i64.wrap ((k : Int) + 1) = (k : Int) + 1 := IntWalk.i64_in _ (by omega)
      go_wp2_with fail
      refine wp_region_later (by kernel_rfl) (by kernel_rfl) ?_; (repeat (first | go_big_quiet_step (fail) | quiet_step (fail))); refine wpQuiet_nil ?_; rintro _ ⟨s, rfl⟩
      have HB5 := Lib.hid (below_more HWr.out s.below)
      generalize s.w = W5 at HB5 ⊢
      go_wp2_with fail
      go_ret
      refine ⟨?_, HB5.out⟩
      rw [HF.out]; rfl
    · obtain rfl : k = n := by omega
      have HF := Lib.hid (show findV A c vs v = .slice none 0 0 by
        unfold findV
        rw [findI_none (by have := hno.out; rw [HN.out, List.take_length] at this; exact this)])
      go_wp2_with fail
      go_ret
      exact ⟨by rw [HF.out]; rfl, HWr.out⟩

end Go.Proofs.YtleihhkacmgofabGreatDoor
