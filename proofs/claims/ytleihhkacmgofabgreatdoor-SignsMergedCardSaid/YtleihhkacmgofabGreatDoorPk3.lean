/-
  Contracts of inUse, bears, bearers, hasSign, checkSignInPeriod. And what builds on it.
-/
import Derived.Test.YtleihhkacmgofabGreatDoorPk2
import Derived.Laws.StructEq

/- Contracts of inUse, bears, bearers, hasSign, checkSignInPeriod. -/
namespace Go.Proofs.YtleihhkacmgofabGreatDoor
open Go.RowKit

def useB (v : Va) (p : Int) : Bool := decide (v.fr ≤ p) && decide (p ≤ v.to)
theorem inUse_any (v : Va) (p : Int) (w : World) : Calls Tryz.prog 68 #[v.val, .int .i64 p] w fun e w' => e = .returned (.bool (useB v p)) ∧ Below w.heap.size w w' := by
  obtain ⟨k, t, f, to⟩ := v
  unfold Va.val useB
  dsimp only
  by_cases h1 : f ≤ p
  · go_enter Tryz.func68, Tryz.ntmps68
    go_wp2
    go_ret
    exact ⟨of_bool (by simp [h1]), below_alloc _ _⟩
  · go_enter Tryz.func68, Tryz.ntmps68
    go_wp2
    go_ret
    exact ⟨of_bool (by simp; omega), below_alloc _ _⟩
theorem inUse_is (v : Va) (p : Int) (w : World) (r : Bool) (h : useB v p = r) : Calls Tryz.prog 68 #[v.val, .int .i64 p] w fun e w' => e = .returned (.bool r) ∧ Below w.heap.size w w' := by
  rw [← h]; exact inUse_any v p w

theorem blk_keep {W w' : World} (hb : Below W.heap.size W w') {g : Nat} {cs : Array Value} {t : TypeId} (h : W.heap[g]? = some (.cells cs t (0, 0))) : w'.heap[g]? = some (.cells cs t (0, 0)) :=
  (hb.block g (Array.getElem?_eq_some_iff.1 h).1).trans h

/-- a sign has a value in a period -/
def bearV (k : Int) (t : ByteArray) (p : Int) (v : Va) : Bool := (v.kind == k && strEq v.text t) && useB v p
def bearB (s : Sg) (k : Int) (t : ByteArray) (p : Int) : Bool := s.vals.any (bearV k t p)

set_option maxHeartbeats 1600000 in
theorem bears_any (m : Sm) (k : Int) (t : ByteArray) (p : Int) (w : World) (hm : SmOk w m) :
    Calls Tryz.prog 50 #[m.val, .agg #[.int .i64 k, .string t], .int .i64 p] w fun e w' => e = .returned (.bool (bearB m.s k t p)) ∧ Below w.heap.size w w' := by
  obtain ⟨⟨code, wide, high, even, vs⟩, A, cap⟩ := m
  obtain ⟨hvs, hl, hcap, hcode⟩ := hm
  dsimp only at hvs hl hcap hcode
  unfold Sm.val bearB
  dsimp only
  obtain ⟨n, hn⟩ : ∃ n, n = vs.length := ⟨_, rfl⟩
  rw [← hn] at hl ⊢
  have hcap' := hcap
  unfold maxLen at hcap'
  have HN := Lib.hid hn
  clear hn
  go_enter Tryz.func50, Tryz.ntmps50
  go_wp2
  have HB0 := Lib.hid (show ((w.alloc (.cells #[.string code, .int .i64 wide, .int .i64 high, .bool even, .slice A n cap] 38)).alloc (.cells #[.int .i64 k, .string t] 68)).heap[w.heap.size + 1]? = some (.cells #[.int .i64 k, .string t] 68 (0, 0)) by
    have := heap_alloc_new (w.alloc (.cells #[.string code, .int .i64 wide, .int .i64 high, .bool even, .slice A n cap] 38)) (.cells #[.int .i64 k, .string t] 68); simpa using this)
  have HWb := Lib.hid (show Below w.heap.size w ((w.alloc (.cells #[.string code, .int .i64 wide, .int .i64 high, .bool even, .slice A n cap] 38)).alloc (.cells #[.int .i64 k, .string t] 68)) from ((Below.refl _ _).alloc (Nat.le_refl _) _).alloc (by simp) _)
  have HWs := Lib.hid (show ((w.alloc (.cells #[.string code, .int .i64 wide, .int .i64 high, .bool even, .slice A n cap] 38)).alloc (.cells #[.int .i64 k, .string t] 68)).heap.size = w.heap.size + 1 + 1 by simp)
  generalize (w.alloc (.cells #[.string code, .int .i64 wide, .int .i64 high, .bool even, .slice A n cap] 38)).alloc (.cells #[.int .i64 k, .string t] 68) = W at HB0 HWb HWs ⊢
  go_loopw [12] (fun i wr => ∃ j : Nat, j ≤ n ∧ i = .int .i64 j ∧ Hid (Below W.heap.size W wr) ∧ Hid ((vs.take j).any (bearV k t p) = false)) (fun i _ => n - (intOf i).toNat)
  case atStart => exact ⟨0, Nat.zero_le _, rfl, Lib.hid (Below.refl _ _), Lib.hid (by simp)⟩
  case round =>
    obtain ⟨j, hj, rfl, hb, hno⟩ := hrel
    have hw1 := Lib.hid (below_more HWb.out hb.out)
    have hsz : w.heap.size + 1 < wr.heap.size := by have := hb.out.size; have := HWs.out; omega
    have B1 := Lib.hid (blk_keep hb.out HB0.out)
    have x0 := cell_of_blk B1.out 0
    have x1 := cell_of_blk B1.out 1
    simp at x0 x1
    by_cases hlt : j < n
    · have hget : vs[j]? = some (vs[j]'(by have := HN.out; omega)) := List.getElem?_eq_getElem _
      obtain ⟨u, hu⟩ : ∃ u, u = vs[j]'(by have := HN.out; omega) := ⟨_, rfl⟩
      rw [← hu] at hget
      obtain ⟨b, o, hA, hb1, hva⟩ := hvs j u hget
      subst hA
      obtain ⟨y0, y1, y2, y3, ysz⟩ := hva.below hw1.out hb1
      have GET := Lib.hid hget
      have hsb : b < wr.heap.size := by omega
      have hsz1 : w.heap.size + 1 < wr.heap.size + 1 := by omega
      clear hu hget hva hb1 hvs
      have he := fun w => eqMeaning u.kind k u.text t w
      by_cases hc : (u.kind == k && strEq u.text t) = true
      case neg =>
        have hc : (u.kind == k && strEq u.text t) = false := by simpa using hc
        have hst := Lib.hid (any_step (bearV k t p) vs j u GET.out hno.out (by unfold bearV; rw [hc]; rfl))
        rw [hc] at he
        clear hc
        go_wp2
        refine wp_region_later (by kernel_rfl) (by kernel_rfl) ?_; (repeat (first | go_big_quiet_step ((first | ((go_at_call 43; exact Calls.later _ (meaning_any _ _ _ _ _))) | ((go_at_call 68; exact Calls.later _ (inUse_is u p _ false (by assumption)))))) | quiet_step ((first | ((go_at_call 43; exact Calls.later _ (meaning_any _ _ _ _ _))) | ((go_at_call 68; exact Calls.later _ (inUse_is u p _ false (by assumption)))))))); refine wpQuiet_nil ?_; rintro _ ⟨s, rfl⟩
        go_wp2
        go_roundw
        case rel => exact ⟨j + 1, by omega, by go_num, Lib.hid (hb.out.trans ((below1 s).mono hb.out.size)), hst⟩
        case measure => simp [intOf]; omega
      rw [hc] at he
      by_cases hu2 : useB u p = true
      · have hfin := Lib.hid (any_true (bearV k t p) vs j u GET.out (by unfold bearV; rw [hc, hu2]; rfl))
        clear hc
        go_wp2
        refine wp_region_later (by kernel_rfl) (by kernel_rfl) ?_; (repeat (first | go_big_quiet_step ((first | ((go_at_call 43; exact Calls.later _ (meaning_any _ _ _ _ _))) | ((go_at_call 68; exact Calls.later _ (inUse_is u p _ true hu2))))) | quiet_step ((first | ((go_at_call 43; exact Calls.later _ (meaning_any _ _ _ _ _))) | ((go_at_call 68; exact Calls.later _ (inUse_is u p _ true hu2))))))); refine wpQuiet_nil ?_; rintro _ ⟨s, rfl⟩
        go_wp2
        go_ret
        exact ⟨of_bool hfin.out.symm, below_more hw1.out (below1 s)⟩
      · have hu2 : useB u p = false := by simpa using hu2
        have hst := Lib.hid (any_step (bearV k t p) vs j u GET.out hno.out (by unfold bearV; rw [hc, hu2]; rfl))
        clear hc
        go_wp2
        refine wp_region_later (by kernel_rfl) (by kernel_rfl) ?_; (repeat (first | go_big_quiet_step ((first | ((go_at_call 43; exact Calls.later _ (meaning_any _ _ _ _ _))) | ((go_at_call 68; exact Calls.later _ (inUse_is u p _ false hu2))))) | quiet_step ((first | ((go_at_call 43; exact Calls.later _ (meaning_any _ _ _ _ _))) | ((go_at_call 68; exact Calls.later _ (inUse_is u p _ false hu2))))))); refine wpQuiet_nil ?_; rintro _ ⟨s, rfl⟩
        go_wp2
        go_roundw
        case rel => exact ⟨j + 1, by omega, by go_num, Lib.hid (hb.out.trans ((below1 s).mono hb.out.size)), hst⟩
        case measure => simp [intOf]; omega
    · obtain rfl : j = n := by omega
      go_wp2
      go_ret
      refine ⟨of_bool ?_, hw1.out⟩
      have := hno.out
      rw [HN.out, List.take_length] at this
      exact this.symm

def bearFrom (k : Int) (t : ByteArray) (p : Int) : Nat → List Sg → List Int
  | _, [] => []
  | i, s :: r => if bearB s k t p then (i : Int) :: bearFrom k t p (i + 1) r else bearFrom k t p (i + 1) r
theorem bearFrom_snoc (k : Int) (t : ByteArray) (p : Int) : ∀ (l : List Sg) (i : Nat) (s : Sg), bearFrom k t p i (l ++ [s]) = bearFrom k t p i l ++ (if bearB s k t p then [((i + l.length : Nat) : Int)] else [])
  | [], i, s => by simp [bearFrom]
  | x :: l, i, s => by
    simp only [List.cons_append, bearFrom]
    have ih := bearFrom_snoc k t p l (i + 1) s
    rw [show i + 1 + l.length = i + (x :: l).length by simp; omega] at ih
    split <;> simp [ih]
theorem bearFrom_len (k : Int) (t : ByteArray) (p : Int) : ∀ (l : List Sg) (i : Nat), (bearFrom k t p i l).length ≤ l.length
  | [], _ => by simp [bearFrom]
  | x :: l, i => by
    have := bearFrom_len k t p l (i + 1)
    simp only [bearFrom]; split <;> simp <;> omega
theorem infoInt : (Tryz.prog.info? 3).map (fun i => (i.zero, i.size, i.bytes)) = some (some (.int .i64 0), 1, 8) := by kernel_rfl
/-- a slice of numbers -/
def IntsAt (w : World) (A : Option Addr) (zs : List Int) : Prop := ∀ ad, A = some ad → ∃ g, ad = ⟨g, 0, none⟩ ∧ g < w.heap.size ∧ ∀ j, j < zs.length → w.cell? ⟨g, j, none⟩ = some (.int .i64 (zs.getD j 0))
def GotInts (w : World) (zs : List Int) (e : Ending) (w' : World) : Prop :=
  ∃ A c, e = .returned (.slice A zs.length c) ∧ IntsAt w' A zs ∧ (A = none → zs = []) ∧ Below w.heap.size w w'
theorem is_ints {w : World} {base : Nat} {v : Value} {n : Nat} {zs : List Int} {e : TypeId} (h : w.ownsRow base e 1 v n (zs.map (Value.int .i64))) : ∃ A c, v = .slice A zs.length c ∧ IntsAt w A zs ∧ (A = none → zs = []) := by
  have hn : n = zs.length := by have := h.1; simp at this; exact this.symm
  subst hn
  obtain ⟨A, c, rfl, h1, h2, hA, hn⟩ := own_slice h
  refine ⟨A, c, rfl, fun ad e => ?_, fun e => List.eq_nil_of_length_eq_zero (hn e)⟩
  obtain ⟨g, rfl, _, hg, hc⟩ := hA ad e
  exact ⟨g, rfl, hg, fun j hj => hc j _ (by rw [List.getElem?_map, List.getElem?_eq_getElem hj]; simp [hj])⟩
theorem bears_is (m : Sm) (k : Int) (t : ByteArray) (p : Int) (w : World) (hm : SmOk w m) (r : Bool) (h : bearB m.s k t p = r) :
    Calls Tryz.prog 50 #[m.val, .agg #[.int .i64 k, .string t], .int .i64 p] w fun e w' => e = .returned (.bool r) ∧ Below w.heap.size w w' := by
  rw [← h]; exact bears_any m k t p w hm

set_option maxHeartbeats 1600000 in
set_option maxRecDepth 100000 in
theorem bearers_any (l : Lm) (kd : Int) (t : ByteArray) (p : Int) (w : World) (hl : LmOk w l) (hsm : l.ms.length ≤ 1000000) :
    Calls Tryz.prog 34 #[l.val, .agg #[.int .i64 kd, .string t], .int .i64 p] w (GotInts w (bearFrom kd t p 0 l.signs)) := by
  have hs := hl.signs
  obtain ⟨per, ms, A, cap⟩ := l
  obtain ⟨-, hlen, hcap⟩ := hl
  dsimp only at hs hlen hcap hsm
  unfold Lm.val Lm.signs
  dsimp only
  obtain ⟨n, hn⟩ : ∃ n, n = ms.length := ⟨_, rfl⟩
  rw [← hn] at hlen hsm ⊢
  have hcap' := hcap
  unfold maxLen at hcap'
  have HN := Lib.hid hn
  have HSM := Lib.hid hsm
  clear hn hsm
  obtain ⟨is, his, hzs, hss, hbs⟩ := info_hid infoInt
  go_enter Tryz.func34, Tryz.ntmps34
  go_wp2
  have HB0 := Lib.hid (show ((w.alloc (.cells #[.int .i64 per, .slice A n cap] 24)).alloc (.cells #[.int .i64 kd, .string t] 68)).heap[w.heap.size + 1]? = some (.cells #[.int .i64 kd, .string t] 68 (0, 0)) by
    have := heap_alloc_new (w.alloc (.cells #[.int .i64 per, .slice A n cap] 24)) (.cells #[.int .i64 kd, .string t] 68); simpa using this)
  have HWb := Lib.hid (show Below w.heap.size w ((w.alloc (.cells #[.int .i64 per, .slice A n cap] 24)).alloc (.cells #[.int .i64 kd, .string t] 68)) from ((Below.refl _ _).alloc (Nat.le_refl _) _).alloc (by simp) _)
  have HWs := Lib.hid (show ((w.alloc (.cells #[.int .i64 per, .slice A n cap] 24)).alloc (.cells #[.int .i64 kd, .string t] 68)).heap.size = w.heap.size + 1 + 1 by simp)
  generalize (w.alloc (.cells #[.int .i64 per, .slice A n cap] 24)).alloc (.cells #[.int .i64 kd, .string t] 68) = W at HB0 HWb HWs ⊢
  go_loopw [7, 13] (fun v i wr => ∃ j c : Nat, j ≤ n ∧ c ≤ j ∧ i = .int .i64 j ∧ Hid (Below W.heap.size W wr) ∧ Hid (c = (bearFrom kd t p 0 ((ms.map (·.s)).take j)).length) ∧ Hid (wr.ownsRow W.heap.size 3 1 v c ((bearFrom kd t p 0 ((ms.map (·.s)).take j)).map (Value.int .i64)))) (fun _ i _ => n - (intOf i).toNat)
  case atStart => exact ⟨0, 0, Nat.zero_le _, Nat.le_refl _, rfl, Lib.hid (Below.refl _ _), Lib.hid (by simp [bearFrom]), Lib.hid (by simpa [bearFrom] using World.ownsRow_nil _ _ _ _)⟩
  case round =>
    obtain ⟨j, c, hj, hcj, rfl, hb, hlc, hown⟩ := hrel
    have hw1 := Lib.hid (below_more HWb.out hb.out)
    have hsz : w.heap.size + 1 < wr.heap.size := by have := hb.out.size; have := HWs.out; omega
    have B1 := Lib.hid (blk_keep hb.out HB0.out)
    have x0 := cell_of_blk B1.out 0
    have x1 := cell_of_blk B1.out 1
    simp at x0 x1
    by_cases hlt : j < n
    · have hget : ms[j]? = some (ms[j]'(by have := HN.out; omega)) := List.getElem?_eq_getElem _
      obtain ⟨u, hu⟩ : ∃ u, u = ms[j]'(by have := HN.out; omega) := ⟨_, rfl⟩
      rw [← hu] at hget
      obtain ⟨b, o, hA, hb1, hva, hok⟩ := hs j u hget
      subst hA
      obtain ⟨y0, y1, y2, y3, y4⟩ := hva.below hw1.out hb1
      have hokr := Lib.hid (hok.below hw1.out)
      have GET := Lib.hid (show (ms.map (·.s))[j]? = some u.s by rw [List.getElem?_map, hget]; rfl)
      have hsb : b < wr.heap.size := by omega
      have hsz1 : w.heap.size + 1 < wr.heap.size + 1 := by omega
      have hsnd := Lib.hid (show bearFrom kd t p 0 ((ms.map (·.s)).take (j + 1)) = bearFrom kd t p 0 ((ms.map (·.s)).take j) ++ (if bearB u.s kd t p then [(j : Int)] else []) by
        obtain ⟨hk', e⟩ := List.getElem?_eq_some_iff.1 GET.out
        have hl : ((ms.map (·.s)).take j).length = j := by rw [List.length_take]; omega
        rw [List.take_succ_eq_append_getElem hk', e, bearFrom_snoc, hl, Nat.zero_add])
      clear hu hget hva hb1 hs hok
      have hbx := Lib.hid (below_alloc wr (.cells #[.string u.s.code, .int .i64 u.s.wide, .int .i64 u.s.high, .bool u.s.even, .slice u.A u.s.vals.length u.cap] 38))
      by_cases hc : bearB u.s kd t p = true
      case neg =>
        have hc : bearB u.s kd t p = false := by simpa using hc
        have hsn2 := Lib.hid (show bearFrom kd t p 0 ((ms.map (·.s)).take (j + 1)) = bearFrom kd t p 0 ((ms.map (·.s)).take j) by rw [hsnd.out, hc]; simp)
        go_wp2_with fail
        refine (bears_is u kd t p _ (hokr.out.below hbx.out) false hc).mono ?_; rintro e w2 ⟨rfl, hb2⟩
        have hb3 := Lib.hid (below_more hbx.out hb2)
        clear hb2
        go_wp2_with fail
        go_roundw
        case rel => exact ⟨j + 1, c, by omega, by omega, by go_num, Lib.hid (hb.out.trans (hb3.out.mono hb.out.size)), by rw [hsn2.out]; exact hlc, Lib.hid (by rw [hsn2.out]; exact ownsRow_of_block hown.out (fun g hg => hb3.out.block g (hown.out.lt g hg).2))⟩
        case measure => simp [intOf]; omega
      case pos =>
        have hsn2 := Lib.hid (show bearFrom kd t p 0 ((ms.map (·.s)).take (j + 1)) = bearFrom kd t p 0 ((ms.map (·.s)).take j) ++ [(j : Int)] by rw [hsnd.out, hc]; simp)
        go_wp2_with fail
        refine (bears_is u kd t p _ (hokr.out.below hbx.out) true hc).mono ?_; rintro e w2 ⟨rfl, hb2⟩
        have hb3 := Lib.hid (below_more hbx.out hb2)
        have hs2 := Lib.hid (show wr.heap.size + 1 ≤ w2.heap.size by have := hb2.size; simpa using this)
        have own2 := Lib.hid (ownsRow_of_block (w' := w2) hown.out (fun g hg => hb3.out.block g (hown.out.lt g hg).2))
        clear hb2
        go_wp2_with (first
          | (at_builtin; refine wpList_append_src _ rfl (.tmp 22) (.tmp 24) 65 rfl W.heap.size 3 is (.int .i64 0) 1 8 Tryz.underlying65 his.out hzs.out hss.out hbs.out rfl (by decide) u7 c ((bearFrom kd t p 0 ((ms.map (·.s)).take j)).map (Value.int .i64)) rfl ?own2 (some ⟨w2.heap.size, 0, none⟩) 1 1 [.int .i64 j] rfl ?l2 ?n2 ?c2 ?o2 ?m2 ?b2 ?s2 (c + 1) rfl ?_))
        case own2 => exact own2.out.alloc _
        case l2 => rfl
        case n2 => intro h; cases h
        case o2 => intro u hu; simp at hu; subst hu; rfl
        case c2 =>
          intro ad had i u' hj
          injection had with had
          subst had
          have := new_cells w2 [.int .i64 j] 3 i u' hj
          simpa using this
        case m2 => have := HSM.out; unfold maxLen; omega
        case b2 => have := HSM.out; omega
        case s2 => have := hs2.out; have := hb.out.size; simp; omega
        · intro A2 c2 w3 own3 hg3 _
          have b4 := Lib.hid (((hb.out.trans (hb3.out.mono hb.out.size)).alloc (by have := hs2.out; have := hb.out.size; omega) (.cells #[.int .i64 j] 3)).grown hg3 (by have := hs2.out; have := hb.out.size; simp; omega) (fun g hg => (own2.out.lt g hg).1))
          have own3 := Lib.hid own3
          clear hg3
          go_wp2
          go_roundw
          case rel => exact ⟨j + 1, c + 1, by omega, by omega, by go_num, b4, Lib.hid (by rw [hsn2.out, List.length_append, ← hlc.out]; rfl), Lib.hid (by rw [hsn2.out, List.map_append]; exact own3.out)⟩
          case measure => simp [intOf]; omega
    · obtain rfl : j = n := by omega
      obtain ⟨A2, c2, hv, h1, h2⟩ := is_ints hown.out
      subst hv
      have hlen2 := Lib.hid (show (ms.map (·.s)).take j = ms.map (·.s) by rw [HN.out, ← List.length_map (f := (·.s)), List.take_length])
      go_wp2
      go_ret
      rw [hlen2.out] at h1 h2
      exact ⟨A2, c2, by rw [hlen2.out]; rfl, h1, h2, hw1.out⟩

end Go.Proofs.YtleihhkacmgofabGreatDoor

/- Values in use: what it is to be handed values in new memory; contracts of valuesIn and of the specification's InUse. -/
namespace Go.Proofs.YtleihhkacmgofabGreatDoor
open Go.RowKit

/-- values that were made -/
def GotVals (w : World) (vs : List Va) (e : Ending) (w' : World) : Prop :=
  ∃ A c, e = .returned (.slice A vs.length c) ∧ ValsAt w' A vs ∧ vs.length ≤ c ∧ c ≤ maxLen ∧ Below w.heap.size w w'
/-- .. in memory of the call's own -/
def GotValsF (w : World) (vs : List Va) (e : Ending) (w' : World) : Prop :=
  ∃ A c, e = .returned (.slice A vs.length c) ∧ ValsAt w' A vs ∧ vs.length ≤ c ∧ c ≤ maxLen ∧ Below w.heap.size w w' ∧ ∀ b o, A = some ⟨b, o, none⟩ → w.heap.size ≤ b
theorem GotValsF.got {w : World} {vs : List Va} {e : Ending} {w' : World} (h : GotValsF w vs e w') : GotVals w vs e w' := by
  obtain ⟨A, c, h1, h2, h3, h4, h5, _⟩ := h
  exact ⟨A, c, h1, h2, h3, h4, h5⟩
def usedV (vs : List Va) (p : Int) : List Va := vs.filter (fun v => useB v p)

/-- a row that the call made itself -/
def GotRow (w : World) (e : TypeId) (size n : Nat) (xs : List Value) (en : Ending) (w' : World) : Prop :=
  ∃ A c, en = .returned (.slice A n c) ∧ w'.ownsRow w.heap.size e size (.slice A n c) n xs ∧ Below w.heap.size w w'
theorem own_base {w : World} {b0 b1 : Nat} {e : TypeId} {size : Nat} {v : Value} {n : Nat} {xs : List Value} (h : w.ownsRow b1 e size v n xs) (hb : b0 ≤ b1) : w.ownsRow b0 e size v n xs := by
  refine ⟨h.1, ?_⟩
  rcases h.2 with h2 | ⟨g, cap, cur, rfl, h3, h4⟩
  · exact .inl h2
  · exact .inr ⟨g, cap, cur, rfl, Nat.le_trans hb h3, h4⟩

theorem vals_of_cells {w : World} {base : Nat} {A : Option Addr} {vs : List Va} (h : ∀ ad, A = some ad → ∃ g, ad = ⟨g, 0, none⟩ ∧ base ≤ g ∧ g < w.heap.size ∧ ∀ j u, (vs.flatMap Va.cells)[j]? = some u → w.cell? ⟨g, j, none⟩ = some u)
    (h0 : A = none → vs.length = 0) (hsz : ∀ v ∈ vs, v.text.size ≤ maxLen) : ValsAt w A vs := by
  intro j x hj
  have hj' : j < vs.length := (List.getElem?_eq_some_iff.1 hj).1
  cases hA : A with
  | none => have := h0 hA; omega
  | some ad =>
    obtain ⟨g, rfl, _, hg, hcell⟩ := h ad hA
    have ha : ∀ i, i < 4 → w.cell? ⟨g, j * 4 + i, none⟩ = (Va.cells x)[i]? := fun i hi => by
      have hi' : i < (Va.cells x).length := hi
      rw [hcell (j * 4 + i) ((Va.cells x)[i]) (by rw [flat_at (c := 4) (fun _ => rfl) _ _ _ hj i hi]; exact List.getElem?_eq_getElem hi'), List.getElem?_eq_getElem hi']
    refine ⟨g, 0, rfl, hg, ⟨?_, ?_, ?_, ?_, hsz x (List.mem_of_getElem? hj)⟩⟩
    · rw [Nat.zero_add]; exact ha 0 (by omega)
    · rw [Nat.zero_add]; exact ha 1 (by omega)
    · rw [Nat.zero_add]; exact ha 2 (by omega)
    · rw [Nat.zero_add]; exact ha 3 (by omega)

theorem own_vals {w : World} {base : Nat} {A : Option Addr} {c : Nat} {vs : List Va} (h : w.ownsRow base 43 4 (.slice A vs.length c) vs.length (vs.flatMap Va.cells)) (hsz : ∀ v ∈ vs, v.text.size ≤ maxLen) : ValsAt w A vs ∧ vs.length ≤ c ∧ c ≤ maxLen ∧ ∀ b o, A = some ⟨b, o, none⟩ → base ≤ b := by
  obtain ⟨A2, c2, hv, h1, h2, h3, h4⟩ := own_slice h
  injection hv with e1 e2 e3
  subst e1 e3
  refine ⟨vals_of_cells h3 h4 hsz, h1, h2, fun b o e => ?_⟩
  obtain ⟨g, e2, hg, _⟩ := h3 _ e
  injection e2 with e2; rw [e2]; exact hg
theorem GotRow.vals {w : World} {vs : List Va} {e : Ending} {w' : World} (h : GotRow w 43 4 vs.length (vs.flatMap Va.cells) e w') (hsz : ∀ v ∈ vs, v.text.size ≤ maxLen) : GotValsF w vs e w' := by
  obtain ⟨A, c, rfl, hown, hb⟩ := h
  obtain ⟨h1, h2, h3, h4⟩ := own_vals hown hsz
  exact ⟨A, c, rfl, h1, h2, h3, hb, h4⟩
theorem vals_sizes {w : World} {A : Option Addr} {vs : List Va} (h : ValsAt w A vs) : ∀ v ∈ vs, v.text.size ≤ maxLen := by
  intro v hv
  obtain ⟨i, hi⟩ := List.getElem?_of_mem hv
  obtain ⟨_, _, _, _, hx⟩ := h i v hi
  exact hx.sz
theorem used_sizes {w : World} {A : Option Addr} {vs : List Va} (h : ValsAt w A vs) (p : Int) : ∀ v ∈ usedV vs p, v.text.size ≤ maxLen := fun v hv => vals_sizes h v (List.mem_filter.1 hv).1

set_option maxHeartbeats 1600000 in
set_option maxRecDepth 100000 in
theorem ruseR_any (m : Sm) (p : Int) (w : World) (hm : SmOk w m) (hsm : m.s.vals.length ≤ 1000000) :
    Calls Tryz.prog 12 #[m.val, .int .i64 p] w (GotRow w 43 4 (usedV m.s.vals p).length ((usedV m.s.vals p).flatMap Va.cells)) := by
  obtain ⟨⟨code, wide, high, even, vs⟩, A, cap⟩ := m
  obtain ⟨hvs, hl, hcap, hcode⟩ := hm
  dsimp only at hvs hl hcap hcode hsm
  unfold Sm.val
  dsimp only
  obtain ⟨n, hn⟩ : ∃ n, n = vs.length := ⟨_, rfl⟩
  rw [← hn] at hl hsm ⊢
  have hcap' := hcap
  unfold maxLen at hcap'
  have HN := Lib.hid hn
  clear hn
  obtain ⟨iv, hiv, hzv, hsv, hbv⟩ := info_hid infoVa
  go_enter Tryz.func12, Tryz.ntmps12
  go_wp2
  have HB0 := Lib.hid (heap_alloc_new w (.cells #[.string code, .int .i64 wide, .int .i64 high, .bool even, .slice A n cap] 38))
  have HWb := Lib.hid (below_alloc w (.cells #[.string code, .int .i64 wide, .int .i64 high, .bool even, .slice A n cap] 38))
  have HWs := Lib.hid (show (w.alloc (.cells #[.string code, .int .i64 wide, .int .i64 high, .bool even, .slice A n cap] 38)).heap.size = w.heap.size + 1 by simp)
  generalize w.alloc (.cells #[.string code, .int .i64 wide, .int .i64 high, .bool even, .slice A n cap] 38) = W at HB0 HWb HWs ⊢
  go_loopw [5, 6] (fun v i wr => ∃ j c : Nat, j ≤ n ∧ c ≤ j ∧ i = .int .i64 j ∧ Hid (Below W.heap.size W wr) ∧ Hid (c = (usedV (vs.take j) p).length) ∧ Hid (wr.ownsRow W.heap.size 43 4 v c ((usedV (vs.take j) p).flatMap Va.cells))) (fun _ i _ => n - (intOf i).toNat)
  case atStart => exact ⟨0, 0, Nat.zero_le _, Nat.le_refl _, rfl, Lib.hid (Below.refl _ _), Lib.hid (by simp [usedV]), Lib.hid (by simpa [usedV] using World.ownsRow_nil _ _ _ _)⟩
  case round =>
    obtain ⟨j, c, hj, hcj, rfl, hb, hlc, hown⟩ := hrel
    have hw1 := Lib.hid (below_more HWb.out hb.out)
    have hsz : w.heap.size < wr.heap.size := by have := hb.out.size; have := HWs.out; omega
    have B0 := Lib.hid (blk_keep hb.out HB0.out)
    have x4 := cell_of_blk B0.out 4
    simp at x4
    by_cases hlt : j < n
    · have hget : vs[j]? = some (vs[j]'(by have := HN.out; omega)) := List.getElem?_eq_getElem _
      obtain ⟨u, hu⟩ : ∃ u, u = vs[j]'(by have := HN.out; omega) := ⟨_, rfl⟩
      rw [← hu] at hget
      obtain ⟨b, o, hA, hb1, hva⟩ := hvs j u hget
      subst hA
      obtain ⟨y0, y1, y2, y3, ysz⟩ := hva.below hw1.out hb1
      have GET := Lib.hid hget
      have hsnd := Lib.hid (show usedV (vs.take (j + 1)) p = usedV (vs.take j) p ++ (if useB u p then [u] else []) by
        obtain ⟨hk', e⟩ := List.getElem?_eq_some_iff.1 GET.out
        rw [List.take_succ_eq_append_getElem hk', e]; unfold usedV; rw [List.filter_append]; by_cases h : useB u p = true <;> simp [h])
      have hsb : b < wr.heap.size := by omega
      clear hu hget hva hb1 hvs
      by_cases h1 : u.fr ≤ p
      case neg =>
        have hsn2 := Lib.hid (show usedV (vs.take (j + 1)) p = usedV (vs.take j) p by rw [hsnd.out]; simp [useB, h1])
        go_wp2
        go_roundw
        case rel => exact ⟨j + 1, c, by omega, by omega, by go_num, hb, by rw [hsn2.out]; exact hlc, by rw [hsn2.out]; exact hown⟩
        case measure => simp [intOf]; omega
      by_cases h2 : p ≤ u.to
      case neg =>
        have hsn2 := Lib.hid (show usedV (vs.take (j + 1)) p = usedV (vs.take j) p by rw [hsnd.out]; simp [useB, h2])
        go_wp2
        go_roundw
        case rel => exact ⟨j + 1, c, by omega, by omega, by go_num, hb, by rw [hsn2.out]; exact hlc, by rw [hsn2.out]; exact hown⟩
        case measure => simp [intOf]; omega
      have hsn2 := Lib.hid (show usedV (vs.take (j + 1)) p = usedV (vs.take j) p ++ [u] by rw [hsnd.out]; simp [useB, h1, h2])
      go_wp2_with (first
          | (at_builtin; refine wpList_append_src _ rfl (.tmp 32) (.tmp 38) 34 rfl W.heap.size 43 iv (.agg #[.int .i64 0, .string ⟨#[]⟩, .int .i64 0, .int .i64 0]) 4 40 Tryz.underlying34 hiv.out hzv.out hsv.out hbv.out rfl (by decide) u5 c ((usedV (vs.take j) p).flatMap Va.cells) rfl ?own2 (some ⟨wr.heap.size, 0, none⟩) 1 1 u.cells rfl ?l2 ?n2 ?c2 ?o2 ?m2 ?b2 ?s2 (c + 1) rfl ?_))
      case own2 => exact hown.out.alloc _
      case l2 => rfl
      case n2 => intro h; cases h
      case o2 => exact fun x hx => va_one (vs := [u]) x (by simpa using hx)
      case c2 =>
          intro ad had i u' hj
          injection had with had
          subst had
          have := new_cells wr u.cells 43 i u' hj
          simpa [Va.cells] using this
      case m2 => unfold maxLen; omega
      case b2 => omega
      case s2 => have := hb.out.size; simp; omega
      · intro A2 c2 w3 own3 hg3 _
        have b4 := Lib.hid ((hb.out.alloc (by have := hb.out.size; omega) (.cells #[.int .i64 u.kind, .string u.text, .int .i64 u.fr, .int .i64 u.to] 43)).grown hg3 (by have := hb.out.size; simp; omega) (fun g hg => (hown.out.lt g hg).1))
        have own3 := Lib.hid own3
        clear hg3
        go_wp2
        go_roundw
        case rel => exact ⟨j + 1, c + 1, by omega, by omega, by go_num, b4, Lib.hid (by rw [hsn2.out, List.length_append, ← hlc.out]; rfl), Lib.hid (by rw [hsn2.out, List.flatMap_append]; simpa using own3.out)⟩
        case measure => simp [intOf]; omega
    · obtain rfl : j = n := by omega
      obtain ⟨A2, c2, hv, h1, h2, h3, h4⟩ := own_slice hown.out
      subst hv
      have HT := Lib.hid (show vs.take j = vs by rw [HN.out, List.take_length])
      have HC := Lib.hid (show c = (usedV vs p).length by have := hlc.out; rw [HT.out] at this; exact this)
      have HX := Lib.hid (show wr.ownsRow w.heap.size 43 4 (.slice A2 c c2) c ((usedV vs p).flatMap Va.cells) from own_base (by have := hown.out; rw [HT.out] at this; exact this) (by have := HWs.out; omega))
      go_wp2
      go_ret
      rw [← HC.out]
      exact ⟨A2, c2, rfl, HX.out, hw1.out⟩
theorem ruseF_any (m : Sm) (p : Int) (w : World) (hm : SmOk w m) (hsm : m.s.vals.length ≤ 1000000) : Calls Tryz.prog 12 #[m.val, .int .i64 p] w (GotValsF w (usedV m.s.vals p)) :=
  (ruseR_any m p w hm hsm).mono fun _ _ h => h.vals (used_sizes hm.vals p)
theorem ruse_any (m : Sm) (p : Int) (w : World) (hm : SmOk w m) (hsm : m.s.vals.length ≤ 1000000) : Calls Tryz.prog 12 #[m.val, .int .i64 p] w (GotVals w (usedV m.s.vals p)) :=
  (ruseF_any m p w hm hsm).mono fun _ _ h => h.got

theorem used_any (vs : List Va) (k : Int) (t : ByteArray) (p : Int) : (usedV vs p).any (fun v => v.kind == k && strEq v.text t) = vs.any (bearV k t p) := by
  unfold usedV
  induction vs with
  | nil => rfl
  | cons x r ih =>
    rw [List.filter_cons, List.any_cons]
    by_cases h : useB x p = true
    · rw [if_pos h, List.any_cons, ih]; simp [bearV, h]
    · rw [if_neg h, ih]
      have h : useB x p = false := by simpa using h
      simp [bearV, h]
theorem used_len (vs : List Va) (p : Int) : (usedV vs p).length ≤ vs.length := List.length_filter_le _ _

end Go.Proofs.YtleihhkacmgofabGreatDoor

/- Contracts of slices.Clone at values and at signs. -/
namespace Go.Proofs.YtleihhkacmgofabGreatDoor
open Go.RowKit

theorem nilV (w : World) (a : Option Addr) (n c : Nat) : (binOp .eql 34 (.slice a n c) (.slice none 0 0)).run Tryz.prog w = .ok (.bool a.isNone) w := Lib.run_eql_slice_nil w _ _ a n c 0 0 Tryz.underlying34
theorem nilG (w : World) (a : Option Addr) (n c : Nat) : (binOp .eql 22 (.slice a n c) (.slice none 0 0)).run Tryz.prog w = .ok (.bool a.isNone) w := Lib.run_eql_slice_nil w _ _ a n c 0 0 Tryz.underlying22

set_option maxHeartbeats 800000 in
theorem cloneV_any (A : Option Addr) (cap : Nat) (vs : List Va) (w : World) (hvs : ValsAt w A vs) (hsm : vs.length ≤ 1000000) :
    Calls Tryz.prog 40 #[.slice A vs.length cap] w (GotRow w 43 4 vs.length (vs.flatMap Va.cells)) := by
  obtain ⟨n, hn⟩ : ∃ n, n = vs.length := ⟨_, rfl⟩
  rw [← hn] at hsm ⊢
  have HN := Lib.hid hn
  have HV := Lib.hid hvs
  clear hn hvs
  obtain ⟨iv, hiv, hzv, hsv, hbv⟩ := info_hid infoVa
  have hq := nilV
  cases A with
  | none =>
    have h0 : n = 0 := HN.out.trans (vals_none HV.out rfl)
    subst h0
    have HX := Lib.hid (show vs = [] from List.eq_nil_of_length_eq_zero HN.out.symm)
    go_enter Tryz.func40, Tryz.ntmps40
    go_wp2
    go_ret
    exact ⟨none, 0, rfl, by rw [HX.out]; exact World.ownsRow_nil _ _ _ _, Below.refl _ _⟩
  | some ad =>
    go_enter Tryz.func40, Tryz.ntmps40
    go_wp2_with (first
        | (at_builtin; refine wpList_append_src _ rfl (.tmp 5) (.tmp 6) 34 rfl w.heap.size 43 iv (.agg #[.int .i64 0, .string ⟨#[]⟩, .int .i64 0, .int .i64 0]) 4 40 Tryz.underlying34 hiv.out hzv.out hsv.out hbv.out rfl (by decide) (.slice (some ⟨w.heap.size, 0, none⟩) 0 0) 0 [] rfl ?own1 (some ad) n cap (vs.flatMap Va.cells) rfl ?l1 ?n1 ?c1 va_one ?m1 ?b1 ?s1 n (Nat.zero_add _).symm ?_))
    case own1 => exact own_empty w 43 4
    case l1 => rw [HN.out]; exact flat_len (f := Va.cells) (fun _ => rfl) _
    case n1 => intro h; cases h
    case c1 => exact vals_cells (HV.out.below (below_alloc _ _))
    case m1 => unfold maxLen; omega
    case b1 => omega
    case s1 => simp
    · intro A1 c1 w1 own1 hg1 _
      have OWN := Lib.hid own1
      have HB := Lib.hid ((below_alloc w (.cells #[] 43)).grown hg1 (by simp) (fun g hg => by have hg : some w.heap.size = some g := hg; injection hg with hg; omega))
      clear own1 hg1
      go_wp2
      go_ret
      exact ⟨A1, c1, rfl, OWN.out, HB.out⟩

theorem signs_none {w : World} {A : Option Addr} {ms : List Sm} (h : SignsAt w A ms) : A = none → ms.length = 0 := by
  intro hA
  cases ms with
  | nil => rfl
  | cons x r => obtain ⟨b, o, e, _⟩ := h 0 x rfl; rw [hA] at e; cases e
theorem split5 (j : Nat) : ∃ k i, i < 5 ∧ j = k * 5 + i := ⟨j / 5, j % 5, Nat.mod_lt _ (by omega), by omega⟩
/-- the cells of a slice of signs, as append reads them -/
theorem signs_cells {w : World} {A : Option Addr} {ms : List Sm} (h : SignsAt w A ms) : ∀ ad, A = some ad → ∀ j u, (ms.flatMap Sm.cells)[j]? = some u → w.cell? (ad.add j) = some u := by
  intro ad hA j u hj
  obtain ⟨k, i, hi, rfl⟩ := split5 j
  have hlt := (List.getElem?_eq_some_iff.1 hj).1
  rw [flat_len (c := 5) (fun _ => rfl)] at hlt
  have hk : k < ms.length := by omega
  have hg : ms[k]? = some ms[k] := List.getElem?_eq_getElem hk
  obtain ⟨b, o, e, _, hv, _⟩ := h k _ hg
  rw [hA] at e; injection e with e; subst e
  rw [flat_at (c := 5) (fun _ => rfl) _ _ _ hg i hi] at hj
  rw [addr_add]
  match i, hi, hj with
  | 0, _, hj => simp [Sm.cells] at hj; subst hj; exact hv.c0
  | 1, _, hj => simp [Sm.cells] at hj; subst hj; rw [show o + (k * 5 + 1) = o + k * 5 + 1 by omega]; exact hv.c1
  | 2, _, hj => simp [Sm.cells] at hj; subst hj; rw [show o + (k * 5 + 2) = o + k * 5 + 2 by omega]; exact hv.c2
  | 3, _, hj => simp [Sm.cells] at hj; subst hj; rw [show o + (k * 5 + 3) = o + k * 5 + 3 by omega]; exact hv.c3
  | 4, _, hj => simp [Sm.cells] at hj; subst hj; rw [show o + (k * 5 + 4) = o + k * 5 + 4 by omega]; exact hv.c4
theorem sms_one {ms : List Sm} : ∀ u ∈ ms.flatMap Sm.cells, u.oneCell' = true := by
  intro u hu
  obtain ⟨v, _, hv⟩ := List.mem_flatMap.1 hu
  exact sm_one u hv

set_option maxHeartbeats 800000 in
theorem cloneG_any (A : Option Addr) (cap : Nat) (ms : List Sm) (w : World) (hms : SignsAt w A ms) (hsm : ms.length ≤ 1000000) :
    Calls Tryz.prog 25 #[.slice A ms.length cap] w (GotRow w 38 5 ms.length (ms.flatMap Sm.cells)) := by
  obtain ⟨n, hn⟩ : ∃ n, n = ms.length := ⟨_, rfl⟩
  rw [← hn] at hsm ⊢
  have HN := Lib.hid hn
  have HV := Lib.hid hms
  clear hn hms
  obtain ⟨iv, hiv, hzv, hsv, hbv⟩ := info_hid infoSg
  have hq := nilG
  cases A with
  | none =>
    have h0 : n = 0 := HN.out.trans (signs_none HV.out rfl)
    subst h0
    have HX := Lib.hid (show ms = [] from List.eq_nil_of_length_eq_zero HN.out.symm)
    go_enter Tryz.func25, Tryz.ntmps25
    go_wp2
    go_ret
    exact ⟨none, 0, rfl, by rw [HX.out]; exact World.ownsRow_nil _ _ _ _, Below.refl _ _⟩
  | some ad =>
    go_enter Tryz.func25, Tryz.ntmps25
    go_wp2_with (first
        | (at_builtin; refine wpList_append_src _ rfl (.tmp 5) (.tmp 6) 22 rfl w.heap.size 38 iv (.agg #[.string ⟨#[]⟩, .int .i64 0, .int .i64 0, .bool false, .slice none 0 0]) 5 64 Tryz.underlying22 hiv.out hzv.out hsv.out hbv.out rfl (by decide) (.slice (some ⟨w.heap.size, 0, none⟩) 0 0) 0 [] rfl ?own1 (some ad) n cap (ms.flatMap Sm.cells) rfl ?l1 ?n1 ?c1 sms_one ?m1 ?b1 ?s1 n (Nat.zero_add _).symm ?_))
    case own1 => exact own_empty w 38 5
    case l1 => rw [HN.out]; exact flat_len (f := Sm.cells) (fun _ => rfl) _
    case n1 => intro h; cases h
    case c1 => exact signs_cells (HV.out.below (below_alloc _ _))
    case m1 => unfold maxLen; omega
    case b1 => omega
    case s1 => simp
    · intro A1 c1 w1 own1 hg1 _
      have OWN := Lib.hid own1
      have HB := Lib.hid ((below_alloc w (.cells #[] 38)).grown hg1 (by simp) (fun g hg => by have hg : some w.heap.size = some g := hg; injection hg with hg; omega))
      clear own1 hg1
      go_wp2
      go_ret
      exact ⟨A1, c1, rfl, OWN.out, HB.out⟩

end Go.Proofs.YtleihhkacmgofabGreatDoor

/- Two lists compared part by part, whatever they are: the program's Same and the specification's. -/
namespace Go.Proofs.YtleihhkacmgofabGreatDoor
open Go.RowKit

/-- equal lengths, and equal at each place -/
def eqUp {α : Type} (f : α → α → Bool) (xs ys : List α) : Bool := decide (xs.length = ys.length) && (xs.zip ys).all fun p => f p.1 p.2
def vaEq (u v : Va) : Bool := u.kind == v.kind && strEq u.text v.text && u.fr == v.fr && u.to == v.to
def shapeEq (s t : Sg) : Bool := (s.wide == t.wide) && (s.high == t.high) && (s.even == t.even)
def sgEq (s t : Sg) : Bool := strEq s.code t.code && shapeEq s t && eqUp vaEq s.vals t.vals
def liEq (a b : Li) : Bool := (a.per == b.per) && eqUp sgEq a.signs b.signs

theorem zip_at {α : Type} {xs ys : List α} {k : Nat} {u v : α} (h1 : xs[k]? = some u) (h2 : ys[k]? = some v) : (xs.zip ys)[k]? = some (u, v) := by
  rw [List.getElem?_zip_eq_some]; exact ⟨h1, h2⟩
theorem allz_step {α : Type} (q : α → Bool) (l : List α) (k : Nat) (v : α) (h : l[k]? = some v) (h0 : (l.take k).all q = true) (h1 : q v = true) : (l.take (k + 1)).all q = true := by
  obtain ⟨hk, rfl⟩ := List.getElem?_eq_some_iff.1 h
  rw [List.take_succ_eq_append_getElem hk, List.all_append, h0, Bool.true_and]; simp [h1]
theorem eqUp_false {α : Type} (f : α → α → Bool) (xs ys : List α) (k : Nat) (u v : α) (h1 : xs[k]? = some u) (h2 : ys[k]? = some v) (h : f u v = false) : eqUp f xs ys = false := by
  unfold eqUp
  rw [all_false_of (fun p : α × α => f p.1 p.2) _ k (u, v) (zip_at h1 h2) h, Bool.and_false]
theorem eqUp_len {α : Type} (f : α → α → Bool) (xs ys : List α) (h : xs.length ≠ ys.length) : eqUp f xs ys = false := by
  unfold eqUp; rw [decide_eq_false h, Bool.false_and]
theorem eqUp_true {α : Type} (f : α → α → Bool) (xs ys : List α) (k : Nat) (h : xs.length = ys.length) (hk : k = xs.length) (h0 : ((xs.zip ys).take k).all (fun p => f p.1 p.2) = true) : eqUp f xs ys = true := by
  have : (xs.zip ys).length ≤ k := by rw [List.length_zip]; omega
  rw [List.take_of_length_le this] at h0
  unfold eqUp; rw [h0, decide_eq_true h]; rfl
theorem eqUp_refl {α : Type} (f : α → α → Bool) (hf : ∀ x, f x x = true) (xs : List α) : eqUp f xs xs = true := by
  unfold eqUp
  rw [decide_eq_true rfl, Bool.true_and, List.all_eq_true]
  rintro ⟨a, b⟩ h
  obtain ⟨k, hk⟩ := List.getElem?_of_mem h
  rw [List.getElem?_zip_eq_some] at hk
  have : a = b := by have := hk.1.symm.trans hk.2; injection this
  subst this; exact hf a
theorem vaEq_refl (v : Va) : vaEq v v = true := by simp [vaEq, strEq_refl]
theorem sgEq_refl (s : Sg) : sgEq s s = true := by simp [sgEq, shapeEq, strEq_refl, eqUp_refl vaEq vaEq_refl]
theorem liEq_refl (l : Li) : liEq l l = true := by simp [liEq, eqUp_refl sgEq sgEq_refl]

theorem eqVa2 (k k2 f f2 u u2 : Int) (t t2 : ByteArray) (w : World) : (binOp .neq 43 (.agg #[.int .i64 k, .string t, .int .i64 f, .int .i64 u]) (.agg #[.int .i64 k2, .string t2, .int .i64 f2, .int .i64 u2])).run Tryz.prog w = .ok (.bool (!(k == k2 && strEq t t2 && f == f2 && u == u2))) w := by
  rw [run_neq_struct]
  simp [go_sem]
  by_cases h1 : k = k2 <;> by_cases h2 : t.toList = t2.toList <;> by_cases h3 : f = f2 <;> by_cases h4 : u = u2 <;> simp [h1, h2, h3, h4, strEq]

set_option maxHeartbeats 1600000 in
/-- the specification's SameValues -/
theorem rsameVals_any (A B : Option Addr) (c d : Nat) (vs us : List Va) (w : World) (hA : ValsAt w A vs) (hB : ValsAt w B us) (hz : vs.length ≤ 1000000) (_hz2 : us.length ≤ 1000000) :
    Calls Tryz.prog 27 #[.slice A vs.length c, .slice B us.length d] w fun e w' => e = .returned (.bool (eqUp vaEq vs us)) ∧ Below w.heap.size w w' := by
  by_cases hlen : vs.length = us.length
  case neg =>
    have HF := Lib.hid (eqUp_len vaEq vs us hlen)
    generalize vs.length = n at hlen hz ⊢
    generalize us.length = m at hlen _hz2 ⊢
    have hne : ((n : Int) == (m : Int)) = false := by rw [beq_eq_false_iff_ne]; omega
    go_enter Tryz.func27, Tryz.ntmps27
    go_wp2
    go_ret
    exact ⟨of_bool HF.out.symm, Below.refl _ _⟩
  obtain ⟨n, hn⟩ : ∃ n, n = vs.length := ⟨_, rfl⟩
  have HT := Lib.hid (fun k (hk : k = n) h0 => eqUp_true vaEq vs us k hlen (hk.trans hn) h0)
  have HX := Lib.hid (fun k u v h1 h2 h => eqUp_false vaEq vs us k u v h1 h2 h)
  rw [← hlen, ← hn]
  rw [← hn] at hz
  have HN := Lib.hid hn
  have HN2 := Lib.hid (hn.trans hlen)
  generalize eqUp vaEq vs us = R at HT HX ⊢
  clear hn hlen _hz2
  go_enter Tryz.func27, Tryz.ntmps27
  go_wp2
  go_loopw [5] (fun i wr => ∃ k : Nat, k ≤ n ∧ i = .int .i64 k ∧ Hid (Below w.heap.size w wr) ∧ Hid (((vs.zip us).take k).all (fun p => vaEq p.1 p.2) = true)) (fun i _ => n - (intOf i).toNat)
  case atStart => exact ⟨0, Nat.zero_le _, rfl, Lib.hid (Below.refl _ _), Lib.hid (by simp)⟩
  case round =>
    obtain ⟨k, hk, rfl, hb, hall⟩ := hrel
    by_cases hlt : k < n
    · have hget : vs[k]? = some (vs[k]'(by have := HN.out; omega)) := List.getElem?_eq_getElem _
      obtain ⟨u, hu⟩ : ∃ u, u = vs[k]'(by have := HN.out; omega) := ⟨_, rfl⟩
      rw [← hu] at hget
      have hget2 : us[k]? = some (us[k]'(by have := HN2.out; omega)) := List.getElem?_eq_getElem _
      obtain ⟨v, hv⟩ : ∃ v, v = us[k]'(by have := HN2.out; omega) := ⟨_, rfl⟩
      rw [← hv] at hget2
      obtain ⟨b, o, e1, hb1, hva⟩ := hA k u hget
      obtain ⟨b', o', e1', hb1', hva'⟩ := hB k v hget2
      subst e1 e1'
      obtain ⟨y0, y1, y2, y3, ysz⟩ := hva.below hb.out hb1
      obtain ⟨z0, z1, z2, z3, zsz⟩ := hva'.below hb.out hb1'
      have h1 : b < wr.heap.size := by have := hb.out.size; omega
      have h2 : b' < wr.heap.size := by have := hb.out.size; omega
      have GET := Lib.hid hget
      have GET2 := Lib.hid hget2
      clear hu hv hget hget2 hva hva' hA hB
      have he := fun w => eqVa2 u.kind v.kind u.fr v.fr u.to v.to u.text v.text w
      obtain ⟨Q, hQ⟩ : ∃ Q, (u.kind == v.kind && strEq u.text v.text && u.fr == v.fr && u.to == v.to) = Q := ⟨_, rfl⟩
      rw [hQ] at he
      have HQ := Lib.hid (show vaEq u v = Q from hQ)
      clear hQ
      cases Q with
      | true =>
        simp only [Bool.not_true] at he
        go_wp2
        refine wp_region_later (by kernel_rfl) (by kernel_rfl) ?_; (repeat (first | go_big_quiet_step (fail) | quiet_step (fail))); refine wpQuiet_nil ?_; rintro _ ⟨s, rfl⟩
        go_wp2
        go_roundw
        case rel => exact ⟨k + 1, by omega, by go_num, Lib.hid (hb.out.trans (s.below.mono hb.out.size)), Lib.hid (allz_step _ _ k (u, v) (zip_at GET.out GET2.out) hall.out HQ.out)⟩
        case measure => simp [intOf]; omega
      | false =>
        simp only [Bool.not_false] at he
        have HR := Lib.hid (HX.out k u v GET.out GET2.out HQ.out)
        go_wp2
        refine wp_region_later (by kernel_rfl) (by kernel_rfl) ?_; (repeat (first | go_big_quiet_step (fail) | quiet_step (fail))); refine wpQuiet_nil ?_; rintro _ ⟨s, rfl⟩
        go_wp2
        go_ret
        exact ⟨of_bool HR.out.symm, hb.out.trans (s.below.mono hb.out.size)⟩
    · obtain rfl : k = n := by omega
      have HR := Lib.hid (HT.out k rfl hall.out)
      go_wp2
      go_ret
      exact ⟨of_bool HR.out.symm, hb.out⟩

end Go.Proofs.YtleihhkacmgofabGreatDoor

/- Contracts of the specification's less and put. -/
namespace Go.Proofs.YtleihhkacmgofabGreatDoor
open Go.RowKit

theorem take_of_all {α : Type} (p : α → Bool) : ∀ (l : List α) (k : Nat), k ≤ l.length → (l.take k).all p = true → (∀ x, l[k]? = some x → p x = false) → l.takeWhile p = l.take k ∧ l.dropWhile p = l.drop k
  | [], k, hk, _, _ => by simp
  | x :: l, 0, _, _, h => by have := h x rfl; simp [this]
  | x :: l, k + 1, hk, ha, h => by
    simp only [List.take_succ_cons, List.all_cons, Bool.and_eq_true] at ha
    have ih := take_of_all p l k (by simpa using hk) ha.2 (fun y hy => h y (by simpa using hy))
    simp [ha.1, ih.1, ih.2]
theorem put_in {vs : List Va} {v : Va} {k : Nat} (hk : k ≤ vs.length) (ha : (vs.take k).all (fun x => vlt x v) = true) (h : ∀ x, vs[k]? = some x → vlt x v = false) (h2 : vs[k]? = none ∨ ∃ x, vs[k]? = some x ∧ veq x v = false) :
    putR vs v = vs.take k ++ [v] ++ vs.drop k := by
  obtain ⟨e1, e2⟩ := take_of_all (fun x => vlt x v) vs k hk ha h
  unfold putR
  rw [e1, e2, List.head?_drop]
  rcases h2 with h2 | ⟨x, h2, h3⟩
  · rw [h2]; simp
  · rw [h2]; simp [h3]
theorem put_had {vs : List Va} {v x : Va} {k : Nat} (ha : (vs.take k).all (fun x => vlt x v) = true) (h : vs[k]? = some x) (hx : vlt x v = false) (h3 : veq x v = true) :
    putR vs v = vs.take k ++ vs.drop k := by
  obtain ⟨e1, e2⟩ := take_of_all (fun x => vlt x v) vs k (by have := (List.getElem?_eq_some_iff.1 h).1; omega) ha (fun y hy => by rw [h] at hy; injection hy with hy; subst hy; exact hx)
  unfold putR
  rw [e1, e2, List.head?_drop, h]
  simp [h3]
theorem ValsAt.drop {w : World} {b o : Nat} {vs : List Va} (h : ValsAt w (some ⟨b, o, none⟩) vs) (k : Nat) : ValsAt w (some ⟨b, o + k * 4, none⟩) (vs.drop k) := fun j v hj => by
  rw [List.getElem?_drop] at hj
  obtain ⟨b', o', e, hlt, hv⟩ := h (k + j) v hj
  injection e with e; injection e with e1 e2
  subst e1 e2
  exact ⟨b, o + k * 4, rfl, hlt, by rw [show o + k * 4 + j * 4 = o + (k + j) * 4 by omega]; exact hv⟩

end Go.Proofs.YtleihhkacmgofabGreatDoor
