/-
  Contracts of inUse, bears, bearers, hasSign, checkSignInPeriod.
-/
import Derived.Test.YtleihhkacmgofaaGreatDoorCopy
namespace Go.Proofs.YtleihhkacmgofaaGreatDoor
open Go.RowKit

def useB (v : Va) (p : Int) : Bool := decide (v.fr ≤ p) && decide (p ≤ v.to)
theorem inUse_any (v : Va) (p : Int) (w : World) : Calls Tryz.prog 47 #[v.val, .int .i64 p] w fun e w' => e = .returned (.bool (useB v p)) ∧ Below w.heap.size w w' := by
  obtain ⟨k, t, f, to⟩ := v
  unfold Va.val useB
  dsimp only
  by_cases h1 : f ≤ p
  · go_enter Tryz.func47, Tryz.ntmps47
    go_wp2
    go_ret
    exact ⟨of_bool (by simp [h1]), below_alloc _ _⟩
  · go_enter Tryz.func47, Tryz.ntmps47
    go_wp2
    go_ret
    exact ⟨of_bool (by simp; omega), below_alloc _ _⟩
theorem inUse_is (v : Va) (p : Int) (w : World) (r : Bool) (h : useB v p = r) : Calls Tryz.prog 47 #[v.val, .int .i64 p] w fun e w' => e = .returned (.bool r) ∧ Below w.heap.size w w' := by
  rw [← h]; exact inUse_any v p w

theorem blk_keep {W w' : World} (hb : Below W.heap.size W w') {g : Nat} {cs : Array Value} {t : TypeId} (h : W.heap[g]? = some (.cells cs t (0, 0))) : w'.heap[g]? = some (.cells cs t (0, 0)) :=
  (hb.block g (Array.getElem?_eq_some_iff.1 h).1).trans h

/-- a sign has a value in a period -/
def bearV (k : Int) (t : ByteArray) (p : Int) (v : Va) : Bool := (v.kind == k && strEq v.text t) && useB v p
def bearB (s : Sg) (k : Int) (t : ByteArray) (p : Int) : Bool := s.vals.any (bearV k t p)

set_option maxHeartbeats 1600000 in
theorem bears_any (m : Sm) (k : Int) (t : ByteArray) (p : Int) (w : World) (hm : SmOk w m) :
    Calls Tryz.prog 56 #[m.val, .agg #[.int .i64 k, .string t], .int .i64 p] w fun e w' => e = .returned (.bool (bearB m.s k t p)) ∧ Below w.heap.size w w' := by
  obtain ⟨⟨code, wide, high, even, vs⟩, A, cap⟩ := m
  obtain ⟨hvs, hl, hcap, hcode⟩ := hm
  dsimp only at hvs hl hcap hcode
  unfold Sm.val bearB
  dsimp only
  obtain ⟨n, hn⟩ : ∃ n, n = vs.length := ⟨_, rfl⟩
  rw [← hn] at hl ⊢
  have hcap' := hcap
  unfold maxLen at hcap'
  have HN := Lib.hid hn
  clear hn
  go_enter Tryz.func56, Tryz.ntmps56
  go_wp2
  have HB0 := Lib.hid (show ((w.alloc (.cells #[.string code, .int .i64 wide, .int .i64 high, .bool even, .slice A n cap] 39)).alloc (.cells #[.int .i64 k, .string t] 67)).heap[w.heap.size + 1]? = some (.cells #[.int .i64 k, .string t] 67 (0, 0)) by
    have := heap_alloc_new (w.alloc (.cells #[.string code, .int .i64 wide, .int .i64 high, .bool even, .slice A n cap] 39)) (.cells #[.int .i64 k, .string t] 67); simpa using this)
  have HWb := Lib.hid (show Below w.heap.size w ((w.alloc (.cells #[.string code, .int .i64 wide, .int .i64 high, .bool even, .slice A n cap] 39)).alloc (.cells #[.int .i64 k, .string t] 67)) from ((Below.refl _ _).alloc (Nat.le_refl _) _).alloc (by simp) _)
  have HWs := Lib.hid (show ((w.alloc (.cells #[.string code, .int .i64 wide, .int .i64 high, .bool even, .slice A n cap] 39)).alloc (.cells #[.int .i64 k, .string t] 67)).heap.size = w.heap.size + 1 + 1 by simp)
  generalize (w.alloc (.cells #[.string code, .int .i64 wide, .int .i64 high, .bool even, .slice A n cap] 39)).alloc (.cells #[.int .i64 k, .string t] 67) = W at HB0 HWb HWs ⊢
  go_loopw [12] (fun i wr => ∃ j : Nat, j ≤ n ∧ i = .int .i64 j ∧ Hid (Below W.heap.size W wr) ∧ Hid ((vs.take j).any (bearV k t p) = false)) (fun i _ => n - (intOf i).toNat)
  case atStart => exact ⟨0, Nat.zero_le _, rfl, Lib.hid (Below.refl _ _), Lib.hid (by simp)⟩
  case round =>
    obtain ⟨j, hj, rfl, hb, hno⟩ := hrel
    have hw1 := Lib.hid (below_more HWb.out hb.out)
    have hsz : w.heap.size + 1 < wr.heap.size := by have := hb.out.size; have := HWs.out; omega
    have B1 := Lib.hid (blk_keep hb.out HB0.out)
    have x0 := cell_of_blk B1.out 0
    have x1 := cell_of_blk B1.out 1
    simp at x0 x1
    by_cases hlt : j < n
    · have hget : vs[j]? = some (vs[j]'(by have := HN.out; omega)) := List.getElem?_eq_getElem _
      obtain ⟨u, hu⟩ : ∃ u, u = vs[j]'(by have := HN.out; omega) := ⟨_, rfl⟩
      rw [← hu] at hget
      obtain ⟨b, o, hA, hb1, hva⟩ := hvs j u hget
      subst hA
      obtain ⟨y0, y1, y2, y3, ysz⟩ := hva.below hw1.out hb1
      have GET := Lib.hid hget
      have hsb : b < wr.heap.size := by omega
      have hsz1 : w.heap.size + 1 < wr.heap.size + 1 := by omega
      clear hu hget hva hb1 hvs
      have he := fun w => eqMeaning u.kind k u.text t w
      by_cases hc : (u.kind == k && strEq u.text t) = true
      case neg =>
        have hc : (u.kind == k && strEq u.text t) = false := by simpa using hc
        have hst := Lib.hid (any_step (bearV k t p) vs j u GET.out hno.out (by unfold bearV; rw [hc]; rfl))
        rw [hc] at he
        clear hc
        go_wp2
        refine wp_region_later (by kernel_rfl) (by kernel_rfl) ?_; (repeat (first | go_big_quiet_step ((first | ((go_at_call 45; exact Calls.later _ (meaning_any _ _ _ _ _))) | ((go_at_call 47; exact Calls.later _ (inUse_is u p _ false (by assumption)))))) | quiet_step ((first | ((go_at_call 45; exact Calls.later _ (meaning_any _ _ _ _ _))) | ((go_at_call 47; exact Calls.later _ (inUse_is u p _ false (by assumption)))))))); refine wpQuiet_nil ?_; rintro _ ⟨s, rfl⟩
        go_wp2
        go_roundw
        case rel => exact ⟨j + 1, by omega, by go_num, Lib.hid (hb.out.trans ((below1 s).mono hb.out.size)), hst⟩
        case measure => simp [intOf]; omega
      rw [hc] at he
      by_cases hu2 : useB u p = true
      · have hfin := Lib.hid (any_true (bearV k t p) vs j u GET.out (by unfold bearV; rw [hc, hu2]; rfl))
        clear hc
        go_wp2
        refine wp_region_later (by kernel_rfl) (by kernel_rfl) ?_; (repeat (first | go_big_quiet_step ((first | ((go_at_call 45; exact Calls.later _ (meaning_any _ _ _ _ _))) | ((go_at_call 47; exact Calls.later _ (inUse_is u p _ true hu2))))) | quiet_step ((first | ((go_at_call 45; exact Calls.later _ (meaning_any _ _ _ _ _))) | ((go_at_call 47; exact Calls.later _ (inUse_is u p _ true hu2))))))); refine wpQuiet_nil ?_; rintro _ ⟨s, rfl⟩
        go_wp2
        go_ret
        exact ⟨of_bool hfin.out.symm, below_more hw1.out (below1 s)⟩
      · have hu2 : useB u p = false := by simpa using hu2
        have hst := Lib.hid (any_step (bearV k t p) vs j u GET.out hno.out (by unfold bearV; rw [hc, hu2]; rfl))
        clear hc
        go_wp2
        refine wp_region_later (by kernel_rfl) (by kernel_rfl) ?_; (repeat (first | go_big_quiet_step ((first | ((go_at_call 45; exact Calls.later _ (meaning_any _ _ _ _ _))) | ((go_at_call 47; exact Calls.later _ (inUse_is u p _ false hu2))))) | quiet_step ((first | ((go_at_call 45; exact Calls.later _ (meaning_any _ _ _ _ _))) | ((go_at_call 47; exact Calls.later _ (inUse_is u p _ false hu2))))))); refine wpQuiet_nil ?_; rintro _ ⟨s, rfl⟩
        go_wp2
        go_roundw
        case rel => exact ⟨j + 1, by omega, by go_num, Lib.hid (hb.out.trans ((below1 s).mono hb.out.size)), hst⟩
        case measure => simp [intOf]; omega
    · obtain rfl : j = n := by omega
      go_wp2
      go_ret
      refine ⟨of_bool ?_, hw1.out⟩
      have := hno.out
      rw [HN.out, List.take_length] at this
      exact this.symm

def bearFrom (k : Int) (t : ByteArray) (p : Int) : Nat → List Sg → List Int
  | _, [] => []
  | i, s :: r => if bearB s k t p then (i : Int) :: bearFrom k t p (i + 1) r else bearFrom k t p (i + 1) r
theorem bearFrom_snoc (k : Int) (t : ByteArray) (p : Int) : ∀ (l : List Sg) (i : Nat) (s : Sg), bearFrom k t p i (l ++ [s]) = bearFrom k t p i l ++ (if bearB s k t p then [((i + l.length : Nat) : Int)] else [])
  | [], i, s => by simp [bearFrom]
  | x :: l, i, s => by
    simp only [List.cons_append, bearFrom]
    have ih := bearFrom_snoc k t p l (i + 1) s
    rw [show i + 1 + l.length = i + (x :: l).length by simp; omega] at ih
    split <;> simp [ih]
theorem bearFrom_len (k : Int) (t : ByteArray) (p : Int) : ∀ (l : List Sg) (i : Nat), (bearFrom k t p i l).length ≤ l.length
  | [], _ => by simp [bearFrom]
  | x :: l, i => by
    have := bearFrom_len k t p l (i + 1)
    simp only [bearFrom]; split <;> simp <;> omega
theorem infoInt : (Tryz.prog.info? 3).map (fun i => (i.zero, i.size, i.bytes)) = some (some (.int .i64 0), 1, 8) := by kernel_rfl
/-- a slice of numbers -/
def IntsAt (w : World) (A : Option Addr) (zs : List Int) : Prop := ∀ ad, A = some ad → ∃ g, ad = ⟨g, 0, none⟩ ∧ g < w.heap.size ∧ ∀ j, j < zs.length → w.cell? ⟨g, j, none⟩ = some (.int .i64 (zs.getD j 0))
def GotInts (w : World) (zs : List Int) (e : Ending) (w' : World) : Prop :=
  ∃ A c, e = .returned (.slice A zs.length c) ∧ IntsAt w' A zs ∧ (A = none → zs = []) ∧ Below w.heap.size w w'
theorem is_ints {w : World} {base : Nat} {v : Value} {n : Nat} {zs : List Int} {e : TypeId} (h : w.ownsRow base e 1 v n (zs.map (Value.int .i64))) : ∃ A c, v = .slice A zs.length c ∧ IntsAt w A zs ∧ (A = none → zs = []) := by
  have hn : n = zs.length := by have := h.1; simp at this; exact this.symm
  subst hn
  obtain ⟨A, c, rfl, h1, h2, hA, hn⟩ := own_slice h
  refine ⟨A, c, rfl, fun ad e => ?_, fun e => List.eq_nil_of_length_eq_zero (hn e)⟩
  obtain ⟨g, rfl, _, hg, hc⟩ := hA ad e
  exact ⟨g, rfl, hg, fun j hj => hc j _ (by rw [List.getElem?_map, List.getElem?_eq_getElem hj]; simp [hj])⟩
theorem bears_is (m : Sm) (k : Int) (t : ByteArray) (p : Int) (w : World) (hm : SmOk w m) (r : Bool) (h : bearB m.s k t p = r) :
    Calls Tryz.prog 56 #[m.val, .agg #[.int .i64 k, .string t], .int .i64 p] w fun e w' => e = .returned (.bool r) ∧ Below w.heap.size w w' := by
  rw [← h]; exact bears_any m k t p w hm

set_option maxHeartbeats 1600000 in
set_option maxRecDepth 100000 in
theorem bearers_any (l : Lm) (kd : Int) (t : ByteArray) (p : Int) (w : World) (hl : LmOk w l) (hsm : l.ms.length ≤ 1000000) :
    Calls Tryz.prog 38 #[l.val, .agg #[.int .i64 kd, .string t], .int .i64 p] w (GotInts w (bearFrom kd t p 0 l.signs)) := by
  have hs := hl.signs
  obtain ⟨per, ms, A, cap⟩ := l
  obtain ⟨-, hlen, hcap⟩ := hl
  dsimp only at hs hlen hcap hsm
  unfold Lm.val Lm.signs
  dsimp only
  obtain ⟨n, hn⟩ : ∃ n, n = ms.length := ⟨_, rfl⟩
  rw [← hn] at hlen hsm ⊢
  have hcap' := hcap
  unfold maxLen at hcap'
  have HN := Lib.hid hn
  have HSM := Lib.hid hsm
  clear hn hsm
  obtain ⟨is, his, hzs, hss, hbs⟩ := info_hid infoInt
  go_enter Tryz.func38, Tryz.ntmps38
  go_wp2
  have HB0 := Lib.hid (show ((w.alloc (.cells #[.int .i64 per, .slice A n cap] 24)).alloc (.cells #[.int .i64 kd, .string t] 67)).heap[w.heap.size + 1]? = some (.cells #[.int .i64 kd, .string t] 67 (0, 0)) by
    have := heap_alloc_new (w.alloc (.cells #[.int .i64 per, .slice A n cap] 24)) (.cells #[.int .i64 kd, .string t] 67); simpa using this)
  have HWb := Lib.hid (show Below w.heap.size w ((w.alloc (.cells #[.int .i64 per, .slice A n cap] 24)).alloc (.cells #[.int .i64 kd, .string t] 67)) from ((Below.refl _ _).alloc (Nat.le_refl _) _).alloc (by simp) _)
  have HWs := Lib.hid (show ((w.alloc (.cells #[.int .i64 per, .slice A n cap] 24)).alloc (.cells #[.int .i64 kd, .string t] 67)).heap.size = w.heap.size + 1 + 1 by simp)
  generalize (w.alloc (.cells #[.int .i64 per, .slice A n cap] 24)).alloc (.cells #[.int .i64 kd, .string t] 67) = W at HB0 HWb HWs ⊢
  go_loopw [7, 13] (fun v i wr => ∃ j c : Nat, j ≤ n ∧ c ≤ j ∧ i = .int .i64 j ∧ Hid (Below W.heap.size W wr) ∧ Hid (c = (bearFrom kd t p 0 ((ms.map (·.s)).take j)).length) ∧ Hid (wr.ownsRow W.heap.size 3 1 v c ((bearFrom kd t p 0 ((ms.map (·.s)).take j)).map (Value.int .i64)))) (fun _ i _ => n - (intOf i).toNat)
  case atStart => exact ⟨0, 0, Nat.zero_le _, Nat.le_refl _, rfl, Lib.hid (Below.refl _ _), Lib.hid (by simp [bearFrom]), Lib.hid (by simpa [bearFrom] using World.ownsRow_nil _ _ _ _)⟩
  case round =>
    obtain ⟨j, c, hj, hcj, rfl, hb, hlc, hown⟩ := hrel
    have hw1 := Lib.hid (below_more HWb.out hb.out)
    have hsz : w.heap.size + 1 < wr.heap.size := by have := hb.out.size; have := HWs.out; omega
    have B1 := Lib.hid (blk_keep hb.out HB0.out)
    have x0 := cell_of_blk B1.out 0
    have x1 := cell_of_blk B1.out 1
    simp at x0 x1
    by_cases hlt : j < n
    · have hget : ms[j]? = some (ms[j]'(by have := HN.out; omega)) := List.getElem?_eq_getElem _
      obtain ⟨u, hu⟩ : ∃ u, u = ms[j]'(by have := HN.out; omega) := ⟨_, rfl⟩
      rw [← hu] at hget
      obtain ⟨b, o, hA, hb1, hva, hok⟩ := hs j u hget
      subst hA
      obtain ⟨y0, y1, y2, y3, y4⟩ := hva.below hw1.out hb1
      have hokr := Lib.hid (hok.below hw1.out)
      have GET := Lib.hid (show (ms.map (·.s))[j]? = some u.s by rw [List.getElem?_map, hget]; rfl)
      have hsb : b < wr.heap.size := by omega
      have hsz1 : w.heap.size + 1 < wr.heap.size + 1 := by omega
      have hsnd := Lib.hid (show bearFrom kd t p 0 ((ms.map (·.s)).take (j + 1)) = bearFrom kd t p 0 ((ms.map (·.s)).take j) ++ (if bearB u.s kd t p then [(j : Int)] else []) by
        obtain ⟨hk', e⟩ := List.getElem?_eq_some_iff.1 GET.out
        have hl : ((ms.map (·.s)).take j).length = j := by rw [List.length_take]; omega
        rw [List.take_succ_eq_append_getElem hk', e, bearFrom_snoc, hl, Nat.zero_add])
      clear hu hget hva hb1 hs hok
      have hbx := Lib.hid (below_alloc wr (.cells #[.string u.s.code, .int .i64 u.s.wide, .int .i64 u.s.high, .bool u.s.even, .slice u.A u.s.vals.length u.cap] 39))
      by_cases hc : bearB u.s kd t p = true
      case neg =>
        have hc : bearB u.s kd t p = false := by simpa using hc
        have hsn2 := Lib.hid (show bearFrom kd t p 0 ((ms.map (·.s)).take (j + 1)) = bearFrom kd t p 0 ((ms.map (·.s)).take j) by rw [hsnd.out, hc]; simp)
        go_wp2_with fail
        refine (bears_is u kd t p _ (hokr.out.below hbx.out) false hc).mono ?_; rintro e w2 ⟨rfl, hb2⟩
        have hb3 := Lib.hid (below_more hbx.out hb2)
        clear hb2
        go_wp2_with fail
        go_roundw
        case rel => exact ⟨j + 1, c, by omega, by omega, by go_num, Lib.hid (hb.out.trans (hb3.out.mono hb.out.size)), by rw [hsn2.out]; exact hlc, Lib.hid (by rw [hsn2.out]; exact ownsRow_of_block hown.out (fun g hg => hb3.out.block g (hown.out.lt g hg).2))⟩
        case measure => simp [intOf]; omega
      case pos =>
        have hsn2 := Lib.hid (show bearFrom kd t p 0 ((ms.map (·.s)).take (j + 1)) = bearFrom kd t p 0 ((ms.map (·.s)).take j) ++ [(j : Int)] by rw [hsnd.out, hc]; simp)
        go_wp2_with fail
        refine (bears_is u kd t p _ (hokr.out.below hbx.out) true hc).mono ?_; rintro e w2 ⟨rfl, hb2⟩
        have hb3 := Lib.hid (below_more hbx.out hb2)
        have hs2 := Lib.hid (show wr.heap.size + 1 ≤ w2.heap.size by have := hb2.size; simpa using this)
        have own2 := Lib.hid (ownsRow_of_block (w' := w2) hown.out (fun g hg => hb3.out.block g (hown.out.lt g hg).2))
        clear hb2
        go_wp2_with (first
          | (at_builtin; refine wpList_append_src _ rfl (.tmp 22) (.tmp 24) 64 rfl W.heap.size 3 is (.int .i64 0) 1 8 Tryz.underlying64 his.out hzs.out hss.out hbs.out rfl (by decide) u7 c ((bearFrom kd t p 0 ((ms.map (·.s)).take j)).map (Value.int .i64)) rfl ?own2 (some ⟨w2.heap.size, 0, none⟩) 1 1 [.int .i64 j] rfl ?l2 ?n2 ?c2 ?o2 ?m2 ?b2 ?s2 (c + 1) rfl ?_))
        case own2 => exact own2.out.alloc _
        case l2 => rfl
        case n2 => intro h; cases h
        case o2 => intro u hu; simp at hu; subst hu; rfl
        case c2 =>
          intro ad had i u' hj
          injection had with had
          subst had
          have := new_cells w2 [.int .i64 j] 3 i u' hj
          simpa using this
        case m2 => have := HSM.out; unfold maxLen; omega
        case b2 => have := HSM.out; omega
        case s2 => have := hs2.out; have := hb.out.size; simp; omega
        · intro A2 c2 w3 own3 hg3 _
          have b4 := Lib.hid (((hb.out.trans (hb3.out.mono hb.out.size)).alloc (by have := hs2.out; have := hb.out.size; omega) (.cells #[.int .i64 j] 3)).grown hg3 (by have := hs2.out; have := hb.out.size; simp; omega) (fun g hg => (own2.out.lt g hg).1))
          have own3 := Lib.hid own3
          clear hg3
          go_wp2
          go_roundw
          case rel => exact ⟨j + 1, c + 1, by omega, by omega, by go_num, b4, Lib.hid (by rw [hsn2.out, List.length_append, ← hlc.out]; rfl), Lib.hid (by rw [hsn2.out, List.map_append]; exact own3.out)⟩
          case measure => simp [intOf]; omega
    · obtain rfl : j = n := by omega
      obtain ⟨A2, c2, hv, h1, h2⟩ := is_ints hown.out
      subst hv
      have hlen2 := Lib.hid (show (ms.map (·.s)).take j = ms.map (·.s) by rw [HN.out, ← List.length_map (f := (·.s)), List.take_length])
      go_wp2
      go_ret
      rw [hlen2.out] at h1 h2
      exact ⟨A2, c2, by rw [hlen2.out]; rfl, h1, h2, hw1.out⟩

end Go.Proofs.YtleihhkacmgofaaGreatDoor
