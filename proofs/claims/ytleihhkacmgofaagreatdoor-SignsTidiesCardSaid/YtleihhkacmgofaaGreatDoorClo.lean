/-
  Contracts of slices.Clone at values and at signs.
-/
import Derived.Test.YtleihhkacmgofaaGreatDoorOrd
import Derived.Test.YtleihhkacmgofaaGreatDoorUsd
namespace Go.Proofs.YtleihhkacmgofaaGreatDoor
open Go.RowKit

theorem nilV (w : World) (a : Option Addr) (n c : Nat) : (binOp .eql 36 (.slice a n c) (.slice none 0 0)).run Tryz.prog w = .ok (.bool a.isNone) w := Lib.run_eql_slice_nil w _ _ a n c 0 0 Tryz.underlying36
theorem nilG (w : World) (a : Option Addr) (n c : Nat) : (binOp .eql 22 (.slice a n c) (.slice none 0 0)).run Tryz.prog w = .ok (.bool a.isNone) w := Lib.run_eql_slice_nil w _ _ a n c 0 0 Tryz.underlying22

set_option maxHeartbeats 800000 in
theorem cloneV_any (A : Option Addr) (cap : Nat) (vs : List Va) (w : World) (hvs : ValsAt w A vs) (hsm : vs.length ≤ 1000000) :
    Calls Tryz.prog 42 #[.slice A vs.length cap] w (GotRow w 42 4 vs.length (vs.flatMap Va.cells)) := by
  obtain ⟨n, hn⟩ : ∃ n, n = vs.length := ⟨_, rfl⟩
  rw [← hn] at hsm ⊢
  have HN := Lib.hid hn
  have HV := Lib.hid hvs
  clear hn hvs
  obtain ⟨iv, hiv, hzv, hsv, hbv⟩ := info_hid infoVa
  have hq := nilV
  cases A with
  | none =>
    have h0 : n = 0 := HN.out.trans (vals_none HV.out rfl)
    subst h0
    have HX := Lib.hid (show vs = [] from List.eq_nil_of_length_eq_zero HN.out.symm)
    go_enter Tryz.func42, Tryz.ntmps42
    go_wp2
    go_ret
    exact ⟨none, 0, rfl, by rw [HX.out]; exact World.ownsRow_nil _ _ _ _, Below.refl _ _⟩
  | some ad =>
    go_enter Tryz.func42, Tryz.ntmps42
    go_wp2_with (first
        | (at_builtin; refine wpList_append_src _ rfl (.tmp 5) (.tmp 6) 36 rfl w.heap.size 42 iv (.agg #[.int .i64 0, .string ⟨#[]⟩, .int .i64 0, .int .i64 0]) 4 40 Tryz.underlying36 hiv.out hzv.out hsv.out hbv.out rfl (by decide) (.slice (some ⟨w.heap.size, 0, none⟩) 0 0) 0 [] rfl ?own1 (some ad) n cap (vs.flatMap Va.cells) rfl ?l1 ?n1 ?c1 va_one ?m1 ?b1 ?s1 n (Nat.zero_add _).symm ?_))
    case own1 => exact own_empty w 42 4
    case l1 => rw [HN.out]; exact flat_len (f := Va.cells) (fun _ => rfl) _
    case n1 => intro h; cases h
    case c1 => exact vals_cells (HV.out.below (below_alloc _ _))
    case m1 => unfold maxLen; omega
    case b1 => omega
    case s1 => simp
    · intro A1 c1 w1 own1 hg1 _
      have OWN := Lib.hid own1
      have HB := Lib.hid ((below_alloc w (.cells #[] 42)).grown hg1 (by simp) (fun g hg => by have hg : some w.heap.size = some g := hg; injection hg with hg; omega))
      clear own1 hg1
      go_wp2
      go_ret
      exact ⟨A1, c1, rfl, OWN.out, HB.out⟩

theorem signs_none {w : World} {A : Option Addr} {ms : List Sm} (h : SignsAt w A ms) : A = none → ms.length = 0 := by
  intro hA
  cases ms with
  | nil => rfl
  | cons x r => obtain ⟨b, o, e, _⟩ := h 0 x rfl; rw [hA] at e; cases e
theorem split5 (j : Nat) : ∃ k i, i < 5 ∧ j = k * 5 + i := ⟨j / 5, j % 5, Nat.mod_lt _ (by omega), by omega⟩
/-- the cells of a slice of signs, as append reads them -/
theorem signs_cells {w : World} {A : Option Addr} {ms : List Sm} (h : SignsAt w A ms) : ∀ ad, A = some ad → ∀ j u, (ms.flatMap Sm.cells)[j]? = some u → w.cell? (ad.add j) = some u := by
  intro ad hA j u hj
  obtain ⟨k, i, hi, rfl⟩ := split5 j
  have hlt := (List.getElem?_eq_some_iff.1 hj).1
  rw [flat_len (c := 5) (fun _ => rfl)] at hlt
  have hk : k < ms.length := by omega
  have hg : ms[k]? = some ms[k] := List.getElem?_eq_getElem hk
  obtain ⟨b, o, e, _, hv, _⟩ := h k _ hg
  rw [hA] at e; injection e with e; subst e
  rw [flat_at (c := 5) (fun _ => rfl) _ _ _ hg i hi] at hj
  rw [addr_add]
  match i, hi, hj with
  | 0, _, hj => simp [Sm.cells] at hj; subst hj; exact hv.c0
  | 1, _, hj => simp [Sm.cells] at hj; subst hj; rw [show o + (k * 5 + 1) = o + k * 5 + 1 by omega]; exact hv.c1
  | 2, _, hj => simp [Sm.cells] at hj; subst hj; rw [show o + (k * 5 + 2) = o + k * 5 + 2 by omega]; exact hv.c2
  | 3, _, hj => simp [Sm.cells] at hj; subst hj; rw [show o + (k * 5 + 3) = o + k * 5 + 3 by omega]; exact hv.c3
  | 4, _, hj => simp [Sm.cells] at hj; subst hj; rw [show o + (k * 5 + 4) = o + k * 5 + 4 by omega]; exact hv.c4
theorem sms_one {ms : List Sm} : ∀ u ∈ ms.flatMap Sm.cells, u.oneCell' = true := by
  intro u hu
  obtain ⟨v, _, hv⟩ := List.mem_flatMap.1 hu
  exact sm_one u hv

set_option maxHeartbeats 800000 in
theorem cloneG_any (A : Option Addr) (cap : Nat) (ms : List Sm) (w : World) (hms : SignsAt w A ms) (hsm : ms.length ≤ 1000000) :
    Calls Tryz.prog 23 #[.slice A ms.length cap] w (GotRow w 39 5 ms.length (ms.flatMap Sm.cells)) := by
  obtain ⟨n, hn⟩ : ∃ n, n = ms.length := ⟨_, rfl⟩
  rw [← hn] at hsm ⊢
  have HN := Lib.hid hn
  have HV := Lib.hid hms
  clear hn hms
  obtain ⟨iv, hiv, hzv, hsv, hbv⟩ := info_hid infoSg
  have hq := nilG
  cases A with
  | none =>
    have h0 : n = 0 := HN.out.trans (signs_none HV.out rfl)
    subst h0
    have HX := Lib.hid (show ms = [] from List.eq_nil_of_length_eq_zero HN.out.symm)
    go_enter Tryz.func23, Tryz.ntmps23
    go_wp2
    go_ret
    exact ⟨none, 0, rfl, by rw [HX.out]; exact World.ownsRow_nil _ _ _ _, Below.refl _ _⟩
  | some ad =>
    go_enter Tryz.func23, Tryz.ntmps23
    go_wp2_with (first
        | (at_builtin; refine wpList_append_src _ rfl (.tmp 5) (.tmp 6) 22 rfl w.heap.size 39 iv (.agg #[.string ⟨#[]⟩, .int .i64 0, .int .i64 0, .bool false, .slice none 0 0]) 5 64 Tryz.underlying22 hiv.out hzv.out hsv.out hbv.out rfl (by decide) (.slice (some ⟨w.heap.size, 0, none⟩) 0 0) 0 [] rfl ?own1 (some ad) n cap (ms.flatMap Sm.cells) rfl ?l1 ?n1 ?c1 sms_one ?m1 ?b1 ?s1 n (Nat.zero_add _).symm ?_))
    case own1 => exact own_empty w 39 5
    case l1 => rw [HN.out]; exact flat_len (f := Sm.cells) (fun _ => rfl) _
    case n1 => intro h; cases h
    case c1 => exact signs_cells (HV.out.below (below_alloc _ _))
    case m1 => unfold maxLen; omega
    case b1 => omega
    case s1 => simp
    · intro A1 c1 w1 own1 hg1 _
      have OWN := Lib.hid own1
      have HB := Lib.hid ((below_alloc w (.cells #[] 39)).grown hg1 (by simp) (fun g hg => by have hg : some w.heap.size = some g := hg; injection hg with hg; omega))
      clear own1 hg1
      go_wp2
      go_ret
      exact ⟨A1, c1, rfl, OWN.out, HB.out⟩

end Go.Proofs.YtleihhkacmgofaaGreatDoor
