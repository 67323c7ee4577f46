/-
  Two lists compared part by part, whatever they are: the program's Same and the specification's.
-/
import Derived.Test.YtbfedahonfjpfaaBear
import Derived.Test.YtbfedahonfjpfaaRchk
import Derived.Laws.StructEq
namespace Go.Proofs.Ytbfedahonfjpfaa
open Go.RowKit

/-- equal lengths, and equal at each place -/
def eqUp {α : Type} (f : α → α → Bool) (xs ys : List α) : Bool := decide (xs.length = ys.length) && (xs.zip ys).all fun p => f p.1 p.2
def vaEq (u v : Va) : Bool := u.kind == v.kind && strEq u.text v.text && u.fr == v.fr && u.to == v.to
def shapeEq (s t : Sg) : Bool := (s.wide == t.wide) && (s.high == t.high) && (s.even == t.even)
def sgEq (s t : Sg) : Bool := strEq s.code t.code && shapeEq s t && eqUp vaEq s.vals t.vals
def liEq (a b : Li) : Bool := (a.per == b.per) && eqUp sgEq a.signs b.signs

theorem zip_at {α : Type} {xs ys : List α} {k : Nat} {u v : α} (h1 : xs[k]? = some u) (h2 : ys[k]? = some v) : (xs.zip ys)[k]? = some (u, v) := by
  rw [List.getElem?_zip_eq_some]; exact ⟨h1, h2⟩
theorem allz_step {α : Type} (q : α → Bool) (l : List α) (k : Nat) (v : α) (h : l[k]? = some v) (h0 : (l.take k).all q = true) (h1 : q v = true) : (l.take (k + 1)).all q = true := by
  obtain ⟨hk, rfl⟩ := List.getElem?_eq_some_iff.1 h
  rw [List.take_succ_eq_append_getElem hk, List.all_append, h0, Bool.true_and]; simp [h1]
theorem eqUp_false {α : Type} (f : α → α → Bool) (xs ys : List α) (k : Nat) (u v : α) (h1 : xs[k]? = some u) (h2 : ys[k]? = some v) (h : f u v = false) : eqUp f xs ys = false := by
  unfold eqUp
  rw [all_false_of (fun p : α × α => f p.1 p.2) _ k (u, v) (zip_at h1 h2) h, Bool.and_false]
theorem eqUp_len {α : Type} (f : α → α → Bool) (xs ys : List α) (h : xs.length ≠ ys.length) : eqUp f xs ys = false := by
  unfold eqUp; rw [decide_eq_false h, Bool.false_and]
theorem eqUp_true {α : Type} (f : α → α → Bool) (xs ys : List α) (k : Nat) (h : xs.length = ys.length) (hk : k = xs.length) (h0 : ((xs.zip ys).take k).all (fun p => f p.1 p.2) = true) : eqUp f xs ys = true := by
  have : (xs.zip ys).length ≤ k := by rw [List.length_zip]; omega
  rw [List.take_of_length_le this] at h0
  unfold eqUp; rw [h0, decide_eq_true h]; rfl
theorem eqUp_refl {α : Type} (f : α → α → Bool) (hf : ∀ x, f x x = true) (xs : List α) : eqUp f xs xs = true := by
  unfold eqUp
  rw [decide_eq_true rfl, Bool.true_and, List.all_eq_true]
  rintro ⟨a, b⟩ h
  obtain ⟨k, hk⟩ := List.getElem?_of_mem h
  rw [List.getElem?_zip_eq_some] at hk
  have : a = b := by have := hk.1.symm.trans hk.2; injection this
  subst this; exact hf a
theorem vaEq_refl (v : Va) : vaEq v v = true := by simp [vaEq, strEq_refl]
theorem sgEq_refl (s : Sg) : sgEq s s = true := by simp [sgEq, shapeEq, strEq_refl, eqUp_refl vaEq vaEq_refl]
theorem liEq_refl (l : Li) : liEq l l = true := by simp [liEq, eqUp_refl sgEq sgEq_refl]

theorem eqVa2 (k k2 f f2 u u2 : Int) (t t2 : ByteArray) (w : World) : (binOp .neq 116 (.agg #[.int .i64 k, .string t, .int .i64 f, .int .i64 u]) (.agg #[.int .i64 k2, .string t2, .int .i64 f2, .int .i64 u2])).run Try.prog w = .ok (.bool (!(k == k2 && strEq t t2 && f == f2 && u == u2))) w := by
  rw [run_neq_struct]
  simp [go_sem]
  by_cases h1 : k = k2 <;> by_cases h2 : t.toList = t2.toList <;> by_cases h3 : f = f2 <;> by_cases h4 : u = u2 <;> simp [h1, h2, h3, h4, strEq]

set_option maxHeartbeats 1600000 in
/-- the specification's SameValues -/
theorem rsameVals_any (A B : Option Addr) (c d : Nat) (vs us : List Va) (w : World) (hA : ValsAt w A vs) (hB : ValsAt w B us) (hz : vs.length ≤ 1000000) (_hz2 : us.length ≤ 1000000) :
    Calls Try.prog 64 #[.slice A vs.length c, .slice B us.length d] w fun e w' => e = .returned (.bool (eqUp vaEq vs us)) ∧ Below w.heap.size w w' := by
  by_cases hlen : vs.length = us.length
  case neg =>
    have HF := Lib.hid (eqUp_len vaEq vs us hlen)
    generalize vs.length = n at hlen hz ⊢
    generalize us.length = m at hlen _hz2 ⊢
    have hne : ((n : Int) == (m : Int)) = false := by rw [beq_eq_false_iff_ne]; omega
    go_enter Try.func64, Try.ntmps64
    go_wp2
    go_ret
    exact ⟨of_bool HF.out.symm, Below.refl _ _⟩
  obtain ⟨n, hn⟩ : ∃ n, n = vs.length := ⟨_, rfl⟩
  have HT := Lib.hid (fun k (hk : k = n) h0 => eqUp_true vaEq vs us k hlen (hk.trans hn) h0)
  have HX := Lib.hid (fun k u v h1 h2 h => eqUp_false vaEq vs us k u v h1 h2 h)
  rw [← hlen, ← hn]
  rw [← hn] at hz
  have HN := Lib.hid hn
  have HN2 := Lib.hid (hn.trans hlen)
  generalize eqUp vaEq vs us = R at HT HX ⊢
  clear hn hlen _hz2
  go_enter Try.func64, Try.ntmps64
  go_wp2
  go_loopw [5] (fun i wr => ∃ k : Nat, k ≤ n ∧ i = .int .i64 k ∧ Hid (Below w.heap.size w wr) ∧ Hid (((vs.zip us).take k).all (fun p => vaEq p.1 p.2) = true)) (fun i _ => n - (intOf i).toNat)
  case atStart => exact ⟨0, Nat.zero_le _, rfl, Lib.hid (Below.refl _ _), Lib.hid (by simp)⟩
  case round =>
    obtain ⟨k, hk, rfl, hb, hall⟩ := hrel
    by_cases hlt : k < n
    · have hget : vs[k]? = some (vs[k]'(by have := HN.out; omega)) := List.getElem?_eq_getElem _
      obtain ⟨u, hu⟩ : ∃ u, u = vs[k]'(by have := HN.out; omega) := ⟨_, rfl⟩
      rw [← hu] at hget
      have hget2 : us[k]? = some (us[k]'(by have := HN2.out; omega)) := List.getElem?_eq_getElem _
      obtain ⟨v, hv⟩ : ∃ v, v = us[k]'(by have := HN2.out; omega) := ⟨_, rfl⟩
      rw [← hv] at hget2
      obtain ⟨b, o, e1, hb1, hva⟩ := hA k u hget
      obtain ⟨b', o', e1', hb1', hva'⟩ := hB k v hget2
      subst e1 e1'
      obtain ⟨y0, y1, y2, y3, ysz⟩ := hva.below hb.out hb1
      obtain ⟨z0, z1, z2, z3, zsz⟩ := hva'.below hb.out hb1'
      have h1 : b < wr.heap.size := by have := hb.out.size; omega
      have h2 : b' < wr.heap.size := by have := hb.out.size; omega
      have GET := Lib.hid hget
      have GET2 := Lib.hid hget2
      clear hu hv hget hget2 hva hva' hA hB
      have he := fun w => eqVa2 u.kind v.kind u.fr v.fr u.to v.to u.text v.text w
      obtain ⟨Q, hQ⟩ : ∃ Q, (u.kind == v.kind && strEq u.text v.text && u.fr == v.fr && u.to == v.to) = Q := ⟨_, rfl⟩
      rw [hQ] at he
      have HQ := Lib.hid (show vaEq u v = Q from hQ)
      clear hQ
      cases Q with
      | true =>
        simp only [Bool.not_true] at he
        go_wp2
        refine wp_region_later (by kernel_rfl) (by kernel_rfl) ?_; (repeat (first | go_big_quiet_step (fail) | quiet_step (fail))); refine wpQuiet_nil ?_; rintro _ ⟨s, rfl⟩
        go_wp2
        go_roundw
        case rel => exact ⟨k + 1, by omega, by go_num, Lib.hid (hb.out.trans (s.below.mono hb.out.size)), Lib.hid (allz_step _ _ k (u, v) (zip_at GET.out GET2.out) hall.out HQ.out)⟩
        case measure => simp [intOf]; omega
      | false =>
        simp only [Bool.not_false] at he
        have HR := Lib.hid (HX.out k u v GET.out GET2.out HQ.out)
        go_wp2
        refine wp_region_later (by kernel_rfl) (by kernel_rfl) ?_; (repeat (first | go_big_quiet_step (fail) | quiet_step (fail))); refine wpQuiet_nil ?_; rintro _ ⟨s, rfl⟩
        go_wp2
        go_ret
        exact ⟨of_bool HR.out.symm, hb.out.trans (s.below.mono hb.out.size)⟩
    · obtain rfl : k = n := by omega
      have HR := Lib.hid (HT.out k rfl hall.out)
      go_wp2
      go_ret
      exact ⟨of_bool HR.out.symm, hb.out⟩

end Go.Proofs.Ytbfedahonfjpfaa
