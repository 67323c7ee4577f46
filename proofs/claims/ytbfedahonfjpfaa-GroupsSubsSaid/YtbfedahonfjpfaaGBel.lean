/-
  The iterator over the nodes below a node (below), by its contract; regions that draw, inside a fence.
-/
import Derived.Test.YtbfedahonfjpfaaGMem
import Derived.RangeFuncBox
import Derived.RangeFuncLeaves
import Derived.Shelf.Abstract
import Derived.WalkKit
import Derived.OwnWalkIn
import Derived.TacticsInMore
import Derived.LoopNIn
import Derived.LoopIn
import Derived.Maps.AppendAt
import Derived.Lib.QuietBelowIn
import Derived.Sort.QuietIn
namespace Go.Proofs.Ytbfedahonfjpfaa
open Go.RowKit Go.Sort

attribute [local go_sem] Oper.semAt_some

theorem wpIn_region_later {F : Fence} {n : Nat} {P : Program} {id : Nat} {Q : Exit → Act → World → Prop} {a : Act} {W : World} {l : List Oper} (hro : F.round = none) (hm : P.follows .mixedOrders = true) (hB : Region.lexB .any l.toArray = true)
    (h : wpQuietIn F n P l.toArray (fun w' => ∃ s : Later W, w' = s.w) (fun a' => ∀ w', (∃ s : Later W, w' = s.w) → Q .normal a' w') l a) : (Code.region id l.toArray true).wpIn F n P Q a W :=
  wpIn_region_quiet (C := fun w' => ∃ s : Later W, w' = s.w) hro hm hB ⟨⟨_, (Below.refl _ _).drew⟩, rfl⟩ (by simpa using h)

/-- an operation that is no defer statement -/
def notDefer (o : Oper) : Bool := match o.op with
  | .defer _ => false
  | _ => true
theorem notDefer_ne {o : Oper} (h : notDefer o = true) : ∀ c, o.op ≠ .defer c := fun c e => by
  unfold notDefer at h; rw [e] at h; cases h

section
variable {F : Fence} {n : Nat} {P : Program} {ops : Array Oper} {C : World → Prop}
theorem wpIn_of_quietR {o : Oper} {a : Act} {K : Act → Prop} {K' : Act → World → Prop} {Q' : Exit → Act → World → Prop} {w : World} (hnd : ∀ c, o.op ≠ .defer c) (hw : C w) (h : ∀ a w', C w' → K a → K' a w')
    (ha : o.askedIn F P a C) (hh : o.quietIn F n P a C K) : o.wpIn F n P a w K' Q' := by
  obtain ⟨v, h1, h2⟩ := hh
  have h3 := h1 w hw
  unfold Oper.quietAtIn at h3
  unfold Oper.wpIn
  refine ⟨ha w hw, ?_⟩
  rw [Oper.semAt_eq _ _ _ hnd]
  generalize (execOp a.eval o).run P w = r at *
  cases r with
  | ok x w' =>
    cases x <;> simp only [Oper.quietUponIn] at h3 <;> simp only [Oper.uponIn]
    case value u =>
      obtain ⟨e1, e2⟩ := h3
      rw [e1, e2]
      exact h _ _ hw h2
    case skip =>
      obtain ⟨e1, e2⟩ := h3
      rw [e1, ← e2]
      exact h _ _ hw h2
    case enter f args =>
      obtain ⟨e1, hd, hc⟩ := h3
      rw [e1]
      exact ⟨hd, hc.mono fun e w'' ⟨he, hw''⟩ => by subst he; exact h _ _ hw'' h2⟩
  | halt x w' => simp only [Oper.quietUponIn] at h3

theorem wpOpIn_of_qOpInR {i : Nat} {a : Act} {K : Act → Prop} {K' : Act → World → Prop} {Q' : Exit → Act → World → Prop} {w : World} (hnd : ∀ (i : Nat) (o : Oper), ops[i]? = some o → ∀ c, o.op ≠ .defer c) (hC : C w) (h : ∀ a w', C w' → K a → K' a w')
    (hh : qOpIn F n P ops C i K a) : wpOpIn F n P ops Q' i K' a w := by
  unfold qOpIn at hh
  unfold wpOpIn
  split
  · rename_i ho; simp only [ho] at hh; exact h _ _ hC hh
  · rename_i o ho
    simp only [ho] at hh
    obtain ⟨ha, hh⟩ := hh
    split
    · rename_i hw; simp only [hw, if_true] at hh; exact wpIn_of_quietR (hnd i o ho) hC h ha hh
    · rename_i hw; simp only [hw] at hh; exact ⟨ha w hC, h _ _ hC hh⟩

theorem wpAnyIn_of_quietR {Q : Act → Prop} {Q' : Exit → Act → World → Prop} (hnd : ∀ (i : Nat) (o : Oper), ops[i]? = some o → ∀ c, o.op ≠ .defer c) (hQ : ∀ a w, C w → Q a → Q' .normal a w) : ∀ (fuel : Nat) (listed : Array Bool) (a : Act) (w : World), C w →
    wpAnyQIn F n P .any ops C Q fuel listed a → wpAnyIn F n P .any ops Q' fuel listed a w
  | 0, _, _, _, hw, h => ⟨h.1, hQ _ _ hw h.2⟩
  | fuel + 1, _, _, _, hw, h => ⟨fun h0 => hQ _ _ hw (h.1 h0), fun i hi => wpOpIn_of_qOpInR hnd hw (fun a' w' hw' => wpAnyIn_of_quietR hnd hQ fuel _ a' w' hw') (h.2 i hi)⟩

theorem wpIn_region_quietR {id : Nat} {Q : Exit → Act → World → Prop} {a : Act} {w : World} (hnd : ∀ (i : Nat) (o : Oper), ops[i]? = some o → ∀ c, o.op ≠ .defer c) (hm : P.follows .mixedOrders = true) (hB : Region.lexB .any ops = true) (hC : C { w with drawn := w.drawn + 1 })
    (h : wpQuietIn F n P ops C (fun a' => ∀ w', C w' → Q .normal a' w') ops.toList a) : (Code.region id ops true).wpIn F n P Q a w := by
  simp only [Region.lexB, Bool.and_eq_true] at hB
  refine wpIn_region_any hm (wpAnyIn_of_quietR (Q := fun a' => ∀ w', C w' → Q .normal a' w') hnd (fun _ w' hw' h => h w' hw') _ _ _ _ hC ?_)
  have := wpAnyQIn_lex (F := F) (n := n) (C := C) (md := .any) hB.1 ops.toList 0 (Array.replicate ops.size false) a (by simp) (by simpa using hB.2) h
  simpa using this
end

/-- a region that draws its order, in a round of a loop over a function -/
theorem wpIn_region_laterR {F : Fence} {n : Nat} {P : Program} {id : Nat} {Q : Exit → Act → World → Prop} {a : Act} {W : World} {l : List Oper} (hnd : l.all notDefer = true) (hm : P.follows .mixedOrders = true) (hB : Region.lexB .any l.toArray = true)
    (h : wpQuietIn F n P l.toArray (fun w' => ∃ s : Later W, w' = s.w) (fun a' => ∀ w', (∃ s : Later W, w' = s.w) → Q .normal a' w') l a) : (Code.region id l.toArray true).wpIn F n P Q a W :=
  wpIn_region_quietR (C := fun w' => ∃ s : Later W, w' = s.w) (fun i o ho => notDefer_ne (List.all_eq_true.1 hnd o (List.mem_of_getElem? (by simpa using ho)))) hm hB ⟨⟨_, (Below.refl _ _).drew⟩, rfl⟩ (by simpa using h)

/-- how many nodes behind a node lie below its depth -/
def spanN (ns : List Nd) (d : Int) (i : Nat) : Nat := ((ns.drop (i + 1)).takeWhile (fun n => decide (d < n.depth))).length
theorem takeWhile_at {α : Type} (p : α → Bool) : ∀ (l : List α) (k : Nat), k < (l.takeWhile p).length → ∃ x, l[k]? = some x ∧ p x = true
  | [], k, h => by simp at h
  | x :: l, k, h => by
    rw [List.takeWhile_cons] at h
    cases hp : p x with
    | false => rw [hp] at h; simp at h
    | true =>
      rw [hp] at h
      cases k with
      | zero => exact ⟨x, rfl, hp⟩
      | succ k => exact takeWhile_at p l k (by simpa using h)
theorem takeWhile_end {α : Type} (p : α → Bool) : ∀ (l : List α), (l.takeWhile p).length = l.length ∨ ∃ x, l[(l.takeWhile p).length]? = some x ∧ p x = false
  | [] => .inl rfl
  | x :: l => by
    rw [List.takeWhile_cons]
    cases hp : p x with
    | false => exact .inr ⟨x, rfl, hp⟩
    | true =>
      rcases takeWhile_end p l with h | ⟨y, h1, h2⟩
      · exact .inl (by simp [h])
      · exact .inr ⟨y, by simpa using h1, h2⟩
theorem spanN_at {ns : List Nd} {d : Int} {i k : Nat} (h : k < spanN ns d i) : ∃ u, ns[i + 1 + k]? = some u ∧ d < u.depth := by
  obtain ⟨x, h1, h2⟩ := takeWhile_at _ _ _ h
  rw [List.getElem?_drop] at h1
  exact ⟨x, h1, by simpa using h2⟩
theorem spanN_end (ns : List Nd) (d : Int) (i : Nat) (hi : i < ns.length) : i + 1 + spanN ns d i = ns.length ∨ ∃ u, ns[i + 1 + spanN ns d i]? = some u ∧ u.depth ≤ d := by
  rcases takeWhile_end (fun n : Nd => decide (d < n.depth)) (ns.drop (i + 1)) with h | ⟨x, h1, h2⟩
  · left; unfold spanN; rw [h, List.length_drop]; omega
  · right; rw [List.getElem?_drop] at h1; exact ⟨x, h1, by simpa using h2⟩
theorem spanN_le (ns : List Nd) (d : Int) (i : Nat) (hi : i < ns.length) : i + 1 + spanN ns d i ≤ ns.length := by
  have h := (List.takeWhile_sublist (fun n : Nd => decide (d < n.depth)) (l := ns.drop (i + 1))).length_le
  unfold spanN; rw [List.length_drop] at h; omega

/-- what a round of such a loop keeps: all that lay below n₀, but for one block -/
structure KpB (b0 n₀ : Nat) (W W' : World) : Prop where
  size : W.heap.size ≤ W'.heap.size
  block : ∀ k, k < n₀ → k ≠ b0 → W'.heap[k]? = W.heap[k]?
theorem KpB.trans {b0 n₀ : Nat} {A B C : World} (h : KpB b0 n₀ A B) (k : KpB b0 n₀ B C) : KpB b0 n₀ A C := ⟨Nat.le_trans h.size k.size, fun j h1 h2 => (k.block j h1 h2).trans (h.block j h1 h2)⟩
theorem KpB.of_below {b0 n₀ : Nat} {A B : World} (h : Below n₀ A B) : KpB b0 n₀ A B := ⟨h.size, fun j h1 _ => h.block j h1⟩
theorem KpB.cell {b0 n₀ : Nat} {A B : World} (h : KpB b0 n₀ A B) {b o : Nat} (h1 : b < n₀) (h2 : b ≠ b0) : B.cell? ⟨b, o, none⟩ = A.cell? ⟨b, o, none⟩ := World.cell?_of_block (a := ⟨b, o, none⟩) (h.block b h1 h2)

/-- nodes that lie below a bound, in another block than one -/
def NdsIn (b0 n₀ : Nat) (w : World) (A : Option Addr) (ns : List Nd) : Prop := ∀ k n, ns[k]? = some n → ∃ b o, A = some ⟨b, o, none⟩ ∧ b < n₀ ∧ b ≠ b0 ∧ NdAt w b (o + k * 8) n
theorem NdsIn.kept {b0 n₀ : Nat} {w w' : World} {A : Option Addr} {ns : List Nd} (h : NdsIn b0 n₀ w A ns) (hk : KpB b0 n₀ w w') : NdsIn b0 n₀ w' A ns := fun k n hn => by
  obtain ⟨b, o, e, h1, h2, h3⟩ := h k n hn
  exact ⟨b, o, e, h1, h2, ⟨(hk.cell h1 h2).trans h3.c0, (hk.cell h1 h2).trans h3.c1, (hk.cell h1 h2).trans h3.c2, (hk.cell h1 h2).trans h3.c3, (hk.cell h1 h2).trans h3.c4, (hk.cell h1 h2).trans h3.c5, (hk.cell h1 h2).trans h3.c6, (hk.cell h1 h2).trans h3.c7⟩⟩

theorem grown_later {W : World} (s : Later W) : W.grownBy s.w none := ⟨s.below.os, s.below.tape, s.below.output, s.below.size, fun k hk _ => s.below.block k hk⟩

set_option maxRecDepth 100000 in
set_option maxHeartbeats 2000000 in
theorem below1_in {α : Type} (f : α → Nat) (L : List α) (F : Fence) (n : Nat) (hF : F.fn 112) (hro : F.round = none) (hn : 1 ≤ n) (l bI bN b0 n₀ cap i : Nat) (A : Option Addr) (ns : List Nd) (u : Nd) (hi : ns[i]? = some u) (hL : L.map f = List.range' (i + 1) (spanN ns u.depth i)) (hl : ns.length ≤ cap) (hc : cap ≤ maxLen)
    (hI : bI < n₀) (hI0 : bI ≠ b0) (hN : bN < n₀) (hN0 : bN ≠ b0) (B : Nat) (J Jx : List α → World → Prop) (hJ : AbidesFrom B J)
    (hY : ∀ pre x W, J pre W → pre.length < spanN ns u.depth i → YieldAt F (n - 1) Try.prog l #[.int .i64 (f x : Nat)] W fun e W' =>
      (e = .returned (.bool true) ∧ J (pre ++ [x]) W' ∧ KpB b0 n₀ W W') ∨ (e = .returned (.bool false) ∧ Jx (pre ++ [x]) W'))
    (W : World) (hcI : W.cell? ⟨bI, 0, none⟩ = some (.int .i64 i)) (hcN : W.cell? ⟨bN, 0, none⟩ = some (.slice A ns.length cap)) (hns : NdsIn b0 n₀ W A ns) (hsz : n₀ ≤ W.heap.size) (h0 : J [] W) :
    CallsIn F n Try.prog 112 #[.func (.yield l) #[] #[], .pointer (some ⟨bI, 0, none⟩), .pointer (some ⟨bN, 0, none⟩)] W fun e W' => (∃ v, e = .returned v) ∧
      ((∃ ys, ys = L ∧ J ys W') ∨ (∃ pre, pre <+: L ∧ Jx pre W')) := by
  have hin : i < ns.length := (List.getElem?_eq_some_iff.1 hi).1
  have HSE := Lib.hid (spanN_end ns u.depth i hin)
  have hsl := spanN_le ns u.depth i hin
  have HSA := Lib.hid (fun k (h : k < spanN ns u.depth i) => spanN_at h)
  obtain ⟨m, hm⟩ : ∃ m, m = spanN ns u.depth i := ⟨_, rfl⟩
  rw [← hm] at HSE hsl HSA hY hL
  have HLM := Lib.hid (show L.length = m by have := congrArg List.length hL; simpa using this)
  have HLX := Lib.hid (fun k (h : k < m) => show ∃ x, L[k]? = some x ∧ f x = i + 1 + k by
    have h1 : (L.map f)[k]? = some (i + 1 + k) := by rw [hL, List.getElem?_range' h, Nat.one_mul]
    rw [List.getElem?_map] at h1
    cases hx : L[k]? with
    | none => rw [hx] at h1; cases h1
    | some x => rw [hx] at h1; injection h1 with h1; exact ⟨x, rfl, h1⟩)
  have HLT := Lib.hid (fun k x (h : L[k]? = some x) => show L.take (k + 1) = L.take k ++ [x] by
    obtain ⟨hk, e⟩ := List.getElem?_eq_some_iff.1 h
    rw [List.take_succ_eq_append_getElem hk, e])
  clear hm hL
  have HNS := Lib.hid hns
  obtain ⟨b, o, hA, hb1, hb2, hva⟩ := hns i u hi
  subst hA
  have HVA := Lib.hid hva.c1
  obtain ⟨d, hd⟩ : ∃ d, d = u.depth := ⟨_, rfl⟩
  rw [← hd] at HVA HSE HSA
  have HCI := Lib.hid hcI
  have HCN := Lib.hid hcN
  obtain ⟨N, hNN⟩ : ∃ N, N = ns.length := ⟨_, rfl⟩
  have HNN := Lib.hid hNN
  rw [← hNN] at HCN hl hsl hin HSE
  unfold maxLen at hc
  have HY := Lib.hid hY
  have HJ := Lib.hid hJ
  clear hns hva hd hi hcN hNN hY hJ
  refine callsIn_of_wp Try.func112 rfl hF ?_ hro
  simp only [Try.ntmps112, List.size_toArray, List.length_cons, List.length_nil, Nat.reduceAdd, Nat.reduceSub, Array.replicate_succ, Array.replicate_zero, List.push_toArray, List.append_toArray, List.nil_append, List.cons_append]
  gi_wp2
  clear hcI
  gi_loopw [4] (fun c wr => ∃ k : Nat, k ≤ m ∧ c = .int .i64 ((i + 1 + k : Nat) : Int) ∧ Hid (J (L.take k) wr) ∧ Hid (KpB b0 n₀ W wr)) (fun c _ => N + 1 - (intOf c).toNat)
  case atStart => exact ⟨0, Nat.zero_le _, by simp, Lib.hid (by simpa using h0), Lib.hid ⟨Nat.le_refl _, fun _ _ _ => rfl⟩⟩
  case round =>
    obtain ⟨k, hk, rfl, hJs, hnx⟩ := hrel
    have hs1 : bI < wr.heap.size := by have := hnx.out.size; omega
    have hs2 : bN < wr.heap.size := by have := hnx.out.size; omega
    have hs3 : b < wr.heap.size := by have := hnx.out.size; omega
    have x1 := (hnx.out.cell hI hI0).trans HCI.out
    have x2 := (hnx.out.cell hN hN0).trans HCN.out
    have x3 := (hnx.out.cell hb1 hb2).trans HVA.out
    obtain ⟨j, hj⟩ : ∃ j, j = i + 1 + k := ⟨_, rfl⟩
    have HJ0 := Lib.hid hj
    rw [← hj]
    have HK := Lib.hid hnx.out
    have HJS := Lib.hid (fun (s : Later wr) => HJ.out _ wr s.w none hJs.out (grown_later s) (fun r e => by cases e))
    clear hnx hJs
    by_cases hlt : k < m
    · obtain ⟨u', hu', hdu⟩ := HSA.out k hlt
      rw [← hj] at hu'
      obtain ⟨b', o', e1, hb1', hb2', hva'⟩ := (HNS.out.kept HK.out) j u' hu'
      injection e1 with e1
      injection e1 with e1 e2
      subst e1 e2
      have x4 := hva'.c1
      obtain ⟨d', hd'⟩ : ∃ d', d' = u'.depth := ⟨_, rfl⟩
      rw [← hd'] at x4 hdu
      have hjN : j < N := by omega
      have hg1 : decide (j < N) = true := decide_eq_true hjN
      have hg2 : decide (d < d') = true := decide_eq_true hdu
      clear hu' hva' hd' hj hdu
      gi_wp2
      refine wpIn_region_later (by assumption) (by kernel_rfl) (by kernel_rfl) ?_; (repeat (first | gi_big_quiet_step (fail) | quiet_step_in (fail))); refine wpQuietIn_nil ?_; rintro _ ⟨s, rfl⟩
      have HJS2 := Lib.hid (HJS.out s)
      have HK2 := Lib.hid (HK.out.trans (KpB.of_below (s.below.mono (by have := HK.out.size; omega))))
      generalize s.w = wt at HJS2 HK2 ⊢
      obtain ⟨x, hx, hfx⟩ := HLX.out k hlt
      obtain ⟨fn, tmps, assign, body, hy, hR⟩ := HY.out _ x wt HJS2.out (by rw [List.length_take]; have := HLM.out; omega)
      rw [hfx, ← HJ0.out] at hy
      have HX := Lib.hid (HLT.out k x hx)
      clear hx hfx
      have HR := Lib.hid hR
      clear hR
      gi_wp2
      refine HR.out.mono ?_
      rintro e W3 (⟨rfl, hJ3, hk3⟩ | ⟨rfl, hJx3⟩)
      · have HJ3 := Lib.hid (show J (L.take (k + 1)) W3 by rw [HX.out]; exact hJ3)
        have HK3 := Lib.hid (HK2.out.trans hk3)
        clear hJ3 hk3
        gi_wp2
        go_roundw
        case rel => exact ⟨k + 1, by omega, by rw [show i + 1 + (k + 1) = j + 1 by have := HJ0.out; omega]; go_num, HJ3, HK3⟩
        case measure => simp [intOf]; omega
      · have HJ3 := Lib.hid (show Jx (L.take (k + 1)) W3 by rw [HX.out]; exact hJx3)
        clear hJx3
        gi_wp2
        refine bodyPost_ret (results_none rfl _ _ _) rfl ?_
        exact ⟨⟨_, rfl⟩, .inr ⟨_, List.take_prefix _ _, HJ3.out⟩⟩
    · obtain rfl : k = m := by omega
      rcases HSE.out with hE | ⟨u', hu', hdu⟩
      · have hg1 : decide (j < N) = false := decide_eq_false (by omega)
        clear hj
        gi_wp2
        refine wpIn_region_later (by assumption) (by kernel_rfl) (by kernel_rfl) ?_; (repeat (first | gi_big_quiet_step (fail) | quiet_step_in (fail))); refine wpQuietIn_nil ?_; rintro _ ⟨s, rfl⟩
        have HJS2 := Lib.hid (HJS.out s)
        generalize s.w = wt at HJS2 ⊢
        gi_wp2
        go_end0
        exact ⟨⟨_, rfl⟩, .inl ⟨_, List.take_of_length_le (by have := HLM.out; omega), HJS2.out⟩⟩
      · rw [← hj] at hu'
        obtain ⟨b', o', e1, hb1', hb2', hva'⟩ := (HNS.out.kept HK.out) j u' hu'
        injection e1 with e1
        injection e1 with e1 e2
        subst e1 e2
        have x4 := hva'.c1
        obtain ⟨d', hd'⟩ : ∃ d', d' = u'.depth := ⟨_, rfl⟩
        rw [← hd'] at x4 hdu
        have hjN : j < N := by rw [HNN.out]; exact (List.getElem?_eq_some_iff.1 hu').1
        have hg1 : decide (j < N) = true := decide_eq_true hjN
        have hg2 : decide (d < d') = false := decide_eq_false (by omega)
        clear hu' hva' hd' hj hdu
        gi_wp2
        refine wpIn_region_later (by assumption) (by kernel_rfl) (by kernel_rfl) ?_; (repeat (first | gi_big_quiet_step (fail) | quiet_step_in (fail))); refine wpQuietIn_nil ?_; rintro _ ⟨s, rfl⟩
        have HJS2 := Lib.hid (HJS.out s)
        generalize s.w = wt at HJS2 ⊢
        gi_wp2
        go_end0
        exact ⟨⟨_, rfl⟩, .inl ⟨_, List.take_of_length_le (by have := HLM.out; omega), HJS2.out⟩⟩

end Go.Proofs.Ytbfedahonfjpfaa
