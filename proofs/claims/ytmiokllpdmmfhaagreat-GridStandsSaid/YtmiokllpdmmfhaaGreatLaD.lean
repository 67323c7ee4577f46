/-
  A slice of nodes as it lies in memory; the greatest depth that a node behind others may have (deepest). And what builds on it.
-/
import Derived.Test.YtmiokllpdmmfhaaGreatLaC
import Derived.RangeFuncBox
import Derived.RangeFuncLeaves
import Derived.Shelf.Abstract
import Derived.WalkKit
import Derived.OwnWalkIn
import Derived.TacticsInMore
import Derived.LoopNIn
import Derived.LoopIn
import Derived.Maps.AppendAt
import Derived.Lib.QuietBelowIn
import Derived.Sort.QuietIn
import Derived.Test.YtmiokllpdmmfhaaGreatLaB
import Derived.RangeFuncNested
namespace Go.Proofs.YtmiokllpdmmfhaaGreat
open Go.RowKit
theorem blk_keep2 {W w' : World} (hb : Below W.heap.size W w') {g : Nat} {cs : Array Value} {t : TypeId} (h : W.heap[g]? = some (.cells cs t (0, 0))) : w'.heap[g]? = some (.cells cs t (0, 0)) :=
  (hb.block g (Array.getElem?_eq_some_iff.1 h).1).trans h
theorem cell_of_blk2 {w : World} {g : Nat} {cs : Array Value} {t : TypeId} (h : w.heap[g]? = some (.cells cs t (0, 0))) (o : Nat) : w.cell? ⟨g, o, none⟩ = cs[o]? := cell_of_row w g o cs t (0, 0) h
structure NdAt (w : World) (b p : Nat) (n : Nd) : Prop where
  c0 : w.cell? ⟨b, p, none⟩ = some (.int .i64 n.kind)
  c1 : w.cell? ⟨b, p + 1, none⟩ = some (.int .i64 n.depth)
  c2 : w.cell? ⟨b, p + 2, none⟩ = some (.int .i64 n.sign)
  c3 : w.cell? ⟨b, p + 3, none⟩ = some (.int .i64 n.turn)
  c4 : w.cell? ⟨b, p + 4, none⟩ = some (.bool n.mirror)
  c5 : w.cell? ⟨b, p + 5, none⟩ = some (.int .i64 n.state)
  c6 : w.cell? ⟨b, p + 6, none⟩ = some (.int .i64 n.min)
  c7 : w.cell? ⟨b, p + 7, none⟩ = some (.int .i64 n.max)
def NdsAt (w : World) (A : Option Addr) (ns : List Nd) : Prop := ∀ k n, ns[k]? = some n → ∃ b o, A = some ⟨b, o, none⟩ ∧ b < w.heap.size ∧ NdAt w b (o + k * 8) n
theorem NdAt.below {w w' : World} {b p : Nat} {n : Nd} (h : NdAt w b p n) (hb : Below w.heap.size w w') (hlt : b < w.heap.size) : NdAt w' b p n :=
  ⟨(hb.cell (p := ⟨b, _, none⟩) hlt).trans h.c0, (hb.cell (p := ⟨b, _, none⟩) hlt).trans h.c1, (hb.cell (p := ⟨b, _, none⟩) hlt).trans h.c2, (hb.cell (p := ⟨b, _, none⟩) hlt).trans h.c3, (hb.cell (p := ⟨b, _, none⟩) hlt).trans h.c4, (hb.cell (p := ⟨b, _, none⟩) hlt).trans h.c5, (hb.cell (p := ⟨b, _, none⟩) hlt).trans h.c6, (hb.cell (p := ⟨b, _, none⟩) hlt).trans h.c7⟩
theorem NdsAt.below {w w' : World} {A : Option Addr} {ns : List Nd} (h : NdsAt w A ns) (hb : Below w.heap.size w w') : NdsAt w' A ns := fun k n hk => by
  obtain ⟨b, o, e, hlt, hv⟩ := h k n hk
  exact ⟨b, o, e, Nat.lt_of_lt_of_le hlt hb.size, hv.below hb hlt⟩
theorem NdsAt.take {w : World} {A : Option Addr} {ns : List Nd} (h : NdsAt w A ns) (n : Nat) : NdsAt w A (ns.take n) := fun k v hk => h k v (by rw [List.getElem?_take] at hk; split at hk <;> simp_all)
def deepR (ns : List Nd) : Int :=
  match ns[ns.length - 1]? with
  | none => 0
  | some n => if leafB n.kind then n.depth else if n.depth + 1 ≤ 4 then n.depth + 1 else 4
set_option maxHeartbeats 1600000 in
set_option maxRecDepth 100000 in
theorem deepest_any (ns : List Nd) (A : Option Addr) (cap : Nat) (w : World) (h : NdsAt w A ns) (hl : ns.length ≤ cap) (hc : cap ≤ maxLen) (hd : ∀ n ∈ ns, 0 ≤ n.depth ∧ n.depth ≤ 4) :
    Calls Tryz.prog 152 #[.slice A ns.length cap] w fun e w' => e = .returned (.int .i64 (deepR ns)) ∧ Below w.heap.size w w' := by
  unfold maxLen at hc
  obtain ⟨N, hN⟩ : ∃ N, N = ns.length := ⟨_, rfl⟩
  have HN := Lib.hid hN
  rw [← hN] at hl ⊢
  by_cases h0 : N = 0
  · have HF := Lib.hid (show deepR ns = 0 by unfold deepR; rw [← hN, h0, List.eq_nil_of_length_eq_zero (hN.symm.trans h0)]; rfl)
    subst h0
    clear hN h hd
    go_enter Tryz.func152, Tryz.ntmps152
    go_wp2
    go_ret
    exact ⟨of_int HF.out.symm, Below.refl _ _⟩
  obtain ⟨k, rfl⟩ : ∃ k, N = k + 1 := ⟨N - 1, by omega⟩
  have hget : ns[k]? = some (ns[k]'(by omega)) := List.getElem?_eq_getElem _
  obtain ⟨u, hu⟩ : ∃ u, u = ns[k]'(by omega) := ⟨_, rfl⟩
  rw [← hu] at hget
  have HR := Lib.hid (show deepR ns = if leafB u.kind then u.depth else if u.depth + 1 ≤ 4 then u.depth + 1 else 4 by
    unfold deepR; rw [← hN, Nat.add_sub_cancel, hget])
  have hud := hd u (List.mem_of_getElem? hget)
  obtain ⟨b, o, hA, hb, y0, y1, y2, y3, y4, y5, y6, y7⟩ := h k u hget
  subst hA
  obtain ⟨kind, depth, sign, turn, mirror, state, mn, mx⟩ := u
  dsimp only at y0 y1 y2 y3 y4 y5 y6 y7 hud HR
  have HL := Lib.hid (fun w => show Calls Tryz.prog 183 #[.agg #[.int .i64 kind, .int .i64 depth, .int .i64 sign, .int .i64 turn, .bool mirror, .int .i64 state, .int .i64 mn, .int .i64 mx]] w (fun e w' => e = .returned (.bool (leafB kind)) ∧ Below w.heap.size w w') from isLeaf_any ⟨kind, depth, sign, turn, mirror, state, mn, mx⟩ w)
  obtain ⟨B, hB⟩ : ∃ B, B = leafB kind := ⟨_, rfl⟩
  rw [← hB] at HR HL
  clear hB hget hu hd h hN h0
  have C0 := Lib.hid (heap_alloc_new w (.cells #[.int .i64 kind, .int .i64 depth, .int .i64 sign, .int .i64 turn, .bool mirror, .int .i64 state, .int .i64 mn, .int .i64 mx] 87))
  have hba := Lib.hid (below_alloc w (.cells #[.int .i64 kind, .int .i64 depth, .int .i64 sign, .int .i64 turn, .bool mirror, .int .i64 state, .int .i64 mn, .int .i64 mx] 87))
  have hk1 : ((k : Int) + 1 == 0) = false := by simp; omega
  obtain ⟨hd0, hd4⟩ := hud
  go_enter Tryz.func152, Tryz.ntmps152
  go_wp2_with fail
  refine (HL.out _).mono ?_; rintro e w1 ⟨rfl, hb1⟩
  have b1 := Lib.hid (below_more hba.out hb1)
  have C1 := Lib.hid (blk_keep2 hb1 C0.out)
  have x1 := cell_of_blk2 C1.out 1
  simp at x1
  clear hb1 y0 y1 y2 y3 y4 y5 y6 y7
  cases B with
  | true =>
    go_wp2_with fail
    go_ret
    exact ⟨of_int (by rw [HR.out]; rfl), b1.out⟩
  | false =>
    by_cases h4 : depth + 1 ≤ 4
    · have HF := Lib.hid (show deepR ns = depth + 1 by rw [HR.out]; simp; omega)
      go_wp2_with fail
      go_ret
      exact ⟨of_int HF.out.symm, b1.out⟩
    · have HF := Lib.hid (show deepR ns = 4 by rw [HR.out]; simp; omega)
      go_wp2_with fail
      go_ret
      exact ⟨of_int HF.out.symm, b1.out⟩
open Go.RowKit Go.Sort
attribute [local go_sem] Oper.semAt_some
theorem wpIn_region_later {F : Fence} {n : Nat} {P : Program} {id : Nat} {Q : Exit → Act → World → Prop} {a : Act} {W : World} {l : List Oper} (hro : F.round = none) (hm : P.follows .mixedOrders = true) (hB : Region.lexB .any l.toArray = true)
    (h : wpQuietIn F n P l.toArray (fun w' => ∃ s : Later W, w' = s.w) (fun a' => ∀ w', (∃ s : Later W, w' = s.w) → Q .normal a' w') l a) : (Code.region id l.toArray true).wpIn F n P Q a W :=
  wpIn_region_quiet (C := fun w' => ∃ s : Later W, w' = s.w) hro hm hB ⟨⟨_, (Below.refl _ _).drew⟩, rfl⟩ (by simpa using h)
def notDefer (o : Oper) : Bool := match o.op with
  | .defer _ => false
  | _ => true
theorem notDefer_ne {o : Oper} (h : notDefer o = true) : ∀ c, o.op ≠ .defer c := fun c e => by
  unfold notDefer at h; rw [e] at h; cases h
section
variable {F : Fence} {n : Nat} {P : Program} {ops : Array Oper} {C : World → Prop}
theorem wpIn_of_quietR {o : Oper} {a : Act} {K : Act → Prop} {K' : Act → World → Prop} {Q' : Exit → Act → World → Prop} {w : World} (hnd : ∀ c, o.op ≠ .defer c) (hw : C w) (h : ∀ a w', C w' → K a → K' a w')
    (ha : o.askedIn F P a C) (hh : o.quietIn F n P a C K) : o.wpIn F n P a w K' Q' := by
  obtain ⟨v, h1, h2⟩ := hh
  have h3 := h1 w hw
  unfold Oper.quietAtIn at h3
  unfold Oper.wpIn
  refine ⟨ha w hw, ?_⟩
  rw [Oper.semAt_eq _ _ _ hnd]
  generalize (execOp a.eval o).run P w = r at *
  cases r with
  | ok x w' =>
    cases x <;> simp only [Oper.quietUponIn] at h3 <;> simp only [Oper.uponIn]
    case value u =>
      obtain ⟨e1, e2⟩ := h3
      rw [e1, e2]
      exact h _ _ hw h2
    case skip =>
      obtain ⟨e1, e2⟩ := h3
      rw [e1, ← e2]
      exact h _ _ hw h2
    case enter f args =>
      obtain ⟨e1, hd, hc⟩ := h3
      rw [e1]
      exact ⟨hd, hc.mono fun e w'' ⟨he, hw''⟩ => by subst he; exact h _ _ hw'' h2⟩
  | halt x w' => simp only [Oper.quietUponIn] at h3
theorem wpOpIn_of_qOpInR {i : Nat} {a : Act} {K : Act → Prop} {K' : Act → World → Prop} {Q' : Exit → Act → World → Prop} {w : World} (hnd : ∀ (i : Nat) (o : Oper), ops[i]? = some o → ∀ c, o.op ≠ .defer c) (hC : C w) (h : ∀ a w', C w' → K a → K' a w')
    (hh : qOpIn F n P ops C i K a) : wpOpIn F n P ops Q' i K' a w := by
  unfold qOpIn at hh
  unfold wpOpIn
  split
  · rename_i ho; simp only [ho] at hh; exact h _ _ hC hh
  · rename_i o ho
    simp only [ho] at hh
    obtain ⟨ha, hh⟩ := hh
    split
    · rename_i hw; simp only [hw, if_true] at hh; exact wpIn_of_quietR (hnd i o ho) hC h ha hh
    · rename_i hw; simp only [hw] at hh; exact ⟨ha w hC, h _ _ hC hh⟩
theorem wpAnyIn_of_quietR {Q : Act → Prop} {Q' : Exit → Act → World → Prop} (hnd : ∀ (i : Nat) (o : Oper), ops[i]? = some o → ∀ c, o.op ≠ .defer c) (hQ : ∀ a w, C w → Q a → Q' .normal a w) : ∀ (fuel : Nat) (listed : Array Bool) (a : Act) (w : World), C w →
    wpAnyQIn F n P .any ops C Q fuel listed a → wpAnyIn F n P .any ops Q' fuel listed a w
  | 0, _, _, _, hw, h => ⟨h.1, hQ _ _ hw h.2⟩
  | fuel + 1, _, _, _, hw, h => ⟨fun h0 => hQ _ _ hw (h.1 h0), fun i hi => wpOpIn_of_qOpInR hnd hw (fun a' w' hw' => wpAnyIn_of_quietR hnd hQ fuel _ a' w' hw') (h.2 i hi)⟩
theorem wpIn_region_quietR {id : Nat} {Q : Exit → Act → World → Prop} {a : Act} {w : World} (hnd : ∀ (i : Nat) (o : Oper), ops[i]? = some o → ∀ c, o.op ≠ .defer c) (hm : P.follows .mixedOrders = true) (hB : Region.lexB .any ops = true) (hC : C { w with drawn := w.drawn + 1 })
    (h : wpQuietIn F n P ops C (fun a' => ∀ w', C w' → Q .normal a' w') ops.toList a) : (Code.region id ops true).wpIn F n P Q a w := by
  simp only [Region.lexB, Bool.and_eq_true] at hB
  refine wpIn_region_any hm (wpAnyIn_of_quietR (Q := fun a' => ∀ w', C w' → Q .normal a' w') hnd (fun _ w' hw' h => h w' hw') _ _ _ _ hC ?_)
  have := wpAnyQIn_lex (F := F) (n := n) (C := C) (md := .any) hB.1 ops.toList 0 (Array.replicate ops.size false) a (by simp) (by simpa using hB.2) h
  simpa using this
end
theorem wpIn_region_laterR {F : Fence} {n : Nat} {P : Program} {id : Nat} {Q : Exit → Act → World → Prop} {a : Act} {W : World} {l : List Oper} (hnd : l.all notDefer = true) (hm : P.follows .mixedOrders = true) (hB : Region.lexB .any l.toArray = true)
    (h : wpQuietIn F n P l.toArray (fun w' => ∃ s : Later W, w' = s.w) (fun a' => ∀ w', (∃ s : Later W, w' = s.w) → Q .normal a' w') l a) : (Code.region id l.toArray true).wpIn F n P Q a W :=
  wpIn_region_quietR (C := fun w' => ∃ s : Later W, w' = s.w) (fun i o ho => notDefer_ne (List.all_eq_true.1 hnd o (List.mem_of_getElem? (by simpa using ho)))) hm hB ⟨⟨_, (Below.refl _ _).drew⟩, rfl⟩ (by simpa using h)
def spanN (ns : List Nd) (d : Int) (i : Nat) : Nat := ((ns.drop (i + 1)).takeWhile (fun n => decide (d < n.depth))).length
theorem takeWhile_at {α : Type} (p : α → Bool) : ∀ (l : List α) (k : Nat), k < (l.takeWhile p).length → ∃ x, l[k]? = some x ∧ p x = true
  | [], k, h => by simp at h
  | x :: l, k, h => by
    rw [List.takeWhile_cons] at h
    cases hp : p x with
    | false => rw [hp] at h; simp at h
    | true =>
      rw [hp] at h
      cases k with
      | zero => exact ⟨x, rfl, hp⟩
      | succ k => exact takeWhile_at p l k (by simpa using h)
theorem takeWhile_end {α : Type} (p : α → Bool) : ∀ (l : List α), (l.takeWhile p).length = l.length ∨ ∃ x, l[(l.takeWhile p).length]? = some x ∧ p x = false
  | [] => .inl rfl
  | x :: l => by
    rw [List.takeWhile_cons]
    cases hp : p x with
    | false => exact .inr ⟨x, rfl, hp⟩
    | true =>
      rcases takeWhile_end p l with h | ⟨y, h1, h2⟩
      · exact .inl (by simp [h])
      · exact .inr ⟨y, by simpa using h1, h2⟩
theorem spanN_at {ns : List Nd} {d : Int} {i k : Nat} (h : k < spanN ns d i) : ∃ u, ns[i + 1 + k]? = some u ∧ d < u.depth := by
  obtain ⟨x, h1, h2⟩ := takeWhile_at _ _ _ h
  rw [List.getElem?_drop] at h1
  exact ⟨x, h1, by simpa using h2⟩
theorem spanN_end (ns : List Nd) (d : Int) (i : Nat) (hi : i < ns.length) : i + 1 + spanN ns d i = ns.length ∨ ∃ u, ns[i + 1 + spanN ns d i]? = some u ∧ u.depth ≤ d := by
  rcases takeWhile_end (fun n : Nd => decide (d < n.depth)) (ns.drop (i + 1)) with h | ⟨x, h1, h2⟩
  · left; unfold spanN; rw [h, List.length_drop]; omega
  · right; rw [List.getElem?_drop] at h1; exact ⟨x, h1, by simpa using h2⟩
theorem spanN_le (ns : List Nd) (d : Int) (i : Nat) (hi : i < ns.length) : i + 1 + spanN ns d i ≤ ns.length := by
  have h := (List.takeWhile_sublist (fun n : Nd => decide (d < n.depth)) (l := ns.drop (i + 1))).length_le
  unfold spanN; rw [List.length_drop] at h; omega
structure KpB (b0 n₀ : Nat) (W W' : World) : Prop where
  size : W.heap.size ≤ W'.heap.size
  block : ∀ k, k < n₀ → k ≠ b0 → W'.heap[k]? = W.heap[k]?
theorem KpB.trans {b0 n₀ : Nat} {A B C : World} (h : KpB b0 n₀ A B) (k : KpB b0 n₀ B C) : KpB b0 n₀ A C := ⟨Nat.le_trans h.size k.size, fun j h1 h2 => (k.block j h1 h2).trans (h.block j h1 h2)⟩
theorem KpB.of_below {b0 n₀ : Nat} {A B : World} (h : Below n₀ A B) : KpB b0 n₀ A B := ⟨h.size, fun j h1 _ => h.block j h1⟩
theorem KpB.cell {b0 n₀ : Nat} {A B : World} (h : KpB b0 n₀ A B) {b o : Nat} (h1 : b < n₀) (h2 : b ≠ b0) : B.cell? ⟨b, o, none⟩ = A.cell? ⟨b, o, none⟩ := World.cell?_of_block (a := ⟨b, o, none⟩) (h.block b h1 h2)
def NdsIn (b0 n₀ : Nat) (w : World) (A : Option Addr) (ns : List Nd) : Prop := ∀ k n, ns[k]? = some n → ∃ b o, A = some ⟨b, o, none⟩ ∧ b < n₀ ∧ b ≠ b0 ∧ NdAt w b (o + k * 8) n
theorem NdsIn.kept {b0 n₀ : Nat} {w w' : World} {A : Option Addr} {ns : List Nd} (h : NdsIn b0 n₀ w A ns) (hk : KpB b0 n₀ w w') : NdsIn b0 n₀ w' A ns := fun k n hn => by
  obtain ⟨b, o, e, h1, h2, h3⟩ := h k n hn
  exact ⟨b, o, e, h1, h2, ⟨(hk.cell h1 h2).trans h3.c0, (hk.cell h1 h2).trans h3.c1, (hk.cell h1 h2).trans h3.c2, (hk.cell h1 h2).trans h3.c3, (hk.cell h1 h2).trans h3.c4, (hk.cell h1 h2).trans h3.c5, (hk.cell h1 h2).trans h3.c6, (hk.cell h1 h2).trans h3.c7⟩⟩
theorem grown_later {W : World} (s : Later W) : W.grownBy s.w none := ⟨s.below.os, s.below.tape, s.below.output, s.below.size, fun k hk _ => s.below.block k hk⟩
set_option maxRecDepth 100000 in
set_option maxHeartbeats 2000000 in
theorem below1_in {α : Type} (f : α → Nat) (L : List α) (F : Fence) (n : Nat) (hF : F.fn 195) (hro : F.round = none) (hn : 1 ≤ n) (l bI bN b0 n₀ cap i : Nat) (A : Option Addr) (ns : List Nd) (u : Nd) (hi : ns[i]? = some u) (hL : L.map f = List.range' (i + 1) (spanN ns u.depth i)) (hl : ns.length ≤ cap) (hc : cap ≤ maxLen)
    (hI : bI < n₀) (hI0 : bI ≠ b0) (hN : bN < n₀) (hN0 : bN ≠ b0) (B : Nat) (J Jx : List α → World → Prop) (hJ : AbidesFrom B J)
    (hY : ∀ pre x W, J pre W → pre.length < spanN ns u.depth i → YieldAt F (n - 1) Tryz.prog l #[.int .i64 (f x : Nat)] W fun e W' =>
      (e = .returned (.bool true) ∧ J (pre ++ [x]) W' ∧ KpB b0 n₀ W W') ∨ (e = .returned (.bool false) ∧ Jx (pre ++ [x]) W'))
    (W : World) (hcI : W.cell? ⟨bI, 0, none⟩ = some (.int .i64 i)) (hcN : W.cell? ⟨bN, 0, none⟩ = some (.slice A ns.length cap)) (hns : NdsIn b0 n₀ W A ns) (hsz : n₀ ≤ W.heap.size) (h0 : J [] W) :
    CallsIn F n Tryz.prog 195 #[.func (.yield l) #[] #[], .pointer (some ⟨bI, 0, none⟩), .pointer (some ⟨bN, 0, none⟩)] W fun e W' => (∃ v, e = .returned v) ∧
      ((∃ ys, ys = L ∧ J ys W') ∨ (∃ pre, pre <+: L ∧ Jx pre W')) := by
  have hin : i < ns.length := (List.getElem?_eq_some_iff.1 hi).1
  have HSE := Lib.hid (spanN_end ns u.depth i hin)
  have hsl := spanN_le ns u.depth i hin
  have HSA := Lib.hid (fun k (h : k < spanN ns u.depth i) => spanN_at h)
  obtain ⟨m, hm⟩ : ∃ m, m = spanN ns u.depth i := ⟨_, rfl⟩
  rw [← hm] at HSE hsl HSA hY hL
  have HLM := Lib.hid (show L.length = m by have := congrArg List.length hL; simpa using this)
  have HLX := Lib.hid (fun k (h : k < m) => show ∃ x, L[k]? = some x ∧ f x = i + 1 + k by
    have h1 : (L.map f)[k]? = some (i + 1 + k) := by rw [hL, List.getElem?_range' h, Nat.one_mul]
    rw [List.getElem?_map] at h1
    cases hx : L[k]? with
    | none => rw [hx] at h1; cases h1
    | some x => rw [hx] at h1; injection h1 with h1; exact ⟨x, rfl, h1⟩)
  have HLT := Lib.hid (fun k x (h : L[k]? = some x) => show L.take (k + 1) = L.take k ++ [x] by
    obtain ⟨hk, e⟩ := List.getElem?_eq_some_iff.1 h
    rw [List.take_succ_eq_append_getElem hk, e])
  clear hm hL
  have HNS := Lib.hid hns
  obtain ⟨b, o, hA, hb1, hb2, hva⟩ := hns i u hi
  subst hA
  have HVA := Lib.hid hva.c1
  obtain ⟨d, hd⟩ : ∃ d, d = u.depth := ⟨_, rfl⟩
  rw [← hd] at HVA HSE HSA
  have HCI := Lib.hid hcI
  have HCN := Lib.hid hcN
  obtain ⟨N, hNN⟩ : ∃ N, N = ns.length := ⟨_, rfl⟩
  have HNN := Lib.hid hNN
  rw [← hNN] at HCN hl hsl hin HSE
  unfold maxLen at hc
  have HY := Lib.hid hY
  have HJ := Lib.hid hJ
  clear hns hva hd hi hcN hNN hY hJ
  refine callsIn_of_wp Tryz.func195 rfl hF ?_ hro
  simp only [Tryz.ntmps195, List.size_toArray, List.length_cons, List.length_nil, Nat.reduceAdd, Nat.reduceSub, Array.replicate_succ, Array.replicate_zero, List.push_toArray, List.append_toArray, List.nil_append, List.cons_append]
  gi_wp2
  clear hcI
  gi_loopw [4] (fun c wr => ∃ k : Nat, k ≤ m ∧ c = .int .i64 ((i + 1 + k : Nat) : Int) ∧ Hid (J (L.take k) wr) ∧ Hid (KpB b0 n₀ W wr)) (fun c _ => N + 1 - (intOf c).toNat)
  case atStart => exact ⟨0, Nat.zero_le _, by simp, Lib.hid (by simpa using h0), Lib.hid ⟨Nat.le_refl _, fun _ _ _ => rfl⟩⟩
  case round =>
    obtain ⟨k, hk, rfl, hJs, hnx⟩ := hrel
    have hs1 : bI < wr.heap.size := by have := hnx.out.size; omega
    have hs2 : bN < wr.heap.size := by have := hnx.out.size; omega
    have hs3 : b < wr.heap.size := by have := hnx.out.size; omega
    have x1 := (hnx.out.cell hI hI0).trans HCI.out
    have x2 := (hnx.out.cell hN hN0).trans HCN.out
    have x3 := (hnx.out.cell hb1 hb2).trans HVA.out
    obtain ⟨j, hj⟩ : ∃ j, j = i + 1 + k := ⟨_, rfl⟩
    have HJ0 := Lib.hid hj
    rw [← hj]
    have HK := Lib.hid hnx.out
    have HJS := Lib.hid (fun (s : Later wr) => HJ.out _ wr s.w none hJs.out (grown_later s) (fun r e => by cases e))
    clear hnx hJs
    by_cases hlt : k < m
    · obtain ⟨u', hu', hdu⟩ := HSA.out k hlt
      rw [← hj] at hu'
      obtain ⟨b', o', e1, hb1', hb2', hva'⟩ := (HNS.out.kept HK.out) j u' hu'
      injection e1 with e1
      injection e1 with e1 e2
      subst e1 e2
      have x4 := hva'.c1
      obtain ⟨d', hd'⟩ : ∃ d', d' = u'.depth := ⟨_, rfl⟩
      rw [← hd'] at x4 hdu
      have hjN : j < N := by omega
      have hg1 : decide (j < N) = true := decide_eq_true hjN
      have hg2 : decide (d < d') = true := decide_eq_true hdu
      clear hu' hva' hd' hj hdu
      gi_wp2
      refine wpIn_region_later (by assumption) (by kernel_rfl) (by kernel_rfl) ?_; (repeat (first | gi_big_quiet_step (fail) | quiet_step_in (fail))); refine wpQuietIn_nil ?_; rintro _ ⟨s, rfl⟩
      have HJS2 := Lib.hid (HJS.out s)
      have HK2 := Lib.hid (HK.out.trans (KpB.of_below (s.below.mono (by have := HK.out.size; omega))))
      generalize s.w = wt at HJS2 HK2 ⊢
      obtain ⟨x, hx, hfx⟩ := HLX.out k hlt
      obtain ⟨fn, tmps, assign, body, hy, hR⟩ := HY.out _ x wt HJS2.out (by rw [List.length_take]; have := HLM.out; omega)
      rw [hfx, ← HJ0.out] at hy
      have HX := Lib.hid (HLT.out k x hx)
      clear hx hfx
      have HR := Lib.hid hR
      clear hR
      gi_wp2
      refine HR.out.mono ?_
      rintro e W3 (⟨rfl, hJ3, hk3⟩ | ⟨rfl, hJx3⟩)
      · have HJ3 := Lib.hid (show J (L.take (k + 1)) W3 by rw [HX.out]; exact hJ3)
        have HK3 := Lib.hid (HK2.out.trans hk3)
        clear hJ3 hk3
        gi_wp2
        go_roundw
        case rel => exact ⟨k + 1, by omega, by rw [show i + 1 + (k + 1) = j + 1 by have := HJ0.out; omega]; go_num, HJ3, HK3⟩
        case measure => simp [intOf]; omega
      · have HJ3 := Lib.hid (show Jx (L.take (k + 1)) W3 by rw [HX.out]; exact hJx3)
        clear hJx3
        gi_wp2
        refine bodyPost_ret (results_none rfl _ _ _) rfl ?_
        exact ⟨⟨_, rfl⟩, .inr ⟨_, List.take_prefix _ _, HJ3.out⟩⟩
    · obtain rfl : k = m := by omega
      rcases HSE.out with hE | ⟨u', hu', hdu⟩
      · have hg1 : decide (j < N) = false := decide_eq_false (by omega)
        clear hj
        gi_wp2
        refine wpIn_region_later (by assumption) (by kernel_rfl) (by kernel_rfl) ?_; (repeat (first | gi_big_quiet_step (fail) | quiet_step_in (fail))); refine wpQuietIn_nil ?_; rintro _ ⟨s, rfl⟩
        have HJS2 := Lib.hid (HJS.out s)
        generalize s.w = wt at HJS2 ⊢
        gi_wp2
        go_end0
        exact ⟨⟨_, rfl⟩, .inl ⟨_, List.take_of_length_le (by have := HLM.out; omega), HJS2.out⟩⟩
      · rw [← hj] at hu'
        obtain ⟨b', o', e1, hb1', hb2', hva'⟩ := (HNS.out.kept HK.out) j u' hu'
        injection e1 with e1
        injection e1 with e1 e2
        subst e1 e2
        have x4 := hva'.c1
        obtain ⟨d', hd'⟩ : ∃ d', d' = u'.depth := ⟨_, rfl⟩
        rw [← hd'] at x4 hdu
        have hjN : j < N := by rw [HNN.out]; exact (List.getElem?_eq_some_iff.1 hu').1
        have hg1 : decide (j < N) = true := decide_eq_true hjN
        have hg2 : decide (d < d') = false := decide_eq_false (by omega)
        clear hu' hva' hd' hj hdu
        gi_wp2
        refine wpIn_region_later (by assumption) (by kernel_rfl) (by kernel_rfl) ?_; (repeat (first | gi_big_quiet_step (fail) | quiet_step_in (fail))); refine wpQuietIn_nil ?_; rintro _ ⟨s, rfl⟩
        have HJS2 := Lib.hid (HJS.out s)
        generalize s.w = wt at HJS2 ⊢
        gi_wp2
        go_end0
        exact ⟨⟨_, rfl⟩, .inl ⟨_, List.take_of_length_le (by have := HLM.out; omega), HJS2.out⟩⟩
open Go.RowKit
def GotRow (w : World) (e : TypeId) (size n : Nat) (xs : List Value) (en : Ending) (w' : World) : Prop :=
  ∃ A c, en = .returned (.slice A n c) ∧ w'.ownsRow w.heap.size e size (.slice A n c) n xs ∧ Below w.heap.size w w'
theorem own_base {w : World} {b0 b1 : Nat} {e : TypeId} {size : Nat} {v : Value} {n : Nat} {xs : List Value} (h : w.ownsRow b1 e size v n xs) (hb : b0 ≤ b1) : w.ownsRow b0 e size v n xs := by
  refine ⟨h.1, ?_⟩
  rcases h.2 with h2 | ⟨g, cap, cur, rfl, h3, h4⟩
  · exact .inl h2
  · exact .inr ⟨g, cap, cur, rfl, Nat.le_trans hb h3, h4⟩
open Go.RowKit Go.Sort
attribute [local go_sem] Oper.semAt_some
set_option maxHeartbeats 1000000 in
theorem below_in (F : Fence) (n : Nat) (hF : F.fn 184) (hro : F.round = none) (A : Option Addr) (N cap : Nat) (i : Nat) (w : World) :
    CallsIn F n Tryz.prog 184 #[.slice A N cap, .int .i64 i] w fun e w' => e = .returned (.func (.func 195) #[] #[.pointer (some ⟨w.heap.size + 1, 0, none⟩), .pointer (some ⟨w.heap.size, 0, none⟩)]) ∧
      w' = (w.alloc (.cells #[.slice A N cap] 25)).alloc (.cells #[.int .i64 i] 3) := by
  refine callsIn_of_wp Tryz.func184 rfl hF ?_ hro
  simp only [Tryz.ntmps184, List.size_toArray, List.length_cons, List.length_nil, Nat.reduceAdd, Nat.reduceSub, Array.replicate_succ, Array.replicate_zero, List.push_toArray, List.append_toArray, List.nil_append, List.cons_append]
  gi_wp2
  go_ret
  exact ⟨rfl, rfl⟩
def belowF (ns : List Nd) (d : Int) (i : Nat) (hi : i < ns.length) : List (Fin ns.length) := (List.range' (i + 1) (spanN ns d i)).pmap (fun j h => ⟨j, h⟩) (fun j hj => by
  have := spanN_le ns d i hi
  rw [List.mem_range'_1] at hj; omega)
theorem belowF_val (ns : List Nd) (d : Int) (i : Nat) (hi : i < ns.length) : (belowF ns d i hi).map (fun x => x.val) = List.range' (i + 1) (spanN ns d i) := by
  unfold belowF; rw [List.map_pmap]; simp
theorem belowF_len (ns : List Nd) (d : Int) (i : Nat) (hi : i < ns.length) : (belowF ns d i hi).length = spanN ns d i := by unfold belowF; simp
theorem below_stops (F : Fence) (n : Nat) (hF : F.fn 195) (hro : F.round = none) (hn : 1 ≤ n) (bI bN b0 n₀ cap i : Nat) (A : Option Addr) (ns : List Nd) (u : Nd) (hi : ns[i]? = some u) (hin : i < ns.length) (hl : ns.length ≤ cap) (hc : cap ≤ maxLen)
    (hI : bI < n₀) (hI0 : bI ≠ b0) (hN : bN < n₀) (hN0 : bN ≠ b0) (w : World) (hsz : n₀ ≤ w.heap.size) (hcI : w.cell? ⟨bI, 0, none⟩ = some (.int .i64 i)) (hcN : w.cell? ⟨bN, 0, none⟩ = some (.slice A ns.length cap)) (hns : NdsIn b0 n₀ w A ns) :
    SeqStopsK F n Tryz.prog 195 #[.pointer (some ⟨bI, 0, none⟩), .pointer (some ⟨bN, 0, none⟩)] (fun x : Fin ns.length => #[Value.int .i64 (x.val : Nat)]) (KpB b0 n₀) (fun ys => ys = belowF ns u.depth i hin) (fun pre => pre <+: belowF ns u.depth i hin) (spanN ns u.depth i) w := fun l J Jx W hW hJ _ hY h0 =>
  below1_in (fun x : Fin ns.length => x.val) (belowF ns u.depth i hin) F n hF hro hn l bI bN b0 n₀ cap i A ns u hi (belowF_val ns u.depth i hin) hl hc hI hI0 hN hN0 W.heap.size J Jx hJ hY W
    ((hW.cell (p := ⟨bI, 0, none⟩) (Nat.lt_of_lt_of_le hI hsz)).trans hcI) ((hW.cell (p := ⟨bN, 0, none⟩) (Nat.lt_of_lt_of_le hN hsz)).trans hcN) (hns.kept (KpB.of_below (hW.mono hsz))) (Nat.le_trans hsz hW.size) h0
theorem kpB_t {b0 n₀ : Nat} {A B C : World} (h : KpB b0 n₀ A B) (k : KpB b0 n₀ B C) : KpB b0 n₀ A C := h.trans k
theorem kpB_b {b0 n₀ : Nat} {w : World} (hn : n₀ ≤ w.heap.size) (W : World) (l : Nat) (o o' : Obj) (hl : w.heap.size ≤ l) (h : W.heap[l]? = some o) (h1 : o.isCells = false) (h2 : o.isWalk = false) : KpB b0 n₀ W (W.putObj l o') :=
  KpB.of_below (belowK_b hn W l o o' hl h h1 h2)
theorem Boxed.keptK {b0 n₀ B : Nat} {W W' : World} {t : TypeId} {v : Value} (h : Boxed W B t v) (hk : KpB b0 n₀ W W') (h1 : B < n₀) (h2 : B ≠ b0) : Boxed W' B t v := (hk.block B h1 h2).trans h
theorem Boxed.appendedK {W w1 : World} {n₀ base B : Nat} {t e : TypeId} {size : Nat} {v v' : Value} {k m : Nat} {xs ys : List Value} {tmp : Obj}
    (hv : Boxed W B t v) (hte : t ≠ e) (hrow : W.ownsRow base e size v k xs) (hn₀ : n₀ ≤ W.heap.size) (hb : n₀ ≤ base)
    (hown' : w1.ownsRow base e size v' m ys) (hgrow : (W.alloc tmp).grownBy w1 v.ownBlock) :
    Boxed w1 B t v ∧ Boxed (w1.setCell ⟨B, 0, none⟩ v') B t v' ∧ (w1.setCell ⟨B, 0, none⟩ v').ownsRow base e size v' m ys ∧ KeepsOthers W (w1.setCell ⟨B, 0, none⟩ v') ∧ KpB B n₀ W (w1.setCell ⟨B, 0, none⟩ v') := by
  have hv1 : Boxed w1 B t v := (hv.alloc tmp).kept hgrow (hv.not_row hte hrow)
  refine ⟨hv1, hv1.set v', hown'.kept (grownBy_setCell' w1 B v') (.inr (hv1.not_row hte hown').symm), ?_, ?_, ?_⟩
  · refine ((KeepsOthers.alloc W tmp).trans (KeepsOthers.of_grownBy hgrow fun j o ej hj => ?_)).trans (KeepsOthers.setCell _ _ _)
    rcases (hrow.alloc tmp).2 with ⟨rfl, _⟩ | ⟨g, cap, cur, rfl, _, hgb, _⟩
    · simp [Value.ownBlock] at ej
    · obtain rfl : g = j := by simpa [Value.ownBlock] using ej
      rw [hgb] at hj; cases hj; rfl
  · have h1 := hgrow.size
    have h2 := (grownBy_setCell' w1 B v').size
    simp at h1; omega
  · intro j hj hjb
    rw [heap_setCell_other _ _ _ _ hjb, hgrow.block j (by simp; omega) (fun e2 => ?_), heap_alloc_other _ _ _ (by omega)]
    have := (hrow.lt j e2.symm).1
    omega
def kidB (ns : List Nd) (d : Int) (j : Nat) : Bool := ns[j]?.any (fun u => u.depth == d + 1)
def kidsL (ns : List Nd) (i : Nat) : List Nat := match ns[i]? with
  | some u => (List.range' (i + 1) (spanN ns u.depth i)).filter (kidB ns u.depth)
  | none => []
def intsV (l : List Nat) : List Value := l.map fun j => .int .i64 (j : Nat)
def kidF {N : Nat} (ns : List Nd) (d : Int) (pre : List (Fin N)) : List Nat := (pre.map (fun x => x.val)).filter (kidB ns d)
theorem kidF_hit {N : Nat} {ns : List Nd} {d : Int} (pre : List (Fin N)) {x : Fin N} (h : kidB ns d x.val = true) : kidF ns d (pre ++ [x]) = kidF ns d pre ++ [x.val] := by simp [kidF, h]
theorem kidF_miss {N : Nat} {ns : List Nd} {d : Int} (pre : List (Fin N)) {x : Fin N} (h : kidB ns d x.val = false) : kidF ns d (pre ++ [x]) = kidF ns d pre := by simp [kidF, h]
theorem kidF_len {N : Nat} (ns : List Nd) (d : Int) (pre : List (Fin N)) : (kidF ns d pre).length ≤ pre.length := by
  unfold kidF; have := List.length_filter_le (kidB ns d) (pre.map (fun x => x.val)); simpa using this
set_option maxRecDepth 100000 in
set_option maxHeartbeats 4000000 in
theorem kidsOf_in (F : Fence) (n : Nat) (h1 : F.fn 155) (h2 : F.fn 184) (h3 : F.fn 195) (hro : F.round = none) (hn : 3 ≤ n) (A : Option Addr) (cap i : Nat) (ns : List Nd) (u : Nd) (hi : ns[i]? = some u)
    (hl : ns.length ≤ cap) (hc : cap ≤ maxLen) (hsm : ns.length ≤ 1000000) (hd : -1000000 ≤ u.depth ∧ u.depth ≤ 1000000) (w : World) (hns : NdsAt w A ns) :
    CallsIn F n Tryz.prog 155 #[.slice A ns.length cap, .int .i64 i] w (GotRow w 3 1 (kidsL ns i).length (intsV (kidsL ns i))) := by
  have hn1 : 1 ≤ n := by omega
  have hin : i < ns.length := (List.getElem?_eq_some_iff.1 hi).1
  obtain ⟨i0, hii, hz0, hz1, hz2⟩ := info_hid infoInt
  refine callsIn_of_wp_marks Tryz.func155 rfl h1 ?_ hro
  simp only [Tryz.ntmps155, List.size_toArray, List.length_cons, List.length_nil, Nat.reduceAdd, Nat.reduceSub, Array.replicate_succ, Array.replicate_zero, List.push_toArray, List.append_toArray, List.nil_append, List.cons_append]
  gi_wp2_with (gi_at_call 184; refine (below_in F (n - 1) h2 hro _ _ _ _ _).mono ?_; rintro e w' ⟨rfl, rfl⟩)
  obtain ⟨W5, hW5⟩ : ∃ W5, W5 = (((((w.alloc (.cells #[.slice A ns.length cap] 25)).alloc (.cells #[.int .i64 i] 3)).alloc (.cells #[.slice none 0 0] 49)).alloc (.cells #[.slice A ns.length cap] 25)).alloc (.cells #[.int .i64 i] 3)) := ⟨_, rfl⟩
  rw [← hW5]
  have hsz : W5.heap.size = w.heap.size + 5 := by rw [hW5]; simp
  have B4 : Boxed W5 (w.heap.size + 1 + 1 + 1 + 1) 3 (.int .i64 i) := by
    have := Boxed.new ((((w.alloc (.cells #[.slice A ns.length cap] 25)).alloc (.cells #[.int .i64 i] 3)).alloc (.cells #[.slice none 0 0] 49)).alloc (.cells #[.slice A ns.length cap] 25)) 3 (.int .i64 i)
    simp only [World.size_alloc] at this; rw [hW5]; exact this
  have B3 : Boxed W5 (w.heap.size + 1 + 1 + 1) 25 (.slice A ns.length cap) := by
    have := Boxed.new (((w.alloc (.cells #[.slice A ns.length cap] 25)).alloc (.cells #[.int .i64 i] 3)).alloc (.cells #[.slice none 0 0] 49)) 25 (.slice A ns.length cap)
    simp only [World.size_alloc] at this; rw [hW5]; exact this.alloc _
  have B2 : Boxed W5 (w.heap.size + 1 + 1) 49 (.slice none 0 0) := by
    have := Boxed.new ((w.alloc (.cells #[.slice A ns.length cap] 25)).alloc (.cells #[.int .i64 i] 3)) 49 (.slice none 0 0)
    simp only [World.size_alloc] at this; rw [hW5]; exact (this.alloc _).alloc _
  have B1 : Boxed W5 (w.heap.size + 1) 3 (.int .i64 i) := by
    have := Boxed.new (w.alloc (.cells #[.slice A ns.length cap] 25)) 3 (.int .i64 i)
    simp only [World.size_alloc] at this; rw [hW5]; exact ((this.alloc _).alloc _).alloc _
  have B0 : Boxed W5 w.heap.size 25 (.slice A ns.length cap) := by
    have := Boxed.new w 25 (.slice A ns.length cap)
    rw [hW5]; exact (((this.alloc _).alloc _).alloc _).alloc _
  have hB0 : Below w.heap.size w W5 := by
    rw [hW5]; exact (((((Below.refl _ w).alloc (Nat.le_refl _) _).alloc (by simp) _).alloc (by simp; omega) _).alloc (by simp; omega) _).alloc (by simp; omega) _
  have hN5 : NdsIn (w.heap.size + 1 + 1) (w.heap.size + 5) W5 A ns := fun k x hk => by
    obtain ⟨b, o, e, hlt, hv⟩ := hns k x hk
    exact ⟨b, o, e, by omega, by omega, hv.below hB0 hlt⟩
  have HSZ := Lib.hid hsz
  have HB00 := Lib.hid hB0
  have HNS := Lib.hid hns
  have HKL := Lib.hid (show kidsL ns i = kidF ns u.depth (belowF ns u.depth i hin) by
    unfold kidsL kidF
    rw [hi, belowF_val])
  have hbl : spanN ns u.depth i ≤ 1000000 := by have := spanN_le ns u.depth i hin; omega
  clear hW5 hsz hB0
  refine wpIn_rangeFunc_ownG hro hn1 (gf := 195) (lb := #[.pointer (some ⟨w.heap.size + 1 + 1 + 1 + 1, 0, none⟩), .pointer (some ⟨w.heap.size + 1 + 1 + 1, 0, none⟩)]) rfl h3 (enters_of Tryz.func195 (by kernel_rfl) rfl)
    (below_stops F (n - 1) h3 hro (by omega) (w.heap.size + 1 + 1 + 1 + 1) (w.heap.size + 1 + 1 + 1) (w.heap.size + 1 + 1) (w.heap.size + 5) cap i A ns u hi hin hl hc (by omega) (by omega) (by omega) (by omega) W5 (by rw [HSZ.out]; exact Nat.le_refl _) B4.cell B3.cell hN5) kpB_t (kpB_b (by rw [HSZ.out]; exact Nat.le_refl _)) (Below.refl _ _) (fun _ => rfl)
    (fun pre W => ((∃ v, Boxed W (w.heap.size + 1 + 1) 49 v ∧ W.ownsRow (w.heap.size + 5) 3 1 v (kidF ns u.depth pre).length (intsV (kidF ns u.depth pre)) ∧ True) ∧ Boxed W w.heap.size 25 (.slice A ns.length cap) ∧ Boxed W (w.heap.size + 1) 3 (.int .i64 i)) ∧ Below w.heap.size W5 W)
    (fun _ _ _ => False)
    (OwnFrom.and (OwnFrom.and (Own.from (holdsRow_own (w.heap.size + 5) (w.heap.size + 1 + 1) 49 3 1 (fun pre => (kidF ns u.depth pre).length) (fun pre => intsV (kidF ns u.depth pre)) (fun _ _ => True)) _)
      (OwnFrom.and (Own.from (boxed_own _ _ (fun _ => _)) _) (Own.from (boxed_own _ _ (fun _ => _)) _))) (ownFrom_below (by rw [HSZ.out]; omega) (by rw [HSZ.out]; omega)))
    (fun _ _ _ _ _ hs _ _ => hs)
    ⟨⟨⟨_, B2, World.ownsRow_nil _ _ _ _, trivial⟩, B0, B1⟩, Below.refl _ _⟩
    (fun x => { tmps := #[.slice A ns.length cap, .int .i64 i, .pointer (some ⟨w.heap.size, 0, none⟩), .pointer (some ⟨w.heap.size + 1, 0, none⟩), .slice none 0 0, .pointer (some ⟨w.heap.size + 1 + 1, 0, none⟩), .int .i64 (x.val : Nat), .slice A ns.length cap, .int .i64 i, .func (.func 195) #[] #[.pointer (some ⟨w.heap.size + 1 + 1 + 1 + 1, 0, none⟩), .pointer (some ⟨w.heap.size + 1 + 1 + 1, 0, none⟩)], .int .i64 (x.val : Nat), undef, undef, undef, undef, undef, undef, undef, undef, undef, undef, undef, undef, undef, undef, undef, undef, undef], defers := [] }) ?assign ?body ?done ?stop
  case assign =>
    intro l x W K hK
    gi_wp2
    exact hK
  case body =>
    rintro l pre ⟨j, hjN⟩ W ⟨⟨⟨v, hv, hrow, -⟩, hb0, hb1⟩, hB⟩ hlt
    have hkl := kidF_len ns u.depth pre
    have hWs : w.heap.size + 5 ≤ W.heap.size := by have := hB.size; have := HSZ.out; omega
    have HB5 := Lib.hid hB
    have hB := HB00.out.trans hB
    have hgj : ns[j]? = some ns[j] := List.getElem?_eq_getElem hjN
    obtain ⟨x, hx⟩ : ∃ x, x = ns[j] := ⟨_, rfl⟩
    rw [← hx] at hgj
    obtain ⟨b, o, hA, hbl1, hva⟩ := HNS.out j x hgj
    obtain ⟨b', o', hA', -, hvi⟩ := HNS.out i u hi
    rw [hA] at hA'
    injection hA' with hA'
    injection hA' with e1 e2
    subst e1 e2
    have HKJ := Lib.hid (show kidB ns u.depth j = (x.depth == u.depth + 1) by unfold kidB; rw [hgj]; rfl)
    have y1 := (hva.below hB hbl1).c1
    have z1 := (hvi.below hB hbl1).c1
    have hsb : b < W.heap.size := by omega
    have hs0 : w.heap.size < W.heap.size := by omega
    have hs1 : w.heap.size + 1 < W.heap.size := by omega
    obtain ⟨d, hd'⟩ : ∃ d, d = u.depth := ⟨_, rfl⟩
    have HD := Lib.hid hd'
    rw [← hd'] at z1 hd
    have hwr : IntKind.i64.wrap (d + 1) = d + 1 := IntWalk.i64_in _ (by omega)
    have HV := Lib.hid hv
    have HROW := Lib.hid hrow
    have HX0 := Lib.hid hb0
    have HX1 := Lib.hid hb1
    have HBW := Lib.hid hB
    have hc0 := hb0.cell
    have hc1 := hb1.cell
    subst hA
    obtain ⟨dx, hdx⟩ : ∃ dx, dx = x.depth := ⟨_, rfl⟩
    rw [← hdx] at HKJ y1
    clear hv hrow hb0 hb1 hB hx hgj hva hvi hd' hdx hi
    by_cases hk : (dx == d + 1) = true
    case neg =>
      have hk : (dx == d + 1) = false := by simpa using hk
      have HM := Lib.hid (kidF_miss (d := u.depth) pre (x := ⟨j, hjN⟩) (by rw [HKJ.out, ← HD.out]; exact hk))
      gi_wp2
      refine wpIn_region_laterR (by kernel_rfl) (by kernel_rfl) (by kernel_rfl) ?_; (repeat (first | gi_big_quiet_step (fail) | quiet_step_in (fail))); refine wpQuietIn_nil ?_; rintro _ ⟨s, rfl⟩
      have HE := Lib.hid (And.intro (KeepsFrom.of_grownBy (B := W5.heap.size) (grown_later s) (fun j e => by cases e)) (And.intro (KpB.of_below (b0 := w.heap.size + 1 + 1) (s.below.mono hWs)) (And.intro ((HV.out.kept (grown_later s) (by simp))) (And.intro (ownsRow_of_block HROW.out (fun g hg => s.below.block g (HROW.out.lt g hg).2)) (And.intro (HX0.out.kept (grown_later s) (by simp)) (And.intro (HX1.out.kept (grown_later s) (by simp)) (HB5.out.trans (s.below.mono (by omega)))))))))
      generalize s.w = wt at HE ⊢
      gi_wp2
      obtain ⟨e1, e2, e3, e4, e5, e6, e7⟩ := HE.out
      exact ⟨e1, e2, ⟨⟨v, e3, by rw [HM.out]; exact e4, trivial⟩, e5, e6⟩, e7⟩
    have HM := Lib.hid (kidF_hit (d := u.depth) pre (x := ⟨j, hjN⟩) (by rw [HKJ.out, ← HD.out]; exact hk))
    gi_wp2
    refine wpIn_region_laterR (by kernel_rfl) (by kernel_rfl) (by kernel_rfl) ?_; (repeat (first | gi_big_quiet_step (fail) | quiet_step_in (fail))); refine wpQuietIn_nil ?_; rintro _ ⟨s, rfl⟩
    have HE := Lib.hid (And.intro (KeepsFrom.of_grownBy (B := W5.heap.size) (grown_later s) (fun j e => by cases e)) (And.intro (KpB.of_below (b0 := w.heap.size + 1 + 1) (s.below.mono hWs)) (And.intro (HX0.out.kept (grown_later s) (by simp)) (And.intro (HX1.out.kept (grown_later s) (by simp)) (HB5.out.trans (s.below.mono (by omega)))))))
    have hv := HV.out.kept (grown_later s) (by simp)
    have hrow := ownsRow_of_block HROW.out (fun g hg => s.below.block g (HROW.out.lt g hg).2)
    have hWt : w.heap.size + 5 ≤ s.w.heap.size := by have := s.below.size; omega
    generalize s.w = wt at HE hv hrow hWt ⊢
    clear hc0 hc1 hsb hs0 hs1 y1 z1 HV HROW
    have hc5 := hv.cell
    have hmx : 2000000 ≤ maxLen := by unfold maxLen; omega
    have HRW := Lib.hid hrow
    have HVV := Lib.hid hv
    clear hrow
    gi_wp2_with (gi_at_builtin; refine wpListIn_append_own _ rfl _ _ 49 rfl (w.heap.size + 5) 3 i0 (.int .i64 0) 1 8 Tryz.underlying49 hii.out hz0.out hz1.out hz2.out rfl (by decide) _ _ _ rfl (HRW.out.alloc _) ⟨wt.heap.size, 0, none⟩ 1 1 [.int .i64 (j : Nat)] rfl rfl (cell_one_new _ _ _) (by simp [Value.oneCell']) (by omega) (by omega) (by rw [World.size_alloc]; omega) ?_; intro v' w1 hown' hgrow _; obtain ⟨g', cap', rfl⟩ := ownsRow_succ hown'; obtain ⟨hv1, hv2, hr2, hk2, hb2⟩ := Boxed.appendedK HVV.out (by decide) HRW.out hWt (Nat.le_refl _) hown' hgrow; have hc1 := hv1.cell; have hf1 := hv1.frozen)
    obtain ⟨e1, e2, e5, e6, e7⟩ := HE.out
    refine ⟨e1.trans (hk2.from _), e2.trans hb2, ⟨⟨_, hv2, by rw [HM.out]; simpa [intsV] using hr2, trivial⟩, Boxed.keptK e5 hb2 (by omega) (by omega), Boxed.keptK e6 hb2 (by omega) (by omega)⟩, e7.trans ?_⟩
    exact (((Below.refl w.heap.size wt).alloc (by omega) _).grown hgrow (by rw [World.size_alloc]; omega) (fun g hg => by have := (HRW.out.lt g hg).1; omega)).setCell (p := ⟨w.heap.size + 1 + 1, 0, none⟩) (by show w.heap.size ≤ w.heap.size + 1 + 1; omega) _
  case done =>
    rintro D ys W hD rfl ⟨⟨⟨v, hv, hrow, -⟩, -, -⟩, hB⟩ hK
    have hc := hv.cell
    gi_wp2
    refine ⟨by simp, .inl ⟨_, _, rfl, run_takeDeferred hK, ?_⟩⟩
    obtain ⟨A2, c2, rfl, -, -, -, -⟩ := own_slice hrow
    rw [HKL.out]
    exact ⟨_, results_tmp rfl _ _ _, A2, c2, rfl, own_base (ownsRow_putObj hrow _ hK rfl) (by omega), (HB00.out.trans hB).trans (belowK_b (w := W5) (by have := HSZ.out; omega) W D _ _ hD hK rfl rfl)⟩
  case stop =>
    rintro D c pre W _ _ h _
    exact h.elim
theorem kidsOf_any (A : Option Addr) (cap i : Nat) (ns : List Nd) (u : Nd) (hi : ns[i]? = some u)
    (hl : ns.length ≤ cap) (hc : cap ≤ maxLen) (hsm : ns.length ≤ 1000000) (hd : -1000000 ≤ u.depth ∧ u.depth ≤ 1000000) (w : World) (hns : NdsAt w A ns) :
    Calls Tryz.prog 155 #[.slice A ns.length cap, .int .i64 i] w (GotRow w 3 1 (kidsL ns i).length (intsV (kidsL ns i))) :=
  callsIn_wide.1 (kidsOf_in Fence.wide 3 trivial trivial trivial rfl (by omega) A cap i ns u hi hl hc hsm hd w hns)
def lastF {N : Nat} (i : Nat) (pre : List (Fin N)) : Nat := ((pre.getLast?).map (fun x => x.val + 1)).getD (i + 1)
theorem lastF_snoc {N : Nat} (i : Nat) (pre : List (Fin N)) (x : Fin N) : lastF i (pre ++ [x]) = x.val + 1 := by simp [lastF]
theorem lastF_all (ns : List Nd) (d : Int) (i : Nat) (hi : i < ns.length) : lastF i (belowF ns d i hi) = i + 1 + spanN ns d i := by
  have h := belowF_val ns d i hi
  have h2 := congrArg List.getLast? h
  rw [List.getLast?_map] at h2
  unfold lastF
  cases hl : (belowF ns d i hi).getLast? with
  | none =>
    have : belowF ns d i hi = [] := List.getLast?_eq_none_iff.1 hl
    have h3 := congrArg List.length this
    rw [belowF_len] at h3
    simp at h3
    simp [h3]
  | some x =>
    rw [hl] at h2
    have hs : 0 < spanN ns d i := by
      have := belowF_len ns d i hi
      rcases Nat.eq_zero_or_pos (spanN ns d i) with h0 | h0
      · rw [h0] at this; rw [List.eq_nil_of_length_eq_zero this] at hl; cases hl
      · exact h0
    obtain ⟨m, hm⟩ : ∃ m, spanN ns d i = m + 1 := ⟨_, (Nat.succ_pred_eq_of_pos hs).symm⟩
    rw [hm, List.range'_1_concat] at h2
    simp at h2
    simp [h2, hm]; omega
set_option maxRecDepth 100000 in
set_option maxHeartbeats 4000000 in
theorem part_in (F : Fence) (n : Nat) (h1 : F.fn 191) (h2 : F.fn 184) (h3 : F.fn 195) (hro : F.round = none) (hn : 3 ≤ n) (b o cap i : Nat) (ns : List Nd) (u : Nd) (hi : ns[i]? = some u)
    (hl : ns.length ≤ cap) (hc : cap ≤ maxLen) (w : World) (hns : NdsAt w (some ⟨b, o, none⟩) ns) :
    CallsIn F n Tryz.prog 191 #[.slice (some ⟨b, o, none⟩) ns.length cap, .int .i64 i] w fun e w' => e = .returned (.slice (some ⟨b, o + i * 8, none⟩) (1 + spanN ns u.depth i) (1 + spanN ns u.depth i)) ∧ Below w.heap.size w w' := by
  have hn1 : 1 ≤ n := by omega
  have hin : i < ns.length := (List.getElem?_eq_some_iff.1 hi).1
  unfold maxLen at hc
  have hwr : IntKind.i64.wrap ((i : Int) + 1) = (i : Int) + 1 := IntWalk.i64_in _ (by omega)
  refine callsIn_of_wp_marks Tryz.func191 rfl h1 ?_ hro
  simp only [Tryz.ntmps191, List.size_toArray, List.length_cons, List.length_nil, Nat.reduceAdd, Nat.reduceSub, Array.replicate_succ, Array.replicate_zero, List.push_toArray, List.append_toArray, List.nil_append, List.cons_append]
  gi_wp2_with (gi_at_call 184; refine (below_in F (n - 1) h2 hro _ _ _ _ _).mono ?_; rintro e w' ⟨rfl, rfl⟩)
  obtain ⟨W3, hW3⟩ : ∃ W3, W3 = (((w.alloc (.cells #[.int .i64 ((i : Int) + 1)] 3)).alloc (.cells #[.slice (some ⟨b, o, none⟩) ns.length cap] 25)).alloc (.cells #[.int .i64 i] 3)) := ⟨_, rfl⟩
  rw [← hW3]
  have hsz : W3.heap.size = w.heap.size + 3 := by rw [hW3]; simp
  have B2 : Boxed W3 (w.heap.size + 1 + 1) 3 (.int .i64 i) := by
    have := Boxed.new ((w.alloc (.cells #[.int .i64 ((i : Int) + 1)] 3)).alloc (.cells #[.slice (some ⟨b, o, none⟩) ns.length cap] 25)) 3 (.int .i64 i)
    simp only [World.size_alloc] at this; rw [hW3]; exact this
  have B1 : Boxed W3 (w.heap.size + 1) 25 (.slice (some ⟨b, o, none⟩) ns.length cap) := by
    have := Boxed.new (w.alloc (.cells #[.int .i64 ((i : Int) + 1)] 3)) 25 (.slice (some ⟨b, o, none⟩) ns.length cap)
    simp only [World.size_alloc] at this; rw [hW3]; exact this.alloc _
  have B0 : Boxed W3 w.heap.size 3 (.int .i64 ((i : Int) + 1)) := by
    have := Boxed.new w 3 (.int .i64 ((i : Int) + 1))
    rw [hW3]; exact (this.alloc _).alloc _
  have hB0 : Below w.heap.size w W3 := by
    rw [hW3]; exact (((Below.refl _ w).alloc (Nat.le_refl _) _).alloc (by simp) _).alloc (by simp; omega) _
  have hN3 : NdsIn w.heap.size (w.heap.size + 3) W3 (some ⟨b, o, none⟩) ns := fun k x hk => by
    obtain ⟨b', o', e, hlt, hv⟩ := hns k x hk
    exact ⟨b', o', e, by omega, by omega, hv.below hB0 hlt⟩
  have HSZ := Lib.hid hsz
  have HB0 := Lib.hid hB0
  have HSL := Lib.hid (spanN_le ns u.depth i hin)
  clear hW3 hsz hB0
  refine wpIn_rangeFunc_ownG hro hn1 (gf := 195) (lb := #[.pointer (some ⟨w.heap.size + 1 + 1, 0, none⟩), .pointer (some ⟨w.heap.size + 1, 0, none⟩)]) rfl h3 (enters_of Tryz.func195 (by kernel_rfl) rfl)
    (below_stops F (n - 1) h3 hro (by omega) (w.heap.size + 1 + 1) (w.heap.size + 1) w.heap.size (w.heap.size + 3) cap i _ ns u hi hin hl (by unfold maxLen; omega) (by omega) (by omega) (by omega) (by omega) W3 (by rw [HSZ.out]; exact Nat.le_refl _) B2.cell B1.cell hN3) kpB_t (kpB_b (by rw [HSZ.out]; exact Nat.le_refl _)) (Below.refl _ _) (fun _ => rfl)
    (fun pre W => Boxed W w.heap.size 3 (.int .i64 ((lastF i pre : Nat) : Int)) ∧ Below w.heap.size W3 W)
    (fun _ _ _ => False)
    (OwnFrom.and (Own.from (boxed_own _ _ (fun pre => .int .i64 ((lastF i pre : Nat) : Int))) _) (ownFrom_below (by rw [HSZ.out]; omega) (by rw [HSZ.out]; omega)))
    (fun _ _ _ _ _ hs _ _ => hs)
    ⟨by simpa [lastF] using B0, Below.refl _ _⟩
    (fun x => { tmps := #[.slice (some ⟨b, o, none⟩) ns.length cap, .int .i64 i, undef, undef, .slice none 0 0, .pointer (some ⟨w.heap.size, 0, none⟩), .int .i64 (x.val : Nat), .int .i64 i, .int .i64 ((i : Int) + 1), .slice (some ⟨b, o, none⟩) ns.length cap, .int .i64 i, .func (.func 195) #[] #[.pointer (some ⟨w.heap.size + 1 + 1, 0, none⟩), .pointer (some ⟨w.heap.size + 1, 0, none⟩)], .int .i64 (x.val : Nat), undef, undef, undef, undef, undef, undef, undef], defers := [] }) ?assign ?body ?done ?stop
  case assign =>
    intro l x W K hK
    gi_wp2
    exact hK
  case body =>
    rintro l pre ⟨j, hjN⟩ W ⟨hv, hB⟩ hlt
    have HV := Lib.hid hv
    have HBB := Lib.hid hB
    have hc5 := hv.cell
    have hf5 := hv.frozen
    have HSZ' := HSZ.out
    have hWs : w.heap.size + 3 ≤ W.heap.size := by have := hB.size; omega
    have hs0 : w.heap.size < W.heap.size := by omega
    have hwj : IntKind.i64.wrap ((j : Int) + 1) = (j : Int) + 1 := IntWalk.i64_in _ (by omega)
    clear hv hB HSZ'
    gi_wp2
    refine ⟨(KeepsOthers.setCell _ _ _).from _, ⟨((Below.refl 0 W).setCell (p := ⟨w.heap.size, 0, none⟩) (Nat.zero_le _) _).size, fun k hk hk2 => heap_setCell_other _ _ _ _ hk2⟩, ?_, HBB.out.setCell (p := ⟨w.heap.size, 0, none⟩) (Nat.le_refl _) _⟩
    have := HV.out.set (.int .i64 ((j : Int) + 1))
    rw [lastF_snoc]
    exact this
  case done =>
    rintro D ys W hD rfl ⟨hv, hB⟩ hK
    rw [lastF_all] at hv
    have HV := Lib.hid hv
    have HBB := Lib.hid hB
    have HKK := Lib.hid hK
    have hc5 := hv.cell
    have hs0 : w.heap.size < W.heap.size := hv.lt
    obtain ⟨m, hm⟩ : ∃ m, m = spanN ns u.depth i := ⟨_, rfl⟩
    have hsl := HSL.out
    have HM := Lib.hid hm
    rw [← hm] at hsl hc5 HV
    obtain ⟨e0, he0⟩ : ∃ e0, e0 = i + 1 + m := ⟨_, rfl⟩
    have HE0 := Lib.hid he0
    rw [← he0] at hsl hc5 HV
    have hie : i < e0 := by omega
    have hec : e0 ≤ cap := by omega
    clear hv hB hK hm he0
    gi_wp2
    refine ⟨by simp, .inl ⟨_, _, rfl, run_takeDeferred HKK.out, ?_⟩⟩
    refine ⟨_, results_tmp rfl _ _ _, ?_, (HB0.out.trans HBB.out).trans (belowK_b (w := W3) (by have := HSZ.out; omega) W D _ _ hD HKK.out rfl rfl)⟩
    rw [← HM.out, show 1 + m = e0 - i by have := HE0.out; omega]
    rfl
  case stop =>
    rintro D c pre W _ _ h _
    exact h.elim
theorem part_any (b o cap i : Nat) (ns : List Nd) (u : Nd) (hi : ns[i]? = some u) (hl : ns.length ≤ cap) (hc : cap ≤ maxLen) (w : World) (hns : NdsAt w (some ⟨b, o, none⟩) ns) :
    Calls Tryz.prog 191 #[.slice (some ⟨b, o, none⟩) ns.length cap, .int .i64 i] w fun e w' => e = .returned (.slice (some ⟨b, o + i * 8, none⟩) (1 + spanN ns u.depth i) (1 + spanN ns u.depth i)) ∧ Below w.heap.size w w' :=
  callsIn_wide.1 (part_in Fence.wide 3 trivial trivial trivial rfl (by omega) b o cap i ns u hi hl hc w hns)
open Go.RowKit
def partsW (o : Nat) (l : List Nd) : List (Nat × List Nd) :=
  match l with
  | [] => []
  | u :: r => (o, (u :: r).take (1 + spanN (u :: r) u.depth 0)) :: partsW (o + (1 + spanN (u :: r) u.depth 0)) ((u :: r).drop (1 + spanN (u :: r) u.depth 0))
termination_by l.length
decreasing_by simp; omega
theorem partsW_nil (o : Nat) : partsW o [] = [] := by rw [partsW]
theorem partsW_cons (o : Nat) (u : Nd) (r : List Nd) : partsW o (u :: r) = (o, (u :: r).take (1 + spanN (u :: r) u.depth 0)) :: partsW (o + (1 + spanN (u :: r) u.depth 0)) ((u :: r).drop (1 + spanN (u :: r) u.depth 0)) := by rw [partsW]
theorem partsW_at {l : List Nd} {u : Nd} (h : l[0]? = some u) (o : Nat) : partsW o l = (o, l.take (1 + spanN l u.depth 0)) :: partsW (o + (1 + spanN l u.depth 0)) (l.drop (1 + spanN l u.depth 0)) := by
  cases l with
  | nil => cases h
  | cons x r => injection h with h; subst h; exact partsW_cons o x r
def partV (A : Option Addr) (p : Nat × List Nd) : Value := .slice (A.map fun a => ⟨a.block, a.off + p.1 * 8, none⟩) p.2.length p.2.length
def partsV (A : Option Addr) (l : List (Nat × List Nd)) : List Value := l.map (partV A)
theorem NdsAt.drop {w : World} {b o : Nat} {ns : List Nd} (h : NdsAt w (some ⟨b, o, none⟩) ns) (m : Nat) : NdsAt w (some ⟨b, o + m * 8, none⟩) (ns.drop m) := fun k x hk => by
  rw [List.getElem?_drop] at hk
  obtain ⟨b', o', e, hlt, hv⟩ := h (m + k) x hk
  injection e with e
  injection e with e1 e2
  subst e1 e2
  refine ⟨b, _, rfl, hlt, ?_⟩
  rw [show o + m * 8 + k * 8 = o + (m + k) * 8 by omega]; exact hv
theorem NdsAt.nil (w : World) (A : Option Addr) : NdsAt w A [] := fun k x hk => by simp at hk
theorem infoNds : (Tryz.prog.info? 25).map (fun i => (i.zero, i.size, i.bytes)) = some (some (.slice none 0 0), 1, 24) := by kernel_rfl
theorem one_slice (a : Option Addr) (n c : Nat) : ∀ u ∈ [Value.slice a n c], u.oneCell' = true := fun u hu => by simp at hu; subst hu; rfl
theorem new_one (w : World) (v : Value) (t : TypeId) : ∀ (j : Nat) (u : Value), [v][j]? = some u → (w.alloc (.cells #[v] t)).cell? ⟨w.heap.size, j, none⟩ = some u := fun j u hj => by
  have h0 : j = 0 := by have := (List.getElem?_eq_some_iff.1 hj).1; simpa using this
  subst h0
  simp at hj; subst hj
  rw [cell_of_blk (heap_alloc_new w _) 0]; rfl
set_option maxRecDepth 100000 in
set_option maxHeartbeats 4000000 in
theorem split_any (A : Option Addr) (cap : Nat) (ns : List Nd) (w : World) (h : NdsAt w A ns) (hl : ns.length ≤ cap) (hc : cap ≤ maxLen) (hsm : ns.length ≤ 1000000) :
    Calls Tryz.prog 174 #[.slice A ns.length cap] w (GotRow w 25 1 (partsW 0 ns).length (partsV A (partsW 0 ns))) := by
  obtain ⟨iv, hiv, hzv, hsv, hbv⟩ := info_hid infoNds
  have HNS := Lib.hid h
  unfold maxLen at hc
  obtain ⟨N, hN⟩ : ∃ N, N = ns.length := ⟨_, rfl⟩
  rw [← hN] at hl hsm ⊢
  have HN := Lib.hid hN
  clear h hN
  go_enter Tryz.func174, Tryz.ntmps174
  go_wp2
  go_loopw [0, 3] (fun s v wr => ∃ (k n' c' : Nat) (A' : Option Addr) (ps : List (Nat × List Nd)), s = .slice A' n' c' ∧ n' ≤ c' ∧ c' ≤ cap ∧ k + n' = N ∧ ps.length ≤ k ∧ Hid (Below w.heap.size w wr) ∧ Hid (n' = (ns.drop k).length) ∧ Hid (NdsAt wr A' (ns.drop k)) ∧ Hid (0 < n' → A' = A.map fun a => ⟨a.block, a.off + k * 8, none⟩) ∧
      Hid (wr.ownsRow w.heap.size 25 1 v ps.length (partsV A ps)) ∧ Hid (partsW 0 ns = ps ++ partsW k (ns.drop k))) (fun s _ _ => match s with | .slice _ n _ => n | _ => 0)
  case atStart => exact ⟨0, N, cap, A, [], rfl, hl, Nat.le_refl _, by omega, Nat.le_refl _, Lib.hid (Below.refl _ _), Lib.hid (by simpa using HN.out), Lib.hid (by simpa using HNS.out), Lib.hid (fun h0 => by
    have hlt : 0 < ns.length := by have := HN.out; omega
    obtain ⟨b, o, e, _⟩ := HNS.out 0 _ (List.getElem?_eq_getElem hlt)
    subst e; simp), Lib.hid (World.ownsRow_nil _ _ _ _), Lib.hid (by simp)⟩
  case round =>
    obtain ⟨k, n', c', A', ps, rfl, hn', hc', hkn, hps, hb, hnl, hna, hA', hown, hpw⟩ := hrel
    by_cases h0 : 0 < n'
    · obtain ⟨u, hu⟩ : ∃ u, (ns.drop k)[0]? = some u := ⟨_, List.getElem?_eq_getElem (by have := hnl.out; omega)⟩
      obtain ⟨b, o, hAe, hblt, hva⟩ := hna.out 0 u hu
      have HAA := Lib.hid (hA'.out h0)
      subst hAe
      obtain ⟨m, hm⟩ : ∃ m, m = 1 + spanN (ns.drop k) u.depth 0 := ⟨_, rfl⟩
      have hmn : m ≤ n' := by
        have := spanN_le (ns.drop k) u.depth 0 (by have := hnl.out; omega)
        have := hnl.out; omega
      have hm0 : 0 < m := by omega
      have HPW := Lib.hid (show partsW k (ns.drop k) = (k, (ns.drop k).take m) :: partsW (k + m) (ns.drop (k + m)) by
        rw [partsW_at hu, ← hm, List.drop_drop])
      have HP := Lib.hid (show Calls Tryz.prog 191 #[.slice (some ⟨b, o, none⟩) n' c', .int .i64 0] wr (fun e w' => e = .returned (.slice (some ⟨b, o, none⟩) m m) ∧ Below wr.heap.size wr w') by
        have := part_any b o c' 0 (ns.drop k) u hu (by rw [← hnl.out]; exact hn') (by unfold maxLen; omega) wr hna.out
        rw [← hnl.out, ← hm] at this
        simpa using this)
      have HNA := Lib.hid hna.out
      have HOW := Lib.hid hown.out
      have HPP := Lib.hid hpw.out
      have HBB := Lib.hid hb.out
      have HNL := Lib.hid hnl.out
      clear hva hu hm hna hA' hown hpw hb hnl
      have h00 : decide ((0 : Int) < n') = true := decide_eq_true (by omega)
      go_wp2_with fail
      refine HP.out.mono ?_; rintro e w1 ⟨rfl, hb1⟩
      have HB1 := Lib.hid (below_more HBB.out hb1)
      have HO1 := Lib.hid (ownsRow_of_block HOW.out (fun g hg => hb1.block g (HOW.out.lt g hg).2))
      have HN1 := Lib.hid (HNA.out.below hb1)
      clear hb1 HP HOW HNA
      have hss : w.heap.size ≤ w1.heap.size := HB1.out.size
      have HREL := Lib.hid (fun (v2 : Value) (w2 : World) (A2 : Option Addr) (ho : w2.ownsRow w.heap.size 25 1 v2 (ps.length + 1) (partsV A ps ++ [.slice (some ⟨b, o, none⟩) m m])) (hg : (w1.alloc (.cells #[.slice (some ⟨b, o, none⟩) m m] 25)).grownBy w2 u3.ownBlock) (ha : 0 < n' - m → A2 = some ⟨b, o + m * 8, none⟩) =>
        show ∃ ps2 : List (Nat × List Nd), ps2.length ≤ k + m ∧ Below w.heap.size w w2 ∧ n' - m = (ns.drop (k + m)).length ∧ NdsAt w2 A2 (ns.drop (k + m)) ∧ (0 < n' - m → A2 = A.map fun a => ⟨a.block, a.off + (k + m) * 8, none⟩) ∧ w2.ownsRow w.heap.size 25 1 v2 ps2.length (partsV A ps2) ∧ partsW 0 ns = ps2 ++ partsW (k + m) (ns.drop (k + m)) from by
        have hb2 : Below w.heap.size w1 w2 := ((Below.refl w.heap.size w1).alloc hss _).grown hg (by rw [World.size_alloc]; omega) (fun g hg => (HO1.out.lt g hg).1)
        have hlen : n' - m = (ns.drop (k + m)).length := by have := HNL.out; rw [List.length_drop] at this ⊢; omega
        refine ⟨ps ++ [(k, (ns.drop k).take m)], by simp; omega, HB1.out.trans hb2, hlen, ?_, ?_, ?_, ?_⟩
        · by_cases h1 : 0 < n' - m
          · rw [ha h1]
            have := HN1.out.drop m
            rw [List.drop_drop] at this
            intro j x hj
            obtain ⟨b', o', e, hlt, hv⟩ := this j x hj
            injection e with e
            injection e with e1 e2
            subst e1 e2
            obtain ⟨b'', o'', e', hlt', hv'⟩ := HNS.out ((k + m) + j) x (by rw [← List.getElem?_drop]; exact hj)
            have hbb : b < w.heap.size := by
              obtain ⟨c1, c2, c3, c4, _⟩ := HNS.out 0 _ (List.getElem?_eq_getElem (by have := HNL.out; rw [List.length_drop] at this; omega))
              have h2 := HAA.out
              rw [c3] at h2
              injection h2 with h2
              injection h2 with h2 _
              rw [h2]; exact c4
            refine ⟨b, _, rfl, by have := hb2.size; omega, ?_⟩
            exact ⟨(hb2.cell (p := ⟨b, _, none⟩) hbb).trans hv.c0, (hb2.cell (p := ⟨b, _, none⟩) hbb).trans hv.c1, (hb2.cell (p := ⟨b, _, none⟩) hbb).trans hv.c2, (hb2.cell (p := ⟨b, _, none⟩) hbb).trans hv.c3, (hb2.cell (p := ⟨b, _, none⟩) hbb).trans hv.c4, (hb2.cell (p := ⟨b, _, none⟩) hbb).trans hv.c5, (hb2.cell (p := ⟨b, _, none⟩) hbb).trans hv.c6, (hb2.cell (p := ⟨b, _, none⟩) hbb).trans hv.c7⟩
          · rw [List.eq_nil_of_length_eq_zero (l := ns.drop (k + m)) (by omega)]; exact NdsAt.nil _ _
        · intro h1
          rw [ha h1]
          have h2 := HAA.out
          cases A with
          | none => cases h2
          | some a => injection h2 with h2; injection h2 with h2 h3; simp [h2, h3] <;> omega
        · have e1 : partV A (k, (ns.drop k).take m) = .slice (some ⟨b, o, none⟩) m m := by
            unfold partV
            have h3 : ((ns.drop k).take m).length = m := by rw [List.length_take]; have := HNL.out; omega
            rw [HAA.out, h3]
          unfold partsV at ho ⊢
          rw [List.map_append, List.map_singleton, e1, List.length_append]
          exact ho
        · rw [HPP.out, HPW.out, List.append_assoc]; rfl)
      clear HPW HPP HN1 HAA HBB
      by_cases hcm : c' = m
      · subst hcm
        go_wp2_with (first
          | (at_builtin; refine wpList_append_src _ rfl (.tmp 10) (.tmp 12) 243 rfl w.heap.size 25 iv (.slice none 0 0) 1 24 Tryz.underlying243 hiv.out hzv.out hsv.out hbv.out rfl (by decide) u3 ps.length (partsV A ps) rfl ?own2 (some ⟨w1.heap.size, 0, none⟩) 1 1 [.slice (some ⟨b, o, none⟩) c' c'] rfl ?l2 ?n2 ?c2 ?o2 ?m2 ?b2 ?s2 (ps.length + 1) rfl ?_))
        case own2 => exact HO1.out.alloc _
        case l2 => rfl
        case n2 => intro h; cases h
        case o2 => exact one_slice _ _ _
        case c2 => intro ad had i u' hj; injection had with had; subst had; have := new_one w1 (.slice (some ⟨b, o, none⟩) c' c') 25 i u' hj; rw [show (⟨w1.heap.size, 0, none⟩ : Addr).add i = ⟨w1.heap.size, i, none⟩ by simp [Addr.add] <;> omega]; exact this
        case m2 => unfold maxLen; omega
        case b2 => omega
        case s2 => rw [World.size_alloc]; omega
        intro A3 c3 w3 own3 hg3 _
        obtain ⟨ps2, r1, r2, r3, r4, r5, r6, r7⟩ := HREL.out _ w3 (some ⟨b, o, none⟩) own3 hg3 (fun h => by omega)
        have R := Lib.hid (And.intro r2 (And.intro r3 (And.intro r4 (And.intro r5 (And.intro r6 r7)))))
        clear r2 r3 r4 r5 r6 r7 own3 hg3
        have hdm : decide (n' < c') = false := decide_eq_false (by omega)
        go_wp2_with fail
        go_roundw
        case rel => exact ⟨k + c', n' - c', c' - c', _, ps2, by simp <;> omega, by omega, by omega, by omega, r1, Lib.hid R.out.1, Lib.hid R.out.2.1, Lib.hid R.out.2.2.1, Lib.hid R.out.2.2.2.1, Lib.hid R.out.2.2.2.2.1, Lib.hid R.out.2.2.2.2.2⟩
        case measure => simp; omega
      · have hcm2 : (c' = m) = False := eq_false hcm
        go_wp2_with (first
          | (at_builtin; refine wpList_append_src _ rfl (.tmp 10) (.tmp 12) 243 rfl w.heap.size 25 iv (.slice none 0 0) 1 24 Tryz.underlying243 hiv.out hzv.out hsv.out hbv.out rfl (by decide) u3 ps.length (partsV A ps) rfl ?own2 (some ⟨w1.heap.size, 0, none⟩) 1 1 [.slice (some ⟨b, o, none⟩) m m] rfl ?l2 ?n2 ?c2 ?o2 ?m2 ?b2 ?s2 (ps.length + 1) rfl ?_))
        case own2 => exact HO1.out.alloc _
        case l2 => rfl
        case n2 => intro h; cases h
        case o2 => exact one_slice _ _ _
        case c2 => intro ad had i u' hj; injection had with had; subst had; have := new_one w1 (.slice (some ⟨b, o, none⟩) m m) 25 i u' hj; rw [show (⟨w1.heap.size, 0, none⟩ : Addr).add i = ⟨w1.heap.size, i, none⟩ by simp [Addr.add] <;> omega]; exact this
        case m2 => unfold maxLen; omega
        case b2 => omega
        case s2 => rw [World.size_alloc]; omega
        intro A3 c3 w3 own3 hg3 _
        obtain ⟨ps2, r1, r2, r3, r4, r5, r6, r7⟩ := HREL.out _ w3 (some ⟨b, o + m * 8, none⟩) own3 hg3 (fun _ => rfl)
        have R := Lib.hid (And.intro r2 (And.intro r3 (And.intro r4 (And.intro r5 (And.intro r6 r7)))))
        clear r2 r3 r4 r5 r6 r7 own3 hg3
        have hdm : decide (n' < m) = false := decide_eq_false (by omega)
        go_wp2_with fail
        go_roundw
        case rel => exact ⟨k + m, n' - m, c' - m, _, ps2, by simp <;> omega, by omega, by omega, by omega, r1, Lib.hid R.out.1, Lib.hid R.out.2.1, Lib.hid R.out.2.2.1, Lib.hid R.out.2.2.2.1, Lib.hid R.out.2.2.2.2.1, Lib.hid R.out.2.2.2.2.2⟩
        case measure => simp; omega
    · obtain rfl : n' = 0 := by omega
      obtain ⟨A2, c2, hv, -, -, -, -⟩ := own_slice hown.out
      subst hv
      have HE := Lib.hid (show partsW 0 ns = ps by
        have h1 := hpw.out
        have h2 : ns.drop k = [] := List.eq_nil_of_length_eq_zero hnl.out.symm
        rw [h2, partsW_nil, List.append_nil] at h1; exact h1)
      go_wp2_with fail
      go_ret
      rw [HE.out]
      exact ⟨A2, c2, rfl, hown.out, hb.out⟩
open Go.RowKit
structure Src where
  A : Option Addr
  n : Nat
  c : Nat
  xs : List Value
structure SrcOk (size : Nat) (w : World) (s : Src) : Prop where
  len : s.xs.length = s.n * size
  none : s.A = none → s.n = 0
  cells : ∀ ad, s.A = some ad → ∀ j u, s.xs[j]? = some u → w.cell? (ad.add j) = some u
  one : ∀ u ∈ s.xs, u.oneCell' = true
  lt : ∀ ad, s.A = some ad → s.xs ≠ [] → ad.block < w.heap.size
theorem add_blk (a : Addr) (n : Nat) : (a.add n).block = a.block := by unfold Addr.add; split <;> rfl
theorem SrcOk.below {size B : Nat} {w w' : World} {s : Src} (h : SrcOk size w s) (hb : Below B w w') (hB : w.heap.size ≤ B := by exact Nat.le_refl _) : SrcOk size w' s :=
  ⟨h.len, h.none, fun ad e j u hj => by
    have hlt := h.lt ad e (fun e2 => by rw [e2] at hj; simp at hj)
    exact (hb.cell (p := ad.add j) (by rw [add_blk]; exact Nat.lt_of_lt_of_le hlt hB)).trans (h.cells ad e j u hj), h.one, fun ad e hne => Nat.lt_of_lt_of_le (h.lt ad e hne) hb.size⟩
def SlicesAt (w : World) (A : Option Addr) (ss : List Src) : Prop := ∀ k s, ss[k]? = some s → ∃ g o, A = some ⟨g, o, none⟩ ∧ g < w.heap.size ∧ w.cell? ⟨g, o + k, none⟩ = some (.slice s.A s.n s.c)
def sumN (ss : List Src) : Nat := (ss.map (·.n)).sum
theorem sumN_take {ss : List Src} {k : Nat} {s : Src} (h : ss[k]? = some s) : sumN (ss.take (k + 1)) = sumN (ss.take k) + s.n := by
  obtain ⟨hk, e⟩ := List.getElem?_eq_some_iff.1 h
  unfold sumN
  rw [List.take_succ_eq_append_getElem hk, e]; simp
theorem sumN_take_le (ss : List Src) (k : Nat) : sumN (ss.take k) ≤ sumN ss := by
  conv => rhs; rw [← List.take_append_drop k ss]
  unfold sumN; rw [List.map_append, List.sum_append]; omega
end Go.Proofs.YtmiokllpdmmfhaaGreat
