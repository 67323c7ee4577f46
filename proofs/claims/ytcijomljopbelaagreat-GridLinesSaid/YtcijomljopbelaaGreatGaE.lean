/-
  Contracts of slices.Grow (onto nothing) and slices.Concat, at elements of type int. And what builds on it.
-/
import Derived.Test.YtcijomljopbelaaGreatGaD
import Derived.Test.YtcijomljopbelaaGreatShelfg
import Derived.Shelf.Spec.SlicesGrow
import Derived.Deep.AppendLies
import Derived.Deep.RegionLaw
import Derived.Deep.RegionWith
import Derived.Deep.DeepCutAuto
import Derived.Laws.EntriesVeiled

/- Contracts of slices.Grow (onto nothing) and slices.Concat, at elements of type int. -/
namespace Go.Proofs.YtcijomljopbelaaGreat
open Go.RowKit

theorem infoCInt : (Tryz.prog.info? 3).map (fun i => (i.zero, i.size, i.bytes)) = some (some (.int .i64 0), 1, 8) := by kernel_rfl

end Go.Proofs.YtcijomljopbelaaGreat

/- The leaves of a group in the order in which they are read (leaves): the closure that visits a node. -/
namespace Go.Proofs.YtcijomljopbelaaGreat
open Go.RowKit

def kidsO (ns : List Nd) (i : Nat) (kind : Int) : List Nat := if kind = 7 then (kidsL ns i).drop 1 ++ (kidsL ns i).take 1 else kidsL ns i
/-- the numbers of the leaves of a node, read in order; the depth bounds the recursion -/
def leavesF (ns : List Nd) : Nat → Nat → List Nat
  | 0, _ => []
  | f + 1, i => match ns[i]? with
    | none => []
    | some u => if leafB u.kind then [i] else (kidsO ns i u.kind).flatMap (leavesF ns f)
theorem leavesF_at {ns : List Nd} {i : Nat} {u : Nd} (h : ns[i]? = some u) (f : Nat) : leavesF ns (f + 1) i = if leafB u.kind then [i] else (kidsO ns i u.kind).flatMap (leavesF ns f) := by
  rw [leavesF, h]
def getN (ns : List Nd) (j : Nat) : Nd := ns[j]?.getD ⟨0, 0, 0, 0, false, 0, 0, 0⟩
def pickN (ns : List Nd) (l : List Nat) : List Nd := l.map (getN ns)
theorem getN_at {ns : List Nd} {j : Nat} {u : Nd} (h : ns[j]? = some u) : getN ns j = u := by unfold getN; rw [h]; rfl
/-- what a text must have for its leaves to be read -/
structure VisOk (ns : List Nd) : Prop where
  dep : ∀ u ∈ ns, 0 ≤ u.depth ∧ u.depth ≤ 4
  hon : ∀ (i : Nat) (u : Nd), ns[i]? = some u → u.kind = 7 → 1 ≤ (kidsL ns i).length
  six : ∀ i, (kidsL ns i).length ≤ 6
theorem kids_at {ns : List Nd} {i j : Nat} {u : Nd} (h : ns[i]? = some u) (hj : j ∈ kidsL ns i) : ∃ x, ns[j]? = some x ∧ x.depth = u.depth + 1 := by
  unfold kidsL at hj
  rw [h] at hj
  have := (List.mem_filter.1 hj).2
  unfold kidB at this
  cases hx : ns[j]? with
  | none => rw [hx] at this; cases this
  | some x => rw [hx] at this; exact ⟨x, rfl, by simpa using this⟩
theorem kidsO_mem {ns : List Nd} {i j : Nat} {k : Int} (hj : j ∈ kidsO ns i k) : j ∈ kidsL ns i := by
  unfold kidsO at hj
  split at hj
  · rcases List.mem_append.1 hj with h | h
    · exact List.mem_of_mem_drop h
    · exact List.mem_of_mem_take h
  · exact hj
theorem kidsO_len (ns : List Nd) (i : Nat) (k : Int) : (kidsO ns i k).length = (kidsL ns i).length := by
  unfold kidsO
  split
  · simp; omega
  · rfl
theorem leavesF_len {ns : List Nd} (h : VisOk ns) : ∀ (f i : Nat), (leavesF ns f i).length ≤ 6 ^ f := by
  intro f
  induction f with
  | zero => intro i; simp [leavesF]
  | succ f ih =>
    intro i
    rw [leavesF]
    split
    · simp
    · split
      · simp; exact Nat.one_le_pow _ _ (by omega)
      · rename_i u _ _
        have h6 : (kidsO ns i u.kind).length ≤ 6 := by rw [kidsO_len]; exact h.six i
        have : ∀ l : List Nat, (l.flatMap (leavesF ns f)).length ≤ l.length * 6 ^ f := by
          intro l
          induction l with
          | nil => simp
          | cons x l ihl => rw [List.flatMap_cons, List.length_append, List.length_cons, Nat.succ_mul]; have := ih x; omega
        have h1 := this (kidsO ns i u.kind)
        have h2 : (kidsO ns i u.kind).length * 6 ^ f ≤ 6 * 6 ^ f := Nat.mul_le_mul_right _ h6
        rw [Nat.pow_succ, Nat.mul_comm (6 ^ f) 6]; omega
def Nd.cells (n : Nd) : List Value := [.int .i64 n.kind, .int .i64 n.depth, .int .i64 n.sign, .int .i64 n.turn, .bool n.mirror, .int .i64 n.state, .int .i64 n.min, .int .i64 n.max]
theorem nd_one (n : Nd) : ∀ u ∈ n.cells, u.oneCell' = true := fun u hu => by
  simp [Nd.cells] at hu
  rcases hu with rfl | rfl | rfl | rfl | rfl | rfl | rfl | rfl <;> rfl

/-- ints in memory -/
def NatsAt (w : World) (A : Option Addr) (l : List Nat) : Prop := ∀ k j, l[k]? = some j → ∃ b o, A = some ⟨b, o, none⟩ ∧ b < w.heap.size ∧ w.cell? ⟨b, o + k, none⟩ = some (.int .i64 (j : Nat))

structure VKeeps (bf : Nat) (v : Value) (w : World) (v' : Value) (w' : World) : Prop where
  os : w'.os = w.os
  tape : w'.tape = w.tape
  output : w'.output = w.output
  size : w.heap.size ≤ w'.heap.size
  block : ∀ k, k < w.heap.size → k ≠ bf → v.ownBlock ≠ some k → w'.heap[k]? = w.heap[k]?
  row : v'.ownBlock = v.ownBlock ∨ ∃ g, v'.ownBlock = some g ∧ w.heap.size ≤ g
theorem VKeeps.trans {bf : Nat} {v v1 v2 : Value} {w w1 w2 : World} (h : VKeeps bf v w v1 w1) (k : VKeeps bf v1 w1 v2 w2) : VKeeps bf v w v2 w2 where
  os := k.os.trans h.os
  tape := k.tape.trans h.tape
  output := k.output.trans h.output
  size := Nat.le_trans h.size k.size
  block := fun j hj h1 h2 => by
    have hs := h.size
    rw [k.block j (by omega) h1 (fun e => ?_), h.block j hj h1 h2]
    rcases h.row with hr | ⟨g, hr, hg⟩
    · rw [hr] at e; exact h2 e
    · rw [hr] at e; injection e with e; omega
  row := by
    have hs := h.size
    rcases k.row with hr | ⟨g, hr, hg⟩
    · rw [hr]; exact h.row
    · exact .inr ⟨g, hr, by omega⟩
theorem VKeeps.of_below {bf : Nat} (v : Value) {w w' : World} (hb : Below w.heap.size w w') : VKeeps bf v w v w' :=
  ⟨hb.os, hb.tape, hb.output, hb.size, fun k hk _ _ => hb.block k hk, .inl rfl⟩
end Go.Proofs.YtcijomljopbelaaGreat

/- The closure that visits a node, by its contract. -/
namespace Go.Proofs.YtcijomljopbelaaGreat
open Go.RowKit

theorem isLeaf_is (u : Nd) (w : World) (B : Bool) (h : leafB u.kind = B) : Calls Tryz.prog 183 #[.agg #[.int .i64 u.kind, .int .i64 u.depth, .int .i64 u.sign, .int .i64 u.turn, .bool u.mirror, .int .i64 u.state, .int .i64 u.min, .int .i64 u.max]] w (fun e w' => e = .returned (.bool B) ∧ Below w.heap.size w w') := by
  rw [← h]; exact isLeaf_any u w
theorem infoNd : (Tryz.prog.info? 87).map (fun i => (i.zero, i.size, i.bytes)) = some (some (.agg #[.int .i64 0, .int .i64 0, .int .i64 0, .int .i64 0, .bool false, .int .i64 0, .int .i64 0, .int .i64 0]), 8, 64) := by kernel_rfl

theorem row_ints {w : World} {base : Nat} {A : Option Addr} {n c : Nat} {l : List Nat} (h : w.ownsRow base 3 1 (.slice A n c) n (intsV l)) : NatsAt w A l := fun k j hk => by
  obtain ⟨A2, c2, hv, -, -, h3, h4⟩ := own_slice h
  injection hv with e1 e2 e3
  subst e1 e3
  have hlen : l.length = n := by have := h.1; simpa [intsV] using this
  cases A with
  | none => have := h4 rfl; have := (List.getElem?_eq_some_iff.1 hk).1; omega
  | some ad =>
    obtain ⟨g, rfl, _, hg, hc⟩ := h3 ad rfl
    refine ⟨g, 0, rfl, hg, ?_⟩
    rw [Nat.zero_add]
    exact hc k _ (by unfold intsV; rw [List.getElem?_map, hk]; rfl)
theorem own_len {w : World} {base : Nat} {e : TypeId} {A : Option Addr} {n c : Nat} {xs : List Value} {size : Nat} (h : w.ownsRow base e size (.slice A n c) n xs) : n ≤ c ∧ c ≤ maxLen ∧ (A = none → n = 0) := by
  obtain ⟨A2, c2, hv, h1, h2, _, h4⟩ := own_slice h
  injection hv with e1 e2 e3
  subst e1 e3
  exact ⟨h1, h2, h4⟩
theorem own_blk {w : World} {base : Nat} {e : TypeId} {A : Option Addr} {n c : Nat} {xs : List Value} {size : Nat} (h : w.ownsRow base e size (.slice A n c) n xs) : ∀ b o, A = some ⟨b, o, none⟩ → base ≤ b ∧ b < w.heap.size ∧ o = 0 := fun b o e0 => by
  obtain ⟨A2, c2, hv, _, _, h3, _⟩ := own_slice h
  injection hv with e1 e2 e3
  subst e1 e3
  obtain ⟨g, e1, h4, h5, _⟩ := h3 _ e0
  injection e1 with e1 e2
  subst e1 e2
  exact ⟨h4, h5, rfl⟩

theorem src_ints {w : World} {kb : Nat} {l : List Nat} (h : ∀ k x, l[k]? = some x → w.cell? ⟨kb, k, none⟩ = some (.int .i64 (x : Nat))) (hlt : kb < w.heap.size) (p n c : Nat) (hn : p + n ≤ l.length) : SrcOk 1 w ⟨some ⟨kb, p, none⟩, n, c, intsV ((l.drop p).take n)⟩ where
  len := by simp [intsV]; omega
  none := fun e => by cases e
  cells := fun ad e j u hj => by
    injection e with e
    subst e
    have e2 : (⟨kb, p, none⟩ : Addr).add j = ⟨kb, p + j, none⟩ := by unfold Addr.add; split <;> simp_all
    rw [e2]
    unfold intsV at hj
    rw [List.getElem?_map, List.getElem?_take] at hj
    split at hj
    · rw [List.getElem?_drop] at hj
      cases hx : l[p + j]? with
      | none => rw [hx] at hj; cases hj
      | some x => rw [hx] at hj; injection hj with hj; rw [← hj]; exact h _ _ hx
    · cases hj
  one := fun u hu => by
    unfold intsV at hu
    obtain ⟨x, _, rfl⟩ := List.mem_map.1 hu
    rfl
  lt := fun ad e _ => by injection e with e; subst e; exact hlt

/-- the numbers that are visited one after the other, in memory apart from what has been found -/
structure Todo (bf : Nat) (w : World) (v : Value) (A : Option Addr) (l : List Nat) : Prop where
  at_ : NatsAt w A l
  ne : ∀ b o, A = some ⟨b, o, none⟩ → 0 < l.length → b ≠ bf ∧ v.ownBlock ≠ some b
theorem Todo.kept {bf : Nat} {w w' : World} {v v' : Value} {A : Option Addr} {l : List Nat} (h : Todo bf w v A l) (hk : VKeeps bf v w v' w') : Todo bf w' v' A l where
  at_ := fun k j hj => by
    obtain ⟨b, o, e, hlt, hc⟩ := h.at_ k j hj
    obtain ⟨h1, h2⟩ := h.ne b o e (by have := (List.getElem?_eq_some_iff.1 hj).1; omega)
    exact ⟨b, o, e, by have := hk.size; omega, (World.cell?_of_block (a := ⟨b, o + k, none⟩) (hk.block b hlt h1 h2)).trans hc⟩
  ne := fun b o e h0 => by
    obtain ⟨h1, h2⟩ := h.ne b o e h0
    refine ⟨h1, fun e2 => ?_⟩
    obtain ⟨j, hj⟩ : ∃ j, l[0]? = some j := ⟨_, List.getElem?_eq_getElem h0⟩
    obtain ⟨b', o', e', hlt, _⟩ := h.at_ 0 j hj
    rw [e] at e'; injection e' with e'; injection e' with e' _
    rcases hk.row with hr | ⟨g, hr, hg⟩
    · rw [hr] at e2; exact h2 e2
    · rw [hr] at e2; injection e2 with e2; omega

end Go.Proofs.YtcijomljopbelaaGreat

/- leaves, markOf, and the line of a text, by their contracts. -/
namespace Go.Proofs.YtcijomljopbelaaGreat
open Go.RowKit

theorem pow_five : (6 : Nat) ^ 5 = 7776 := by decide
def markV (k s st mn mx : Int) : Value := if k = 6 then .agg #[.int .i64 (-1), .int .i64 0, .int .i64 mn, .int .i64 mx] else .agg #[.int .i64 s, .int .i64 st, .int .i64 0, .int .i64 0]
end Go.Proofs.YtcijomljopbelaaGreat

/- The line of a text (line). -/
namespace Go.Proofs.YtcijomljopbelaaGreat
open Go.RowKit

structure Mk where
  sign : Int
  state : Int
  min : Int
  max : Int
def Mk.cells (m : Mk) : List Value := [.int .i64 m.sign, .int .i64 m.state, .int .i64 m.min, .int .i64 m.max]
def markR (u : Nd) : Mk := if u.kind = 6 then ⟨-1, 0, u.min, u.max⟩ else ⟨u.sign, u.state, 0, 0⟩
def lineP (p : Nat × List Nd) : List Mk := (pickN p.2 (leavesF p.2 5 0)).map markR
def lineR (ns : List Nd) : List Mk := (partsW 0 ns).flatMap lineP
/-- what a text must have for its groups to be read -/
def LinOk (ns : List Nd) : Prop := ∀ p ∈ partsW 0 ns, VisOk p.2
theorem markV_is (u : Nd) : markV u.kind u.sign u.state u.min u.max = .agg #[.int .i64 (markR u).sign, .int .i64 (markR u).state, .int .i64 (markR u).min, .int .i64 (markR u).max] := by
  unfold markV markR; split <;> rfl
theorem mk_one (m : Mk) : ∀ u ∈ m.cells, u.oneCell' = true := fun u hu => by
  simp [Mk.cells] at hu
  rcases hu with rfl | rfl | rfl | rfl <;> rfl
theorem partsW_pos : ∀ (n o : Nat) (l : List Nd), l.length ≤ n → ∀ p ∈ partsW o l, 0 < p.2.length ∧ p.2.length ≤ l.length := by
  intro n
  induction n with
  | zero => intro o l hl p hp; rw [List.eq_nil_of_length_eq_zero (by omega : l.length = 0), partsW_nil] at hp; cases hp
  | succ n ih =>
    intro o l hl p hp
    cases l with
    | nil => rw [partsW_nil] at hp; cases hp
    | cons u r =>
      rw [partsW_cons] at hp
      rcases List.mem_cons.1 hp with rfl | hp
      · constructor
        · rw [List.length_take]; simp; omega
        · rw [List.length_take]; omega
      · have := ih _ _ (by simp at hl ⊢; omega) p hp
        simp only [List.length_drop] at this
        exact ⟨this.1, by omega⟩
theorem own_nodes {w : World} {base : Nat} {A : Option Addr} {n c : Nat} {l : List Nd} (h : w.ownsRow base 87 8 (.slice A n c) n (l.flatMap Nd.cells)) : NdsAt w A l := fun k x hk => by
  obtain ⟨A2, c2, hv, -, -, h3, h4⟩ := own_slice h
  injection hv with e1 e2 e3
  subst e1 e3
  have hlen : l.length = n := by
    have h1 := h.1
    have : (l.flatMap Nd.cells).length = l.length * 8 := flat_len (f := Nd.cells) (fun _ => rfl) _
    omega
  cases A with
  | none => have := h4 rfl; have := (List.getElem?_eq_some_iff.1 hk).1; omega
  | some ad =>
    obtain ⟨g, rfl, _, hg, hc⟩ := h3 ad rfl
    have ha : ∀ i, i < 8 → w.cell? ⟨g, k * 8 + i, none⟩ = (Nd.cells x)[i]? := fun i hi => by
      have hi' : i < (Nd.cells x).length := hi
      rw [hc (k * 8 + i) ((Nd.cells x)[i]) (by rw [flat_at (c := 8) (fun _ => rfl) _ _ _ hk i hi]; exact List.getElem?_eq_getElem hi'), List.getElem?_eq_getElem hi']
    refine ⟨g, 0, rfl, hg, ?_⟩
    rw [Nat.zero_add]
    exact ⟨ha 0 (by omega), ha 1 (by omega), ha 2 (by omega), ha 3 (by omega), ha 4 (by omega), ha 5 (by omega), ha 6 (by omega), ha 7 (by omega)⟩
theorem row_parts {w : World} {base : Nat} {A : Option Addr} {n c : Nat} {l : List Value} (h : w.ownsRow base 25 1 (.slice A n c) n l) : ∀ k v, l[k]? = some v → ∃ g, A = some ⟨g, 0, none⟩ ∧ base ≤ g ∧ g < w.heap.size ∧ w.cell? ⟨g, k, none⟩ = some v := fun k v hk => by
  obtain ⟨A2, c2, hv, -, -, h3, h4⟩ := own_slice h
  injection hv with e1 e2 e3
  subst e1 e3
  have hlen : l.length = n := by have := h.1; omega
  cases A with
  | none => have := h4 rfl; have := (List.getElem?_eq_some_iff.1 hk).1; omega
  | some ad =>
    obtain ⟨g, rfl, hb, hg, hc⟩ := h3 ad rfl
    exact ⟨g, rfl, hb, hg, hc k v hk⟩
/-- an own row, appended to behind new memory -/
theorem keeps_append {bf : Nat} {v v' : Value} {w wq w1 : World} {blk : Obj} (hb : Below w.heap.size w wq) (hg : (wq.alloc blk).grownBy w1 v.ownBlock) (hat : v'.ownBlock = v.ownBlock ∨ v'.ownBlock = some (wq.heap.size + 1)) : VKeeps bf v w v' w1 where
  os := hg.os.trans hb.os
  tape := hg.tape.trans hb.tape
  output := hg.output.trans hb.output
  size := by have := hg.size; have := hb.size; rw [World.size_alloc] at *; omega
  block := fun k hk _ hne => by
    have := hb.size
    rw [hg.block k (by rw [World.size_alloc]; omega) (fun e => hne e.symm), heap_alloc_other _ _ _ (by omega), hb.block k hk]
  row := by
    rcases hat with h | h
    · exact .inl h
    · exact .inr ⟨_, h, by have := hb.size; omega⟩

theorem partsW_sub : ∀ (n o : Nat) (l : List Nd), l.length ≤ n → ∀ p ∈ partsW o l, ∃ q, p.1 = o + q ∧ p.2 = (l.drop q).take p.2.length := by
  intro n
  induction n with
  | zero => intro o l hl p hp; rw [List.eq_nil_of_length_eq_zero (by omega : l.length = 0), partsW_nil] at hp; cases hp
  | succ n ih =>
    intro o l hl p hp
    cases l with
    | nil => rw [partsW_nil] at hp; cases hp
    | cons u r =>
      rw [partsW_cons] at hp
      rcases List.mem_cons.1 hp with rfl | hp
      · refine ⟨0, rfl, ?_⟩
        rw [List.drop_zero, List.length_take, List.take_eq_take_iff]
        omega
      · obtain ⟨q, h1, h2⟩ := ih _ _ (by simp at hl ⊢; omega) p hp
        refine ⟨1 + spanN (u :: r) u.depth 0 + q, by omega, ?_⟩
        rw [List.drop_drop] at h2
        exact h2
theorem partsW_len : ∀ (n o : Nat) (l : List Nd), l.length ≤ n → (partsW o l).length ≤ l.length := by
  intro n
  induction n with
  | zero => intro o l hl; rw [List.eq_nil_of_length_eq_zero (by omega : l.length = 0), partsW_nil]; simp
  | succ n ih =>
    intro o l hl
    cases l with
    | nil => rw [partsW_nil]; simp
    | cons u r =>
      rw [partsW_cons]
      have := ih (o + (1 + spanN (u :: r) u.depth 0)) ((u :: r).drop (1 + spanN (u :: r) u.depth 0)) (by simp at hl ⊢; omega)
      simp only [List.length_cons, List.length_drop] at this ⊢
      omega
theorem lineP_len {p : Nat × List Nd} (h : VisOk p.2) : (lineP p).length ≤ 7776 := by
  unfold lineP pickN
  rw [List.length_map, List.length_map]
  have := leavesF_len h 5 0
  rw [pow_five] at this; exact this

end Go.Proofs.YtcijomljopbelaaGreat
