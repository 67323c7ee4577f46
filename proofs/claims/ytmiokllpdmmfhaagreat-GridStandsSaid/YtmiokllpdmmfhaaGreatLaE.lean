/-
  The leaves of a group in the order in which they are read (leaves): the closure that visits a node. And what builds on it.
-/
import Derived.Test.YtmiokllpdmmfhaaGreatLaD
import Derived.Test.YtmiokllpdmmfhaaGreatShelfg
import Derived.Shelf.Spec.SlicesGrow
import Derived.Deep.AppendLies
import Derived.Deep.RegionLaw
import Derived.Deep.RegionWith
import Derived.Deep.DeepCutAuto
import Derived.Laws.EntriesVeiled
namespace Go.Proofs.YtmiokllpdmmfhaaGreat
open Go.RowKit
def kidsO (ns : List Nd) (i : Nat) (kind : Int) : List Nat := if kind = 7 then (kidsL ns i).drop 1 ++ (kidsL ns i).take 1 else kidsL ns i
def leavesF (ns : List Nd) : Nat → Nat → List Nat
  | 0, _ => []
  | f + 1, i => match ns[i]? with
    | none => []
    | some u => if leafB u.kind then [i] else (kidsO ns i u.kind).flatMap (leavesF ns f)
def getN (ns : List Nd) (j : Nat) : Nd := ns[j]?.getD ⟨0, 0, 0, 0, false, 0, 0, 0⟩
def pickN (ns : List Nd) (l : List Nat) : List Nd := l.map (getN ns)
theorem getN_at {ns : List Nd} {j : Nat} {u : Nd} (h : ns[j]? = some u) : getN ns j = u := by unfold getN; rw [h]; rfl
structure VisOk (ns : List Nd) : Prop where
  dep : ∀ u ∈ ns, 0 ≤ u.depth ∧ u.depth ≤ 4
  hon : ∀ (i : Nat) (u : Nd), ns[i]? = some u → u.kind = 7 → 1 ≤ (kidsL ns i).length
  six : ∀ i, (kidsL ns i).length ≤ 6
theorem kids_at {ns : List Nd} {i j : Nat} {u : Nd} (h : ns[i]? = some u) (hj : j ∈ kidsL ns i) : ∃ x, ns[j]? = some x ∧ x.depth = u.depth + 1 := by
  unfold kidsL at hj
  rw [h] at hj
  have := (List.mem_filter.1 hj).2
  unfold kidB at this
  cases hx : ns[j]? with
  | none => rw [hx] at this; cases this
  | some x => rw [hx] at this; exact ⟨x, rfl, by simpa using this⟩
def Nd.cells (n : Nd) : List Value := [.int .i64 n.kind, .int .i64 n.depth, .int .i64 n.sign, .int .i64 n.turn, .bool n.mirror, .int .i64 n.state, .int .i64 n.min, .int .i64 n.max]
theorem nd_one (n : Nd) : ∀ u ∈ n.cells, u.oneCell' = true := fun u hu => by
  simp [Nd.cells] at hu
  rcases hu with rfl | rfl | rfl | rfl | rfl | rfl | rfl | rfl <;> rfl
def NatsAt (w : World) (A : Option Addr) (l : List Nat) : Prop := ∀ k j, l[k]? = some j → ∃ b o, A = some ⟨b, o, none⟩ ∧ b < w.heap.size ∧ w.cell? ⟨b, o + k, none⟩ = some (.int .i64 (j : Nat))
structure VKeeps (bf : Nat) (v : Value) (w : World) (v' : Value) (w' : World) : Prop where
  os : w'.os = w.os
  tape : w'.tape = w.tape
  output : w'.output = w.output
  size : w.heap.size ≤ w'.heap.size
  block : ∀ k, k < w.heap.size → k ≠ bf → v.ownBlock ≠ some k → w'.heap[k]? = w.heap[k]?
  row : v'.ownBlock = v.ownBlock ∨ ∃ g, v'.ownBlock = some g ∧ w.heap.size ≤ g
theorem VKeeps.trans {bf : Nat} {v v1 v2 : Value} {w w1 w2 : World} (h : VKeeps bf v w v1 w1) (k : VKeeps bf v1 w1 v2 w2) : VKeeps bf v w v2 w2 where
  os := k.os.trans h.os
  tape := k.tape.trans h.tape
  output := k.output.trans h.output
  size := Nat.le_trans h.size k.size
  block := fun j hj h1 h2 => by
    have hs := h.size
    rw [k.block j (by omega) h1 (fun e => ?_), h.block j hj h1 h2]
    rcases h.row with hr | ⟨g, hr, hg⟩
    · rw [hr] at e; exact h2 e
    · rw [hr] at e; injection e with e; omega
  row := by
    have hs := h.size
    rcases k.row with hr | ⟨g, hr, hg⟩
    · rw [hr]; exact h.row
    · exact .inr ⟨g, hr, by omega⟩
open Go.RowKit
theorem infoNd : (Tryz.prog.info? 87).map (fun i => (i.zero, i.size, i.bytes)) = some (some (.agg #[.int .i64 0, .int .i64 0, .int .i64 0, .int .i64 0, .bool false, .int .i64 0, .int .i64 0, .int .i64 0]), 8, 64) := by kernel_rfl
theorem row_ints {w : World} {base : Nat} {A : Option Addr} {n c : Nat} {l : List Nat} (h : w.ownsRow base 3 1 (.slice A n c) n (intsV l)) : NatsAt w A l := fun k j hk => by
  obtain ⟨A2, c2, hv, -, -, h3, h4⟩ := own_slice h
  injection hv with e1 e2 e3
  subst e1 e3
  have hlen : l.length = n := by have := h.1; simpa [intsV] using this
  cases A with
  | none => have := h4 rfl; have := (List.getElem?_eq_some_iff.1 hk).1; omega
  | some ad =>
    obtain ⟨g, rfl, _, hg, hc⟩ := h3 ad rfl
    refine ⟨g, 0, rfl, hg, ?_⟩
    rw [Nat.zero_add]
    exact hc k _ (by unfold intsV; rw [List.getElem?_map, hk]; rfl)
theorem own_len {w : World} {base : Nat} {e : TypeId} {A : Option Addr} {n c : Nat} {xs : List Value} {size : Nat} (h : w.ownsRow base e size (.slice A n c) n xs) : n ≤ c ∧ c ≤ maxLen ∧ (A = none → n = 0) := by
  obtain ⟨A2, c2, hv, h1, h2, _, h4⟩ := own_slice h
  injection hv with e1 e2 e3
  subst e1 e3
  exact ⟨h1, h2, h4⟩
open Go.RowKit
structure Mk where
  sign : Int
  state : Int
  min : Int
  max : Int
def Mk.cells (m : Mk) : List Value := [.int .i64 m.sign, .int .i64 m.state, .int .i64 m.min, .int .i64 m.max]
def LinOk (ns : List Nd) : Prop := ∀ p ∈ partsW 0 ns, VisOk p.2
theorem partsW_pos : ∀ (n o : Nat) (l : List Nd), l.length ≤ n → ∀ p ∈ partsW o l, 0 < p.2.length ∧ p.2.length ≤ l.length := by
  intro n
  induction n with
  | zero => intro o l hl p hp; rw [List.eq_nil_of_length_eq_zero (by omega : l.length = 0), partsW_nil] at hp; cases hp
  | succ n ih =>
    intro o l hl p hp
    cases l with
    | nil => rw [partsW_nil] at hp; cases hp
    | cons u r =>
      rw [partsW_cons] at hp
      rcases List.mem_cons.1 hp with rfl | hp
      · constructor
        · rw [List.length_take]; simp; omega
        · rw [List.length_take]; omega
      · have := ih _ _ (by simp at hl ⊢; omega) p hp
        simp only [List.length_drop] at this
        exact ⟨this.1, by omega⟩
theorem own_nodes {w : World} {base : Nat} {A : Option Addr} {n c : Nat} {l : List Nd} (h : w.ownsRow base 87 8 (.slice A n c) n (l.flatMap Nd.cells)) : NdsAt w A l := fun k x hk => by
  obtain ⟨A2, c2, hv, -, -, h3, h4⟩ := own_slice h
  injection hv with e1 e2 e3
  subst e1 e3
  have hlen : l.length = n := by
    have h1 := h.1
    have : (l.flatMap Nd.cells).length = l.length * 8 := flat_len (f := Nd.cells) (fun _ => rfl) _
    omega
  cases A with
  | none => have := h4 rfl; have := (List.getElem?_eq_some_iff.1 hk).1; omega
  | some ad =>
    obtain ⟨g, rfl, _, hg, hc⟩ := h3 ad rfl
    have ha : ∀ i, i < 8 → w.cell? ⟨g, k * 8 + i, none⟩ = (Nd.cells x)[i]? := fun i hi => by
      have hi' : i < (Nd.cells x).length := hi
      rw [hc (k * 8 + i) ((Nd.cells x)[i]) (by rw [flat_at (c := 8) (fun _ => rfl) _ _ _ hk i hi]; exact List.getElem?_eq_getElem hi'), List.getElem?_eq_getElem hi']
    refine ⟨g, 0, rfl, hg, ?_⟩
    rw [Nat.zero_add]
    exact ⟨ha 0 (by omega), ha 1 (by omega), ha 2 (by omega), ha 3 (by omega), ha 4 (by omega), ha 5 (by omega), ha 6 (by omega), ha 7 (by omega)⟩
theorem row_parts {w : World} {base : Nat} {A : Option Addr} {n c : Nat} {l : List Value} (h : w.ownsRow base 25 1 (.slice A n c) n l) : ∀ k v, l[k]? = some v → ∃ g, A = some ⟨g, 0, none⟩ ∧ base ≤ g ∧ g < w.heap.size ∧ w.cell? ⟨g, k, none⟩ = some v := fun k v hk => by
  obtain ⟨A2, c2, hv, -, -, h3, h4⟩ := own_slice h
  injection hv with e1 e2 e3
  subst e1 e3
  have hlen : l.length = n := by have := h.1; omega
  cases A with
  | none => have := h4 rfl; have := (List.getElem?_eq_some_iff.1 hk).1; omega
  | some ad =>
    obtain ⟨g, rfl, hb, hg, hc⟩ := h3 ad rfl
    exact ⟨g, rfl, hb, hg, hc k v hk⟩
theorem partsW_len : ∀ (n o : Nat) (l : List Nd), l.length ≤ n → (partsW o l).length ≤ l.length := by
  intro n
  induction n with
  | zero => intro o l hl; rw [List.eq_nil_of_length_eq_zero (by omega : l.length = 0), partsW_nil]; simp
  | succ n ih =>
    intro o l hl
    cases l with
    | nil => rw [partsW_nil]; simp
    | cons u r =>
      rw [partsW_cons]
      have := ih (o + (1 + spanN (u :: r) u.depth 0)) ((u :: r).drop (1 + spanN (u :: r) u.depth 0)) (by simp at hl ⊢; omega)
      simp only [List.length_cons, List.length_drop] at this ⊢
      omega
end Go.Proofs.YtmiokllpdmmfhaaGreat
