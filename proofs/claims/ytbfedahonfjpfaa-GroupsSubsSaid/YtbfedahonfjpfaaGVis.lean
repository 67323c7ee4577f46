/-
  The leaves of a group in the order in which they are read (leaves): the closure that visits a node.
-/
import Derived.Test.YtbfedahonfjpfaaGSpl
import Derived.Test.YtbfedahonfjpfaaGConI
import Derived.Deep.AppendLies
import Derived.Deep.RegionLaw
import Derived.Deep.RegionWith
namespace Go.Proofs.Ytbfedahonfjpfaa
open Go.RowKit

def kidsO (ns : List Nd) (i : Nat) (kind : Int) : List Nat := if kind = 7 then (kidsL ns i).drop 1 ++ (kidsL ns i).take 1 else kidsL ns i
/-- the numbers of the leaves of a node, read in order; the depth bounds the recursion -/
def leavesF (ns : List Nd) : Nat → Nat → List Nat
  | 0, _ => []
  | f + 1, i => match ns[i]? with
    | none => []
    | some u => if leafB u.kind then [i] else (kidsO ns i u.kind).flatMap (leavesF ns f)
theorem leavesF_at {ns : List Nd} {i : Nat} {u : Nd} (h : ns[i]? = some u) (f : Nat) : leavesF ns (f + 1) i = if leafB u.kind then [i] else (kidsO ns i u.kind).flatMap (leavesF ns f) := by
  rw [leavesF, h]
def getN (ns : List Nd) (j : Nat) : Nd := ns[j]?.getD ⟨0, 0, 0, 0, false, 0, 0, 0⟩
def pickN (ns : List Nd) (l : List Nat) : List Nd := l.map (getN ns)
theorem getN_at {ns : List Nd} {j : Nat} {u : Nd} (h : ns[j]? = some u) : getN ns j = u := by unfold getN; rw [h]; rfl
/-- what a text must have for its leaves to be read -/
structure VisOk (ns : List Nd) : Prop where
  dep : ∀ u ∈ ns, 0 ≤ u.depth ∧ u.depth ≤ 4
  hon : ∀ (i : Nat) (u : Nd), ns[i]? = some u → u.kind = 7 → 1 ≤ (kidsL ns i).length
  six : ∀ i, (kidsL ns i).length ≤ 6
theorem kids_at {ns : List Nd} {i j : Nat} {u : Nd} (h : ns[i]? = some u) (hj : j ∈ kidsL ns i) : ∃ x, ns[j]? = some x ∧ x.depth = u.depth + 1 := by
  unfold kidsL at hj
  rw [h] at hj
  have := (List.mem_filter.1 hj).2
  unfold kidB at this
  cases hx : ns[j]? with
  | none => rw [hx] at this; cases this
  | some x => rw [hx] at this; exact ⟨x, rfl, by simpa using this⟩
theorem kidsO_mem {ns : List Nd} {i j : Nat} {k : Int} (hj : j ∈ kidsO ns i k) : j ∈ kidsL ns i := by
  unfold kidsO at hj
  split at hj
  · rcases List.mem_append.1 hj with h | h
    · exact List.mem_of_mem_drop h
    · exact List.mem_of_mem_take h
  · exact hj
theorem kidsO_len (ns : List Nd) (i : Nat) (k : Int) : (kidsO ns i k).length = (kidsL ns i).length := by
  unfold kidsO
  split
  · simp; omega
  · rfl
theorem leavesF_len {ns : List Nd} (h : VisOk ns) : ∀ (f i : Nat), (leavesF ns f i).length ≤ 6 ^ f := by
  intro f
  induction f with
  | zero => intro i; simp [leavesF]
  | succ f ih =>
    intro i
    rw [leavesF]
    split
    · simp
    · split
      · simp; exact Nat.one_le_pow _ _ (by omega)
      · rename_i u _ _
        have h6 : (kidsO ns i u.kind).length ≤ 6 := by rw [kidsO_len]; exact h.six i
        have : ∀ l : List Nat, (l.flatMap (leavesF ns f)).length ≤ l.length * 6 ^ f := by
          intro l
          induction l with
          | nil => simp
          | cons x l ihl => rw [List.flatMap_cons, List.length_append, List.length_cons, Nat.succ_mul]; have := ih x; omega
        have h1 := this (kidsO ns i u.kind)
        have h2 : (kidsO ns i u.kind).length * 6 ^ f ≤ 6 * 6 ^ f := Nat.mul_le_mul_right _ h6
        rw [Nat.pow_succ, Nat.mul_comm (6 ^ f) 6]; omega
def Nd.cells (n : Nd) : List Value := [.int .i64 n.kind, .int .i64 n.depth, .int .i64 n.sign, .int .i64 n.turn, .bool n.mirror, .int .i64 n.state, .int .i64 n.min, .int .i64 n.max]
theorem nd_one (n : Nd) : ∀ u ∈ n.cells, u.oneCell' = true := fun u hu => by
  simp [Nd.cells] at hu
  rcases hu with rfl | rfl | rfl | rfl | rfl | rfl | rfl | rfl <;> rfl

/-- ints in memory -/
def NatsAt (w : World) (A : Option Addr) (l : List Nat) : Prop := ∀ k j, l[k]? = some j → ∃ b o, A = some ⟨b, o, none⟩ ∧ b < w.heap.size ∧ w.cell? ⟨b, o + k, none⟩ = some (.int .i64 (j : Nat))

/-- the boxes of the closure, the group and what has been found -/
structure Vis (base bg bf bv : Nat) (A : Option Addr) (cap : Nat) (ns : List Nd) (w : World) (acc : List Nd) (v : Value) : Prop where
  g : Boxed w bg 25 (.slice A ns.length cap)
  f : Boxed w bf 25 v
  fn : Boxed w bv 128 (.func (.func 113) #[] #[.pointer (some ⟨bg, 0, none⟩), .pointer (some ⟨bf, 0, none⟩), .pointer (some ⟨bv, 0, none⟩)])
  nds : NdsIn bf base w A ns
  own : w.ownsRow base 78 8 v acc.length (acc.flatMap Nd.cells)
  sz : base ≤ w.heap.size
structure VKeeps (bf : Nat) (v : Value) (w : World) (v' : Value) (w' : World) : Prop where
  os : w'.os = w.os
  tape : w'.tape = w.tape
  output : w'.output = w.output
  size : w.heap.size ≤ w'.heap.size
  block : ∀ k, k < w.heap.size → k ≠ bf → v.ownBlock ≠ some k → w'.heap[k]? = w.heap[k]?
  row : v'.ownBlock = v.ownBlock ∨ ∃ g, v'.ownBlock = some g ∧ w.heap.size ≤ g
theorem VKeeps.trans {bf : Nat} {v v1 v2 : Value} {w w1 w2 : World} (h : VKeeps bf v w v1 w1) (k : VKeeps bf v1 w1 v2 w2) : VKeeps bf v w v2 w2 where
  os := k.os.trans h.os
  tape := k.tape.trans h.tape
  output := k.output.trans h.output
  size := Nat.le_trans h.size k.size
  block := fun j hj h1 h2 => by
    have hs := h.size
    rw [k.block j (by omega) h1 (fun e => ?_), h.block j hj h1 h2]
    rcases h.row with hr | ⟨g, hr, hg⟩
    · rw [hr] at e; exact h2 e
    · rw [hr] at e; injection e with e; omega
  row := by
    have hs := h.size
    rcases k.row with hr | ⟨g, hr, hg⟩
    · rw [hr]; exact h.row
    · exact .inr ⟨g, hr, by omega⟩
theorem VKeeps.of_below {bf : Nat} (v : Value) {w w' : World} (hb : Below w.heap.size w w') : VKeeps bf v w v w' :=
  ⟨hb.os, hb.tape, hb.output, hb.size, fun k hk _ _ => hb.block k hk, .inl rfl⟩
theorem Vis.below {base bg bf bv cap : Nat} {A : Option Addr} {ns acc : List Nd} {w w' : World} {v : Value} (h : Vis base bg bf bv A cap ns w acc v) (hb : Below w.heap.size w w') : Vis base bg bf bv A cap ns w' acc v where
  g := (hb.block _ h.g.lt).trans h.g
  f := (hb.block _ h.f.lt).trans h.f
  fn := (hb.block _ h.fn.lt).trans h.fn
  nds := h.nds.kept (KpB.of_below (hb.mono h.sz))
  own := ownsRow_of_block h.own (fun g hg => hb.block g (h.own.lt g hg).2)
  sz := Nat.le_trans h.sz hb.size
theorem Vis.append {base bg bf bv cap : Nat} {A : Option Addr} {ns acc : List Nd} {w w1 : World} {v v' : Value} {u : Nd} {blk : Obj} (h : Vis base bg bf bv A cap ns w acc v) (hbg : bg < base) (hbf : bf < base) (hbv : bv < base) (hgf : bg ≠ bf) (hvf : bv ≠ bf)
    (hown : w1.ownsRow base 78 8 v' (acc.length + 1) (acc.flatMap Nd.cells ++ u.cells)) (hg : (w.alloc blk).grownBy w1 v.ownBlock) (hat : v'.ownBlock = v.ownBlock ∨ v'.ownBlock = some (w.heap.size + 1)) :
    Boxed w1 bf 25 v ∧ Vis base bg bf bv A cap ns (w1.setCell ⟨bf, 0, none⟩ v') (acc ++ [u]) v' ∧ VKeeps bf v w v' (w1.setCell ⟨bf, 0, none⟩ v') := by
  have hsz := h.sz
  have hs1 : w.heap.size + 1 ≤ w1.heap.size := by have := hg.size; rw [World.size_alloc] at this; exact this
  have hown0 : ∀ g, v.ownBlock = some g → base ≤ g := fun g e => (h.own.lt g e).1
  have hown1 : ∀ g, v'.ownBlock = some g → base ≤ g := fun g e => (hown.lt g e).1
  have hblk : ∀ k, k < w.heap.size → v.ownBlock ≠ some k → w1.heap[k]? = w.heap[k]? := fun k hk hne => by
    rw [hg.block k (by rw [World.size_alloc]; omega) (fun e => hne e.symm), heap_alloc_other _ _ _ hk]
  have hblk2 : ∀ k, k ≠ bf → (w1.setCell ⟨bf, 0, none⟩ v').heap[k]? = w1.heap[k]? := fun k hk => heap_setCell_other _ _ _ _ hk
  have hk : KpB bf base w (w1.setCell ⟨bf, 0, none⟩ v') := ⟨by have := ((Below.refl 0 w1).setCell (p := ⟨bf, 0, none⟩) (Nat.zero_le _) v').size; omega, fun k h1 h2 => by
    rw [hblk2 k h2, hblk k (by omega) (fun e => by have := hown0 k e; omega)]⟩
  have hf1 : Boxed w1 bf 25 v := (hblk bf (by omega) (fun e => by have := hown0 bf e; omega)).trans h.f
  refine ⟨hf1, ⟨Boxed.keptK h.g hk hbg hgf, hf1.set v', Boxed.keptK h.fn hk hbv hvf, h.nds.kept hk, ?_, by have := hk.size; omega⟩, ⟨hg.os, hg.tape, hg.output, hk.size, fun k h1 h2 h3 => by rw [hblk2 k h2, hblk k h1 h3], ?_⟩⟩
  · have e : (acc ++ [u]).length = acc.length + 1 := by simp
    rw [e, List.flatMap_append]
    have := ownsRow_of_block hown (fun g e2 => hblk2 g (fun e3 => by have := hown1 g e2; omega))
    simpa using this
  · rcases hat with hat | hat
    · exact .inl hat
    · exact .inr ⟨_, hat, by omega⟩

end Go.Proofs.Ytbfedahonfjpfaa
