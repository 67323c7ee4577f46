/-
  The set of codes that Check keeps: a map of booleans that the call makes.
-/
import Derived.Test.YtbfedahonfjpfaaRchk
import Derived.Maps.Own
import Derived.Maps.OwnOps
import Derived.Maps.OwnSet
import Derived.Maps.Views
import Derived.StringKeys
namespace Go.Proofs.Ytbfedahonfjpfaa
open Go.RowKit Go.Maps Go.WideMaps

theorem strEq_iff (a b : ByteArray) : strEq a b = (a.data.toList == b.data.toList) := by simp [strEq, ByteArray.toList_eq]

theorem zeroBool (w : World) : (zeroValue 4).run Try.prog w = .ok (.bool false) w := by kernel_rfl
theorem keyedS : Keyed Try.prog 9 := string_keyed Try.underlying9
theorem mkSeen (n : Int) (w : World) : (Instr.makeMap 104 (some (.int .i64 n))).run Try.prog w = .ok (.map (some w.heap.size)) (w.alloc (.map #[] 0)) := by
  simp [Instr.makeMap, run_underlying Try.underlying104, go_sem]

theorem plain_bool_inv {P : Program} {e : TypeId} (he : P.underlying e = some .bool) {v : Value} {z : DataW Unit × List MemPlace} (h : plainElem P e v = some z) : ∃ r, v = .bool r ∧ z = (.lit (.bool r), []) := by
  unfold plainElem at h
  rw [he] at h
  cases v <;> simp at h
  exact ⟨_, rfl, h.symm⟩

/-- block b holds the codes of ss -/
def SeenAt (w : World) (b k : Nat) (ss : List Sg) : Prop :=
  ∃ D : DataW Unit, w.ownsMap Try.prog 9 (plainElem Try.prog 4) b k D ∧ ∀ c : ByteArray, D.atKey (.string c.data.toList) (.lit (.bool false)) = .lit (.bool (ss.any fun s => strEq s.code c))

theorem SeenAt.new (w : World) : SeenAt (w.alloc (.map #[] 0)) w.heap.size 0 [] :=
  ⟨_, World.ownsMap_made w _ _ _, fun c => by simp [DataW.atKey]⟩
theorem SeenAt.alloc {w : World} {b k : Nat} {ss : List Sg} (h : SeenAt w b k ss) (o : Obj) : SeenAt (w.alloc o) b k ss := by
  obtain ⟨D, h1, h2⟩ := h
  exact ⟨D, h1.alloc o, h2⟩
theorem SeenAt.below {w w' : World} {b k : Nat} {ss : List Sg} (h : SeenAt w b k ss) (hb : Below w.heap.size w w') : SeenAt w' b k ss := by
  obtain ⟨D, ⟨es, clock, h0, h1⟩, h2⟩ := h
  have hlt : b < w.heap.size := (Array.getElem?_eq_some_iff.1 h0).1
  exact ⟨D, ⟨es, clock, (hb.block b hlt).trans h0, h1⟩, h2⟩
theorem SeenAt.look {w : World} {b k : Nat} {ss : List Sg} (h : SeenAt w b k ss) {c : ByteArray} (hc : c.size ≤ maxLen) :
    (Instr.lookup 104 (.map (some b)) (.string c) false).run Try.prog w = .ok (.bool (ss.any fun s => strEq s.code c)) w := by
  obtain ⟨D, h1, h2⟩ := h
  obtain ⟨v, ps, hrun, hv⟩ := h1.lookup keyedS Try.underlying104 (zeroBool w) (plainElem_bool Try.underlying4 false) (keyOf_string_mk Try.underlying9 hc)
  rw [h2] at hv
  obtain ⟨r, rfl, hz⟩ := plain_bool_inv Try.underlying4 hv
  simp only [Prod.mk.injEq, DataW.lit.injEq, Lit.bool.injEq] at hz
  rw [hrun, hz.1]
theorem SeenAt.put {w : World} {b k : Nat} {ss : List Sg} (h : SeenAt w b k ss) {s : Sg} (hc : s.code.size ≤ maxLen) (hk : k < maxLen) :
    ∃ w', (Instr.mapUpdate 104 (.map (some b)) (.string s.code) (.bool true)).run Try.prog w = .ok () w' ∧ SeenAt w' b (k + 1) (ss ++ [s]) ∧ w.grownBy w' (some b) := by
  obtain ⟨D, h1, h2⟩ := h
  obtain ⟨w', hrun, hown, hg⟩ := h1.update keyedS Try.underlying104 hk (keyOf_string_mk Try.underlying9 hc) (plainElem_bool Try.underlying4 true)
  refine ⟨w', hrun, ⟨_, hown, fun c => ?_⟩, hg⟩
  by_cases hcs : c.data.toList = s.code.data.toList
  · rw [hcs, atKey_put_same h1.isMap (keyedS.key (keyOf_string_mk Try.underlying9 hc))]
    simp [strEq_iff, hcs]
  · rw [atKey_put_other (by intro e; injection e with e; exact hcs e), h2]
    have : strEq s.code c = false := by rw [strEq_iff]; simpa using fun e => hcs (by rw [e])
    simp [this]

end Go.Proofs.Ytbfedahonfjpfaa
