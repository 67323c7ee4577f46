/-
  Words for worlds in which nothing that was there has changed, and a region that draws its order walked once over all of them.
-/
import Derived.Test.YtbfedahonfjpfaaText
namespace Go.Proofs.Ytbfedahonfjpfaa
open Go.RowKit

/-- A world behind W: what lay in W lies in it as it was. -/
structure Later (W : World) where
  w : World
  below : Below W.heap.size W w

theorem Later.cell_ {W : World} (s : Later W) {b o : Nat} (h : b < W.heap.size) : s.w.cell? ⟨b, o, none⟩ = W.cell? ⟨b, o, none⟩ := s.below.cell (p := ⟨b, o, none⟩) h
theorem Later.frozen_ {W : World} (s : Later W) {b o : Nat} (h : b < W.heap.size) : s.w.frozen? ⟨b, o, none⟩ = W.frozen? ⟨b, o, none⟩ := s.below.frozen (p := ⟨b, o, none⟩) h
attribute [go_sem] Later.cell_ Later.frozen_

theorem Later.size_ {W : World} (s : Later W) : W.heap.size ≤ s.w.heap.size := s.below.size

instance {W : World} : Nonempty (Later W) := ⟨⟨W, Below.refl _ _⟩⟩

/-- A region that draws its order, whose operations only read and whose callees make memory alone: one walk in the order of the text. -/
theorem wp_region_later {P : Program} {id : Nat} {Q : Exit → Act → World → Prop} {a : Act} {W : World} {l : List Oper} (hm : P.follows .mixedOrders = true) (hB : Region.lexB .any l.toArray = true)
    (h : wpQuiet P l.toArray (fun w' => ∃ s : Later W, w' = s.w) (fun a' => ∀ w', (∃ s : Later W, w' = s.w) → Q .normal a' w') l a) : (Code.region id l.toArray true).wp P Q a W :=
  wp_region_quiet (C := fun w' => ∃ s : Later W, w' = s.w) hm hB ⟨⟨_, (Below.refl _ _).drew⟩, rfl⟩ (by simpa using h)

/-- A callee's contract in such a region. -/
theorem Calls.later {P : Program} {f : FuncId} {args : Array Value} {W : World} (s : Later W) {v : Value} (h : Calls P f args s.w fun e w' => e = .returned v ∧ Below s.w.heap.size s.w w') :
    Calls P f args s.w fun e w' => e = .returned v ∧ ∃ s' : Later W, w' = s'.w :=
  h.mono fun _ w' ⟨he, hb⟩ => ⟨he, ⟨w', s.below.trans (hb.mono s.below.size)⟩, rfl⟩
theorem Calls.later_same {P : Program} {f : FuncId} {args : Array Value} {W : World} (s : Later W) {v : Value} (h : Calls P f args s.w fun e w' => e = .returned v ∧ s.w = w') :
    Calls P f args s.w fun e w' => e = .returned v ∧ ∃ s' : Later W, w' = s'.w :=
  h.mono fun _ _ ⟨he, hb⟩ => ⟨he, s, hb.symm⟩

/-- old cells behind a contract, as the walk reads them -/
theorem bcell {W w1 : World} (hb : Below W.heap.size W w1) : (∀ b o, b < W.heap.size → w1.cell? ⟨b, o, none⟩ = W.cell? ⟨b, o, none⟩) ∧ (∀ b o, b < W.heap.size → w1.frozen? ⟨b, o, none⟩ = W.frozen? ⟨b, o, none⟩) :=
  ⟨fun b o h => hb.cell (p := ⟨b, o, none⟩) h, fun b o h => hb.frozen (p := ⟨b, o, none⟩) h⟩

/-- the Go value of a value -/
def Va.val (v : Va) : Value := .agg #[.int .i64 v.kind, .string v.text, .int .i64 v.fr, .int .i64 v.to]

theorem meaning_any (k : Int) (t : ByteArray) (f to : Int) (w : World) :
    Calls Try.prog 121 #[.agg #[.int .i64 k, .string t, .int .i64 f, .int .i64 to]] w fun e w' => e = .returned (.agg #[.int .i64 k, .string t]) ∧ Below w.heap.size w w' := by
  go_enter Try.func121, Try.ntmps121
  go_wp2
  exact bodyPost_ret (v := .agg #[.int .i64 k, .string t]) (by simp [results, Try.results121, go_sem]) rfl ⟨rfl, (((Below.refl _ _).alloc (Nat.le_refl _) _).alloc (by simp) _)⟩

end Go.Proofs.Ytbfedahonfjpfaa
