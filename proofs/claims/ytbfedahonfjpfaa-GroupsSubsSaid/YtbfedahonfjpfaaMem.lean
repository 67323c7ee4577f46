/-
  Values, signs and lists as they lie in memory.
-/
import Derived.Test.YtbfedahonfjpfaaCol
namespace Go.Proofs.Ytbfedahonfjpfaa
open Go.RowKit

/-- a value lies at an address -/
structure VaAt (w : World) (b p : Nat) (v : Va) : Prop where
  c0 : w.cell? ⟨b, p, none⟩ = some (.int .i64 v.kind)
  c1 : w.cell? ⟨b, p + 1, none⟩ = some (.string v.text)
  c2 : w.cell? ⟨b, p + 2, none⟩ = some (.int .i64 v.fr)
  c3 : w.cell? ⟨b, p + 3, none⟩ = some (.int .i64 v.to)
  sz : v.text.size ≤ maxLen
/-- a slice of values -/
def ValsAt (w : World) (A : Option Addr) (vs : List Va) : Prop := ∀ k v, vs[k]? = some v → ∃ b o, A = some ⟨b, o, none⟩ ∧ b < w.heap.size ∧ VaAt w b (o + k * 4) v

/-- a sign with the place of its values -/
structure Sm where
  s : Sg
  A : Option Addr
  cap : Nat
def Sm.val (m : Sm) : Value := .agg #[.string m.s.code, .int .i64 m.s.wide, .int .i64 m.s.high, .bool m.s.even, .slice m.A m.s.vals.length m.cap]
structure SmOk (w : World) (m : Sm) : Prop where
  vals : ValsAt w m.A m.s.vals
  len : m.s.vals.length ≤ m.cap
  cap : m.cap ≤ maxLen
  code : m.s.code.size ≤ maxLen
structure SmAt (w : World) (b p : Nat) (m : Sm) : Prop where
  c0 : w.cell? ⟨b, p, none⟩ = some (.string m.s.code)
  c1 : w.cell? ⟨b, p + 1, none⟩ = some (.int .i64 m.s.wide)
  c2 : w.cell? ⟨b, p + 2, none⟩ = some (.int .i64 m.s.high)
  c3 : w.cell? ⟨b, p + 3, none⟩ = some (.bool m.s.even)
  c4 : w.cell? ⟨b, p + 4, none⟩ = some (.slice m.A m.s.vals.length m.cap)
/-- a slice of signs -/
def SignsAt (w : World) (A : Option Addr) (ms : List Sm) : Prop := ∀ k m, ms[k]? = some m → ∃ b o, A = some ⟨b, o, none⟩ ∧ b < w.heap.size ∧ SmAt w b (o + k * 5) m ∧ SmOk w m
/-- a list with the place of its signs -/
structure Lm where
  per : Int
  ms : List Sm
  A : Option Addr
  cap : Nat
def Lm.val (l : Lm) : Value := .agg #[.int .i64 l.per, .slice l.A l.ms.length l.cap]
def Lm.signs (l : Lm) : List Sg := l.ms.map (·.s)
def Lm.li (l : Lm) : Li := ⟨l.per, l.signs⟩
structure LmOk (w : World) (l : Lm) : Prop where
  signs : SignsAt w l.A l.ms
  len : l.ms.length ≤ l.cap
  cap : l.cap ≤ maxLen

section
variable {w w' : World} {B : Nat}
theorem VaAt.below {b p : Nat} {v : Va} (h : VaAt w b p v) (hb : Below w.heap.size w w') (hlt : b < w.heap.size) : VaAt w' b p v :=
  ⟨(hb.cell (p := ⟨b, _, none⟩) hlt).trans h.c0, (hb.cell (p := ⟨b, _, none⟩) hlt).trans h.c1, (hb.cell (p := ⟨b, _, none⟩) hlt).trans h.c2, (hb.cell (p := ⟨b, _, none⟩) hlt).trans h.c3, h.sz⟩
theorem SmAt.below {b p : Nat} {m : Sm} (h : SmAt w b p m) (hb : Below w.heap.size w w') (hlt : b < w.heap.size) : SmAt w' b p m :=
  ⟨(hb.cell (p := ⟨b, _, none⟩) hlt).trans h.c0, (hb.cell (p := ⟨b, _, none⟩) hlt).trans h.c1, (hb.cell (p := ⟨b, _, none⟩) hlt).trans h.c2, (hb.cell (p := ⟨b, _, none⟩) hlt).trans h.c3, (hb.cell (p := ⟨b, _, none⟩) hlt).trans h.c4⟩
theorem ValsAt.below {A : Option Addr} {vs : List Va} (h : ValsAt w A vs) (hb : Below w.heap.size w w') : ValsAt w' A vs := fun k v hk => by
  obtain ⟨b, o, e, hlt, hv⟩ := h k v hk
  exact ⟨b, o, e, Nat.lt_of_lt_of_le hlt hb.size, hv.below hb hlt⟩
theorem ValsAt.take {A : Option Addr} {vs : List Va} (h : ValsAt w A vs) (n : Nat) : ValsAt w A (vs.take n) := fun k v hk => h k v (by rw [List.getElem?_take] at hk; split at hk <;> simp_all)
theorem ValsAt.nil (A : Option Addr) : ValsAt w A [] := fun k v hk => by simp at hk
theorem SmOk.below {m : Sm} (h : SmOk w m) (hb : Below w.heap.size w w') : SmOk w' m := ⟨h.vals.below hb, h.len, h.cap, h.code⟩
theorem SignsAt.below {A : Option Addr} {ms : List Sm} (h : SignsAt w A ms) (hb : Below w.heap.size w w') : SignsAt w' A ms := fun k m hk => by
  obtain ⟨b, o, e, hlt, hv, ho⟩ := h k m hk
  exact ⟨b, o, e, Nat.lt_of_lt_of_le hlt hb.size, hv.below hb hlt, ho.below hb⟩
theorem LmOk.below {l : Lm} (h : LmOk w l) (hb : Below w.heap.size w w') : LmOk w' l := ⟨h.signs.below hb, h.len, h.cap⟩
end

theorem Lm.getElem_signs {l : Lm} {k : Nat} {m : Sm} (h : l.ms[k]? = some m) : l.signs[k]? = some m.s := by unfold Lm.signs; rw [List.getElem?_map, h]; rfl
theorem Lm.length_signs (l : Lm) : l.signs.length = l.ms.length := by simp [Lm.signs]

theorem of_int {a b : Int} (h : a = b) : Ending.returned (.int .i64 a) = .returned (.int .i64 b) := by rw [h]
/-- one more block -/
theorem below_alloc (w : World) (o : Obj) : Below w.heap.size w (w.alloc o) := (Below.refl _ _).alloc (Nat.le_refl _) _
theorem below_more {w w1 w2 : World} (h : Below w.heap.size w w1) (h2 : Below w1.heap.size w1 w2) : Below w.heap.size w w2 := h.trans (h2.mono h.size)
theorem below_of {w w1 : World} {o : Obj} (h : Below (w.alloc o).heap.size (w.alloc o) w1) : Below w.heap.size w w1 := below_more (below_alloc w o) h
theorem VaAt.at0 {w : World} {b : Nat} {v : Va} (h : VaAt w b 0 v) : w.cell? ⟨b, 0, none⟩ = some (.int .i64 v.kind) ∧ w.cell? ⟨b, 1, none⟩ = some (.string v.text) ∧ w.cell? ⟨b, 2, none⟩ = some (.int .i64 v.fr) ∧ w.cell? ⟨b, 3, none⟩ = some (.int .i64 v.to) := ⟨h.c0, h.c1, h.c2, h.c3⟩
theorem SmAt.at0 {w : World} {b : Nat} {m : Sm} (h : SmAt w b 0 m) : w.cell? ⟨b, 0, none⟩ = some (.string m.s.code) ∧ w.cell? ⟨b, 1, none⟩ = some (.int .i64 m.s.wide) ∧ w.cell? ⟨b, 2, none⟩ = some (.int .i64 m.s.high) ∧ w.cell? ⟨b, 3, none⟩ = some (.bool m.s.even) ∧ w.cell? ⟨b, 4, none⟩ = some (.slice m.A m.s.vals.length m.cap) := ⟨h.c0, h.c1, h.c2, h.c3, h.c4⟩
theorem VaAt.box (w : World) (v : Va) (hs : v.text.size ≤ maxLen) (T : TypeId) : VaAt (w.alloc (.cells #[.int .i64 v.kind, .string v.text, .int .i64 v.fr, .int .i64 v.to] T)) w.heap.size 0 v :=
  ⟨by simp [go_sem], by simp [go_sem], by simp [go_sem], by simp [go_sem], hs⟩
theorem SmAt.box (w : World) (m : Sm) (T : TypeId) : SmAt (w.alloc (.cells #[.string m.s.code, .int .i64 m.s.wide, .int .i64 m.s.high, .bool m.s.even, .slice m.A m.s.vals.length m.cap] T)) w.heap.size 0 m :=
  ⟨by simp [go_sem], by simp [go_sem], by simp [go_sem], by simp [go_sem], by simp [go_sem]⟩
end Go.Proofs.Ytbfedahonfjpfaa
