/-
  What holds in parseSign: fields, and the values that have been read.
-/
import Derived.Test.YtleihhkacmgofaaGreatDoorPone
namespace Go.Proofs.YtleihhkacmgofaaGreatDoor
open Go.RowKit

theorem extract_size (s : ByteArray) (a b : Nat) : (s.extract a b).size ≤ s.size := by simp; omega
theorem splitB_size (sep : ByteArray) (save : Nat) : ∀ (k : Nat) (s x : ByteArray), x ∈ Lib.splitB sep save k s → x.size ≤ s.size := by
  intro k
  induction k with
  | zero => intro s x h; rw [Lib.splitB_zero] at h; simp at h; subst h; exact Nat.le_refl _
  | succ k ih =>
    intro s x h
    unfold Lib.splitB at h
    split at h
    · simp at h; subst h; exact Nat.le_refl _
    · rcases List.mem_cons.1 h with h | h
      · subst h; exact extract_size _ _ _
      · exact Nat.le_trans (ih _ _ h) (extract_size _ _ _)
theorem value_text (s : ByteArray) : (valueP s).1.text.size ≤ s.size := by
  unfold valueP
  dsimp only
  split
  · exact Nat.le_trans (cutB_size _ _).1 (cutB_size _ _).2
  · exact Nat.zero_le _

theorem restP_cons (e : ByteArray) (r : List ByteArray) : restP (e :: r) = if strEq e ⟨#[61]⟩ then (true, r) else (false, e :: r) := rfl
theorem restP_fst (e : ByteArray) (r : List ByteArray) : (restP (e :: r)).1 = strEq e ⟨#[61]⟩ := by rw [restP_cons]; split <;> simp_all
theorem restP_no (r : List ByteArray) (h : false = (restP r).1) : (restP r).2 = r := by
  cases r with
  | nil => rfl
  | cons e r' => rw [restP_cons] at h ⊢; split <;> simp_all
theorem restP_yes (e : ByteArray) (r : List ByteArray) (h : true = (restP (e :: r)).1) : (restP (e :: r)).2 = r := by
  rw [restP_cons] at h ⊢; split <;> simp_all
theorem restP_nil (h : true = (restP []).1) : False := by simp [restP] at h

/-- a slice of strings -/
def StrsAt (w : World) (A : Option Addr) (R : List ByteArray) : Prop := ∀ k s, R[k]? = some s → ∃ b o, A = some ⟨b, o, none⟩ ∧ b < w.heap.size ∧ w.cell? ⟨b, o + k, none⟩ = some (.string s)
theorem StrsAt.below {w w' : World} {A : Option Addr} {R : List ByteArray} (h : StrsAt w A R) (hb : Below w.heap.size w w') : StrsAt w' A R := fun k s hk => by
  obtain ⟨b, o, e, hlt, hc⟩ := h k s hk
  exact ⟨b, o, e, Nat.lt_of_lt_of_le hlt hb.size, (hb.cell (p := ⟨b, _, none⟩) hlt).trans hc⟩

/-- what holds at the head of a round of parseSign -/
structure SignRel (w wr : World) (code : ByteArray) (wide high : Int) (even : Bool) (A : Option Addr) (R : List ByteArray) (k : Nat) (v : Value) (done : List Va) : Prop where
  below : Below w.heap.size w wr
  b0 : wr.heap[w.heap.size]? = some (.cells #[.string code, .int .i64 wide, .int .i64 high, .bool even, v] 39 (0, 0))
  strs : StrsAt wr A R
  own : wr.ownsRow (w.heap.size + 1) 42 4 v k (done.flatMap Va.cells)
  len : done.length = k
  vals : valsP R = (valsP (R.drop k)).map (done ++ ·)
  apart : ∀ b o, A = some ⟨b, o, none⟩ → w.heap.size + 1 ≤ b ∧ v.ownBlock ≠ some b ∧ b < wr.heap.size
  text : ∀ d ∈ done, d.text.size ≤ maxLen

theorem SignRel.step {w wr w1 w3 : World} {code : ByteArray} {wide high : Int} {even : Bool} {A A2 : Option Addr} {R : List ByteArray} {k c2 : Nat} {v : Value} {done : List Va} {s : ByteArray} {box blk : Obj}
    (h : SignRel w wr code wide high even A R k v done) (hget : R[k]? = some s) (hs : s.size ≤ maxLen) (hok : (valueP s).2 = true)
    (hb1 : Below wr.heap.size wr w1)
    (own2 : w3.ownsRow (w.heap.size + 1) 42 4 (.slice A2 (k + 1) c2) (k + 1) (done.flatMap Va.cells ++ Va.cells (valueP s).1))
    (hg2 : ((w1.alloc box).alloc blk).grownBy w3 v.ownBlock)
    (hat : (Value.slice A2 (k + 1) c2).ownBlock = v.ownBlock ∨ (Value.slice A2 (k + 1) c2).ownBlock = some ((w1.alloc box).alloc blk).heap.size) :
    SignRel w (w3.setCell ⟨w.heap.size, 4, none⟩ (.slice A2 (k + 1) c2)) code wide high even A R (k + 1) (.slice A2 (k + 1) c2) (done ++ [(valueP s).1]) := by
  have hlt0 : w.heap.size < wr.heap.size := (Array.getElem?_eq_some_iff.1 h.b0).1
  have s1 : wr.heap.size ≤ w1.heap.size := hb1.size
  have s2 : w1.heap.size + 1 + 1 ≤ w3.heap.size := by have := hg2.size; simpa using this
  have s3 : (w3.setCell ⟨w.heap.size, 4, none⟩ (.slice A2 (k + 1) c2)).heap.size = w3.heap.size := by simp
  have hvb : ∀ g, v.ownBlock = some g → w.heap.size + 1 ≤ g ∧ g < wr.heap.size := fun g hg => h.own.lt g hg
  have keep : ∀ g, g < wr.heap.size → v.ownBlock ≠ some g → w3.heap[g]? = wr.heap[g]? := fun g h1 h3 => by
    rw [hg2.block g (by simp; omega) (fun e => h3 e.symm), heap_alloc_other _ _ _ (by simp; omega), heap_alloc_other _ _ _ (by omega), hb1.block g h1]
  refine ⟨?_, ?_, ?_, ?_, ?_, ?_, ?_, ?_⟩
  · have b1 := ((h.below.trans (hb1.mono (by omega))).alloc (by omega) box).alloc (by simp; omega) blk
    exact (b1.grown hg2 (by simp; omega) (fun g hg => by have := hvb g hg; omega)).setCell (by dsimp only; omega) _
  · have hb : w3.heap[w.heap.size]? = some (.cells #[.string code, .int .i64 wide, .int .i64 high, .bool even, v] 39 (0, 0)) := by
      rw [keep _ hlt0 (fun e => by have := hvb _ e; omega)]; exact h.b0
    rw [heap_setCell_same _ _ _ _ _ _ hb]; rfl
  · intro j x hj
    obtain ⟨b, o, e, hlt, hc⟩ := h.strs j x hj
    have ha := h.apart b o e
    refine ⟨b, o, e, by rw [s3]; omega, ?_⟩
    rw [← hc]
    exact World.cell?_of_block (a := ⟨b, o + j, none⟩) (by rw [heap_setCell_other _ _ _ _ (by dsimp only; omega)]; exact keep b hlt ha.2.1)
  · have := ownsRow_of_block (w' := w3.setCell ⟨w.heap.size, 4, none⟩ (.slice A2 (k + 1) c2)) own2 (fun g hg => heap_setCell_other _ _ _ _ (by
      have := (own2.lt g hg).1; dsimp only; omega))
    simpa using this
  · simp [h.len]
  · obtain ⟨hk, e⟩ := List.getElem?_eq_some_iff.1 hget
    rw [h.vals, List.drop_eq_getElem_cons hk, e, valsP, if_pos hok, Option.map_map]
    congr 1
    funext l
    simp
  · intro b o e
    have ha := h.apart b o e
    refine ⟨ha.1, ?_, by rw [s3]; omega⟩
    rcases hat with h1 | h1
    · rw [h1]; exact ha.2.1
    · rw [h1]; intro e'; injection e' with e'; simp at e'; omega
  · intro d hd
    rcases List.mem_append.1 hd with hd | hd
    · exact h.text d hd
    · simp at hd; subst hd; exact Nat.le_trans (value_text s) hs

theorem below_set5 {w W : World} (h : Below w.heap.size w W) (a b c d e : Value) : Below w.heap.size w (((((W.setCell ⟨w.heap.size, 0, none⟩ a).setCell ⟨w.heap.size, 1, none⟩ b).setCell ⟨w.heap.size, 2, none⟩ c).setCell ⟨w.heap.size, 3, none⟩ d).setCell ⟨w.heap.size, 4, none⟩ e) :=
  ((((h.setCell (p := ⟨w.heap.size, 0, none⟩) (Nat.le_refl _) _).setCell (p := ⟨w.heap.size, 1, none⟩) (Nat.le_refl _) _).setCell (p := ⟨w.heap.size, 2, none⟩) (Nat.le_refl _) _).setCell (p := ⟨w.heap.size, 3, none⟩) (Nat.le_refl _) _).setCell (p := ⟨w.heap.size, 4, none⟩) (Nat.le_refl _) _

/-- a sign that was made -/
def GotSign (w : World) (sp : Sg × Bool) (e : Ending) (w' : World) : Prop :=
  ∃ m : Sm, e = .returned (.tuple #[m.val, .bool sp.2]) ∧ m.s = sp.1 ∧ SmOk w' m ∧ (∀ b o, m.A = some ⟨b, o, none⟩ → w.heap.size ≤ b ∧ b < w'.heap.size) ∧ Below w.heap.size w w'

theorem smok_zero (w : World) : SmOk w ⟨zeroSg, none, 0⟩ := ⟨fun k v h => by simp [zeroSg] at h, Nat.le_refl _, Nat.zero_le _, Nat.zero_le _⟩

theorem SignRel.ok {w wr : World} {code : ByteArray} {wide high : Int} {even : Bool} {A A' : Option Addr} {R : List ByteArray} {k c' : Nat} {done : List Va}
    (h : SignRel w wr code wide high even A R k (.slice A' k c') done) (hc : code.size ≤ maxLen) : SmOk wr ⟨⟨code, wide, high, even, done⟩, A', c'⟩ ∧ (∀ b o, A' = some ⟨b, o, none⟩ → w.heap.size + 1 ≤ b ∧ b < wr.heap.size) := by
  obtain ⟨A1, c1, e1, h1, h2, hA, hAn⟩ := own_slice h.own
  injection e1 with e1 e2 e3
  subst e1 e3
  refine ⟨⟨fun j x hj => ?_, by dsimp only; rw [h.len]; exact h1, h2, hc⟩, fun b o e => ?_⟩
  · dsimp only at hj ⊢
    have hj' : j < done.length := (List.getElem?_eq_some_iff.1 hj).1
    cases hA' : A' with
    | none => have := hAn hA'; have := h.len; omega
    | some ad =>
      obtain ⟨g, rfl, hg0, hg1, hcell⟩ := hA ad hA'
      have ha : ∀ i, i < 4 → wr.cell? ⟨g, j * 4 + i, none⟩ = (Va.cells x)[i]? := fun i hi => by
        have hi' : i < (Va.cells x).length := hi
        rw [hcell (j * 4 + i) ((Va.cells x)[i]) (by rw [flat_at (c := 4) (fun _ => rfl) _ _ _ hj i hi]; exact List.getElem?_eq_getElem hi'), List.getElem?_eq_getElem hi']
      refine ⟨g, 0, rfl, hg1, ⟨?_, ?_, ?_, ?_, h.text x (List.mem_of_getElem? hj)⟩⟩
      · rw [Nat.zero_add]; exact ha 0 (by omega)
      · rw [Nat.zero_add]; exact ha 1 (by omega)
      · rw [Nat.zero_add]; exact ha 2 (by omega)
      · rw [Nat.zero_add]; exact ha 3 (by omega)
  · obtain ⟨g, eg, hg0, hg1, _⟩ := hA _ e
    injection eg with eg _
    omega
theorem smok_self {w w' : World} {m : Sm} (h : SmOk w m) (hs : w'.heap.size = w.heap.size) (g : Nat) (hb : ∀ b o, m.A = some ⟨b, o, none⟩ → b ≠ g) (hk : ∀ b, b ≠ g → w'.heap[b]? = w.heap[b]?) : SmOk w' m :=
  smok_of_blocks h (by omega) (fun b o e _ => hk b (hb b o e))
end Go.Proofs.YtleihhkacmgofaaGreatDoor
