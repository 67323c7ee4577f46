/-
  The plain functions by which the contracts of Parse are stated.
-/
import Derived.Test.YtleihhkacmgofaaGreatDoorCopy
import Derived.Test.YtleihhkacmgofaaGreatDoorShelf
namespace Go.Proofs.YtleihhkacmgofaaGreatDoor
open Go.RowKit

def str (l : List UInt8) : ByteArray := ⟨l.toArray⟩
/-- strings.Cut -/
def cutB (s sep : ByteArray) : ByteArray × ByteArray × Bool := (⟨(Lib.cut s.data.toList sep.data.toList).1.toArray⟩, ⟨(Lib.cut s.data.toList sep.data.toList).2.1.toArray⟩, (Lib.cut s.data.toList sep.data.toList).2.2)
/-- strings.Split at one byte or more -/
def splitS (s sep : ByteArray) : List ByteArray := Lib.splitB sep 0 (Lib.countB s sep) s
def numV (l : List UInt8) : Int := l.foldl (fun n c => n * 10 + ((c.toNat : Int) - 48)) 0
/-- a number of one to three digits without a leading zero -/
def numP (s : ByteArray) : Int × Bool :=
  if withinB s.size 3 && !((bytes s).head? == some 48 && !strEq s ⟨#[48]⟩) && (bytes s).all digB then (numV (bytes s), true) else (0, false)
def looseB (c : UInt8) : Bool := !((c.toNat : Int) == 32 || (c.toNat : Int) == 64 || (c.toNat : Int) == 58 || (c.toNat : Int) == 10)
def nameP (s : ByteArray) : Bool := (bytes s).all looseB && !(bytes s).isEmpty
def kindP (s : ByteArray) : Int × Bool := if strEq ⟨#[115]⟩ s then (1, true) else if strEq ⟨#[119]⟩ s then (2, true) else if strEq ⟨#[99]⟩ s then (3, true) else (0, false)
def pairP (s sep : ByteArray) : Int × Int × Bool :=
  if (numP (cutB s sep).1).2 && (numP (cutB s sep).2.1).2 then ((numP (cutB s sep).1).1, (numP (cutB s sep).2.1).1, true) else (0, 0, false)
def zeroVa : Va := ⟨0, ⟨#[]⟩, 0, 0⟩
def zeroSg : Sg := ⟨⟨#[]⟩, 0, 0, false, []⟩
def valueP (s : ByteArray) : Va × Bool :=
  let c := cutB s ⟨#[58]⟩
  let d := cutB c.2.1 ⟨#[64]⟩
  let p := pairP d.2.1 ⟨#[45]⟩
  if (kindP c.1).2 && nameP d.1 && p.2.2 then (⟨(kindP c.1).1, d.1, p.1, p.2.1⟩, true) else (zeroVa, false)
def valsP : List ByteArray → Option (List Va)
  | [] => some []
  | s :: r => if (valueP s).2 then (valsP r).map ((valueP s).1 :: ·) else none
/-- the fields behind a sign's size: whether it is even, and its values -/
def restP : List ByteArray → Bool × List ByteArray
  | [] => (false, [])
  | s :: r => if strEq s ⟨#[61]⟩ then (true, r) else (false, s :: r)
def signF : List ByteArray → Sg × Bool
  | c :: z :: r =>
    if nameP c && (pairP z ⟨#[120]⟩).2.2 then
      match valsP (restP r).2 with
      | some vs => (⟨c, (pairP z ⟨#[120]⟩).1, (pairP z ⟨#[120]⟩).2.1, (restP r).1, vs⟩, true)
      | none => (zeroSg, false)
    else (zeroSg, false)
  | _ => (zeroSg, false)
def signP (s : ByteArray) : Sg × Bool := signF (splitS s ⟨#[32]⟩)
def headP (s : ByteArray) : Int × Bool := if Lib.hasPrefix s.data.toList [112, 101, 114, 105, 111, 100, 115, 32] then numP ⟨(Lib.trimPrefix s.data.toList [112, 101, 114, 105, 111, 100, 115, 32]).toArray⟩ else (0, false)
/-- the lines behind the first one: the signs, or the number of a bad line -/
def linesP : Nat → ByteArray → Int → List Sg ⊕ Int
  | 0, _, _ => .inl []
  | f + 1, t, n =>
    if (bytes t).isEmpty then .inl [] else
    let c := cutB t ⟨#[10]⟩
    if c.2.2 && (signP c.1).2 then
      match linesP f c.2.1 (n + 1) with
      | .inl ss => .inl ((signP c.1).1 :: ss)
      | .inr b => .inr b
    else .inr n
/-- parseLines -/
def allP (t : ByteArray) : Li × Int :=
  let c := cutB t ⟨#[10]⟩
  if c.2.2 && (headP c.1).2 then
    match linesP (t.size + 1) c.2.1 2 with
    | .inl ss => (⟨(headP c.1).1, ss⟩, 0)
    | .inr b => (⟨0, []⟩, b)
  else (⟨0, []⟩, 1)
/-- Parse: the list, the line, the error -/
def parseP (t : ByteArray) : Li × Int × Int :=
  if 65536 < t.size then (⟨0, []⟩, 0, 2)
  else if 0 < (allP t).2 then (⟨0, []⟩, (allP t).2, 4)
  else if checkErr (allP t).1 ≠ 0 then (⟨0, []⟩, 0, checkErr (allP t).1)
  else ((allP t).1, 0, 0)

theorem cut_len (l p : List UInt8) : (Lib.cut l p).1.length ≤ l.length ∧ (Lib.cut l p).2.1.length ≤ l.length ∧ ((Lib.cut l p).2.2 = true → p ≠ [] → (Lib.cut l p).2.1.length < l.length ∨ l = []) := by
  unfold Lib.cut
  split
  · refine ⟨by simp; omega, by simp, fun _ hp => ?_⟩
    have : 0 < p.length := List.length_pos_iff.2 hp
    cases l with
    | nil => exact .inr rfl
    | cons a r => left; simp; omega
  · simp
theorem cutB_size (s sep : ByteArray) : (cutB s sep).1.size ≤ s.size ∧ (cutB s sep).2.1.size ≤ s.size := by
  obtain ⟨h1, h2, -⟩ := cut_len s.data.toList sep.data.toList
  have e : s.data.toList.length = s.size := Array.length_toList
  rw [e] at h1 h2
  unfold cutB
  exact ⟨by show (Lib.cut s.data.toList sep.data.toList).1.toArray.size ≤ s.size; rw [List.size_toArray]; exact h1, by show (Lib.cut s.data.toList sep.data.toList).2.1.toArray.size ≤ s.size; rw [List.size_toArray]; exact h2⟩
theorem cutB_less (s sep : ByteArray) (hp : sep.data.toList ≠ []) (h : (cutB s sep).2.2 = true) (hs : 0 < s.size) : (cutB s sep).2.1.size < s.size := by
  have h1 := (cut_len s.data.toList sep.data.toList).2.2 h hp
  have e : s.data.toList.length = s.size := Array.length_toList
  show (Lib.cut s.data.toList sep.data.toList).2.1.toArray.size < s.size
  rw [List.size_toArray]
  rcases h1 with h1 | h1
  · rw [e] at h1; exact h1
  · rw [h1] at e; simp at e; omega

example : (parseP (str [112, 101, 114, 105, 111, 100, 115, 32, 50, 10, 65, 49, 32, 52, 120, 54, 32, 115, 58, 110, 102, 114, 64, 49, 45, 50, 10, 66, 50, 32, 51, 120, 51, 32, 61, 32, 115, 58, 110, 102, 114, 64, 50, 45, 50, 10])).2 = (0, 0) := by decide +kernel

end Go.Proofs.YtleihhkacmgofaaGreatDoor
