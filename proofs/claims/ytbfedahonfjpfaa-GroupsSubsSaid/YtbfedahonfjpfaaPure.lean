/-
  The plain functions by which the contracts of layer 1 (signs) are stated: no program is imported here.
-/
namespace Go.Proofs.Ytbfedahonfjpfaa

/-- a value of a sign -/
structure Va where
  kind : Int
  text : ByteArray
  fr : Int
  to : Int
/-- a sign -/
structure Sg where
  code : ByteArray
  wide : Int
  high : Int
  even : Bool
  vals : List Va
/-- a list of signs -/
structure Li where
  per : Int
  signs : List Sg

def withinB (n m : Int) : Bool := decide (1 ≤ n) && decide (n ≤ m)
def capB (c : UInt8) : Bool := decide ((65 : Int) ≤ c.toNat) && decide ((c.toNat : Int) ≤ 90)
def smallB (c : UInt8) : Bool := decide ((97 : Int) ≤ c.toNat) && decide ((c.toNat : Int) ≤ 122)
def letB (c : UInt8) : Bool := capB c || smallB c
def digB (c : UInt8) : Bool := decide ((48 : Int) ≤ c.toNat) && decide ((c.toNat : Int) ≤ 57)
def letdigB (c : UInt8) : Bool := letB c || digB c

/-- the bytes of a string -/
def bytes (s : ByteArray) : List UInt8 := s.data.toList
theorem bytes_length (s : ByteArray) : (bytes s).length = s.size := by
  show s.data.toList.length = s.data.size
  exact Array.length_toList

def kindB (k : Int) : Bool := decide (1 ≤ k) && decide (k ≤ 3)
def codeB (s : ByteArray) : Bool := withinB s.size 8 && ((bytes s).head?.any capB && (bytes s).all letdigB)
def textB (k : Int) (s : ByteArray) : Bool := withinB s.size 8 && (bytes s).all fun c => letB c && !(k == 3 && capB c)

/-- two strings are equal, as the walk spells it -/
def strEq (a b : ByteArray) : Bool := a.toList == b.toList
/-- two values collide -/
def collideB (a b : Va) : Bool := ((a.kind == b.kind) && strEq a.text b.text) && decide (a.fr ≤ b.to) && decide (b.fr ≤ a.to)

/-- the first error of a value behind others -/
def valErr (v : Va) (before : List Va) (p : Int) : Int :=
  if (kindB v.kind && textB v.kind v.text) = false then 12
  else if v.fr < 1 ∨ v.to < v.fr ∨ p < v.to then 13
  else if before.any (fun b => collideB b v) then 12 else 0
/-- the first error of values behind others -/
def valsErr (p : Int) : List Va → List Va → Int
  | _, [] => 0
  | done, v :: r => if valErr v done p = 0 then valsErr p (done ++ [v]) r else valErr v done p
/-- the first error of a sign but for its code -/
def signErr (s : Sg) (p : Int) : Int :=
  if (withinB s.wide 12 && withinB s.high 12) = false then 11
  else if 12 < s.vals.length then 2
  else valsErr p [] s.vals
/-- the first error of signs behind others -/
def signsErr (p : Int) : List Sg → List Sg → Int
  | _, [] => 0
  | done, s :: r => if (codeB s.code && !done.any fun d => strEq d.code s.code) = false then 10 else if signErr s p = 0 then signsErr p (done ++ [s]) r else signErr s p
/-- the first error of a list of signs -/
def checkErr (l : Li) : Int :=
  if 200 < l.signs.length then 2
  else if withinB l.per 9 = false then 13
  else signsErr l.per [] l.signs

theorem valsErr_step (p : Int) (vs : List Va) (k : Nat) (v : Va) (h : vs[k]? = some v) (h0 : valErr v (vs.take k) p = 0) : valsErr p (vs.take k) (vs.drop k) = valsErr p (vs.take (k + 1)) (vs.drop (k + 1)) := by
  obtain ⟨hk, rfl⟩ := List.getElem?_eq_some_iff.1 h
  rw [List.drop_eq_getElem_cons hk, valsErr, if_pos h0, List.take_succ_eq_append_getElem hk]
theorem valsErr_stop (p : Int) (vs : List Va) (k : Nat) (v : Va) (h : vs[k]? = some v) (h0 : valErr v (vs.take k) p ≠ 0) : valsErr p (vs.take k) (vs.drop k) = valErr v (vs.take k) p := by
  obtain ⟨hk, rfl⟩ := List.getElem?_eq_some_iff.1 h
  rw [List.drop_eq_getElem_cons hk, valsErr, if_neg h0]
theorem valsErr_end (p : Int) (vs : List Va) : valsErr p (vs.take vs.length) (vs.drop vs.length) = 0 := by simp [valsErr]
theorem signsErr_step (p : Int) (vs : List Sg) (k : Nat) (v : Sg) (h : vs[k]? = some v) (hc : (codeB v.code && !(vs.take k).any fun d => strEq d.code v.code) = true) (h0 : signErr v p = 0) :
    signsErr p (vs.take k) (vs.drop k) = signsErr p (vs.take (k + 1)) (vs.drop (k + 1)) := by
  obtain ⟨hk, rfl⟩ := List.getElem?_eq_some_iff.1 h
  rw [List.drop_eq_getElem_cons hk, signsErr, if_neg (by rw [hc]; simp), if_pos h0, List.take_succ_eq_append_getElem hk]
theorem signsErr_stop (p : Int) (vs : List Sg) (k : Nat) (v : Sg) (h : vs[k]? = some v) (hc : (codeB v.code && !(vs.take k).any fun d => strEq d.code v.code) = true) (h0 : signErr v p ≠ 0) :
    signsErr p (vs.take k) (vs.drop k) = signErr v p := by
  obtain ⟨hk, rfl⟩ := List.getElem?_eq_some_iff.1 h
  rw [List.drop_eq_getElem_cons hk, signsErr, if_neg (by rw [hc]; simp), if_neg h0]
theorem signsErr_code (p : Int) (vs : List Sg) (k : Nat) (v : Sg) (h : vs[k]? = some v) (hc : (codeB v.code && !(vs.take k).any fun d => strEq d.code v.code) = false) :
    signsErr p (vs.take k) (vs.drop k) = 10 := by
  obtain ⟨hk, rfl⟩ := List.getElem?_eq_some_iff.1 h
  rw [List.drop_eq_getElem_cons hk, signsErr, if_pos hc]
theorem signsErr_end (p : Int) (vs : List Sg) : signsErr p (vs.take vs.length) (vs.drop vs.length) = 0 := by simp [signsErr]
theorem any_step {α : Type} (q : α → Bool) (vs : List α) (k : Nat) (v : α) (h : vs[k]? = some v) (h0 : (vs.take k).any q = false) (h1 : q v = false) : (vs.take (k + 1)).any q = false := by
  obtain ⟨hk, rfl⟩ := List.getElem?_eq_some_iff.1 h
  rw [List.take_succ_eq_append_getElem hk, List.any_append, h0, Bool.false_or]; simp [h1]
theorem any_true {α : Type} (q : α → Bool) (vs : List α) (k : Nat) (v : α) (h : vs[k]? = some v) (h1 : q v = true) : vs.any q = true := by
  rw [List.any_eq_true]; exact ⟨v, List.mem_of_getElem? h, h1⟩

theorem take_snoc (s : ByteArray) (k : Nat) (h : k < s.size) : (bytes s).take (k + 1) = (bytes s).take k ++ [s[k]] := by
  unfold bytes
  rw [List.take_succ_eq_append_getElem (by simpa using h)]; rfl
theorem all_snoc {α : Type} (p : α → Bool) (l : List α) (c : α) : (l ++ [c]).all p = (l.all p && p c) := by simp
theorem take_full (s : ByteArray) : (bytes s).take s.size = bytes s := by
  rw [← bytes_length]; exact List.take_length
theorem all_false_of {α : Type} (p : α → Bool) (l : List α) (k : Nat) (c : α) (h : l[k]? = some c) (hc : p c = false) : l.all p = false := by
  rw [List.all_eq_false]
  exact ⟨c, List.mem_of_getElem? h, by simp [hc]⟩
theorem bytes_at (s : ByteArray) (k : Nat) (h : k < s.size) : (bytes s)[k]? = some s[k] := by
  unfold bytes
  rw [List.getElem?_eq_getElem (by simpa using h)]; rfl

end Go.Proofs.Ytbfedahonfjpfaa
