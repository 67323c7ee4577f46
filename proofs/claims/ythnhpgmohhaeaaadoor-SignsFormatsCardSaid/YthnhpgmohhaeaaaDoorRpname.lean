/-
  Contract of the specification's ParseName.
-/
import Derived.Test.YthnhpgmohhaeaaaDoorDecP
import Derived.Deep.QuietTactic
namespace Go.Proofs.YthnhpgmohhaeaaaDoor
open Go.RowKit

theorem let_not_dig {c : UInt8} (h : letB c = true) : digB c = false := by
  simp [letB, capB, smallB] at h
  simp [digB]; omega
theorem first_of (f : UInt8 → Bool) (s : ByteArray) : ∃ m, m ≤ s.size ∧ ((bytes s).take m).all f = true ∧ ∀ h : m < s.size, f s[m] = false := by
  cases h : (bytes s).all f with
  | true => exact ⟨s.size, Nat.le_refl _, by rw [take_full]; exact h, fun h => absurd h (Nat.lt_irrefl _)⟩
  | false =>
    obtain ⟨m, c, hm, hd, ht⟩ := first_bad _ _ h
    have hl : m < s.size := by have := (List.getElem?_eq_some_iff.1 hm).1; simpa [bytes] using this
    rw [bytes_at s m hl] at hm
    injection hm with hm
    exact ⟨m, Nat.le_of_lt hl, ht, fun _ => by rw [hm]; exact hd⟩
theorem take_at {s : ByteArray} {f : UInt8 → Bool} {n j : Nat} (h : ((bytes s).take n).all f = true) (hj : j < n) (hs : j < s.size) : f s[j] = true :=
  List.all_eq_true.1 h _ (List.mem_of_getElem? (by rw [List.getElem?_take, if_pos hj]; exact bytes_at s j hs))
theorem bytes_pre (s : ByteArray) (m : Nat) : bytes (s.extract 0 m) = (bytes s).take m := by
  unfold bytes
  simp [ByteArray.data_extract]
theorem bytes_post (s : ByteArray) (m : Nat) : bytes (s.extract m s.size) = (bytes s).drop m := by
  unfold bytes
  have : s.size = s.data.toList.length := by simp
  simp [ByteArray.data_extract]
  rw [List.take_of_length_le (by simp)]
theorem text_let {t : ByteArray} (h : textB 1 t = true) : (bytes t).all letB = true := by
  simp [textB] at h
  exact List.all_eq_true.2 (fun c hc => by have := h.2 c hc; simpa using this)
/-- n letters open the name, and its first digit is at m -/
structure Opens (s : ByteArray) (n m : Nat) : Prop where
  hn : n ≤ s.size
  hall : ((bytes s).take n).all letB = true
  hend : ∀ h : n < s.size, letB s[n] = false
  hm : m ≤ s.size
  hno : ((bytes s).take m).all (fun c => !digB c) = true
  hdig : ∀ h : m < s.size, digB s[m] = true
theorem opens_of (s : ByteArray) {n : Nat} (hn : n ≤ s.size) (hall : ((bytes s).take n).all letB = true) (hend : ∀ h : n < s.size, letB s[n] = false) : ∃ m, Opens s n m := by
  obtain ⟨m, h1, h2, h3⟩ := first_of (fun c => !digB c) s
  exact ⟨m, hn, hall, hend, h1, h2, fun h => by simpa using h3 h⟩
theorem Opens.le {s : ByteArray} {n m : Nat} (h : Opens s n m) : n ≤ m := by
  rcases Nat.lt_or_ge m n with hlt | hge
  · have hs : m < s.size := Nat.lt_of_lt_of_le hlt h.hn
    have h1 := take_at h.hall hlt hs
    have h2 := h.hdig hs
    rw [let_not_dig h1] at h2; cases h2
  · exact hge
theorem Opens.eq {s : ByteArray} {n m : Nat} (h : Opens s n m) (hT : textB 1 (s.extract 0 m) = true) : n = m := by
  have h1 := text_let hT
  rw [bytes_pre] at h1
  rcases Nat.lt_or_ge n m with hlt | hge
  · have hs : n < s.size := Nat.lt_of_lt_of_le hlt h.hm
    have h2 := take_at h1 hlt hs
    rw [h.hend hs] at h2; cases h2
  · exact Nat.le_antisymm h.le hge
theorem Opens.bad {s : ByteArray} {n m : Nat} (h : Opens s n m) (hT : textB 1 (s.extract 0 m) = false) : (splitP s n).2.2 = false := by
  by_cases e : n = m
  · subst e; unfold splitP; rw [if_pos hT]
  · have hlt : n < m := by have := h.le; omega
    have hs : n < s.size := Nat.lt_of_lt_of_le hlt h.hm
    have h1 : digB s[n] = false := by simpa using take_at h.hno hlt hs
    have h2 : (bytes (s.extract n s.size)).all digB = false := by
      rw [bytes_post]
      refine all_false_of _ _ 0 s[n] ?_ h1
      rw [List.getElem?_drop]; exact bytes_at s n hs
    unfold splitP
    split
    · rfl
    · rw [if_neg (by omega)]
      show (placeP (s.extract n s.size)).2 = false
      unfold placeP; rw [if_pos (.inr h2)]
theorem place_good {d : ByteArray} (hd : (bytes d).all digB = true) (hne : bytes d ≠ []) (hh : (bytes d).head? ≠ some 48) (h1 : bytes d ≠ [49]) : placeP d = (placeF (bytes d), true) ∧ 2 ≤ placeF (bytes d) := by
  have h2 := num_one _ hd hne hh
  have h3 : numV (bytes d) ≠ 1 := fun e => by
    have := num_dec _ hd hne hh
    rw [e, show (1 : Int).toNat = 1 from rfl, dec_small 1 (by omega)] at this
    exact h1 this.symm
  have h4 : 2 ≤ placeF (bytes d) := by rw [placeF_num _ hd]; omega
  refine ⟨?_, h4⟩
  unfold placeP
  rw [if_neg (by rintro (h | h); exact hh h; rw [hd] at h; cases h)]
  simp [h4]
theorem place_wrong {d : ByteArray} (h : (bytes d).all digB = false ∨ (bytes d).head? = some 48 ∨ bytes d = [49]) : (placeP d).2 = false := by
  unfold placeP
  split
  · rfl
  · rename_i hn
    rcases h with h | h | h
    · exact absurd (.inr h) hn
    · exact absurd (.inl h) hn
    · rw [h]; decide
theorem bearers_of_ok {l : Li} {p : Int} (h : checkErr l = 0) (hp : withinB p l.per = true) (t : ByteArray) : bearersR l 1 t p = (bearFrom 1 t p 0 l.signs, 0) := by
  unfold bearersR
  rw [if_neg (by rw [h]; decide), if_neg (by decide), if_neg (by rw [hp]; decide)]
theorem signs_le {l : Li} (h : checkErr l = 0) : l.signs.length ≤ 200 := by
  unfold checkErr at h
  split at h
  · cases h
  · omega
theorem pnameR_form {l : Li} {s : ByteArray} {n : Nat} {p : Int} (h : checkErr l = 0) (hp : withinB p l.per = true) (hb : (splitP s n).2.2 = false) : pnameR l s n p = (0, ⟨#[]⟩, 4) := by
  unfold pnameR
  rw [if_neg (by rw [h]; decide), if_neg (by rw [hp]; decide), if_pos hb]
theorem pnameR_ok {l : Li} {s : ByteArray} {n : Nat} {p : Int} {t : ByteArray} {v : Int} (h : checkErr l = 0) (hp : withinB p l.per = true) (hb : splitP s n = (t, v, true)) :
    pnameR l s n p = if ((bearFrom 1 t p 0 l.signs).length : Int) < v then (0, ⟨#[]⟩, 3) else ((bearFrom 1 t p 0 l.signs).getD (v - 1).toNat 0, t, 0) := by
  unfold pnameR
  rw [if_neg (by rw [h]; decide), if_neg (by rw [hp]; decide), hb]
  rfl

end Go.Proofs.YthnhpgmohhaeaaaDoor
