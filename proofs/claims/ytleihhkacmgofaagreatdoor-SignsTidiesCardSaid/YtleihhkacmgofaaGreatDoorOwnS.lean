/-
  Signs in a row of the call's own, one of them given other values; what a valid list keeps.
-/
import Derived.Test.YtleihhkacmgofaaGreatDoorTied
namespace Go.Proofs.YtleihhkacmgofaaGreatDoor
open Go.RowKit

/-- values that lie apart from block g -/
def ApartG (g : Nat) (A : Option Addr) (vs : List Va) : Prop := 0 < vs.length → ∀ b o, A = some ⟨b, o, none⟩ → g ≠ b
theorem valsAt_set {w : World} {A : Option Addr} {vs : List Va} {g : Nat} (h : ValsAt w A vs) (ha : ApartG g A vs) (o : Nat) (u : Value) : ValsAt (w.setCell ⟨g, o, none⟩ u) A vs := fun k v hk => by
  obtain ⟨b, o', e, hlt, hv⟩ := h k v hk
  have hg : b ≠ g := fun e2 => ha (by have := (List.getElem?_eq_some_iff.1 hk).1; omega) b o' e e2.symm
  have hc : ∀ p, (w.setCell ⟨g, o, none⟩ u).cell? ⟨b, p, none⟩ = w.cell? ⟨b, p, none⟩ := fun p => World.cell?_of_block (a := ⟨b, p, none⟩) (heap_setCell_other _ _ _ _ hg)
  exact ⟨b, o', e, by simpa using hlt, ⟨(hc _).trans hv.c0, (hc _).trans hv.c1, (hc _).trans hv.c2, (hc _).trans hv.c3, hv.sz⟩⟩
theorem smOk_set {w : World} {m : Sm} {g : Nat} (h : SmOk w m) (ha : ApartG g m.A m.s.vals) (o : Nat) (u : Value) : SmOk (w.setCell ⟨g, o, none⟩ u) m := ⟨valsAt_set h.vals ha o u, h.len, h.cap, h.code⟩
/-- a sign with other values -/
def Sm.with (m : Sm) (vs : List Va) (A : Option Addr) (c : Nat) : Sm := ⟨⟨m.s.code, m.s.wide, m.s.high, m.s.even, vs⟩, A, c⟩
theorem flat_set {ms : List Sm} {k : Nat} {m : Sm} (hk : ms[k]? = some m) (vs : List Va) (A : Option Addr) (c : Nat) : (ms.flatMap Sm.cells).set (k * 5 + 4) (.slice A vs.length c) = (ms.set k (m.with vs A c)).flatMap Sm.cells := by
  induction ms generalizing k with
  | nil => simp at hk
  | cons x r ih =>
    cases k with
    | zero =>
      simp at hk; subst hk
      simp [Sm.cells, Sm.with]
    | succ k =>
      have := ih (k := k) (by simpa using hk)
      rw [List.set_cons_succ, List.flatMap_cons, List.flatMap_cons, ← this, List.set_append_right _ _ (by simp [Sm.cells]; omega)]
      congr 1
      congr 1
      simp [Sm.cells]
      omega
theorem OwnSigns.set {w : World} {base g c : Nat} {ms : List Sm} (h : OwnSigns w base (some ⟨g, 0, none⟩) c ms) {k : Nat} {m : Sm} (hk : ms[k]? = some m) {vs : List Va} {A : Option Addr} {c1 : Nat} (hv : ValsAt w A vs) (hl : vs.length ≤ c1) (hc : c1 ≤ maxLen) (ha : ApartG g A vs) :
    OwnSigns (w.setCell ⟨g, k * 5 + 4, none⟩ (.slice A vs.length c1)) base (some ⟨g, 0, none⟩) c (ms.set k (m.with vs A c1)) := by
  have hap : ∀ m ∈ ms, ApartG g m.A m.s.vals := fun m hm h0 b o e e2 => h.apart m hm h0 b o e (by rw [e2]; rfl)
  have hlen : (ms.set k (m.with vs A c1)).length = ms.length := by simp
  refine ⟨?_, fun x hx => ?_, fun x hx h0 b o e => ?_⟩
  · rw [hlen, ← flat_set hk]
    exact (h.own.stored (k * 5 + 4) (.slice A vs.length c1)).1
  · rcases List.mem_or_eq_of_mem_set hx with hx | rfl
    · exact smOk_set (h.ok x hx) (hap x hx) _ _
    · exact ⟨valsAt_set hv ha _ _, hl, hc, (h.ok m (List.mem_of_getElem? hk)).code⟩
  · rcases List.mem_or_eq_of_mem_set hx with hx | rfl
    · have := h.apart x hx h0 b o e; exact this
    · intro e2
      have e2 : some g = some b := e2
      injection e2 with e2
      exact ha h0 b o e e2

/-- a sign with its values changed -/
def sgWith (f : List Va → List Va) (s : Sg) : Sg := ⟨s.code, s.wide, s.high, s.even, f s.vals⟩
/-- the first signs changed -/
def firstW (f : List Va → List Va) (k : Nat) (l : List Sg) : List Sg := (l.take k).map (sgWith f) ++ l.drop k
theorem firstW_len (f : List Va → List Va) (k : Nat) (l : List Sg) : (firstW f k l).length = l.length := by unfold firstW; simp; omega
theorem firstW_at (f : List Va → List Va) (k : Nat) (l : List Sg) (s : Sg) (h : l[k]? = some s) : (firstW f k l)[k]? = some s := by
  unfold firstW
  obtain ⟨hk, e⟩ := List.getElem?_eq_some_iff.1 h
  rw [List.getElem?_append_right (by simp; omega)]
  simp
  rw [show k + (k - min k l.length) = k by omega]
  exact h
theorem firstW_set (f : List Va → List Va) (k : Nat) (l : List Sg) (s : Sg) (h : l[k]? = some s) : (firstW f k l).set k (sgWith f s) = firstW f (k + 1) l := by
  obtain ⟨hk, e⟩ := List.getElem?_eq_some_iff.1 h
  unfold firstW
  rw [List.set_append_right _ _ (by simp; omega), List.take_succ_eq_append_getElem hk, List.drop_eq_getElem_cons hk, List.map_append]
  have hm : k - (List.map (sgWith f) (List.take k l)).length = 0 := by simp; omega
  rw [hm]
  simp [e]
theorem firstW_zero (f : List Va → List Va) (l : List Sg) : firstW f 0 l = l := by simp [firstW]
theorem firstW_all (f : List Va → List Va) (l : List Sg) : firstW f l.length l = l.map (sgWith f) := by simp [firstW]

/-- what a valid list keeps -/
theorem vals_okV (p : Int) : ∀ (vs done : List Va), valsErr p done vs = 0 → p ≤ 9 → ∀ v ∈ vs, okV v
  | [], _, _, _, v, hv => by cases hv
  | x :: r, done, h, hp, v, hv => by
    rw [valsErr] at h
    split at h
    · rename_i h0
      rcases List.mem_cons.1 hv with rfl | hv
      · unfold valErr at h0
        split at h0
        · cases h0
        · rename_i h1
          split at h0
          · cases h0
          · rename_i h2
            have h3 : textB v.kind v.text = true := by
              cases hk : kindB v.kind <;> cases ht : textB v.kind v.text <;> simp_all
            refine ⟨by omega, by omega, by omega, ?_⟩
            unfold textB withinB at h3
            simp at h3
            unfold maxLen; omega
      · exact vals_okV p r _ h hp v hv
    · rename_i h0; exact absurd h h0
theorem signs_okV (p : Int) : ∀ (l done : List Sg), signsErr p done l = 0 → p ≤ 9 → ∀ s ∈ l, s.vals.length ≤ 12 ∧ ∀ v ∈ s.vals, okV v
  | [], _, _, _, s, hs => by cases hs
  | x :: r, done, h, hp, s, hs => by
    rw [signsErr] at h
    split at h
    · cases h
    · split at h
      · rename_i h0
        rcases List.mem_cons.1 hs with rfl | hs
        · unfold signErr at h0
          split at h0
          · cases h0
          · split at h0
            · cases h0
            · exact ⟨by omega, vals_okV p _ _ h0 hp⟩
        · exact signs_okV p r _ h hp s hs
      · rename_i h0; exact absurd h h0
theorem check_okV (l : Li) (h : checkErr l = 0) : l.signs.length ≤ 200 ∧ 1 ≤ l.per ∧ l.per ≤ 9 ∧ ∀ s ∈ l.signs, s.vals.length ≤ 12 ∧ ∀ v ∈ s.vals, okV v := by
  unfold checkErr at h
  split at h
  · cases h
  · split at h
    · cases h
    · rename_i h1 h2
      have h3 : withinB l.per 9 = true := by simpa using h2
      unfold withinB at h3
      simp at h3
      exact ⟨by omega, h3.1, h3.2, signs_okV l.per _ _ h h3.2⟩

/-- Tidy -/
def tidyV (vs : List Va) : List Va := tidiedR [vs]
def tidyL (l : Li) : Li × Int := if checkErr l ≠ 0 then (⟨0, []⟩, checkErr l) else (⟨l.per, l.signs.map (sgWith tidyV)⟩, 0)
/-- a list and an error -/
def GotListE (w : World) (q : Li × Int) (e : Ending) (w' : World) : Prop := ∃ L : Lm, e = .returned (.tuple #[L.val, .int .i64 q.2]) ∧ LmOk w' L ∧ L.li = q.1 ∧ Below w.heap.size w w'
theorem lm_none (w : World) : LmOk w ⟨0, [], none, 0⟩ := ⟨fun k m h => by simp at h, Nat.le_refl _, Nat.zero_le _⟩

end Go.Proofs.YtleihhkacmgofaaGreatDoor
