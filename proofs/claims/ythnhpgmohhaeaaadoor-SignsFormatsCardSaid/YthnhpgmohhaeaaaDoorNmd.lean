/-
  What the law of the names says, on plain lists: in a valid list each sound that a sign bears has a name that is read as it, and no two have one name.
-/
import Derived.Test.YthnhpgmohhaeaaaDoorRpname2
namespace Go.Proofs.YthnhpgmohhaeaaaDoor
open Go.RowKit

theorem sOf {l : Li} {i : Nat} {s : Sg} (h : l.signs[i]? = some s) : valsOf l (i : Int) = s.vals := by
  unfold valsOf; rw [Int.toNat_natCast, h]
theorem valErr_ok {v : Va} {b : List Va} {p : Int} (h : valErr v b p = 0) : kindB v.kind = true ∧ textB v.kind v.text = true ∧ b.any (fun b => collideB b v) = false := by
  unfold valErr at h
  split at h
  · cases h
  · rename_i h1
    split at h
    · cases h
    · split at h
      · cases h
      · rename_i h3
        simp at h1
        exact ⟨h1.1, h1.2, by simpa using h3⟩
/-- each value of a valid list is right, and collides with none before it -/
theorem valsErr_ok (p : Int) : ∀ (r done : List Va), valsErr p done r = 0 → ∀ (k : Nat) (v : Va), r[k]? = some v → valErr v (done ++ r.take k) p = 0
  | [], _, _, k, v, h => by simp at h
  | x :: r, done, h0, k, v, h => by
    unfold valsErr at h0
    split at h0
    · rename_i hx
      cases k with
      | zero =>
        have : x = v := by simpa using h
        subst this
        simpa using hx
      | succ k =>
        have := valsErr_ok p r (done ++ [x]) h0 k v (by simpa using h)
        rw [List.take_succ_cons]
        simpa using this
    · rename_i hx; exact absurd h0 hx
theorem signErr_ok {s : Sg} {p : Int} (h : signErr s p = 0) : valsErr p [] s.vals = 0 := by
  unfold signErr at h
  split at h
  · cases h
  · split at h
    · cases h
    · exact h
theorem signsErr_ok (p : Int) : ∀ (r done : List Sg), signsErr p done r = 0 → ∀ (k : Nat) (s : Sg), r[k]? = some s → signErr s p = 0
  | [], _, _, k, v, h => by simp at h
  | x :: r, done, h0, k, v, h => by
    unfold signsErr at h0
    split at h0
    · cases h0
    · split at h0
      · rename_i hx
        cases k with
        | zero =>
          have : x = v := by simpa using h
          subst this; exact hx
        | succ k => exact signsErr_ok p r (done ++ [x]) h0 k v (by simpa using h)
      · rename_i hx; exact absurd h0 hx
theorem signs_ok2 {l : Li} (h : checkErr l = 0) : signsErr l.per [] l.signs = 0 := by
  unfold checkErr at h
  split at h
  · exact absurd h (by decide)
  · split at h
    · exact absurd h (by decide)
    · exact h
theorem vals_ok {l : Li} (h : checkErr l = 0) {i : Nat} {s : Sg} (hs : l.signs[i]? = some s) {k : Nat} {v : Va} (hv : s.vals[k]? = some v) : valErr v (s.vals.take k) l.per = 0 := by
  have := valsErr_ok l.per s.vals [] (signErr_ok (signsErr_ok l.per l.signs [] (signs_ok2 h) i s hs)) k v hv
  simpa using this
theorem used_ok {l : Li} (h : checkErr l = 0) {i : Nat} {s : Sg} (hs : l.signs[i]? = some s) {p : Int} {v : Va} (hv : v ∈ usedV s.vals p) : kindB v.kind = true ∧ textB v.kind v.text = true := by
  unfold usedV at hv
  obtain ⟨k, hk⟩ := List.getElem?_of_mem (List.mem_filter.1 hv).1
  have := valErr_ok (vals_ok h hs hk)
  exact ⟨this.1, this.2.1⟩
/-- no two values that a sign uses have one kind and one text -/
theorem used_apart (P p : Int) : ∀ (vs : List Va), (∀ (k : Nat) (v : Va), vs[k]? = some v → valErr v (vs.take k) P = 0) → ∀ (j k : Nat) (u v : Va), j < k → (usedV vs p)[j]? = some u → (usedV vs p)[k]? = some v → u.kind = v.kind → strEq u.text v.text = true → False := by
  intro vs h j k u v hjk hu hv hkd htx
  have hsub : List.Pairwise (fun a b : Va => ¬ (useB a p = true ∧ useB b p = true ∧ a.kind = b.kind ∧ strEq a.text b.text = true)) vs := by
    rw [List.pairwise_iff_getElem]
    intro a b ha hb hab hc
    have h1 := (valErr_ok (h b vs[b] (List.getElem?_eq_getElem hb))).2.2
    have h2 := List.any_eq_false.1 h1 vs[a] (List.mem_of_getElem? (by rw [List.getElem?_take, if_pos hab]; exact List.getElem?_eq_getElem ha))
    obtain ⟨c1, c2, c3, c4⟩ := hc
    simp [useB] at c1 c2
    apply h2
    simp [collideB, c3, c4]
    omega
  have hp := hsub.filter (fun v => useB v p)
  obtain ⟨hj, rfl⟩ := List.getElem?_eq_some_iff.1 hu
  obtain ⟨hk, rfl⟩ := List.getElem?_eq_some_iff.1 hv
  have := (List.pairwise_iff_getElem.1 hp) j k hj hk hjk
  refine this ⟨?_, ?_, hkd, htx⟩
  · exact (List.mem_filter.1 (List.getElem_mem hj)).2
  · exact (List.mem_filter.1 (List.getElem_mem hk)).2
theorem bearFrom_mem (k : Int) (t : ByteArray) (p : Int) : ∀ (l : List Sg) (i j : Nat) (s : Sg), l[j]? = some s → bearB s k t p = true → ((i + j : Nat) : Int) ∈ bearFrom k t p i l
  | [], _, j, _, h, _ => by simp at h
  | x :: l, i, j, s, h, hb => by
    unfold bearFrom
    cases j with
    | zero =>
      have : x = s := by simpa using h
      subst this
      rw [if_pos hb]
      simp
    | succ j =>
      have := bearFrom_mem k t p l (i + 1) j s (by simpa using h) hb
      have e : i + 1 + j = i + (j + 1) := by omega
      rw [e] at this
      split
      · exact List.mem_cons.2 (Or.inr this)
      · exact this
theorem bear_used {s : Sg} {p : Int} {v : Va} (hv : v ∈ usedV s.vals p) : bearB s v.kind v.text p = true := by
  unfold usedV at hv
  have := List.mem_filter.1 hv
  unfold bearB
  rw [List.any_eq_true]
  exact ⟨v, this.1, by simp [bearV, strEq_refl]; simpa using this.2⟩
theorem sip_ok {l : Li} {i : Nat} {p : Int} {s : Sg} (h : checkErr l = 0) (hp : withinB p l.per = true) (hs : l.signs[i]? = some s) : sipErr l i p = 0 := by
  unfold sipErr
  rw [if_neg (by rw [h]; decide), if_neg, if_neg (by rw [hp]; decide)]
  have := (List.getElem?_eq_some_iff.1 hs).1
  simp [hasB]; omega
theorem vals_of_ok {l : Li} {i : Nat} {p : Int} {s : Sg} (h : checkErr l = 0) (hp : withinB p l.per = true) (hs : l.signs[i]? = some s) : valsR l i p = (usedV s.vals p, 0) := by
  unfold valsR
  rw [if_neg (by rw [sip_ok h hp hs]; decide), sOf hs]
theorem bearers_ok {l : Li} {p k : Int} {t : ByteArray} (h : checkErr l = 0) (hp : withinB p l.per = true) (hk : kindB k = true) : bearersR l k t p = (bearFrom k t p 0 l.signs, 0) := by
  unfold bearersR
  rw [if_neg (by rw [h]; decide), if_neg (by rw [hk]; decide), if_neg (by rw [hp]; decide)]
theorem idxFrom_mem (x : Int) : ∀ (zs : List Int) (i : Nat), x ∈ zs → ∃ k, zs[k]? = some x ∧ Lib.idxFrom zs x i = ((i + k : Nat) : Int)
  | [], _, h => by simp at h
  | z :: zs, i, h => by
    unfold Lib.idxFrom
    by_cases hz : z = x
    · exact ⟨0, by simp [hz], by rw [if_pos hz]; simp⟩
    · have hm : x ∈ zs := by
        rcases List.mem_cons.1 h with e | e
        · exact absurd e.symm hz
        · exact e
      obtain ⟨k, h1, h2⟩ := idxFrom_mem x zs (i + 1) hm
      refine ⟨k + 1, by simpa using h1, ?_⟩
      rw [if_neg hz, h2]
      congr 1
      omega

theorem dec_ne (v : Nat) : Lib.decDigits v ≠ [] := by
  by_cases h : v < 10
  · rw [dec_small v h]; simp
  · rw [dec_big v h]; simp
theorem dig_of {d : Nat} (h : d < 10) : digB (UInt8.ofNat (48 + d)) = true := by
  have : (UInt8.ofNat (48 + d)).toNat = 48 + d := by simp [UInt8.toNat_ofNat]; omega
  simp only [digB, this, Bool.and_eq_true, decide_eq_true_eq]; omega
theorem dec_all (v : Nat) : (Lib.decDigits v).all digB = true := by
  induction v using Nat.strongRecOn with
  | ind v ih =>
    by_cases h : v < 10
    · rw [dec_small v h, List.all_cons, dig_of h]; rfl
    · rw [dec_big v h, List.all_append, ih (v / 10) (by omega), List.all_cons, dig_of (Nat.mod_lt _ (by omega))]; rfl
theorem dec_head (v : Nat) (h1 : 1 ≤ v) : (Lib.decDigits v).head? ≠ some 48 := by
  induction v using Nat.strongRecOn with
  | ind v ih =>
    by_cases h : v < 10
    · rw [dec_small v h]
      intro e
      have e : UInt8.ofNat (48 + v) = 48 := by simpa using e
      have h2 : (UInt8.ofNat (48 + v)).toNat = 48 + v := by simp [UInt8.toNat_ofNat]; omega
      rw [e] at h2
      have : (48 : UInt8).toNat = 48 := rfl
      omega
    · rw [dec_big v h, head_app (dec_ne _)]
      exact ih (v / 10) (by omega) (by omega)
theorem dec_len2 (v : Nat) (h : v ≤ 999) : (Lib.decDigits v).length ≤ 3 := by
  unfold Lib.decDigits; split
  · simp
  unfold Lib.decDigits; split
  · simp
  unfold Lib.decDigits; split
  · simp
  omega
theorem bytes_inj {a b : ByteArray} (h : bytes a = bytes b) : a = b := by
  cases a; cases b
  simp [bytes] at h
  rw [h]
theorem bytes_app (a b : ByteArray) : bytes (a ++ b) = bytes a ++ bytes b := by simp [bytes]

/-- the name of a sound that a sign bears: how it begins, and what is read of it -/
theorem name_read {l : Li} {i : Nat} {p : Int} {s : Sg} {t : ByteArray} (h : checkErr l = 0) (hp : withinB p l.per = true) (hs : l.signs[i]? = some s) (ht : textB 1 t = true) (hb : bearB s 1 t p = true) :
    ∃ x : ByteArray, nameR l i t p = (x, 0) ∧ x.size ≤ 1000 ∧ t.size ≤ x.size ∧ ((bytes x).take t.size).all letB = true ∧ (∀ h : t.size < x.size, letB x[t.size] = false) ∧ pnameR l x t.size p = ((i : Int), t, 0) := by
  have hmem := bearFrom_mem 1 t p l.signs 0 i s hs hb
  rw [Nat.zero_add] at hmem
  obtain ⟨zs, hzs⟩ : ∃ zs, zs = bearFrom 1 t p 0 l.signs := ⟨_, rfl⟩
  have hzl : zs.length ≤ 200 := by rw [hzs]; exact Nat.le_trans (bearFrom_len 1 t p l.signs 0) (signs_le h)
  rw [← hzs] at hmem
  obtain ⟨k, hk, hix⟩ := idxFrom_mem i zs 0 hmem
  rw [Nat.zero_add] at hix
  have hkl := (List.getElem?_eq_some_iff.1 hk).1
  have hN : nameR l i t p = if (k : Int) = 0 then (t, 0) else (t ++ ⟨(Lib.decDigits (k + 1)).toArray⟩, 0) := by
    unfold nameR
    rw [if_neg (by rw [sip_ok h hp hs]; decide), ← hzs]
    rw [show Lib.idxOf zs i = (k : Int) from hix, if_neg (by omega)]
    by_cases hk0 : (k : Int) = 0
    · rw [if_pos hk0, if_pos hk0]
    · rw [if_neg hk0, if_neg hk0]
      have : Lib.itoa ((k : Int) + 1) = Lib.decDigits (k + 1) := by unfold Lib.itoa; rw [if_neg (by omega)]; rfl
      rw [this]
  have htl := text_let ht
  have hts : t.size ≤ 8 := by simp [textB, withinB] at ht; omega
  have hgd : zs.getD k 0 = (i : Int) := by rw [List.getD, hk]; rfl
  by_cases hk0 : k = 0
  · subst hk0
    refine ⟨t, by rw [hN]; simp, by omega, Nat.le_refl _, by rw [take_full]; exact htl, fun h => absurd h (Nat.lt_irrefl _), ?_⟩
    have hsp : splitP t t.size = (t, 1, true) := by
      unfold splitP
      have e : t.extract 0 t.size = t := by simp
      rw [e, if_neg (by rw [ht]; decide), if_pos rfl]
    rw [pnameR_ok h hp hsp, ← hzs, if_neg (by omega)]
    show (zs.getD 0 0, t, (0 : Int)) = _
    rw [hgd]
  · obtain ⟨D, hD⟩ : ∃ D : ByteArray, D = ⟨(Lib.decDigits (k + 1)).toArray⟩ := ⟨_, rfl⟩
    have hDb : bytes D = Lib.decDigits (k + 1) := by rw [hD]; simp [bytes]
    have hDl := dec_len (k + 1) (by omega)
    have hDl2 := dec_len2 (k + 1) (by omega)
    have hDs : D.size = (Lib.decDigits (k + 1)).length := by rw [← hDb, bytes_length]
    have hDne : bytes D ≠ [] := by rw [hDb]; exact dec_ne _
    have hDal : (bytes D).all digB = true := by rw [hDb]; exact dec_all _
    have hDh : (bytes D).head? ≠ some 48 := by rw [hDb]; exact dec_head (k + 1) (by omega)
    have hnum : numV (bytes D) = ((k + 1 : Nat) : Int) := by rw [hDb]; exact dec_num _
    have hD1 : bytes D ≠ [49] := fun e => by
      rw [e] at hnum
      have : numV [49] = 1 := by decide
      omega
    have hpg := place_good hDal hDne hDh hD1
    have hpl : placeF (bytes D) = ((k + 1 : Nat) : Int) := by rw [placeF_num _ hDal, hnum]; omega
    have hx : bytes (t ++ D) = bytes t ++ bytes D := bytes_app t D
    have hpos : 0 < D.size := by
      rw [hDs]; exact List.length_pos_iff.2 (dec_ne _)
    have hsz : (t ++ D).size = t.size + D.size := by simp
    have e1 : (t ++ D).extract 0 t.size = t := bytes_inj (by rw [bytes_pre, hx, ← bytes_length t, List.take_left])
    have e2 : (t ++ D).extract t.size (t ++ D).size = D := bytes_inj (by rw [bytes_post, hx, ← bytes_length t, List.drop_left])
    refine ⟨t ++ D, by rw [hN, if_neg (by omega), ← hD], by omega, by omega, ?_, fun hlt => ?_, ?_⟩
    · rw [hx, ← bytes_length t, List.take_left]; exact htl
    · have hb1 : (bytes (t ++ D))[t.size]? = (bytes D)[0]? := by
        rw [hx, List.getElem?_append_right (by rw [bytes_length]; omega), bytes_length, Nat.sub_self]
      rw [bytes_at _ _ hlt] at hb1
      have hmem := List.mem_of_getElem? hb1.symm
      have hdg := List.all_eq_true.1 hDal _ hmem
      cases hl : letB (t ++ D)[t.size] with
      | false => rfl
      | true => rw [let_not_dig hl] at hdg; cases hdg
    · have hsp : splitP (t ++ D) t.size = (t, ((k + 1 : Nat) : Int), true) := by
        unfold splitP
        rw [e1, if_neg (by rw [ht]; decide), if_neg (by omega), e2, hpg.1, hpl]
      rw [pnameR_ok h hp hsp, ← hzs, if_neg (by omega), show (((k + 1 : Nat) : Int) - 1).toNat = k by omega, hgd]

end Go.Proofs.YthnhpgmohhaeaaaDoor
