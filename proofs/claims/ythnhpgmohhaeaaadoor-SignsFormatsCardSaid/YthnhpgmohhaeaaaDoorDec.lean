/-
  Contracts of the specification's Decimal and Name.
-/
import Derived.Test.YthnhpgmohhaeaaaDoorVals
namespace Go.Proofs.YthnhpgmohhaeaaaDoor
open Go.RowKit

theorem dig_at (d : Nat) (h : d < 10) : (⟨#[48, 49, 50, 51, 52, 53, 54, 55, 56, 57]⟩ : ByteArray).extract d (d + 1) = ⟨#[UInt8.ofNat (48 + d)]⟩ := by
  have : ∀ d : Fin 10, (⟨#[48, 49, 50, 51, 52, 53, 54, 55, 56, 57]⟩ : ByteArray).extract d (d + 1) = ⟨#[UInt8.ofNat (48 + d)]⟩ := by decide +kernel
  exact this ⟨d, h⟩
theorem dec_small (n : Nat) (h : n < 10) : Lib.decDigits n = [UInt8.ofNat (48 + n)] := by unfold Lib.decDigits; rw [dif_pos h]
theorem dec_big (n : Nat) (h : ¬ n < 10) : Lib.decDigits n = Lib.decDigits (n / 10) ++ [UInt8.ofNat (48 + n % 10)] := by rw [Lib.decDigits, dif_neg h]
theorem dec_len (n : Nat) (h : n ≤ 1000001) : (Lib.decDigits n).length ≤ 1000 := by
  have := itoa_len n (by omega) (by omega)
  rwa [show Lib.itoa (n : Int) = Lib.decDigits n by unfold Lib.itoa; rw [if_neg (by omega)]; simp] at this

theorem of_text {a b : ByteArray} (h : a = b) : Ending.returned (.string a) = .returned (.string b) := by rw [h]

set_option maxHeartbeats 800000 in
theorem decimal_any (n : Nat) : ∀ (_ : n ≤ 1000001) (w : World), Calls Tryd.prog 54 #[.int .i64 n] w fun e w' => e = .returned (.string ⟨(Lib.decDigits n).toArray⟩) ∧ Below w.heap.size w w' := by
  induction n using Nat.strongRecOn with
  | ind n ih =>
    intro h w
    have HD := Lib.hid (dig_at (n % 10) (by omega))
    by_cases hlt : n < 10
    · have HF := Lib.hid (dec_small n hlt)
      clear ih
      go_enter Tryd.func54, Tryd.ntmps54
      go_wp2
      go_ret
      exact ⟨of_text (by rw [HD.out, HF.out, show n % 10 = n by omega]), Below.refl _ _⟩
    · have HF := Lib.hid (dec_big n hlt)
      have HL := Lib.hid (dec_len (n / 10) (by omega))
      have HI := Lib.hid (fun w => show Calls Tryd.prog 54 #[.int .i64 ((n : Int) / 10)] w fun e w' => e = .returned (.string ⟨(Lib.decDigits (n / 10)).toArray⟩) ∧ Below w.heap.size w w' by
        have := ih (n / 10) (by omega) (by omega) w
        rwa [show ((n / 10 : Nat) : Int) = (n : Int) / 10 by omega] at this)
      obtain ⟨D, hD⟩ : ∃ D : ByteArray, D = ⟨(Lib.decDigits (n / 10)).toArray⟩ := ⟨_, rfl⟩
      have hDs : D.size ≤ 1000 := by rw [hD]; show (Lib.decDigits (n / 10)).toArray.size ≤ 1000; rw [List.size_toArray]; exact HL.out
      have HDD := Lib.hid hD
      rw [← hD] at HI
      have hX : ((⟨#[48, 49, 50, 51, 52, 53, 54, 55, 56, 57]⟩ : ByteArray).extract (n % 10) (n % 10 + 1)).size = 1 := by rw [HD.out]; rfl
      clear ih hD
      go_enter Tryd.func54, Tryd.ntmps54
      go_wp2_with fail
      refine (HI.out _).mono ?_; rintro e w1 ⟨rfl, hb⟩
      have hb := Lib.hid hb
      go_wp2
      go_ret
      refine ⟨of_text ?_, hb.out⟩
      rw [HD.out, HF.out, HDD.out]
      apply ByteArray.ext
      simp

/-- the numbers that the specification's Name goes by -/
theorem idxFrom_at (x : Int) : ∀ (zs : List Int) (i k : Nat), k < zs.length → zs[k]? = some x → (∀ j, j < k → zs[j]? ≠ some x) → Lib.idxFrom zs x i = (i + k : Nat)
  | [], _, _, h, _, _ => by simp at h
  | z :: zs, i, 0, _, h, _ => by
    simp at h; subst h
    simp [Lib.idxFrom]
  | z :: zs, i, k + 1, hk, h, hno => by
    have hz : z ≠ x := fun e => hno 0 (by omega) (by simp [e])
    have ih := idxFrom_at x zs (i + 1) k (by simpa using hk) (by simpa using h) (fun j hj => by have := hno (j + 1) (by omega); simpa using this)
    simp [Lib.idxFrom, hz, ih]
    omega
theorem idxFrom_none (x : Int) : ∀ (zs : List Int) (i : Nat), (∀ z ∈ zs, z ≠ x) → Lib.idxFrom zs x i = -1
  | [], _, _ => by simp [Lib.idxFrom]
  | z :: zs, i, h => by
    have hz : z ≠ x := h z (by simp)
    simp [Lib.idxFrom, hz, idxFrom_none x zs (i + 1) (fun y hy => h y (by simp [hy]))]

theorem bearers_of_sip {l : Li} {i p : Int} (h : sipErr l i p = 0) (t : ByteArray) : bearersR l 1 t p = (bearFrom 1 t p 0 l.signs, 0) := by
  unfold sipErr at h
  unfold bearersR
  by_cases h1 : checkErr l ≠ 0
  · rw [if_pos h1] at h; exact absurd h h1
  · rw [if_neg h1] at h
    by_cases h2 : hasB l.signs.length i = false
    · rw [if_pos h2] at h; exact absurd h (by decide)
    · rw [if_neg h2] at h
      by_cases h3 : withinB p l.per = false
      · rw [if_pos h3] at h; exact absurd h (by decide)
      · rw [if_neg h1, if_neg (by decide), if_neg h3]

set_option maxHeartbeats 1600000 in
theorem rname_any (l : Lm) (i : Int) (t : ByteArray) (p : Int) (w : World) (hl : LmOk w l) (hsm : l.ms.length ≤ 1000000) (hvm : ∀ m ∈ l.ms, m.s.vals.length ≤ 1000000) (ht : t.size ≤ 1000000) :
    Calls Tryd.prog 29 #[l.val, .int .i64 i, .string t, .int .i64 p] w fun e w' => e = .returned (.tuple #[.string (nameR l.li i t p).1, .int .i64 (nameR l.li i t p).2]) ∧ Below w.heap.size w w' := by
  have H0 := Lib.hid (show LmOk (w.alloc (.cells #[.int .i64 l.per, .slice l.A l.ms.length l.cap] 24)) l from hl.below (below_alloc _ _))
  have C0 := Lib.hid (heap_alloc_new w (.cells #[.int .i64 l.per, .slice l.A l.ms.length l.cap] 24))
  have HV := Lib.hid (fun w (h : LmOk w l) => show Calls Tryd.prog 21 #[.agg #[.int .i64 l.per, .slice l.A l.ms.length l.cap], .int .i64 i, .int .i64 p] w (GotValsE w (valsR l.li i p)) from rvalues_any l i p w h hvm)
  have HB := Lib.hid (fun w (h : LmOk w l) => show Calls Tryd.prog 26 #[.agg #[.int .i64 l.per, .slice l.A l.ms.length l.cap], .int .i64 1, .string t, .int .i64 p] w (GotIntsE w (bearersR l.li 1 t p)) from rbearers_any l 1 t p w h hsm hvm)
  have HT := Lib.hid ht
  have HSM := Lib.hid hsm
  clear hl hvm hsm ht
  show Calls _ _ #[.agg #[.int .i64 l.per, .slice l.A l.ms.length l.cap], .int .i64 i, .string t, .int .i64 p] w _
  obtain ⟨E, hE⟩ : ∃ E, E = sipErr l.li i p := ⟨_, rfl⟩
  have HE := Lib.hid hE.symm
  have hv2 : (valsR l.li i p).2 = E := by
    unfold valsR
    by_cases h : sipErr l.li i p ≠ 0
    · rw [if_pos h]; exact hE.symm
    · rw [if_neg h]; simp at h; rw [hE, h]
  obtain ⟨⟨vs, ve⟩, hq⟩ : ∃ q, q = valsR l.li i p := ⟨_, rfl⟩
  rw [← hq] at HV hv2
  dsimp only at hv2
  subst hv2
  clear hq
  by_cases h0 : ve = 0
  case neg =>
    have hb : (ve != 0) = true := by simpa using h0
    have HF := Lib.hid (show nameR l.li i t p = (⟨#[]⟩, ve) by unfold nameR; rw [HE.out, if_pos h0])
    clear hE h0
    go_enter Tryd.func29, Tryd.ntmps29
    go_wp2_with fail
    refine (HV.out _ H0.out).mono ?_; rintro e w1 ⟨A, c, rfl, -, -, -, hb1⟩
    go_wp2
    go_ret2
    exact ⟨ret_si HF.out.symm, below_of hb1⟩
  subst h0
  clear hE
  obtain ⟨zs, hzs⟩ : ∃ zs, zs = bearFrom 1 t p 0 l.signs := ⟨_, rfl⟩
  have hzl : zs.length ≤ l.ms.length := by rw [hzs]; have := bearFrom_len 1 t p l.signs 0; rw [Lm.length_signs] at this; exact this
  have HR := Lib.hid (show nameR l.li i t p = if Lib.idxOf zs i = -1 then (⟨#[]⟩, 3) else if Lib.idxOf zs i = 0 then (t, 0) else (t ++ ⟨(Lib.itoa (Lib.idxOf zs i + 1)).toArray⟩, 0) by
    unfold nameR; rw [HE.out, if_neg (by simp), show l.li.signs = l.signs from rfl, ← hzs])
  rw [bearers_of_sip HE.out t, show l.li.signs = l.signs from rfl, ← hzs] at HB
  have hnm : zs.length ≤ 1000000 := Nat.le_trans hzl HSM.out
  clear hzs hzl
  go_enter Tryd.func29, Tryd.ntmps29
  go_wp2_with fail
  refine (HV.out _ H0.out).mono ?_; rintro e w1 ⟨A, c, rfl, -, -, -, hb1⟩
  have x0 := cell_of_blk (blk_keep hb1 C0.out) 0
  have x1 := cell_of_blk (blk_keep hb1 C0.out) 1
  simp at x0 x1
  have b1 := Lib.hid (below_of hb1)
  have H2 := Lib.hid (H0.out.below hb1)
  clear hb1
  go_wp2_with fail
  refine (HB.out _ H2.out).mono ?_; rintro e w2 ⟨A2, c2, rfl, hi, hn, hb2⟩
  dsimp only at hi hn ⊢
  have b2 := Lib.hid (below_more b1.out hb2)
  have HI := Lib.hid hi
  have HN := Lib.hid hn
  clear hb2 hi hn x0 x1
  obtain ⟨n, hnn⟩ : ∃ n, n = zs.length := ⟨_, rfl⟩
  rw [← hnn] at hnm ⊢
  have HZ := Lib.hid hnn
  clear hnn
  go_wp2
  go_loop [14] (fun v => ∃ k : Nat, k ≤ n ∧ v = .int .i64 k ∧ Hid (∀ j, j < k → zs[j]? ≠ some i)) (fun v => n - (intOf v).toNat)
  case atStart => exact ⟨0, Nat.zero_le _, rfl, Lib.hid (fun j hj => absurd hj (by omega))⟩
  case round =>
    obtain ⟨k, hk, rfl, hno⟩ := hrel
    by_cases hlt : k < n
    · have hkz : k < zs.length := by rw [← HZ.out]; exact hlt
      have hget : zs[k]? = some zs[k] := List.getElem?_eq_getElem hkz
      obtain ⟨z, hz⟩ : ∃ z, z = zs[k] := ⟨_, rfl⟩
      rw [← hz] at hget
      have GET := Lib.hid hget
      obtain ⟨g, o, hA, hgl, hcell⟩ : ∃ g, ∃ _ : Unit, A2 = some ⟨g, 0, none⟩ ∧ g < w2.heap.size ∧ w2.cell? ⟨g, k, none⟩ = some (.int .i64 z) := by
        cases hA2 : A2 with
        | none => have := HN.out hA2; rw [this] at hkz; simp at hkz
        | some ad =>
          obtain ⟨g, rfl, hg, hc⟩ := HI.out ad hA2
          refine ⟨g, (), rfl, hg, ?_⟩
          rw [hc k hkz]
          have : zs.getD k 0 = z := by rw [List.getD, hget]; rfl
          rw [this]
      subst hA
      clear hget hz hkz
      by_cases hzi : (z == i) = true
      case neg =>
        have hzi : (z == i) = false := by simpa using hzi
        have hst := Lib.hid (show ∀ j, j < k + 1 → zs[j]? ≠ some i from fun j hj => by
          rcases Nat.lt_succ_iff_lt_or_eq.1 hj with h | h
          · exact hno.out j h
          · subst h; rw [GET.out]; intro e; injection e with e; simp [e] at hzi)
        go_wp2
        go_round
        case rel => exact ⟨k + 1, by omega, by go_num, hst⟩
        case measure => simp [intOf]; omega
      have HIX := Lib.hid (show Lib.idxOf zs i = (k : Int) by
        have := idxFrom_at i zs 0 k (by rw [← HZ.out]; exact hlt) (by rw [GET.out]; simp at hzi; rw [hzi]) hno.out
        unfold Lib.idxOf; rw [this]; simp)
      by_cases hk0 : ((k : Int) == 0) = true
      · have HF := Lib.hid (show nameR l.li i t p = (t, 0) by
          rw [HR.out, HIX.out]; simp at hk0; rw [if_neg (by omega), if_pos (by omega)])
        go_wp2
        go_ret2
        exact ⟨ret_si HF.out.symm, b2.out⟩
      · have hk0 : ((k : Int) == 0) = false := by simpa using hk0
        have HF := Lib.hid (show nameR l.li i t p = (t ++ ⟨(Lib.decDigits (k + 1)).toArray⟩, 0) by
          rw [HR.out, HIX.out]; simp at hk0; rw [if_neg (by omega), if_neg (by omega)]
          have : Lib.itoa ((k : Int) + 1) = Lib.decDigits (k + 1) := by unfold Lib.itoa; rw [if_neg (by omega)]; rfl
          rw [this])
        have HL := Lib.hid (dec_len (k + 1) (by omega))
        obtain ⟨D, hD⟩ : ∃ D : ByteArray, D = ⟨(Lib.decDigits (k + 1)).toArray⟩ := ⟨_, rfl⟩
        have hDs : D.size ≤ 1000 := by rw [hD]; show (Lib.decDigits (k + 1)).toArray.size ≤ 1000; rw [List.size_toArray]; exact HL.out
        have HDE := Lib.hid (fun w => show Calls Tryd.prog 54 #[.int .i64 ((k : Int) + 1)] w fun e w' => e = .returned (.string D) ∧ Below w.heap.size w w' by
          rw [hD]; exact decimal_any (k + 1) (by omega) w)
        rw [← hD] at HF
        have hsum : t.size + D.size ≤ 9223372036854775807 := by have := HT.out; omega
        clear hD
        go_wp2_with fail
        refine (HDE.out _).mono ?_; rintro e w3 ⟨rfl, hb3⟩
        have b3 := Lib.hid (below_more b2.out hb3)
        clear hb3
        go_wp2
        go_ret2
        exact ⟨ret_si HF.out.symm, b3.out⟩
    · obtain rfl : k = n := by omega
      have HF := Lib.hid (show nameR l.li i t p = (⟨#[]⟩, 3) by
        rw [HR.out, if_pos]
        refine idxFrom_none i zs 0 (fun z hz e => ?_)
        obtain ⟨j, hj⟩ := List.getElem?_of_mem hz
        exact hno.out j (by rw [HZ.out]; exact (List.getElem?_eq_some_iff.1 hj).1) (by rw [hj, e]))
      go_wp2
      go_ret2
      exact ⟨ret_si HF.out.symm, b2.out⟩
end Go.Proofs.YthnhpgmohhaeaaaDoor
