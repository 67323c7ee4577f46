/-
  The specification's color (layer 9).
-/
import Derived.Test.YtcpfhaoecggflaaZHnM
import Derived.Test.YtcpfhaoecggflaaZPrs
namespace Go.Proofs.Ytcpfhaoecggflaa
open Go.RowKit

/-- pairs of copies in memory -/
def PsIn (w : World) (P : Option Addr) (ps : List (Nat × Nat)) : Prop := ∀ (k : Nat) (p : Nat × Nat), ps[k]? = some p → ∃ b o, P = some ⟨b, o, none⟩ ∧ b < w.heap.size ∧ w.cell? ⟨b, o + k * 2, none⟩ = some (.int .i64 (p.1 : Nat)) ∧ w.cell? ⟨b, o + k * 2 + 1, none⟩ = some (.int .i64 (p.2 : Nat))
theorem PsIn.below {w w' : World} {P : Option Addr} {ps : List (Nat × Nat)} (h : PsIn w P ps) (hb : Below w.heap.size w w') : PsIn w' P ps := fun k p hk => by
  obtain ⟨b, o, e, hlt, h1, h2⟩ := h k p hk
  exact ⟨b, o, e, Nat.lt_of_lt_of_le hlt hb.size, ((bcell hb).1 _ _ hlt).trans h1, ((bcell hb).1 _ _ hlt).trans h2⟩
structure PsOk (ap : Nat → Nat → Bool) (n : Nat) (ps : List (Nat × Nat)) : Prop where
  ok : ∀ p ∈ ps, p.1 < p.2 ∧ p.2 < n ∧ ap p.1 p.2 = true
  all : ∀ i k, i < k → k < n → ap i k = true → (i, k) ∈ ps
def hitP (hs : List Nat) (c : Nat) (p : Nat × Nat) : Bool := (p.2 == hs.length) && (hs[p.1]? == some c)
theorem hit_clash {ap : Nat → Nat → Bool} {n : Nat} {ps : List (Nat × Nat)} (h : PsOk ap n ps) (hs : List Nat) (hl : hs.length < n) (c : Nat) : ps.any (hitP hs c) = clash ap hs c hs.length := by
  unfold clash hitP
  rw [Bool.eq_iff_iff, List.any_eq_true, List.any_eq_true]
  constructor
  · rintro ⟨p, hp, h1⟩
    obtain ⟨a, b, d⟩ := h.ok p hp
    simp only [Bool.and_eq_true, beq_iff_eq] at h1
    refine ⟨p.1, List.mem_range.2 (by omega), ?_⟩
    simp only [Bool.and_eq_true, beq_iff_eq]
    exact ⟨h1.2, by rw [← h1.1]; exact d⟩
  · rintro ⟨x, hx, h1⟩
    simp only [Bool.and_eq_true, beq_iff_eq] at h1
    have hx := List.mem_range.1 hx
    refine ⟨(x, hs.length), h.all x hs.length hx hl h1.2, ?_⟩
    simp only [Bool.and_eq_true, beq_iff_eq]
    exact ⟨trivial, h1.1⟩
def GotCo (w : World) (hs : List Nat) (r : Option (List Nat)) (e : Ending) (w' : World) : Prop :=
  ∃ A c l, e = .returned (.slice A l.length c) ∧ Hid (l = r.getD hs) ∧ Hid (IntsIn w' A (toZ l)) ∧ Below w.heap.size w w'
theorem fold_ge : ∀ (l : List Nat) (m : Nat), m ≤ l.foldl (fun m c => max m (c + 1)) m
  | [], _ => Nat.le_refl _
  | x :: l, m => Nat.le_trans (Nat.le_max_left m (x + 1)) (fold_ge l _)
theorem usedOf_take (hs : List Nat) (j : Nat) : usedOf (hs.take j) ≤ usedOf hs := by
  have h : usedOf hs = (hs.drop j).foldl (fun m c => max m (c + 1)) (usedOf (hs.take j)) := by
    unfold usedOf; rw [← List.foldl_append, List.take_append_drop]
  rw [h]; exact fold_ge _ _
theorem toZ_at {hs : List Nat} {k o : Nat} (h : hs[k]? = some o) : (toZ hs)[k]? = some (o : Int) := by unfold toZ; rw [List.getElem?_map, h]; rfl

theorem one_oneN' (x : Int) : ∀ u ∈ [Value.int .i64 x], u.oneCell' = true := fun u hu => by
  simp at hu
  rw [hu]; rfl

set_option maxRecDepth 100000 in
set_option maxHeartbeats 12800000 in
theorem color_any (ap : Nat → Nat → Bool) (n most : Nat) (ps : List (Nat × Nat)) (P : Option Addr) (cp : Nat) (hps : PsOk ap n ps) (hn8 : n ≤ 8) (hm8 : most ≤ 8) (hpl : ps.length ≤ 1000) :
    ∀ (f : Nat) (hs : List Nat) (A : Option Addr) (c : Nat) (w : World), n = hs.length + f → usedOf hs ≤ hs.length → IntsIn w A (toZ hs) → PsIn w P ps →
    Calls Try.prog 74 #[.slice A hs.length c, .int .i64 n, .int .i64 most, .slice P ps.length cp] w (GotCo w hs (giveF ap n most f hs)) := by
  intro f
  induction f with
  | zero =>
    intro hs A c w hl hu hA hP
    rw [giveF_done ap n most 0 hs (by omega)]
    have HG := Lib.hid (show GotCo w hs (some hs) (.returned (.slice A hs.length c)) w from ⟨A, c, hs, rfl, Lib.hid rfl, Lib.hid hA, Below.refl _ _⟩)
    obtain rfl : n = hs.length := by omega
    obtain ⟨L, hL⟩ : ∃ L, L = hs.length := ⟨_, rfl⟩
    rw [← hL] at HG ⊢
    have f1 : ((L : Int) == (L : Int)) = true := by simp
    clear hl hu hA hP hL hps hn8
    go_enter Try.func74, Try.ntmps74
    go_wp2
    go_ret
    exact HG.out
  | succ f ih =>
    intro hs A c w hl hu hA hP
    have HR := Lib.hid (giveF_go ap n most f hs (by omega))
    obtain ⟨r, hr⟩ : ∃ r, r = giveF ap n most (f + 1) hs := ⟨_, rfl⟩
    rw [← hr] at HR ⊢
    obtain ⟨M, hM⟩ : ∃ M, M = min (usedOf hs + 1) most := ⟨_, rfl⟩
    rw [← hM, ← from_zero] at HR
    have HI := Lib.hid ih
    have HU := Lib.hid hu
    have HAI := Lib.hid hA
    have HPI := Lib.hid hP
    have HIT := Lib.hid (fun k => hit_clash hps hs (by omega) k)
    have HPO := Lib.hid (fun p hp => hps.ok p hp)
    have HHZ := Lib.hid (fun (k o : Nat) (h : hs[k]? = some o) => hA k o (toZ_at h))
    obtain ⟨U, hU⟩ : ∃ U, U = usedOf hs := ⟨_, rfl⟩
    rw [← hU] at hM hu
    obtain ⟨L, hL⟩ : ∃ L, L = hs.length := ⟨_, rfl⟩
    rw [← hL] at hl hu
    obtain ⟨Q, hQ⟩ : ∃ Q, Q = ps.length := ⟨_, rfl⟩
    rw [← hQ] at hpl
    have HQ := Lib.hid hQ
    have HL := Lib.hid hL
    have HUU := Lib.hid hU
    have HMM := Lib.hid hM
    have f1 : ((L : Int) == (n : Int)) = false := beq_eq_false_iff_ne.2 (by omega)
    have hL8 : L ≤ 8 := by omega
    have hU8 : U ≤ 8 := by omega
    have HLF := Lib.hid hl
    rw [← hL, ← hQ]
    clear hr hL hU hQ ih hA hP hM hl hps
    go_enter Try.func74, Try.ntmps74
    go_wp2
    go_loop [9, 10] (fun z u => ∃ j : Nat, j ≤ L ∧ u = .int .i64 j ∧ z = .int .i64 (usedOf (hs.take j) : Nat) ∧ usedOf (hs.take j) ≤ 9) (fun _ u => L - (intOf u).toNat)
    case atStart => exact ⟨0, Nat.zero_le _, rfl, rfl, by simp [usedOf]⟩
    case round =>
      obtain ⟨j, hj, rfl, rfl, hu9⟩ := hrel
      by_cases hlj : j < L
      · have hjl : j < hs.length := by have := HL.out; omega
        have hgo := List.getElem?_eq_getElem hjl
        obtain ⟨o, ho⟩ : ∃ o, o = hs[j] := ⟨_, rfl⟩
        rw [← ho] at hgo
        obtain ⟨b, p, rfl, hbw, x0⟩ := HHZ.out j o hgo
        have HTK := Lib.hid (show usedOf (hs.take (j + 1)) = max (usedOf (hs.take j)) (o + 1) by
          rw [List.take_succ_eq_append_getElem hjl, ← ho, usedOf_snoc])
        have hT9 : usedOf (hs.take (j + 1)) ≤ 8 := by have := usedOf_take hs (j + 1); have := HUU.out; omega
        obtain ⟨T, hT⟩ : ∃ T, T = usedOf (hs.take j) := ⟨_, rfl⟩
        rw [← hT] at HTK hu9 ⊢
        have ho8 : o ≤ 8 := by have := HTK.out; omega
        clear hT hgo ho hjl hT9
        go_wp2
        all_goals
          go_round
          case rel => exact ⟨j + 1, by omega, by go_num, by rw [HTK.out]; congr 1; omega, by rw [HTK.out]; omega⟩
          case measure => simp [intOf]; omega
      · obtain rfl : j = L := by omega
        have HTT := Lib.hid (show usedOf (hs.take j) = U by rw [List.take_of_length_le (by have := HL.out; omega)]; exact HUU.out.symm)
        rw [HTT.out]
        clear hu9 HTT
        obtain ⟨ii, hii, hzi, hsi, hbi⟩ := info_hid infoInt
        go_wp2
        go_loopw [11] (fun u wr => ∃ k : Nat, k ≤ M ∧ u = .int .i64 k ∧ Hid (firstS ap hs (giveF ap n most f) (from_ k M) = r) ∧ Hid (Below w.heap.size w wr)) (fun u _ => M - (intOf u).toNat)
        case atStart => exact ⟨0, Nat.zero_le _, rfl, Lib.hid HR.out.symm, Lib.hid (Below.refl _ _)⟩
        case round =>
          obtain ⟨k, hk, rfl, hf, hb⟩ := hrel
          obtain ⟨wo, rfl⟩ : ∃ wo, wo = wr := ⟨_, rfl⟩
          by_cases hkM : k < M
          · have hkU : k ≤ U := by have := HMM.out; omega
            have hkm : k < most := by have := HMM.out; omega
            have d1 : decide (k ≤ U) = true := decide_eq_true hkU
            have d2 : decide (k < most) = true := decide_eq_true hkm
            go_wp2
            clear d1 d2
            go_loop [12, 13] (fun z u => ∃ (q : Nat) (V0 : Bool), q ≤ Q ∧ u = .int .i64 q ∧ z = .bool (!V0) ∧ Hid ((ps.take q).any (hitP hs k) = V0)) (fun _ u => Q - (intOf u).toNat)
            case atStart => exact ⟨0, false, Nat.zero_le _, rfl, rfl, Lib.hid rfl⟩
            case round =>
              obtain ⟨q, V0, hq, rfl, rfl, hV0⟩ := hrel
              by_cases hlq : q < Q
              · have hql : q < ps.length := by have := HQ.out; omega
                have hgp := List.getElem?_eq_getElem hql
                obtain ⟨⟨i1, k1⟩, hp1⟩ : ∃ p, p = ps[q] := ⟨_, rfl⟩
                rw [← hp1] at hgp
                obtain ⟨b, o, rfl, hbw, x0, x1⟩ := (HPI.out.below hb.out) q _ hgp
                dsimp only at x0 x1
                obtain ⟨hik, hkn, -⟩ := HPO.out _ (List.mem_of_getElem? hgp)
                dsimp only at hik hkn
                have HTK := Lib.hid (show (ps.take (q + 1)).any (hitP hs k) = (V0 || hitP hs k (i1, k1)) by
                  rw [List.take_succ_eq_append_getElem hql, ← hp1, List.any_append, hV0.out]; simp)
                have hqi : (q : Int) < (Q : Int) := by omega
                clear hgp hp1 hql
                by_cases hkj : k1 = j
                · have hi1 : i1 < hs.length := by have := HL.out; omega
                  have hgi := List.getElem?_eq_getElem hi1
                  obtain ⟨o1, ho1⟩ : ∃ o1, o1 = hs[i1] := ⟨_, rfl⟩
                  rw [← ho1] at hgi
                  obtain ⟨b2, o2, rfl, hb2w, x2⟩ := HHZ.out i1 o1 hgi
                  have x2 := ((bcell hb.out).1 _ _ hb2w).trans x2
                  have hij : (i1 : Int) < (j : Int) := by omega
                  have g1 : ((k1 : Int) == (j : Int)) = true := by rw [beq_iff_eq]; omega
                  have g2 : (k1 == j) = true := by rw [beq_iff_eq]; omega
                  have HHT := Lib.hid (show hitP hs k (i1, k1) = (o1 == k) by
                    unfold hitP; dsimp only; rw [hgi, ← HL.out, g2]; simp)
                  have hb2s := Nat.lt_of_lt_of_le hb2w hb.out.size
                  clear hgi ho1 hi1 hkj hb2w
                  by_cases hok : o1 = k
                  · have g3 : ((o1 : Int) == (k : Int)) = true := by rw [beq_iff_eq]; omega
                    have g4 : (o1 == k) = true := by rw [beq_iff_eq]; omega
                    clear hok
                    go_wp2
                    go_round
                    case rel => exact ⟨q + 1, true, by omega, by go_num, rfl, Lib.hid (by rw [HTK.out, HHT.out, g4]; simp)⟩
                    case measure => simp [intOf]; omega
                  · have g3 : ((o1 : Int) == (k : Int)) = false := beq_eq_false_iff_ne.2 (by omega)
                    have g4 : (o1 == k) = false := beq_eq_false_iff_ne.2 hok
                    clear hok
                    go_wp2
                    go_round
                    case rel => exact ⟨q + 1, V0, by omega, by go_num, rfl, Lib.hid (by rw [HTK.out, HHT.out, g4]; simp)⟩
                    case measure => simp [intOf]; omega
                · have g1 : ((k1 : Int) == (j : Int)) = false := beq_eq_false_iff_ne.2 (by omega)
                  have g2 : (k1 == j) = false := beq_eq_false_iff_ne.2 hkj
                  have HHT := Lib.hid (show hitP hs k (i1, k1) = false by
                    unfold hitP; dsimp only; rw [← HL.out, g2]; rfl)
                  clear hkj
                  go_wp2
                  go_round
                  case rel => exact ⟨q + 1, V0, by omega, by go_num, rfl, Lib.hid (by rw [HTK.out, HHT.out]; simp)⟩
                  case measure => simp [intOf]; omega
              · obtain rfl : q = Q := by omega
                have HCL := Lib.hid (show clash ap hs k hs.length = V0 by
                  rw [← HIT.out k, ← hV0.out, List.take_of_length_le (by have := HQ.out; omega)])
                clear hV0
                cases V0 with
                | true =>
                  go_wp2
                  go_roundw
                  case rel => exact ⟨k + 1, by omega, by go_num, Lib.hid (by rw [← firstS_clash hkM HCL.out]; exact hf.out), hb⟩
                  case measure => simp [intOf]; omega
                | false =>
                  have HN1 := Lib.hid (show ∀ ad, A = some ad → ∀ (x : Nat) u, (natsV hs)[x]? = some u → wo.cell? (ad.add x) = some u from fun ad e x u hx => by
                    unfold natsV at hx
                    rw [List.getElem?_map] at hx
                    cases hg : hs[x]? with
                    | none => rw [hg] at hx; cases hx
                    | some o =>
                      rw [hg] at hx
                      have hx := Option.some.inj hx
                      obtain ⟨b, p, e2, hlt, hc⟩ := HHZ.out x o hg
                      rw [e] at e2
                      have e2 := Option.some.inj e2
                      rw [e2, addr_add, ((bcell hb.out).1 _ _ hlt).trans hc, ← hx])
                  have HN2 := Lib.hid (show A = none → j = 0 from fun e => by
                    by_cases h0 : j = 0
                    · exact h0
                    · have h00 : 0 < hs.length := by have := HL.out; omega
                      obtain ⟨b, p, e2, _⟩ := HHZ.out 0 (hs[0]'h00) (List.getElem?_eq_getElem h00)
                      rw [e] at e2; cases e2)
                  have HN3 := Lib.hid (show (natsV hs).length = j * 1 by unfold natsV; rw [List.length_map, ← HL.out]; omega)
                  have HN4 := Lib.hid (show ∀ u ∈ natsV hs, u.oneCell' = true from fun u hu => by
                    unfold natsV at hu
                    obtain ⟨x, -, rfl⟩ := List.mem_map.1 hu
                    rfl)
                  have hws := Lib.hid hb.out.size
                  go_wp2_with (first
                    | (at_builtin; refine wpList_append_src _ rfl (.const (.slice none 0 0)) (.tmp 71) 22 rfl w.heap.size 3 ii (.int .i64 0) 1 8 Try.underlying22 hii.out hzi.out hsi.out hbi.out rfl (by decide) (.slice none 0 0) 0 [] rfl (World.ownsRow_nil _ _ _ _) A j c (natsV hs) rfl HN3.out HN2.out HN1.out HN4.out (by unfold maxLen; omega) (by omega) hws.out j (by omega) ?_))
                  intro A1 c1 w1 own1 hg1 hn1
                  have HB1 := Lib.hid (hb.out.grown hg1 hws.out (fun g h => by cases h))
                  have HO1 := Lib.hid (own1.alloc (.cells #[.int .i64 (k : Nat)] 3))
                  have hw1 := Lib.hid (HB1.out.size)
                  clear own1 hg1 hn1
                  go_wp2_with (first
                    | (at_builtin; refine wpList_append_src _ rfl (.tmp 72) (.tmp 74) 22 rfl w.heap.size 3 ii (.int .i64 0) 1 8 Try.underlying22 hii.out hzi.out hsi.out hbi.out rfl (by decide) (.slice A1 j c1) j (natsV hs) rfl HO1.out (some ⟨w1.heap.size, 0, none⟩) 1 1 [.int .i64 (k : Nat)] rfl rfl pair_some (one_new w1 _ _) (one_oneN' _) (by unfold maxLen; omega) (by omega) (by have := hw1.out; simp; omega) (j + 1) rfl ?_))
                  intro A2 c2 w2 own2 hg2 hn2
                  have HB2 := Lib.hid ((HB1.out.alloc hw1.out (.cells #[.int .i64 (k : Nat)] 3)).grown hg2 (by have := hw1.out; simp; omega) (fun g hg => (HO1.out.lt g hg).1))
                  have e2 : natsV (hs ++ [k]) = natsV hs ++ [.int .i64 (k : Nat)] := by unfold natsV; simp
                  rw [← e2] at own2
                  have HIN := Lib.hid (nats_ints own2)
                  obtain ⟨r2, hr2⟩ : ∃ r2, r2 = giveF ap n most f (hs ++ [k]) := ⟨_, rfl⟩
                  have HR2 := Lib.hid hr2.symm
                  have HCA := Lib.hid (HI.out (hs ++ [k]) A2 c2 w2 (by have := HLF.out; have := HL.out; simp; omega) (by rw [usedOf_snoc, ← HUU.out]; have := HL.out; simp; omega) HIN.out (HPI.out.below HB2.out))
                  have hl6 : (hs ++ [k]).length = j + 1 := by rw [List.length_append, ← HL.out]; rfl
                  rw [hl6, ← hr2, ← HQ.out] at HCA
                  clear own2 hg2 hn2 e2 hr2 hl6
                  go_wp2_with fail
                  refine HCA.out.mono ?_; rintro e w3 ⟨A3, c3, l3, rfl, hl3, hi3, hb3⟩
                  have HB3 := Lib.hid (HB2.out.trans (hb3.mono HB2.out.size))
                  cases r2 with
                  | some l2 =>
                    have hll : l3 = l2 := hl3.out
                    subst hll
                    have hln : l3.length = n := giveF_len ap n most f _ _ HR2.out
                    have HG := Lib.hid (show GotCo w hs r (.returned (.slice A3 l3.length c3)) w3 by
                      have h1 := hf.out
                      rw [firstS_yes hkM HCL.out HR2.out] at h1
                      rw [← h1]
                      exact ⟨A3, c3, l3, rfl, Lib.hid rfl, hi3, HB3.out⟩)
                    rw [hln] at HG ⊢
                    have g1 : ((n : Int) == (n : Int)) = true := by simp
                    clear hl3 hi3 hb3 hln
                    go_wp2
                    go_ret
                    exact HG.out
                  | none =>
                    have hll : l3 = hs ++ [k] := hl3.out
                    have hln : l3.length = j + 1 := by rw [hll, List.length_append, ← HL.out]; rfl
                    have hne : j + 1 ≠ n := fun e => by
                      have := giveF_done ap n most f (hs ++ [k]) (by rw [List.length_append, ← HL.out]; simpa using e)
                      rw [HR2.out] at this; cases this
                    rw [hln]
                    have g1 : (((j + 1 : Nat) : Int) == (n : Int)) = false := beq_eq_false_iff_ne.2 (by omega)
                    have g2 : (((j : Int) + 1) == (n : Int)) = false := beq_eq_false_iff_ne.2 (by omega)
                    clear hl3 hi3 hb3 hln hll hne
                    go_wp2
                    go_roundw
                    case rel => exact ⟨k + 1, by omega, by go_num, Lib.hid (by rw [← firstS_no hkM HCL.out HR2.out]; exact hf.out), HB3⟩
                    case measure => simp [intOf]; omega
          · obtain rfl : k = M := by omega
            have HG := Lib.hid (show GotCo w hs r (.returned (.slice A j c)) wo by
              have h1 := hf.out
              rw [from_end] at h1
              rw [← h1, HL.out]
              exact ⟨A, c, hs, rfl, Lib.hid rfl, Lib.hid (HAI.out.below hb.out), hb.out⟩)
            by_cases hkU : k ≤ U
            · have d1 : decide (k ≤ U) = true := decide_eq_true hkU
              have d2 : decide (k < most) = false := decide_eq_false (by have := HMM.out; omega)
              clear hkU
              go_wp2
              go_ret
              exact HG.out
            · have d1 : decide (k ≤ U) = false := decide_eq_false hkU
              clear hkU
              go_wp2
              go_ret
              exact HG.out

end Go.Proofs.Ytcpfhaoecggflaa
