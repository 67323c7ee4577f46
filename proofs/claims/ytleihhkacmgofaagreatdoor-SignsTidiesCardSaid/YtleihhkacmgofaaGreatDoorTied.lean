/-
  Contract of the specification's tidied: first its points.
-/
import Derived.Test.YtleihhkacmgofaaGreatDoorPut
import Derived.Test.YtleihhkacmgofaaGreatDoorTidy
namespace Go.Proofs.YtleihhkacmgofaaGreatDoor
open Go.RowKit

theorem putR_len (l : List Va) (v : Va) : (putR l v).length ≤ l.length + 1 := by
  unfold putR
  have h : l.length = (l.takeWhile fun x => vlt x v).length + (l.dropWhile fun x => vlt x v).length := by rw [← List.length_append, List.takeWhile_append_dropWhile]
  simp only [List.length_append]
  split <;> simp <;> omega
theorem putDays_len (v : Va) (l : List Va) : ∀ k, (putDays v l k).length ≤ l.length + k
  | 0 => Nat.le_refl _
  | k + 1 => by have := putDays_len v l k; have := putR_len (putDays v l k) (day v (v.fr + (k : Int))); rw [putDays_succ]; omega
theorem putDays_ok (v : Va) (l : List Va) (hv : okV v) (h : ∀ x ∈ l, okV x) : ∀ k : Nat, v.fr + k ≤ v.to + 1 → ∀ x ∈ putDays v l k, okV x
  | 0, _ => h
  | k + 1, hk => fun x hx => by
    rw [putDays_succ] at hx
    rcases (putR_mem _ _ _).1 hx with hx | rfl
    · exact putDays_ok v l hv h k (by omega) x hx
    · obtain ⟨a1, a2, a3, a4⟩ := hv
      exact ⟨by simp only [day]; omega, by simp only [day]; omega, by simp only [day]; omega, a4⟩
theorem putV_len (v : Va) (l : List Va) (hv : okV v) : (putV l v).length ≤ l.length + 9 := by
  have := putDays_len v l (v.to + 1 - v.fr).toNat
  obtain ⟨a1, a2, a3, a4⟩ := hv
  unfold putV; omega
theorem putV_ok (v : Va) (l : List Va) (hv : okV v) (h : ∀ x ∈ l, okV x) : ∀ x ∈ putV l v, okV x :=
  putDays_ok v l hv h _ (by have := hv.2.1; omega)
theorem foldV_ok : ∀ (vs l : List Va), (∀ v ∈ vs, okV v) → (∀ x ∈ l, okV x) → (∀ x ∈ vs.foldl putV l, okV x) ∧ (vs.foldl putV l).length ≤ l.length + 9 * vs.length
  | [], l, _, h => ⟨h, by simp⟩
  | v :: vs, l, hv, h => by
    have ih := foldV_ok vs (putV l v) (fun x hx => hv x (by simp [hx])) (putV_ok v l (hv v (by simp)) h)
    have := putV_len v l (hv v (by simp))
    exact ⟨ih.1, by have h2 := ih.2; simp only [List.foldl_cons, List.length_cons] at *; omega⟩
theorem foldSS_ok : ∀ (ss : List (List Va)) (l : List Va), (∀ vs ∈ ss, vs.length ≤ 20 ∧ ∀ v ∈ vs, okV v) → (∀ x ∈ l, okV x) →
    (∀ x ∈ ss.foldl (fun l vs => vs.foldl putV l) l, okV x) ∧ (ss.foldl (fun l vs => vs.foldl putV l) l).length ≤ l.length + 180 * ss.length
  | [], l, _, h => ⟨h, by simp⟩
  | vs :: ss, l, hv, h => by
    have h1 := foldV_ok vs l (hv vs (by simp)).2 h
    have ih := foldSS_ok ss (vs.foldl putV l) (fun x hx => hv x (by simp [hx])) h1.1
    have := (hv vs (by simp)).1
    exact ⟨ih.1, by have h2 := ih.2; have h3 := h1.2; simp only [List.foldl_cons, List.length_cons] at *; omega⟩
theorem own_cap0 {w : World} {base : Nat} {e : TypeId} {size : Nat} {A : Option Addr} {c n m : Nat} {xs : List Value} (h : w.ownsRow base e size (.slice A m c) n xs) : A = none → c = 0 := by
  rintro rfl
  rcases h.2 with ⟨h2, _⟩ | ⟨g, cap, cur, h2, _⟩
  · injection h2
  · cases h2
theorem pointsR_snoc (ss : List (List Va)) (vs : List Va) : pointsR (ss ++ [vs]) = vs.foldl putV (pointsR ss) := by unfold pointsR; rw [List.foldl_append]; rfl
theorem foldV_snoc (vs l : List Va) (v : Va) : (vs ++ [v]).foldl putV l = putV (vs.foldl putV l) v := by rw [List.foldl_append]; rfl

theorem runStep_join (i : List Va) (l v : Va) (h : (meq l v && (l.to + 1 == v.fr)) = true) : runStep (i ++ [l]) v = i ++ [Va.mk l.kind l.text l.fr v.to] := by
  simp only [runStep, List.getLast?_append, List.getLast?_singleton, Option.some_or, h, if_true, List.dropLast_concat]
theorem runStep_add (i : List Va) (l v : Va) (h : (meq l v && (l.to + 1 == v.fr)) = false) : runStep (i ++ [l]) v = i ++ [l] ++ [v] := by
  simp only [runStep, List.getLast?_append, List.getLast?_singleton, Option.some_or, h, Bool.false_eq_true, if_false]
theorem runsR_snoc (l : List Va) (v : Va) : runsR (l ++ [v]) = runStep (runsR l) v := by unfold runsR; rw [List.foldl_append]; rfl
theorem runStep_ok (out : List Va) (v : Va) (h : ∀ x ∈ out, okV x) (hv : okV v) : ∀ x ∈ runStep out v, okV x := by
  intro x hx
  rcases snoc_cases out with rfl | ⟨i, l, rfl⟩
  · have hx : x ∈ [v] := hx
    simp at hx; subst hx; exact hv
  · have hl := h l (by simp)
    by_cases hj : (meq l v && (l.to + 1 == v.fr)) = true
    · rw [runStep_join _ _ _ hj] at hx
      rcases List.mem_append.1 hx with hx | hx
      · exact h x (by simp [hx])
      · simp at hx; subst hx
        obtain ⟨a1, a2, a3, a4⟩ := hl
        obtain ⟨b1, b2, b3, b4⟩ := hv
        simp at hj
        exact ⟨a1, by dsimp only; omega, by dsimp only; omega, a4⟩
    · rw [runStep_add _ _ _ (by simpa using hj)] at hx
      rcases List.mem_append.1 hx with hx | hx
      · exact h x hx
      · simp at hx; subst hx; exact hv
theorem runsR_ok (l : List Va) (h : ∀ x ∈ l, okV x) : ∀ x ∈ runsR l, okV x := by
  suffices H : ∀ (l out : List Va), (∀ x ∈ l, okV x) → (∀ x ∈ out, okV x) → ∀ x ∈ l.foldl runStep out, okV x from H l [] h (fun x h => by cases h)
  intro l
  induction l with
  | nil => intro out _ h; exact h
  | cons v l ih => intro out h1 h2; exact ih _ (fun x hx => h1 x (by simp [hx])) (runStep_ok out v h2 (h1 v (by simp)))

set_option maxHeartbeats 3200000 in
set_option maxRecDepth 100000 in
theorem tidied_any (A : Option Addr) (cap : Nat) (ms : List Sm) (w : World) (hms : SignsAt w A ms) (hl : ms.length ≤ cap) (hcap : cap ≤ maxLen) (hsm : ms.length ≤ 100) (hok : ∀ m ∈ ms, m.s.vals.length ≤ 20 ∧ ∀ v ∈ m.s.vals, okV v) :
    Calls Tryz.prog 25 #[.slice A ms.length cap] w (GotRow w 42 4 (tidiedR (ms.map (·.s.vals))).length ((tidiedR (ms.map (·.s.vals))).flatMap Va.cells)) := by
  obtain ⟨iv, hiv, hzv, hsv, hbv⟩ := info_hid infoVa
  obtain ⟨n, hn⟩ : ∃ n, n = ms.length := ⟨_, rfl⟩
  have HN := Lib.hid hn
  have HMS := Lib.hid hms
  have HOK := Lib.hid hok
  have HPO := Lib.hid (fun k => foldSS_ok ((ms.take k).map (·.s.vals)) [] (fun vs hvs => by
    obtain ⟨m, hm, rfl⟩ := List.mem_map.1 hvs
    exact hok m (List.mem_of_mem_take hm)) (fun x h => by cases h))
  rw [← hn] at hl hsm ⊢
  have hcap' := hcap
  unfold maxLen at hcap'
  clear hn hms hok
  go_enter Tryz.func25, Tryz.ntmps25
  go_wp2_with fail
  go_loopw [3, 4, 5, 6, 7] (fun l i _ _ _ wr => ∃ k c : Nat, k ≤ n ∧ i = .int .i64 k ∧ Hid (Below w.heap.size w wr) ∧ Hid (c = (pointsR ((ms.take k).map (·.s.vals))).length) ∧ Hid (wr.ownsRow w.heap.size 42 4 l c ((pointsR ((ms.take k).map (·.s.vals))).flatMap Va.cells))) (fun _ i _ _ _ _ => n - (intOf i).toNat)
  case atStart => exact ⟨0, 0, Nat.zero_le _, rfl, Lib.hid (Below.refl _ _), Lib.hid (by simp [pointsR]), Lib.hid (by simpa [pointsR] using World.ownsRow_nil _ _ _ _)⟩
  case round =>
    obtain ⟨k, c, hk, rfl, hb, hlc, hown⟩ := hrel
    by_cases hlt : k < n
    · have hget : ms[k]? = some (ms[k]'(by have := HN.out; omega)) := List.getElem?_eq_getElem _
      obtain ⟨u, hu⟩ : ∃ u, u = ms[k]'(by have := HN.out; omega) := ⟨_, rfl⟩
      rw [← hu] at hget
      obtain ⟨b, o, hA, hb1, hva, hmo⟩ := HMS.out k u hget
      subst hA
      have HU := Lib.hid (HOK.out u (List.mem_of_getElem? hget))
      have HSN := Lib.hid (show pointsR ((ms.take (k + 1)).map (·.s.vals)) = u.s.vals.foldl putV (pointsR ((ms.take k).map (·.s.vals))) by
        obtain ⟨hk', e⟩ := List.getElem?_eq_some_iff.1 hget
        rw [List.take_succ_eq_append_getElem hk', e, List.map_append, List.map_cons, List.map_nil, pointsR_snoc])
      have hsb : b < wr.heap.size := by have := hb.out.size; omega
      have y4 := (hva.below hb.out hb1).c4
      have HMO := Lib.hid (hmo.below hb.out)
      have HML := Lib.hid (show (pointsR ((ms.take k).map (·.s.vals))).length ≤ 180 * 100 by
        have := (HPO.out k).2; simp at this; unfold pointsR; simp; omega)
      obtain ⟨L0, hL0⟩ : ∃ L, L = pointsR ((ms.take k).map (·.s.vals)) := ⟨_, rfl⟩
      have HLO := Lib.hid (show ∀ x ∈ L0, okV x by rw [hL0]; exact (HPO.out k).1)
      rw [← hL0] at HSN HML hlc hown
      obtain ⟨q, hq⟩ : ∃ q, q = u.s.vals.length := ⟨_, rfl⟩
      have HQ := Lib.hid hq
      have hq20 : q ≤ 20 := by have := HU.out.1; omega
      have hqc : q ≤ u.cap := by have := HMO.out.len; omega
      have hqm := HMO.out.cap
      unfold maxLen at hqm
      rw [← hq] at y4
      clear hu hget hva hmo hb1 hL0 hq
      go_wp2_with fail
      obtain ⟨wo, rfl⟩ : ∃ wo : World, wo = wr := ⟨_, rfl⟩
      go_loopw [3, 5, 6, 7] (fun l i _ _ wr => ∃ j c : Nat, j ≤ q ∧ i = .int .i64 j ∧ Hid (Below wo.heap.size wo wr) ∧ Hid (c = ((u.s.vals.take j).foldl putV L0).length) ∧ Hid (wr.ownsRow w.heap.size 42 4 l c (((u.s.vals.take j).foldl putV L0).flatMap Va.cells))) (fun _ i _ _ _ => q - (intOf i).toNat)
      case atStart => exact ⟨0, c, Nat.zero_le _, rfl, Lib.hid (Below.refl _ _), hlc, hown⟩
      case round =>
        obtain ⟨j, c1, hj, rfl, hb2, hlc2, hown2⟩ := hrel
        have x4 : wr.cell? ⟨b, o + k * 5 + 4, none⟩ = some (.slice u.A q u.cap) := (hb2.out.cell (p := ⟨b, _, none⟩) hsb).trans y4
        have hwo : wo.heap.size ≤ wr.heap.size := hb2.out.size
        have hbw := hb.out.size
        by_cases hlj : j < q
        · have hgj : u.s.vals[j]? = some (u.s.vals[j]'(by have := HQ.out; omega)) := List.getElem?_eq_getElem _
          obtain ⟨v, hv⟩ : ∃ v, v = u.s.vals[j]'(by have := HQ.out; omega) := ⟨_, rfl⟩
          rw [← hv] at hgj
          obtain ⟨b2, o2, hA2, hb3, hva2⟩ := HMO.out.vals j v hgj
          obtain ⟨y0, y1, y2, y3, ysz⟩ := hva2.below hb2.out hb3
          have HV := Lib.hid (HU.out.2 v (List.mem_of_getElem? hgj))
          have hvf := HV.out.1
          have hvt := HV.out.2.1
          have hv9 := HV.out.2.2.1
          have HSN2 := Lib.hid (show (u.s.vals.take (j + 1)).foldl putV L0 = putV ((u.s.vals.take j).foldl putV L0) v by
            obtain ⟨hk', e⟩ := List.getElem?_eq_some_iff.1 hgj
            rw [List.take_succ_eq_append_getElem hk', e, foldV_snoc])
          have hsb2 : b2 < wr.heap.size := by omega
          have hsb' : b < wr.heap.size := by omega
          have hfo := foldV_ok (u.s.vals.take j) L0 (fun x hx => HU.out.2 x (List.mem_of_mem_take hx)) HLO.out
          obtain ⟨L1, hL1⟩ : ∃ L, L = (u.s.vals.take j).foldl putV L0 := ⟨_, rfl⟩
          rw [← hL1] at HSN2 hlc2 hown2 hfo
          have HLO1 := Lib.hid hfo.1
          have HLL1 := Lib.hid (show L1.length ≤ 19000 by have h1 := hfo.2; have h2 := HML.out; have : (u.s.vals.take j).length ≤ j := List.length_take_le _ _; omega)
          have BX := Lib.hid (heap_alloc_new wr (.cells #[.int .i64 v.kind, .string v.text, .int .i64 v.fr, .int .i64 v.to] 42))
          have BWX := Lib.hid (below_alloc wr (.cells #[.int .i64 v.kind, .string v.text, .int .i64 v.fr, .int .i64 v.to] 42))
          have OWX := Lib.hid (hown2.out.alloc (.cells #[.int .i64 v.kind, .string v.text, .int .i64 v.fr, .int .i64 v.to] 42))
          have hsz1 : (wr.alloc (.cells #[.int .i64 v.kind, .string v.text, .int .i64 v.fr, .int .i64 v.to] 42)).heap.size = wr.heap.size + 1 := by simp
          have HSZ := Lib.hid hsz1
          clear hv hgj hva2 hb3 hfo hL1 hsz1
          rw [hA2] at x4
          clear hA2
          go_wp2_with fail
          generalize wr.alloc (.cells #[.int .i64 v.kind, .string v.text, .int .i64 v.fr, .int .i64 v.to] 42) = W2 at BX BWX OWX HSZ ⊢
          obtain ⟨wm, rfl⟩ : ∃ wm : World, wm = wr := ⟨_, rfl⟩
          go_loopw [3, 7] (fun l p wx => ∃ i c : Nat, v.fr + i ≤ v.to + 1 ∧ p = .int .i64 (v.fr + i) ∧ Hid (Below W2.heap.size W2 wx) ∧ Hid (c = (putDays v L1 i).length) ∧ Hid (wx.ownsRow w.heap.size 42 4 l c ((putDays v L1 i).flatMap Va.cells))) (fun _ p _ => (v.to + 1 - intOf p).toNat)
          case atStart => exact ⟨0, c1, by omega, by simp, Lib.hid (Below.refl _ _), hlc2, OWX⟩
          case round =>
            obtain ⟨i, c2, hi, rfl, hb4, hlc4, hown4⟩ := hrel
            have BK := Lib.hid (blk_keep hb4.out BX.out)
            have w0 := cell_of_blk BK.out 0
            have w1 := cell_of_blk BK.out 1
            have w2 := cell_of_blk BK.out 2
            have w3 := cell_of_blk BK.out 3
            simp at w0 w1 w2 w3
            have hx1 := hb4.out.size
            have hx2 := HSZ.out
            have hwx : wm.heap.size < wr.heap.size := by omega
            obtain ⟨A3, c3, hv3, hc3, hc3m, -, -⟩ := own_slice hown4.out
            subst hv3
            have hil := putDays_len v L1 i
            have HIL := Lib.hid (show c2 ≤ 19010 by have := HLL1.out; have := hlc4.out; omega)
            by_cases hle : v.fr + i ≤ v.to
            · have HVA := Lib.hid (own_vals (vs := putDays v L1 i) (by rw [← hlc4.out]; exact hown4.out) (fun x hx => (putDays_ok v L1 HV.out HLO1.out i (by omega) x hx).2.2.2))
              have HC0 := Lib.hid (own_cap0 hown4.out)
              have HPUT := Lib.hid (show Calls Tryz.prog 46 #[.slice A3 c2 c3, .agg #[.int .i64 v.kind, .string v.text, .int .i64 (v.fr + i), .int .i64 (v.fr + i)]] wr (GotRow wr 42 4 (putDays v L1 (i + 1)).length ((putDays v L1 (i + 1)).flatMap Va.cells)) by
                have := put_any A3 c3 (putDays v L1 i) (day v (v.fr + (i : Int))) wr HVA.out.1 HVA.out.2.1 HVA.out.2.2.1 HC0.out (by have := HIL.out; have := hlc4.out; omega)
                rw [← hlc4.out, ← putDays_succ] at this
                exact this)
              clear hil
              go_wp2_with fail
              refine HPUT.out.mono ?_; rintro e w4 ⟨A4, c4, rfl, own4, hb5⟩
              have OWN4 := Lib.hid (own_base own4 (Nat.le_trans hbw (Nat.le_trans hwo (by omega))))
              have B5 := Lib.hid (hb4.out.trans (hb5.mono hb4.out.size))
              clear own4 hb5
              go_wp2_with fail
              go_roundw
              case rel => exact ⟨i + 1, _, by omega, by go_num, B5, Lib.hid rfl, OWN4⟩
              case measure => simp [intOf]; omega
            · have HSN3 := Lib.hid (show putDays v L1 i = (u.s.vals.take (j + 1)).foldl putV L0 by
                rw [HSN2.out]; unfold putV; congr 1; omega)
              go_wp2_with fail
              go_roundw
              case rel => exact ⟨j + 1, c2, by omega, by go_num, Lib.hid (hb2.out.trans ((below_more BWX.out hb4.out).mono hb2.out.size)), Lib.hid (by rw [← HSN3.out]; exact hlc4.out), Lib.hid (by rw [← HSN3.out]; exact hown4.out)⟩
              case measure => simp [intOf]; omega
        · obtain rfl : j = q := by omega
          have HSN3 := Lib.hid (show (u.s.vals.take j).foldl putV L0 = pointsR ((ms.take (k + 1)).map (·.s.vals)) by rw [HSN.out, HQ.out, List.take_length])
          go_wp2_with fail
          go_roundw
          case rel => exact ⟨k + 1, c1, by omega, by go_num, Lib.hid (hb.out.trans (hb2.out.mono hb.out.size)), Lib.hid (by rw [← HSN3.out]; exact hlc2.out), Lib.hid (by rw [← HSN3.out]; exact hown2.out)⟩
          case measure => simp [intOf]; omega
    · obtain rfl : k = n := by omega
      have HT := Lib.hid (show (ms.take k).map (·.s.vals) = ms.map (·.s.vals) by rw [HN.out, List.take_length])
      obtain ⟨P, hP⟩ : ∃ P, P = pointsR (ms.map (·.s.vals)) := ⟨_, rfl⟩
      have HP := Lib.hid (show runsR P = tidiedR (ms.map (·.s.vals)) by rw [hP]; rfl)
      have HPP := Lib.hid (show (∀ x ∈ P, okV x) ∧ P.length ≤ 180 * 100 by
        have h := HPO.out k
        rw [HT.out] at h
        rw [hP]
        refine ⟨h.1, ?_⟩
        have h2 := h.2
        unfold pointsR
        simp at h2 ⊢
        have := HN.out
        omega)
      have hlc1 := hlc.out
      have hown1 := hown.out
      rw [HT.out, ← hP] at hlc1 hown1
      obtain ⟨A3, c3, hv3, hc3, hc3m, -, -⟩ := own_slice hown1
      subst hv3
      have HPV := Lib.hid (own_vals (vs := P) (by rw [← hlc1]; exact hown1) (fun x hx => (HPP.out.1 x hx).2.2.2))
      have HCP := Lib.hid hlc1
      have hcz : c ≤ 18000 := by have := HPP.out.2; omega
      unfold maxLen at hc3m
      clear hP hown1 hlc1 hlc hown
      go_wp2_with fail
      obtain ⟨wo, rfl⟩ : ∃ wo : World, wo = wr := ⟨_, rfl⟩
      go_loopw [8, 9, 10] (fun o i _ wr => ∃ j c2 : Nat, j ≤ c ∧ c2 ≤ j ∧ i = .int .i64 j ∧ Hid (Below wo.heap.size wo wr) ∧ Hid (c2 = (runsR (P.take j)).length) ∧ Hid (wr.ownsRow wo.heap.size 42 4 o c2 ((runsR (P.take j)).flatMap Va.cells))) (fun _ i _ _ => c - (intOf i).toNat)
      case atStart => exact ⟨0, 0, Nat.zero_le _, Nat.le_refl _, rfl, Lib.hid (Below.refl _ _), Lib.hid (by simp [runsR]), Lib.hid (by simpa [runsR] using World.ownsRow_nil _ _ _ _)⟩
      case round =>
        obtain ⟨j, d, hj, hdj, rfl, hb4, hlc4, hown4⟩ := hrel
        by_cases hlt2 : j < c
        · have hget : P[j]? = some (P[j]'(by have := HCP.out; omega)) := List.getElem?_eq_getElem _
          obtain ⟨u, hu⟩ : ∃ u, u = P[j]'(by have := HCP.out; omega) := ⟨_, rfl⟩
          rw [← hu] at hget
          obtain ⟨b, o, hA, hb1, hva⟩ := HPV.out.1 j u hget
          subst hA
          obtain ⟨y0, y1, y2, y3, ysz⟩ := hva.below hb4.out hb1
          have HSN := Lib.hid (show runsR (P.take (j + 1)) = runStep (runsR (P.take j)) u by rw [take_step _ _ _ hget, runsR_snoc])
          have hsb : b < wr.heap.size := by have := hb4.out.size; omega
          have HUO := Lib.hid (HPP.out.1 u (List.mem_of_getElem? hget))
          have HMO := Lib.hid (runsR_ok (P.take j) (fun x hx => HPP.out.1 x (List.mem_of_mem_take hx)))
          obtain ⟨O, hO⟩ : ∃ O, O = runsR (P.take j) := ⟨_, rfl⟩
          rw [← hO] at HSN HMO hlc4 hown4
          clear hu hget hva hb1 hO
          obtain ⟨A2, c2, hv, hc2, hc2m, hcell, hnone⟩ := own_slice hown4.out
          subst hv
          have HCL := Lib.hid hcell
          have HNO := Lib.hid hnone
          clear hcell hnone
          cases d with
          | zero =>
            have HADD := Lib.hid (show runsR (P.take (j + 1)) = O ++ [u] by rw [HSN.out, show O = [] from List.eq_nil_of_length_eq_zero hlc4.out.symm]; rfl)
            go_wp2_with fail
            refine wp_region_later (by kernel_rfl) (by kernel_rfl) ?_; (repeat (first | go_big_quiet_step (fail) | quiet_step (fail))); refine wpQuiet_nil ?_; rintro _ ⟨s, rfl⟩
            have BS := Lib.hid (hb4.out.trans (s.below.mono hb4.out.size))
            have OWS := Lib.hid (ownsRow_of_block (w' := s.w) hown4.out (fun g hg => s.below.block g (hown4.out.lt g hg).2))
            go_wp2_with (first
              | (at_builtin; refine wpList_append_src _ rfl (.tmp 112) (.tmp 117) 36 rfl wo.heap.size 42 iv (.agg #[.int .i64 0, .string ⟨#[]⟩, .int .i64 0, .int .i64 0]) 4 40 Tryz.underlying36 hiv.out hzv.out hsv.out hbv.out rfl (by decide) (.slice A2 0 c2) 0 (O.flatMap Va.cells) rfl ?ownp (some ⟨s.w.heap.size, 0, none⟩) 1 1 u.cells rfl ?lp ?np ?cp ?op ?mp ?bp ?sp (0 + 1) rfl ?_))
            case ownp => exact OWS.out.alloc _
            case lp => rfl
            case np => intro h; cases h
            case op => exact fun x hx => va_one (vs := [u]) x (by simpa using hx)
            case cp =>
              intro ad had i u' hj
              injection had with had
              subst had
              have := new_cells s.w u.cells 42 i u' hj
              simpa [Va.cells] using this
            case mp => unfold maxLen; omega
            case bp => omega
            case sp => have := BS.out.size; simp; omega
            · intro A5 c5 w5 own5 hg5 _
              have b5 := Lib.hid ((BS.out.alloc BS.out.size (.cells #[.int .i64 u.kind, .string u.text, .int .i64 u.fr, .int .i64 u.to] 42)).grown hg5 (by have := BS.out.size; simp; omega) (fun g hg => (OWS.out.lt g hg).1))
              have own5 := Lib.hid own5
              clear hg5
              go_wp2_with fail
              go_roundw
              case rel => exact ⟨j + 1, 0 + 1, by omega, by omega, by go_num, b5, Lib.hid (by rw [HADD.out, List.length_append, ← hlc4.out]; rfl), Lib.hid (by rw [HADD.out, List.flatMap_append]; simpa using own5.out)⟩
              case measure => simp [intOf]; omega
          | succ d =>
            obtain ⟨i, l, hOi⟩ : ∃ i l, O = i ++ [l] := (snoc_cases O).resolve_left (fun e => by have := hlc4.out; rw [e] at this; simp at this)
            have HIL := Lib.hid (show i.length = d by have := hlc4.out; rw [hOi] at this; simp at this; omega)
            have HOI := Lib.hid hOi
            cases hA2 : A2 with
            | none => have := HNO.out hA2; omega
            | some ad =>
            obtain ⟨g, rfl, hg0, hg1, hgc⟩ := HCL.out ad hA2
            subst hA2
            have HLC := Lib.hid (show ∀ t, t < 4 → wr.cell? ⟨g, d * 4 + t, none⟩ = (Va.cells l)[t]? from fun t ht => by
              have ht' : t < (Va.cells l).length := ht
              rw [hgc (d * 4 + t) ((Va.cells l)[t]) (by
                rw [flat_at (c := 4) (fun _ => rfl) _ d l (by rw [HOI.out, List.getElem?_append_right (by have := HIL.out; omega), HIL.out]; simp) t ht]; exact List.getElem?_eq_getElem ht'), List.getElem?_eq_getElem ht'])
            have x0 : wr.cell? ⟨g, d * 4, none⟩ = some (.int .i64 l.kind) := HLC.out 0 (by omega)
            have x1 : wr.cell? ⟨g, d * 4 + 1, none⟩ = some (.string l.text) := HLC.out 1 (by omega)
            have x3 : wr.cell? ⟨g, d * 4 + 3, none⟩ = some (.int .i64 l.to) := HLC.out 3 (by omega)
            have HLO := Lib.hid (HMO.out l (by rw [HOI.out]; simp))
            have hw9 : IntKind.i64.wrap (l.to + 1) = l.to + 1 := IntWalk.i64_in _ (by have := HLO.out.1; have := HLO.out.2.1; have := HLO.out.2.2.1; omega)
            have HJ := Lib.hid (fun h => show runsR (P.take (j + 1)) = O ++ [u] by rw [HSN.out, HOI.out, runStep_add _ _ _ h])
            clear hOi hgc
            by_cases hk1 : (l.kind == u.kind) = true
            case neg =>
              have hk1 : (l.kind == u.kind) = false := by simpa using hk1
              have HADD := Lib.hid (HJ.out (by unfold meq; rw [hk1]; rfl))
              go_wp2_with fail
              refine wp_region_later (by kernel_rfl) (by kernel_rfl) ?_; (repeat (first | go_big_quiet_step (fail) | quiet_step (fail))); refine wpQuiet_nil ?_; rintro _ ⟨s, rfl⟩
              have BS := Lib.hid (hb4.out.trans (s.below.mono hb4.out.size))
              have OWS := Lib.hid (ownsRow_of_block (w' := s.w) hown4.out (fun g hg => s.below.block g (hown4.out.lt g hg).2))
              go_wp2_with (first
                | (at_builtin; refine wpList_append_src _ rfl (.tmp 112) (.tmp 117) 36 rfl wo.heap.size 42 iv (.agg #[.int .i64 0, .string ⟨#[]⟩, .int .i64 0, .int .i64 0]) 4 40 Tryz.underlying36 hiv.out hzv.out hsv.out hbv.out rfl (by decide) (.slice (some ⟨g, 0, none⟩) (d + 1) c2) (d + 1) (O.flatMap Va.cells) rfl ?ownq (some ⟨s.w.heap.size, 0, none⟩) 1 1 u.cells rfl ?lq ?nq ?cq ?oq ?mq ?bq ?sq ((d + 1) + 1) rfl ?_))
              case ownq => exact OWS.out.alloc _
              case lq => rfl
              case nq => intro h; cases h
              case oq => exact fun x hx => va_one (vs := [u]) x (by simpa using hx)
              case cq =>
                intro ad had i u' hj
                injection had with had
                subst had
                have := new_cells s.w u.cells 42 i u' hj
                simpa [Va.cells] using this
              case mq => unfold maxLen; omega
              case bq => omega
              case sq => have := BS.out.size; simp; omega
              · intro A5 c5 w5 own5 hg5 _
                have b5 := Lib.hid ((BS.out.alloc BS.out.size (.cells #[.int .i64 u.kind, .string u.text, .int .i64 u.fr, .int .i64 u.to] 42)).grown hg5 (by have := BS.out.size; simp; omega) (fun g hg => (OWS.out.lt g hg).1))
                have own5 := Lib.hid own5
                clear hg5
                go_wp2_with fail
                go_roundw
                case rel => exact ⟨j + 1, (d + 1) + 1, by omega, by omega, by go_num, b5, Lib.hid (by rw [HADD.out, List.length_append, ← hlc4.out]; rfl), Lib.hid (by rw [HADD.out, List.flatMap_append]; simpa using own5.out)⟩
                case measure => simp [intOf]; omega
            by_cases hk2 : (l.text.toList == u.text.toList) = true
            case neg =>
              have hk2 : (l.text.toList == u.text.toList) = false := by simpa using hk2
              have HADD := Lib.hid (HJ.out (by unfold meq strEq; rw [hk1, hk2]; rfl))
              go_wp2_with fail
              refine wp_region_later (by kernel_rfl) (by kernel_rfl) ?_; (repeat (first | go_big_quiet_step (fail) | quiet_step (fail))); refine wpQuiet_nil ?_; rintro _ ⟨s, rfl⟩
              have BS := Lib.hid (hb4.out.trans (s.below.mono hb4.out.size))
              have OWS := Lib.hid (ownsRow_of_block (w' := s.w) hown4.out (fun g hg => s.below.block g (hown4.out.lt g hg).2))
              go_wp2_with (first
                | (at_builtin; refine wpList_append_src _ rfl (.tmp 112) (.tmp 117) 36 rfl wo.heap.size 42 iv (.agg #[.int .i64 0, .string ⟨#[]⟩, .int .i64 0, .int .i64 0]) 4 40 Tryz.underlying36 hiv.out hzv.out hsv.out hbv.out rfl (by decide) (.slice (some ⟨g, 0, none⟩) (d + 1) c2) (d + 1) (O.flatMap Va.cells) rfl ?ownr (some ⟨s.w.heap.size, 0, none⟩) 1 1 u.cells rfl ?lr ?nr ?cr ?or ?mr ?br ?sr ((d + 1) + 1) rfl ?_))
              case ownr => exact OWS.out.alloc _
              case lr => rfl
              case nr => intro h; cases h
              case or => exact fun x hx => va_one (vs := [u]) x (by simpa using hx)
              case cr =>
                intro ad had i u' hj
                injection had with had
                subst had
                have := new_cells s.w u.cells 42 i u' hj
                simpa [Va.cells] using this
              case mr => unfold maxLen; omega
              case br => omega
              case sr => have := BS.out.size; simp; omega
              · intro A5 c5 w5 own5 hg5 _
                have b5 := Lib.hid ((BS.out.alloc BS.out.size (.cells #[.int .i64 u.kind, .string u.text, .int .i64 u.fr, .int .i64 u.to] 42)).grown hg5 (by have := BS.out.size; simp; omega) (fun g hg => (OWS.out.lt g hg).1))
                have own5 := Lib.hid own5
                clear hg5
                go_wp2_with fail
                go_roundw
                case rel => exact ⟨j + 1, (d + 1) + 1, by omega, by omega, by go_num, b5, Lib.hid (by rw [HADD.out, List.length_append, ← hlc4.out]; rfl), Lib.hid (by rw [HADD.out, List.flatMap_append]; simpa using own5.out)⟩
                case measure => simp [intOf]; omega
            by_cases hk3 : (l.to + 1 == u.fr) = true
            case neg =>
              have hk3 : (l.to + 1 == u.fr) = false := by simpa using hk3
              have HADD := Lib.hid (HJ.out (by rw [hk3]; simp))
              go_wp2_with fail
              refine wp_region_later (by kernel_rfl) (by kernel_rfl) ?_; (repeat (first | go_big_quiet_step (fail) | quiet_step (fail))); refine wpQuiet_nil ?_; rintro _ ⟨s, rfl⟩
              have BS := Lib.hid (hb4.out.trans (s.below.mono hb4.out.size))
              have OWS := Lib.hid (ownsRow_of_block (w' := s.w) hown4.out (fun g hg => s.below.block g (hown4.out.lt g hg).2))
              go_wp2_with (first
                | (at_builtin; refine wpList_append_src _ rfl (.tmp 112) (.tmp 117) 36 rfl wo.heap.size 42 iv (.agg #[.int .i64 0, .string ⟨#[]⟩, .int .i64 0, .int .i64 0]) 4 40 Tryz.underlying36 hiv.out hzv.out hsv.out hbv.out rfl (by decide) (.slice (some ⟨g, 0, none⟩) (d + 1) c2) (d + 1) (O.flatMap Va.cells) rfl ?ownt (some ⟨s.w.heap.size, 0, none⟩) 1 1 u.cells rfl ?lt ?nt ?ct ?ot ?mt ?bt ?st ((d + 1) + 1) rfl ?_))
              case ownt => exact OWS.out.alloc _
              case lt => rfl
              case nt => intro h; cases h
              case ot => exact fun x hx => va_one (vs := [u]) x (by simpa using hx)
              case ct =>
                intro ad had i u' hj
                injection had with had
                subst had
                have := new_cells s.w u.cells 42 i u' hj
                simpa [Va.cells] using this
              case mt => unfold maxLen; omega
              case bt => omega
              case st => have := BS.out.size; simp; omega
              · intro A5 c5 w5 own5 hg5 _
                have b5 := Lib.hid ((BS.out.alloc BS.out.size (.cells #[.int .i64 u.kind, .string u.text, .int .i64 u.fr, .int .i64 u.to] 42)).grown hg5 (by have := BS.out.size; simp; omega) (fun g hg => (OWS.out.lt g hg).1))
                have own5 := Lib.hid own5
                clear hg5
                go_wp2_with fail
                go_roundw
                case rel => exact ⟨j + 1, (d + 1) + 1, by omega, by omega, by go_num, b5, Lib.hid (by rw [HADD.out, List.length_append, ← hlc4.out]; rfl), Lib.hid (by rw [HADD.out, List.flatMap_append]; simpa using own5.out)⟩
                case measure => simp [intOf]; omega
            have HADD := Lib.hid (show runsR (P.take (j + 1)) = i ++ [Va.mk l.kind l.text l.fr u.to] by rw [HSN.out, HOI.out, runStep_join]; unfold meq strEq; rw [hk1, hk2, hk3]; rfl)
            go_wp2_with fail
            refine wp_region_later (by kernel_rfl) (by kernel_rfl) ?_; (repeat (first | go_big_quiet_step (fail) | quiet_step (fail))); refine wpQuiet_nil ?_; rintro _ ⟨s, rfl⟩
            have BS := Lib.hid (hb4.out.trans (s.below.mono hb4.out.size))
            have OWS := Lib.hid (ownsRow_of_block (w' := s.w) hown4.out (fun g hg => s.below.block g (hown4.out.lt g hg).2))
            have z0 := frz_own OWS.out (d * 4 + 3)
            go_wp2_with fail
            go_roundw
            case rel =>
              refine ⟨j + 1, d + 1, by omega, by omega, by go_num, Lib.hid ?_, Lib.hid ?_, Lib.hid ?_⟩
              · exact BS.out.setCell (p := ⟨g, d * 4 + 3, none⟩) hg0 _
              · rw [HADD.out]; simp; exact HIL.out.symm
              · have h1 := (OWS.out.stored (d * 4 + 3) (.int .i64 u.to)).1
                rw [HOI.out, ← HIL.out, set_to, ← HADD.out, HIL.out] at h1
                exact h1
            case measure => simp [intOf]; omega
        · obtain rfl : j = c := by omega
          obtain ⟨A2, c2, hv, -, -, -, -⟩ := own_slice hown4.out
          subst hv
          have HT2 := Lib.hid (show runsR (P.take j) = tidiedR (ms.map (·.s.vals)) by rw [HCP.out, List.take_length]; exact HP.out)
          have HX := Lib.hid (show GotRow w 42 4 (tidiedR (ms.map (·.s.vals))).length ((tidiedR (ms.map (·.s.vals))).flatMap Va.cells) (.returned (.slice A2 d c2)) wr by
            have h5 := hown4.out
            have h6 := hlc4.out
            rw [HT2.out] at h5 h6
            rw [← h6]
            exact ⟨A2, c2, rfl, own_base h5 hb.out.size, hb.out.trans (hb4.out.mono hb.out.size)⟩)
          go_wp2_with fail
          go_ret
          exact HX.out

end Go.Proofs.YtleihhkacmgofaaGreatDoor
