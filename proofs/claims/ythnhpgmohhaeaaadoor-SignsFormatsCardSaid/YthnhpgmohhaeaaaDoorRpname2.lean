/-
  Contract of the specification's ParseName: the walk.
-/
import Derived.Test.YthnhpgmohhaeaaaDoorRpname
namespace Go.Proofs.YthnhpgmohhaeaaaDoor
open Go.RowKit

theorem right_is (k : Int) (s : ByteArray) (w : World) (hs : s.size ≤ maxLen) (r : Bool) (h : textB k s = r) : Calls Tryd.prog 57 #[.int .i64 k, .string s] w fun e w' => e = .returned (.bool r) ∧ w = w' := by
  rw [← h]; exact right_any k s w hs
theorem bdig_is (c : UInt8) (w : World) (r : Bool) (h : digB c = r) : Calls Tryd.prog 56 #[.int .u8 c.toNat, .int .u8 48, .int .u8 57] w fun e w' => e = .returned (.bool r) ∧ w = w' := by
  rw [← h]; exact bdig c w

set_option maxHeartbeats 1600000 in
set_option maxRecDepth 100000 in
theorem rpname_any (l : Lm) (nm : ByteArray) (n : Nat) (p : Int) (w : World) (hl : LmOk w l) (hsm : l.ms.length ≤ 1000000) (hvm : ∀ m ∈ l.ms, m.s.vals.length ≤ 1000000) (hs : nm.size ≤ 1000000) (hn : n ≤ nm.size) (hall : ((bytes nm).take n).all letB = true) (hend : ∀ h : n < nm.size, letB nm[n] = false) :
    Calls Tryd.prog 31 #[l.val, .string nm, .int .i64 p] w fun e w' => e = .returned (.tuple #[.int .i64 (pnameR l.li nm n p).1, .string (pnameR l.li nm n p).2.1, .int .i64 (pnameR l.li nm n p).2.2]) ∧ Below w.heap.size w w' := by
  obtain ⟨m, hop⟩ := opens_of nm hn hall hend
  have OP := Lib.hid hop
  have hm := hop.hm
  have H0 := Lib.hid (show LmOk (w.alloc (.cells #[.int .i64 l.per, .slice l.A l.ms.length l.cap] 24)) l from hl.below (below_alloc _ _))
  have C0 := Lib.hid (heap_alloc_new w (.cells #[.int .i64 l.per, .slice l.A l.ms.length l.cap] 24))
  have HB := Lib.hid (fun t w (h : LmOk w l) => show Calls Tryd.prog 26 #[.agg #[.int .i64 l.per, .slice l.A l.ms.length l.cap], .int .i64 1, .string t, .int .i64 p] w (GotIntsE w (bearersR l.li 1 t p)) from rbearers_any l 1 t p w h hsm hvm)
  have HCK := Lib.hid (fun (w : World) (hl : LmOk w l) (r : Int) (h : checkErr l.li = r) => show Calls Tryd.prog 18 #[.agg #[.int .i64 l.per, .slice l.A l.ms.length l.cap]] w (fun e w' => e = .returned (.int .i64 r) ∧ Below w.heap.size w w') by rw [← h]; exact rcheck_any l w hl)
  clear hl hsm hvm hn hall hend hop
  show Calls _ _ #[.agg #[.int .i64 l.per, .slice l.A l.ms.length l.cap], .string nm, .int .i64 p] w _
  obtain ⟨E, hE⟩ : ∃ E, E = checkErr l.li := ⟨_, rfl⟩
  have HE := Lib.hid hE.symm
  by_cases h0 : E = 0
  case neg =>
    have hb : (E != 0) = true := by simpa using h0
    have HF := Lib.hid (show pnameR l.li nm n p = (0, ⟨#[]⟩, E) by unfold pnameR; rw [HE.out, if_pos h0])
    clear hE h0
    go_enter Tryd.func31, Tryd.ntmps31
    go_wp2_with fail
    refine (HCK.out _ H0.out E HE.out).mono ?_; rintro e w1 ⟨rfl, hb1⟩
    go_wp2
    refine bodyPost_ret (v := .tuple #[.int .i64 0, .string ⟨#[]⟩, .int .i64 E]) (by simp [results, Tryd.results31, go_sem]) rfl ?_
    exact ⟨ret_isi HF.out.symm, below_of hb1⟩
  subst h0
  clear hE
  by_cases hN : 1 ≤ p ∧ p ≤ l.per
  case neg =>
    have HF := Lib.hid (show pnameR l.li nm n p = (0, ⟨#[]⟩, 13) by
      unfold pnameR; rw [HE.out, if_neg (by decide), if_pos]
      rw [Lm.li]; simp [withinB]; omega)
    by_cases hp1 : 1 ≤ p
    case neg =>
      go_enter Tryd.func31, Tryd.ntmps31
      go_wp2_with fail
      refine (HCK.out _ H0.out 0 HE.out).mono ?_; rintro e w1 ⟨rfl, hb1⟩
      have b1 := Lib.hid (below_of hb1)
      have x0 := cell_of_blk (blk_keep hb1 C0.out) 0
      simp at x0
      clear hb1
      go_wp2
      refine bodyPost_ret (v := .tuple #[.int .i64 0, .string ⟨#[]⟩, .int .i64 13]) (by simp [results, Tryd.results31, go_sem]) rfl ?_
      exact ⟨ret_isi HF.out.symm, b1.out⟩
    have hp2 : l.per < p := by omega
    go_enter Tryd.func31, Tryd.ntmps31
    go_wp2_with fail
    refine (HCK.out _ H0.out 0 HE.out).mono ?_; rintro e w1 ⟨rfl, hb1⟩
    have b1 := Lib.hid (below_of hb1)
    have x0 := cell_of_blk (blk_keep hb1 C0.out) 0
    simp at x0
    clear hb1
    go_wp2
    refine bodyPost_ret (v := .tuple #[.int .i64 0, .string ⟨#[]⟩, .int .i64 13]) (by simp [results, Tryd.results31, go_sem]) rfl ?_
    exact ⟨ret_isi HF.out.symm, b1.out⟩
  obtain ⟨hp1, hp2⟩ := hN
  have HP := Lib.hid (show withinB p l.li.per = true by rw [Lm.li]; simp [withinB, hp1, hp2])
  have HFORM := Lib.hid (fun h => pnameR_form HE.out HP.out (s := nm) (n := n) h)
  have hts : (nm.extract 0 m).size ≤ maxLen := by unfold maxLen; have := extract_size nm 0 m; omega
  have HTS := Lib.hid hts
  clear hts
  obtain ⟨T, hT⟩ : ∃ T, textB 1 (nm.extract 0 m) = T := ⟨_, rfl⟩
  have HT := Lib.hid hT
  clear hT
  go_enter Tryd.func31, Tryd.ntmps31
  go_wp2_with fail
  refine (HCK.out _ H0.out 0 HE.out).mono ?_; rintro e w1 ⟨rfl, hb1⟩
  have b1 := Lib.hid (below_of hb1)
  have L1 := Lib.hid (H0.out.below hb1)
  have C1 := Lib.hid (blk_keep hb1 C0.out)
  have x0 := cell_of_blk (blk_keep hb1 C0.out) 0
  have x1 := cell_of_blk (blk_keep hb1 C0.out) 1
  simp at x0 x1
  clear hb1
  go_wp2
  go_loop [10] (fun i => ∃ k : Nat, k ≤ m ∧ i = .int .i64 k) (fun i => m - (intOf i).toNat)
  case atStart => exact ⟨0, Nat.zero_le _, rfl⟩
  case round =>
    obtain ⟨k, hk, rfl⟩ := hrel
    by_cases hlt : k < m
    · have hks : k < nm.size := by omega
      have hd : digB nm[k] = false := by simpa using take_at OP.out.hno hlt hks
      have HD := Lib.hid hd
      clear hd
      go_wp2_with (first | (go_at_call 56; refine (bdig_is _ _ false HD.out).mono ?_; rintro e w' ⟨rfl, rfl⟩))
      go_round
      case rel => exact ⟨k + 1, by omega, by go_num⟩
      case measure => simp [intOf]; omega
    · obtain rfl : k = m := by omega
      have HX := Lib.hid (show T = true → splitP nm n = if k = nm.size then (nm.extract 0 k, 1, true) else (nm.extract 0 k, (placeP (nm.extract k nm.size)).1, (placeP (nm.extract k nm.size)).2) from fun h => by
        have e := OP.out.eq (by rw [HT.out, h])
        subst e
        unfold splitP
        rw [if_neg (by rw [HT.out, h]; decide)])
      have HBAD := Lib.hid (show T = false → pnameR l.li nm n p = (0, ⟨#[]⟩, 4) from fun h => HFORM.out (OP.out.bad (by rw [HT.out, h])))
      have HDS := Lib.hid (show (nm.extract k nm.size).size = nm.size - k by simp)
      have HD0 := Lib.hid (show ∀ h : k < nm.size, (bytes (nm.extract k nm.size))[0]? = some nm[k] from fun h => by
        rw [bytes_post, List.getElem?_drop]; exact bytes_at nm k h)
      have HDG := Lib.hid OP.out.hdig
      have hww := (Array.getElem?_eq_some_iff.1 C1.out).1
      by_cases hsz : k < nm.size
      case neg =>
        obtain rfl : k = nm.size := by omega
        have es : nm.extract 0 nm.size = nm := by simp
        rw [es] at HT HTS HX
        clear es
        cases T with
        | false =>
          have HF := Lib.hid (HBAD.out rfl)
          go_wp2_with fail
          refine wp_region_later (by kernel_rfl) (by kernel_rfl) ?_; (repeat (first | go_big_quiet_step (fail) | quiet_step (fail))); refine wpQuiet_nil ?_; rintro _ ⟨s, rfl⟩
          go_wp2_with (first | (go_at_call 57; refine (right_is _ _ _ HTS.out false HT.out).mono ?_; rintro e w' ⟨rfl, rfl⟩))
          refine bodyPost_ret (v := .tuple #[.int .i64 0, .string ⟨#[]⟩, .int .i64 4]) (by simp [results, Tryd.results31, go_sem]) rfl ?_
          exact ⟨ret_isi HF.out.symm, below_more b1.out s.below⟩
        | true =>
          have hsp : splitP nm n = (nm, 1, true) := by have := HX.out rfl; rw [if_pos rfl] at this; exact this
          have HR := Lib.hid (pnameR_ok HE.out HP.out hsp)
          clear hsp
          obtain ⟨zs, hzs⟩ : ∃ zs, zs = bearFrom 1 nm p 0 l.li.signs := ⟨_, rfl⟩
          have HB2 := Lib.hid (fun w (h : LmOk w l) => show Calls Tryd.prog 26 #[.agg #[.int .i64 l.per, .slice l.A l.ms.length l.cap], .int .i64 1, .string nm, .int .i64 p] w (GotIntsE w (zs, 0)) by
            have := HB.out nm w h
            rw [bearers_of_ok HE.out HP.out, ← hzs] at this; exact this)
          rw [← hzs] at HR
          clear hzs HX HBAD HFORM
          go_wp2_with fail
          refine wp_region_later (by kernel_rfl) (by kernel_rfl) ?_; (repeat (first | go_big_quiet_step (fail) | quiet_step (fail))); refine wpQuiet_nil ?_; rintro _ ⟨s, rfl⟩
          go_wp2_with (first | (go_at_call 57; refine (right_is _ _ _ HTS.out true HT.out).mono ?_; rintro e w' ⟨rfl, rfl⟩))
          go_loop [13] (fun i => i = .int .i64 0) (fun i => 0)
          case atStart => rfl
          case round =>
            subst hrel
            go_wp2_with fail
            refine (HB2.out _ (L1.out.below s.below)).mono ?_; rintro e w3 ⟨A3, c3, rfl, hi3, hn3, hb3⟩
            dsimp only at hi3 hn3 ⊢
            have b3 := Lib.hid (below_more b1.out (below_more s.below hb3))
            have HI := Lib.hid hi3
            have HN3 := Lib.hid hn3
            clear hb3 hi3 hn3
            go_wp2
            go_loop [16] (fun i => i = .int .i64 0) (fun i => 0)
            case atStart => rfl
            case round =>
              subst hrel
              cases zs with
              | nil =>
                have HF := Lib.hid (show pnameR l.li nm n p = (0, ⟨#[]⟩, 3) by rw [HR.out]; rfl)
                go_wp2
                refine bodyPost_ret (v := .tuple #[.int .i64 0, .string ⟨#[]⟩, .int .i64 3]) (by simp [results, Tryd.results31, go_sem]) rfl ?_
                exact ⟨ret_isi HF.out.symm, b3.out⟩
              | cons z zs =>
                have HF := Lib.hid (show pnameR l.li nm n p = (z, nm, 0) by rw [HR.out, if_neg (by simp; omega)]; rfl)
                obtain ⟨g, hA, hcell⟩ : ∃ g, A3 = some ⟨g, 0, none⟩ ∧ w3.cell? ⟨g, 0, none⟩ = some (.int .i64 z) := by
                  cases hA3 : A3 with
                  | none => have := HN3.out hA3; cases this
                  | some ad =>
                    obtain ⟨g, rfl, hg, hc⟩ := HI.out ad hA3
                    exact ⟨g, rfl, hc 0 (by simp)⟩
                subst hA
                go_wp2
                refine bodyPost_ret (v := .tuple #[.int .i64 z, .string nm, .int .i64 0]) (by simp [results, Tryd.results31, go_sem]) rfl ?_
                exact ⟨ret_isi HF.out.symm, b3.out⟩
      · have HD := Lib.hid (HDG.out hsz)
        have hDs : 0 < (nm.extract k nm.size).size := by rw [HDS.out]; omega
        have hDm : (nm.extract k nm.size).size ≤ 1000000 := by rw [HDS.out]; omega
        have hX2 := Lib.hid (fun h => show splitP nm n = (nm.extract 0 k, (placeP (nm.extract k nm.size)).1, (placeP (nm.extract k nm.size)).2) by
          have := HX.out h; rw [if_neg (by omega)] at this; exact this)
        clear HX HD0 HDS
        go_wp2_with (first | (go_at_call 56; refine (bdig_is _ _ true HD.out).mono ?_; rintro e w' ⟨rfl, rfl⟩))
        refine wp_region_later (by kernel_rfl) (by kernel_rfl) ?_; (repeat (first | go_big_quiet_step (fail) | quiet_step (fail))); refine wpQuiet_nil ?_; rintro _ ⟨s, rfl⟩
        go_wp2_with fail
        generalize nm.extract k nm.size = D at *
        generalize nm.extract 0 k = X at *
        clear HDG hlt HD
        cases T with
        | false =>
          have HF := Lib.hid (HBAD.out rfl)
          go_wp2_with (first | (go_at_call 57; refine (right_is _ _ _ HTS.out false HT.out).mono ?_; rintro e w' ⟨rfl, rfl⟩))
          refine bodyPost_ret (v := .tuple #[.int .i64 0, .string ⟨#[]⟩, .int .i64 4]) (by simp [results, Tryd.results31, go_sem]) rfl ?_
          exact ⟨ret_isi HF.out.symm, below_more b1.out s.below⟩
        | true =>
          have HSP := Lib.hid (hX2.out rfl)
          have HW := Lib.hid (fun (h : (placeP D).2 = false) => HFORM.out (by rw [HSP.out]; exact h))
          clear hX2 HBAD HFORM
          refine (right_is _ _ _ HTS.out true HT.out).mono ?_; rintro e w' ⟨rfl, rfl⟩
          by_cases e1 : (D.toList == [49]) = true
          case pos =>
            have HF := Lib.hid (HW.out (place_wrong (.inr (.inr (by rw [ByteArray.toList_eq] at e1; simpa [bytes] using e1)))))
            go_wp2
            refine bodyPost_ret (v := .tuple #[.int .i64 0, .string ⟨#[]⟩, .int .i64 4]) (by simp [results, Tryd.results31, go_sem]) rfl ?_
            exact ⟨ret_isi HF.out.symm, below_more b1.out s.below⟩
          have e1 : (D.toList == [49]) = false := by simpa using e1
          have hh : (bytes D).head? = some D[0] := by rw [List.head?_eq_getElem?]; exact bytes_at D 0 hDs
          have HH := Lib.hid hh
          clear hh
          have hne0 : D.toList.isEmpty = false := by
            rw [ByteArray.toList_eq]
            cases h : D.data.toList with
            | nil => have : D.data.toList.length = 0 := by rw [h]; rfl
                     have h2 : D.data.toList.length = D.size := bytes_length D
                     omega
            | cons => rfl
          by_cases e2 : ((D[0].toNat : Int) == 48) = true
          case pos =>
            have HF := Lib.hid (HW.out (place_wrong (.inr (.inl (by
              rw [HH.out]; simp at e2
              have : D[0].toNat = (48 : UInt8).toNat := by show D[0].toNat = 48; omega
              rw [UInt8.toNat_inj.1 this])))))
            go_wp2
            refine bodyPost_ret (v := .tuple #[.int .i64 0, .string ⟨#[]⟩, .int .i64 4]) (by simp [results, Tryd.results31, go_sem]) rfl ?_
            exact ⟨ret_isi HF.out.symm, below_more b1.out s.below⟩
          have e2 : ((D[0].toNat : Int) == 48) = false := by simpa using e2
          go_wp2_with fail
          go_loop [13] (fun i => ∃ j : Nat, j ≤ D.size ∧ i = .int .i64 j ∧ Hid (((bytes D).take j).all digB = true)) (fun i => D.size - (intOf i).toNat)
          case atStart => exact ⟨0, Nat.zero_le _, rfl, Lib.hid (by simp)⟩
          case round =>
            obtain ⟨j, hj, rfl, hdj⟩ := hrel
            by_cases hjl : j < D.size
            · have hsn := Lib.hid (take_snoc D j hjl)
              cases hdd : digB D[j] with
              | false =>
                have hdd := Lib.hid hdd
                have HF := Lib.hid (HW.out (place_wrong (.inl (all_false_of _ _ _ _ (bytes_at D j hjl) hdd.out))))
                go_wp2_with (first | (go_at_call 56; refine (bdig_is _ _ false hdd.out).mono ?_; rintro e w' ⟨rfl, rfl⟩))
                refine bodyPost_ret (v := .tuple #[.int .i64 0, .string ⟨#[]⟩, .int .i64 4]) (by simp [results, Tryd.results31, go_sem]) rfl ?_
                exact ⟨ret_isi HF.out.symm, below_more b1.out s.below⟩
              | true =>
                have hdd := Lib.hid hdd
                go_wp2_with (first | (go_at_call 56; refine (bdig_is _ _ true hdd.out).mono ?_; rintro e w' ⟨rfl, rfl⟩))
                go_round
                case rel => exact ⟨j + 1, by omega, by go_num, Lib.hid (by rw [hsn.out, all_snoc, hdj.out, hdd.out]; rfl)⟩
                case measure => simp [intOf]; omega
            · obtain rfl : j = D.size := by omega
              have HDA := Lib.hid (show (bytes D).all digB = true by have := hdj.out; rwa [take_full] at this)
              have hn1 : bytes D ≠ [49] := fun e => by rw [ByteArray.toList_eq] at e1; simp [bytes] at e; rw [e] at e1; cases e1
              have hn2 : (bytes D).head? ≠ some 48 := fun e => by rw [HH.out] at e; injection e with e; rw [e] at e2; cases e2
              have hn0 : bytes D ≠ [] := fun e => by have := bytes_length D; rw [e] at this; simp at this; omega
              have hpg := place_good HDA.out hn0 hn2 hn1
              have HDP := Lib.hid (fun v hv => dec_place (bytes D) HDA.out hn0 hn2 v hv)
              obtain ⟨V, hV⟩ : ∃ V, V = placeF (bytes D) := ⟨_, rfl⟩
              rw [← hV] at hpg HDP
              have HR := Lib.hid (pnameR_ok HE.out HP.out (show splitP nm n = (X, V, true) by rw [HSP.out, hpg.1]))
              have hV2 := hpg.2
              obtain ⟨zs, hzs⟩ : ∃ zs, zs = bearFrom 1 X p 0 l.li.signs := ⟨_, rfl⟩
              have hzl : zs.length ≤ 200 := by rw [hzs]; exact Nat.le_trans (bearFrom_len 1 X p l.li.signs 0) (signs_le HE.out)
              have HB2 := Lib.hid (fun w (h : LmOk w l) => show Calls Tryd.prog 26 #[.agg #[.int .i64 l.per, .slice l.A l.ms.length l.cap], .int .i64 1, .string X, .int .i64 p] w (GotIntsE w (zs, 0)) by
                have := HB.out X w h
                rw [bearers_of_ok HE.out HP.out, ← hzs] at this; exact this)
              rw [← hzs] at HR
              clear hzs hpg hn0 hn1 hn2 hV HSP HW HH HDA hdj e1 e2
              go_wp2_with fail
              refine (HB2.out _ (L1.out.below s.below)).mono ?_; rintro e w3 ⟨A3, c3, rfl, hi3, hn3, hb3⟩
              dsimp only at hi3 hn3 ⊢
              have b3 := Lib.hid (below_more b1.out (below_more s.below hb3))
              have HI := Lib.hid hi3
              have HN3 := Lib.hid hn3
              clear hb3 hi3 hn3
              obtain ⟨m, hm'⟩ : ∃ m, m = zs.length := ⟨_, rfl⟩
              have HM := Lib.hid hm'
              rw [← hm'] at HR hzl ⊢
              clear hm'
              go_wp2
              go_loopw [16] (fun i wr => ∃ j : Nat, j ≤ m ∧ i = .int .i64 j ∧ Hid (∀ q, q < j → V ≠ ((q + 1 : Nat) : Int)) ∧ Hid (Below w3.heap.size w3 wr)) (fun i _ => m - (intOf i).toNat)
              case atStart => exact ⟨0, Nat.zero_le _, rfl, Lib.hid (fun q hq => absurd hq (by omega)), Lib.hid (Below.refl _ _)⟩
              case round =>
                obtain ⟨j, hj, rfl, hno, hbr⟩ := hrel
                by_cases hjl : j < m
                · by_cases hj0 : j = 0
                  · subst hj0
                    go_wp2
                    go_roundw
                    case rel => exact ⟨0 + 1, by omega, by go_num, Lib.hid (fun q hq => by omega), hbr⟩
                    case measure => simp [intOf]; omega
                  · have hj1 : ((j : Int) == 0) = false := by rw [beq_eq_false_iff_ne]; omega
                    have hj2 : (0 : Int) < j := by omega
                    obtain ⟨E, hEE⟩ : ∃ E : ByteArray, E = ⟨(Lib.decDigits (j + 1)).toArray⟩ := ⟨_, rfl⟩
                    have HDE := Lib.hid (fun w => show Calls Tryd.prog 54 #[.int .i64 ((j : Int) + 1)] w fun e w' => e = .returned (.string E) ∧ Below w.heap.size w w' by
                      rw [hEE]; exact decimal_any (j + 1) (by omega) w)
                    have HEQ := Lib.hid (show (D.toList == E.toList) = true ↔ V = ((j + 1 : Nat) : Int) by
                      rw [← (HDP.out (j + 1) (by omega))]
                      rw [hEE, ByteArray.toList_eq, ByteArray.toList_eq]
                      simp [bytes]
                      exact eq_comm)
                    clear hEE
                    by_cases hc : (D.toList == E.toList) = true
                    case neg =>
                      have hc : (D.toList == E.toList) = false := by simpa using hc
                      have hst := Lib.hid (show ∀ q, q < j + 1 → V ≠ ((q + 1 : Nat) : Int) from fun q hq => by
                        rcases Nat.lt_succ_iff_lt_or_eq.1 hq with h | h
                        · exact hno.out q h
                        · subst h; intro e; rw [HEQ.out.2 e] at hc; cases hc)
                      go_wp2_with fail
                      refine (HDE.out _).mono ?_; rintro e w4 ⟨rfl, hb4⟩
                      have B4 := Lib.hid (below_more hbr.out hb4)
                      clear hb4
                      go_wp2
                      go_roundw
                      case rel => exact ⟨j + 1, by omega, by go_num, hst, B4⟩
                      case measure => simp [intOf]; omega
                    have hVj := HEQ.out.1 hc
                    have HF := Lib.hid (show pnameR l.li nm n p = (zs.getD j 0, X, 0) by
                      rw [HR.out, if_neg (by omega), show (V - 1).toNat = j by omega])
                    have hkz : j < zs.length := by rw [← HM.out]; exact hjl
                    obtain ⟨g, hA, hg, hcell⟩ : ∃ g, A3 = some ⟨g, 0, none⟩ ∧ g < w3.heap.size ∧ w3.cell? ⟨g, j, none⟩ = some (.int .i64 (zs.getD j 0)) := by
                      cases hA3 : A3 with
                      | none => have := HN3.out hA3; rw [this] at hkz; simp at hkz
                      | some ad =>
                        obtain ⟨g, rfl, hg, hc⟩ := HI.out ad hA3
                        exact ⟨g, rfl, hg, hc j hkz⟩
                    subst hA
                    generalize zs.getD j 0 = z at hcell HF
                    have HCL := Lib.hid hcell
                    clear hcell hVj hkz
                    go_wp2_with fail
                    refine (HDE.out _).mono ?_; rintro e w4 ⟨rfl, hb4⟩
                    have hc4 : w4.cell? ⟨g, j, none⟩ = some (.int .i64 z) := ((below_more hbr.out hb4).cell (p := ⟨g, j, none⟩) hg).trans HCL.out
                    have B4 := Lib.hid (below_more b3.out (below_more hbr.out hb4))
                    clear hb4
                    go_wp2
                    refine bodyPost_ret (v := .tuple #[.int .i64 z, .string X, .int .i64 0]) (by simp [results, Tryd.results31, go_sem]) rfl ?_
                    exact ⟨ret_isi HF.out.symm, B4.out⟩
                · obtain rfl : j = m := by omega
                  have HF := Lib.hid (show pnameR l.li nm n p = (0, ⟨#[]⟩, 3) by
                    rw [HR.out, if_pos]
                    have := hno.out (V - 1).toNat
                    by_cases h : (j : Int) < V
                    · exact h
                    · exact absurd (this (by omega)) (by omega))
                  go_wp2
                  refine bodyPost_ret (v := .tuple #[.int .i64 0, .string ⟨#[]⟩, .int .i64 3]) (by simp [results, Tryd.results31, go_sem]) rfl ?_
                  exact ⟨ret_isi HF.out.symm, below_more b3.out hbr.out⟩

end Go.Proofs.YthnhpgmohhaeaaaDoor
