/-
  Contract of the program's Check.
-/
import Derived.Test.YtbfedahonfjpfaaSeen
namespace Go.Proofs.Ytbfedahonfjpfaa
open Go.RowKit Go.Maps

theorem grown_cell {w w' : World} {g b o : Nat} (h : w.grownBy w' (some g)) (hlt : b < w.heap.size) (hne : b ≠ g) : w'.cell? ⟨b, o, none⟩ = w.cell? ⟨b, o, none⟩ :=
  World.cell?_of_block (w := w) (h.block b hlt (by simpa using hne))

theorem checkSign_is (m : Sm) (p : Int) (w : World) (hm : SmOk w m) (i : Int) (h : signErr m.s p = i) :
    Calls Try.prog 88 #[m.val, .int .i64 p] w fun e w' => e = .returned (.int .i64 i) ∧ Below w.heap.size w w' := by
  rw [← h]; exact checkSign_any m p w hm
theorem code_is (s : ByteArray) (w : World) (hs : s.size ≤ maxLen) (r : Bool) (h : codeB s = r) : Calls Try.prog 87 #[.string s] w fun e w' => e = .returned (.bool r) ∧ w = w' := by
  rw [← h]; exact code_any s w hs
theorem within_is (n m : Int) (w : World) (r : Bool) (h : withinB n m = r) : Calls Try.prog 86 #[.int .i64 n, .int .i64 m] w fun e w' => e = .returned (.bool r) ∧ w = w' := by
  rw [← h]; exact within_any n m w

set_option maxHeartbeats 3200000 in
theorem check_any (l : Lm) (w : World) (hl : LmOk w l) :
    Calls Try.prog 57 #[l.val] w fun e w' => e = .returned (.int .i64 (checkErr l.li)) ∧ Below w.heap.size w w' := by
  have hs := hl.signs
  obtain ⟨per, ms, A, cap⟩ := l
  obtain ⟨-, hlen, hcap⟩ := hl
  dsimp only at hs hlen hcap
  unfold Lm.val Lm.li Lm.signs
  dsimp only
  obtain ⟨n, hn⟩ : ∃ n, n = ms.length := ⟨_, rfl⟩
  rw [← hn] at hlen ⊢
  have hcap' := hcap
  unfold maxLen at hcap'
  have HN := Lib.hid hn
  have HNL := Lib.hid (show (ms.map (·.s)).length = n by rw [List.length_map]; exact hn.symm)
  clear hn
  by_cases h1 : n ≤ 200
  case neg =>
    have hf := Lib.hid (show checkErr ⟨per, ms.map (·.s)⟩ = 2 by unfold checkErr; rw [if_pos (by dsimp only; rw [HNL.out]; omega)])
    go_enter Try.func57, Try.ntmps57
    go_wp2
    go_ret
    exact ⟨of_int hf.out.symm, below_alloc _ _⟩
  have hg := Lib.hid (show ¬ 200 < (ms.map (·.s)).length by rw [HNL.out]; omega)
  by_cases h2 : withinB per 9 = true
  case neg =>
    have h2 : withinB per 9 = false := by simpa using h2
    have hf := Lib.hid (show checkErr ⟨per, ms.map (·.s)⟩ = 13 by unfold checkErr; rw [if_neg hg.out, if_pos h2])
    go_enter Try.func57, Try.ntmps57
    go_wp2_with (first | (go_at_call 86; refine (within_is _ _ _ false h2).mono ?_; rintro e w' ⟨rfl, rfl⟩))
    go_ret
    exact ⟨of_int hf.out.symm, below_alloc _ _⟩
  have hf := Lib.hid (show checkErr ⟨per, ms.map (·.s)⟩ = signsErr per [] (ms.map (·.s)) by unfold checkErr; rw [if_neg hg.out, if_neg (by rw [h2]; simp)])
  have hmk := fun (n : Int) (w : World) => mkSeen n w
  have c0 := Lib.hid (show ((w.alloc (.cells #[.int .i64 per, .slice A n cap] 24)).alloc (.map #[] 0)).cell? ⟨w.heap.size, 0, none⟩ = some (.int .i64 per) by simp [go_sem])
  have c1 := Lib.hid (show ((w.alloc (.cells #[.int .i64 per, .slice A n cap] 24)).alloc (.map #[] 0)).cell? ⟨w.heap.size, 1, none⟩ = some (.slice A n cap) by simp [go_sem])
  have cs := Lib.hid (show SeenAt ((w.alloc (.cells #[.int .i64 per, .slice A n cap] 24)).alloc (.map #[] 0)) (w.heap.size + 1) 0 [] by
    have := SeenAt.new (w.alloc (.cells #[.int .i64 per, .slice A n cap] 24)); simpa using this)
  have cb := Lib.hid (show Below w.heap.size w ((w.alloc (.cells #[.int .i64 per, .slice A n cap] 24)).alloc (.map #[] 0)) from ((Below.refl _ _).alloc (Nat.le_refl _) _).alloc (by simp) _)
  go_enter Try.func57, Try.ntmps57
  go_wp2_with (first | (go_at_call 86; refine (within_is _ _ _ true h2).mono ?_; rintro e w' ⟨rfl, rfl⟩))
  clear h2 hmk
  go_loopw [22] (fun i wr => ∃ k : Nat, k ≤ n ∧ i = .int .i64 k ∧ Hid (Below w.heap.size w wr) ∧ Hid (wr.cell? ⟨w.heap.size, 0, none⟩ = some (.int .i64 per)) ∧ Hid (wr.cell? ⟨w.heap.size, 1, none⟩ = some (.slice A n cap)) ∧ Hid (w.heap.size + 1 < wr.heap.size) ∧ Hid (SeenAt wr (w.heap.size + 1) k ((ms.map (·.s)).take k)) ∧ Hid (signsErr per ((ms.map (·.s)).take k) ((ms.map (·.s)).drop k) = signsErr per [] (ms.map (·.s)))) (fun i _ => n - (intOf i).toNat)
  case atStart => exact ⟨0, Nat.zero_le _, rfl, cb, c0, c1, Lib.hid (by simp), cs, Lib.hid (by simp)⟩
  case round =>
    obtain ⟨k, hk, rfl, hb, x0', x1', hsz', hseen, hno⟩ := hrel
    have hw1 := hb
    have x0 := x0'.out
    have x1 := x1'.out
    have hsz : w.heap.size < wr.heap.size := by have := hsz'.out; omega
    by_cases hlt : k < n
    · have hget : ms[k]? = some (ms[k]'(by have := HN.out; omega)) := List.getElem?_eq_getElem _
      obtain ⟨u, hu⟩ : ∃ u, u = ms[k]'(by have := HN.out; omega) := ⟨_, rfl⟩
      rw [← hu] at hget
      obtain ⟨b, o, hA, hb1, hva, hok⟩ := hs k u hget
      have hok0 := Lib.hid hok
      subst hA
      obtain ⟨y0, y1, y2, y3, y4⟩ := hva.below hw1.out hb1
      have hcsz := Lib.hid hok.code
      have GET := Lib.hid (show (ms.map (·.s))[k]? = some u.s by rw [List.getElem?_map, hget]; rfl)
      have hsb : b < wr.heap.size := by omega
      have hsnd := Lib.hid (show ((ms.map (·.s)).take k) ++ [u.s] = (ms.map (·.s)).take (k + 1) by
        obtain ⟨hk', e⟩ := List.getElem?_eq_some_iff.1 GET.out
        rw [List.take_succ_eq_append_getElem hk', e])
      clear hu hget hva hs hok
      by_cases hcode : codeB u.s.code = true
      case neg =>
        have hcode : codeB u.s.code = false := by simpa using hcode
        have hfin := Lib.hid (signsErr_code per _ k u.s GET.out (by rw [hcode]; rfl))
        go_wp2_with (first | (go_at_call 87; refine (code_is _ _ hcsz.out false hcode).mono ?_; rintro e w' ⟨rfl, rfl⟩))
        go_ret
        exact ⟨of_int (by rw [hf.out, ← hno.out, hfin.out]), hb.out.alloc (Nat.le_of_lt hsz) _⟩
      obtain ⟨box, hbox⟩ : ∃ box, box = Obj.cells #[.string u.s.code, .int .i64 u.s.wide, .int .i64 u.s.high, .bool u.s.even, .slice u.A u.s.vals.length u.cap] 76 := ⟨_, rfl⟩
      have hlook := (hseen.out.alloc box).look hcsz.out
      obtain ⟨w1, hput, hseen1, hgrow⟩ := (hseen.out.alloc box).put (s := u.s) hcsz.out (by unfold maxLen; omega)
      have hb2 : Below w.heap.size w w1 := (hb.out.alloc (Nat.le_of_lt hsz) box).grown hgrow (by simp; omega) (by intro g hg; injection hg with hg; omega)
      have hsz1 : wr.heap.size < w1.heap.size := by have := hgrow.size; simp at this; omega
      have z0 : w1.cell? ⟨w.heap.size, 0, none⟩ = some (.int .i64 per) := (grown_cell hgrow (by simp; omega) (by omega)).trans (by rw [World.cell?_alloc_lt _ _ _ (by dsimp only; omega)]; exact x0)
      have z1 : w1.cell? ⟨w.heap.size, 1, none⟩ = some (.slice (some ⟨b, o, none⟩) n cap) := (grown_cell hgrow (by simp; omega) (by omega)).trans (by rw [World.cell?_alloc_lt _ _ _ (by dsimp only; omega)]; exact x1)
      have bx := SmAt.box wr u 76
      rw [← hbox] at bx
      have hne : wr.heap.size ≠ w.heap.size + 1 := by have := hsz'.out; omega
      have v0 : w1.cell? ⟨wr.heap.size, 0, none⟩ = some (.string u.s.code) := (grown_cell hgrow (by simp) hne).trans bx.at0.1
      have v1 : w1.cell? ⟨wr.heap.size, 1, none⟩ = some (.int .i64 u.s.wide) := (grown_cell hgrow (by simp) hne).trans bx.at0.2.1
      have v2 : w1.cell? ⟨wr.heap.size, 2, none⟩ = some (.int .i64 u.s.high) := (grown_cell hgrow (by simp) hne).trans bx.at0.2.2.1
      have v3 : w1.cell? ⟨wr.heap.size, 3, none⟩ = some (.bool u.s.even) := (grown_cell hgrow (by simp) hne).trans bx.at0.2.2.2.1
      have v4 : w1.cell? ⟨wr.heap.size, 4, none⟩ = some (.slice u.A u.s.vals.length u.cap) := (grown_cell hgrow (by simp) hne).trans bx.at0.2.2.2.2
      subst hbox
      have HB2 := Lib.hid hb2
      have HSEEN1 := Lib.hid hseen1
      have HGROW := Lib.hid hgrow
      clear hb2 hseen1 hgrow bx
      by_cases hdup : ((ms.map (·.s)).take k).any (fun s => strEq s.code u.s.code) = true
      case pos =>
        have hfin := Lib.hid (signsErr_code per _ k u.s GET.out (by rw [hdup]; simp))
        rw [hdup] at hlook
        clear hput z0 z1 v0 v1 v2 v3 v4
        go_wp2_with (first | (go_at_call 87; refine (code_is _ _ hcsz.out true hcode).mono ?_; rintro e w' ⟨rfl, rfl⟩))
        go_ret
        exact ⟨of_int (by rw [hf.out, ← hno.out, hfin.out]), hb.out.alloc (Nat.le_of_lt hsz) _⟩
      have hdup : ((ms.map (·.s)).take k).any (fun s => strEq s.code u.s.code) = false := by simpa using hdup
      have hok2 := Lib.hid (show (codeB u.s.code && !((ms.map (·.s)).take k).any fun d => strEq d.code u.s.code) = true by rw [hdup, hcode]; rfl)
      rw [hdup] at hlook
      clear hdup
      have hok1 := Lib.hid (hok0.out.below HB2.out)
      obtain ⟨E, hE⟩ : ∃ E, E = signErr u.s per := ⟨_, rfl⟩
      have HE := Lib.hid hE.symm
      by_cases hse : E = 0
      · have hfin := Lib.hid (signsErr_step per _ k u.s GET.out hok2.out (by rw [← hE]; exact hse))
        have hsE := Lib.hid (show signErr u.s per = 0 by rw [← hE]; exact hse)
        clear hE HE hse
        go_wp2_with (first | (go_at_call 87; refine (code_is _ _ hcsz.out true hcode).mono ?_; rintro e w' ⟨rfl, rfl⟩) | (go_at_call 88; refine (checkSign_is u per _ hok1.out 0 hsE.out).mono ?_; rintro e w2 ⟨rfl, hb3⟩))
        have q0 := (hb3.cell (p := ⟨w.heap.size, 0, none⟩) (by dsimp only; omega)).trans z0
        have q1 := (hb3.cell (p := ⟨w.heap.size, 1, none⟩) (by dsimp only; omega)).trans z1
        have hs3 := hb3.size
        have hb4 := HB2.out.trans (hb3.mono (by omega))
        go_roundw
        case rel => exact ⟨k + 1, by omega, by go_num, Lib.hid hb4, Lib.hid q0, Lib.hid q1, Lib.hid (by have := hsz'.out; omega), Lib.hid (by rw [← hsnd.out]; exact HSEEN1.out.below hb3), Lib.hid (by rw [← hfin.out]; exact hno.out)⟩
        case measure => simp [intOf]; omega
      · have hfin := Lib.hid (signsErr_stop per _ k u.s GET.out hok2.out (by rw [← hE]; exact hse))
        have hse' : (E != 0) = true := by simpa using hse
        clear hE hse
        go_wp2_with (first | (go_at_call 87; refine (code_is _ _ hcsz.out true hcode).mono ?_; rintro e w' ⟨rfl, rfl⟩) | (go_at_call 88; refine (checkSign_is u per _ hok1.out E HE.out).mono ?_; rintro e w2 ⟨rfl, hb3⟩))
        go_ret
        exact ⟨of_int (by rw [hf.out, ← hno.out, hfin.out, HE.out]), HB2.out.trans (hb3.mono (by omega))⟩
    · obtain rfl : k = n := by omega
      go_wp2
      go_ret
      refine ⟨of_int ?_, hw1.out⟩
      have := hno.out
      rw [hf.out, ← this, ← HNL.out, signsErr_end]

end Go.Proofs.Ytbfedahonfjpfaa
