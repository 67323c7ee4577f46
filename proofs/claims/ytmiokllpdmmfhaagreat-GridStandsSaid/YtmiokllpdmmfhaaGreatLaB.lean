/-
  The set of codes that Check keeps: a map of booleans that the call makes. And what builds on it.
-/
import Derived.Test.YtmiokllpdmmfhaaGreatLaA
import Derived.Maps.Own
import Derived.Maps.OwnOps
import Derived.Maps.OwnSet
import Derived.Maps.Views
import Derived.StringKeys
import Derived.Maps.AppendAt
import Derived.Laws.OwnMore
import Derived.OwnWalk
namespace Go.Proofs.YtmiokllpdmmfhaaGreat
open Go.RowKit Go.Maps Go.WideMaps
theorem strEq_iff (a b : ByteArray) : strEq a b = (a.data.toList == b.data.toList) := by simp [strEq, ByteArray.toList_eq]
theorem zeroBool (w : World) : (zeroValue 4).run Tryz.prog w = .ok (.bool false) w := by kernel_rfl
theorem keyedS : Keyed Tryz.prog 9 := string_keyed Tryz.underlying9
theorem mkSeen (n : Int) (w : World) : (Instr.makeMap 178 (some (.int .i64 n))).run Tryz.prog w = .ok (.map (some w.heap.size)) (w.alloc (.map #[] 0)) := by
  simp [Instr.makeMap, run_underlying Tryz.underlying178, go_sem]
theorem plain_bool_inv {P : Program} {e : TypeId} (he : P.underlying e = some .bool) {v : Value} {z : DataW Unit × List MemPlace} (h : plainElem P e v = some z) : ∃ r, v = .bool r ∧ z = (.lit (.bool r), []) := by
  unfold plainElem at h
  rw [he] at h
  cases v <;> simp at h
  exact ⟨_, rfl, h.symm⟩
def SeenAt (w : World) (b k : Nat) (ss : List Sg) : Prop :=
  ∃ D : DataW Unit, w.ownsMap Tryz.prog 9 (plainElem Tryz.prog 4) b k D ∧ ∀ c : ByteArray, D.atKey (.string c.data.toList) (.lit (.bool false)) = .lit (.bool (ss.any fun s => strEq s.code c))
theorem SeenAt.new (w : World) : SeenAt (w.alloc (.map #[] 0)) w.heap.size 0 [] :=
  ⟨_, World.ownsMap_made w _ _ _, fun c => by simp [DataW.atKey]⟩
theorem SeenAt.alloc {w : World} {b k : Nat} {ss : List Sg} (h : SeenAt w b k ss) (o : Obj) : SeenAt (w.alloc o) b k ss := by
  obtain ⟨D, h1, h2⟩ := h
  exact ⟨D, h1.alloc o, h2⟩
theorem SeenAt.below {w w' : World} {b k : Nat} {ss : List Sg} (h : SeenAt w b k ss) (hb : Below w.heap.size w w') : SeenAt w' b k ss := by
  obtain ⟨D, ⟨es, clock, h0, h1⟩, h2⟩ := h
  have hlt : b < w.heap.size := (Array.getElem?_eq_some_iff.1 h0).1
  exact ⟨D, ⟨es, clock, (hb.block b hlt).trans h0, h1⟩, h2⟩
theorem SeenAt.look {w : World} {b k : Nat} {ss : List Sg} (h : SeenAt w b k ss) {c : ByteArray} (hc : c.size ≤ maxLen) :
    (Instr.lookup 178 (.map (some b)) (.string c) false).run Tryz.prog w = .ok (.bool (ss.any fun s => strEq s.code c)) w := by
  obtain ⟨D, h1, h2⟩ := h
  obtain ⟨v, ps, hrun, hv⟩ := h1.lookup keyedS Tryz.underlying178 (zeroBool w) (plainElem_bool Tryz.underlying4 false) (keyOf_string_mk Tryz.underlying9 hc)
  rw [h2] at hv
  obtain ⟨r, rfl, hz⟩ := plain_bool_inv Tryz.underlying4 hv
  simp only [Prod.mk.injEq, DataW.lit.injEq, Lit.bool.injEq] at hz
  rw [hrun, hz.1]
theorem SeenAt.put {w : World} {b k : Nat} {ss : List Sg} (h : SeenAt w b k ss) {s : Sg} (hc : s.code.size ≤ maxLen) (hk : k < maxLen) :
    ∃ w', (Instr.mapUpdate 178 (.map (some b)) (.string s.code) (.bool true)).run Tryz.prog w = .ok () w' ∧ SeenAt w' b (k + 1) (ss ++ [s]) ∧ w.grownBy w' (some b) := by
  obtain ⟨D, h1, h2⟩ := h
  obtain ⟨w', hrun, hown, hg⟩ := h1.update keyedS Tryz.underlying178 hk (keyOf_string_mk Tryz.underlying9 hc) (plainElem_bool Tryz.underlying4 true)
  refine ⟨w', hrun, ⟨_, hown, fun c => ?_⟩, hg⟩
  by_cases hcs : c.data.toList = s.code.data.toList
  · rw [hcs, atKey_put_same h1.isMap (keyedS.key (keyOf_string_mk Tryz.underlying9 hc))]
    simp [strEq_iff, hcs]
  · rw [atKey_put_other (by intro e; injection e with e; exact hcs e), h2]
    have : strEq s.code c = false := by rw [strEq_iff]; simpa using fun e => hcs (by rw [e])
    simp [this]
open Go.RowKit Go.Maps
theorem grown_cell {w w' : World} {g b o : Nat} (h : w.grownBy w' (some g)) (hlt : b < w.heap.size) (hne : b ≠ g) : w'.cell? ⟨b, o, none⟩ = w.cell? ⟨b, o, none⟩ :=
  World.cell?_of_block (w := w) (h.block b hlt (by simpa using hne))
theorem checkSign_is (m : Sm) (p : Int) (w : World) (hm : SmOk w m) (i : Int) (h : signErr m.s p = i) :
    Calls Tryz.prog 115 #[m.val, .int .i64 p] w fun e w' => e = .returned (.int .i64 i) ∧ Below w.heap.size w w' := by
  rw [← h]; exact checkSign_any m p w hm
theorem code_is (s : ByteArray) (w : World) (hs : s.size ≤ maxLen) (r : Bool) (h : codeB s = r) : Calls Tryz.prog 114 #[.string s] w fun e w' => e = .returned (.bool r) ∧ w = w' := by
  rw [← h]; exact code_any s w hs
theorem within_is (n m : Int) (w : World) (r : Bool) (h : withinB n m = r) : Calls Tryz.prog 113 #[.int .i64 n, .int .i64 m] w fun e w' => e = .returned (.bool r) ∧ w = w' := by
  rw [← h]; exact within_any n m w
set_option maxHeartbeats 3200000 in
theorem check_any (l : Lm) (w : World) (hl : LmOk w l) :
    Calls Tryz.prog 67 #[l.val] w fun e w' => e = .returned (.int .i64 (checkErr l.li)) ∧ Below w.heap.size w w' := by
  have hs := hl.signs
  obtain ⟨per, ms, A, cap⟩ := l
  obtain ⟨-, hlen, hcap⟩ := hl
  dsimp only at hs hlen hcap
  unfold Lm.val Lm.li Lm.signs
  dsimp only
  obtain ⟨n, hn⟩ : ∃ n, n = ms.length := ⟨_, rfl⟩
  rw [← hn] at hlen ⊢
  have hcap' := hcap
  unfold maxLen at hcap'
  have HN := Lib.hid hn
  have HNL := Lib.hid (show (ms.map (·.s)).length = n by rw [List.length_map]; exact hn.symm)
  clear hn
  by_cases h1 : n ≤ 200
  case neg =>
    have hf := Lib.hid (show checkErr ⟨per, ms.map (·.s)⟩ = 2 by unfold checkErr; rw [if_pos (by dsimp only; rw [HNL.out]; omega)])
    go_enter Tryz.func67, Tryz.ntmps67
    go_wp2
    go_ret
    exact ⟨of_int hf.out.symm, below_alloc _ _⟩
  have hg := Lib.hid (show ¬ 200 < (ms.map (·.s)).length by rw [HNL.out]; omega)
  by_cases h2 : withinB per 9 = true
  case neg =>
    have h2 : withinB per 9 = false := by simpa using h2
    have hf := Lib.hid (show checkErr ⟨per, ms.map (·.s)⟩ = 13 by unfold checkErr; rw [if_neg hg.out, if_pos h2])
    go_enter Tryz.func67, Tryz.ntmps67
    go_wp2_with (first | (go_at_call 113; refine (within_is _ _ _ false h2).mono ?_; rintro e w' ⟨rfl, rfl⟩))
    go_ret
    exact ⟨of_int hf.out.symm, below_alloc _ _⟩
  have hf := Lib.hid (show checkErr ⟨per, ms.map (·.s)⟩ = signsErr per [] (ms.map (·.s)) by unfold checkErr; rw [if_neg hg.out, if_neg (by rw [h2]; simp)])
  have hmk := fun (n : Int) (w : World) => mkSeen n w
  have c0 := Lib.hid (show ((w.alloc (.cells #[.int .i64 per, .slice A n cap] 24)).alloc (.map #[] 0)).cell? ⟨w.heap.size, 0, none⟩ = some (.int .i64 per) by simp [go_sem])
  have c1 := Lib.hid (show ((w.alloc (.cells #[.int .i64 per, .slice A n cap] 24)).alloc (.map #[] 0)).cell? ⟨w.heap.size, 1, none⟩ = some (.slice A n cap) by simp [go_sem])
  have cs := Lib.hid (show SeenAt ((w.alloc (.cells #[.int .i64 per, .slice A n cap] 24)).alloc (.map #[] 0)) (w.heap.size + 1) 0 [] by
    have := SeenAt.new (w.alloc (.cells #[.int .i64 per, .slice A n cap] 24)); simpa using this)
  have cb := Lib.hid (show Below w.heap.size w ((w.alloc (.cells #[.int .i64 per, .slice A n cap] 24)).alloc (.map #[] 0)) from ((Below.refl _ _).alloc (Nat.le_refl _) _).alloc (by simp) _)
  go_enter Tryz.func67, Tryz.ntmps67
  go_wp2_with (first | (go_at_call 113; refine (within_is _ _ _ true h2).mono ?_; rintro e w' ⟨rfl, rfl⟩))
  clear h2 hmk
  go_loopw [22] (fun i wr => ∃ k : Nat, k ≤ n ∧ i = .int .i64 k ∧ Hid (Below w.heap.size w wr) ∧ Hid (wr.cell? ⟨w.heap.size, 0, none⟩ = some (.int .i64 per)) ∧ Hid (wr.cell? ⟨w.heap.size, 1, none⟩ = some (.slice A n cap)) ∧ Hid (w.heap.size + 1 < wr.heap.size) ∧ Hid (SeenAt wr (w.heap.size + 1) k ((ms.map (·.s)).take k)) ∧ Hid (signsErr per ((ms.map (·.s)).take k) ((ms.map (·.s)).drop k) = signsErr per [] (ms.map (·.s)))) (fun i _ => n - (intOf i).toNat)
  case atStart => exact ⟨0, Nat.zero_le _, rfl, cb, c0, c1, Lib.hid (by simp), cs, Lib.hid (by simp)⟩
  case round =>
    obtain ⟨k, hk, rfl, hb, x0', x1', hsz', hseen, hno⟩ := hrel
    have hw1 := hb
    have x0 := x0'.out
    have x1 := x1'.out
    have hsz : w.heap.size < wr.heap.size := by have := hsz'.out; omega
    by_cases hlt : k < n
    · have hget : ms[k]? = some (ms[k]'(by have := HN.out; omega)) := List.getElem?_eq_getElem _
      obtain ⟨u, hu⟩ : ∃ u, u = ms[k]'(by have := HN.out; omega) := ⟨_, rfl⟩
      rw [← hu] at hget
      obtain ⟨b, o, hA, hb1, hva, hok⟩ := hs k u hget
      have hok0 := Lib.hid hok
      subst hA
      obtain ⟨y0, y1, y2, y3, y4⟩ := hva.below hw1.out hb1
      have hcsz := Lib.hid hok.code
      have GET := Lib.hid (show (ms.map (·.s))[k]? = some u.s by rw [List.getElem?_map, hget]; rfl)
      have hsb : b < wr.heap.size := by omega
      have hsnd := Lib.hid (show ((ms.map (·.s)).take k) ++ [u.s] = (ms.map (·.s)).take (k + 1) by
        obtain ⟨hk', e⟩ := List.getElem?_eq_some_iff.1 GET.out
        rw [List.take_succ_eq_append_getElem hk', e])
      clear hu hget hva hs hok
      by_cases hcode : codeB u.s.code = true
      case neg =>
        have hcode : codeB u.s.code = false := by simpa using hcode
        have hfin := Lib.hid (signsErr_code per _ k u.s GET.out (by rw [hcode]; rfl))
        go_wp2_with (first | (go_at_call 114; refine (code_is _ _ hcsz.out false hcode).mono ?_; rintro e w' ⟨rfl, rfl⟩))
        go_ret
        exact ⟨of_int (by rw [hf.out, ← hno.out, hfin.out]), hb.out.alloc (Nat.le_of_lt hsz) _⟩
      obtain ⟨box, hbox⟩ : ∃ box, box = Obj.cells #[.string u.s.code, .int .i64 u.s.wide, .int .i64 u.s.high, .bool u.s.even, .slice u.A u.s.vals.length u.cap] 95 := ⟨_, rfl⟩
      have hlook := (hseen.out.alloc box).look hcsz.out
      obtain ⟨w1, hput, hseen1, hgrow⟩ := (hseen.out.alloc box).put (s := u.s) hcsz.out (by unfold maxLen; omega)
      have hb2 : Below w.heap.size w w1 := (hb.out.alloc (Nat.le_of_lt hsz) box).grown hgrow (by simp; omega) (by intro g hg; injection hg with hg; omega)
      have hsz1 : wr.heap.size < w1.heap.size := by have := hgrow.size; simp at this; omega
      have z0 : w1.cell? ⟨w.heap.size, 0, none⟩ = some (.int .i64 per) := (grown_cell hgrow (by simp; omega) (by omega)).trans (by rw [World.cell?_alloc_lt _ _ _ (by dsimp only; omega)]; exact x0)
      have z1 : w1.cell? ⟨w.heap.size, 1, none⟩ = some (.slice (some ⟨b, o, none⟩) n cap) := (grown_cell hgrow (by simp; omega) (by omega)).trans (by rw [World.cell?_alloc_lt _ _ _ (by dsimp only; omega)]; exact x1)
      have bx := SmAt.box wr u 95
      rw [← hbox] at bx
      have hne : wr.heap.size ≠ w.heap.size + 1 := by have := hsz'.out; omega
      have v0 : w1.cell? ⟨wr.heap.size, 0, none⟩ = some (.string u.s.code) := (grown_cell hgrow (by simp) hne).trans bx.at0.1
      have v1 : w1.cell? ⟨wr.heap.size, 1, none⟩ = some (.int .i64 u.s.wide) := (grown_cell hgrow (by simp) hne).trans bx.at0.2.1
      have v2 : w1.cell? ⟨wr.heap.size, 2, none⟩ = some (.int .i64 u.s.high) := (grown_cell hgrow (by simp) hne).trans bx.at0.2.2.1
      have v3 : w1.cell? ⟨wr.heap.size, 3, none⟩ = some (.bool u.s.even) := (grown_cell hgrow (by simp) hne).trans bx.at0.2.2.2.1
      have v4 : w1.cell? ⟨wr.heap.size, 4, none⟩ = some (.slice u.A u.s.vals.length u.cap) := (grown_cell hgrow (by simp) hne).trans bx.at0.2.2.2.2
      subst hbox
      have HB2 := Lib.hid hb2
      have HSEEN1 := Lib.hid hseen1
      have HGROW := Lib.hid hgrow
      clear hb2 hseen1 hgrow bx
      by_cases hdup : ((ms.map (·.s)).take k).any (fun s => strEq s.code u.s.code) = true
      case pos =>
        have hfin := Lib.hid (signsErr_code per _ k u.s GET.out (by rw [hdup]; simp))
        rw [hdup] at hlook
        clear hput z0 z1 v0 v1 v2 v3 v4
        go_wp2_with (first | (go_at_call 114; refine (code_is _ _ hcsz.out true hcode).mono ?_; rintro e w' ⟨rfl, rfl⟩))
        go_ret
        exact ⟨of_int (by rw [hf.out, ← hno.out, hfin.out]), hb.out.alloc (Nat.le_of_lt hsz) _⟩
      have hdup : ((ms.map (·.s)).take k).any (fun s => strEq s.code u.s.code) = false := by simpa using hdup
      have hok2 := Lib.hid (show (codeB u.s.code && !((ms.map (·.s)).take k).any fun d => strEq d.code u.s.code) = true by rw [hdup, hcode]; rfl)
      rw [hdup] at hlook
      clear hdup
      have hok1 := Lib.hid (hok0.out.below HB2.out)
      obtain ⟨E, hE⟩ : ∃ E, E = signErr u.s per := ⟨_, rfl⟩
      have HE := Lib.hid hE.symm
      by_cases hse : E = 0
      · have hfin := Lib.hid (signsErr_step per _ k u.s GET.out hok2.out (by rw [← hE]; exact hse))
        have hsE := Lib.hid (show signErr u.s per = 0 by rw [← hE]; exact hse)
        clear hE HE hse
        go_wp2_with (first | (go_at_call 114; refine (code_is _ _ hcsz.out true hcode).mono ?_; rintro e w' ⟨rfl, rfl⟩) | (go_at_call 115; refine (checkSign_is u per _ hok1.out 0 hsE.out).mono ?_; rintro e w2 ⟨rfl, hb3⟩))
        have q0 := (hb3.cell (p := ⟨w.heap.size, 0, none⟩) (by dsimp only; omega)).trans z0
        have q1 := (hb3.cell (p := ⟨w.heap.size, 1, none⟩) (by dsimp only; omega)).trans z1
        have hs3 := hb3.size
        have hb4 := HB2.out.trans (hb3.mono (by omega))
        go_roundw
        case rel => exact ⟨k + 1, by omega, by go_num, Lib.hid hb4, Lib.hid q0, Lib.hid q1, Lib.hid (by have := hsz'.out; omega), Lib.hid (by rw [← hsnd.out]; exact HSEEN1.out.below hb3), Lib.hid (by rw [← hfin.out]; exact hno.out)⟩
        case measure => simp [intOf]; omega
      · have hfin := Lib.hid (signsErr_stop per _ k u.s GET.out hok2.out (by rw [← hE]; exact hse))
        have hse' : (E != 0) = true := by simpa using hse
        clear hE hse
        go_wp2_with (first | (go_at_call 114; refine (code_is _ _ hcsz.out true hcode).mono ?_; rintro e w' ⟨rfl, rfl⟩) | (go_at_call 115; refine (checkSign_is u per _ hok1.out E HE.out).mono ?_; rintro e w2 ⟨rfl, hb3⟩))
        go_ret
        exact ⟨of_int (by rw [hf.out, ← hno.out, hfin.out, HE.out]), HB2.out.trans (hb3.mono (by omega))⟩
    · obtain rfl : k = n := by omega
      go_wp2
      go_ret
      refine ⟨of_int ?_, hw1.out⟩
      have := hno.out
      rw [hf.out, ← this, ← HNL.out, signsErr_end]
open Go.RowKit
structure Nd where
  kind : Int
  depth : Int
  sign : Int
  turn : Int
  mirror : Bool
  state : Int
  min : Int
  max : Int
def Nd.val (n : Nd) : Value := .agg #[.int .i64 n.kind, .int .i64 n.depth, .int .i64 n.sign, .int .i64 n.turn, .bool n.mirror, .int .i64 n.state, .int .i64 n.min, .int .i64 n.max]
def leafB (k : Int) : Bool := (k == 1) || (k == 6)
def kidsR (k : Int) : Int × Int := if leafB k then (0, 0) else if k = 4 then (2, 2) else if k = 5 then (1, 6) else (2, 6)
set_option maxHeartbeats 1600000 in
theorem isLeaf_any (n : Nd) (w : World) : Calls Tryz.prog 183 #[n.val] w fun e w' => e = .returned (.bool (leafB n.kind)) ∧ Below w.heap.size w w' := by
  unfold Nd.val
  by_cases h1 : n.kind = 1
  · have hf := Lib.hid (show leafB n.kind = true by rw [h1]; rfl)
    go_enter Tryz.func183, Tryz.ntmps183
    go_wp2
    all_goals go_ret
    all_goals exact ⟨of_bool (by rw [hf.out]), below_alloc _ _⟩
  · have h1b : (n.kind == 1) = false := by simpa using h1
    have hf := Lib.hid (show leafB n.kind = (n.kind == 6) by unfold leafB; rw [h1b]; rfl)
    go_enter Tryz.func183, Tryz.ntmps183
    go_wp2
    all_goals go_ret
    all_goals exact ⟨of_bool (by rw [hf.out]), below_alloc _ _⟩
theorem leaf_any (k : Int) (w : World) : Calls Tryz.prog 45 #[.int .i64 k] w fun e w' => e = .returned (.bool (leafB k)) ∧ w = w' := by
  go_enter Tryz.func45, Tryz.ntmps45
  go_wp2
  all_goals go_ret
  all_goals (simp [leafB, *])
set_option maxHeartbeats 1600000 in
theorem kidsOfKind_any (k : Int) (w : World) : Calls Tryz.prog 156 #[.int .i64 k] w fun e w' => e = .returned (.tuple #[.int .i64 (kidsR k).1, .int .i64 (kidsR k).2]) ∧ w = w' := by
  by_cases h1 : k = 1
  · subst h1
    go_enter Tryz.func156, Tryz.ntmps156
    go_wp2
    go_ret2
    exact ⟨rfl, rfl⟩
  by_cases h6 : k = 6
  · subst h6
    go_enter Tryz.func156, Tryz.ntmps156
    go_wp2
    go_ret2
    exact ⟨rfl, rfl⟩
  by_cases h4 : k = 4
  · subst h4
    go_enter Tryz.func156, Tryz.ntmps156
    go_wp2
    go_ret2
    exact ⟨rfl, rfl⟩
  by_cases h5 : k = 5
  · subst h5
    go_enter Tryz.func156, Tryz.ntmps156
    go_wp2
    go_ret2
    exact ⟨rfl, rfl⟩
  have b1 : (k == 1) = false := by simpa using h1
  have b6 : (k == 6) = false := by simpa using h6
  have b4 : (k == 4) = false := by simpa using h4
  have b5 : (k == 5) = false := by simpa using h5
  have HF := Lib.hid (show kidsR k = (2, 6) by unfold kidsR leafB; rw [b1, b6, if_neg (by simp), if_neg h4, if_neg h5])
  clear h1 h6 h4 h5
  go_enter Tryz.func156, Tryz.ntmps156
  go_wp2
  go_ret2
  exact ⟨by rw [HF.out]; rfl, rfl⟩
def holdsB (kind kid n : Int) : Bool :=
  if kid == 5 then false
  else if kid == 7 then (kind == 5) && (n == 1)
  else if kind == 4 then kid == 1
  else if kind == 3 then kid != 3
  else kid != 2
set_option maxHeartbeats 1600000 in
theorem holds_any (kind kid n : Int) (w : World) : Calls Tryz.prog 157 #[.int .i64 kind, .int .i64 kid, .int .i64 n] w fun e w' => e = .returned (.bool (holdsB kind kid n)) ∧ w = w' := by
  unfold holdsB
  cases h5 : kid == 5
  case true =>
    go_enter Tryz.func157, Tryz.ntmps157
    go_wp2
    go_ret
    exact ⟨rfl, rfl⟩
  cases h7 : kid == 7
  case true =>
    cases k5 : kind == 5
    · go_enter Tryz.func157, Tryz.ntmps157
      go_wp2
      go_ret
      exact ⟨rfl, rfl⟩
    · go_enter Tryz.func157, Tryz.ntmps157
      go_wp2
      go_ret
      exact ⟨of_bool (by simp), rfl⟩
  cases k4 : kind == 4
  case true =>
    go_enter Tryz.func157, Tryz.ntmps157
    go_wp2
    go_ret
    exact ⟨of_bool (by simp), rfl⟩
  cases k3 : kind == 3
  case true =>
    go_enter Tryz.func157, Tryz.ntmps157
    go_wp2
    go_ret
    exact ⟨of_bool (by simp), rfl⟩
  go_enter Tryz.func157, Tryz.ntmps157
  go_wp2
  go_ret
  exact ⟨of_bool (by simp), rfl⟩
def gapErr (n : Nd) : Int :=
  if n.min < 0 ∨ n.max < n.min ∨ 9 < n.max ∨ n.max < 1 then 22
  else if n.sign = 0 ∧ n.turn = 0 ∧ n.mirror = false ∧ n.state = 0 then 0 else 20
set_option maxHeartbeats 1600000 in
theorem checkGap_any (n : Nd) (w : World) (hk : n.kind = 6) : Calls Tryz.prog 154 #[n.val] w fun e w' => e = .returned (.int .i64 (gapErr n)) ∧ Below w.heap.size w w' := by
  obtain ⟨kind, depth, sign, turn, mirror, state, mn, mx⟩ := n
  dsimp only at hk
  subst hk
  have hb := Lib.hid (below_alloc w (.cells #[.int .i64 6, .int .i64 depth, .int .i64 sign, .int .i64 turn, .bool mirror, .int .i64 state, .int .i64 mn, .int .i64 mx] 87))
  unfold Nd.val
  dsimp only
  by_cases h1 : mn < 0
  · have HF := Lib.hid (show gapErr ⟨6, depth, sign, turn, mirror, state, mn, mx⟩ = 22 by unfold gapErr; rw [if_pos (.inl h1)])
    go_enter Tryz.func154, Tryz.ntmps154
    go_wp2
    go_ret
    exact ⟨of_int HF.out.symm, hb.out⟩
  by_cases h2 : mx < mn
  · have HF := Lib.hid (show gapErr ⟨6, depth, sign, turn, mirror, state, mn, mx⟩ = 22 by unfold gapErr; rw [if_pos (.inr (.inl h2))])
    go_enter Tryz.func154, Tryz.ntmps154
    go_wp2
    go_ret
    exact ⟨of_int HF.out.symm, hb.out⟩
  by_cases h3 : 9 < mx
  · have HF := Lib.hid (show gapErr ⟨6, depth, sign, turn, mirror, state, mn, mx⟩ = 22 by unfold gapErr; rw [if_pos (.inr (.inr (.inl h3)))])
    go_enter Tryz.func154, Tryz.ntmps154
    go_wp2
    go_ret
    exact ⟨of_int HF.out.symm, hb.out⟩
  by_cases h4 : mx < 1
  · have HF := Lib.hid (show gapErr ⟨6, depth, sign, turn, mirror, state, mn, mx⟩ = 22 by unfold gapErr; rw [if_pos (.inr (.inr (.inr h4)))])
    go_enter Tryz.func154, Tryz.ntmps154
    go_wp2
    go_ret
    exact ⟨of_int HF.out.symm, hb.out⟩
  have HG := Lib.hid (show ∀ a b c d, gapErr ⟨6, depth, a, b, c, d, mn, mx⟩ = if a = 0 ∧ b = 0 ∧ c = false ∧ d = 0 then 0 else 20 from fun a b c d => by
    unfold gapErr; rw [if_neg (by dsimp only; omega)])
  clear hb
  go_enter Tryz.func154, Tryz.ntmps154
  go_wp2
  all_goals go_ret
  all_goals exact ⟨of_int (by rw [HG.out]; simp [*]), below_alloc _ _⟩
open Go.RowKit
theorem infoVa : (Tryz.prog.info? 176).map (fun i => (i.zero, i.size, i.bytes)) = some (some (.agg #[.int .i64 0, .string ⟨#[]⟩, .int .i64 0, .int .i64 0]), 4, 40) := by kernel_rfl
theorem info_hid {P : Program} {e : TypeId} {z : Value} {s b : Nat} (h : (P.info? e).map (fun i => (i.zero, i.size, i.bytes)) = some (some z, s, b)) : ∃ i, Hid (P.info? e = some i) ∧ Hid (i.zero = some z) ∧ Hid (i.size = s) ∧ Hid (i.bytes = b) := by
  obtain ⟨i, h1, h2, h3, h4⟩ := info_parts h
  exact ⟨i, h1, h2, h3, h4⟩
theorem infoSg : (Tryz.prog.info? 95).map (fun i => (i.zero, i.size, i.bytes)) = some (some (.agg #[.string ⟨#[]⟩, .int .i64 0, .int .i64 0, .bool false, .slice none 0 0]), 5, 64) := by kernel_rfl
theorem own_slice {w : World} {base : Nat} {e : TypeId} {size : Nat} {v : Value} {n : Nat} {xs : List Value} (h : w.ownsRow base e size v n xs) :
    ∃ A cap, v = .slice A n cap ∧ n ≤ cap ∧ cap ≤ maxLen ∧ (∀ ad, A = some ad → ∃ g, ad = ⟨g, 0, none⟩ ∧ base ≤ g ∧ g < w.heap.size ∧ ∀ j u, xs[j]? = some u → w.cell? ⟨g, j, none⟩ = some u) ∧ (A = none → n = 0) := by
  rcases h.2 with ⟨rfl, rfl⟩ | ⟨g, cap, cur, rfl, hb, hg, hn, hc, hsz, htk⟩
  · exact ⟨none, 0, rfl, Nat.le_refl _, Nat.zero_le _, fun _ h => (by cases h), fun _ => rfl⟩
  · refine ⟨_, cap, rfl, hn, hc, fun ad hA => ?_, fun h => by cases h⟩
    injection hA with hA
    subst hA
    refine ⟨g, rfl, hb, (Array.getElem?_eq_some_iff.1 hg).1, fun j u hj => ?_⟩
    have hlt : j < n * size := by have := (List.getElem?_eq_some_iff.1 hj).1; rw [h.1] at this; exact this
    rw [h.cellAt j hlt, hj]
theorem append_nil_src {P : Program} (w : World) (base : Nat) (t ty e : TypeId) (i : TypeInfo) (size : Nat) (ht : P.underlying t = some (.slice e)) (hi : P.info? e = some i)
    (v : Value) (n : Nat) (xs : List Value) (hown : w.ownsRow base e size v n xs) (c : Nat) : (Builtin.append_ #[t, t] ty #[v, .slice none 0 c]).run P w = .ok v w := by
  rcases hown.2 with ⟨rfl, _⟩ | ⟨g, cap, cur, rfl, _, _, hnc, _⟩
  · simp [Builtin.append_, run_underlying ht, sizeOf, typeInfo, hi, Builtin.lenOf, Builtin.firstCells]
  · simp [Builtin.append_, run_underlying ht, sizeOf, typeInfo, hi, Builtin.lenOf, Builtin.firstCells, hnc, storeCells]
theorem wpList_append_src {P : Program} (w : World) {ops : Array Oper} {rest : List Oper} {o : Oper} {a : Act} {Q : Exit → Act → World → Prop} (hgd : o.guard = none) (s x : Operand) (t : TypeId)
    (ho : o.op = .call { callee := .builtin .append, args := #[s, x], argTypes := #[t, t] })
    (base : Nat) (e : TypeId) (i : TypeInfo) (z : Value) (size bytes : Nat) (ht : P.underlying t = some (.slice e)) (hi : P.info? e = some i) (hz : i.zero = some z)
    (hsize : i.size = size) (hby : i.bytes = bytes) (hzs : z.cells.size = size) (hsz : 0 < size)
    (v : Value) (n : Nat) (xs : List Value) (hs : a.eval s = v) (hown : w.ownsRow base e size v n xs)
    (A : Option Addr) (m c : Nat) (news : List Value) (hx : a.eval x = .slice A m c) (hl : news.length = m * size) (hA : A = none → m = 0) (hnews : ∀ ad, A = some ad → ∀ j u, news[j]? = some u → w.cell? (ad.add j) = some u) (h1 : ∀ u ∈ news, u.oneCell' = true)
    (h63 : n + m ≤ maxLen) (hbytes : (n + m) * bytes ≤ 140737488355328) (hbase : base ≤ w.heap.size)
    (N : Nat) (hN : N = n + m)
    (h : ∀ A' c' w', w'.ownsRow base e size (.slice A' N c') N (xs ++ news) → w.grownBy w' v.ownBlock → ((Value.slice A' N c').ownBlock = v.ownBlock ∨ (Value.slice A' N c').ownBlock = some w.heap.size) → wpList P ops Q rest (a.put o.dst (.slice A' N c')) w') :
    wpList P ops Q (o :: rest) a w := by
  subst hN
  cases A with
  | some ad =>
    refine wpList_append_own_at w hgd s x t ho base e i z size bytes ht hi hz hsize hby hzs hsz v n xs hs hown ad m c news hx hl (hnews ad rfl) h1 h63 hbytes hbase fun v' w' h2 h3 _ h5 => ?_
    obtain ⟨A', c', rfl, _⟩ := own_slice h2
    exact h A' c' w' h2 h3 h5
  | none =>
    have hm := hA rfl
    subst hm
    have hn : news = [] := List.eq_nil_of_length_eq_zero (by simpa using hl)
    subst hn
    refine wpList_plain hgd fun K hK => ?_
    have hrun := append_nil_src (P := P) w base t o.type e i size ht hi v n xs hown c
    unfold Oper.wp execOp
    simp only [ho, resolve, invoke, builtin, Sem.run_bind, Sem.run_pure, Result.andThen_ok, List.map_toArray, List.map_cons, List.map_nil, hs, hx, hrun]
    obtain ⟨A', c', rfl, _⟩ := own_slice hown
    exact hK _ _ (h A' c' w (by simpa using hown) (World.grownBy.refl w _) (.inl rfl))
theorem ownsRow_of_block {w w' : World} {base : Nat} {e : TypeId} {size : Nat} {v : Value} {n : Nat} {xs : List Value} (h : w.ownsRow base e size v n xs) (hb : ∀ g, v.ownBlock = some g → w'.heap[g]? = w.heap[g]?) : w'.ownsRow base e size v n xs := by
  refine ⟨h.1, ?_⟩
  rcases h.2 with h2 | ⟨g, cap, cur, rfl, h3, h4, h5⟩
  · exact .inl h2
  · exact .inr ⟨g, cap, cur, rfl, h3, (hb g rfl).trans h4, h5⟩
theorem heap_setCell_other (w : World) (a : Addr) (u : Value) (g : Nat) (h : g ≠ a.block) : (w.setCell a u).heap[g]? = w.heap[g]? := Below.heap_setCell w a u g h
theorem heap_alloc_other (w : World) (o : Obj) (g : Nat) (h : g < w.heap.size) : (w.alloc o).heap[g]? = w.heap[g]? := Below.heap_alloc w o g h
theorem heap_setCell_same (w : World) (g o : Nat) (u : Value) (cs : Array Value) (t : TypeId) (h : w.heap[g]? = some (.cells cs t (0, 0))) : (w.setCell ⟨g, o, none⟩ u).heap[g]? = some (.cells (cs.setIfInBounds o u) t (0, 0)) := by
  simp [World.setCell, Array.getElem?_modify, h]
theorem cell_of_blk {w : World} {g : Nat} {cs : Array Value} {t : TypeId} (h : w.heap[g]? = some (.cells cs t (0, 0))) (o : Nat) : w.cell? ⟨g, o, none⟩ = cs[o]? := cell_of_row w g o cs t (0, 0) h
theorem free_of_blk {w : World} {g : Nat} {cs : Array Value} {t : TypeId} (h : w.heap[g]? = some (.cells cs t (0, 0))) (o : Nat) : w.frozen? ⟨g, o, none⟩ = false := by simp [World.frozen?, h]
def Va.cells (v : Va) : List Value := [.int .i64 v.kind, .string v.text, .int .i64 v.fr, .int .i64 v.to]
def Sm.cells (m : Sm) : List Value := [.string m.s.code, .int .i64 m.s.wide, .int .i64 m.s.high, .bool m.s.even, .slice m.A m.s.vals.length m.cap]
theorem flat_at {α : Type} {f : α → List Value} {c : Nat} (hf : ∀ x, (f x).length = c) (l : List α) (k : Nat) (x : α) (h : l[k]? = some x) (j : Nat) (hj : j < c) : (l.flatMap f)[k * c + j]? = (f x)[j]? := by
  induction l generalizing k with
  | nil => simp at h
  | cons y r ih =>
    cases k with
    | zero =>
      simp at h; subst h
      rw [List.flatMap_cons, Nat.zero_mul, Nat.zero_add, List.getElem?_append_left (by rw [hf]; exact hj)]
    | succ k =>
      rw [List.flatMap_cons, List.getElem?_append_right (by rw [hf, Nat.succ_mul]; omega), hf, show (k + 1) * c + j - c = k * c + j by rw [Nat.succ_mul]; omega]
      exact ih k (by simpa using h)
theorem flat_len {α : Type} {f : α → List Value} {c : Nat} (hf : ∀ x, (f x).length = c) (l : List α) : (l.flatMap f).length = l.length * c := by
  induction l with
  | nil => simp
  | cons y r ih => rw [List.flatMap_cons, List.length_append, hf, ih, List.length_cons, Nat.succ_mul]; omega
theorem addr_add (b o j : Nat) : (⟨b, o, none⟩ : Addr).add j = ⟨b, o + j, none⟩ := by
  unfold Addr.add; split <;> simp_all
theorem vals_none {w : World} {A : Option Addr} {vs : List Va} (h : ValsAt w A vs) : A = none → vs.length = 0 := by
  intro hA
  cases vs with
  | nil => rfl
  | cons x r => obtain ⟨b, o, e, _⟩ := h 0 x rfl; rw [hA] at e; cases e
theorem split4 (j : Nat) : ∃ k i, i < 4 ∧ j = k * 4 + i := ⟨j / 4, j % 4, Nat.mod_lt _ (by omega), by omega⟩
theorem vals_cells {w : World} {A : Option Addr} {vs : List Va} (h : ValsAt w A vs) : ∀ ad, A = some ad → ∀ j u, (vs.flatMap Va.cells)[j]? = some u → w.cell? (ad.add j) = some u := by
  intro ad hA j u hj
  obtain ⟨k, i, hi, rfl⟩ := split4 j
  have hlt := (List.getElem?_eq_some_iff.1 hj).1
  rw [flat_len (c := 4) (fun _ => rfl)] at hlt
  have hk : k < vs.length := by omega
  have hg : vs[k]? = some vs[k] := List.getElem?_eq_getElem hk
  obtain ⟨b, o, e, _, hv⟩ := h k _ hg
  rw [hA] at e; injection e with e; subst e
  rw [flat_at (c := 4) (fun _ => rfl) _ _ _ hg i hi] at hj
  rw [addr_add]
  match i, hi, hj with
  | 0, _, hj => simp [Va.cells] at hj; subst hj; exact hv.c0
  | 1, _, hj => simp [Va.cells] at hj; subst hj; rw [show o + (k * 4 + 1) = o + k * 4 + 1 by omega]; exact hv.c1
  | 2, _, hj => simp [Va.cells] at hj; subst hj; rw [show o + (k * 4 + 2) = o + k * 4 + 2 by omega]; exact hv.c2
  | 3, _, hj => simp [Va.cells] at hj; subst hj; rw [show o + (k * 4 + 3) = o + k * 4 + 3 by omega]; exact hv.c3
theorem va_one {vs : List Va} : ∀ u ∈ vs.flatMap Va.cells, u.oneCell' = true := by
  intro u hu
  obtain ⟨v, _, hv⟩ := List.mem_flatMap.1 hu
  simp [Va.cells] at hv
  rcases hv with rfl | rfl | rfl | rfl <;> rfl
theorem sm_one {m : Sm} : ∀ u ∈ m.cells, u.oneCell' = true := by
  intro u hv
  simp [Sm.cells] at hv
  rcases hv with rfl | rfl | rfl | rfl | rfl <;> rfl
theorem own_empty (w : World) (e : TypeId) (size : Nat) : (w.alloc (.cells #[] e)).ownsRow w.heap.size e size (.slice (some ⟨w.heap.size, 0, none⟩) 0 0) 0 [] :=
  World.ownsRow_made w #[] 0 (Nat.le_refl _) (by simp) (by simp)
theorem new_cells (w : World) (cs : List Value) (e : TypeId) (j : Nat) (u : Value) (h : cs[j]? = some u) : (w.alloc (.cells cs.toArray e)).cell? ((⟨w.heap.size, 0, none⟩ : Addr).add j) = some u := by
  rw [addr_add, Nat.zero_add]
  have := cell_of_row (w.alloc (.cells cs.toArray e)) w.heap.size j cs.toArray e (0, 0) (heap_alloc_new _ _)
  rw [this]; simpa using h
open Go.RowKit
structure CopyRel (w wr : World) (per : Int) (A : Option Addr) (n cap : Nat) (ms : List Sm) (k : Nat) (v : Value) (cs : List Sm) : Prop where
  below : Below w.heap.size w wr
  size : w.heap.size + 1 + 1 + 1 ≤ wr.heap.size
  b1 : wr.heap[w.heap.size]? = some (.cells #[.int .i64 per, .slice A n cap] 24 (0, 0))
  b2 : wr.heap[w.heap.size + 1]? = some (.cells #[.int .i64 0, .slice none 0 0] 24 (0, 0))
  b3 : wr.heap[w.heap.size + 1 + 1]? = some (.cells #[.int .i64 per, v] 24 (0, 0))
  own : wr.ownsRow (w.heap.size + 1 + 1 + 1) 95 5 v k (cs.flatMap Sm.cells)
  len : cs.length = k
  eqs : cs.map (·.s) = (ms.take k).map (·.s)
  ok : ∀ m ∈ cs, SmOk wr m
  apart : ∀ m ∈ cs, ∀ b o, m.A = some ⟨b, o, none⟩ → w.heap.size + 1 + 1 + 1 ≤ b ∧ v.ownBlock ≠ some b ∧ b < wr.heap.size
theorem smok_of_blocks {w w' : World} {m : Sm} (h : SmOk w m) (hs : w.heap.size ≤ w'.heap.size) (hb : ∀ b o, m.A = some ⟨b, o, none⟩ → b < w.heap.size → w'.heap[b]? = w.heap[b]?) : SmOk w' m := by
  refine ⟨fun k v hk => ?_, h.len, h.cap, h.code⟩
  obtain ⟨b, o, e, hlt, hv⟩ := h.vals k v hk
  have hc : ∀ p, w'.cell? ⟨b, p, none⟩ = w.cell? ⟨b, p, none⟩ := fun p => World.cell?_of_block (a := ⟨b, p, none⟩) (hb b o e hlt)
  exact ⟨b, o, e, by omega, ⟨(hc _).trans hv.c0, (hc _).trans hv.c1, (hc _).trans hv.c2, (hc _).trans hv.c3, hv.sz⟩⟩
theorem CopyRel.step {w wr w1 w3 : World} {per : Int} {A : Option Addr} {n cap : Nat} {ms : List Sm} {k : Nat} {v : Value} {cs : List Sm} {u : Sm} {sbox empt blk5 : Obj} {A1 A2 : Option Addr} {c1 c2 : Nat}
    (h : CopyRel w wr per A n cap ms k v cs) (hget : ms[k]? = some u) (hu : SmOk w u) 
    (own1 : w1.ownsRow (wr.heap.size + 1) 176 4 (.slice A1 u.s.vals.length c1) u.s.vals.length (u.s.vals.flatMap Va.cells))
    (hg1 : ((wr.alloc sbox).alloc empt).grownBy w1 (some (wr.heap.size + 1)))
    (own2 : w3.ownsRow (w.heap.size + 1 + 1 + 1) 95 5 (.slice A2 (k + 1) c2) (k + 1) (cs.flatMap Sm.cells ++ Sm.cells ⟨u.s, A1, c1⟩))
    (hg2 : ((w1.setCell ⟨wr.heap.size, 4, none⟩ (.slice A1 u.s.vals.length c1)).alloc blk5).grownBy w3 v.ownBlock)
    (hat : (Value.slice A2 (k + 1) c2).ownBlock = v.ownBlock ∨ (Value.slice A2 (k + 1) c2).ownBlock = some ((w1.setCell ⟨wr.heap.size, 4, none⟩ (.slice A1 u.s.vals.length c1)).alloc blk5).heap.size) :
    CopyRel w (w3.setCell ⟨w.heap.size + 1 + 1, 1, none⟩ (.slice A2 (k + 1) c2)) per A n cap ms (k + 1) (.slice A2 (k + 1) c2) (cs ++ [⟨u.s, A1, c1⟩]) := by
  have hsz := h.size
  have s1 : wr.heap.size + 1 + 1 ≤ w1.heap.size := by have := hg1.size; simpa using this
  have s2 : w1.heap.size + 1 ≤ w3.heap.size := by have := hg2.size; simpa using this
  have s3 : (w3.setCell ⟨w.heap.size + 1 + 1, 1, none⟩ (.slice A2 (k + 1) c2)).heap.size = w3.heap.size := by simp
  have hvb : ∀ g, v.ownBlock = some g → w.heap.size + 1 + 1 + 1 ≤ g ∧ g < wr.heap.size := fun g hg => h.own.lt g hg
  -- blocks of w1 that stay
  have keep1 : ∀ g, g < w1.heap.size → g ≠ wr.heap.size → v.ownBlock ≠ some g → g ≠ w.heap.size + 1 + 1 → (w3.setCell ⟨w.heap.size + 1 + 1, 1, none⟩ (.slice A2 (k + 1) c2)).heap[g]? = w1.heap[g]? := fun g h1 h2 h3 h4 => by
    rw [heap_setCell_other _ _ _ _ (by exact h4), hg2.block g (by simp; omega) (fun e => h3 e.symm), heap_alloc_other _ _ _ (by simpa using h1), heap_setCell_other _ _ _ _ (by exact h2)]
  have keep0 : ∀ g, g < wr.heap.size → v.ownBlock ≠ some g → g ≠ w.heap.size + 1 + 1 → (w3.setCell ⟨w.heap.size + 1 + 1, 1, none⟩ (.slice A2 (k + 1) c2)).heap[g]? = wr.heap[g]? := fun g h1 h3 h4 => by
    rw [keep1 g (by omega) (by omega) h3 h4, hg1.block g (by simp; omega) (by intro e; injection e with e; omega), heap_alloc_other _ _ _ (by simp; omega), heap_alloc_other _ _ _ h1]
  obtain ⟨A1', c1', e1, hc1, hc1m, hA1, hA1n⟩ := own_slice own1
  injection e1 with e1 e2 e3
  subst e1 e3
  refine ⟨?_, by rw [s3]; omega, ?_, ?_, ?_, ?_, ?_, ?_, ?_, ?_⟩
  · have b0 := ((h.below.alloc (by omega) sbox).alloc (by simp; omega) empt).grown hg1 (by simp; omega) (by intro g hg; injection hg with hg; omega)
    have b1 := (b0.setCell (p := ⟨wr.heap.size, 4, none⟩) (by dsimp only; omega) (.slice A1 u.s.vals.length c1)).alloc (by simp; omega) blk5
    exact (b1.grown hg2 (by simp; omega) (fun g hg => by have := hvb g hg; omega)).setCell (by dsimp only; omega) _
  · rw [keep0 _ (by omega) (fun e => by have := hvb _ e; omega) (by omega)]; exact h.b1
  · rw [keep0 _ (by omega) (fun e => by have := hvb _ e; omega) (by omega)]; exact h.b2
  · have hb : w3.heap[w.heap.size + 1 + 1]? = some (.cells #[.int .i64 per, v] 24 (0, 0)) := by
      rw [hg2.block _ (by simp; omega) (fun e => by have := hvb _ e.symm; omega), heap_alloc_other _ _ _ (by simp; omega), heap_setCell_other _ _ _ _ (by dsimp only; omega),
        hg1.block _ (by simp; omega) (by intro e; injection e with e; omega), heap_alloc_other _ _ _ (by simp; omega), heap_alloc_other _ _ _ (by omega)]
      exact h.b3
    rw [heap_setCell_same _ _ _ _ _ _ hb]; rfl
  · have := ownsRow_of_block (w' := w3.setCell ⟨w.heap.size + 1 + 1, 1, none⟩ (.slice A2 (k + 1) c2)) own2 (fun g hg => heap_setCell_other _ _ _ _ (by
      have := (own2.lt g hg).1; dsimp only; omega))
    simpa using this
  · simp [h.len]
  · obtain ⟨hk, e⟩ := List.getElem?_eq_some_iff.1 hget
    rw [List.map_append, h.eqs, List.take_succ_eq_append_getElem hk, List.map_append, e]; rfl
  · intro m hm
    rcases List.mem_append.1 hm with hm | hm
    · exact smok_of_blocks (h.ok m hm) (by rw [s3]; omega) (fun b o e hb => keep0 b hb (h.apart m hm b o e).2.1 (by have := (h.apart m hm b o e).1; omega))
    · simp at hm; subst hm
      refine ⟨fun j x hj => ?_, hc1, hc1m, hu.code⟩
      have hj' : j < u.s.vals.length := (List.getElem?_eq_some_iff.1 hj).1
      cases hA : A1 with
      | none => have := hA1n hA; omega
      | some ad =>
        obtain ⟨g, rfl, hg0, hg1', hcell⟩ := hA1 ad hA
        obtain ⟨_, _, _, _, hx⟩ := hu.vals j x hj
        have hk1 := keep1 g hg1' (by omega) (fun e => by have := (hvb g e).2; omega) (by omega)
        have hc : ∀ p, (w3.setCell ⟨w.heap.size + 1 + 1, 1, none⟩ (.slice A2 (k + 1) c2)).cell? ⟨g, p, none⟩ = w1.cell? ⟨g, p, none⟩ := fun p => World.cell?_of_block (a := ⟨g, p, none⟩) hk1
        have ha : ∀ i, i < 4 → w1.cell? ⟨g, j * 4 + i, none⟩ = (Va.cells x)[i]? := fun i hi => by
          have hi' : i < (Va.cells x).length := hi
          rw [hcell (j * 4 + i) ((Va.cells x)[i]) (by rw [flat_at (c := 4) (fun _ => rfl) _ _ _ hj i hi]; exact List.getElem?_eq_getElem hi'), List.getElem?_eq_getElem hi']
        refine ⟨g, 0, rfl, by rw [s3]; omega, ⟨?_, ?_, ?_, ?_, hx.sz⟩⟩
        · rw [Nat.zero_add, hc]; exact ha 0 (by omega)
        · rw [Nat.zero_add, hc]; exact ha 1 (by omega)
        · rw [Nat.zero_add, hc]; exact ha 2 (by omega)
        · rw [Nat.zero_add, hc]; exact ha 3 (by omega)
  · intro m hm b o e
    rcases List.mem_append.1 hm with hm | hm
    · have := h.apart m hm b o e
      refine ⟨this.1, ?_, by rw [s3]; omega⟩
      rcases hat with ha | ha
      · rw [ha]; exact this.2.1
      · rw [ha]
        intro e'; injection e' with e'
        simp at e'; omega
    · simp at hm; subst hm
      dsimp only at e
      obtain ⟨g, eg, hg0, hg1', _⟩ := hA1 _ e
      injection eg with eg _
      subst eg
      refine ⟨by omega, ?_, by rw [s3]; omega⟩
      rcases hat with ha | ha
      · rw [ha]; intro e'; have := (hvb _ e').2; omega
      · rw [ha]; intro e'; injection e' with e'; simp at e'; omega
theorem sm_cells_at {w : World} {g : Nat} {cs : List Sm} (hcell : ∀ j u, (cs.flatMap Sm.cells)[j]? = some u → w.cell? ⟨g, j, none⟩ = some u) {k : Nat} {m : Sm} (hk : cs[k]? = some m) : SmAt w g (0 + k * 5) m := by
  have ha : ∀ i, i < 5 → w.cell? ⟨g, k * 5 + i, none⟩ = (Sm.cells m)[i]? := fun i hi => by
    have hi' : i < (Sm.cells m).length := hi
    rw [hcell (k * 5 + i) ((Sm.cells m)[i]) (by rw [flat_at (c := 5) (fun _ => rfl) _ _ _ hk i hi]; exact List.getElem?_eq_getElem hi'), List.getElem?_eq_getElem hi']
  rw [Nat.zero_add]
  exact ⟨ha 0 (by omega), ha 1 (by omega), ha 2 (by omega), ha 3 (by omega), ha 4 (by omega)⟩
theorem CopyRel.done {w wr : World} {per : Int} {A A' : Option Addr} {n cap cap' : Nat} {ms : List Sm} {cs : List Sm} (h : CopyRel w wr per A n cap ms n (.slice A' n cap') cs) (hn : n = ms.length) (x y : Value) :
    LmOk ((wr.setCell ⟨w.heap.size + 1, 0, none⟩ x).setCell ⟨w.heap.size + 1, 1, none⟩ y) ⟨per, cs, A', cap'⟩ ∧ (Lm.mk per cs A' cap').li = ⟨per, ms.map (·.s)⟩ ∧
    Below w.heap.size w ((wr.setCell ⟨w.heap.size + 1, 0, none⟩ x).setCell ⟨w.heap.size + 1, 1, none⟩ y) := by
  have hsz := h.size
  have hkeep : ∀ g, g ≠ w.heap.size + 1 → ((wr.setCell ⟨w.heap.size + 1, 0, none⟩ x).setCell ⟨w.heap.size + 1, 1, none⟩ y).heap[g]? = wr.heap[g]? := fun g hg => by
    rw [heap_setCell_other _ _ _ _ hg, heap_setCell_other _ _ _ _ hg]
  have hs4 : ((wr.setCell ⟨w.heap.size + 1, 0, none⟩ x).setCell ⟨w.heap.size + 1, 1, none⟩ y).heap.size = wr.heap.size := by simp
  obtain ⟨A1, c1, e1, hc1, hc1m, hA1, hA1n⟩ := own_slice h.own
  injection e1 with e1 e2 e3
  subst e1 e3
  refine ⟨⟨fun k m hk => ?_, by dsimp only; rw [h.len]; exact hc1, hc1m⟩, ?_, (h.below.setCell (by dsimp only; omega) _).setCell (by dsimp only; omega) _⟩
  · dsimp only at hk ⊢
    have hk' : k < cs.length := (List.getElem?_eq_some_iff.1 hk).1
    cases hA : A' with
    | none => have := hA1n hA; have := h.len; omega
    | some ad =>
      obtain ⟨g, rfl, hg0, hg1, hcell⟩ := hA1 ad hA
      have hc : ∀ p, ((wr.setCell ⟨w.heap.size + 1, 0, none⟩ x).setCell ⟨w.heap.size + 1, 1, none⟩ y).cell? ⟨g, p, none⟩ = wr.cell? ⟨g, p, none⟩ := fun p => World.cell?_of_block (a := ⟨g, p, none⟩) (hkeep g (by omega))
      have hm := List.mem_of_getElem? hk
      refine ⟨g, 0, rfl, by rw [hs4]; exact hg1, sm_cells_at (fun j u hj => (hc j).trans (hcell j u hj)) hk, smok_of_blocks (h.ok m hm) (by rw [hs4]; omega) (fun b o e _ => hkeep b (by have := (h.apart m hm b o e).1; omega))⟩
  · simp only [Lm.li, Lm.signs]
    rw [h.eqs, hn, List.take_length]
structure OwnSigns (w : World) (base : Nat) (A : Option Addr) (c : Nat) (ms : List Sm) : Prop where
  own : w.ownsRow base 95 5 (.slice A ms.length c) ms.length (ms.flatMap Sm.cells)
  ok : ∀ m ∈ ms, SmOk w m
  apart : ∀ m ∈ ms, 0 < m.s.vals.length → ∀ b o, m.A = some ⟨b, o, none⟩ → (Value.slice A ms.length c).ownBlock ≠ some b
theorem OwnSigns.lm {w : World} {base : Nat} {A : Option Addr} {c : Nat} {ms : List Sm} (h : OwnSigns w base A c ms) (per : Int) : LmOk w ⟨per, ms, A, c⟩ := by
  obtain ⟨A1, c1, e1, hc1, hc1m, hA1, hA1n⟩ := own_slice h.own
  injection e1 with e1 e2 e3
  subst e1 e3
  refine ⟨fun k m hk => ?_, hc1, hc1m⟩
  dsimp only at hk ⊢
  have hk' : k < ms.length := (List.getElem?_eq_some_iff.1 hk).1
  cases hA : A with
  | none => have := hA1n hA; omega
  | some ad =>
    obtain ⟨g, rfl, hg0, hg1, hcell⟩ := hA1 ad hA
    exact ⟨g, 0, rfl, hg1, sm_cells_at hcell hk, h.ok m (List.mem_of_getElem? hk)⟩
theorem OwnSigns.below {w w' : World} {base : Nat} {A : Option Addr} {c : Nat} {ms : List Sm} (h : OwnSigns w base A c ms) (hb : Below w.heap.size w w') : OwnSigns w' base A c ms :=
  ⟨ownsRow_of_block h.own (fun g hg => hb.block g (h.own.lt g hg).2), fun m hm => (h.ok m hm).below hb, h.apart⟩
def GotListO (w : World) (li : Li) (e : Ending) (w' : World) : Prop := ∃ L : Lm, e = .returned L.val ∧ OwnSigns w' w.heap.size L.A L.cap L.ms ∧ L.li = li ∧ Below w.heap.size w w' ∧ ∀ m ∈ L.ms, ∀ b o, m.A = some ⟨b, o, none⟩ → w.heap.size ≤ b
def GotList (w : World) (li : Li) (e : Ending) (w' : World) : Prop := ∃ L : Lm, e = .returned L.val ∧ LmOk w' L ∧ L.li = li ∧ Below w.heap.size w w'
theorem GotListO.got {w : World} {li : Li} {e : Ending} {w' : World} (h : GotListO w li e w') : GotList w li e w' := by
  obtain ⟨L, h1, h2, h3, h4, _⟩ := h
  exact ⟨L, h1, h2.lm L.per, h3, h4⟩
theorem CopyRel.own' {w wr : World} {per : Int} {A A' : Option Addr} {n cap cap' : Nat} {ms : List Sm} {cs : List Sm} (h : CopyRel w wr per A n cap ms n (.slice A' n cap') cs) (x y : Value) :
    OwnSigns ((wr.setCell ⟨w.heap.size + 1, 0, none⟩ x).setCell ⟨w.heap.size + 1, 1, none⟩ y) w.heap.size A' cap' cs := by
  have hsz := h.size
  have hkeep : ∀ g, g ≠ w.heap.size + 1 → ((wr.setCell ⟨w.heap.size + 1, 0, none⟩ x).setCell ⟨w.heap.size + 1, 1, none⟩ y).heap[g]? = wr.heap[g]? := fun g hg => by
    rw [heap_setCell_other _ _ _ _ hg, heap_setCell_other _ _ _ _ hg]
  have hs4 : ((wr.setCell ⟨w.heap.size + 1, 0, none⟩ x).setCell ⟨w.heap.size + 1, 1, none⟩ y).heap.size = wr.heap.size := by simp
  have hl := h.len
  refine ⟨?_, fun m hm => smok_of_blocks (h.ok m hm) (by rw [hs4]; omega) (fun b o e _ => hkeep b (by have := (h.apart m hm b o e).1; omega)), fun m hm _ b o e => by have := (h.apart m hm b o e).2.1; rw [hl]; exact this⟩
  rw [hl]
  have h1 := ownsRow_of_block (w' := ((wr.setCell ⟨w.heap.size + 1, 0, none⟩ x).setCell ⟨w.heap.size + 1, 1, none⟩ y)) h.own (fun g hg => hkeep g (by have := (h.own.lt g hg).1; omega))
  refine ⟨h1.1, ?_⟩
  rcases h1.2 with h2 | ⟨g, cap, cur, h2, h3, h4⟩
  · exact .inl h2
  · exact .inr ⟨g, cap, cur, h2, by omega, h4⟩
set_option maxHeartbeats 3200000 in
set_option maxRecDepth 100000 in
theorem copyO_any (l : Lm) (w : World) (hl : LmOk w l) (hsm : l.ms.length ≤ 1000000) (hvm : ∀ m ∈ l.ms, m.s.vals.length ≤ 1000000) :
    Calls Tryz.prog 33 #[l.val] w (GotListO w l.li) := by
  have hs := hl.signs
  obtain ⟨per, ms, A, cap⟩ := l
  obtain ⟨-, hlen, hcap⟩ := hl
  dsimp only at hs hlen hcap hsm hvm
  unfold Lm.val Lm.li Lm.signs
  dsimp only
  obtain ⟨n, hn⟩ : ∃ n, n = ms.length := ⟨_, rfl⟩
  rw [← hn] at hlen hsm ⊢
  have hcap' := hcap
  unfold maxLen at hcap'
  have HN := Lib.hid hn
  clear hn
  obtain ⟨iv, hiv, hzv, hsv, hbv⟩ := info_hid infoVa
  obtain ⟨is, his, hzs, hss, hbs⟩ := info_hid infoSg
  go_enter Tryz.func33, Tryz.ntmps33
  go_wp2
  go_loopw [4] (fun i wr => ∃ k : Nat, k ≤ n ∧ i = .int .i64 k ∧ Hid (∃ v cs, CopyRel w wr per A n cap ms k v cs)) (fun i _ => n - (intOf i).toNat)
  case atStart =>
    refine ⟨0, Nat.zero_le _, rfl, Lib.hid ⟨.slice none 0 0, [], ?_⟩⟩
    refine ⟨((((Below.refl _ _).alloc (Nat.le_refl _) _).alloc (by simp) _).alloc (by simp; omega) _), by simp, ?_, ?_, ?_, World.ownsRow_nil _ _ _ _, rfl, by simp, by simp, by simp⟩
    · rw [heap_alloc_other _ _ _ (by simp; omega), heap_alloc_other _ _ _ (by simp)]; exact heap_alloc_new _ _
    · rw [heap_alloc_other _ _ _ (by simp)]; have := heap_alloc_new (w.alloc (.cells #[.int .i64 per, .slice A n cap] 24)) (.cells #[.int .i64 0, .slice none 0 0] 24); simpa using this
    · have := heap_alloc_new ((w.alloc (.cells #[.int .i64 per, .slice A n cap] 24)).alloc (.cells #[.int .i64 0, .slice none 0 0] 24)) (.cells #[.int .i64 per, .slice none 0 0] 24); simpa using this
  case round =>
    obtain ⟨k, hk, rfl, hrl⟩ := hrel
    obtain ⟨v, cs, hr⟩ := hrl.out
    have x0 : wr.cell? ⟨w.heap.size, 1, none⟩ = some (.slice A n cap) := cell_of_blk hr.b1 1
    by_cases hlt : k < n
    · have hget : ms[k]? = some (ms[k]'(by have := HN.out; omega)) := List.getElem?_eq_getElem _
      obtain ⟨u, hu⟩ : ∃ u, u = ms[k]'(by have := HN.out; omega) := ⟨_, rfl⟩
      rw [← hu] at hget
      obtain ⟨b, o, hA, hb1, hva, hok⟩ := hs k u hget
      have GET := Lib.hid hget
      have hum := hvm u (List.mem_of_getElem? hget)
      subst hA
      obtain ⟨y0, y1, y2, y3, y4⟩ := hva.below hr.below hb1
      have hsz := hr.size
      have hsb : b < wr.heap.size := by omega
      have HR := Lib.hid hr
      have HOK := Lib.hid hok
      have HUM := Lib.hid hum
      have HSM := Lib.hid hsm
      clear hu hget hva hs hvm hr hok hum hsm hrl
      have hVW := Lib.hid (fun o1 o2 => (((HOK.out.vals.below HR.out.below).below (below_alloc wr o1)).below (below_alloc (wr.alloc o1) o2)))
      go_wp2_with (first
        | (at_builtin; refine wpList_append_src _ rfl (.tmp 21) (.tmp 23) 93 rfl (wr.heap.size + 1) 176 iv (.agg #[.int .i64 0, .string ⟨#[]⟩, .int .i64 0, .int .i64 0]) 4 40 Tryz.underlying93 hiv.out hzv.out hsv.out hbv.out rfl (by decide) (.slice (some ⟨wr.heap.size + 1, 0, none⟩) 0 0) 0 [] rfl ?own1 u.A u.s.vals.length u.cap (u.s.vals.flatMap Va.cells) rfl ?l1 ?n1 ?c1 va_one ?m1 ?b1 ?s1 u.s.vals.length (Nat.zero_add _).symm ?_))
      case own1 => simpa using own_empty (wr.alloc (.cells #[.string u.s.code, .int .i64 u.s.wide, .int .i64 u.s.high, .bool u.s.even, .slice u.A u.s.vals.length u.cap] 95)) 176 4
      case l1 => exact flat_len (f := Va.cells) (fun _ => rfl) _
      case n1 => exact vals_none HOK.out.vals
      case c1 => exact vals_cells (hVW.out _ _)
      case m1 => have := HUM.out; unfold maxLen; omega
      case b1 => have := HUM.out; omega
      case s1 => simp
      · intro A1 c1 w1 own1 hg1 _
        obtain ⟨sbox, hsbox⟩ : ∃ x, x = Obj.cells #[.string u.s.code, .int .i64 u.s.wide, .int .i64 u.s.high, .bool u.s.even, .slice u.A u.s.vals.length u.cap] 95 := ⟨_, rfl⟩
        rw [← hsbox] at hg1
        have hg1 : ((wr.alloc sbox).alloc (.cells #[] 176)).grownBy w1 (some (wr.heap.size + 1)) := hg1
        have s1 : wr.heap.size + 1 + 1 ≤ w1.heap.size := by have := hg1.size; simpa using this
        have kb : w1.heap[wr.heap.size]? = some (.cells #[.string u.s.code, .int .i64 u.s.wide, .int .i64 u.s.high, .bool u.s.even, .slice u.A u.s.vals.length u.cap] 95 (0, 0)) := by
          rw [hg1.block _ (by simp; omega) (by intro e; injection e with e; omega), heap_alloc_other _ _ _ (by simp), hsbox]; exact heap_alloc_new _ _
        have k3 : w1.heap[w.heap.size + 1 + 1]? = some (.cells #[.int .i64 per, v] 24 (0, 0)) := by
          rw [hg1.block _ (by simp; omega) (by intro e; injection e with e; omega), heap_alloc_other _ _ _ (by simp; omega), heap_alloc_other _ _ _ (by omega)]; exact HR.out.b3
        have q0 := cell_of_blk kb 0
        have q1 := cell_of_blk kb 1
        have q2 := cell_of_blk kb 2
        have q3 := cell_of_blk kb 3
        have q4 := cell_of_blk kb 4
        have q5 := free_of_blk kb 4
        have z1 := cell_of_blk k3 1
        have hne1 : w.heap.size + 1 + 1 ≠ wr.heap.size := by omega
        have hne2 : wr.heap.size ≠ w.heap.size + 1 + 1 := by omega
        have hlt2 : wr.heap.size < w1.heap.size := by omega
        have hlt3 : w.heap.size + 1 + 1 < w1.heap.size := by omega
        have OWN1 := Lib.hid own1
        have HG1 := Lib.hid hg1
        have K3 := Lib.hid k3
        have S1 := Lib.hid s1
        clear own1 hg1 kb k3 hsbox s1
        simp at q0 q1 q2 q3 q4 z1
        go_wp2_with (first
          | (at_builtin; refine wpList_append_src _ rfl (.tmp 27) (.tmp 29) 22 rfl (w.heap.size + 1 + 1 + 1) 95 is (.agg #[.string ⟨#[]⟩, .int .i64 0, .int .i64 0, .bool false, .slice none 0 0]) 5 64 Tryz.underlying22 his.out hzs.out hss.out hbs.out rfl (by decide) v k (cs.flatMap Sm.cells) rfl ?own2 (some ⟨w1.heap.size, 0, none⟩) 1 1 (Sm.cells ⟨u.s, A1, c1⟩) rfl ?l2 ?n2 ?c2 sm_one ?m2 ?b2 ?s2 (k + 1) rfl ?_))
        case own2 => exact ownsRow_of_block HR.out.own (fun g hg => by
          have := HR.out.own.lt g hg
          rw [heap_alloc_other _ _ _ (by have := S1.out; simp; omega), heap_setCell_other _ _ _ _ (by dsimp only; omega), HG1.out.block g (by simp; omega) (by intro e; injection e with e; omega), heap_alloc_other _ _ _ (by simp; omega), heap_alloc_other _ _ _ (by omega)])
        case l2 => rfl
        case n2 => intro h; cases h
        case c2 =>
          intro ad had j u' hj
          injection had with had
          subst had
          have := new_cells (w1.setCell ⟨wr.heap.size, 4, none⟩ (.slice A1 u.s.vals.length c1)) (Sm.cells ⟨u.s, A1, c1⟩) 95 j u' hj
          simpa [Sm.cells] using this
        case m2 => have := HSM.out; unfold maxLen; omega
        case b2 => have := HSM.out; omega
        case s2 => have := S1.out; simp; omega
        · intro A2 c2 w3 own2 hg2 hat
          have k3 : w3.heap[w.heap.size + 1 + 1]? = some (.cells #[.int .i64 per, v] 24 (0, 0)) := by
            rw [hg2.block _ (by have := S1.out; simp; omega) (fun e => by have := (HR.out.own.lt _ e.symm).1; omega), heap_alloc_other _ _ _ (by have := S1.out; simp; omega), heap_setCell_other _ _ _ _ (by dsimp only; omega)]; exact K3.out
          have p1 := cell_of_blk k3 1
          have p2 := free_of_blk k3 1
          simp at p1
          have STEP := Lib.hid (CopyRel.step HR.out GET.out HOK.out OWN1.out HG1.out own2 hg2 (by simpa using hat))
          clear own2 hg2 hat k3 q0 q1 q2 q3 q4 q5 z1 y0 y1 y2 y3 y4 x0
          go_wp2
          go_roundw
          case rel => exact ⟨k + 1, by omega, by go_num, Lib.hid ⟨_, _, STEP.out⟩⟩
          case measure => simp [intOf]; omega
    · obtain rfl : k = n := by omega
      have m0 := cell_of_blk hr.b3 0
      have m1 := cell_of_blk hr.b3 1
      have r0 := cell_of_blk hr.b2 0
      have r1 := cell_of_blk hr.b2 1
      have f0 := free_of_blk hr.b2 0
      have f1 := free_of_blk hr.b2 1
      simp at m0 m1 r0 r1
      have HR := Lib.hid hr
      obtain ⟨A', cap', hv', -, -, -, -⟩ := own_slice hr.own
      subst hv'
      clear hr hrl
      have HD := Lib.hid (CopyRel.done HR.out HN.out (.int .i64 per) (.slice A' k cap'))
      have HL := Lib.hid HR.out.len
      have HO := Lib.hid (CopyRel.own' HR.out (.int .i64 per) (.slice A' k cap'))
      have HLW := Lib.hid (fun m (hm : m ∈ cs) b o e => show w.heap.size ≤ b by have := (HR.out.apart m hm b o e).1; omega)
      go_wp2
      refine bodyPost_ret (v := .agg #[.int .i64 per, .slice A' k cap']) (by simp [results, Tryz.results33, go_sem, r0, r1]) rfl ⟨⟨per, cs, A', cap'⟩, ?_, HO.out, HD.out.2.1, HD.out.2.2, HLW.out⟩
      unfold Lm.val; dsimp only; rw [HL.out]
open Go.RowKit
theorem blk_keep {W w' : World} (hb : Below W.heap.size W w') {g : Nat} {cs : Array Value} {t : TypeId} (h : W.heap[g]? = some (.cells cs t (0, 0))) : w'.heap[g]? = some (.cells cs t (0, 0)) :=
  (hb.block g (Array.getElem?_eq_some_iff.1 h).1).trans h
theorem infoInt : (Tryz.prog.info? 3).map (fun i => (i.zero, i.size, i.bytes)) = some (some (.int .i64 0), 1, 8) := by kernel_rfl
end Go.Proofs.YtmiokllpdmmfhaaGreat
