/-
  Contracts of Find and of the map that it goes by, and of the specification's Find.
-/
import Derived.Test.YtmccemfklhkhoaaDoorLBear
namespace Go.Proofs.YtmccemfklhkhoaaDoor
open Go.RowKit Go.Maps Go.WideMaps

/-- the last place of a code -/
def lastF (c : ByteArray) : Nat → Int → List Sg → Int
  | _, a, [] => a
  | i, a, s :: r => lastF c (i + 1) (if strEq s.code c then (i : Int) else a) r
theorem lastF_snoc (c : ByteArray) (s : Sg) : ∀ (l : List Sg) (i : Nat) (a : Int), lastF c i a (l ++ [s]) = if strEq s.code c then ((i + l.length : Nat) : Int) else lastF c i a l
  | [], i, a => by simp [lastF]
  | x :: l, i, a => by
    rw [List.cons_append, lastF, lastF_snoc c s l (i + 1), lastF, List.length_cons, show i + 1 + l.length = i + (l.length + 1) by omega]
theorem lastF_no (c : ByteArray) : ∀ (l : List Sg) (i : Nat) (a : Int), l.any (fun s => strEq s.code c) = false → lastF c i a l = a
  | [], _, _, _ => rfl
  | x :: l, i, a, h => by
    simp only [List.any_cons, Bool.or_eq_false_iff] at h
    rw [lastF, h.1, lastF_no c l (i + 1) _ h.2]; rfl
theorem strEq_trans {a b c : ByteArray} (h1 : strEq a c = true) (h2 : strEq b c = true) : strEq b a = true := by
  unfold strEq at *
  simp at *
  rw [h1, h2]
/-- in a list whose signs are without error the last place of a code is the first -/
theorem last_first (p : Int) (c : ByteArray) : ∀ (r done : List Sg), signsErr p done r = 0 → ∀ (i : Nat) (a : Int), r.any (fun s => strEq s.code c) = true →
    ∃ k, k < r.length ∧ lastF c i a r = (i + k : Nat) ∧ r.findIdx? (fun s => strEq s.code c) = some k
  | [], _, _, _, _, h => by simp at h
  | s :: r, done, h, i, a, ha => by
    unfold signsErr at h
    split at h
    · exact absurd h (by decide)
    · rename_i hok
      split at h
      · by_cases hs : strEq s.code c = true
        · refine ⟨0, by simp, ?_, by simp [List.findIdx?_cons, hs]⟩
          have hno : r.any (fun t => strEq t.code c) = false := by
            cases hr : r.any (fun t => strEq t.code c) with
            | false => rfl
            | true =>
              exfalso
              obtain ⟨t, ht, htc⟩ := List.any_eq_true.1 hr
              exact no_twice p t s (strEq_trans htc hs) r (done ++ [s]) h ht (by simp)
          rw [lastF, lastF_no c r _ _ hno, if_pos hs]; rfl
        · have hs : strEq s.code c = false := by simpa using hs
          rw [List.any_cons, hs, Bool.false_or] at ha
          obtain ⟨k, hk, h1, h2⟩ := last_first p c r (done ++ [s]) h (i + 1) (if strEq s.code c then (i : Int) else a) ha
          refine ⟨k + 1, by simpa using hk, ?_, by simp [List.findIdx?_cons, hs, h2]⟩
          rw [lastF, h1]; congr 1; omega
      · exact absurd h (by assumption)
where
  no_twice (p : Int) (t s : Sg) (hts : strEq s.code t.code = true) : ∀ (r done : List Sg), signsErr p done r = 0 → t ∈ r → s ∈ done → False
  | [], _, _, ht, _ => by simp at ht
  | x :: r, done, h, ht, hs => by
    unfold signsErr at h
    split at h
    · exact absurd h (by decide)
    · rename_i hok
      split at h
      · rcases List.mem_cons.1 ht with e | ht
        · subst e
          have : done.any (fun d => strEq d.code t.code) = true := List.any_eq_true.2 ⟨s, hs, hts⟩
          rw [this] at hok
          simp at hok
        · exact no_twice p t s hts r (done ++ [x]) h ht (by simp [hs])
      · exact absurd h (by assumption)

theorem zeroInt (w : World) : (zeroValue 3).run Tryd.prog w = .ok (.int .i64 0) w := by kernel_rfl
theorem mkNum (n : Int) (w : World) : (Instr.makeMap 65 (some (.int .i64 n))).run Tryd.prog w = .ok (.map (some w.heap.size)) (w.alloc (.map #[] 0)) := by
  simp [Instr.makeMap, run_underlying Tryd.underlying65, go_sem]

/-- block b holds the numbers of the codes of ss -/
def NumAt (w : World) (b k : Nat) (ss : List Sg) : Prop :=
  ∃ D : DataW Unit, w.ownsMap Tryd.prog 9 (plainElem Tryd.prog 3) b k D ∧ ∀ c : ByteArray, D.atKey (.string c.data.toList) (.lit (.int .i64 0)) = .lit (.int .i64 (lastF c 0 0 ss)) ∧ Maps.has D (.string c.data.toList) = ss.any (fun s => strEq s.code c)
theorem NumAt.new (w : World) : NumAt (w.alloc (.map #[] 0)) w.heap.size 0 [] :=
  ⟨_, World.ownsMap_made w _ _ _, fun c => ⟨by simp [DataW.atKey, lastF], by rfl⟩⟩
theorem NumAt.alloc {w : World} {b k : Nat} {ss : List Sg} (h : NumAt w b k ss) (o : Obj) : NumAt (w.alloc o) b k ss := by
  obtain ⟨D, h1, h2⟩ := h
  exact ⟨D, h1.alloc o, h2⟩
theorem NumAt.look {w : World} {b k : Nat} {ss : List Sg} (h : NumAt w b k ss) {c : ByteArray} (hc : c.size ≤ maxLen) :
    (Instr.lookup 65 (.map (some b)) (.string c) true).run Tryd.prog w = .ok (.tuple #[.int .i64 (lastF c 0 0 ss), .bool (ss.any fun s => strEq s.code c)]) w := by
  obtain ⟨D, h1, h2⟩ := h
  obtain ⟨v, ps, hrun, hv⟩ := h1.look_ok keyedS Tryd.underlying65 (zeroInt w) (plainElem_int Tryd.underlying3 (a := 0) (by decide)) (keyOf_string_mk Tryd.underlying9 hc)
  rw [(h2 c).1] at hv
  obtain ⟨r, rfl, hz, _⟩ := plainElem_int_inv Tryd.underlying3 hv
  simp only [Prod.mk.injEq, DataW.lit.injEq, Lit.int.injEq, true_and] at hz
  rw [hrun, (h2 c).2, hz.1]
theorem NumAt.put {w : World} {b k : Nat} {ss : List Sg} (h : NumAt w b k ss) {s : Sg} (hc : s.code.size ≤ maxLen) (hk : k < maxLen) (hl : ss.length ≤ 1000000) :
    ∃ w', (Instr.mapUpdate 65 (.map (some b)) (.string s.code) (.int .i64 (ss.length : Int))).run Tryd.prog w = .ok () w' ∧ NumAt w' b (k + 1) (ss ++ [s]) ∧ w.grownBy w' (some b) := by
  obtain ⟨D, h1, h2⟩ := h
  have hwf : (Lit.int .i64 (ss.length : Int)).wf = true := by
    have h1 : IntKind.i64.min = -9223372036854775808 := by decide
    have h2 : IntKind.i64.max = 9223372036854775807 := by decide
    simp [Lit.wf, h1, h2]; omega
  obtain ⟨w', hrun, hown, hg⟩ := h1.update keyedS Tryd.underlying65 hk (keyOf_string_mk Tryd.underlying9 hc) (plainElem_int Tryd.underlying3 hwf)
  refine ⟨w', hrun, ⟨_, hown, fun c => ?_⟩, hg⟩
  by_cases hcs : c.data.toList = s.code.data.toList
  · have hse : strEq s.code c = true := by rw [strEq_iff]; simp [hcs]
    rw [hcs, atKey_put_same h1.isMap (keyedS.key (keyOf_string_mk Tryd.underlying9 hc)), has_put_same h1.isMap (keyedS.key (keyOf_string_mk Tryd.underlying9 hc))]
    exact ⟨by rw [lastF_snoc, hse]; simp, by simp [hse]⟩
  · have hne : Lit.string c.data.toList ≠ Lit.string s.code.data.toList := by intro e; injection e with e; exact hcs e
    have hse : strEq s.code c = false := by rw [strEq_iff]; simpa using fun e => hcs (by rw [e])
    rw [atKey_put_other hne, has_put_other hne, (h2 c).1, (h2 c).2]
    exact ⟨by rw [lastF_snoc, hse]; simp, by simp [hse]⟩

set_option maxHeartbeats 1600000 in
theorem numbers_any (l : Lm) (w : World) (hl : LmOk w l) (hsm : l.ms.length ≤ 1000000) :
    Calls Tryd.prog 38 #[.slice l.A l.ms.length l.cap] w fun e w' => ∃ b, e = .returned (.map (some b)) ∧ NumAt w' b l.ms.length l.signs ∧ Below w.heap.size w w' := by
  have hs := hl.signs
  obtain ⟨per, ms, A, cap⟩ := l
  obtain ⟨-, hlen, hcap⟩ := hl
  dsimp only at hs hlen hcap hsm
  unfold Lm.signs
  dsimp only
  obtain ⟨n, hn⟩ : ∃ n, n = ms.length := ⟨_, rfl⟩
  rw [← hn] at hlen hsm ⊢
  have hcap' := hcap
  unfold maxLen at hcap'
  have HN := Lib.hid hn
  clear hn
  have hmk := fun (n : Int) (w : World) => mkNum n w
  go_enter Tryd.func38, Tryd.ntmps38
  go_wp2
  clear hmk
  go_loopw [11] (fun i wr => ∃ k : Nat, k ≤ n ∧ i = .int .i64 k ∧ Hid (Below w.heap.size w wr) ∧ Hid (w.heap.size < wr.heap.size) ∧ Hid (NumAt wr w.heap.size k ((ms.map (·.s)).take k))) (fun i _ => n - (intOf i).toNat)
  case atStart => exact ⟨0, Nat.zero_le _, rfl, Lib.hid (below_alloc _ _), Lib.hid (by simp), Lib.hid (by simpa using NumAt.new w)⟩
  case round =>
    obtain ⟨k, hk, rfl, hb, hsz, hnum⟩ := hrel
    by_cases hlt : k < n
    · have hget : ms[k]? = some (ms[k]'(by have := HN.out; omega)) := List.getElem?_eq_getElem _
      obtain ⟨u, hu⟩ : ∃ u, u = ms[k]'(by have := HN.out; omega) := ⟨_, rfl⟩
      rw [← hu] at hget
      obtain ⟨b, o, hA, hb1, hva, hok⟩ := hs k u hget
      subst hA
      obtain ⟨y0, y1, y2, y3, y4⟩ := hva.below hb.out hb1
      have GET := Lib.hid (show (ms.map (·.s))[k]? = some u.s by rw [List.getElem?_map, hget]; rfl)
      have hsb : b < wr.heap.size := by have := hb.out.size; omega
      have hsnd := Lib.hid (show ((ms.map (·.s)).take k) ++ [u.s] = (ms.map (·.s)).take (k + 1) by
        obtain ⟨hk', e⟩ := List.getElem?_eq_some_iff.1 GET.out
        rw [List.take_succ_eq_append_getElem hk', e])
      have htl : ((ms.map (·.s)).take k).length = k := by rw [List.length_take, List.length_map]; have := HN.out; omega
      obtain ⟨box, hbox⟩ : ∃ box, box = Obj.cells #[.string u.s.code, .int .i64 u.s.wide, .int .i64 u.s.high, .bool u.s.even, .slice u.A u.s.vals.length u.cap] 63 := ⟨_, rfl⟩
      obtain ⟨w1, hput, hnum1, hgrow⟩ := (hnum.out.alloc box).put (s := u.s) hok.code (by unfold maxLen; omega) (by omega)
      rw [htl] at hput
      have hb2 := Lib.hid (show Below w.heap.size w w1 from (hb.out.alloc (Nat.le_of_lt hsz.out) box).grown hgrow (by have := hsz.out; simp; omega) (by intro g hg; injection hg with hg; omega))
      have hs1 := Lib.hid (show w.heap.size < w1.heap.size by have h1 := hgrow.size; have := hsz.out; simp at h1; omega)
      have HNUM := Lib.hid hnum1
      subst hbox
      clear hu hget hva hok hs hnum1 hgrow htl
      go_wp2
      go_roundw
      case rel => exact ⟨k + 1, by omega, by go_num, hb2, hs1, Lib.hid (by rw [← hsnd.out]; exact HNUM.out)⟩
      case measure => simp [intOf]; omega
    · obtain rfl : k = n := by omega
      have hT := Lib.hid (show (ms.map (·.s)).take k = ms.map (·.s) by rw [HN.out, ← List.length_map (f := (·.s)), List.take_length])
      go_wp2
      go_ret
      exact ⟨_, rfl, by rw [← hT.out]; exact hnum.out, hb.out⟩

/-- Find -/
def findR (l : Li) (c : ByteArray) : Int × Int := if checkErr l ≠ 0 then (0, checkErr l) else if indexI l.signs c < 0 then (0, 3) else (indexI l.signs c, 0)
theorem signs_ok {l : Li} (h : checkErr l = 0) : signsErr l.per [] l.signs = 0 := by
  unfold checkErr at h
  split at h
  · exact absurd h (by decide)
  · split at h
    · exact absurd h (by decide)
    · exact h
theorem find_last {l : Li} (h : checkErr l = 0) (c : ByteArray) :
    (l.signs.any (fun s => strEq s.code c) = true ∧ indexI l.signs c = lastF c 0 0 l.signs ∧ 0 ≤ indexI l.signs c) ∨ (l.signs.any (fun s => strEq s.code c) = false ∧ indexI l.signs c = -1) := by
  cases ha : l.signs.any (fun s => strEq s.code c) with
  | false => exact .inr ⟨rfl, indexI_none _ _ ha⟩
  | true =>
    obtain ⟨k, _, h1, h2⟩ := last_first l.per c l.signs [] (signs_ok h) 0 0 ha
    refine .inl ⟨rfl, ?_, ?_⟩
    · rw [h1]; simp [indexI, h2]
    · simp [indexI, h2]

theorem ret_ii {a b : Int} {p : Int × Int} (h : (a, b) = p) : Ending.returned (.tuple #[.int .i64 a, .int .i64 b]) = .returned (.tuple #[.int .i64 p.1, .int .i64 p.2]) := by rw [← h]

set_option maxHeartbeats 1600000 in
theorem find_any (l : Lm) (c : ByteArray) (w : World) (hl : LmOk w l) (hsm : l.ms.length ≤ 1000000) (hc : c.size ≤ maxLen) :
    Calls Tryd.prog 15 #[l.val, .string c] w fun e w' => e = .returned (.tuple #[.int .i64 (findR l.li c).1, .int .i64 (findR l.li c).2]) ∧ Below w.heap.size w w' := by
  have H0 := Lib.hid (show LmOk (w.alloc (.cells #[.int .i64 l.per, .slice l.A l.ms.length l.cap] 24)) l from hl.below (below_alloc _ _))
  have C0 := Lib.hid (heap_alloc_new w (.cells #[.int .i64 l.per, .slice l.A l.ms.length l.cap] 24))
  have HCK := Lib.hid (fun (w : World) (hl : LmOk w l) (r : Int) (h : checkErr l.li = r) => show Calls Tryd.prog 17 #[.agg #[.int .i64 l.per, .slice l.A l.ms.length l.cap]] w (fun e w' => e = .returned (.int .i64 r) ∧ Below w.heap.size w w') by rw [← h]; exact check_any l w hl)
  have HNM := Lib.hid (fun (w : World) (hl : LmOk w l) => numbers_any l w hl hsm)
  have HC := Lib.hid hc
  clear hl hsm hc
  show Calls _ _ #[.agg #[.int .i64 l.per, .slice l.A l.ms.length l.cap], .string c] w _
  obtain ⟨E, hE⟩ : ∃ E, E = checkErr l.li := ⟨_, rfl⟩
  have HE := Lib.hid hE.symm
  by_cases h0 : E = 0
  case neg =>
    have hb : (E != 0) = true := by simpa using h0
    have HF := Lib.hid (show findR l.li c = (0, E) by unfold findR; rw [HE.out, if_pos h0])
    clear hE h0
    go_enter Tryd.func15, Tryd.ntmps15
    go_wp2_with fail
    refine (HCK.out _ H0.out E HE.out).mono ?_; rintro e w1 ⟨rfl, hb1⟩
    go_wp2
    go_ret2
    exact ⟨ret_ii HF.out.symm, below_of hb1⟩
  subst h0
  clear hE
  have HG := Lib.hid (show findR l.li c = if indexI l.signs c < 0 then (0, 3) else (indexI l.signs c, 0) by unfold findR; rw [HE.out]; rfl)
  rcases find_last HE.out c with ⟨h1, h2, h3⟩ | ⟨h1, h2⟩
  · have h2 : indexI l.signs c = lastF c 0 0 l.signs := h2
    have h3 : 0 ≤ indexI l.signs c := h3
    have HF := Lib.hid (show findR l.li c = (lastF c 0 0 l.signs, 0) by rw [HG.out, if_neg (by omega), h2])
    have h1 := Lib.hid (show (l.signs.any fun s => strEq s.code c) = true from h1)
    clear h2 h3
    go_enter Tryd.func15, Tryd.ntmps15
    go_wp2_with fail
    refine (HCK.out _ H0.out 0 HE.out).mono ?_; rintro e w1 ⟨rfl, hb1⟩
    have x1 := cell_of_blk (blk_keep hb1 C0.out) 1
    simp at x1
    have L1 := Lib.hid (H0.out.below hb1)
    have b1 := Lib.hid (below_of hb1)
    clear hb1
    go_wp2_with fail
    refine (HNM.out _ L1.out).mono ?_; rintro e w2 ⟨b, rfl, hnum, hb2⟩
    have hlook := hnum.look HC.out
    rw [h1.out] at hlook
    have b2 := Lib.hid (below_more b1.out hb2)
    clear hnum hb2 x1
    go_wp2
    go_ret2
    exact ⟨ret_ii HF.out.symm, b2.out⟩
  · have h2 : indexI l.signs c = -1 := h2
    have HF := Lib.hid (show findR l.li c = (0, 3) by rw [HG.out, if_pos (by omega)])
    have h1 := Lib.hid (show (l.signs.any fun s => strEq s.code c) = false from h1)
    clear h2
    go_enter Tryd.func15, Tryd.ntmps15
    go_wp2_with fail
    refine (HCK.out _ H0.out 0 HE.out).mono ?_; rintro e w1 ⟨rfl, hb1⟩
    have x1 := cell_of_blk (blk_keep hb1 C0.out) 1
    simp at x1
    have L1 := Lib.hid (H0.out.below hb1)
    have b1 := Lib.hid (below_of hb1)
    clear hb1
    go_wp2_with fail
    refine (HNM.out _ L1.out).mono ?_; rintro e w2 ⟨b, rfl, hnum, hb2⟩
    have hlook := hnum.look HC.out
    rw [h1.out] at hlook
    have b2 := Lib.hid (below_more b1.out hb2)
    clear hnum hb2 x1
    go_wp2
    go_ret2
    exact ⟨ret_ii HF.out.symm, b2.out⟩

set_option maxHeartbeats 1600000 in
theorem rfind_any (l : Lm) (c : ByteArray) (w : World) (hl : LmOk w l) :
    Calls Tryd.prog 16 #[l.val, .string c] w fun e w' => e = .returned (.tuple #[.int .i64 (findR l.li c).1, .int .i64 (findR l.li c).2]) ∧ Below w.heap.size w w' := by
  have H0 := Lib.hid (show LmOk (w.alloc (.cells #[.int .i64 l.per, .slice l.A l.ms.length l.cap] 24)) l from hl.below (below_alloc _ _))
  have C0 := Lib.hid (heap_alloc_new w (.cells #[.int .i64 l.per, .slice l.A l.ms.length l.cap] 24))
  have HCK := Lib.hid (fun (w : World) (hl : LmOk w l) (r : Int) (h : checkErr l.li = r) => show Calls Tryd.prog 18 #[.agg #[.int .i64 l.per, .slice l.A l.ms.length l.cap]] w (fun e w' => e = .returned (.int .i64 r) ∧ Below w.heap.size w w') by rw [← h]; exact rcheck_any l w hl)
  have HIX := Lib.hid (fun (w : World) (hl : LmOk w l) (r : Int) (h : indexI l.signs c = r) => show Calls Tryd.prog 39 #[.agg #[.int .i64 l.per, .slice l.A l.ms.length l.cap], .string c] w (fun e w' => e = .returned (.int .i64 r) ∧ Below w.heap.size w w') by rw [← h]; exact index_any l c w hl)
  clear hl
  show Calls _ _ #[.agg #[.int .i64 l.per, .slice l.A l.ms.length l.cap], .string c] w _
  obtain ⟨E, hE⟩ : ∃ E, E = checkErr l.li := ⟨_, rfl⟩
  have HE := Lib.hid hE.symm
  by_cases h0 : E = 0
  case neg =>
    have hb : (E != 0) = true := by simpa using h0
    have HF := Lib.hid (show findR l.li c = (0, E) by unfold findR; rw [HE.out, if_pos h0])
    clear hE h0
    go_enter Tryd.func16, Tryd.ntmps16
    go_wp2_with fail
    refine (HCK.out _ H0.out E HE.out).mono ?_; rintro e w1 ⟨rfl, hb1⟩
    go_wp2
    go_ret2
    exact ⟨ret_ii HF.out.symm, below_of hb1⟩
  subst h0
  clear hE
  obtain ⟨I, hI⟩ : ∃ I, indexI l.signs c = I := ⟨_, rfl⟩
  have HI := Lib.hid hI
  have HG := Lib.hid (show findR l.li c = if I < 0 then (0, 3) else (I, 0) by unfold findR; rw [HE.out, show l.li.signs = l.signs from rfl, hI]; rfl)
  clear hI
  by_cases hneg : I < 0
  · have HF := Lib.hid (show findR l.li c = (0, 3) by rw [HG.out, if_pos hneg])
    go_enter Tryd.func16, Tryd.ntmps16
    go_wp2_with fail
    refine (HCK.out _ H0.out 0 HE.out).mono ?_; rintro e w1 ⟨rfl, hb1⟩
    have x0 := cell_of_blk (blk_keep hb1 C0.out) 0
    have x1 := cell_of_blk (blk_keep hb1 C0.out) 1
    simp at x0 x1
    have L1 := Lib.hid (H0.out.below hb1)
    have b1 := Lib.hid (below_of hb1)
    clear hb1
    go_wp2_with fail
    refine (HIX.out _ L1.out I HI.out).mono ?_; rintro e w2 ⟨rfl, hb2⟩
    go_wp2
    go_ret2
    exact ⟨ret_ii HF.out.symm, below_more b1.out hb2⟩
  · have HF := Lib.hid (show findR l.li c = (I, 0) by rw [HG.out, if_neg hneg])
    go_enter Tryd.func16, Tryd.ntmps16
    go_wp2_with fail
    refine (HCK.out _ H0.out 0 HE.out).mono ?_; rintro e w1 ⟨rfl, hb1⟩
    have x0 := cell_of_blk (blk_keep hb1 C0.out) 0
    have x1 := cell_of_blk (blk_keep hb1 C0.out) 1
    simp at x0 x1
    have L1 := Lib.hid (H0.out.below hb1)
    have b1 := Lib.hid (below_of hb1)
    clear hb1
    go_wp2_with fail
    refine (HIX.out _ L1.out I HI.out).mono ?_; rintro e w2 ⟨rfl, hb2⟩
    go_wp2
    go_ret2
    exact ⟨ret_ii HF.out.symm, below_more b1.out hb2⟩

end Go.Proofs.YtmccemfklhkhoaaDoor
