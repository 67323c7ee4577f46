/-
  Contract of the program's Check. And what builds on it.
-/
import Derived.Test.YtleihhkacmgofabGreatDoorPk1
import Derived.Maps.AppendAt
import Derived.Laws.OwnMore
import Derived.OwnWalk
import Derived.Laws.Strings
import Derived.Sort.Statements

/- Contract of the program's Check. -/
namespace Go.Proofs.YtleihhkacmgofabGreatDoor
open Go.RowKit Go.Maps

theorem grown_cell {w w' : World} {g b o : Nat} (h : w.grownBy w' (some g)) (hlt : b < w.heap.size) (hne : b ≠ g) : w'.cell? ⟨b, o, none⟩ = w.cell? ⟨b, o, none⟩ :=
  World.cell?_of_block (w := w) (h.block b hlt (by simpa using hne))

theorem checkSign_is (m : Sm) (p : Int) (w : World) (hm : SmOk w m) (i : Int) (h : signErr m.s p = i) :
    Calls Tryz.prog 38 #[m.val, .int .i64 p] w fun e w' => e = .returned (.int .i64 i) ∧ Below w.heap.size w w' := by
  rw [← h]; exact checkSign_any m p w hm
theorem code_is (s : ByteArray) (w : World) (hs : s.size ≤ maxLen) (r : Bool) (h : codeB s = r) : Calls Tryz.prog 37 #[.string s] w fun e w' => e = .returned (.bool r) ∧ w = w' := by
  rw [← h]; exact code_any s w hs
theorem within_is (n m : Int) (w : World) (r : Bool) (h : withinB n m = r) : Calls Tryz.prog 36 #[.int .i64 n, .int .i64 m] w fun e w' => e = .returned (.bool r) ∧ w = w' := by
  rw [← h]; exact within_any n m w

set_option maxHeartbeats 3200000 in
theorem check_any (l : Lm) (w : World) (hl : LmOk w l) :
    Calls Tryz.prog 21 #[l.val] w fun e w' => e = .returned (.int .i64 (checkErr l.li)) ∧ Below w.heap.size w w' := by
  have hs := hl.signs
  obtain ⟨per, ms, A, cap⟩ := l
  obtain ⟨-, hlen, hcap⟩ := hl
  dsimp only at hs hlen hcap
  unfold Lm.val Lm.li Lm.signs
  dsimp only
  obtain ⟨n, hn⟩ : ∃ n, n = ms.length := ⟨_, rfl⟩
  rw [← hn] at hlen ⊢
  have hcap' := hcap
  unfold maxLen at hcap'
  have HN := Lib.hid hn
  have HNL := Lib.hid (show (ms.map (·.s)).length = n by rw [List.length_map]; exact hn.symm)
  clear hn
  by_cases h1 : n ≤ 200
  case neg =>
    have hf := Lib.hid (show checkErr ⟨per, ms.map (·.s)⟩ = 2 by unfold checkErr; rw [if_pos (by dsimp only; rw [HNL.out]; omega)])
    go_enter Tryz.func21, Tryz.ntmps21
    go_wp2
    go_ret
    exact ⟨of_int hf.out.symm, below_alloc _ _⟩
  have hg := Lib.hid (show ¬ 200 < (ms.map (·.s)).length by rw [HNL.out]; omega)
  by_cases h2 : withinB per 9 = true
  case neg =>
    have h2 : withinB per 9 = false := by simpa using h2
    have hf := Lib.hid (show checkErr ⟨per, ms.map (·.s)⟩ = 13 by unfold checkErr; rw [if_neg hg.out, if_pos h2])
    go_enter Tryz.func21, Tryz.ntmps21
    go_wp2_with (first | (go_at_call 36; refine (within_is _ _ _ false h2).mono ?_; rintro e w' ⟨rfl, rfl⟩))
    go_ret
    exact ⟨of_int hf.out.symm, below_alloc _ _⟩
  have hf := Lib.hid (show checkErr ⟨per, ms.map (·.s)⟩ = signsErr per [] (ms.map (·.s)) by unfold checkErr; rw [if_neg hg.out, if_neg (by rw [h2]; simp)])
  have hmk := fun (n : Int) (w : World) => mkSeen n w
  have c0 := Lib.hid (show ((w.alloc (.cells #[.int .i64 per, .slice A n cap] 24)).alloc (.map #[] 0)).cell? ⟨w.heap.size, 0, none⟩ = some (.int .i64 per) by simp [go_sem])
  have c1 := Lib.hid (show ((w.alloc (.cells #[.int .i64 per, .slice A n cap] 24)).alloc (.map #[] 0)).cell? ⟨w.heap.size, 1, none⟩ = some (.slice A n cap) by simp [go_sem])
  have cs := Lib.hid (show SeenAt ((w.alloc (.cells #[.int .i64 per, .slice A n cap] 24)).alloc (.map #[] 0)) (w.heap.size + 1) 0 [] by
    have := SeenAt.new (w.alloc (.cells #[.int .i64 per, .slice A n cap] 24)); simpa using this)
  have cb := Lib.hid (show Below w.heap.size w ((w.alloc (.cells #[.int .i64 per, .slice A n cap] 24)).alloc (.map #[] 0)) from ((Below.refl _ _).alloc (Nat.le_refl _) _).alloc (by simp) _)
  go_enter Tryz.func21, Tryz.ntmps21
  go_wp2_with (first | (go_at_call 36; refine (within_is _ _ _ true h2).mono ?_; rintro e w' ⟨rfl, rfl⟩))
  clear h2 hmk
  go_loopw [22] (fun i wr => ∃ k : Nat, k ≤ n ∧ i = .int .i64 k ∧ Hid (Below w.heap.size w wr) ∧ Hid (wr.cell? ⟨w.heap.size, 0, none⟩ = some (.int .i64 per)) ∧ Hid (wr.cell? ⟨w.heap.size, 1, none⟩ = some (.slice A n cap)) ∧ Hid (w.heap.size + 1 < wr.heap.size) ∧ Hid (SeenAt wr (w.heap.size + 1) k ((ms.map (·.s)).take k)) ∧ Hid (signsErr per ((ms.map (·.s)).take k) ((ms.map (·.s)).drop k) = signsErr per [] (ms.map (·.s)))) (fun i _ => n - (intOf i).toNat)
  case atStart => exact ⟨0, Nat.zero_le _, rfl, cb, c0, c1, Lib.hid (by simp), cs, Lib.hid (by simp)⟩
  case round =>
    obtain ⟨k, hk, rfl, hb, x0', x1', hsz', hseen, hno⟩ := hrel
    have hw1 := hb
    have x0 := x0'.out
    have x1 := x1'.out
    have hsz : w.heap.size < wr.heap.size := by have := hsz'.out; omega
    by_cases hlt : k < n
    · have hget : ms[k]? = some (ms[k]'(by have := HN.out; omega)) := List.getElem?_eq_getElem _
      obtain ⟨u, hu⟩ : ∃ u, u = ms[k]'(by have := HN.out; omega) := ⟨_, rfl⟩
      rw [← hu] at hget
      obtain ⟨b, o, hA, hb1, hva, hok⟩ := hs k u hget
      have hok0 := Lib.hid hok
      subst hA
      obtain ⟨y0, y1, y2, y3, y4⟩ := hva.below hw1.out hb1
      have hcsz := Lib.hid hok.code
      have GET := Lib.hid (show (ms.map (·.s))[k]? = some u.s by rw [List.getElem?_map, hget]; rfl)
      have hsb : b < wr.heap.size := by omega
      have hsnd := Lib.hid (show ((ms.map (·.s)).take k) ++ [u.s] = (ms.map (·.s)).take (k + 1) by
        obtain ⟨hk', e⟩ := List.getElem?_eq_some_iff.1 GET.out
        rw [List.take_succ_eq_append_getElem hk', e])
      clear hu hget hva hs hok
      by_cases hcode : codeB u.s.code = true
      case neg =>
        have hcode : codeB u.s.code = false := by simpa using hcode
        have hfin := Lib.hid (signsErr_code per _ k u.s GET.out (by rw [hcode]; rfl))
        go_wp2_with (first | (go_at_call 37; refine (code_is _ _ hcsz.out false hcode).mono ?_; rintro e w' ⟨rfl, rfl⟩))
        go_ret
        exact ⟨of_int (by rw [hf.out, ← hno.out, hfin.out]), hb.out.alloc (Nat.le_of_lt hsz) _⟩
      obtain ⟨box, hbox⟩ : ∃ box, box = Obj.cells #[.string u.s.code, .int .i64 u.s.wide, .int .i64 u.s.high, .bool u.s.even, .slice u.A u.s.vals.length u.cap] 38 := ⟨_, rfl⟩
      have hlook := (hseen.out.alloc box).look hcsz.out
      obtain ⟨w1, hput, hseen1, hgrow⟩ := (hseen.out.alloc box).put (s := u.s) hcsz.out (by unfold maxLen; omega)
      have hb2 : Below w.heap.size w w1 := (hb.out.alloc (Nat.le_of_lt hsz) box).grown hgrow (by simp; omega) (by intro g hg; injection hg with hg; omega)
      have hsz1 : wr.heap.size < w1.heap.size := by have := hgrow.size; simp at this; omega
      have z0 : w1.cell? ⟨w.heap.size, 0, none⟩ = some (.int .i64 per) := (grown_cell hgrow (by simp; omega) (by omega)).trans (by rw [World.cell?_alloc_lt _ _ _ (by dsimp only; omega)]; exact x0)
      have z1 : w1.cell? ⟨w.heap.size, 1, none⟩ = some (.slice (some ⟨b, o, none⟩) n cap) := (grown_cell hgrow (by simp; omega) (by omega)).trans (by rw [World.cell?_alloc_lt _ _ _ (by dsimp only; omega)]; exact x1)
      have bx := SmAt.box wr u 38
      rw [← hbox] at bx
      have hne : wr.heap.size ≠ w.heap.size + 1 := by have := hsz'.out; omega
      have v0 : w1.cell? ⟨wr.heap.size, 0, none⟩ = some (.string u.s.code) := (grown_cell hgrow (by simp) hne).trans bx.at0.1
      have v1 : w1.cell? ⟨wr.heap.size, 1, none⟩ = some (.int .i64 u.s.wide) := (grown_cell hgrow (by simp) hne).trans bx.at0.2.1
      have v2 : w1.cell? ⟨wr.heap.size, 2, none⟩ = some (.int .i64 u.s.high) := (grown_cell hgrow (by simp) hne).trans bx.at0.2.2.1
      have v3 : w1.cell? ⟨wr.heap.size, 3, none⟩ = some (.bool u.s.even) := (grown_cell hgrow (by simp) hne).trans bx.at0.2.2.2.1
      have v4 : w1.cell? ⟨wr.heap.size, 4, none⟩ = some (.slice u.A u.s.vals.length u.cap) := (grown_cell hgrow (by simp) hne).trans bx.at0.2.2.2.2
      subst hbox
      have HB2 := Lib.hid hb2
      have HSEEN1 := Lib.hid hseen1
      have HGROW := Lib.hid hgrow
      clear hb2 hseen1 hgrow bx
      by_cases hdup : ((ms.map (·.s)).take k).any (fun s => strEq s.code u.s.code) = true
      case pos =>
        have hfin := Lib.hid (signsErr_code per _ k u.s GET.out (by rw [hdup]; simp))
        rw [hdup] at hlook
        clear hput z0 z1 v0 v1 v2 v3 v4
        go_wp2_with (first | (go_at_call 37; refine (code_is _ _ hcsz.out true hcode).mono ?_; rintro e w' ⟨rfl, rfl⟩))
        go_ret
        exact ⟨of_int (by rw [hf.out, ← hno.out, hfin.out]), hb.out.alloc (Nat.le_of_lt hsz) _⟩
      have hdup : ((ms.map (·.s)).take k).any (fun s => strEq s.code u.s.code) = false := by simpa using hdup
      have hok2 := Lib.hid (show (codeB u.s.code && !((ms.map (·.s)).take k).any fun d => strEq d.code u.s.code) = true by rw [hdup, hcode]; rfl)
      rw [hdup] at hlook
      clear hdup
      have hok1 := Lib.hid (hok0.out.below HB2.out)
      obtain ⟨E, hE⟩ : ∃ E, E = signErr u.s per := ⟨_, rfl⟩
      have HE := Lib.hid hE.symm
      by_cases hse : E = 0
      · have hfin := Lib.hid (signsErr_step per _ k u.s GET.out hok2.out (by rw [← hE]; exact hse))
        have hsE := Lib.hid (show signErr u.s per = 0 by rw [← hE]; exact hse)
        clear hE HE hse
        go_wp2_with (first | (go_at_call 37; refine (code_is _ _ hcsz.out true hcode).mono ?_; rintro e w' ⟨rfl, rfl⟩) | (go_at_call 38; refine (checkSign_is u per _ hok1.out 0 hsE.out).mono ?_; rintro e w2 ⟨rfl, hb3⟩))
        have q0 := (hb3.cell (p := ⟨w.heap.size, 0, none⟩) (by dsimp only; omega)).trans z0
        have q1 := (hb3.cell (p := ⟨w.heap.size, 1, none⟩) (by dsimp only; omega)).trans z1
        have hs3 := hb3.size
        have hb4 := HB2.out.trans (hb3.mono (by omega))
        go_roundw
        case rel => exact ⟨k + 1, by omega, by go_num, Lib.hid hb4, Lib.hid q0, Lib.hid q1, Lib.hid (by have := hsz'.out; omega), Lib.hid (by rw [← hsnd.out]; exact HSEEN1.out.below hb3), Lib.hid (by rw [← hfin.out]; exact hno.out)⟩
        case measure => simp [intOf]; omega
      · have hfin := Lib.hid (signsErr_stop per _ k u.s GET.out hok2.out (by rw [← hE]; exact hse))
        have hse' : (E != 0) = true := by simpa using hse
        clear hE hse
        go_wp2_with (first | (go_at_call 37; refine (code_is _ _ hcsz.out true hcode).mono ?_; rintro e w' ⟨rfl, rfl⟩) | (go_at_call 38; refine (checkSign_is u per _ hok1.out E HE.out).mono ?_; rintro e w2 ⟨rfl, hb3⟩))
        go_ret
        exact ⟨of_int (by rw [hf.out, ← hno.out, hfin.out, HE.out]), HB2.out.trans (hb3.mono (by omega))⟩
    · obtain rfl : k = n := by omega
      go_wp2
      go_ret
      refine ⟨of_int ?_, hw1.out⟩
      have := hno.out
      rw [hf.out, ← this, ← HNL.out, signsErr_end]

end Go.Proofs.YtleihhkacmgofabGreatDoor

/- Rows that the call itself makes: what an owned slice is good for, and append onto one from any slice. -/
namespace Go.Proofs.YtleihhkacmgofabGreatDoor
open Go.RowKit

theorem infoVa : (Tryz.prog.info? 43).map (fun i => (i.zero, i.size, i.bytes)) = some (some (.agg #[.int .i64 0, .string ⟨#[]⟩, .int .i64 0, .int .i64 0]), 4, 40) := by kernel_rfl
/-- a type's row, hidden from the walk -/
theorem info_hid {P : Program} {e : TypeId} {z : Value} {s b : Nat} (h : (P.info? e).map (fun i => (i.zero, i.size, i.bytes)) = some (some z, s, b)) : ∃ i, Hid (P.info? e = some i) ∧ Hid (i.zero = some z) ∧ Hid (i.size = s) ∧ Hid (i.bytes = b) := by
  obtain ⟨i, h1, h2, h3, h4⟩ := info_parts h
  exact ⟨i, h1, h2, h3, h4⟩
theorem infoSg : (Tryz.prog.info? 38).map (fun i => (i.zero, i.size, i.bytes)) = some (some (.agg #[.string ⟨#[]⟩, .int .i64 0, .int .i64 0, .bool false, .slice none 0 0]), 5, 64) := by kernel_rfl

/-- an owned slice written out -/
theorem own_slice {w : World} {base : Nat} {e : TypeId} {size : Nat} {v : Value} {n : Nat} {xs : List Value} (h : w.ownsRow base e size v n xs) :
    ∃ A cap, v = .slice A n cap ∧ n ≤ cap ∧ cap ≤ maxLen ∧ (∀ ad, A = some ad → ∃ g, ad = ⟨g, 0, none⟩ ∧ base ≤ g ∧ g < w.heap.size ∧ ∀ j u, xs[j]? = some u → w.cell? ⟨g, j, none⟩ = some u) ∧ (A = none → n = 0) := by
  rcases h.2 with ⟨rfl, rfl⟩ | ⟨g, cap, cur, rfl, hb, hg, hn, hc, hsz, htk⟩
  · exact ⟨none, 0, rfl, Nat.le_refl _, Nat.zero_le _, fun _ h => (by cases h), fun _ => rfl⟩
  · refine ⟨_, cap, rfl, hn, hc, fun ad hA => ?_, fun h => by cases h⟩
    injection hA with hA
    subst hA
    refine ⟨g, rfl, hb, (Array.getElem?_eq_some_iff.1 hg).1, fun j u hj => ?_⟩
    have hlt : j < n * size := by have := (List.getElem?_eq_some_iff.1 hj).1; rw [h.1] at this; exact this
    rw [h.cellAt j hlt, hj]

theorem append_nil_src {P : Program} (w : World) (base : Nat) (t ty e : TypeId) (i : TypeInfo) (size : Nat) (ht : P.underlying t = some (.slice e)) (hi : P.info? e = some i)
    (v : Value) (n : Nat) (xs : List Value) (hown : w.ownsRow base e size v n xs) (c : Nat) : (Builtin.append_ #[t, t] ty #[v, .slice none 0 c]).run P w = .ok v w := by
  rcases hown.2 with ⟨rfl, _⟩ | ⟨g, cap, cur, rfl, _, _, hnc, _⟩
  · simp [Builtin.append_, run_underlying ht, sizeOf, typeInfo, hi, Builtin.lenOf, Builtin.firstCells]
  · simp [Builtin.append_, run_underlying ht, sizeOf, typeInfo, hi, Builtin.lenOf, Builtin.firstCells, hnc, storeCells]

/-- append onto an owned row, the source nil or not -/
theorem wpList_append_src {P : Program} (w : World) {ops : Array Oper} {rest : List Oper} {o : Oper} {a : Act} {Q : Exit → Act → World → Prop} (hgd : o.guard = none) (s x : Operand) (t : TypeId)
    (ho : o.op = .call { callee := .builtin .append, args := #[s, x], argTypes := #[t, t] })
    (base : Nat) (e : TypeId) (i : TypeInfo) (z : Value) (size bytes : Nat) (ht : P.underlying t = some (.slice e)) (hi : P.info? e = some i) (hz : i.zero = some z)
    (hsize : i.size = size) (hby : i.bytes = bytes) (hzs : z.cells.size = size) (hsz : 0 < size)
    (v : Value) (n : Nat) (xs : List Value) (hs : a.eval s = v) (hown : w.ownsRow base e size v n xs)
    (A : Option Addr) (m c : Nat) (news : List Value) (hx : a.eval x = .slice A m c) (hl : news.length = m * size) (hA : A = none → m = 0) (hnews : ∀ ad, A = some ad → ∀ j u, news[j]? = some u → w.cell? (ad.add j) = some u) (h1 : ∀ u ∈ news, u.oneCell' = true)
    (h63 : n + m ≤ maxLen) (hbytes : (n + m) * bytes ≤ 140737488355328) (hbase : base ≤ w.heap.size)
    (N : Nat) (hN : N = n + m)
    (h : ∀ A' c' w', w'.ownsRow base e size (.slice A' N c') N (xs ++ news) → w.grownBy w' v.ownBlock → ((Value.slice A' N c').ownBlock = v.ownBlock ∨ (Value.slice A' N c').ownBlock = some w.heap.size) → wpList P ops Q rest (a.put o.dst (.slice A' N c')) w') :
    wpList P ops Q (o :: rest) a w := by
  subst hN
  cases A with
  | some ad =>
    refine wpList_append_own_at w hgd s x t ho base e i z size bytes ht hi hz hsize hby hzs hsz v n xs hs hown ad m c news hx hl (hnews ad rfl) h1 h63 hbytes hbase fun v' w' h2 h3 _ h5 => ?_
    obtain ⟨A', c', rfl, _⟩ := own_slice h2
    exact h A' c' w' h2 h3 h5
  | none =>
    have hm := hA rfl
    subst hm
    have hn : news = [] := List.eq_nil_of_length_eq_zero (by simpa using hl)
    subst hn
    refine wpList_plain hgd fun K hK => ?_
    have hrun := append_nil_src (P := P) w base t o.type e i size ht hi v n xs hown c
    unfold Oper.wp execOp
    simp only [ho, resolve, invoke, builtin, Sem.run_bind, Sem.run_pure, Result.andThen_ok, List.map_toArray, List.map_cons, List.map_nil, hs, hx, hrun]
    obtain ⟨A', c', rfl, _⟩ := own_slice hown
    exact hK _ _ (h A' c' w (by simpa using hown) (World.grownBy.refl w _) (.inl rfl))

theorem ownsRow_of_block {w w' : World} {base : Nat} {e : TypeId} {size : Nat} {v : Value} {n : Nat} {xs : List Value} (h : w.ownsRow base e size v n xs) (hb : ∀ g, v.ownBlock = some g → w'.heap[g]? = w.heap[g]?) : w'.ownsRow base e size v n xs := by
  refine ⟨h.1, ?_⟩
  rcases h.2 with h2 | ⟨g, cap, cur, rfl, h3, h4, h5⟩
  · exact .inl h2
  · exact .inr ⟨g, cap, cur, rfl, h3, (hb g rfl).trans h4, h5⟩
theorem heap_setCell_other (w : World) (a : Addr) (u : Value) (g : Nat) (h : g ≠ a.block) : (w.setCell a u).heap[g]? = w.heap[g]? := Below.heap_setCell w a u g h
theorem heap_alloc_other (w : World) (o : Obj) (g : Nat) (h : g < w.heap.size) : (w.alloc o).heap[g]? = w.heap[g]? := Below.heap_alloc w o g h
theorem heap_setCell_same (w : World) (g o : Nat) (u : Value) (cs : Array Value) (t : TypeId) (h : w.heap[g]? = some (.cells cs t (0, 0))) : (w.setCell ⟨g, o, none⟩ u).heap[g]? = some (.cells (cs.setIfInBounds o u) t (0, 0)) := by
  simp [World.setCell, Array.getElem?_modify, h]
theorem cell_of_blk {w : World} {g : Nat} {cs : Array Value} {t : TypeId} (h : w.heap[g]? = some (.cells cs t (0, 0))) (o : Nat) : w.cell? ⟨g, o, none⟩ = cs[o]? := cell_of_row w g o cs t (0, 0) h
theorem free_of_blk {w : World} {g : Nat} {cs : Array Value} {t : TypeId} (h : w.heap[g]? = some (.cells cs t (0, 0))) (o : Nat) : w.frozen? ⟨g, o, none⟩ = false := by simp [World.frozen?, h]

/-- the cells of a value, of a sign -/
def Va.cells (v : Va) : List Value := [.int .i64 v.kind, .string v.text, .int .i64 v.fr, .int .i64 v.to]
def Sm.cells (m : Sm) : List Value := [.string m.s.code, .int .i64 m.s.wide, .int .i64 m.s.high, .bool m.s.even, .slice m.A m.s.vals.length m.cap]
theorem flat_at {α : Type} {f : α → List Value} {c : Nat} (hf : ∀ x, (f x).length = c) (l : List α) (k : Nat) (x : α) (h : l[k]? = some x) (j : Nat) (hj : j < c) : (l.flatMap f)[k * c + j]? = (f x)[j]? := by
  induction l generalizing k with
  | nil => simp at h
  | cons y r ih =>
    cases k with
    | zero =>
      simp at h; subst h
      rw [List.flatMap_cons, Nat.zero_mul, Nat.zero_add, List.getElem?_append_left (by rw [hf]; exact hj)]
    | succ k =>
      rw [List.flatMap_cons, List.getElem?_append_right (by rw [hf, Nat.succ_mul]; omega), hf, show (k + 1) * c + j - c = k * c + j by rw [Nat.succ_mul]; omega]
      exact ih k (by simpa using h)
theorem flat_len {α : Type} {f : α → List Value} {c : Nat} (hf : ∀ x, (f x).length = c) (l : List α) : (l.flatMap f).length = l.length * c := by
  induction l with
  | nil => simp
  | cons y r ih => rw [List.flatMap_cons, List.length_append, hf, ih, List.length_cons, Nat.succ_mul]; omega

theorem addr_add (b o j : Nat) : (⟨b, o, none⟩ : Addr).add j = ⟨b, o + j, none⟩ := by
  unfold Addr.add; split <;> simp_all
theorem vals_none {w : World} {A : Option Addr} {vs : List Va} (h : ValsAt w A vs) : A = none → vs.length = 0 := by
  intro hA
  cases vs with
  | nil => rfl
  | cons x r => obtain ⟨b, o, e, _⟩ := h 0 x rfl; rw [hA] at e; cases e
theorem split4 (j : Nat) : ∃ k i, i < 4 ∧ j = k * 4 + i := ⟨j / 4, j % 4, Nat.mod_lt _ (by omega), by omega⟩
/-- the cells of a slice of values, as append reads them -/
theorem vals_cells {w : World} {A : Option Addr} {vs : List Va} (h : ValsAt w A vs) : ∀ ad, A = some ad → ∀ j u, (vs.flatMap Va.cells)[j]? = some u → w.cell? (ad.add j) = some u := by
  intro ad hA j u hj
  obtain ⟨k, i, hi, rfl⟩ := split4 j
  have hlt := (List.getElem?_eq_some_iff.1 hj).1
  rw [flat_len (c := 4) (fun _ => rfl)] at hlt
  have hk : k < vs.length := by omega
  have hg : vs[k]? = some vs[k] := List.getElem?_eq_getElem hk
  obtain ⟨b, o, e, _, hv⟩ := h k _ hg
  rw [hA] at e; injection e with e; subst e
  rw [flat_at (c := 4) (fun _ => rfl) _ _ _ hg i hi] at hj
  rw [addr_add]
  match i, hi, hj with
  | 0, _, hj => simp [Va.cells] at hj; subst hj; exact hv.c0
  | 1, _, hj => simp [Va.cells] at hj; subst hj; rw [show o + (k * 4 + 1) = o + k * 4 + 1 by omega]; exact hv.c1
  | 2, _, hj => simp [Va.cells] at hj; subst hj; rw [show o + (k * 4 + 2) = o + k * 4 + 2 by omega]; exact hv.c2
  | 3, _, hj => simp [Va.cells] at hj; subst hj; rw [show o + (k * 4 + 3) = o + k * 4 + 3 by omega]; exact hv.c3
theorem va_one {vs : List Va} : ∀ u ∈ vs.flatMap Va.cells, u.oneCell' = true := by
  intro u hu
  obtain ⟨v, _, hv⟩ := List.mem_flatMap.1 hu
  simp [Va.cells] at hv
  rcases hv with rfl | rfl | rfl | rfl <;> rfl
theorem sm_one {m : Sm} : ∀ u ∈ m.cells, u.oneCell' = true := by
  intro u hv
  simp [Sm.cells] at hv
  rcases hv with rfl | rfl | rfl | rfl | rfl <;> rfl
/-- a block of no cells -/
theorem own_empty (w : World) (e : TypeId) (size : Nat) : (w.alloc (.cells #[] e)).ownsRow w.heap.size e size (.slice (some ⟨w.heap.size, 0, none⟩) 0 0) 0 [] :=
  World.ownsRow_made w #[] 0 (Nat.le_refl _) (by simp) (by simp)
/-- the cells of a new block -/
theorem new_cells (w : World) (cs : List Value) (e : TypeId) (j : Nat) (u : Value) (h : cs[j]? = some u) : (w.alloc (.cells cs.toArray e)).cell? ((⟨w.heap.size, 0, none⟩ : Addr).add j) = some u := by
  rw [addr_add, Nat.zero_add]
  have := cell_of_row (w.alloc (.cells cs.toArray e)) w.heap.size j cs.toArray e (0, 0) (heap_alloc_new _ _)
  rw [this]; simpa using h

end Go.Proofs.YtleihhkacmgofabGreatDoor

/- Contract of the specification's Copy. -/
namespace Go.Proofs.YtleihhkacmgofabGreatDoor
open Go.RowKit

/-- what holds at the head of a round of Copy -/
structure CopyRel (w wr : World) (per : Int) (A : Option Addr) (n cap : Nat) (ms : List Sm) (k : Nat) (v : Value) (cs : List Sm) : Prop where
  below : Below w.heap.size w wr
  size : w.heap.size + 1 + 1 + 1 ≤ wr.heap.size
  b1 : wr.heap[w.heap.size]? = some (.cells #[.int .i64 per, .slice A n cap] 24 (0, 0))
  b2 : wr.heap[w.heap.size + 1]? = some (.cells #[.int .i64 0, .slice none 0 0] 24 (0, 0))
  b3 : wr.heap[w.heap.size + 1 + 1]? = some (.cells #[.int .i64 per, v] 24 (0, 0))
  own : wr.ownsRow (w.heap.size + 1 + 1 + 1) 38 5 v k (cs.flatMap Sm.cells)
  len : cs.length = k
  eqs : cs.map (·.s) = (ms.take k).map (·.s)
  ok : ∀ m ∈ cs, SmOk wr m
  apart : ∀ m ∈ cs, ∀ b o, m.A = some ⟨b, o, none⟩ → w.heap.size + 1 + 1 + 1 ≤ b ∧ v.ownBlock ≠ some b ∧ b < wr.heap.size

theorem smok_of_blocks {w w' : World} {m : Sm} (h : SmOk w m) (hs : w.heap.size ≤ w'.heap.size) (hb : ∀ b o, m.A = some ⟨b, o, none⟩ → b < w.heap.size → w'.heap[b]? = w.heap[b]?) : SmOk w' m := by
  refine ⟨fun k v hk => ?_, h.len, h.cap, h.code⟩
  obtain ⟨b, o, e, hlt, hv⟩ := h.vals k v hk
  have hc : ∀ p, w'.cell? ⟨b, p, none⟩ = w.cell? ⟨b, p, none⟩ := fun p => World.cell?_of_block (a := ⟨b, p, none⟩) (hb b o e hlt)
  exact ⟨b, o, e, by omega, ⟨(hc _).trans hv.c0, (hc _).trans hv.c1, (hc _).trans hv.c2, (hc _).trans hv.c3, hv.sz⟩⟩

theorem CopyRel.step {w wr w1 w3 : World} {per : Int} {A : Option Addr} {n cap : Nat} {ms : List Sm} {k : Nat} {v : Value} {cs : List Sm} {u : Sm} {sbox empt blk5 : Obj} {A1 A2 : Option Addr} {c1 c2 : Nat}
    (h : CopyRel w wr per A n cap ms k v cs) (hget : ms[k]? = some u) (hu : SmOk w u) 
    (own1 : w1.ownsRow (wr.heap.size + 1) 43 4 (.slice A1 u.s.vals.length c1) u.s.vals.length (u.s.vals.flatMap Va.cells))
    (hg1 : ((wr.alloc sbox).alloc empt).grownBy w1 (some (wr.heap.size + 1)))
    (own2 : w3.ownsRow (w.heap.size + 1 + 1 + 1) 38 5 (.slice A2 (k + 1) c2) (k + 1) (cs.flatMap Sm.cells ++ Sm.cells ⟨u.s, A1, c1⟩))
    (hg2 : ((w1.setCell ⟨wr.heap.size, 4, none⟩ (.slice A1 u.s.vals.length c1)).alloc blk5).grownBy w3 v.ownBlock)
    (hat : (Value.slice A2 (k + 1) c2).ownBlock = v.ownBlock ∨ (Value.slice A2 (k + 1) c2).ownBlock = some ((w1.setCell ⟨wr.heap.size, 4, none⟩ (.slice A1 u.s.vals.length c1)).alloc blk5).heap.size) :
    CopyRel w (w3.setCell ⟨w.heap.size + 1 + 1, 1, none⟩ (.slice A2 (k + 1) c2)) per A n cap ms (k + 1) (.slice A2 (k + 1) c2) (cs ++ [⟨u.s, A1, c1⟩]) := by
  have hsz := h.size
  have s1 : wr.heap.size + 1 + 1 ≤ w1.heap.size := by have := hg1.size; simpa using this
  have s2 : w1.heap.size + 1 ≤ w3.heap.size := by have := hg2.size; simpa using this
  have s3 : (w3.setCell ⟨w.heap.size + 1 + 1, 1, none⟩ (.slice A2 (k + 1) c2)).heap.size = w3.heap.size := by simp
  have hvb : ∀ g, v.ownBlock = some g → w.heap.size + 1 + 1 + 1 ≤ g ∧ g < wr.heap.size := fun g hg => h.own.lt g hg
  -- blocks of w1 that stay
  have keep1 : ∀ g, g < w1.heap.size → g ≠ wr.heap.size → v.ownBlock ≠ some g → g ≠ w.heap.size + 1 + 1 → (w3.setCell ⟨w.heap.size + 1 + 1, 1, none⟩ (.slice A2 (k + 1) c2)).heap[g]? = w1.heap[g]? := fun g h1 h2 h3 h4 => by
    rw [heap_setCell_other _ _ _ _ (by exact h4), hg2.block g (by simp; omega) (fun e => h3 e.symm), heap_alloc_other _ _ _ (by simpa using h1), heap_setCell_other _ _ _ _ (by exact h2)]
  have keep0 : ∀ g, g < wr.heap.size → v.ownBlock ≠ some g → g ≠ w.heap.size + 1 + 1 → (w3.setCell ⟨w.heap.size + 1 + 1, 1, none⟩ (.slice A2 (k + 1) c2)).heap[g]? = wr.heap[g]? := fun g h1 h3 h4 => by
    rw [keep1 g (by omega) (by omega) h3 h4, hg1.block g (by simp; omega) (by intro e; injection e with e; omega), heap_alloc_other _ _ _ (by simp; omega), heap_alloc_other _ _ _ h1]
  obtain ⟨A1', c1', e1, hc1, hc1m, hA1, hA1n⟩ := own_slice own1
  injection e1 with e1 e2 e3
  subst e1 e3
  refine ⟨?_, by rw [s3]; omega, ?_, ?_, ?_, ?_, ?_, ?_, ?_, ?_⟩
  · have b0 := ((h.below.alloc (by omega) sbox).alloc (by simp; omega) empt).grown hg1 (by simp; omega) (by intro g hg; injection hg with hg; omega)
    have b1 := (b0.setCell (p := ⟨wr.heap.size, 4, none⟩) (by dsimp only; omega) (.slice A1 u.s.vals.length c1)).alloc (by simp; omega) blk5
    exact (b1.grown hg2 (by simp; omega) (fun g hg => by have := hvb g hg; omega)).setCell (by dsimp only; omega) _
  · rw [keep0 _ (by omega) (fun e => by have := hvb _ e; omega) (by omega)]; exact h.b1
  · rw [keep0 _ (by omega) (fun e => by have := hvb _ e; omega) (by omega)]; exact h.b2
  · have hb : w3.heap[w.heap.size + 1 + 1]? = some (.cells #[.int .i64 per, v] 24 (0, 0)) := by
      rw [hg2.block _ (by simp; omega) (fun e => by have := hvb _ e.symm; omega), heap_alloc_other _ _ _ (by simp; omega), heap_setCell_other _ _ _ _ (by dsimp only; omega),
        hg1.block _ (by simp; omega) (by intro e; injection e with e; omega), heap_alloc_other _ _ _ (by simp; omega), heap_alloc_other _ _ _ (by omega)]
      exact h.b3
    rw [heap_setCell_same _ _ _ _ _ _ hb]; rfl
  · have := ownsRow_of_block (w' := w3.setCell ⟨w.heap.size + 1 + 1, 1, none⟩ (.slice A2 (k + 1) c2)) own2 (fun g hg => heap_setCell_other _ _ _ _ (by
      have := (own2.lt g hg).1; dsimp only; omega))
    simpa using this
  · simp [h.len]
  · obtain ⟨hk, e⟩ := List.getElem?_eq_some_iff.1 hget
    rw [List.map_append, h.eqs, List.take_succ_eq_append_getElem hk, List.map_append, e]; rfl
  · intro m hm
    rcases List.mem_append.1 hm with hm | hm
    · exact smok_of_blocks (h.ok m hm) (by rw [s3]; omega) (fun b o e hb => keep0 b hb (h.apart m hm b o e).2.1 (by have := (h.apart m hm b o e).1; omega))
    · simp at hm; subst hm
      refine ⟨fun j x hj => ?_, hc1, hc1m, hu.code⟩
      have hj' : j < u.s.vals.length := (List.getElem?_eq_some_iff.1 hj).1
      cases hA : A1 with
      | none => have := hA1n hA; omega
      | some ad =>
        obtain ⟨g, rfl, hg0, hg1', hcell⟩ := hA1 ad hA
        obtain ⟨_, _, _, _, hx⟩ := hu.vals j x hj
        have hk1 := keep1 g hg1' (by omega) (fun e => by have := (hvb g e).2; omega) (by omega)
        have hc : ∀ p, (w3.setCell ⟨w.heap.size + 1 + 1, 1, none⟩ (.slice A2 (k + 1) c2)).cell? ⟨g, p, none⟩ = w1.cell? ⟨g, p, none⟩ := fun p => World.cell?_of_block (a := ⟨g, p, none⟩) hk1
        have ha : ∀ i, i < 4 → w1.cell? ⟨g, j * 4 + i, none⟩ = (Va.cells x)[i]? := fun i hi => by
          have hi' : i < (Va.cells x).length := hi
          rw [hcell (j * 4 + i) ((Va.cells x)[i]) (by rw [flat_at (c := 4) (fun _ => rfl) _ _ _ hj i hi]; exact List.getElem?_eq_getElem hi'), List.getElem?_eq_getElem hi']
        refine ⟨g, 0, rfl, by rw [s3]; omega, ⟨?_, ?_, ?_, ?_, hx.sz⟩⟩
        · rw [Nat.zero_add, hc]; exact ha 0 (by omega)
        · rw [Nat.zero_add, hc]; exact ha 1 (by omega)
        · rw [Nat.zero_add, hc]; exact ha 2 (by omega)
        · rw [Nat.zero_add, hc]; exact ha 3 (by omega)
  · intro m hm b o e
    rcases List.mem_append.1 hm with hm | hm
    · have := h.apart m hm b o e
      refine ⟨this.1, ?_, by rw [s3]; omega⟩
      rcases hat with ha | ha
      · rw [ha]; exact this.2.1
      · rw [ha]
        intro e'; injection e' with e'
        simp at e'; omega
    · simp at hm; subst hm
      dsimp only at e
      obtain ⟨g, eg, hg0, hg1', _⟩ := hA1 _ e
      injection eg with eg _
      subst eg
      refine ⟨by omega, ?_, by rw [s3]; omega⟩
      rcases hat with ha | ha
      · rw [ha]; intro e'; have := (hvb _ e').2; omega
      · rw [ha]; intro e'; injection e' with e'; simp at e'; omega

theorem sm_cells_at {w : World} {g : Nat} {cs : List Sm} (hcell : ∀ j u, (cs.flatMap Sm.cells)[j]? = some u → w.cell? ⟨g, j, none⟩ = some u) {k : Nat} {m : Sm} (hk : cs[k]? = some m) : SmAt w g (0 + k * 5) m := by
  have ha : ∀ i, i < 5 → w.cell? ⟨g, k * 5 + i, none⟩ = (Sm.cells m)[i]? := fun i hi => by
    have hi' : i < (Sm.cells m).length := hi
    rw [hcell (k * 5 + i) ((Sm.cells m)[i]) (by rw [flat_at (c := 5) (fun _ => rfl) _ _ _ hk i hi]; exact List.getElem?_eq_getElem hi'), List.getElem?_eq_getElem hi']
  rw [Nat.zero_add]
  exact ⟨ha 0 (by omega), ha 1 (by omega), ha 2 (by omega), ha 3 (by omega), ha 4 (by omega)⟩

theorem CopyRel.done {w wr : World} {per : Int} {A A' : Option Addr} {n cap cap' : Nat} {ms : List Sm} {cs : List Sm} (h : CopyRel w wr per A n cap ms n (.slice A' n cap') cs) (hn : n = ms.length) (x y : Value) :
    LmOk ((wr.setCell ⟨w.heap.size + 1, 0, none⟩ x).setCell ⟨w.heap.size + 1, 1, none⟩ y) ⟨per, cs, A', cap'⟩ ∧ (Lm.mk per cs A' cap').li = ⟨per, ms.map (·.s)⟩ ∧
    Below w.heap.size w ((wr.setCell ⟨w.heap.size + 1, 0, none⟩ x).setCell ⟨w.heap.size + 1, 1, none⟩ y) := by
  have hsz := h.size
  have hkeep : ∀ g, g ≠ w.heap.size + 1 → ((wr.setCell ⟨w.heap.size + 1, 0, none⟩ x).setCell ⟨w.heap.size + 1, 1, none⟩ y).heap[g]? = wr.heap[g]? := fun g hg => by
    rw [heap_setCell_other _ _ _ _ hg, heap_setCell_other _ _ _ _ hg]
  have hs4 : ((wr.setCell ⟨w.heap.size + 1, 0, none⟩ x).setCell ⟨w.heap.size + 1, 1, none⟩ y).heap.size = wr.heap.size := by simp
  obtain ⟨A1, c1, e1, hc1, hc1m, hA1, hA1n⟩ := own_slice h.own
  injection e1 with e1 e2 e3
  subst e1 e3
  refine ⟨⟨fun k m hk => ?_, by dsimp only; rw [h.len]; exact hc1, hc1m⟩, ?_, (h.below.setCell (by dsimp only; omega) _).setCell (by dsimp only; omega) _⟩
  · dsimp only at hk ⊢
    have hk' : k < cs.length := (List.getElem?_eq_some_iff.1 hk).1
    cases hA : A' with
    | none => have := hA1n hA; have := h.len; omega
    | some ad =>
      obtain ⟨g, rfl, hg0, hg1, hcell⟩ := hA1 ad hA
      have hc : ∀ p, ((wr.setCell ⟨w.heap.size + 1, 0, none⟩ x).setCell ⟨w.heap.size + 1, 1, none⟩ y).cell? ⟨g, p, none⟩ = wr.cell? ⟨g, p, none⟩ := fun p => World.cell?_of_block (a := ⟨g, p, none⟩) (hkeep g (by omega))
      have hm := List.mem_of_getElem? hk
      refine ⟨g, 0, rfl, by rw [hs4]; exact hg1, sm_cells_at (fun j u hj => (hc j).trans (hcell j u hj)) hk, smok_of_blocks (h.ok m hm) (by rw [hs4]; omega) (fun b o e _ => hkeep b (by have := (h.apart m hm b o e).1; omega))⟩
  · simp only [Lm.li, Lm.signs]
    rw [h.eqs, hn, List.take_length]

/-- signs in a row that the call made itself, apart from their values -/
structure OwnSigns (w : World) (base : Nat) (A : Option Addr) (c : Nat) (ms : List Sm) : Prop where
  own : w.ownsRow base 38 5 (.slice A ms.length c) ms.length (ms.flatMap Sm.cells)
  ok : ∀ m ∈ ms, SmOk w m
  apart : ∀ m ∈ ms, 0 < m.s.vals.length → ∀ b o, m.A = some ⟨b, o, none⟩ → (Value.slice A ms.length c).ownBlock ≠ some b

theorem OwnSigns.lm {w : World} {base : Nat} {A : Option Addr} {c : Nat} {ms : List Sm} (h : OwnSigns w base A c ms) (per : Int) : LmOk w ⟨per, ms, A, c⟩ := by
  obtain ⟨A1, c1, e1, hc1, hc1m, hA1, hA1n⟩ := own_slice h.own
  injection e1 with e1 e2 e3
  subst e1 e3
  refine ⟨fun k m hk => ?_, hc1, hc1m⟩
  dsimp only at hk ⊢
  have hk' : k < ms.length := (List.getElem?_eq_some_iff.1 hk).1
  cases hA : A with
  | none => have := hA1n hA; omega
  | some ad =>
    obtain ⟨g, rfl, hg0, hg1, hcell⟩ := hA1 ad hA
    exact ⟨g, 0, rfl, hg1, sm_cells_at hcell hk, h.ok m (List.mem_of_getElem? hk)⟩
theorem OwnSigns.below {w w' : World} {base : Nat} {A : Option Addr} {c : Nat} {ms : List Sm} (h : OwnSigns w base A c ms) (hb : Below w.heap.size w w') : OwnSigns w' base A c ms :=
  ⟨ownsRow_of_block h.own (fun g hg => hb.block g (h.own.lt g hg).2), fun m hm => (h.ok m hm).below hb, h.apart⟩

/-- a list that was made, in memory of the call's own -/
def GotListO (w : World) (li : Li) (e : Ending) (w' : World) : Prop := ∃ L : Lm, e = .returned L.val ∧ OwnSigns w' w.heap.size L.A L.cap L.ms ∧ L.li = li ∧ Below w.heap.size w w' ∧ ∀ m ∈ L.ms, ∀ b o, m.A = some ⟨b, o, none⟩ → w.heap.size ≤ b
/-- a list that was made -/
def GotList (w : World) (li : Li) (e : Ending) (w' : World) : Prop := ∃ L : Lm, e = .returned L.val ∧ LmOk w' L ∧ L.li = li ∧ Below w.heap.size w w'
theorem GotListO.got {w : World} {li : Li} {e : Ending} {w' : World} (h : GotListO w li e w') : GotList w li e w' := by
  obtain ⟨L, h1, h2, h3, h4, _⟩ := h
  exact ⟨L, h1, h2.lm L.per, h3, h4⟩

theorem CopyRel.own' {w wr : World} {per : Int} {A A' : Option Addr} {n cap cap' : Nat} {ms : List Sm} {cs : List Sm} (h : CopyRel w wr per A n cap ms n (.slice A' n cap') cs) (x y : Value) :
    OwnSigns ((wr.setCell ⟨w.heap.size + 1, 0, none⟩ x).setCell ⟨w.heap.size + 1, 1, none⟩ y) w.heap.size A' cap' cs := by
  have hsz := h.size
  have hkeep : ∀ g, g ≠ w.heap.size + 1 → ((wr.setCell ⟨w.heap.size + 1, 0, none⟩ x).setCell ⟨w.heap.size + 1, 1, none⟩ y).heap[g]? = wr.heap[g]? := fun g hg => by
    rw [heap_setCell_other _ _ _ _ hg, heap_setCell_other _ _ _ _ hg]
  have hs4 : ((wr.setCell ⟨w.heap.size + 1, 0, none⟩ x).setCell ⟨w.heap.size + 1, 1, none⟩ y).heap.size = wr.heap.size := by simp
  have hl := h.len
  refine ⟨?_, fun m hm => smok_of_blocks (h.ok m hm) (by rw [hs4]; omega) (fun b o e _ => hkeep b (by have := (h.apart m hm b o e).1; omega)), fun m hm _ b o e => by have := (h.apart m hm b o e).2.1; rw [hl]; exact this⟩
  rw [hl]
  have h1 := ownsRow_of_block (w' := ((wr.setCell ⟨w.heap.size + 1, 0, none⟩ x).setCell ⟨w.heap.size + 1, 1, none⟩ y)) h.own (fun g hg => hkeep g (by have := (h.own.lt g hg).1; omega))
  refine ⟨h1.1, ?_⟩
  rcases h1.2 with h2 | ⟨g, cap, cur, h2, h3, h4⟩
  · exact .inl h2
  · exact .inr ⟨g, cap, cur, h2, by omega, h4⟩

set_option maxHeartbeats 3200000 in
set_option maxRecDepth 100000 in
theorem copyO_any (l : Lm) (w : World) (hl : LmOk w l) (hsm : l.ms.length ≤ 1000000) (hvm : ∀ m ∈ l.ms, m.s.vals.length ≤ 1000000) :
    Calls Tryz.prog 8 #[l.val] w (GotListO w l.li) := by
  have hs := hl.signs
  obtain ⟨per, ms, A, cap⟩ := l
  obtain ⟨-, hlen, hcap⟩ := hl
  dsimp only at hs hlen hcap hsm hvm
  unfold Lm.val Lm.li Lm.signs
  dsimp only
  obtain ⟨n, hn⟩ : ∃ n, n = ms.length := ⟨_, rfl⟩
  rw [← hn] at hlen hsm ⊢
  have hcap' := hcap
  unfold maxLen at hcap'
  have HN := Lib.hid hn
  clear hn
  obtain ⟨iv, hiv, hzv, hsv, hbv⟩ := info_hid infoVa
  obtain ⟨is, his, hzs, hss, hbs⟩ := info_hid infoSg
  go_enter Tryz.func8, Tryz.ntmps8
  go_wp2
  go_loopw [4] (fun i wr => ∃ k : Nat, k ≤ n ∧ i = .int .i64 k ∧ Hid (∃ v cs, CopyRel w wr per A n cap ms k v cs)) (fun i _ => n - (intOf i).toNat)
  case atStart =>
    refine ⟨0, Nat.zero_le _, rfl, Lib.hid ⟨.slice none 0 0, [], ?_⟩⟩
    refine ⟨((((Below.refl _ _).alloc (Nat.le_refl _) _).alloc (by simp) _).alloc (by simp; omega) _), by simp, ?_, ?_, ?_, World.ownsRow_nil _ _ _ _, rfl, by simp, by simp, by simp⟩
    · rw [heap_alloc_other _ _ _ (by simp; omega), heap_alloc_other _ _ _ (by simp)]; exact heap_alloc_new _ _
    · rw [heap_alloc_other _ _ _ (by simp)]; have := heap_alloc_new (w.alloc (.cells #[.int .i64 per, .slice A n cap] 24)) (.cells #[.int .i64 0, .slice none 0 0] 24); simpa using this
    · have := heap_alloc_new ((w.alloc (.cells #[.int .i64 per, .slice A n cap] 24)).alloc (.cells #[.int .i64 0, .slice none 0 0] 24)) (.cells #[.int .i64 per, .slice none 0 0] 24); simpa using this
  case round =>
    obtain ⟨k, hk, rfl, hrl⟩ := hrel
    obtain ⟨v, cs, hr⟩ := hrl.out
    have x0 : wr.cell? ⟨w.heap.size, 1, none⟩ = some (.slice A n cap) := cell_of_blk hr.b1 1
    by_cases hlt : k < n
    · have hget : ms[k]? = some (ms[k]'(by have := HN.out; omega)) := List.getElem?_eq_getElem _
      obtain ⟨u, hu⟩ : ∃ u, u = ms[k]'(by have := HN.out; omega) := ⟨_, rfl⟩
      rw [← hu] at hget
      obtain ⟨b, o, hA, hb1, hva, hok⟩ := hs k u hget
      have GET := Lib.hid hget
      have hum := hvm u (List.mem_of_getElem? hget)
      subst hA
      obtain ⟨y0, y1, y2, y3, y4⟩ := hva.below hr.below hb1
      have hsz := hr.size
      have hsb : b < wr.heap.size := by omega
      have HR := Lib.hid hr
      have HOK := Lib.hid hok
      have HUM := Lib.hid hum
      have HSM := Lib.hid hsm
      clear hu hget hva hs hvm hr hok hum hsm hrl
      have hVW := Lib.hid (fun o1 o2 => (((HOK.out.vals.below HR.out.below).below (below_alloc wr o1)).below (below_alloc (wr.alloc o1) o2)))
      go_wp2_with (first
        | (at_builtin; refine wpList_append_src _ rfl (.tmp 21) (.tmp 23) 34 rfl (wr.heap.size + 1) 43 iv (.agg #[.int .i64 0, .string ⟨#[]⟩, .int .i64 0, .int .i64 0]) 4 40 Tryz.underlying34 hiv.out hzv.out hsv.out hbv.out rfl (by decide) (.slice (some ⟨wr.heap.size + 1, 0, none⟩) 0 0) 0 [] rfl ?own1 u.A u.s.vals.length u.cap (u.s.vals.flatMap Va.cells) rfl ?l1 ?n1 ?c1 va_one ?m1 ?b1 ?s1 u.s.vals.length (Nat.zero_add _).symm ?_))
      case own1 => simpa using own_empty (wr.alloc (.cells #[.string u.s.code, .int .i64 u.s.wide, .int .i64 u.s.high, .bool u.s.even, .slice u.A u.s.vals.length u.cap] 38)) 43 4
      case l1 => exact flat_len (f := Va.cells) (fun _ => rfl) _
      case n1 => exact vals_none HOK.out.vals
      case c1 => exact vals_cells (hVW.out _ _)
      case m1 => have := HUM.out; unfold maxLen; omega
      case b1 => have := HUM.out; omega
      case s1 => simp
      · intro A1 c1 w1 own1 hg1 _
        obtain ⟨sbox, hsbox⟩ : ∃ x, x = Obj.cells #[.string u.s.code, .int .i64 u.s.wide, .int .i64 u.s.high, .bool u.s.even, .slice u.A u.s.vals.length u.cap] 38 := ⟨_, rfl⟩
        rw [← hsbox] at hg1
        have hg1 : ((wr.alloc sbox).alloc (.cells #[] 43)).grownBy w1 (some (wr.heap.size + 1)) := hg1
        have s1 : wr.heap.size + 1 + 1 ≤ w1.heap.size := by have := hg1.size; simpa using this
        have kb : w1.heap[wr.heap.size]? = some (.cells #[.string u.s.code, .int .i64 u.s.wide, .int .i64 u.s.high, .bool u.s.even, .slice u.A u.s.vals.length u.cap] 38 (0, 0)) := by
          rw [hg1.block _ (by simp; omega) (by intro e; injection e with e; omega), heap_alloc_other _ _ _ (by simp), hsbox]; exact heap_alloc_new _ _
        have k3 : w1.heap[w.heap.size + 1 + 1]? = some (.cells #[.int .i64 per, v] 24 (0, 0)) := by
          rw [hg1.block _ (by simp; omega) (by intro e; injection e with e; omega), heap_alloc_other _ _ _ (by simp; omega), heap_alloc_other _ _ _ (by omega)]; exact HR.out.b3
        have q0 := cell_of_blk kb 0
        have q1 := cell_of_blk kb 1
        have q2 := cell_of_blk kb 2
        have q3 := cell_of_blk kb 3
        have q4 := cell_of_blk kb 4
        have q5 := free_of_blk kb 4
        have z1 := cell_of_blk k3 1
        have hne1 : w.heap.size + 1 + 1 ≠ wr.heap.size := by omega
        have hne2 : wr.heap.size ≠ w.heap.size + 1 + 1 := by omega
        have hlt2 : wr.heap.size < w1.heap.size := by omega
        have hlt3 : w.heap.size + 1 + 1 < w1.heap.size := by omega
        have OWN1 := Lib.hid own1
        have HG1 := Lib.hid hg1
        have K3 := Lib.hid k3
        have S1 := Lib.hid s1
        clear own1 hg1 kb k3 hsbox s1
        simp at q0 q1 q2 q3 q4 z1
        go_wp2_with (first
          | (at_builtin; refine wpList_append_src _ rfl (.tmp 27) (.tmp 29) 22 rfl (w.heap.size + 1 + 1 + 1) 38 is (.agg #[.string ⟨#[]⟩, .int .i64 0, .int .i64 0, .bool false, .slice none 0 0]) 5 64 Tryz.underlying22 his.out hzs.out hss.out hbs.out rfl (by decide) v k (cs.flatMap Sm.cells) rfl ?own2 (some ⟨w1.heap.size, 0, none⟩) 1 1 (Sm.cells ⟨u.s, A1, c1⟩) rfl ?l2 ?n2 ?c2 sm_one ?m2 ?b2 ?s2 (k + 1) rfl ?_))
        case own2 => exact ownsRow_of_block HR.out.own (fun g hg => by
          have := HR.out.own.lt g hg
          rw [heap_alloc_other _ _ _ (by have := S1.out; simp; omega), heap_setCell_other _ _ _ _ (by dsimp only; omega), HG1.out.block g (by simp; omega) (by intro e; injection e with e; omega), heap_alloc_other _ _ _ (by simp; omega), heap_alloc_other _ _ _ (by omega)])
        case l2 => rfl
        case n2 => intro h; cases h
        case c2 =>
          intro ad had j u' hj
          injection had with had
          subst had
          have := new_cells (w1.setCell ⟨wr.heap.size, 4, none⟩ (.slice A1 u.s.vals.length c1)) (Sm.cells ⟨u.s, A1, c1⟩) 38 j u' hj
          simpa [Sm.cells] using this
        case m2 => have := HSM.out; unfold maxLen; omega
        case b2 => have := HSM.out; omega
        case s2 => have := S1.out; simp; omega
        · intro A2 c2 w3 own2 hg2 hat
          have k3 : w3.heap[w.heap.size + 1 + 1]? = some (.cells #[.int .i64 per, v] 24 (0, 0)) := by
            rw [hg2.block _ (by have := S1.out; simp; omega) (fun e => by have := (HR.out.own.lt _ e.symm).1; omega), heap_alloc_other _ _ _ (by have := S1.out; simp; omega), heap_setCell_other _ _ _ _ (by dsimp only; omega)]; exact K3.out
          have p1 := cell_of_blk k3 1
          have p2 := free_of_blk k3 1
          simp at p1
          have STEP := Lib.hid (CopyRel.step HR.out GET.out HOK.out OWN1.out HG1.out own2 hg2 (by simpa using hat))
          clear own2 hg2 hat k3 q0 q1 q2 q3 q4 q5 z1 y0 y1 y2 y3 y4 x0
          go_wp2
          go_roundw
          case rel => exact ⟨k + 1, by omega, by go_num, Lib.hid ⟨_, _, STEP.out⟩⟩
          case measure => simp [intOf]; omega
    · obtain rfl : k = n := by omega
      have m0 := cell_of_blk hr.b3 0
      have m1 := cell_of_blk hr.b3 1
      have r0 := cell_of_blk hr.b2 0
      have r1 := cell_of_blk hr.b2 1
      have f0 := free_of_blk hr.b2 0
      have f1 := free_of_blk hr.b2 1
      simp at m0 m1 r0 r1
      have HR := Lib.hid hr
      obtain ⟨A', cap', hv', -, -, -, -⟩ := own_slice hr.own
      subst hv'
      clear hr hrl
      have HD := Lib.hid (CopyRel.done HR.out HN.out (.int .i64 per) (.slice A' k cap'))
      have HL := Lib.hid HR.out.len
      have HO := Lib.hid (CopyRel.own' HR.out (.int .i64 per) (.slice A' k cap'))
      have HLW := Lib.hid (fun m (hm : m ∈ cs) b o e => show w.heap.size ≤ b by have := (HR.out.apart m hm b o e).1; omega)
      go_wp2
      refine bodyPost_ret (v := .agg #[.int .i64 per, .slice A' k cap']) (by simp [results, Tryz.results8, go_sem, r0, r1]) rfl ⟨⟨per, cs, A', cap'⟩, ?_, HO.out, HD.out.2.1, HD.out.2.2, HLW.out⟩
      unfold Lm.val; dsimp only; rw [HL.out]
theorem copy_any (l : Lm) (w : World) (hl : LmOk w l) (hsm : l.ms.length ≤ 1000000) (hvm : ∀ m ∈ l.ms, m.s.vals.length ≤ 1000000) : Calls Tryz.prog 8 #[l.val] w (GotList w l.li) :=
  (copyO_any l w hl hsm hvm).mono fun _ _ h => h.got

end Go.Proofs.YtleihhkacmgofabGreatDoor

/- Tidy, plain: values merged to longest stretches of periods; two ways to do so, which give the same list. No program is imported here. -/
namespace Go.Proofs.YtleihhkacmgofabGreatDoor

/-- bytes in lexical order -/
def bl (a b : List UInt8) : Bool := Op.bytesLess a b
theorem bl_irr : ∀ a, bl a a = false
  | [] => rfl
  | x :: a => by
    have := bl_irr a
    unfold bl at this ⊢
    simp [Op.bytesLess, this]
theorem bl_trans : ∀ a b c, bl a b = true → bl b c = true → bl a c = true
  | _, [], _, h, _ => by unfold bl at h; cases ‹List UInt8› <;> simp [Op.bytesLess] at h
  | _, _ :: _, [], _, h => by unfold bl at h; simp [Op.bytesLess] at h
  | [], _ :: _, _ :: _, _, _ => by unfold bl; rfl
  | x :: a, y :: b, z :: c, h1, h2 => by
    have ih := bl_trans a b c
    unfold bl at *
    simp only [Op.bytesLess, Bool.or_eq_true, decide_eq_true_eq, Bool.and_eq_true, beq_iff_eq] at *
    rcases h1 with h1 | ⟨rfl, h1⟩
    · rcases h2 with h2 | ⟨rfl, h2⟩
      · exact .inl (UInt8.lt_trans h1 h2)
      · exact .inl h1
    · rcases h2 with h2 | ⟨rfl, h2⟩
      · exact .inl h2
      · exact .inr ⟨rfl, ih h1 h2⟩
theorem bl_total : ∀ a b, bl a b = false → bl b a = false → a = b
  | [], [], _, _ => rfl
  | [], _ :: _, h, _ => by unfold bl at h; simp [Op.bytesLess] at h
  | _ :: _, [], _, h => by unfold bl at h; simp [Op.bytesLess] at h
  | x :: a, y :: b, h1, h2 => by
    have ih := bl_total a b
    unfold bl at *
    simp only [Op.bytesLess, Bool.or_eq_false_iff, decide_eq_false_iff_not, Bool.and_eq_false_iff, beq_eq_false_iff_ne] at *
    have hxy : x = y := by
      have h3 := h1.1
      have h4 := h2.1
      rw [UInt8.lt_iff_toNat_lt] at h3 h4
      exact UInt8.toNat_inj.1 (by omega)
    subst hxy
    rw [ih (h1.2.resolve_left (by simp)) (h2.2.resolve_left (by simp))]

/-- the bytes of a text, as the walk spells them -/
def txt (v : Va) : List UInt8 := v.text.toList
theorem txt_inj {a b : Va} (h : txt a = txt b) : a.text = b.text := by
  unfold txt at h
  rw [ByteArray.toList_eq, ByteArray.toList_eq] at h
  have : a.text.data = b.text.data := Array.toList_inj.1 h
  cases ha : a.text; cases hb : b.text; rw [ha, hb] at this; dsimp only at this; rw [this]
theorem strEq_txt (a b : Va) : strEq a.text b.text = true ↔ a.text = b.text := by
  unfold strEq
  rw [beq_iff_eq]
  exact ⟨fun h => txt_inj h, fun h => by rw [h]⟩

/-- two values have one meaning -/
def meq (a b : Va) : Bool := a.kind == b.kind && strEq a.text b.text
theorem meq_iff (a b : Va) : meq a b = true ↔ a.kind = b.kind ∧ a.text = b.text := by
  unfold meq; rw [Bool.and_eq_true, beq_iff_eq, strEq_txt]
/-- the meaning of a value comes before that of another one -/
def mlt (a b : Va) : Bool := decide (a.kind < b.kind) || (a.kind == b.kind && bl (txt a) (txt b))
/-- a value comes before another one: by kind, text and first period -/
def vlt (a b : Va) : Bool := if a.kind = b.kind then (if txt a = txt b then decide (a.fr < b.fr) else bl (txt a) (txt b)) else decide (a.kind < b.kind)

theorem mlt_trans {a b c : Va} (h1 : mlt a b = true) (h2 : mlt b c = true) : mlt a c = true := by
  unfold mlt at *
  simp only [Bool.or_eq_true, decide_eq_true_eq, Bool.and_eq_true, beq_iff_eq] at *
  rcases h1 with h1 | ⟨e1, h1⟩ <;> rcases h2 with h2 | ⟨e2, h2⟩
  · exact .inl (by omega)
  · exact .inl (by omega)
  · exact .inl (by omega)
  · exact .inr ⟨by omega, bl_trans _ _ _ h1 h2⟩
theorem mlt_irr (a : Va) : mlt a a = false := by unfold mlt; simp [bl_irr]
theorem mlt_meq {a b c : Va} (h : meq a b = true) : mlt a c = mlt b c ∧ mlt c a = mlt c b := by
  rw [meq_iff] at h
  unfold mlt txt
  rw [h.1, h.2]
  exact ⟨rfl, rfl⟩
theorem meq_symm {a b : Va} (h : meq a b = true) : meq b a = true := by rw [meq_iff] at *; exact ⟨h.1.symm, h.2.symm⟩
theorem meq_refl (a : Va) : meq a a = true := by rw [meq_iff]; exact ⟨rfl, rfl⟩
theorem meq_trans {a b c : Va} (h : meq a b = true) (h' : meq b c = true) : meq a c = true := by rw [meq_iff] at *; exact ⟨h.1.trans h'.1, h.2.trans h'.2⟩
/-- of two meanings one comes before the other, or they are one -/
theorem m_three (a b : Va) : mlt a b = true ∨ meq a b = true ∨ mlt b a = true := by
  by_cases hk : a.kind = b.kind
  · by_cases h1 : bl (txt a) (txt b) = true
    · exact .inl (by unfold mlt; simp [hk, h1])
    · by_cases h2 : bl (txt b) (txt a) = true
      · exact .inr (.inr (by unfold mlt; simp [hk, h2]))
      · exact .inr (.inl ((meq_iff a b).2 ⟨hk, txt_inj (bl_total _ _ (by simpa using h1) (by simpa using h2))⟩))
  · rcases Int.lt_or_lt_of_ne hk with h | h
    · exact .inl (by unfold mlt; simp [h])
    · exact .inr (.inr (by unfold mlt; simp [h]))
theorem mlt_not_meq {a b : Va} (h : mlt a b = true) : meq a b = false := by
  cases h2 : meq a b
  · rfl
  · rw [(mlt_meq h2).1, mlt_irr] at h; cases h
theorem mlt_asym {a b : Va} (h : mlt a b = true) : mlt b a = false := by
  cases h2 : mlt b a
  · rfl
  · have := mlt_trans h h2; rw [mlt_irr] at this; cases this
theorem vlt_iff (a b : Va) : vlt a b = true ↔ mlt a b = true ∨ (meq a b = true ∧ a.fr < b.fr) := by
  unfold vlt mlt
  rw [meq_iff]
  by_cases hk : a.kind = b.kind
  · by_cases ht : txt a = txt b
    · rw [if_pos hk, if_pos ht]
      simp [hk, ht, bl_irr, txt_inj ht]
    · rw [if_pos hk, if_neg ht]
      have : a.text ≠ b.text := fun e => ht (by unfold txt; rw [e])
      simp [hk, this]
  · rw [if_neg hk]
    simp [hk]
theorem vlt_irr (a : Va) : vlt a a = false := by
  cases h : vlt a a
  · rfl
  · rw [vlt_iff] at h
    rcases h with h | h
    · rw [mlt_irr] at h; cases h
    · omega
theorem vlt_trans {a b c : Va} (h1 : vlt a b = true) (h2 : vlt b c = true) : vlt a c = true := by
  rw [vlt_iff] at *
  rcases h1 with h1 | ⟨e1, h1⟩ <;> rcases h2 with h2 | ⟨e2, h2⟩
  · exact .inl (mlt_trans h1 h2)
  · exact .inl ((mlt_meq e2).2.symm.trans h1)
  · exact .inl ((mlt_meq e1).1.trans h2)
  · exact .inr ⟨meq_trans e1 e2, by omega⟩
/-- neither comes before the other: one meaning, one first period -/
theorem vlt_tie {a b : Va} (h1 : vlt a b = false) (h2 : vlt b a = false) : meq a b = true ∧ a.fr = b.fr := by
  have n1 : ¬ vlt a b = true := by rw [h1]; simp
  have n2 : ¬ vlt b a = true := by rw [h2]; simp
  rw [vlt_iff] at n1 n2
  rcases m_three a b with h | h | h
  · exact absurd (.inl h) n1
  · exact ⟨h, by
      have a1 : ¬ a.fr < b.fr := fun e => n1 (.inr ⟨h, e⟩)
      have a2 : ¬ b.fr < a.fr := fun e => n2 (.inr ⟨meq_symm h, e⟩)
      omega⟩
  · exact absurd (.inl h) n2
/-- what is not before: the other meaning is not later, and within one meaning not later -/
theorem not_vlt {a b : Va} (h : vlt b a = false) : mlt a b = true ∨ (meq a b = true ∧ a.fr ≤ b.fr) := by
  have n : ¬ vlt b a = true := by rw [h]; simp
  rw [vlt_iff] at n
  rcases m_three a b with h | h | h
  · exact .inl h
  · exact .inr ⟨h, by
      have : ¬ b.fr < a.fr := fun e => n (.inr ⟨meq_symm h, e⟩)
      omega⟩
  · exact absurd (.inl h) n

/-- one value covers a period of a meaning; a list does -/
def covV (v : Va) (m : Va) (p : Int) : Prop := meq v m = true ∧ v.fr ≤ p ∧ p ≤ v.to
def cov (l : List Va) (m : Va) (p : Int) : Prop := ∃ v ∈ l, covV v m p
theorem cov_nil (m : Va) (p : Int) : ¬ cov [] m p := fun ⟨_, h, _⟩ => by cases h
theorem cov_append (a b : List Va) (m : Va) (p : Int) : cov (a ++ b) m p ↔ cov a m p ∨ cov b m p := by
  constructor
  · rintro ⟨v, h, hc⟩
    rcases List.mem_append.1 h with h | h
    · exact .inl ⟨v, h, hc⟩
    · exact .inr ⟨v, h, hc⟩
  · rintro (⟨v, h, hc⟩ | ⟨v, h, hc⟩)
    · exact ⟨v, List.mem_append_left _ h, hc⟩
    · exact ⟨v, List.mem_append_right _ h, hc⟩
theorem cov_cons (v : Va) (b : List Va) (m : Va) (p : Int) : cov (v :: b) m p ↔ covV v m p ∨ cov b m p := by
  rw [show v :: b = [v] ++ b from rfl, cov_append]
  constructor
  · rintro (⟨x, h, hc⟩ | h)
    · simp at h; subst h; exact .inl hc
    · exact .inr h
  · rintro (h | h)
    · exact .inl ⟨v, by simp, h⟩
    · exact .inr h

/-- a value lies before another one, with a gap if both have one meaning -/
def gap (a b : Va) : Prop := mlt a b = true ∨ (meq a b = true ∧ a.to + 1 < b.fr)
/-- longest stretches in order -/
def canon (l : List Va) : Prop := l.Pairwise gap ∧ ∀ v ∈ l, v.fr ≤ v.to

theorem canon_cons {a : Va} {l : List Va} (h : canon (a :: l)) : canon l ∧ (∀ b ∈ l, gap a b) ∧ a.fr ≤ a.to :=
  ⟨⟨(List.pairwise_cons.1 h.1).2, fun v hv => h.2 v (List.mem_cons_of_mem _ hv)⟩, (List.pairwise_cons.1 h.1).1, h.2 a (by simp)⟩

/-- what the rest covers lies behind the first one -/
theorem canon_rest {a : Va} {l : List Va} (h : canon (a :: l)) {m : Va} {p : Int} (hc : cov l m p) : mlt a m = true ∨ (meq a m = true ∧ a.to + 1 < p) := by
  obtain ⟨v, hv, h1, h2, h3⟩ := hc
  rcases (canon_cons h).2.1 v hv with hg | ⟨hg, hg2⟩
  · exact .inl ((mlt_meq h1).2.symm.trans hg)
  · exact .inr ⟨meq_trans hg h1, by omega⟩

theorem Va.ext' {a b : Va} (h1 : meq a b = true) (h2 : a.fr = b.fr) (h3 : a.to = b.to) : a = b := by
  rw [meq_iff] at h1
  obtain ⟨k, t, f, u⟩ := a
  obtain ⟨k2, t2, f2, u2⟩ := b
  obtain ⟨h4, h5⟩ := h1
  dsimp only at *
  subst h2 h3 h4 h5
  rfl

/-- Two lists of longest stretches that cover the same are equal. -/
theorem canon_eq : ∀ (a b : List Va), canon a → canon b → (∀ m p, cov a m p ↔ cov b m p) → a = b
  | [], [], _, _, _ => rfl
  | [], y :: b, _, hb, h => absurd ((h y y.fr).2 ((cov_cons _ _ _ _).2 (.inl ⟨meq_refl y, by omega, (canon_cons hb).2.2⟩))) (cov_nil _ _)
  | x :: a, [], ha, _, h => absurd ((h x x.fr).1 ((cov_cons _ _ _ _).2 (.inl ⟨meq_refl x, by omega, (canon_cons ha).2.2⟩))) (cov_nil _ _)
  | x :: a, y :: b, ha, hb, h => by
    have hx := (canon_cons ha).2.2
    have hy := (canon_cons hb).2.2
    have c1 := (h x x.fr).1 ((cov_cons _ _ _ _).2 (.inl ⟨meq_refl x, by omega, hx⟩))
    have c2 := (h y y.fr).2 ((cov_cons _ _ _ _).2 (.inl ⟨meq_refl y, by omega, hy⟩))
    have hm : meq x y = true ∧ x.fr = y.fr := by
      rw [cov_cons] at c1 c2
      rcases c1 with ⟨e1, l1, _⟩ | c1
      · rcases c2 with ⟨e2, l2, _⟩ | c2
        · exact ⟨e2, by omega⟩
        · rcases canon_rest ha c2 with h1 | ⟨_, h1⟩
          · rw [(mlt_meq (meq_symm e1)).1, mlt_irr] at h1; cases h1
          · omega
      · rcases canon_rest hb c1 with h1 | ⟨h1, h1'⟩
        · rcases c2 with ⟨e2, _, _⟩ | c2
          · rw [(mlt_meq e2).2, mlt_irr] at h1; cases h1
          · rcases canon_rest ha c2 with h2 | ⟨h2, _⟩
            · rw [mlt_asym h1] at h2; cases h2
            · rw [(mlt_meq h2).2, mlt_irr] at h1; cases h1
        · rcases c2 with ⟨_, l2, _⟩ | c2
          · omega
          · rcases canon_rest ha c2 with h2 | ⟨_, h2⟩
            · rw [(mlt_meq h1).2, mlt_irr] at h2; cases h2
            · omega
    obtain ⟨hm, hf⟩ := hm
    have hto : x.to = y.to := by
      rcases Int.lt_trichotomy x.to y.to with hlt | he | hlt
      · exfalso
        have c3 := (h x (x.to + 1)).2 ((cov_cons _ _ _ _).2 (.inl ⟨meq_symm hm, by omega, by omega⟩))
        rw [cov_cons] at c3
        rcases c3 with ⟨_, _, h3⟩ | c3
        · omega
        · rcases canon_rest ha c3 with h3 | ⟨_, h3⟩
          · rw [mlt_irr] at h3; cases h3
          · omega
      · exact he
      · exfalso
        have c3 := (h y (y.to + 1)).1 ((cov_cons _ _ _ _).2 (.inl ⟨hm, by omega, by omega⟩))
        rw [cov_cons] at c3
        rcases c3 with ⟨_, _, h3⟩ | c3
        · omega
        · rcases canon_rest hb c3 with h3 | ⟨_, h3⟩
          · rw [mlt_irr] at h3; cases h3
          · omega
    have hxy := Va.ext' hm hf hto
    subst hxy
    congr 1
    refine canon_eq a b (canon_cons ha).1 (canon_cons hb).1 fun m p => ⟨fun hc => ?_, fun hc => ?_⟩
    · have := (h m p).1 ((cov_cons _ _ _ _).2 (.inr hc))
      rw [cov_cons] at this
      rcases this with ⟨e, _, h3⟩ | h3
      · rcases canon_rest ha hc with h4 | ⟨_, h4⟩
        · rw [← (mlt_meq e).2, mlt_irr] at h4; cases h4
        · omega
      · exact h3
    · have := (h m p).2 ((cov_cons _ _ _ _).2 (.inr hc))
      rw [cov_cons] at this
      rcases this with ⟨e, _, h3⟩ | h3
      · rcases canon_rest hb hc with h4 | ⟨_, h4⟩
        · rw [← (mlt_meq e).2, mlt_irr] at h4; cases h4
        · omega
      · exact h3

/-- one value more, joined to the last one where it meets or follows it -/
def mergeStep (out : List Va) (v : Va) : List Va :=
  match out.getLast? with
  | none => [v]
  | some l => if (meq l v && decide (v.fr ≤ l.to + 1)) = true then out.dropLast ++ [{ l with to := max l.to v.to }] else out ++ [v]
def mergeR (l : List Va) : List Va := l.foldl mergeStep []
/-- sorted: none comes before an earlier one -/
def sortedV (l : List Va) : Prop := l.Pairwise fun a b => vlt b a = false

/-- what holds between two rounds of merging -/
structure MInv (out rest done : List Va) : Prop where
  can : canon out
  covs : ∀ m p, cov out m p ↔ cov done m p
  ahead : ∀ x ∈ out, ∀ v ∈ rest, vlt v x = false

theorem snoc_cases (l : List Va) : l = [] ∨ ∃ i x, l = i ++ [x] := by
  rcases List.eq_nil_or_concat l with h | ⟨i, x, h⟩
  · exact .inl h
  · exact .inr ⟨i, x, by rw [h, List.concat_eq_append]⟩
theorem mergeStep_nil (v : Va) : mergeStep [] v = [v] := rfl
theorem mergeStep_join (i : List Va) (l v : Va) (h : (meq l v && decide (v.fr ≤ l.to + 1)) = true) : mergeStep (i ++ [l]) v = i ++ [{ l with to := max l.to v.to }] := by
  simp only [mergeStep, List.getLast?_append, List.getLast?_singleton, Option.some_or, h, if_true, List.dropLast_concat]
theorem mergeStep_add (i : List Va) (l v : Va) (h : (meq l v && decide (v.fr ≤ l.to + 1)) = false) : mergeStep (i ++ [l]) v = i ++ [l] ++ [v] := by
  simp only [mergeStep, List.getLast?_append, List.getLast?_singleton, Option.some_or, h, Bool.false_eq_true, if_false]

theorem gap_vlt {a b c : Va} (h : gap a b) (_hb : b.fr ≤ b.to) (h2 : mlt b c = true ∨ (meq b c = true ∧ b.fr ≤ c.fr)) : gap a c := by
  rcases h with h | ⟨h, h'⟩
  · rcases h2 with h2 | ⟨h2, _⟩
    · exact .inl (mlt_trans h h2)
    · exact .inl ((mlt_meq h2).2.symm.trans h)
  · rcases h2 with h2 | ⟨h2, h3⟩
    · exact .inl ((mlt_meq h).1.trans h2)
    · exact .inr ⟨meq_trans h h2, by omega⟩

theorem MInv.step {out rest done : List Va} {v : Va} (h : MInv out (v :: rest) done) (hv : v.fr ≤ v.to) (hs : ∀ x ∈ rest, vlt x v = false) : MInv (mergeStep out v) rest (done ++ [v]) := by
  have hcv : ∀ m p, (cov out m p ∨ covV v m p) ↔ cov (done ++ [v]) m p := fun m p => by
    rw [cov_append, h.covs m p]
    constructor
    · rintro (h1 | h1)
      · exact .inl h1
      · exact .inr ⟨v, by simp, h1⟩
    · rintro (h1 | ⟨x, h1, h2⟩)
      · exact .inl h1
      · simp at h1; subst h1; exact .inr h2
  rcases snoc_cases out with rfl | ⟨i, l, rfl⟩
  · rw [mergeStep_nil]
    refine ⟨⟨by simp, fun x hx => by simp at hx; subst hx; exact hv⟩, fun m p => ?_, fun x hx y hy => by simp at hx; subst hx; exact hs y hy⟩
    rw [← hcv, cov_cons]
    exact or_comm
  · have hl : l.fr ≤ l.to := h.can.2 l (by simp)
    have hlv := h.ahead l (by simp) v (by simp)
    have hp := List.pairwise_append.1 h.can.1
    have hil : ∀ x ∈ i, gap x l := fun x hx => hp.2.2 x hx l (by simp)
    by_cases hj : (meq l v && decide (v.fr ≤ l.to + 1)) = true
    · rw [mergeStep_join _ _ _ hj]
      rw [Bool.and_eq_true, decide_eq_true_eq] at hj
      have hlf : l.fr ≤ v.fr := by
        rcases not_vlt hlv with h1 | ⟨_, h1⟩
        · rw [mlt_not_meq h1] at hj; cases hj.1
        · exact h1
      refine ⟨⟨List.pairwise_append.2 ⟨hp.1, by simp, fun x hx y hy => ?_⟩, fun x hx => ?_⟩, fun m p => ?_, fun x hx y hy => ?_⟩
      · simp at hy; subst hy
        rcases hil x hx with h1 | ⟨h1, h2⟩
        · exact .inl h1
        · exact .inr ⟨h1, h2⟩
      · rcases List.mem_append.1 hx with hx | hx
        · exact h.can.2 x (by simp [hx])
        · simp at hx; subst hx; dsimp only; omega
      · rw [← hcv, cov_append, cov_append]
        have hone : ∀ y : Va, cov [y] m p ↔ covV y m p := fun y => by rw [cov_cons]; exact ⟨fun h => h.resolve_right (cov_nil _ _), .inl⟩
        rw [hone, hone, or_assoc]
        refine or_congr_right ?_
        constructor
        · rintro ⟨e, h1, h2⟩
          have e' : meq l m = true := e
          dsimp only at h1 h2
          by_cases h3 : p ≤ l.to
          · exact .inl ⟨e', h1, h3⟩
          · exact .inr ⟨meq_trans (meq_symm hj.1) e', by omega, by omega⟩
        · rintro (⟨e, h1, h2⟩ | ⟨e, h1, h2⟩)
          · exact ⟨e, h1, by dsimp only; omega⟩
          · exact ⟨meq_trans hj.1 e, by dsimp only; omega, by dsimp only; omega⟩
      · rcases List.mem_append.1 hx with hx | hx
        · exact h.ahead x (by simp [hx]) y (by simp [hy])
        · simp at hx; subst hx
          exact h.ahead l (by simp) y (by simp [hy])
    · have hj' : (meq l v && decide (v.fr ≤ l.to + 1)) = false := by simpa using hj
      rw [mergeStep_add _ _ _ hj']
      have hlgv : gap l v := by
        rcases not_vlt hlv with h1 | ⟨h1, h2⟩
        · exact .inl h1
        · refine .inr ⟨h1, ?_⟩
          rw [h1] at hj'
          simpa using hj'
      refine ⟨⟨List.pairwise_append.2 ⟨h.can.1, by simp, fun x hx y hy => ?_⟩, fun x hx => ?_⟩, fun m p => ?_, fun x hx y hy => ?_⟩
      · simp at hy; subst hy
        rcases List.mem_append.1 hx with hx | hx
        · exact gap_vlt (hil x hx) hl (not_vlt hlv)
        · simp at hx; subst hx; exact hlgv
      · rcases List.mem_append.1 hx with hx | hx
        · exact h.can.2 x hx
        · simp at hx; subst hx; exact hv
      · rw [← hcv, cov_append]
        exact or_congr_right ⟨fun ⟨x, h1, h2⟩ => by simp at h1; subst h1; exact h2, fun h1 => ⟨_, by simp, h1⟩⟩
      · rcases List.mem_append.1 hx with hx | hx
        · exact h.ahead x hx y (by simp [hy])
        · simp at hx; subst hx; exact hs y hy

theorem merge_fold : ∀ (rest out done : List Va), MInv out rest done → sortedV rest → (∀ v ∈ rest, v.fr ≤ v.to) → MInv (rest.foldl mergeStep out) [] (done ++ rest)
  | [], out, done, h, _, _ => by simpa using h
  | v :: rest, out, done, h, hs, hv => by
    have := merge_fold rest (mergeStep out v) (done ++ [v]) (h.step (hv v (by simp)) (List.pairwise_cons.1 hs).1) (List.pairwise_cons.1 hs).2 (fun x hx => hv x (List.mem_cons_of_mem _ hx))
    simpa using this
/-- Sorted values, merged: longest stretches in order that cover the same. -/
theorem mergeR_canon (l : List Va) (hs : sortedV l) (hv : ∀ v ∈ l, v.fr ≤ v.to) : canon (mergeR l) ∧ ∀ m p, cov (mergeR l) m p ↔ cov l m p := by
  have := merge_fold l [] [] ⟨⟨List.Pairwise.nil, fun v h => by cases h⟩, fun _ _ => Iff.rfl, fun x h => by cases h⟩ hs hv
  exact ⟨this.can, fun m p => by have h := this.covs m p; rwa [List.nil_append] at h⟩

/-- two sorted lists that cover the same are merged to one list -/
theorem mergeR_eq (l m : List Va) (hl : sortedV l) (hm : sortedV m) (hlv : ∀ v ∈ l, v.fr ≤ v.to) (hmv : ∀ v ∈ m, v.fr ≤ v.to) (h : ∀ x p, cov l x p ↔ cov m x p) : mergeR l = mergeR m :=
  canon_eq _ _ (mergeR_canon l hl hlv).1 (mergeR_canon m hm hmv).1 fun x p => ((mergeR_canon l hl hlv).2 x p).trans ((h x p).trans ((mergeR_canon m hm hmv).2 x p).symm)

end Go.Proofs.YtleihhkacmgofabGreatDoor

/- Tidy, plain: the specification's way (a value for each period, put in order, then joined) gives the list that merging sorted values gives. -/
namespace Go.Proofs.YtleihhkacmgofabGreatDoor

/-- two values are equal -/
def veq (a b : Va) : Bool := meq a b && ((a.fr == b.fr) && (a.to == b.to))
theorem veq_iff (a b : Va) : veq a b = true ↔ a = b := by
  unfold veq
  simp only [Bool.and_eq_true, beq_iff_eq]
  exact ⟨fun h => Va.ext' h.1 h.2.1 h.2.2, fun h => by subst h; exact ⟨meq_refl a, rfl, rfl⟩⟩
/-- how many come before a value -/
def beforeR (l : List Va) (v : Va) : Nat := (l.takeWhile fun x => vlt x v).length
/-- a value put into a sorted list, if it is not there -/
def putR (l : List Va) (v : Va) : List Va :=
  (l.takeWhile fun x => vlt x v) ++ ((if (l.dropWhile fun x => vlt x v).head?.any (fun x => veq x v) then [] else [v]) ++ l.dropWhile fun x => vlt x v)
/-- one period of a value -/
def day (v : Va) (p : Int) : Va := { v with fr := p, to := p }
/-- the first periods of a value put into a list -/
def putDays (v : Va) (l : List Va) (k : Nat) : List Va := (List.range k).foldl (fun l (j : Nat) => putR l (day v (v.fr + (j : Int)))) l
def putV (l : List Va) (v : Va) : List Va := putDays v l (v.to + 1 - v.fr).toNat
def pointsR (ss : List (List Va)) : List Va := ss.foldl (fun l vs => vs.foldl putV l) []
def runStep (out : List Va) (v : Va) : List Va :=
  match out.getLast? with
  | none => [v]
  | some l => if (meq l v && (l.to + 1 == v.fr)) = true then out.dropLast ++ [{ l with to := v.to }] else out ++ [v]
def runsR (l : List Va) : List Va := l.foldl runStep []
/-- the values of signs, united: longest stretches in order -/
def tidiedR (ss : List (List Va)) : List Va := runsR (pointsR ss)

/-- strictly sorted values of one period each -/
def points (l : List Va) : Prop := (l.Pairwise fun a b => vlt a b = true) ∧ ∀ v ∈ l, v.fr = v.to

theorem points_sorted {l : List Va} (h : points l) : sortedV l := h.1.imp fun {a b} hab => by
  cases h : vlt b a
  · rfl
  · have := vlt_trans hab h; rw [vlt_irr] at this; cases this

theorem cov_perm {a b : List Va} (h : ∀ v, v ∈ a ↔ v ∈ b) (m : Va) (p : Int) : cov a m p ↔ cov b m p :=
  ⟨fun ⟨v, h1, h2⟩ => ⟨v, (h v).1 h1, h2⟩, fun ⟨v, h1, h2⟩ => ⟨v, (h v).2 h1, h2⟩⟩

theorem dropWhile_head {α : Type} (p : α → Bool) : ∀ (l : List α) (x : α) (r : List α), l.dropWhile p = x :: r → p x = false
  | [], _, _, h => by simp at h
  | y :: l, x, r, h => by
    rw [List.dropWhile_cons] at h
    split at h
    · exact dropWhile_head p l x r h
    · rename_i hq
      injection h with h1 _
      subst h1
      simpa using hq
theorem takeWhile_all {α : Type} (p : α → Bool) : ∀ (l : List α) (x : α), x ∈ l.takeWhile p → p x = true
  | [], _, h => by simp at h
  | y :: l, x, h => by
    rw [List.takeWhile_cons] at h
    split at h
    · rcases List.mem_cons.1 h with rfl | h
      · assumption
      · exact takeWhile_all p l x h
    · cases h

theorem putR_mem (l : List Va) (v x : Va) : x ∈ putR l v ↔ x ∈ l ∨ x = v := by
  have hl : x ∈ l ↔ x ∈ (l.takeWhile fun x => vlt x v) ∨ x ∈ (l.dropWhile fun x => vlt x v) := by
    rw [← List.mem_append, List.takeWhile_append_dropWhile]
  unfold putR
  rw [List.mem_append, List.mem_append, hl]
  split
  · rename_i h
    have hv : v ∈ (l.dropWhile fun x => vlt x v) := by
      cases hd : (l.dropWhile fun x => vlt x v) with
      | nil => rw [hd] at h; simp at h
      | cons y r =>
        rw [hd] at h
        simp only [List.head?_cons, Option.any_some] at h
        rw [veq_iff] at h; subst h; simp
    constructor
    · rintro (h1 | h1 | h1)
      · exact .inl (.inl h1)
      · cases h1
      · exact .inl (.inr h1)
    · rintro ((h1 | h1) | h1)
      · exact .inl h1
      · exact .inr (.inr h1)
      · subst h1; exact .inr (.inr hv)
  · constructor
    · rintro (h1 | h1 | h1)
      · exact .inl (.inl h1)
      · exact .inr (by simpa using h1)
      · exact .inl (.inr h1)
    · rintro ((h1 | h1) | h1)
      · exact .inl h1
      · exact .inr (.inr h1)
      · subst h1; exact .inr (.inl (by simp))

theorem putR_points (l : List Va) (v : Va) (h : points l) (hv : v.fr = v.to) : points (putR l v) := by
  refine ⟨?_, fun x hx => ?_⟩
  · have hsp : (l.takeWhile fun x => vlt x v) ++ (l.dropWhile fun x => vlt x v) = l := List.takeWhile_append_dropWhile
    have hp := h.1
    rw [← hsp] at hp
    have hp := List.pairwise_append.1 hp
    unfold putR
    split
    · rw [List.nil_append]
      exact List.pairwise_append.2 hp
    · rename_i hne
      refine List.pairwise_append.2 ⟨hp.1, ?_, fun x hx y hy => ?_⟩
      · rw [List.singleton_append]
        refine List.pairwise_cons.2 ⟨fun y hy => ?_, hp.2.1⟩
        cases hd : (l.dropWhile fun x => vlt x v) with
        | nil => rw [hd] at hy; cases hy
        | cons z r =>
          rw [hd] at hy hne
          have hz := dropWhile_head _ _ _ _ hd
          have hz2 : vlt v z = true := by
            cases hvz : vlt v z
            · exfalso
              obtain ⟨e1, e2⟩ := vlt_tie hz hvz
              have hzl : z ∈ l := by rw [← hsp, hd]; simp
              have := h.2 z hzl
              apply hne
              simp only [List.head?_cons, Option.any_some]
              rw [veq_iff]
              exact Va.ext' e1 e2 (by omega)
            · rfl
          rcases List.mem_cons.1 hy with rfl | hy
          · exact hz2
          · have h3 := hp.2.1
            rw [hd] at h3
            exact vlt_trans hz2 ((List.pairwise_cons.1 h3).1 y hy)
      · have hxv := takeWhile_all _ _ _ hx
        rcases List.mem_append.1 hy with hy | hy
        · simp at hy; subst hy; exact hxv
        · exact hp.2.2 x hx y hy
  · rcases (putR_mem l v x).1 hx with hx | rfl
    · exact h.2 x hx
    · exact hv

theorem putDays_succ (v : Va) (l : List Va) (k : Nat) : putDays v l (k + 1) = putR (putDays v l k) (day v (v.fr + (k : Int))) := by
  unfold putDays
  rw [List.range_succ, List.foldl_append]
  rfl
theorem putDays_points (v : Va) (l : List Va) (h : points l) : ∀ k, points (putDays v l k)
  | 0 => h
  | k + 1 => by rw [putDays_succ]; exact putR_points _ _ (putDays_points v l h k) rfl
theorem putDays_cov (v : Va) (l : List Va) (m : Va) (p : Int) : ∀ k : Nat, cov (putDays v l k) m p ↔ cov l m p ∨ (meq v m = true ∧ v.fr ≤ p ∧ p < v.fr + k)
  | 0 => by
    show cov l m p ↔ _
    exact ⟨.inl, fun h => h.resolve_right (by intro ⟨_, h1, h2⟩; omega)⟩
  | k + 1 => by
    have ih := putDays_cov v l m p k
    rw [putDays_succ]
    have h1 : cov (putR (putDays v l k) (day v (v.fr + (k : Int)))) m p ↔ cov (putDays v l k) m p ∨ covV (day v (v.fr + (k : Int))) m p := by
      constructor
      · rintro ⟨x, hx, hc⟩
        rcases (putR_mem _ _ _).1 hx with hx | rfl
        · exact .inl ⟨x, hx, hc⟩
        · exact .inr hc
      · rintro (⟨x, hx, hc⟩ | hc)
        · exact ⟨x, (putR_mem _ _ _).2 (.inl hx), hc⟩
        · exact ⟨_, (putR_mem _ _ _).2 (.inr rfl), hc⟩
    rw [h1, ih]
    constructor
    · rintro ((h | ⟨e, h2, h3⟩) | ⟨e, h2, h3⟩)
      · exact .inl h
      · exact .inr ⟨e, h2, by omega⟩
      · have e' : meq v m = true := e
        simp only [day] at h2 h3
        exact .inr ⟨e', by omega, by omega⟩
    · rintro (h | ⟨e, h2, h3⟩)
      · exact .inl (.inl h)
      · by_cases h4 : p < v.fr + k
        · exact .inl (.inr ⟨e, h2, h4⟩)
        · exact .inr ⟨e, by simp only [day]; omega, by simp only [day]; omega⟩
theorem putV_points (v : Va) (l : List Va) (h : points l) : points (putV l v) := putDays_points v l h _
theorem putV_cov (v : Va) (l : List Va) (m : Va) (p : Int) : cov (putV l v) m p ↔ cov l m p ∨ covV v m p := by
  unfold putV covV
  rw [putDays_cov]
  refine or_congr_right (and_congr_right fun _ => and_congr_right fun _ => ?_)
  omega
theorem foldV : ∀ (vs l : List Va), points l → points (vs.foldl putV l) ∧ ∀ m p, cov (vs.foldl putV l) m p ↔ cov l m p ∨ cov vs m p
  | [], l, h => ⟨h, fun m p => ⟨.inl, fun h => h.resolve_right (cov_nil _ _)⟩⟩
  | v :: vs, l, h => by
    obtain ⟨h1, h2⟩ := foldV vs (putV l v) (putV_points v l h)
    refine ⟨h1, fun m p => ?_⟩
    rw [List.foldl_cons, h2, putV_cov, cov_cons, or_assoc]
theorem foldSS : ∀ (ss : List (List Va)) (l : List Va), points l → points (ss.foldl (fun l vs => vs.foldl putV l) l) ∧ ∀ m p, cov (ss.foldl (fun l vs => vs.foldl putV l) l) m p ↔ cov l m p ∨ cov ss.flatten m p
  | [], l, h => ⟨h, fun m p => ⟨.inl, fun h => h.resolve_right (cov_nil _ _)⟩⟩
  | vs :: ss, l, h => by
    obtain ⟨h1, h2⟩ := foldV vs l h
    obtain ⟨h3, h4⟩ := foldSS ss (vs.foldl putV l) h1
    refine ⟨h3, fun m p => ?_⟩
    rw [List.foldl_cons, h4, h2, List.flatten_cons, cov_append, or_assoc]
theorem pointsR_ok (ss : List (List Va)) : points (pointsR ss) ∧ ∀ m p, cov (pointsR ss) m p ↔ cov ss.flatten m p := by
  obtain ⟨h1, h2⟩ := foldSS ss [] ⟨List.Pairwise.nil, fun v h => by cases h⟩
  exact ⟨h1, fun m p => (h2 m p).trans ⟨fun h => h.resolve_left (cov_nil _ _), .inr⟩⟩

theorem runStep_eq (out : List Va) (v : Va) (hv : v.fr = v.to) (h : ∀ x ∈ out, meq x v = true → x.to < v.fr) : runStep out v = mergeStep out v := by
  unfold runStep mergeStep
  cases hl : out.getLast? with
  | none => rfl
  | some l =>
    dsimp only
    have hm : l ∈ out := List.mem_of_getLast? hl
    cases hq : meq l v
    · simp
    · have hlt := h l hm hq
      by_cases hj : l.to + 1 = v.fr
      · have h2 : v.fr ≤ l.to + 1 := by omega
        have h3 : max l.to v.to = v.to := by omega
        simp [hj, h3]
      · have h2 : ¬ v.fr ≤ l.to + 1 := by omega
        simp [hj, h2]
theorem run_fold : ∀ (rest out : List Va), (∀ x ∈ out, ∀ v ∈ rest, meq x v = true → x.to < v.fr) → points rest → rest.foldl runStep out = rest.foldl mergeStep out
  | [], _, _, _ => rfl
  | v :: rest, out, h, hp => by
    have hvv := hp.2 v (by simp)
    have hpr := List.pairwise_cons.1 hp.1
    have e := runStep_eq out v hvv (fun x hx => h x hx v (by simp))
    rw [List.foldl_cons, List.foldl_cons, e]
    refine run_fold rest _ (fun x hx y hy hm => ?_) ⟨hpr.2, fun z hz => hp.2 z (List.mem_cons_of_mem _ hz)⟩
    have hvy := hpr.1 y hy
    have hlt : meq v y = true → v.to < y.fr := fun hq => by
      rw [vlt_iff] at hvy
      rcases hvy with h1 | ⟨_, h1⟩
      · rw [mlt_not_meq h1] at hq; cases hq
      · omega
    rcases snoc_cases out with rfl | ⟨i, l, rfl⟩
    · rw [mergeStep_nil] at hx
      simp at hx; subst hx; exact hlt hm
    · by_cases hj : (meq l v && decide (v.fr ≤ l.to + 1)) = true
      · rw [mergeStep_join _ _ _ hj] at hx
        rw [Bool.and_eq_true, decide_eq_true_eq] at hj
        rcases List.mem_append.1 hx with hx | hx
        · exact h x (by simp [hx]) y (by simp [hy]) hm
        · simp at hx; subst hx
          have hm' : meq l y = true := hm
          have h1 := hlt (meq_trans (meq_symm hj.1) hm')
          have h2 := h l (by simp) v (by simp) hj.1
          dsimp only; omega
      · rw [mergeStep_add _ _ _ (by simpa using hj)] at hx
        rcases List.mem_append.1 hx with hx | hx
        · exact h x hx y (by simp [hy]) hm
        · simp at hx; subst hx; exact hlt hm

/-- Sorted values of signs, merged, are what the specification makes of the signs. -/
theorem tidied_eq (ss : List (List Va)) (s : List Va) (hm : ∀ v, v ∈ s ↔ v ∈ ss.flatten) (hs : sortedV s) (hv : ∀ v ∈ ss.flatten, v.fr ≤ v.to) : mergeR s = tidiedR ss := by
  obtain ⟨hp, hc⟩ := pointsR_ok ss
  unfold tidiedR runsR
  rw [run_fold _ _ (fun x h => by cases h) hp]
  exact mergeR_eq s (pointsR ss) hs (points_sorted hp) (fun v h => hv v ((hm v).1 h)) (fun v h => by have := hp.2 v h; omega) fun m p => (cov_perm hm m p).trans (hc m p).symm

end Go.Proofs.YtleihhkacmgofabGreatDoor

/- Contracts of the order of values (order), in the program, and of what it calls. -/
namespace Go.Proofs.YtleihhkacmgofabGreatDoor
open Go.RowKit

/-- three ways to compare two numbers, two strings -/
def cmpI (a b : Int) : Int := if a < b then -1 else if b < a then 1 else 0
def cmpB (a b : ByteArray) : Int := if bl a.toList b.toList then -1 else if a.toList = b.toList then 0 else 1

theorem nanI_any (n : Int) (w : World) : Calls Tryz.prog 83 #[.int .i64 n] w fun e w' => e = .returned (.bool false) ∧ w = w' := by
  go_enter Tryz.func83, Tryz.ntmps83
  go_wp2
  go_ret
  exact ⟨of_bool (by simp), rfl⟩
theorem nanS_any (s : ByteArray) (w : World) : Calls Tryz.prog 84 #[.string s] w fun e w' => e = .returned (.bool false) ∧ w = w' := by
  go_enter Tryz.func84, Tryz.ntmps84
  go_wp2
  go_ret
  exact ⟨of_bool (by simp), rfl⟩

theorem cmpI_any (a b : Int) (w : World) : Calls Tryz.prog 59 #[.int .i64 a, .int .i64 b] w fun e w' => e = .returned (.int .i64 (cmpI a b)) ∧ w = w' := by
  rcases Int.lt_trichotomy a b with h | h | h
  · have HF := Lib.hid (show cmpI a b = -1 by unfold cmpI; rw [if_pos h])
    go_enter Tryz.func59, Tryz.ntmps59
    go_wp2_with (first | (go_at_call 83; refine (nanI_any _ _).mono ?_; rintro e w' ⟨rfl, rfl⟩))
    go_ret
    exact ⟨of_int HF.out.symm, rfl⟩
  · subst h
    have HF := Lib.hid (show cmpI a a = 0 by unfold cmpI; simp)
    go_enter Tryz.func59, Tryz.ntmps59
    go_wp2_with (first | (go_at_call 83; refine (nanI_any _ _).mono ?_; rintro e w' ⟨rfl, rfl⟩))
    go_ret
    exact ⟨of_int HF.out.symm, rfl⟩
  · have HF := Lib.hid (show cmpI a b = 1 by unfold cmpI; rw [if_neg (by omega), if_pos h])
    go_enter Tryz.func59, Tryz.ntmps59
    go_wp2_with (first | (go_at_call 83; refine (nanI_any _ _).mono ?_; rintro e w' ⟨rfl, rfl⟩))
    go_ret
    exact ⟨of_int HF.out.symm, rfl⟩

theorem cmpB_any (a b : ByteArray) (w : World) : Calls Tryz.prog 60 #[.string a, .string b] w fun e w' => e = .returned (.int .i64 (cmpB a b)) ∧ w = w' := by
  by_cases h1 : Op.bytesLess a.toList b.toList = true
  · have HF := Lib.hid (show cmpB a b = -1 by unfold cmpB bl; rw [if_pos h1])
    go_enter Tryz.func60, Tryz.ntmps60
    go_wp2_with (first | (go_at_call 84; refine (nanS_any _ _).mono ?_; rintro e w' ⟨rfl, rfl⟩))
    go_ret
    exact ⟨of_int HF.out.symm, rfl⟩
  · have h1 : Op.bytesLess a.toList b.toList = false := by simpa using h1
    by_cases h2 : (a.toList == b.toList) = true
    · have HF := Lib.hid (show cmpB a b = 0 by unfold cmpB bl; rw [if_neg (by rw [h1]; simp), if_pos (by simpa using h2)])
      go_enter Tryz.func60, Tryz.ntmps60
      go_wp2_with (first | (go_at_call 84; refine (nanS_any _ _).mono ?_; rintro e w' ⟨rfl, rfl⟩))
      go_ret
      exact ⟨of_int HF.out.symm, rfl⟩
    · have h2 : (a.toList == b.toList) = false := by simpa using h2
      have HF := Lib.hid (show cmpB a b = 1 by unfold cmpB bl; rw [if_neg (by rw [h1]; simp), if_neg (by simpa using h2)])
      go_enter Tryz.func60, Tryz.ntmps60
      go_wp2_with (first | (go_at_call 84; refine (nanS_any _ _).mono ?_; rintro e w' ⟨rfl, rfl⟩))
      go_ret
      exact ⟨of_int HF.out.symm, rfl⟩

def orderV (a b : Va) : Int := if a.kind = b.kind then (if txt a = txt b then cmpI a.fr b.fr else cmpB a.text b.text) else cmpI a.kind b.kind
theorem orderV_lt (a b : Va) : decide (orderV a b < 0) = vlt a b := by
  unfold orderV vlt cmpI cmpB
  by_cases hk : a.kind = b.kind
  · by_cases ht : txt a = txt b
    · simp only [hk, ht, if_true]
      by_cases h1 : a.fr < b.fr
      · simp [h1]
      · by_cases h2 : b.fr < a.fr <;> simp [h1, h2]
    · have ht' : ¬ a.text.toList = b.text.toList := ht
      simp only [hk, ht, ht', if_true, if_false]
      unfold txt
      cases bl a.text.toList b.text.toList <;> simp
  · simp only [hk, if_false]
    by_cases h1 : a.kind < b.kind
    · simp [h1]
    · by_cases h2 : b.kind < a.kind <;> simp [h1, h2]

set_option maxHeartbeats 800000 in
theorem order_any (a b : Va) (w : World) : Calls Tryz.prog 42 #[a.val, b.val] w fun e w' => e = .returned (.int .i64 (orderV a b)) ∧ w' = (w.alloc (.cells #[.int .i64 a.kind, .string a.text, .int .i64 a.fr, .int .i64 a.to] 43)).alloc (.cells #[.int .i64 b.kind, .string b.text, .int .i64 b.fr, .int .i64 b.to] 43) := by
  obtain ⟨k, t, f, to⟩ := a
  obtain ⟨k2, t2, f2, to2⟩ := b
  unfold Va.val
  dsimp only
  by_cases hk : k = k2
  · subst hk
    have hk' : (k != k) = false := by simp
    by_cases ht : (t.toList == t2.toList) = true
    · have HF := Lib.hid (show orderV ⟨k, t, f, to⟩ ⟨k, t2, f2, to2⟩ = cmpI f f2 by unfold orderV txt; rw [if_pos rfl, if_pos (by simpa using ht)])
      go_enter Tryz.func42, Tryz.ntmps42
      go_wp2_with (first | (go_at_call 59; refine (cmpI_any _ _ _).mono ?_; rintro e w' ⟨rfl, rfl⟩))
      go_ret
      exact ⟨of_int HF.out.symm, rfl⟩
    · have ht : (t.toList == t2.toList) = false := by simpa using ht
      have HF := Lib.hid (show orderV ⟨k, t, f, to⟩ ⟨k, t2, f2, to2⟩ = cmpB t t2 by unfold orderV txt; rw [if_pos rfl, if_neg (by simpa using ht)])
      go_enter Tryz.func42, Tryz.ntmps42
      go_wp2_with (first | (go_at_call 60; refine (cmpB_any _ _ _).mono ?_; rintro e w' ⟨rfl, rfl⟩))
      go_ret
      exact ⟨of_int HF.out.symm, rfl⟩
  · have HF := Lib.hid (show orderV ⟨k, t, f, to⟩ ⟨k2, t2, f2, to2⟩ = cmpI k k2 by unfold orderV; rw [if_neg (show ¬ k = k2 from hk)])
    have hk' : (k != k2) = true := by simpa using hk
    clear hk
    go_enter Tryz.func42, Tryz.ntmps42
    go_wp2_with (first | (go_at_call 59; refine (cmpI_any _ _ _).mono ?_; rintro e w' ⟨rfl, rfl⟩))
    go_ret
    exact ⟨of_int HF.out.symm, rfl⟩

/-- one value is not behind another one -/
def nbh (a b : Va) : Prop := mlt a b = true ∨ (meq a b = true ∧ a.fr ≤ b.fr)
theorem nbh_trans {a b c : Va} (h1 : nbh a b) (h2 : nbh b c) : nbh a c := by
  rcases h1 with h1 | ⟨e1, h1⟩ <;> rcases h2 with h2 | ⟨e2, h2⟩
  · exact .inl (mlt_trans h1 h2)
  · exact .inl ((mlt_meq e2).2.symm.trans h1)
  · exact .inl ((mlt_meq e1).1.trans h2)
  · exact .inr ⟨meq_trans e1 e2, by omega⟩
theorem nbh_not {a b : Va} (h : nbh a b) : vlt b a = false := by
  cases hv : vlt b a
  · rfl
  · exfalso
    rw [vlt_iff] at hv
    rcases h with h | ⟨e, h⟩ <;> rcases hv with hv | ⟨e2, hv⟩
    · rw [mlt_asym h] at hv; cases hv
    · rw [← (mlt_meq e2).1, mlt_irr] at h; cases h
    · rw [← (mlt_meq e).1, mlt_irr] at hv; cases hv
    · omega

theorem order_swo : Go.Sort.SWO (fun x y => decide (orderV x y < 0)) where
  irrefl x := by rw [orderV_lt]; exact vlt_irr x
  trans x y z h1 h2 := by rw [orderV_lt] at *; exact vlt_trans h1 h2
  ntrans x y z h1 h2 := by
    rw [orderV_lt] at *
    exact nbh_not (nbh_trans (not_vlt h2) (not_vlt h1))

end Go.Proofs.YtleihhkacmgofabGreatDoor
