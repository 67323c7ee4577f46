/-
  The kids of a node (kidsOf).
-/
import Derived.Test.YtbfedahonfjpfaaGBel
import Derived.RangeFuncNested
import Derived.Test.YtbfedahonfjpfaaUsd
import Derived.Test.YtbfedahonfjpfaaCopy
namespace Go.Proofs.Ytbfedahonfjpfaa
open Go.RowKit Go.Sort

attribute [local go_sem] Oper.semAt_some

set_option maxHeartbeats 1000000 in
theorem below_in (F : Fence) (n : Nat) (hF : F.fn 98) (hro : F.round = none) (A : Option Addr) (N cap : Nat) (i : Nat) (w : World) :
    CallsIn F n Try.prog 98 #[.slice A N cap, .int .i64 i] w fun e w' => e = .returned (.func (.func 112) #[] #[.pointer (some ⟨w.heap.size + 1, 0, none⟩), .pointer (some ⟨w.heap.size, 0, none⟩)]) ∧
      w' = (w.alloc (.cells #[.slice A N cap] 25)).alloc (.cells #[.int .i64 i] 3) := by
  refine callsIn_of_wp Try.func98 rfl hF ?_ hro
  simp only [Try.ntmps98, List.size_toArray, List.length_cons, List.length_nil, Nat.reduceAdd, Nat.reduceSub, Array.replicate_succ, Array.replicate_zero, List.push_toArray, List.append_toArray, List.nil_append, List.cons_append]
  gi_wp2
  go_ret
  exact ⟨rfl, rfl⟩

/-- the numbers of the nodes below a node, each with its bound -/
def belowF (ns : List Nd) (d : Int) (i : Nat) (hi : i < ns.length) : List (Fin ns.length) := (List.range' (i + 1) (spanN ns d i)).pmap (fun j h => ⟨j, h⟩) (fun j hj => by
  have := spanN_le ns d i hi
  rw [List.mem_range'_1] at hj; omega)
theorem belowF_val (ns : List Nd) (d : Int) (i : Nat) (hi : i < ns.length) : (belowF ns d i hi).map (fun x => x.val) = List.range' (i + 1) (spanN ns d i) := by
  unfold belowF; rw [List.map_pmap]; simp
theorem belowF_len (ns : List Nd) (d : Int) (i : Nat) (hi : i < ns.length) : (belowF ns d i hi).length = spanN ns d i := by unfold belowF; simp

theorem below_stops (F : Fence) (n : Nat) (hF : F.fn 112) (hro : F.round = none) (hn : 1 ≤ n) (bI bN b0 n₀ cap i : Nat) (A : Option Addr) (ns : List Nd) (u : Nd) (hi : ns[i]? = some u) (hin : i < ns.length) (hl : ns.length ≤ cap) (hc : cap ≤ maxLen)
    (hI : bI < n₀) (hI0 : bI ≠ b0) (hN : bN < n₀) (hN0 : bN ≠ b0) (w : World) (hsz : n₀ ≤ w.heap.size) (hcI : w.cell? ⟨bI, 0, none⟩ = some (.int .i64 i)) (hcN : w.cell? ⟨bN, 0, none⟩ = some (.slice A ns.length cap)) (hns : NdsIn b0 n₀ w A ns) :
    SeqStopsK F n Try.prog 112 #[.pointer (some ⟨bI, 0, none⟩), .pointer (some ⟨bN, 0, none⟩)] (fun x : Fin ns.length => #[Value.int .i64 (x.val : Nat)]) (KpB b0 n₀) (fun ys => ys = belowF ns u.depth i hin) (fun pre => pre <+: belowF ns u.depth i hin) (spanN ns u.depth i) w := fun l J Jx W hW hJ _ hY h0 =>
  below1_in (fun x : Fin ns.length => x.val) (belowF ns u.depth i hin) F n hF hro hn l bI bN b0 n₀ cap i A ns u hi (belowF_val ns u.depth i hin) hl hc hI hI0 hN hN0 W.heap.size J Jx hJ hY W
    ((hW.cell (p := ⟨bI, 0, none⟩) (Nat.lt_of_lt_of_le hI hsz)).trans hcI) ((hW.cell (p := ⟨bN, 0, none⟩) (Nat.lt_of_lt_of_le hN hsz)).trans hcN) (hns.kept (KpB.of_below (hW.mono hsz))) (Nat.le_trans hsz hW.size) h0

theorem kpB_t {b0 n₀ : Nat} {A B C : World} (h : KpB b0 n₀ A B) (k : KpB b0 n₀ B C) : KpB b0 n₀ A C := h.trans k
theorem kpB_b {b0 n₀ : Nat} {w : World} (hn : n₀ ≤ w.heap.size) (W : World) (l : Nat) (o o' : Obj) (hl : w.heap.size ≤ l) (h : W.heap[l]? = some o) (h1 : o.isCells = false) (h2 : o.isWalk = false) : KpB b0 n₀ W (W.putObj l o') :=
  KpB.of_below (belowK_b hn W l o o' hl h h1 h2)
theorem Boxed.keptK {b0 n₀ B : Nat} {W W' : World} {t : TypeId} {v : Value} (h : Boxed W B t v) (hk : KpB b0 n₀ W W') (h1 : B < n₀) (h2 : B ≠ b0) : Boxed W' B t v := (hk.block B h1 h2).trans h

/-- a box that holds an own row, appended to -/
theorem Boxed.appendedK {W w1 : World} {n₀ base B : Nat} {t e : TypeId} {size : Nat} {v v' : Value} {k m : Nat} {xs ys : List Value} {tmp : Obj}
    (hv : Boxed W B t v) (hte : t ≠ e) (hrow : W.ownsRow base e size v k xs) (hn₀ : n₀ ≤ W.heap.size) (hb : n₀ ≤ base)
    (hown' : w1.ownsRow base e size v' m ys) (hgrow : (W.alloc tmp).grownBy w1 v.ownBlock) :
    Boxed w1 B t v ∧ Boxed (w1.setCell ⟨B, 0, none⟩ v') B t v' ∧ (w1.setCell ⟨B, 0, none⟩ v').ownsRow base e size v' m ys ∧ KeepsOthers W (w1.setCell ⟨B, 0, none⟩ v') ∧ KpB B n₀ W (w1.setCell ⟨B, 0, none⟩ v') := by
  have hv1 : Boxed w1 B t v := (hv.alloc tmp).kept hgrow (hv.not_row hte hrow)
  refine ⟨hv1, hv1.set v', hown'.kept (grownBy_setCell' w1 B v') (.inr (hv1.not_row hte hown').symm), ?_, ?_, ?_⟩
  · refine ((KeepsOthers.alloc W tmp).trans (KeepsOthers.of_grownBy hgrow fun j o ej hj => ?_)).trans (KeepsOthers.setCell _ _ _)
    rcases (hrow.alloc tmp).2 with ⟨rfl, _⟩ | ⟨g, cap, cur, rfl, _, hgb, _⟩
    · simp [Value.ownBlock] at ej
    · obtain rfl : g = j := by simpa [Value.ownBlock] using ej
      rw [hgb] at hj; cases hj; rfl
  · have h1 := hgrow.size
    have h2 := (grownBy_setCell' w1 B v').size
    simp at h1; omega
  · intro j hj hjb
    rw [heap_setCell_other _ _ _ _ hjb, hgrow.block j (by simp; omega) (fun e2 => ?_), heap_alloc_other _ _ _ (by omega)]
    have := (hrow.lt j e2.symm).1
    omega

/-- whether a node is a kid of one with a depth -/
def kidB (ns : List Nd) (d : Int) (j : Nat) : Bool := ns[j]?.any (fun u => u.depth == d + 1)
def kidsL (ns : List Nd) (i : Nat) : List Nat := match ns[i]? with
  | some u => (List.range' (i + 1) (spanN ns u.depth i)).filter (kidB ns u.depth)
  | none => []
def intsV (l : List Nat) : List Value := l.map fun j => .int .i64 (j : Nat)
def kidF {N : Nat} (ns : List Nd) (d : Int) (pre : List (Fin N)) : List Nat := (pre.map (fun x => x.val)).filter (kidB ns d)
theorem kidF_hit {N : Nat} {ns : List Nd} {d : Int} (pre : List (Fin N)) {x : Fin N} (h : kidB ns d x.val = true) : kidF ns d (pre ++ [x]) = kidF ns d pre ++ [x.val] := by simp [kidF, h]
theorem kidF_miss {N : Nat} {ns : List Nd} {d : Int} (pre : List (Fin N)) {x : Fin N} (h : kidB ns d x.val = false) : kidF ns d (pre ++ [x]) = kidF ns d pre := by simp [kidF, h]
theorem kidF_len {N : Nat} (ns : List Nd) (d : Int) (pre : List (Fin N)) : (kidF ns d pre).length ≤ pre.length := by
  unfold kidF; have := List.length_filter_le (kidB ns d) (pre.map (fun x => x.val)); simpa using this

set_option maxRecDepth 100000 in
set_option maxHeartbeats 4000000 in
theorem kidsOf_in (F : Fence) (n : Nat) (h1 : F.fn 66) (h2 : F.fn 98) (h3 : F.fn 112) (hro : F.round = none) (hn : 3 ≤ n) (A : Option Addr) (cap i : Nat) (ns : List Nd) (u : Nd) (hi : ns[i]? = some u)
    (hl : ns.length ≤ cap) (hc : cap ≤ maxLen) (hsm : ns.length ≤ 1000000) (hd : -1000000 ≤ u.depth ∧ u.depth ≤ 1000000) (w : World) (hns : NdsAt w A ns) :
    CallsIn F n Try.prog 66 #[.slice A ns.length cap, .int .i64 i] w (GotRow w 3 1 (kidsL ns i).length (intsV (kidsL ns i))) := by
  have hn1 : 1 ≤ n := by omega
  have hin : i < ns.length := (List.getElem?_eq_some_iff.1 hi).1
  obtain ⟨i0, hii, hz0, hz1, hz2⟩ := info_hid infoInt
  refine callsIn_of_wp_marks Try.func66 rfl h1 ?_ hro
  simp only [Try.ntmps66, List.size_toArray, List.length_cons, List.length_nil, Nat.reduceAdd, Nat.reduceSub, Array.replicate_succ, Array.replicate_zero, List.push_toArray, List.append_toArray, List.nil_append, List.cons_append]
  gi_wp2_with (gi_at_call 98; refine (below_in F (n - 1) h2 hro _ _ _ _ _).mono ?_; rintro e w' ⟨rfl, rfl⟩)
  obtain ⟨W5, hW5⟩ : ∃ W5, W5 = (((((w.alloc (.cells #[.slice A ns.length cap] 25)).alloc (.cells #[.int .i64 i] 3)).alloc (.cells #[.slice none 0 0] 38)).alloc (.cells #[.slice A ns.length cap] 25)).alloc (.cells #[.int .i64 i] 3)) := ⟨_, rfl⟩
  rw [← hW5]
  have hsz : W5.heap.size = w.heap.size + 5 := by rw [hW5]; simp
  have B4 : Boxed W5 (w.heap.size + 1 + 1 + 1 + 1) 3 (.int .i64 i) := by
    have := Boxed.new ((((w.alloc (.cells #[.slice A ns.length cap] 25)).alloc (.cells #[.int .i64 i] 3)).alloc (.cells #[.slice none 0 0] 38)).alloc (.cells #[.slice A ns.length cap] 25)) 3 (.int .i64 i)
    simp only [World.size_alloc] at this; rw [hW5]; exact this
  have B3 : Boxed W5 (w.heap.size + 1 + 1 + 1) 25 (.slice A ns.length cap) := by
    have := Boxed.new (((w.alloc (.cells #[.slice A ns.length cap] 25)).alloc (.cells #[.int .i64 i] 3)).alloc (.cells #[.slice none 0 0] 38)) 25 (.slice A ns.length cap)
    simp only [World.size_alloc] at this; rw [hW5]; exact this.alloc _
  have B2 : Boxed W5 (w.heap.size + 1 + 1) 38 (.slice none 0 0) := by
    have := Boxed.new ((w.alloc (.cells #[.slice A ns.length cap] 25)).alloc (.cells #[.int .i64 i] 3)) 38 (.slice none 0 0)
    simp only [World.size_alloc] at this; rw [hW5]; exact (this.alloc _).alloc _
  have B1 : Boxed W5 (w.heap.size + 1) 3 (.int .i64 i) := by
    have := Boxed.new (w.alloc (.cells #[.slice A ns.length cap] 25)) 3 (.int .i64 i)
    simp only [World.size_alloc] at this; rw [hW5]; exact ((this.alloc _).alloc _).alloc _
  have B0 : Boxed W5 w.heap.size 25 (.slice A ns.length cap) := by
    have := Boxed.new w 25 (.slice A ns.length cap)
    rw [hW5]; exact (((this.alloc _).alloc _).alloc _).alloc _
  have hB0 : Below w.heap.size w W5 := by
    rw [hW5]; exact (((((Below.refl _ w).alloc (Nat.le_refl _) _).alloc (by simp) _).alloc (by simp; omega) _).alloc (by simp; omega) _).alloc (by simp; omega) _
  have hN5 : NdsIn (w.heap.size + 1 + 1) (w.heap.size + 5) W5 A ns := fun k x hk => by
    obtain ⟨b, o, e, hlt, hv⟩ := hns k x hk
    exact ⟨b, o, e, by omega, by omega, hv.below hB0 hlt⟩
  have HSZ := Lib.hid hsz
  have HB00 := Lib.hid hB0
  have HNS := Lib.hid hns
  have HKL := Lib.hid (show kidsL ns i = kidF ns u.depth (belowF ns u.depth i hin) by
    unfold kidsL kidF
    rw [hi, belowF_val])
  have hbl : spanN ns u.depth i ≤ 1000000 := by have := spanN_le ns u.depth i hin; omega
  clear hW5 hsz hB0
  refine wpIn_rangeFunc_ownG hro hn1 (gf := 112) (lb := #[.pointer (some ⟨w.heap.size + 1 + 1 + 1 + 1, 0, none⟩), .pointer (some ⟨w.heap.size + 1 + 1 + 1, 0, none⟩)]) rfl h3 (enters_of Try.func112 (by kernel_rfl) rfl)
    (below_stops F (n - 1) h3 hro (by omega) (w.heap.size + 1 + 1 + 1 + 1) (w.heap.size + 1 + 1 + 1) (w.heap.size + 1 + 1) (w.heap.size + 5) cap i A ns u hi hin hl hc (by omega) (by omega) (by omega) (by omega) W5 (by rw [HSZ.out]; exact Nat.le_refl _) B4.cell B3.cell hN5) kpB_t (kpB_b (by rw [HSZ.out]; exact Nat.le_refl _)) (Below.refl _ _) (fun _ => rfl)
    (fun pre W => ((∃ v, Boxed W (w.heap.size + 1 + 1) 38 v ∧ W.ownsRow (w.heap.size + 5) 3 1 v (kidF ns u.depth pre).length (intsV (kidF ns u.depth pre)) ∧ True) ∧ Boxed W w.heap.size 25 (.slice A ns.length cap) ∧ Boxed W (w.heap.size + 1) 3 (.int .i64 i)) ∧ Below w.heap.size W5 W)
    (fun _ _ _ => False)
    (OwnFrom.and (OwnFrom.and (Own.from (holdsRow_own (w.heap.size + 5) (w.heap.size + 1 + 1) 38 3 1 (fun pre => (kidF ns u.depth pre).length) (fun pre => intsV (kidF ns u.depth pre)) (fun _ _ => True)) _)
      (OwnFrom.and (Own.from (boxed_own _ _ (fun _ => _)) _) (Own.from (boxed_own _ _ (fun _ => _)) _))) (ownFrom_below (by rw [HSZ.out]; omega) (by rw [HSZ.out]; omega)))
    (fun _ _ _ _ _ hs _ _ => hs)
    ⟨⟨⟨_, B2, World.ownsRow_nil _ _ _ _, trivial⟩, B0, B1⟩, Below.refl _ _⟩
    (fun x => { tmps := #[.slice A ns.length cap, .int .i64 i, .pointer (some ⟨w.heap.size, 0, none⟩), .pointer (some ⟨w.heap.size + 1, 0, none⟩), .slice none 0 0, .pointer (some ⟨w.heap.size + 1 + 1, 0, none⟩), .int .i64 (x.val : Nat), .slice A ns.length cap, .int .i64 i, .func (.func 112) #[] #[.pointer (some ⟨w.heap.size + 1 + 1 + 1 + 1, 0, none⟩), .pointer (some ⟨w.heap.size + 1 + 1 + 1, 0, none⟩)], .int .i64 (x.val : Nat), undef, undef, undef, undef, undef, undef, undef, undef, undef, undef, undef, undef, undef, undef, undef, undef, undef], defers := [] }) ?assign ?body ?done ?stop
  case assign =>
    intro l x W K hK
    gi_wp2
    exact hK
  case body =>
    rintro l pre ⟨j, hjN⟩ W ⟨⟨⟨v, hv, hrow, -⟩, hb0, hb1⟩, hB⟩ hlt
    have hkl := kidF_len ns u.depth pre
    have hWs : w.heap.size + 5 ≤ W.heap.size := by have := hB.size; have := HSZ.out; omega
    have HB5 := Lib.hid hB
    have hB := HB00.out.trans hB
    have hgj : ns[j]? = some ns[j] := List.getElem?_eq_getElem hjN
    obtain ⟨x, hx⟩ : ∃ x, x = ns[j] := ⟨_, rfl⟩
    rw [← hx] at hgj
    obtain ⟨b, o, hA, hbl1, hva⟩ := HNS.out j x hgj
    obtain ⟨b', o', hA', -, hvi⟩ := HNS.out i u hi
    rw [hA] at hA'
    injection hA' with hA'
    injection hA' with e1 e2
    subst e1 e2
    have HKJ := Lib.hid (show kidB ns u.depth j = (x.depth == u.depth + 1) by unfold kidB; rw [hgj]; rfl)
    have y1 := (hva.below hB hbl1).c1
    have z1 := (hvi.below hB hbl1).c1
    have hsb : b < W.heap.size := by omega
    have hs0 : w.heap.size < W.heap.size := by omega
    have hs1 : w.heap.size + 1 < W.heap.size := by omega
    obtain ⟨d, hd'⟩ : ∃ d, d = u.depth := ⟨_, rfl⟩
    have HD := Lib.hid hd'
    rw [← hd'] at z1 hd
    have hwr : IntKind.i64.wrap (d + 1) = d + 1 := IntWalk.i64_in _ (by omega)
    have HV := Lib.hid hv
    have HROW := Lib.hid hrow
    have HX0 := Lib.hid hb0
    have HX1 := Lib.hid hb1
    have HBW := Lib.hid hB
    have hc0 := hb0.cell
    have hc1 := hb1.cell
    subst hA
    obtain ⟨dx, hdx⟩ : ∃ dx, dx = x.depth := ⟨_, rfl⟩
    rw [← hdx] at HKJ y1
    clear hv hrow hb0 hb1 hB hx hgj hva hvi hd' hdx hi
    by_cases hk : (dx == d + 1) = true
    case neg =>
      have hk : (dx == d + 1) = false := by simpa using hk
      have HM := Lib.hid (kidF_miss (d := u.depth) pre (x := ⟨j, hjN⟩) (by rw [HKJ.out, ← HD.out]; exact hk))
      gi_wp2
      refine wpIn_region_laterR (by kernel_rfl) (by kernel_rfl) (by kernel_rfl) ?_; (repeat (first | gi_big_quiet_step (fail) | quiet_step_in (fail))); refine wpQuietIn_nil ?_; rintro _ ⟨s, rfl⟩
      have HE := Lib.hid (And.intro (KeepsFrom.of_grownBy (B := W5.heap.size) (grown_later s) (fun j e => by cases e)) (And.intro (KpB.of_below (b0 := w.heap.size + 1 + 1) (s.below.mono hWs)) (And.intro ((HV.out.kept (grown_later s) (by simp))) (And.intro (ownsRow_of_block HROW.out (fun g hg => s.below.block g (HROW.out.lt g hg).2)) (And.intro (HX0.out.kept (grown_later s) (by simp)) (And.intro (HX1.out.kept (grown_later s) (by simp)) (HB5.out.trans (s.below.mono (by omega)))))))))
      generalize s.w = wt at HE ⊢
      gi_wp2
      obtain ⟨e1, e2, e3, e4, e5, e6, e7⟩ := HE.out
      exact ⟨e1, e2, ⟨⟨v, e3, by rw [HM.out]; exact e4, trivial⟩, e5, e6⟩, e7⟩
    have HM := Lib.hid (kidF_hit (d := u.depth) pre (x := ⟨j, hjN⟩) (by rw [HKJ.out, ← HD.out]; exact hk))
    gi_wp2
    refine wpIn_region_laterR (by kernel_rfl) (by kernel_rfl) (by kernel_rfl) ?_; (repeat (first | gi_big_quiet_step (fail) | quiet_step_in (fail))); refine wpQuietIn_nil ?_; rintro _ ⟨s, rfl⟩
    have HE := Lib.hid (And.intro (KeepsFrom.of_grownBy (B := W5.heap.size) (grown_later s) (fun j e => by cases e)) (And.intro (KpB.of_below (b0 := w.heap.size + 1 + 1) (s.below.mono hWs)) (And.intro (HX0.out.kept (grown_later s) (by simp)) (And.intro (HX1.out.kept (grown_later s) (by simp)) (HB5.out.trans (s.below.mono (by omega)))))))
    have hv := HV.out.kept (grown_later s) (by simp)
    have hrow := ownsRow_of_block HROW.out (fun g hg => s.below.block g (HROW.out.lt g hg).2)
    have hWt : w.heap.size + 5 ≤ s.w.heap.size := by have := s.below.size; omega
    generalize s.w = wt at HE hv hrow hWt ⊢
    clear hc0 hc1 hsb hs0 hs1 y1 z1 HV HROW
    have hc5 := hv.cell
    have hmx : 2000000 ≤ maxLen := by unfold maxLen; omega
    have HRW := Lib.hid hrow
    have HVV := Lib.hid hv
    clear hrow
    gi_wp2_with (gi_at_builtin; refine wpListIn_append_own _ rfl _ _ 38 rfl (w.heap.size + 5) 3 i0 (.int .i64 0) 1 8 Try.underlying38 hii.out hz0.out hz1.out hz2.out rfl (by decide) _ _ _ rfl (HRW.out.alloc _) ⟨wt.heap.size, 0, none⟩ 1 1 [.int .i64 (j : Nat)] rfl rfl (cell_one_new _ _ _) (by simp [Value.oneCell']) (by omega) (by omega) (by rw [World.size_alloc]; omega) ?_; intro v' w1 hown' hgrow _; obtain ⟨g', cap', rfl⟩ := ownsRow_succ hown'; obtain ⟨hv1, hv2, hr2, hk2, hb2⟩ := Boxed.appendedK HVV.out (by decide) HRW.out hWt (Nat.le_refl _) hown' hgrow; have hc1 := hv1.cell; have hf1 := hv1.frozen)
    obtain ⟨e1, e2, e5, e6, e7⟩ := HE.out
    refine ⟨e1.trans (hk2.from _), e2.trans hb2, ⟨⟨_, hv2, by rw [HM.out]; simpa [intsV] using hr2, trivial⟩, Boxed.keptK e5 hb2 (by omega) (by omega), Boxed.keptK e6 hb2 (by omega) (by omega)⟩, e7.trans ?_⟩
    exact (((Below.refl w.heap.size wt).alloc (by omega) _).grown hgrow (by rw [World.size_alloc]; omega) (fun g hg => by have := (HRW.out.lt g hg).1; omega)).setCell (p := ⟨w.heap.size + 1 + 1, 0, none⟩) (by show w.heap.size ≤ w.heap.size + 1 + 1; omega) _
  case done =>
    rintro D ys W hD rfl ⟨⟨⟨v, hv, hrow, -⟩, -, -⟩, hB⟩ hK
    have hc := hv.cell
    gi_wp2
    refine ⟨by simp, .inl ⟨_, _, rfl, run_takeDeferred hK, ?_⟩⟩
    obtain ⟨A2, c2, rfl, -, -, -, -⟩ := own_slice hrow
    rw [HKL.out]
    exact ⟨_, results_tmp rfl _ _ _, A2, c2, rfl, own_base (ownsRow_putObj hrow _ hK rfl) (by omega), (HB00.out.trans hB).trans (belowK_b (w := W5) (by have := HSZ.out; omega) W D _ _ hD hK rfl rfl)⟩
  case stop =>
    rintro D c pre W _ _ h _
    exact h.elim

theorem kidsOf_any (A : Option Addr) (cap i : Nat) (ns : List Nd) (u : Nd) (hi : ns[i]? = some u)
    (hl : ns.length ≤ cap) (hc : cap ≤ maxLen) (hsm : ns.length ≤ 1000000) (hd : -1000000 ≤ u.depth ∧ u.depth ≤ 1000000) (w : World) (hns : NdsAt w A ns) :
    Calls Try.prog 66 #[.slice A ns.length cap, .int .i64 i] w (GotRow w 3 1 (kidsL ns i).length (intsV (kidsL ns i))) :=
  callsIn_wide.1 (kidsOf_in Fence.wide 3 trivial trivial trivial rfl (by omega) A cap i ns u hi hl hc hsm hd w hns)

/-- the end of what lies below a node, while it is looked for -/
def lastF {N : Nat} (i : Nat) (pre : List (Fin N)) : Nat := ((pre.getLast?).map (fun x => x.val + 1)).getD (i + 1)
theorem lastF_snoc {N : Nat} (i : Nat) (pre : List (Fin N)) (x : Fin N) : lastF i (pre ++ [x]) = x.val + 1 := by simp [lastF]
theorem lastF_all (ns : List Nd) (d : Int) (i : Nat) (hi : i < ns.length) : lastF i (belowF ns d i hi) = i + 1 + spanN ns d i := by
  have h := belowF_val ns d i hi
  have h2 := congrArg List.getLast? h
  rw [List.getLast?_map] at h2
  unfold lastF
  cases hl : (belowF ns d i hi).getLast? with
  | none =>
    have : belowF ns d i hi = [] := List.getLast?_eq_none_iff.1 hl
    have h3 := congrArg List.length this
    rw [belowF_len] at h3
    simp at h3
    simp [h3]
  | some x =>
    rw [hl] at h2
    have hs : 0 < spanN ns d i := by
      have := belowF_len ns d i hi
      rcases Nat.eq_zero_or_pos (spanN ns d i) with h0 | h0
      · rw [h0] at this; rw [List.eq_nil_of_length_eq_zero this] at hl; cases hl
      · exact h0
    obtain ⟨m, hm⟩ : ∃ m, spanN ns d i = m + 1 := ⟨_, (Nat.succ_pred_eq_of_pos hs).symm⟩
    rw [hm, List.range'_1_concat] at h2
    simp at h2
    simp [h2, hm]; omega

set_option maxRecDepth 100000 in
set_option maxHeartbeats 4000000 in
theorem part_in (F : Fence) (n : Nat) (h1 : F.fn 79) (h2 : F.fn 98) (h3 : F.fn 112) (hro : F.round = none) (hn : 3 ≤ n) (b o cap i : Nat) (ns : List Nd) (u : Nd) (hi : ns[i]? = some u)
    (hl : ns.length ≤ cap) (hc : cap ≤ maxLen) (w : World) (hns : NdsAt w (some ⟨b, o, none⟩) ns) :
    CallsIn F n Try.prog 79 #[.slice (some ⟨b, o, none⟩) ns.length cap, .int .i64 i] w fun e w' => e = .returned (.slice (some ⟨b, o + i * 8, none⟩) (1 + spanN ns u.depth i) (1 + spanN ns u.depth i)) ∧ Below w.heap.size w w' := by
  have hn1 : 1 ≤ n := by omega
  have hin : i < ns.length := (List.getElem?_eq_some_iff.1 hi).1
  unfold maxLen at hc
  have hwr : IntKind.i64.wrap ((i : Int) + 1) = (i : Int) + 1 := IntWalk.i64_in _ (by omega)
  refine callsIn_of_wp_marks Try.func79 rfl h1 ?_ hro
  simp only [Try.ntmps79, List.size_toArray, List.length_cons, List.length_nil, Nat.reduceAdd, Nat.reduceSub, Array.replicate_succ, Array.replicate_zero, List.push_toArray, List.append_toArray, List.nil_append, List.cons_append]
  gi_wp2_with (gi_at_call 98; refine (below_in F (n - 1) h2 hro _ _ _ _ _).mono ?_; rintro e w' ⟨rfl, rfl⟩)
  obtain ⟨W3, hW3⟩ : ∃ W3, W3 = (((w.alloc (.cells #[.int .i64 ((i : Int) + 1)] 3)).alloc (.cells #[.slice (some ⟨b, o, none⟩) ns.length cap] 25)).alloc (.cells #[.int .i64 i] 3)) := ⟨_, rfl⟩
  rw [← hW3]
  have hsz : W3.heap.size = w.heap.size + 3 := by rw [hW3]; simp
  have B2 : Boxed W3 (w.heap.size + 1 + 1) 3 (.int .i64 i) := by
    have := Boxed.new ((w.alloc (.cells #[.int .i64 ((i : Int) + 1)] 3)).alloc (.cells #[.slice (some ⟨b, o, none⟩) ns.length cap] 25)) 3 (.int .i64 i)
    simp only [World.size_alloc] at this; rw [hW3]; exact this
  have B1 : Boxed W3 (w.heap.size + 1) 25 (.slice (some ⟨b, o, none⟩) ns.length cap) := by
    have := Boxed.new (w.alloc (.cells #[.int .i64 ((i : Int) + 1)] 3)) 25 (.slice (some ⟨b, o, none⟩) ns.length cap)
    simp only [World.size_alloc] at this; rw [hW3]; exact this.alloc _
  have B0 : Boxed W3 w.heap.size 3 (.int .i64 ((i : Int) + 1)) := by
    have := Boxed.new w 3 (.int .i64 ((i : Int) + 1))
    rw [hW3]; exact (this.alloc _).alloc _
  have hB0 : Below w.heap.size w W3 := by
    rw [hW3]; exact (((Below.refl _ w).alloc (Nat.le_refl _) _).alloc (by simp) _).alloc (by simp; omega) _
  have hN3 : NdsIn w.heap.size (w.heap.size + 3) W3 (some ⟨b, o, none⟩) ns := fun k x hk => by
    obtain ⟨b', o', e, hlt, hv⟩ := hns k x hk
    exact ⟨b', o', e, by omega, by omega, hv.below hB0 hlt⟩
  have HSZ := Lib.hid hsz
  have HB0 := Lib.hid hB0
  have HSL := Lib.hid (spanN_le ns u.depth i hin)
  clear hW3 hsz hB0
  refine wpIn_rangeFunc_ownG hro hn1 (gf := 112) (lb := #[.pointer (some ⟨w.heap.size + 1 + 1, 0, none⟩), .pointer (some ⟨w.heap.size + 1, 0, none⟩)]) rfl h3 (enters_of Try.func112 (by kernel_rfl) rfl)
    (below_stops F (n - 1) h3 hro (by omega) (w.heap.size + 1 + 1) (w.heap.size + 1) w.heap.size (w.heap.size + 3) cap i _ ns u hi hin hl (by unfold maxLen; omega) (by omega) (by omega) (by omega) (by omega) W3 (by rw [HSZ.out]; exact Nat.le_refl _) B2.cell B1.cell hN3) kpB_t (kpB_b (by rw [HSZ.out]; exact Nat.le_refl _)) (Below.refl _ _) (fun _ => rfl)
    (fun pre W => Boxed W w.heap.size 3 (.int .i64 ((lastF i pre : Nat) : Int)) ∧ Below w.heap.size W3 W)
    (fun _ _ _ => False)
    (OwnFrom.and (Own.from (boxed_own _ _ (fun pre => .int .i64 ((lastF i pre : Nat) : Int))) _) (ownFrom_below (by rw [HSZ.out]; omega) (by rw [HSZ.out]; omega)))
    (fun _ _ _ _ _ hs _ _ => hs)
    ⟨by simpa [lastF] using B0, Below.refl _ _⟩
    (fun x => { tmps := #[.slice (some ⟨b, o, none⟩) ns.length cap, .int .i64 i, undef, undef, .slice none 0 0, .pointer (some ⟨w.heap.size, 0, none⟩), .int .i64 (x.val : Nat), .int .i64 i, .int .i64 ((i : Int) + 1), .slice (some ⟨b, o, none⟩) ns.length cap, .int .i64 i, .func (.func 112) #[] #[.pointer (some ⟨w.heap.size + 1 + 1, 0, none⟩), .pointer (some ⟨w.heap.size + 1, 0, none⟩)], .int .i64 (x.val : Nat), undef, undef, undef, undef, undef, undef, undef], defers := [] }) ?assign ?body ?done ?stop
  case assign =>
    intro l x W K hK
    gi_wp2
    exact hK
  case body =>
    rintro l pre ⟨j, hjN⟩ W ⟨hv, hB⟩ hlt
    have HV := Lib.hid hv
    have HBB := Lib.hid hB
    have hc5 := hv.cell
    have hf5 := hv.frozen
    have HSZ' := HSZ.out
    have hWs : w.heap.size + 3 ≤ W.heap.size := by have := hB.size; omega
    have hs0 : w.heap.size < W.heap.size := by omega
    have hwj : IntKind.i64.wrap ((j : Int) + 1) = (j : Int) + 1 := IntWalk.i64_in _ (by omega)
    clear hv hB HSZ'
    gi_wp2
    refine ⟨(KeepsOthers.setCell _ _ _).from _, ⟨((Below.refl 0 W).setCell (p := ⟨w.heap.size, 0, none⟩) (Nat.zero_le _) _).size, fun k hk hk2 => heap_setCell_other _ _ _ _ hk2⟩, ?_, HBB.out.setCell (p := ⟨w.heap.size, 0, none⟩) (Nat.le_refl _) _⟩
    have := HV.out.set (.int .i64 ((j : Int) + 1))
    rw [lastF_snoc]
    exact this
  case done =>
    rintro D ys W hD rfl ⟨hv, hB⟩ hK
    rw [lastF_all] at hv
    have HV := Lib.hid hv
    have HBB := Lib.hid hB
    have HKK := Lib.hid hK
    have hc5 := hv.cell
    have hs0 : w.heap.size < W.heap.size := hv.lt
    obtain ⟨m, hm⟩ : ∃ m, m = spanN ns u.depth i := ⟨_, rfl⟩
    have hsl := HSL.out
    have HM := Lib.hid hm
    rw [← hm] at hsl hc5 HV
    obtain ⟨e0, he0⟩ : ∃ e0, e0 = i + 1 + m := ⟨_, rfl⟩
    have HE0 := Lib.hid he0
    rw [← he0] at hsl hc5 HV
    have hie : i < e0 := by omega
    have hec : e0 ≤ cap := by omega
    clear hv hB hK hm he0
    gi_wp2
    refine ⟨by simp, .inl ⟨_, _, rfl, run_takeDeferred HKK.out, ?_⟩⟩
    refine ⟨_, results_tmp rfl _ _ _, ?_, (HB0.out.trans HBB.out).trans (belowK_b (w := W3) (by have := HSZ.out; omega) W D _ _ hD HKK.out rfl rfl)⟩
    rw [← HM.out, show 1 + m = e0 - i by have := HE0.out; omega]
    rfl
  case stop =>
    rintro D c pre W _ _ h _
    exact h.elim

theorem part_any (b o cap i : Nat) (ns : List Nd) (u : Nd) (hi : ns[i]? = some u) (hl : ns.length ≤ cap) (hc : cap ≤ maxLen) (w : World) (hns : NdsAt w (some ⟨b, o, none⟩) ns) :
    Calls Try.prog 79 #[.slice (some ⟨b, o, none⟩) ns.length cap, .int .i64 i] w fun e w' => e = .returned (.slice (some ⟨b, o + i * 8, none⟩) (1 + spanN ns u.depth i) (1 + spanN ns u.depth i)) ∧ Below w.heap.size w w' :=
  callsIn_wide.1 (part_in Fence.wide 3 trivial trivial trivial rfl (by omega) b o cap i ns u hi hl hc w hns)

end Go.Proofs.Ytbfedahonfjpfaa
