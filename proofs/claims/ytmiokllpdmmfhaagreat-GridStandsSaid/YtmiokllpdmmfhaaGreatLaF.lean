/-
  Two lists compared part by part, whatever they are: the program's Same and the specification's. And what builds on it.
-/
import Derived.Test.YtmiokllpdmmfhaaGreatLaB
import Derived.Test.YtmiokllpdmmfhaaGreatLaA
import Derived.Laws.StructEq
import Derived.Test.YtmiokllpdmmfhaaGreatLaE
import Derived.Deep.RegionHeld3
import Derived.StillTailTactics
namespace Go.Proofs.YtmiokllpdmmfhaaGreat
open Go.RowKit
def eqUp {α : Type} (f : α → α → Bool) (xs ys : List α) : Bool := decide (xs.length = ys.length) && (xs.zip ys).all fun p => f p.1 p.2
theorem zip_at {α : Type} {xs ys : List α} {k : Nat} {u v : α} (h1 : xs[k]? = some u) (h2 : ys[k]? = some v) : (xs.zip ys)[k]? = some (u, v) := by
  rw [List.getElem?_zip_eq_some]; exact ⟨h1, h2⟩
theorem allz_step {α : Type} (q : α → Bool) (l : List α) (k : Nat) (v : α) (h : l[k]? = some v) (h0 : (l.take k).all q = true) (h1 : q v = true) : (l.take (k + 1)).all q = true := by
  obtain ⟨hk, rfl⟩ := List.getElem?_eq_some_iff.1 h
  rw [List.take_succ_eq_append_getElem hk, List.all_append, h0, Bool.true_and]; simp [h1]
theorem eqUp_false {α : Type} (f : α → α → Bool) (xs ys : List α) (k : Nat) (u v : α) (h1 : xs[k]? = some u) (h2 : ys[k]? = some v) (h : f u v = false) : eqUp f xs ys = false := by
  unfold eqUp
  rw [all_false_of (fun p : α × α => f p.1 p.2) _ k (u, v) (zip_at h1 h2) h, Bool.and_false]
theorem eqUp_len {α : Type} (f : α → α → Bool) (xs ys : List α) (h : xs.length ≠ ys.length) : eqUp f xs ys = false := by
  unfold eqUp; rw [decide_eq_false h, Bool.false_and]
theorem eqUp_true {α : Type} (f : α → α → Bool) (xs ys : List α) (k : Nat) (h : xs.length = ys.length) (hk : k = xs.length) (h0 : ((xs.zip ys).take k).all (fun p => f p.1 p.2) = true) : eqUp f xs ys = true := by
  have : (xs.zip ys).length ≤ k := by rw [List.length_zip]; omega
  rw [List.take_of_length_le this] at h0
  unfold eqUp; rw [h0, decide_eq_true h]; rfl
theorem eqUp_refl {α : Type} (f : α → α → Bool) (hf : ∀ x, f x x = true) (xs : List α) : eqUp f xs xs = true := by
  unfold eqUp
  rw [decide_eq_true rfl, Bool.true_and, List.all_eq_true]
  rintro ⟨a, b⟩ h
  obtain ⟨k, hk⟩ := List.getElem?_of_mem h
  rw [List.getElem?_zip_eq_some] at hk
  have : a = b := by have := hk.1.symm.trans hk.2; injection this
  subst this; exact hf a
open Go.RowKit
def ndEq (u v : Nd) : Bool := u.kind == v.kind && u.depth == v.depth && u.sign == v.sign && u.turn == v.turn && u.mirror == v.mirror && u.state == v.state && u.min == v.min && u.max == v.max
theorem ndEq_refl (u : Nd) : ndEq u u = true := by simp [ndEq]
theorem eqNd (k k2 d d2 s s2 t t2 st st2 mn mn2 mx mx2 : Int) (m m2 : Bool) (w : World) :
    (binOp .neq 87 (.agg #[.int .i64 k, .int .i64 d, .int .i64 s, .int .i64 t, .bool m, .int .i64 st, .int .i64 mn, .int .i64 mx]) (.agg #[.int .i64 k2, .int .i64 d2, .int .i64 s2, .int .i64 t2, .bool m2, .int .i64 st2, .int .i64 mn2, .int .i64 mx2])).run Tryz.prog w =
      .ok (.bool (!(ndEq ⟨k, d, s, t, m, st, mn, mx⟩ ⟨k2, d2, s2, t2, m2, st2, mn2, mx2⟩))) w := by
  rw [run_neq_struct]
  simp [go_sem]
  by_cases h1 : k = k2
  case neg => simp [h1, ndEq]
  by_cases h2 : d = d2
  case neg => simp [h1, h2, ndEq]
  by_cases h3 : s = s2
  case neg => simp [h1, h2, h3, ndEq]
  by_cases h4 : t = t2
  case neg => simp [h1, h2, h3, h4, ndEq]
  by_cases h5 : m = m2
  case neg => simp [h1, h2, h3, h4, h5, ndEq]
  by_cases h6 : st = st2
  case neg => simp [h1, h2, h3, h4, h5, h6, ndEq]
  by_cases h7 : mn = mn2
  case neg => simp [h1, h2, h3, h4, h5, h6, h7, ndEq]
  by_cases h8 : mx = mx2 <;> simp [h1, h2, h3, h4, h5, h6, h7, h8, ndEq]
theorem nds_none {w : World} {A : Option Addr} {ns : List Nd} (h : NdsAt w A ns) : A = none → ns.length = 0 := by
  intro hA
  cases ns with
  | nil => rfl
  | cons x r => obtain ⟨b, o, e, _⟩ := h 0 x rfl; rw [hA] at e; cases e
theorem split8 (j : Nat) : ∃ k i, i < 8 ∧ j = k * 8 + i := ⟨j / 8, j % 8, Nat.mod_lt _ (by omega), by omega⟩
theorem nds_cells {w : World} {A : Option Addr} {ns : List Nd} (h : NdsAt w A ns) : ∀ ad, A = some ad → ∀ j u, (ns.flatMap Nd.cells)[j]? = some u → w.cell? (ad.add j) = some u := by
  intro ad hA j u hj
  obtain ⟨k, i, hi, rfl⟩ := split8 j
  have hlt := (List.getElem?_eq_some_iff.1 hj).1
  rw [flat_len (c := 8) (fun _ => rfl)] at hlt
  have hk : k < ns.length := by omega
  have hg : ns[k]? = some ns[k] := List.getElem?_eq_getElem hk
  obtain ⟨b, o, e, _, hv⟩ := h k _ hg
  rw [hA] at e; injection e with e; subst e
  rw [flat_at (c := 8) (fun _ => rfl) _ _ _ hg i hi] at hj
  rw [addr_add]
  match i, hi, hj with
  | 0, _, hj => simp [Nd.cells] at hj; subst hj; exact hv.c0
  | 1, _, hj => simp [Nd.cells] at hj; subst hj; rw [show o + (k * 8 + 1) = o + k * 8 + 1 by omega]; exact hv.c1
  | 2, _, hj => simp [Nd.cells] at hj; subst hj; rw [show o + (k * 8 + 2) = o + k * 8 + 2 by omega]; exact hv.c2
  | 3, _, hj => simp [Nd.cells] at hj; subst hj; rw [show o + (k * 8 + 3) = o + k * 8 + 3 by omega]; exact hv.c3
  | 4, _, hj => simp [Nd.cells] at hj; subst hj; rw [show o + (k * 8 + 4) = o + k * 8 + 4 by omega]; exact hv.c4
  | 5, _, hj => simp [Nd.cells] at hj; subst hj; rw [show o + (k * 8 + 5) = o + k * 8 + 5 by omega]; exact hv.c5
  | 6, _, hj => simp [Nd.cells] at hj; subst hj; rw [show o + (k * 8 + 6) = o + k * 8 + 6 by omega]; exact hv.c6
  | 7, _, hj => simp [Nd.cells] at hj; subst hj; rw [show o + (k * 8 + 7) = o + k * 8 + 7 by omega]; exact hv.c7
theorem nds_one {ns : List Nd} : ∀ u ∈ ns.flatMap Nd.cells, u.oneCell' = true := by
  intro u hu
  obtain ⟨v, _, hv⟩ := List.mem_flatMap.1 hu
  exact nd_one v u hv
def GotText (w : World) (ns : List Nd) (e : Ending) (w' : World) : Prop :=
  ∃ A c, e = .returned (.agg #[.slice A ns.length c]) ∧ w'.ownsRow w.heap.size 87 8 (.slice A ns.length c) ns.length (ns.flatMap Nd.cells) ∧ Below w.heap.size w w'
set_option maxHeartbeats 3200000 in
set_option maxRecDepth 100000 in
theorem rcopyT_any (A : Option Addr) (cap : Nat) (ns : List Nd) (w : World) (hn : NdsAt w A ns) (_hc1 : ns.length ≤ cap) (_hc : cap ≤ maxLen) (hsm : ns.length ≤ 1000000) :
    Calls Tryz.prog 56 #[.agg #[.slice A ns.length cap]] w (GotText w ns) := by
  have HNS := Lib.hid hn
  obtain ⟨N, hN⟩ : ∃ N, N = ns.length := ⟨_, rfl⟩
  have HN := Lib.hid hN
  have HG := Lib.hid (fun e w' (h : ∃ A c, e = Ending.returned (.agg #[.slice A N c]) ∧ w'.ownsRow w.heap.size 87 8 (.slice A N c) N (ns.flatMap Nd.cells) ∧ Below w.heap.size w w') => show GotText w ns e w' by
    rw [HN.out] at h; exact h)
  rw [← hN] at _hc1 hsm ⊢
  obtain ⟨cells, hcs⟩ : ∃ c, c = ns.flatMap Nd.cells := ⟨_, rfl⟩
  have HC := Lib.hid (show cells.length = N * 8 by rw [hcs, HN.out]; exact flat_len (f := Nd.cells) (fun _ => rfl) _)
  have HC0 := Lib.hid (fun (h : A = none) => show N = 0 by rw [HN.out]; exact nds_none HNS.out h)
  have HC1 := Lib.hid (show ∀ u ∈ cells, u.oneCell' = true by rw [hcs]; exact nds_one)
  have HC2 := Lib.hid (fun wx (hb : Below w.heap.size w wx) => show ∀ ad, A = some ad → ∀ j u, cells[j]? = some u → wx.cell? (ad.add j) = some u by rw [hcs]; exact nds_cells (HNS.out.below hb))
  rw [← hcs] at HG
  unfold maxLen at _hc
  clear hn hN hcs
  have HSM := Lib.hid hsm
  obtain ⟨iv, hiv, hzv, hsv, hbv⟩ := info_hid infoNd
  go_enter Tryz.func56, Tryz.ntmps56
  go_wp2_with (first
    | (at_builtin; refine wpList_append_src _ rfl (.tmp 3) (.tmp 5) 25 rfl (w.heap.size + 1 + 1) 87 iv (.agg #[.int .i64 0, .int .i64 0, .int .i64 0, .int .i64 0, .bool false, .int .i64 0, .int .i64 0, .int .i64 0]) 8 64 Tryz.underlying25 hiv.out hzv.out hsv.out hbv.out rfl (by decide) (.slice (some ⟨w.heap.size + 1 + 1, 0, none⟩) 0 0) 0 [] rfl ?own1 A N cap cells rfl HC.out HC0.out ?c1 HC1.out ?m1 ?b1 ?s1 N (Nat.zero_add _).symm ?_))
  case own1 => simpa using own_empty ((w.alloc (.cells #[.slice A N cap] 27)).alloc (.cells #[.slice none 0 0] 27)) 87 8
  case c1 => exact HC2.out _ ((((Below.refl _ _).alloc (Nat.le_refl _) _).alloc (by simp) _).alloc (by simp; omega) _)
  case m1 => have := HSM.out; unfold maxLen; omega
  case b1 => have := HSM.out; omega
  case s1 => simp
  · intro A1 c1 w1 own1 hg1 _
    have hg1 : (((w.alloc (.cells #[.slice A N cap] 27)).alloc (.cells #[.slice none 0 0] 27)).alloc (.cells #[] 87)).grownBy w1 (some (w.heap.size + 1 + 1)) := hg1
    have s1 : w.heap.size + 1 + 1 + 1 ≤ w1.heap.size := by have := hg1.size; simpa using this
    have kb : w1.heap[w.heap.size + 1]? = some (.cells #[.slice none 0 0] 27 (0, 0)) := by
      rw [hg1.block _ (by simp) (by intro e; injection e with e; omega), heap_alloc_other _ _ _ (by simp)]
      have := heap_alloc_new (w.alloc (.cells #[.slice A N cap] 27)) (.cells #[.slice none 0 0] 27); simpa using this
    have q0 := cell_of_blk kb 0
    have q1 := free_of_blk kb 0
    simp at q0
    have hlt2 : w.heap.size + 1 < w1.heap.size := by omega
    have OWN := Lib.hid (show (w1.setCell ⟨w.heap.size + 1, 0, none⟩ (.slice A1 N c1)).ownsRow w.heap.size 87 8 (.slice A1 N c1) N cells from
      own_base (ownsRow_of_block (by simpa using own1) (fun g hg => heap_setCell_other _ _ _ _ (by have := (own1.lt g hg).1; dsimp only; omega))) (by omega))
    have HB := Lib.hid (show Below w.heap.size w (w1.setCell ⟨w.heap.size + 1, 0, none⟩ (.slice A1 N c1)) from
      (((((Below.refl _ _).alloc (Nat.le_refl _) _).alloc (by simp) _).alloc (by simp; omega) _).grown hg1 (by simp; omega) (by intro g hg; injection hg with hg; omega)).setCell (by dsimp only; omega) _)
    have HS1 := Lib.hid s1
    clear own1 hg1 kb s1
    go_wp2
    refine bodyPost_ret (v := .agg #[.slice A1 N c1]) (by simp [results, Tryz.results56, go_sem, q0]) rfl (HG.out _ _ ⟨A1, c1, rfl, OWN.out, HB.out⟩)
set_option maxHeartbeats 1600000 in
set_option maxRecDepth 100000 in
theorem rsameT_any (A B : Option Addr) (ca cb : Nat) (ns ms : List Nd) (w : World) (hA : NdsAt w A ns) (hB : NdsAt w B ms) (hz : ns.length ≤ 1000000) (_hz2 : ms.length ≤ 1000000) :
    Calls Tryz.prog 29 #[.agg #[.slice A ns.length ca], .agg #[.slice B ms.length cb]] w fun e w' => e = .returned (.bool (eqUp ndEq ns ms)) ∧ Below w.heap.size w w' := by
  have HB0 := Lib.hid (fun o1 o2 => show Below w.heap.size w ((w.alloc o1).alloc o2) from ((Below.refl _ _).alloc (Nat.le_refl _) _).alloc (by simp) _)
  by_cases hlen : ns.length = ms.length
  case neg =>
    have HF := Lib.hid (eqUp_len ndEq ns ms hlen)
    generalize ns.length = n at hlen hz ⊢
    generalize ms.length = m at hlen _hz2 ⊢
    have hne : ((n : Int) == (m : Int)) = false := by rw [beq_eq_false_iff_ne]; omega
    go_enter Tryz.func29, Tryz.ntmps29
    go_wp2
    go_ret
    exact ⟨of_bool HF.out.symm, HB0.out _ _⟩
  obtain ⟨n, hn⟩ : ∃ n, n = ns.length := ⟨_, rfl⟩
  have HT := Lib.hid (fun k (hk : k = n) h0 => eqUp_true ndEq ns ms k hlen (hk.trans hn) h0)
  have HX := Lib.hid (fun k u v h1 h2 h => eqUp_false ndEq ns ms k u v h1 h2 h)
  rw [← hlen, ← hn]
  rw [← hn] at hz
  have HN := Lib.hid hn
  have HN2 := Lib.hid (hn.trans hlen)
  generalize eqUp ndEq ns ms = R at HT HX ⊢
  clear hn hlen _hz2
  obtain ⟨W, hW⟩ : ∃ W, W = (w.alloc (.cells #[.slice A n ca] 27)).alloc (.cells #[.slice B n cb] 27) := ⟨_, rfl⟩
  have HB := Lib.hid (show Below w.heap.size w W from hW ▸ two_under _ _ _)
  have C0 := Lib.hid (show W.heap[w.heap.size]? = some (.cells #[.slice A n ca] 27 (0, 0)) by rw [hW, heap_alloc_other _ _ _ (by simp)]; exact heap_alloc_new _ _)
  have C1 := Lib.hid (show W.heap[w.heap.size + 1]? = some (.cells #[.slice B n cb] 27 (0, 0)) by
    rw [hW]; have := heap_alloc_new (w.alloc (.cells #[.slice A n ca] 27)) (.cells #[.slice B n cb] 27); simpa using this)
  have HNA := Lib.hid (hA.below HB.out)
  have HNB := Lib.hid (hB.below HB.out)
  clear hA hB
  go_enter Tryz.func29, Tryz.ntmps29
  go_wp2
  rw [← hW]
  clear hW
  go_loopw [5] (fun i wr => ∃ k : Nat, k ≤ n ∧ i = .int .i64 k ∧ Hid (Below W.heap.size W wr) ∧ Hid (((ns.zip ms).take k).all (fun p => ndEq p.1 p.2) = true)) (fun i _ => n - (intOf i).toNat)
  case atStart => exact ⟨0, Nat.zero_le _, rfl, Lib.hid (Below.refl _ _), Lib.hid (by simp)⟩
  case round =>
    obtain ⟨k, hk, rfl, hb, hall⟩ := hrel
    have D0 := Lib.hid (blk_keep hb.out C0.out)
    have D1 := Lib.hid (blk_keep hb.out C1.out)
    have x0 := cell_of_blk D0.out 0
    have x1 := cell_of_blk D1.out 0
    have hx0 := (Array.getElem?_eq_some_iff.1 D0.out).1
    have hx1 := (Array.getElem?_eq_some_iff.1 D1.out).1
    simp at x0 x1
    by_cases hlt : k < n
    · have hget : ns[k]? = some (ns[k]'(by have := HN.out; omega)) := List.getElem?_eq_getElem _
      obtain ⟨u, hu⟩ : ∃ u, u = ns[k]'(by have := HN.out; omega) := ⟨_, rfl⟩
      rw [← hu] at hget
      have hget2 : ms[k]? = some (ms[k]'(by have := HN2.out; omega)) := List.getElem?_eq_getElem _
      obtain ⟨v, hv⟩ : ∃ v, v = ms[k]'(by have := HN2.out; omega) := ⟨_, rfl⟩
      rw [← hv] at hget2
      obtain ⟨b, o, e1, hb1, hva⟩ := (HNA.out.below hb.out) k u hget
      obtain ⟨b', o', e1', hb1', hva'⟩ := (HNB.out.below hb.out) k v hget2
      subst e1 e1'
      have GET := Lib.hid hget
      have GET2 := Lib.hid hget2
      obtain ⟨y0, y1, y2, y3, y4, y5, y6, y7⟩ := hva
      obtain ⟨z0, z1, z2, z3, z4, z5, z6, z7⟩ := hva'
      obtain ⟨uk, ud, us, ut, um, ust, umn, umx⟩ := u
      obtain ⟨vk, vd, vs, vt, vm, vst, vmn, vmx⟩ := v
      dsimp only at y0 y1 y2 y3 y4 y5 y6 y7 z0 z1 z2 z3 z4 z5 z6 z7
      clear hu hv hget hget2
      have he := fun w => eqNd uk vk ud vd us vs ut vt ust vst umn vmn umx vmx um vm w
      obtain ⟨Q, hQ⟩ : ∃ Q, (ndEq ⟨uk, ud, us, ut, um, ust, umn, umx⟩ ⟨vk, vd, vs, vt, vm, vst, vmn, vmx⟩) = Q := ⟨_, rfl⟩
      rw [hQ] at he
      have HQ := Lib.hid hQ
      clear hQ
      cases Q with
      | true =>
        simp only [Bool.not_true] at he
        go_wp2
        refine wp_region_later (by kernel_rfl) (by kernel_rfl) ?_; (repeat (first | go_big_quiet_step (fail) | quiet_step (fail))); refine wpQuiet_nil ?_; rintro _ ⟨s, rfl⟩
        go_wp2
        go_roundw
        case rel => exact ⟨k + 1, by omega, by go_num, Lib.hid (hb.out.trans (s.below.mono hb.out.size)), Lib.hid (allz_step _ _ k (_, _) (zip_at GET.out GET2.out) hall.out HQ.out)⟩
        case measure => simp [intOf]; omega
      | false =>
        simp only [Bool.not_false] at he
        have HR := Lib.hid (HX.out k _ _ GET.out GET2.out HQ.out)
        go_wp2
        refine wp_region_later (by kernel_rfl) (by kernel_rfl) ?_; (repeat (first | go_big_quiet_step (fail) | quiet_step (fail))); refine wpQuiet_nil ?_; rintro _ ⟨s, rfl⟩
        go_wp2
        go_ret
        exact ⟨of_bool HR.out.symm, below_more HB.out (hb.out.trans (s.below.mono hb.out.size))⟩
    · obtain rfl : k = n := by omega
      have HR := Lib.hid (HT.out k rfl hall.out)
      go_wp2
      go_ret
      exact ⟨of_bool HR.out.symm, below_more HB.out hb.out⟩
open Go.RowKit
theorem own_set {w : World} {base : Nat} {e : TypeId} {size : Nat} {v : Value} {n : Nat} {xs : List Value} (h : w.ownsRow base e size v n xs) {g : Nat} (hv : v.ownBlock = some g) (j : Nat) (u : Value) : (w.setCell ⟨g, j, none⟩ u).ownsRow base e size v n (xs.set j u) := by
  refine ⟨by rw [List.length_set]; exact h.1, ?_⟩
  rcases h.2 with ⟨rfl, _⟩ | ⟨g', cap, cur, rfl, hb, hg, hn, hc, hsz, htk⟩
  · cases hv
  · injection hv with hv
    have hv : g' = g := hv
    subst hv
    refine .inr ⟨g', cap, cur.setIfInBounds j u, rfl, hb, heap_setCell_same _ _ _ _ _ _ hg, hn, hc, by simpa using hsz, ?_⟩
    rw [Array.toList_setIfInBounds, List.take_set, htk]
theorem own_open {w : World} {base : Nat} {e : TypeId} {size : Nat} {A : Option Addr} {n c : Nat} {xs : List Value} (h : w.ownsRow base e size (.slice A n c) n xs) (h0 : 0 < n) :
    ∃ g, A = some ⟨g, 0, none⟩ ∧ base ≤ g ∧ g < w.heap.size ∧ n ≤ c ∧ c ≤ maxLen ∧ (∀ j u, xs[j]? = some u → w.cell? ⟨g, j, none⟩ = some u) ∧ ∀ o, w.frozen? ⟨g, o, none⟩ = false := by
  obtain ⟨A2, c2, hv, h1, h2, h3, h4⟩ := own_slice h
  injection hv with e1 e2 e3
  subst e1 e3
  cases A with
  | none => have := h4 rfl; omega
  | some ad =>
    obtain ⟨g, rfl, hb, hg, hc⟩ := h3 ad rfl
    refine ⟨g, rfl, hb, hg, h1, h2, hc, fun o => ?_⟩
    rcases h.2 with ⟨hv, _⟩ | ⟨g', cap, cur, hv, _, hg', _⟩
    · cases hv
    · injection hv with e1 e2 e3
      injection e1 with e1
      injection e1 with e1 _ _
      subst e1
      exact free_of_blk hg' o
theorem flat_set {α : Type} {f : α → List Value} {c : Nat} (hf : ∀ x, (f x).length = c) : ∀ (l : List α) (k : Nat) (x y : α) (j : Nat) (u : Value), l[k]? = some x → j < c → f y = (f x).set j u → (l.flatMap f).set (k * c + j) u = (l.set k y).flatMap f
  | [], _, _, _, _, _, h, _, _ => by simp at h
  | z :: r, 0, x, y, j, u, h, hj, e => by
    simp at h; subst h
    rw [List.flatMap_cons, List.set_cons_zero, List.flatMap_cons, Nat.zero_mul, Nat.zero_add, List.set_append_left _ _ (by rw [hf]; exact hj), e]
  | z :: r, k + 1, x, y, j, u, h, hj, e => by
    rw [List.flatMap_cons, List.set_cons_succ, List.flatMap_cons, List.set_append_right _ _ (by rw [hf, Nat.succ_mul]; omega), hf, show (k + 1) * c + j - c = k * c + j by rw [Nat.succ_mul]; omega]
    rw [flat_set hf r k x y j u (by simpa using h) hj e]
def Nd.atD (n : Nd) (d : Int) : Nd := { n with depth := d }
theorem Nd.atD_cells (n : Nd) (d : Int) : (n.atD d).cells = n.cells.set 1 (.int .i64 d) := rfl
def lowerN (d : Int) (n : Nd) : Nd := n.atD (n.depth - d)
theorem map_set {α : Type} (f : α → α) {l : List α} {k : Nat} {x : α} (h : l[k]? = some x) : ((l.take k).map f ++ l.drop k).set k (f x) = (l.take (k + 1)).map f ++ l.drop (k + 1) := by
  obtain ⟨hk, e⟩ := List.getElem?_eq_some_iff.1 h
  have h1 : ((l.take k).map f).length = k := by rw [List.length_map, List.length_take]; omega
  rw [List.set_append_right _ _ (by omega), h1, Nat.sub_self, List.drop_eq_getElem_cons hk, List.set_cons_zero, List.take_succ_eq_append_getElem hk, e]
  simp
theorem map_at {α : Type} (f : α → α) {l : List α} {k : Nat} {x : α} (h : l[k]? = some x) : ((l.take k).map f ++ l.drop k)[k]? = some x := by
  obtain ⟨hk, e⟩ := List.getElem?_eq_some_iff.1 h
  have h1 : ((l.take k).map f).length = k := by rw [List.length_map, List.length_take]; omega
  rw [List.getElem?_append_right (by omega), h1, Nat.sub_self, List.getElem?_drop, Nat.add_zero, h]
theorem eq_nil_in {P : Program} (w : World) (d : Nat) (t e : TypeId) (A : Option Addr) (n c : Nat) (h : P.underlying t = some (.slice e)) :
    (Op.equalIn (d + 1) t (.slice A n c) (.slice none 0 0)).run P w = .ok A.isNone w := by
  cases A <;> simp [Op.equalIn, run_underlying h]
theorem eq_nil_equal {P : Program} (w : World) (t : TypeId) (A : Option Addr) (n c : Nat) {e : TypeId} (h : P.underlying t = some (.slice e)) :
    (Op.equal t (.slice A n c) (.slice none 0 0)).run P w = .ok A.isNone w := eq_nil_in w 9999 t e A n c h
theorem eq_nil_nds (A : Option Addr) (n c : Nat) (w : World) : (binOp .eql 25 (.slice A n c) (.slice none 0 0)).run Tryz.prog w = .ok (.bool A.isNone) w := by
  simp only [binOp]
  simp [eq_nil_equal _ _ _ _ _ Tryz.underlying25]
set_option maxRecDepth 100000 in
theorem cloneN_any (A : Option Addr) (cap : Nat) (ns : List Nd) (w : World) (hn : NdsAt w A ns) (hc1 : ns.length ≤ cap) (_hc : cap ≤ maxLen) (hsm : ns.length ≤ 1000000) :
    Calls Tryz.prog 175 #[.slice A ns.length cap] w (GotRow w 87 8 ns.length (ns.flatMap Nd.cells)) := by
  have HNS := Lib.hid hn
  obtain ⟨N, hN⟩ : ∃ N, N = ns.length := ⟨_, rfl⟩
  have HN := Lib.hid hN
  rw [← hN] at hc1 hsm ⊢
  obtain ⟨cells, hcs⟩ : ∃ c, c = ns.flatMap Nd.cells := ⟨_, rfl⟩
  have HC := Lib.hid (show cells.length = N * 8 by rw [hcs, HN.out]; exact flat_len (f := Nd.cells) (fun _ => rfl) _)
  have HC0 := Lib.hid (fun (h : A = none) => show N = 0 by rw [HN.out]; exact nds_none HNS.out h)
  have HC1 := Lib.hid (show ∀ u ∈ cells, u.oneCell' = true by rw [hcs]; exact nds_one)
  have HC2 := Lib.hid (fun wx (hb : Below w.heap.size w wx) => show ∀ ad, A = some ad → ∀ j u, cells[j]? = some u → wx.cell? (ad.add j) = some u by rw [hcs]; exact nds_cells (HNS.out.below hb))
  rw [← hcs]
  unfold maxLen at _hc
  clear hn hN hcs
  have HSM := Lib.hid hsm
  obtain ⟨iv, hiv, hzv, hsv, hbv⟩ := info_hid infoNd
  cases A with
  | none =>
    obtain rfl : N = 0 := HC0.out rfl
    have hnil := fun w => eq_nil_nds none 0 cap w
    rw [show (none : Option Addr).isNone = true from rfl] at hnil
    have HE := Lib.hid (show cells = [] from List.eq_nil_of_length_eq_zero (by have := HC.out; omega))
    go_enter Tryz.func175, Tryz.ntmps175
    go_wp2
    go_ret
    rw [HE.out]
    exact ⟨none, 0, rfl, World.ownsRow_nil _ _ _ _, Below.refl _ _⟩
  | some ad =>
    have hnil := fun w => eq_nil_nds (some ad) N cap w
    rw [show (some ad : Option Addr).isNone = false from rfl] at hnil
    go_enter Tryz.func175, Tryz.ntmps175
    go_wp2_with (first
      | (at_builtin; refine wpList_append_src _ rfl (.tmp 5) (.tmp 6) 25 rfl w.heap.size 87 iv (.agg #[.int .i64 0, .int .i64 0, .int .i64 0, .int .i64 0, .bool false, .int .i64 0, .int .i64 0, .int .i64 0]) 8 64 Tryz.underlying25 hiv.out hzv.out hsv.out hbv.out rfl (by decide) (.slice (some ⟨w.heap.size, 0, none⟩) 0 0) 0 [] rfl ?own1 (some ad) N cap cells rfl HC.out HC0.out ?c1 HC1.out ?m1 ?b1 ?s1 N (Nat.zero_add _).symm ?_))
    case own1 => exact own_empty w 87 8
    case c1 => exact HC2.out _ (below_alloc _ _)
    case m1 => have := HSM.out; unfold maxLen; omega
    case b1 => have := HSM.out; omega
    case s1 => simp
    · intro A1 c1 w1 own1 hg1 _
      have HO := Lib.hid (show w1.ownsRow w.heap.size 87 8 (.slice A1 N c1) N cells by simpa using own1)
      have hg1 : (w.alloc (.cells #[] 87)).grownBy w1 (some w.heap.size) := hg1
      have HB := Lib.hid (show Below w.heap.size w w1 from (below_alloc w (.cells #[] 87)).grown hg1 (by simp) (by intro g hg; injection hg with hg; omega))
      clear own1 hg1
      go_wp2
      go_ret
      exact ⟨A1, c1, rfl, HO.out, HB.out⟩
set_option maxRecDepth 100000 in
set_option maxHeartbeats 4000000 in
theorem raise_any (A : Option Addr) (cap : Nat) (ns : List Nd) (d : Int) (w : World) (hn : NdsAt w A ns) (hc1 : ns.length ≤ cap) (hc : cap ≤ maxLen) (hsm : ns.length ≤ 1000000) (hd : 0 ≤ d ∧ d ≤ 4) (hdp : ∀ x ∈ ns, 0 ≤ x.depth ∧ x.depth ≤ 4) :
    Calls Tryz.prog 177 #[.slice A ns.length cap, .int .i64 d] w (GotRow w 87 8 ns.length ((ns.map (lowerN d)).flatMap Nd.cells)) := by
  have HCL := Lib.hid (cloneN_any A cap ns w hn hc1 hc hsm)
  have HDP := Lib.hid hdp
  obtain ⟨N, hN⟩ : ∃ N, N = ns.length := ⟨_, rfl⟩
  have HN := Lib.hid hN
  rw [← hN] at hsm HCL ⊢
  obtain ⟨hd0, hd4⟩ := hd
  clear hn hc1 hc hN hdp
  go_enter Tryz.func177, Tryz.ntmps177
  go_wp2_with fail
  refine HCL.out.mono ?_; rintro e w1 ⟨A1, c1, rfl, hown, hb⟩
  have HB1 := Lib.hid hb
  have HO1 := Lib.hid hown
  have hol := own_len hown
  have hcm := hol.1
  have hmm := hol.2.1
  unfold maxLen at hmm
  clear hown hb HCL hol
  go_wp2_with fail
  go_loopw [6, 11] (fun _ i wr => ∃ k : Nat, k ≤ N ∧ i = .int .i64 k ∧ Hid (wr.ownsRow w.heap.size 87 8 (.slice A1 N c1) N (((ns.take k).map (lowerN d) ++ ns.drop k).flatMap Nd.cells)) ∧ Hid (Below w.heap.size w wr)) (fun _ i _ => N - (intOf i).toNat)
  case atStart => exact ⟨0, Nat.zero_le _, rfl, by simpa using HO1, HB1⟩
  case round =>
    obtain ⟨k, hk, rfl, hown, hbw⟩ := hrel
    have HOW := Lib.hid hown.out
    have HBW := Lib.hid hbw.out
    clear hown hbw
    by_cases hlt : k < N
    · obtain ⟨x, hx⟩ : ∃ x, ns[k]? = some x := ⟨_, List.getElem?_eq_getElem (by have := HN.out; omega)⟩
      have hxd := HDP.out x (List.mem_of_getElem? hx)
      obtain ⟨g, rfl, hbg, hg, -, -, hcell, hfr⟩ := own_open HOW.out (by omega)
      have y1 : wr.cell? ⟨g, k * 8 + 1, none⟩ = some (.int .i64 x.depth) := hcell _ _ (by
        rw [flat_at (c := 8) (fun _ => rfl) _ _ _ (map_at (lowerN d) hx) 1 (by omega)]; rfl)
      have f1 := hfr (k * 8 + 1)
      have HO2 := Lib.hid (show (wr.setCell ⟨g, k * 8 + 1, none⟩ (.int .i64 (x.depth - d))).ownsRow w.heap.size 87 8 (.slice (some ⟨g, 0, none⟩) N c1) N (((ns.take (k + 1)).map (lowerN d) ++ ns.drop (k + 1)).flatMap Nd.cells) by
        have h1 := own_set HOW.out (g := g) rfl (k * 8 + 1) (.int .i64 (x.depth - d))
        rw [flat_set (c := 8) (fun _ => rfl) _ k x (lowerN d x) 1 _ (map_at (lowerN d) hx) (by omega) (Nd.atD_cells _ _), map_set (lowerN d) hx] at h1
        exact h1)
      have HB2 := Lib.hid (show Below w.heap.size w (wr.setCell ⟨g, k * 8 + 1, none⟩ (.int .i64 (x.depth - d))) from HBW.out.setCell hbg _)
      obtain ⟨dx, hdx⟩ : ∃ dx, dx = x.depth := ⟨_, rfl⟩
      rw [← hdx] at hxd y1 HO2 HB2
      have hwr : IntKind.i64.wrap (dx - d) = dx - d := IntWalk.i64_in _ (by omega)
      clear hx hcell hfr hdx
      go_wp2_with fail
      go_roundw
      case rel => exact ⟨k + 1, by omega, by go_num, HO2, HB2⟩
      case measure => simp [intOf]; omega
    · obtain rfl : k = N := by omega
      have HT := Lib.hid (show (ns.take k).map (lowerN d) ++ ns.drop k = ns.map (lowerN d) by rw [HN.out, List.take_length, List.drop_length, List.append_nil])
      go_wp2_with fail
      go_ret
      rw [← HT.out]
      exact ⟨A1, c1, rfl, HOW.out, HBW.out⟩
open Go.RowKit
def plainErr (n : Nd) : Int := if n.sign = 0 ∧ n.turn = 0 ∧ n.mirror = false ∧ n.state = 0 ∧ n.min = 0 ∧ n.max = 0 then 0 else 20
def nodeErr (l : Li) (before : List Nd) (n : Nd) : Int :=
  if n.kind < 1 ∨ 7 < n.kind then 20
  else if n.depth < 0 ∨ deepR before < n.depth then 21
  else if n.kind = 1 then glyphErr l n
  else if n.kind = 6 then gapErr n
  else plainErr n
set_option maxRecDepth 100000 in
set_option maxHeartbeats 8000000 in
theorem checkNode_any (L : Lm) (A : Option Addr) (cap i : Nat) (ns : List Nd) (u : Nd) (w : World) (hl : LmOk w L) (hn : NdsAt w A ns) (hc1 : ns.length ≤ cap) (hc : cap ≤ maxLen) (hi : ns[i]? = some u) (hd : ∀ x ∈ ns.take i, 0 ≤ x.depth ∧ x.depth ≤ 4) :
    Calls Tryz.prog 117 #[L.val, .slice A ns.length cap, .int .i64 i] w fun e w' => e = .returned (.int .i64 (nodeErr L.li (ns.take i) u)) ∧ Below w.heap.size w w' := by
  have hin : i < ns.length := (List.getElem?_eq_some_iff.1 hi).1
  have HDP := Lib.hid (fun wx (hb : Below w.heap.size w wx) => show Calls Tryz.prog 152 #[.slice A i cap] wx (fun e w' => e = .returned (.int .i64 (deepR (ns.take i))) ∧ Below wx.heap.size wx w') by
    have h1 : (ns.take i).length = i := by rw [List.length_take]; omega
    have := deepest_any (ns.take i) A cap wx ((hn.below hb).take i) (by omega) hc hd
    rw [h1] at this; exact this)
  have HGL := Lib.hid (fun wx (hb : Below w.heap.size w wx) => show Calls Tryz.prog 153 #[.agg #[.int .i64 L.per, .slice L.A L.ms.length L.cap], u.val] wx (fun e w' => e = .returned (.int .i64 (glyphErr L.li u)) ∧ Below wx.heap.size wx w') from checkGlyph_any L u wx (hl.below hb))
  have HGP := Lib.hid (fun wx (h : u.kind = 6) => checkGap_any u wx h)
  obtain ⟨b, o, hA, hblt, hva⟩ := hn i u hi
  subst hA
  obtain ⟨y0, y1, y2, y3, y4, y5, y6, y7⟩ := hva
  obtain ⟨N, hN⟩ : ∃ N, N = ns.length := ⟨_, rfl⟩
  obtain ⟨D, hD⟩ : ∃ D, D = deepR (ns.take i) := ⟨_, rfl⟩
  obtain ⟨l, hli⟩ : ∃ l, l = L.li := ⟨_, rfl⟩
  have HE := Lib.hid (show nodeErr L.li (ns.take i) u = if u.kind < 1 ∨ 7 < u.kind then 20 else if u.depth < 0 ∨ D < u.depth then 21 else if u.kind = 1 then glyphErr l u else if u.kind = 6 then gapErr u else plainErr u by rw [hD, hli]; rfl)
  rw [← hN] at hc1 hin ⊢
  rw [← hD] at HDP
  rw [← hli] at HGL
  generalize nodeErr L.li (ns.take i) u = R at HE ⊢
  unfold maxLen at hc
  clear hn hd hl hi hN hD hli
  unfold Lm.val
  obtain ⟨kind, depth, sign, turn, mirror, state, mn, mx⟩ := u
  dsimp only at y0 y1 y2 y3 y4 y5 y6 y7 HE HGP
  unfold Nd.val at HGL HGP
  dsimp only at HGL HGP
  obtain ⟨W, hW⟩ : ∃ W, W = (w.alloc (.cells #[.int .i64 L.per, .slice L.A L.ms.length L.cap] 24)).alloc (.cells #[.int .i64 kind, .int .i64 depth, .int .i64 sign, .int .i64 turn, .bool mirror, .int .i64 state, .int .i64 mn, .int .i64 mx] 87) := ⟨_, rfl⟩
  have HB := Lib.hid (show Below w.heap.size w W from hW ▸ two_under _ _ _)
  have HX0 := Lib.hid (show W.heap[w.heap.size]? = some (.cells #[.int .i64 L.per, .slice L.A L.ms.length L.cap] 24 (0, 0)) by rw [hW, heap_alloc_other _ _ _ (by simp)]; exact heap_alloc_new _ _)
  have HX1 := Lib.hid (show W.heap[w.heap.size + 1]? = some (.cells #[.int .i64 kind, .int .i64 depth, .int .i64 sign, .int .i64 turn, .bool mirror, .int .i64 state, .int .i64 mn, .int .i64 mx] 87 (0, 0)) by
    rw [hW]; have := heap_alloc_new (w.alloc (.cells #[.int .i64 L.per, .slice L.A L.ms.length L.cap] 24)) (.cells #[.int .i64 kind, .int .i64 depth, .int .i64 sign, .int .i64 turn, .bool mirror, .int .i64 state, .int .i64 mn, .int .i64 mx] 87); simpa using this)
  by_cases h1 : kind < 1
  · have HF := Lib.hid (show R = 20 by rw [HE.out, if_pos (.inl h1)])
    clear HE hW
    go_enter Tryz.func117, Tryz.ntmps117
    go_wp2
    go_ret
    exact ⟨of_int HF.out.symm, two_under _ _ _⟩
  by_cases h2 : 7 < kind
  · have HF := Lib.hid (show R = 20 by rw [HE.out, if_pos (.inr h2)])
    clear HE hW
    go_enter Tryz.func117, Tryz.ntmps117
    go_wp2
    go_ret
    exact ⟨of_int HF.out.symm, two_under _ _ _⟩
  have HE2 := Lib.hid (show R = if depth < 0 ∨ D < depth then 21 else if kind = 1 then glyphErr l ⟨kind, depth, sign, turn, mirror, state, mn, mx⟩ else if kind = 6 then gapErr ⟨kind, depth, sign, turn, mirror, state, mn, mx⟩ else plainErr ⟨kind, depth, sign, turn, mirror, state, mn, mx⟩ by rw [HE.out, if_neg (by omega)])
  clear HE
  have hWs : w.heap.size + 1 < W.heap.size := (Array.getElem?_eq_some_iff.1 HX1.out).1
  have hW0 : w.heap.size < W.heap.size := by omega
  have hd1 : decide (kind < 1) = false := decide_eq_false h1
  have hd2 : decide (7 < kind) = false := decide_eq_false h2
  go_enter Tryz.func117, Tryz.ntmps117
  go_upto_region 4 with fail
  rw [← hW]
  clear hW y0 y1 y2 y3 y4 y5 y6 y7
  have x1 := cell_of_blk HX1.out 1
  simp at x1
  by_cases h3 : depth < 0
  · have HF := Lib.hid (show R = 21 by rw [HE2.out, if_pos (.inl h3)])
    have hd3 : decide (depth < 0) = true := decide_eq_true h3
    refine wp_region_later (by kernel_rfl) (by kernel_rfl) ?_; (repeat (first | go_big_quiet_step (fail) | quiet_step (fail))); refine wpQuiet_nil ?_; rintro _ ⟨s, rfl⟩
    have HB5 := Lib.hid (below_more HB.out s.below)
    generalize s.w = W5 at HB5 ⊢
    go_wp2
    go_ret
    exact ⟨of_int HF.out.symm, HB5.out⟩
  have hd3 : decide (depth < 0) = false := decide_eq_false h3
  by_cases h4 : D < depth
  · have HF := Lib.hid (show R = 21 by rw [HE2.out, if_pos (.inr h4)])
    have hd4 : decide (D < depth) = true := decide_eq_true h4
    refine wp_region_later (by kernel_rfl) (by kernel_rfl) ?_; (repeat (first | go_big_quiet_step (((go_at_call 152; exact Calls.later _ (HDP.out _ (below_more HB.out (Later.below _)))))) | quiet_step (((go_at_call 152; exact Calls.later _ (HDP.out _ (below_more HB.out (Later.below _)))))))); refine wpQuiet_nil ?_; rintro _ ⟨s, rfl⟩
    have HB5 := Lib.hid (below_more HB.out s.below)
    generalize s.w = W5 at HB5 ⊢
    go_wp2
    go_ret
    exact ⟨of_int HF.out.symm, HB5.out⟩
  have hd4 : decide (D < depth) = false := decide_eq_false h4
  have HE3 := Lib.hid (show R = if kind = 1 then glyphErr l ⟨kind, depth, sign, turn, mirror, state, mn, mx⟩ else if kind = 6 then gapErr ⟨kind, depth, sign, turn, mirror, state, mn, mx⟩ else plainErr ⟨kind, depth, sign, turn, mirror, state, mn, mx⟩ by rw [HE2.out, if_neg (by omega)])
  clear HE2
  refine wp_region_later (by kernel_rfl) (by kernel_rfl) ?_; (repeat (first | go_big_quiet_step (((go_at_call 152; exact Calls.later _ (HDP.out _ (below_more HB.out (Later.below _)))))) | quiet_step (((go_at_call 152; exact Calls.later _ (HDP.out _ (below_more HB.out (Later.below _)))))))); refine wpQuiet_nil ?_; rintro _ ⟨s, rfl⟩
  have HB5 := Lib.hid (below_more HB.out s.below)
  have HY0 := Lib.hid (blk_keep s.below HX0.out)
  have HY1 := Lib.hid (blk_keep s.below HX1.out)
  generalize s.w = W5 at HB5 HY0 HY1 ⊢
  clear x1 HX0 HX1 hWs hW0 HDP hd3 hd4 hd1 hd2
  have x0 := cell_of_blk HY1.out 0
  have x1 := cell_of_blk HY1.out 1
  have x2 := cell_of_blk HY1.out 2
  have x3 := cell_of_blk HY1.out 3
  have x4 := cell_of_blk HY1.out 4
  have x5 := cell_of_blk HY1.out 5
  have x6 := cell_of_blk HY1.out 6
  have x7 := cell_of_blk HY1.out 7
  simp at x0 x1 x2 x3 x4 x5 x6 x7
  by_cases h5 : kind = 1
  · have HF := Lib.hid (show R = glyphErr l ⟨kind, depth, sign, turn, mirror, state, mn, mx⟩ by rw [HE3.out, if_pos h5])
    have hb5 : (kind == 1) = true := by simpa using h5
    have z0 := cell_of_blk HY0.out 0
    have z1 := cell_of_blk HY0.out 1
    simp at z0 z1
    clear h5 HE3
    go_wp2_with fail
    refine (HGL.out W5 HB5.out).mono ?_; rintro e w6 ⟨rfl, hb6⟩
    go_wp2
    go_ret
    exact ⟨of_int HF.out.symm, below_more HB5.out hb6⟩
  have hb5 : (kind == 1) = false := by simpa using h5
  by_cases h6 : kind = 6
  · have HF := Lib.hid (show R = gapErr ⟨kind, depth, sign, turn, mirror, state, mn, mx⟩ by rw [HE3.out, if_neg h5, if_pos h6])
    have hb6 : (kind == 6) = true := by simpa using h6
    have HG := Lib.hid (HGP.out W5 h6)
    clear h5 h6 HE3
    go_wp2_with fail
    refine HG.out.mono ?_; rintro e w6 ⟨rfl, hb7⟩
    go_wp2
    go_ret
    exact ⟨of_int HF.out.symm, below_more HB5.out hb7⟩
  have hb6 : (kind == 6) = false := by simpa using h6
  have HF := Lib.hid (show ∀ (a b : Int) (c : Bool) (d e f : Int), plainErr ⟨kind, depth, a, b, c, d, e, f⟩ = if a = 0 ∧ b = 0 ∧ c = false ∧ d = 0 ∧ e = 0 ∧ f = 0 then 0 else 20 from fun _ _ _ _ _ _ => rfl)
  have HF2 := Lib.hid (show R = plainErr ⟨kind, depth, sign, turn, mirror, state, mn, mx⟩ by rw [HE3.out, if_neg h5, if_neg h6])
  clear h5 h6 HE3
  go_wp2
  all_goals go_ret
  all_goals exact ⟨of_int (by rw [HF2.out, HF.out]; simp [*]), HB5.out⟩
open Go.RowKit
def kindAt (ns : List Nd) (j : Nat) : Int := (getN ns j).kind
def kidsFitB (ns : List Nd) (i : Nat) : Bool :=
  !decide (((kidsL ns i).length : Int) < (kidsR (kindAt ns i)).1) && !decide ((kidsR (kindAt ns i)).2 < ((kidsL ns i).length : Int)) && (kidsL ns i).all fun j => holdsB (kindAt ns i) (kindAt ns j) (kidsL ns i).length
theorem holds_is (kind kid n : Int) (w : World) (r : Bool) (h : holdsB kind kid n = r) : Calls Tryz.prog 157 #[.int .i64 kind, .int .i64 kid, .int .i64 n] w fun e w' => e = .returned (.bool r) ∧ w = w' := by
  rw [← h]; exact holds_any kind kid n w
set_option maxRecDepth 100000 in
set_option maxHeartbeats 8000000 in
theorem kidsFit_any (A : Option Addr) (cap i : Nat) (ns : List Nd) (u : Nd) (w : World) (hn : NdsAt w A ns) (hc1 : ns.length ≤ cap) (hc : cap ≤ maxLen) (hsm : ns.length ≤ 1000000) (hi : ns[i]? = some u) (hd : 0 ≤ u.depth ∧ u.depth ≤ 4) :
    Calls Tryz.prog 118 #[.slice A ns.length cap, .int .i64 i] w fun e w' => e = .returned (.bool (kidsFitB ns i)) ∧ Below w.heap.size w w' := by
  have hin : i < ns.length := (List.getElem?_eq_some_iff.1 hi).1
  have HKO := Lib.hid (fun wx (hb : Below w.heap.size w wx) => kidsOf_any A cap i ns u hi hc1 hc hsm (by omega) wx (hn.below hb))
  have HKA := Lib.hid (fun j (hj : j ∈ kidsL ns i) => kids_at hi hj)
  have HNS := Lib.hid hn
  obtain ⟨b, o, hA, hblt, hva⟩ := hn i u hi
  subst hA
  obtain ⟨y0, y1, y2, y3, y4, y5, y6, y7⟩ := hva
  have hkl : (kidsL ns i).length ≤ 1000000 := by
    unfold kidsL
    rw [hi]
    have h1 := List.length_filter_le (kidB ns u.depth) (List.range' (i + 1) (spanN ns u.depth i))
    have h2 := spanN_le ns u.depth i hin
    rw [List.length_range'] at h1
    show (List.filter (kidB ns u.depth) (List.range' (i + 1) (spanN ns u.depth i))).length ≤ _
    omega
  have hka : kindAt ns i = u.kind := by unfold kindAt; rw [getN_at hi]
  obtain ⟨N, hN⟩ : ∃ N, N = ns.length := ⟨_, rfl⟩
  obtain ⟨ks, hks⟩ : ∃ ks, ks = kidsL ns i := ⟨_, rfl⟩
  have HE := Lib.hid (show kidsFitB ns i = (!decide ((ks.length : Int) < (kidsR u.kind).1) && !decide ((kidsR u.kind).2 < (ks.length : Int)) && ks.all fun j => holdsB u.kind (kindAt ns j) ks.length) by
    unfold kidsFitB; rw [hka, hks])
  obtain ⟨⟨lo, hi2⟩, hkr⟩ : ∃ p, p = kidsR u.kind := ⟨_, rfl⟩
  have HKK := Lib.hid (fun wx => kidsOfKind_any u.kind wx)
  rw [← hkr] at HE HKK
  dsimp only at HE HKK
  rw [← hN] at hc1 hin HKO ⊢
  rw [← hks] at HKO HKA hkl
  have HN := Lib.hid hN
  generalize kidsFitB ns i = R at HE ⊢
  obtain ⟨kind, depth, sign, turn, mirror, state, mn, mx⟩ := u
  dsimp only at y0 y1 y2 y3 y4 y5 y6 y7 HE HKK
  unfold maxLen at hc
  clear hn hi hN hks hka hkr hd
  obtain ⟨n, hnn⟩ : ∃ n, n = ks.length := ⟨_, rfl⟩
  have HNK := Lib.hid hnn
  rw [← hnn] at hkl HE HKO
  clear hnn
  obtain ⟨W, hW⟩ : ∃ W, W = w.alloc (.cells #[.int .i64 kind, .int .i64 depth, .int .i64 sign, .int .i64 turn, .bool mirror, .int .i64 state, .int .i64 mn, .int .i64 mx] 87) := ⟨_, rfl⟩
  have HB := Lib.hid (show Below w.heap.size w W from hW ▸ below_alloc _ _)
  have HX := Lib.hid (show W.heap[w.heap.size]? = some (.cells #[.int .i64 kind, .int .i64 depth, .int .i64 sign, .int .i64 turn, .bool mirror, .int .i64 state, .int .i64 mn, .int .i64 mx] 87 (0, 0)) by rw [hW]; exact heap_alloc_new _ _)
  go_enter Tryz.func118, Tryz.ntmps118
  go_wp2_with fail
  rw [← hW]
  clear hW y0 y1 y2 y3 y4 y5 y6 y7
  refine (HKO.out W HB.out).mono ?_; rintro e w1 ⟨Ak, ck, rfl, hown, hb⟩
  have HB1 := Lib.hid (below_more HB.out hb)
  have HX1 := Lib.hid (blk_keep hb HX.out)
  have HNA := Lib.hid (row_ints hown)
  have hol := own_len hown
  have hck := hol.1
  have hcm := hol.2.1
  unfold maxLen at hcm
  clear hown hb hol HX HKO HB
  have x0 := cell_of_blk HX1.out 0
  simp at x0
  go_wp2_with fail
  refine (HKK.out _).mono ?_; rintro e w1' ⟨rfl, rfl⟩
  by_cases h1 : (n : Int) < lo
  · have HF := Lib.hid (show R = false by rw [HE.out, decide_eq_true h1]; rfl)
    clear HE
    go_wp2_with fail
    go_ret
    exact ⟨of_bool HF.out.symm, HB1.out⟩
  by_cases h2 : hi2 < (n : Int)
  · have HF := Lib.hid (show R = false by rw [HE.out, decide_eq_true h2]; simp)
    clear HE
    go_wp2_with fail
    go_ret
    exact ⟨of_bool HF.out.symm, HB1.out⟩
  have HF := Lib.hid (show R = ks.all fun j => holdsB kind (kindAt ns j) n by rw [HE.out, decide_eq_false h1, decide_eq_false h2]; rfl)
  clear HE x0
  go_wp2_with fail
  go_loopw [10, 36] (fun _ c wr => ∃ k : Nat, k ≤ n ∧ c = .int .i64 k ∧ Hid (((ks.take k).all fun j => holdsB kind (kindAt ns j) n) = true) ∧ Hid (Below w1.heap.size w1 wr)) (fun _ c _ => n - (intOf c).toNat)
  case atStart => exact ⟨0, Nat.zero_le _, rfl, Lib.hid (by simp), Lib.hid (Below.refl _ _)⟩
  case round =>
    obtain ⟨k, hk, rfl, hall, hbw⟩ := hrel
    have HBW := Lib.hid hbw.out
    have HAL := Lib.hid hall.out
    clear hbw hall
    by_cases hlt : k < n
    · obtain ⟨j, hj⟩ : ∃ j, ks[k]? = some j := ⟨_, List.getElem?_eq_getElem (by have := HNK.out; omega)⟩
      obtain ⟨ux, hux, -⟩ := HKA.out j (List.mem_of_getElem? hj)
      obtain ⟨kb, ko, hAk, hkb, hkc⟩ := HNA.out k j hj
      subst hAk
      obtain ⟨b', o', e, hb', hvx⟩ := HNS.out j ux hux
      injection e with e; injection e with e1 e2
      subst e1 e2
      have hjn : j < N := by rw [HN.out]; exact (List.getElem?_eq_some_iff.1 hux).1
      have y0 := (hvx.below (below_more HB1.out HBW.out) hb').c0
      have z0 := (HBW.out.cell (p := ⟨kb, ko + k, none⟩) hkb).trans hkc
      have x0 := cell_of_blk (blk_keep HBW.out HX1.out) 0
      simp at x0
      have hs0 : w.heap.size < wr.heap.size := (Array.getElem?_eq_some_iff.1 (blk_keep HBW.out HX1.out)).1
      have hs1 : b < wr.heap.size := by have := HBW.out.size; have := HB1.out.size; omega
      have HKJ := Lib.hid (show kindAt ns j = ux.kind by unfold kindAt; rw [getN_at hux])
      obtain ⟨kx, hkx⟩ : ∃ kx, kx = ux.kind := ⟨_, rfl⟩
      rw [← hkx] at y0 HKJ
      have HTK := Lib.hid (show (ks.take (k + 1)).all (fun j => holdsB kind (kindAt ns j) n) = ((ks.take k).all (fun j => holdsB kind (kindAt ns j) n) && holdsB kind kx n) by
        obtain ⟨hk', e⟩ := List.getElem?_eq_some_iff.1 hj
        rw [List.take_succ_eq_append_getElem hk', e, List.all_append]; simp [HKJ.out])
      have HJM := Lib.hid (List.mem_of_getElem? hj)
      clear hux hvx hkx hj hkc
      cases hh : holdsB kind kx n with
      | true =>
        have HH := Lib.hid (fun wx => holds_is kind kx n wx true hh)
        have HT2 := Lib.hid (show (ks.take (k + 1)).all (fun j => holdsB kind (kindAt ns j) n) = true by rw [HTK.out, HAL.out, hh]; rfl)
        clear hh
        go_wp2_with fail
        refine wp_region_later (by kernel_rfl) (by kernel_rfl) ?_; (repeat (first | go_big_quiet_step (((go_at_call 157; exact Calls.later_same _ (HH.out _)))) | quiet_step (((go_at_call 157; exact Calls.later_same _ (HH.out _)))))); refine wpQuiet_nil ?_; rintro _ ⟨s, rfl⟩
        have HB5 := Lib.hid (below_more HBW.out s.below)
        generalize s.w = W5 at HB5 ⊢
        go_wp2_with fail
        go_roundw
        case rel => exact ⟨k + 1, by omega, by go_num, HT2, HB5⟩
        case measure => simp [intOf]; omega
      | false =>
        have HH := Lib.hid (fun wx => holds_is kind kx n wx false hh)
        have HRF := Lib.hid (show R = false by
          rw [HF.out, List.all_eq_false]
          exact ⟨j, HJM.out, by rw [HKJ.out, hh]; simp⟩)
        clear hh
        go_wp2_with fail
        refine wp_region_later (by kernel_rfl) (by kernel_rfl) ?_; (repeat (first | go_big_quiet_step (((go_at_call 157; exact Calls.later_same _ (HH.out _)))) | quiet_step (((go_at_call 157; exact Calls.later_same _ (HH.out _)))))); refine wpQuiet_nil ?_; rintro _ ⟨s, rfl⟩
        have HB5 := Lib.hid (below_more (below_more HB1.out HBW.out) s.below)
        generalize s.w = W5 at HB5 ⊢
        go_wp2_with fail
        go_ret
        exact ⟨of_bool HRF.out.symm, HB5.out⟩
    · obtain rfl : k = n := by omega
      have HRT := Lib.hid (show R = true by
        rw [HF.out]
        have h := HAL.out
        rw [HNK.out, List.take_length] at h
        rw [HNK.out]; exact h)
      go_wp2_with fail
      go_ret
      exact ⟨of_bool HRT.out.symm, below_more HB1.out HBW.out⟩
open Go.RowKit
def nodesErr (l : Li) : List Nd → List Nd → Int
  | _, [] => 0
  | done, n :: r => if nodeErr l done n ≠ 0 then nodeErr l done n else nodesErr l (done ++ [n]) r
def fitsB (ns : List Nd) : Bool := (List.range ns.length).all (kidsFitB ns)
def textErr (l : Li) (ns : List Nd) : Int :=
  if checkErr l ≠ 0 then checkErr l else if 200 < ns.length then 2 else if nodesErr l [] ns ≠ 0 then nodesErr l [] ns else if fitsB ns then 0 else 20
theorem deepR_le {ns : List Nd} (h : ∀ x ∈ ns, 0 ≤ x.depth ∧ x.depth ≤ 4) : deepR ns ≤ 4 := by
  unfold deepR
  cases hx : ns[ns.length - 1]? with
  | none => simp
  | some x =>
    have := h x (List.mem_of_getElem? hx)
    dsimp only
    split
    · omega
    · split <;> omega
theorem nodeErr_depth {l : Li} {done : List Nd} {n : Nd} (h : nodeErr l done n = 0) (hd : ∀ x ∈ done, 0 ≤ x.depth ∧ x.depth ≤ 4) : 0 ≤ n.depth ∧ n.depth ≤ 4 := by
  have h4 := deepR_le hd
  unfold nodeErr at h
  split at h
  · omega
  · split at h
    · omega
    · omega
theorem nodesErr_at (l : Li) (ns : List Nd) (k : Nat) (u : Nd) (h : ns[k]? = some u) : nodesErr l (ns.take k) (ns.drop k) = if nodeErr l (ns.take k) u ≠ 0 then nodeErr l (ns.take k) u else nodesErr l (ns.take (k + 1)) (ns.drop (k + 1)) := by
  obtain ⟨hk, e⟩ := List.getElem?_eq_some_iff.1 h
  rw [List.drop_eq_getElem_cons hk, e, nodesErr]
  rw [List.take_succ_eq_append_getElem hk, e]
theorem depth_take {ns : List Nd} {k : Nat} {u : Nd} (h : ns[k]? = some u) (hd : ∀ x ∈ ns.take k, 0 ≤ x.depth ∧ x.depth ≤ 4) (hu : 0 ≤ u.depth ∧ u.depth ≤ 4) : ∀ x ∈ ns.take (k + 1), 0 ≤ x.depth ∧ x.depth ≤ 4 := by
  obtain ⟨hk, e⟩ := List.getElem?_eq_some_iff.1 h
  rw [List.take_succ_eq_append_getElem hk, e]
  intro x hx
  rcases List.mem_append.1 hx with hx | hx
  · exact hd x hx
  · simp at hx; subst hx; exact hu
theorem checkNode_is (L : Lm) (A : Option Addr) (cap i : Nat) (ns : List Nd) (u : Nd) (w : World) (hl : LmOk w L) (hn : NdsAt w A ns) (hc1 : ns.length ≤ cap) (hc : cap ≤ maxLen) (hi : ns[i]? = some u) (hd : ∀ x ∈ ns.take i, 0 ≤ x.depth ∧ x.depth ≤ 4) (r : Int) (h : nodeErr L.li (ns.take i) u = r) :
    Calls Tryz.prog 117 #[.agg #[.int .i64 L.per, .slice L.A L.ms.length L.cap], .slice A ns.length cap, .int .i64 i] w fun e w' => e = .returned (.int .i64 r) ∧ Below w.heap.size w w' := by
  rw [← h]; exact checkNode_any L A cap i ns u w hl hn hc1 hc hi hd
theorem kidsFit_is (A : Option Addr) (cap i : Nat) (ns : List Nd) (u : Nd) (w : World) (hn : NdsAt w A ns) (hc1 : ns.length ≤ cap) (hc : cap ≤ maxLen) (hsm : ns.length ≤ 1000000) (hi : ns[i]? = some u) (hd : 0 ≤ u.depth ∧ u.depth ≤ 4) (r : Bool) (h : kidsFitB ns i = r) :
    Calls Tryz.prog 118 #[.slice A ns.length cap, .int .i64 i] w fun e w' => e = .returned (.bool r) ∧ Below w.heap.size w w' := by
  rw [← h]; exact kidsFit_any A cap i ns u w hn hc1 hc hsm hi hd
set_option maxRecDepth 100000 in
set_option maxHeartbeats 8000000 in
theorem gcheck_any (L : Lm) (A : Option Addr) (cap : Nat) (ns : List Nd) (w : World) (hl : LmOk w L) (hn : NdsAt w A ns) (hc1 : ns.length ≤ cap) (hc : cap ≤ maxLen) :
    Calls Tryz.prog 69 #[L.val, .agg #[.slice A ns.length cap]] w fun e w' => e = .returned (.int .i64 (textErr L.li ns)) ∧ Below w.heap.size w w' := by
  obtain ⟨E, hE⟩ : ∃ E, E = checkErr L.li := ⟨_, rfl⟩
  have HCK := Lib.hid (fun wx (hb : Below w.heap.size w wx) => show Calls Tryz.prog 67 #[.agg #[.int .i64 L.per, .slice L.A L.ms.length L.cap]] wx (fun e w' => e = .returned (.int .i64 E) ∧ Below wx.heap.size wx w') by rw [hE]; exact check_any L wx (hl.below hb))
  have HNS := Lib.hid hn
  have HL := Lib.hid hl
  obtain ⟨R, hR⟩ : ∃ R, R = textErr L.li ns := ⟨_, rfl⟩
  have HE := Lib.hid (show R = if E ≠ 0 then E else if 200 < ns.length then 2 else if nodesErr L.li [] ns ≠ 0 then nodesErr L.li [] ns else if fitsB ns then 0 else 20 by rw [hR, hE]; rfl)
  rw [← hR]
  obtain ⟨N, hN⟩ : ∃ N, N = ns.length := ⟨_, rfl⟩
  have HN := Lib.hid hN
  rw [← hN] at hc1 HE ⊢
  have hc' := hc
  unfold maxLen at hc'
  have HCN := Lib.hid (fun wx (hb : Below w.heap.size w wx) (i : Nat) (u : Nd) (hi : ns[i]? = some u) (hd : ∀ x ∈ ns.take i, 0 ≤ x.depth ∧ x.depth ≤ 4) (r : Int) (h : nodeErr L.li (ns.take i) u = r) =>
    show Calls Tryz.prog 117 #[.agg #[.int .i64 L.per, .slice L.A L.ms.length L.cap], .slice A N cap, .int .i64 i] wx (fun e w' => e = .returned (.int .i64 r) ∧ Below wx.heap.size wx w') by
    have := checkNode_is L A cap i ns u wx (HL.out.below hb) (HNS.out.below hb) (by rw [← HN.out]; exact hc1) hc hi hd r h
    rw [← HN.out] at this; exact this)
  clear hl hn hE hR hN
  show Calls _ _ #[.agg #[.int .i64 L.per, .slice L.A L.ms.length L.cap], _] w _
  obtain ⟨W, hW⟩ : ∃ W, W = (w.alloc (.cells #[.int .i64 L.per, .slice L.A L.ms.length L.cap] 24)).alloc (.cells #[.slice A N cap] 27) := ⟨_, rfl⟩
  have HB := Lib.hid (show Below w.heap.size w W from hW ▸ two_under _ _ _)
  have HX0 := Lib.hid (show W.heap[w.heap.size]? = some (.cells #[.int .i64 L.per, .slice L.A L.ms.length L.cap] 24 (0, 0)) by rw [hW, heap_alloc_other _ _ _ (by simp)]; exact heap_alloc_new _ _)
  have HX1 := Lib.hid (show W.heap[w.heap.size + 1]? = some (.cells #[.slice A N cap] 27 (0, 0)) by
    rw [hW]; have := heap_alloc_new (w.alloc (.cells #[.int .i64 L.per, .slice L.A L.ms.length L.cap] 24)) (.cells #[.slice A N cap] 27); simpa using this)
  have HC := Lib.hid (fun w' (hb : Below W.heap.size W w') => show w'.cell? ⟨w.heap.size, 0, none⟩ = some (.int .i64 L.per) ∧ w'.cell? ⟨w.heap.size, 1, none⟩ = some (.slice L.A L.ms.length L.cap) ∧ w'.cell? ⟨w.heap.size + 1, 0, none⟩ = some (.slice A N cap) from
    ⟨cell_of_blk (blk_keep hb HX0.out) 0, cell_of_blk (blk_keep hb HX0.out) 1, cell_of_blk (blk_keep hb HX1.out) 0⟩)
  go_enter Tryz.func69, Tryz.ntmps69
  go_wp2_with fail
  rw [← hW]
  refine (HCK.out W HB.out).mono ?_; rintro e w1 ⟨rfl, hb⟩
  have HB1 := Lib.hid hb
  obtain ⟨x0, x1, x2⟩ := HC.out w1 hb
  clear hb hW HX0 HX1
  by_cases h0 : E = 0
  case neg =>
    have hbE : (E != 0) = true := by simpa using h0
    have HF := Lib.hid (show R = E by rw [HE.out, if_pos h0])
    clear h0 HE
    go_wp2_with fail
    go_ret
    exact ⟨of_int HF.out.symm, below_more HB.out HB1.out⟩
  subst h0
  by_cases h1 : 200 < N
  · have HF := Lib.hid (show R = 2 by rw [HE.out, if_neg (by simp), if_pos h1])
    clear HE
    go_wp2_with fail
    go_ret
    exact ⟨of_int HF.out.symm, below_more HB.out HB1.out⟩
  have HE2 := Lib.hid (show R = if nodesErr L.li [] ns ≠ 0 then nodesErr L.li [] ns else if fitsB ns then 0 else 20 by rw [HE.out, if_neg (by simp), if_neg h1])
  clear HE HCK
  have hd200 : decide (200 < N) = false := decide_eq_false h1
  go_wp2_with fail
  clear x0 x1 x2
  go_loopw [6, 7, 21] (fun _ _ c wr => ∃ k : Nat, k ≤ N ∧ c = .int .i64 k ∧ Hid (nodesErr L.li [] ns = nodesErr L.li (ns.take k) (ns.drop k)) ∧ Hid (∀ x ∈ ns.take k, 0 ≤ x.depth ∧ x.depth ≤ 4) ∧ Hid (Below W.heap.size W wr)) (fun _ _ c _ => N - (intOf c).toNat)
  case atStart => exact ⟨0, Nat.zero_le _, rfl, Lib.hid (by simp), Lib.hid (fun x hx => by simp at hx), HB1⟩
  case round =>
    obtain ⟨k, hk, rfl, hne, hdp, hbw⟩ := hrel
    have HBW := Lib.hid hbw.out
    have HNE := Lib.hid hne.out
    have HDP := Lib.hid hdp.out
    clear hbw hne hdp
    obtain ⟨x0, x1, x2⟩ := HC.out wr HBW.out
    by_cases hlt : k < N
    · obtain ⟨u, hu⟩ : ∃ u, ns[k]? = some u := ⟨_, List.getElem?_eq_getElem (by have := HN.out; omega)⟩
      obtain ⟨e0, he0⟩ : ∃ e0, nodeErr L.li (ns.take k) u = e0 := ⟨_, rfl⟩
      have HCC := Lib.hid (HCN.out wr (below_more HB.out HBW.out) k u hu HDP.out e0 he0)
      have HST := Lib.hid (nodesErr_at L.li ns k u hu)
      rw [he0] at HST
      have HD2 := Lib.hid (fun (h : e0 = 0) => depth_take hu HDP.out (nodeErr_depth (by rw [he0]; exact h) HDP.out))
      clear hu he0
      by_cases h2 : e0 = 0
      case neg =>
        have hbE : (e0 != 0) = true := by simpa using h2
        have HF := Lib.hid (show R = e0 by
          have h3 : nodesErr L.li [] ns = e0 := by rw [HNE.out, HST.out, if_pos h2]
          rw [HE2.out, h3, if_pos h2])
        clear h2 HST HE2 HD2
        go_wp2_with fail
        refine HCC.out.mono ?_; rintro e w3 ⟨rfl, hb3⟩
        go_wp2_with fail
        go_ret
        exact ⟨of_int HF.out.symm, below_more (below_more HB.out HBW.out) hb3⟩
      subst h2
      have HN3 := Lib.hid (show nodesErr L.li [] ns = nodesErr L.li (ns.take (k + 1)) (ns.drop (k + 1)) by rw [HNE.out, HST.out, if_neg (by simp)])
      have HD3 := Lib.hid (HD2.out rfl)
      clear HST HD2
      go_wp2_with fail
      refine HCC.out.mono ?_; rintro e w3 ⟨rfl, hb3⟩
      have HB3 := Lib.hid (below_more HBW.out hb3)
      clear hb3 x0 x1 x2
      go_wp2_with fail
      go_roundw
      case rel => exact ⟨k + 1, by omega, by go_num, HN3, HD3, HB3⟩
      case measure => simp [intOf]; omega
    · obtain rfl : k = N := by omega
      have HZ := Lib.hid (show nodesErr L.li [] ns = 0 by rw [HNE.out, HN.out, List.drop_length]; rfl)
      have HDA := Lib.hid (show ∀ x ∈ ns, 0 ≤ x.depth ∧ x.depth ≤ 4 by have := HDP.out; rw [HN.out, List.take_length] at this; exact this)
      have HE3 := Lib.hid (show R = if fitsB ns then 0 else 20 by rw [HE2.out, HZ.out, if_neg (by simp)])
      clear HE2 HZ HNE HDP HCN
      go_wp2_with fail
      clear x0 x1 x2
      obtain ⟨wo, rfl⟩ : ∃ wo : World, wo = wr := ⟨_, rfl⟩
      go_loopw [8, 36] (fun _ c wr => ∃ j : Nat, j ≤ k ∧ c = .int .i64 j ∧ Hid ((List.range j).all (kidsFitB ns) = true) ∧ Hid (Below W.heap.size W wr)) (fun _ c _ => k - (intOf c).toNat)
      case atStart => exact ⟨0, Nat.zero_le _, rfl, Lib.hid (by simp), HBW⟩
      case round =>
        obtain ⟨j, hj, rfl, hall, hbw⟩ := hrel
        have HBJ := Lib.hid hbw.out
        have HAL := Lib.hid hall.out
        clear hbw hall
        obtain ⟨x0, x1, x2⟩ := HC.out wr HBJ.out
        by_cases hlj : j < k
        · obtain ⟨u, hu⟩ : ∃ u, ns[j]? = some u := ⟨_, List.getElem?_eq_getElem (by have := HN.out; omega)⟩
          have HSS := Lib.hid (show (List.range (j + 1)).all (kidsFitB ns) = ((List.range j).all (kidsFitB ns) && kidsFitB ns j) by rw [List.range_succ, List.all_append]; simp)
          obtain ⟨r, hr⟩ : ∃ r, kidsFitB ns j = r := ⟨_, rfl⟩
          have HKF := Lib.hid (show Calls Tryz.prog 118 #[.slice A k cap, .int .i64 j] wr (fun e w' => e = .returned (.bool r) ∧ Below wr.heap.size wr w') by
            have := kidsFit_is A cap j ns u wr (HNS.out.below (below_more HB.out HBJ.out)) (by rw [← HN.out]; exact hc1) hc (by rw [← HN.out]; omega) hu (HDA.out u (List.mem_of_getElem? hu)) r hr
            rw [← HN.out] at this; exact this)
          rw [hr] at HSS
          have HRR := Lib.hid hr
          clear hu hr
          cases r with
          | true =>
            go_wp2_with fail
            refine HKF.out.mono ?_; rintro e w3 ⟨rfl, hb3⟩
            have HB3 := Lib.hid (below_more HBJ.out hb3)
            clear hb3 x0 x1 x2
            go_wp2_with fail
            go_roundw
            case rel => exact ⟨j + 1, by omega, by go_num, Lib.hid (by rw [HSS.out, HAL.out]; rfl), HB3⟩
            case measure => simp [intOf]; omega
          | false =>
            have HF := Lib.hid (show R = 20 by
              rw [HE3.out, if_neg]
              unfold fitsB
              rw [Bool.not_eq_true, List.all_eq_false]
              exact ⟨j, List.mem_range.2 (by rw [← HN.out]; exact hlj), by rw [HRR.out]; simp⟩)
            go_wp2_with fail
            refine HKF.out.mono ?_; rintro e w3 ⟨rfl, hb3⟩
            go_wp2_with fail
            go_ret
            exact ⟨of_int HF.out.symm, below_more (below_more HB.out HBJ.out) hb3⟩
        · obtain rfl : j = k := by omega
          have HF := Lib.hid (show R = 0 by
            rw [HE3.out, if_pos]
            unfold fitsB
            rw [← HN.out]; exact HAL.out)
          go_wp2_with fail
          go_ret
          exact ⟨of_int HF.out.symm, below_more HB.out HBJ.out⟩
theorem spanN_drop (ns : List Nd) (d : Int) (q i : Nat) : spanN (ns.drop q) d i = spanN ns d (q + i) := by
  unfold spanN; rw [List.drop_drop, Nat.add_assoc]
theorem kidB_drop (ns : List Nd) (d : Int) (q j : Nat) : kidB (ns.drop q) d j = kidB ns d (q + j) := by
  unfold kidB; rw [List.getElem?_drop]
theorem kidsL_drop (ns : List Nd) (q i : Nat) : kidsL ns (q + i) = (kidsL (ns.drop q) i).map (fun j => q + j) := by
  unfold kidsL
  rw [List.getElem?_drop]
  cases h : ns[q + i]? with
  | none => rfl
  | some u =>
    dsimp only
    rw [spanN_drop, List.filter_congr (q := fun j => kidB ns u.depth (q + j)) (fun j _ => kidB_drop ns u.depth q j)]
    rw [show q + i + 1 = q + (i + 1) by omega, ← List.map_add_range', List.filter_map]
    rfl
theorem takeWhile_take {α : Type} (p : α → Bool) : ∀ (l : List α) (n : Nat), (l.takeWhile p).length ≤ n → (l.take n).takeWhile p = l.takeWhile p
  | [], n, _ => by simp
  | x :: l, 0, h => by
    cases hp : p x with
    | false => simp [hp]
    | true => simp [hp] at h
  | x :: l, n + 1, h => by
    rw [List.take_succ_cons, List.takeWhile_cons, List.takeWhile_cons]
    cases hp : p x with
    | false => rfl
    | true =>
      rw [List.takeWhile_cons, hp] at h
      simp only [if_true, List.length_cons] at h
      simp only [if_true]
      rw [takeWhile_take p l n (by omega)]
theorem span_in {l : List Nd} {u0 u : Nd} {m i : Nat} (h0 : l[0]? = some u0) (hm : m = 1 + spanN l u0.depth 0) (hi : l[i]? = some u) (him : i < m) : i + 1 + spanN l u.depth i ≤ m := by
  have hl : 0 < l.length := (List.getElem?_eq_some_iff.1 h0).1
  have hil : i < l.length := (List.getElem?_eq_some_iff.1 hi).1
  have hd : i = 0 ∧ u.depth = u0.depth ∨ u0.depth < u.depth := by
    rcases Nat.eq_zero_or_pos i with h | h
    · subst h
      rw [h0] at hi; injection hi with hi; subst hi
      exact .inl ⟨rfl, rfl⟩
    · obtain ⟨x, h1, h2⟩ := spanN_at (ns := l) (d := u0.depth) (i := 0) (k := i - 1) (by omega)
      rw [show 0 + 1 + (i - 1) = i by omega, hi] at h1
      injection h1 with h1; subst h1
      exact .inr h2
  rcases Nat.lt_or_ge m (i + 1 + spanN l u.depth i) with hlt | hge
  · exfalso
    obtain ⟨x, h1, h2⟩ := spanN_at (ns := l) (d := u.depth) (i := i) (k := m - (i + 1)) (by omega)
    rw [show i + 1 + (m - (i + 1)) = m by omega] at h1
    rcases spanN_end l u0.depth 0 hl with he | ⟨y, h3, h4⟩
    · have := (List.getElem?_eq_some_iff.1 h1).1; omega
    · rw [show 0 + 1 + spanN l u0.depth 0 = m by omega, h1] at h3
      injection h3 with h3; subst h3
      rcases hd with ⟨_, hd⟩ | hd <;> omega
  · exact hge
theorem kidsL_take {l : List Nd} {u0 : Nd} {m i : Nat} (h0 : l[0]? = some u0) (hm : m = 1 + spanN l u0.depth 0) (him : i < m) : kidsL (l.take m) i = kidsL l i := by
  unfold kidsL
  have e1 : (l.take m)[i]? = l[i]? := by rw [List.getElem?_take, if_pos him]
  rw [e1]
  cases hu : l[i]? with
  | none => rfl
  | some u =>
    dsimp only
    have h1 := span_in h0 hm hu him
    have e2 : spanN (l.take m) u.depth i = spanN l u.depth i := by
      unfold spanN
      have e3 : (l.take m).drop (i + 1) = (l.drop (i + 1)).take (m - (i + 1)) := by rw [List.drop_take]
      rw [e3, takeWhile_take]
      have : ((l.drop (i + 1)).takeWhile fun n => decide (u.depth < n.depth)).length = spanN l u.depth i := rfl
      omega
    rw [e2]
    refine List.filter_congr fun j hj => ?_
    rw [List.mem_range'_1] at hj
    unfold kidB
    rw [List.getElem?_take, if_pos (by omega)]
theorem partsW_grp : ∀ (n o : Nat) (l : List Nd), l.length ≤ n → ∀ p ∈ partsW o l, ∃ q u, p.1 = o + q ∧ (l.drop q)[0]? = some u ∧ p.2 = (l.drop q).take (1 + spanN (l.drop q) u.depth 0) := by
  intro n
  induction n with
  | zero => intro o l hl p hp; rw [List.eq_nil_of_length_eq_zero (by omega : l.length = 0), partsW_nil] at hp; cases hp
  | succ n ih =>
    intro o l hl p hp
    cases l with
    | nil => rw [partsW_nil] at hp; cases hp
    | cons u r =>
      rw [partsW_cons] at hp
      rcases List.mem_cons.1 hp with rfl | hp
      · exact ⟨0, u, rfl, rfl, rfl⟩
      · obtain ⟨q, x, h1, h2, h3⟩ := ih _ _ (by simp at hl ⊢; omega) p hp
        rw [List.drop_drop] at h2 h3
        exact ⟨1 + spanN (u :: r) u.depth 0 + q, x, by omega, h2, h3⟩
theorem kidsR_six (k : Int) : (kidsR k).2 ≤ 6 := by
  unfold kidsR; split
  · simp
  · split
    · simp
    · split <;> simp
theorem fits_at {ns : List Nd} (h : fitsB ns = true) (i : Nat) (hi : i < ns.length) : kidsFitB ns i = true := (List.all_eq_true.1 h) i (List.mem_range.2 hi)
theorem fits_six {ns : List Nd} (h : fitsB ns = true) (i : Nat) : (kidsL ns i).length ≤ 6 := by
  rcases Nat.lt_or_ge i ns.length with hi | hi
  · have h1 := fits_at h i hi
    unfold kidsFitB at h1
    simp only [Bool.and_eq_true, Bool.not_eq_true', decide_eq_false_iff_not] at h1
    have := kidsR_six (kindAt ns i)
    omega
  · unfold kidsL; rw [List.getElem?_eq_none hi]; simp
theorem fits_hon {ns : List Nd} (h : fitsB ns = true) {i : Nat} {u : Nd} (hu : ns[i]? = some u) (hk : u.kind = 7) : 2 ≤ (kidsL ns i).length := by
  have h1 := fits_at h i (List.getElem?_eq_some_iff.1 hu).1
  unfold kidsFitB kindAt at h1
  rw [getN_at hu, hk] at h1
  simp only [Bool.and_eq_true, Bool.not_eq_true', decide_eq_false_iff_not] at h1
  have e : (kidsR 7).1 = 2 := by decide
  rw [e] at h1
  omega
theorem lin_ok {ns : List Nd} (hd : ∀ x ∈ ns, 0 ≤ x.depth ∧ x.depth ≤ 4) (hf : fitsB ns = true) : LinOk ns := by
  intro p hp
  obtain ⟨q, u0, _, h0, h2⟩ := partsW_grp ns.length 0 ns (Nat.le_refl _) p hp
  have hlen : ∀ i, (kidsL p.2 i).length ≤ (kidsL ns (q + i)).length ∧ (i < p.2.length → (kidsL p.2 i).length = (kidsL ns (q + i)).length) := fun i => by
    rw [kidsL_drop, List.length_map]
    rcases Nat.lt_or_ge i p.2.length with hi | hi
    · have him : i < 1 + spanN (ns.drop q) u0.depth 0 := by rw [h2, List.length_take] at hi; omega
      have e : kidsL p.2 i = kidsL (ns.drop q) i := by rw [h2]; exact kidsL_take h0 rfl him
      rw [e]; exact ⟨Nat.le_refl _, fun _ => rfl⟩
    · refine ⟨?_, fun h => absurd h (by omega)⟩
      unfold kidsL; rw [List.getElem?_eq_none hi]; simp
  refine ⟨fun x hx => hd x ?_, fun i u hi hk => ?_, fun i => Nat.le_trans (hlen i).1 (fits_six hf _)⟩
  · rw [h2] at hx; exact List.mem_of_mem_drop (List.mem_of_mem_take hx)
  · have hil := (List.getElem?_eq_some_iff.1 hi).1
    rw [(hlen i).2 hil]
    have hu : ns[q + i]? = some u := by
      rw [h2, List.getElem?_take] at hi
      split at hi
      · rw [List.getElem?_drop] at hi; exact hi
      · cases hi
    have := fits_hon hf hu hk
    omega
theorem nodes_depth (l : Li) : ∀ (r done : List Nd), nodesErr l done r = 0 → (∀ x ∈ done, 0 ≤ x.depth ∧ x.depth ≤ 4) → ∀ x ∈ r, 0 ≤ x.depth ∧ x.depth ≤ 4
  | [], _, _, _ => fun x hx => by cases hx
  | n :: r, done, h, hd => by
    rw [nodesErr] at h
    split at h
    · rename_i h1; exact absurd h h1
    · rename_i h1
      have h1 : nodeErr l done n = 0 := by simpa using h1
      have hn := nodeErr_depth h1 hd
      intro x hx
      rcases List.mem_cons.1 hx with rfl | hx
      · exact hn
      · exact nodes_depth l r (done ++ [n]) h (fun y hy => by
          rcases List.mem_append.1 hy with hy | hy
          · exact hd y hy
          · simp at hy; subst hy; exact hn) x hx
theorem text_ok {l : Li} {ns : List Nd} (h : textErr l ns = 0) : checkErr l = 0 ∧ ns.length ≤ 200 ∧ nodesErr l [] ns = 0 ∧ fitsB ns = true ∧ (∀ x ∈ ns, 0 ≤ x.depth ∧ x.depth ≤ 4) ∧ LinOk ns := by
  unfold textErr at h
  split at h
  · rename_i h1; exact absurd h h1
  · rename_i h1
    split at h
    · omega
    · rename_i h2
      split at h
      · rename_i h3; exact absurd h h3
      · rename_i h3
        split at h
        · rename_i h4
          have h3 : nodesErr l [] ns = 0 := by simpa using h3
          have hd := nodes_depth l ns [] h3 (fun x hx => by cases hx)
          exact ⟨by simpa using h1, by omega, h3, h4, hd, lin_ok hd h4⟩
        · omega
open Go.RowKit
def intsZ (l : List Int) : List Value := l.map fun z => .int .i64 z
def GotIntsE (w : World) (q : List Int × Int) (e : Ending) (w' : World) : Prop :=
  ∃ A c, e = .returned (.tuple #[.slice A q.1.length c, .int .i64 q.2]) ∧ w'.ownsRow w.heap.size 3 1 (.slice A q.1.length c) q.1.length (intsZ q.1) ∧ Below w.heap.size w w'
theorem gcheck_is (L : Lm) (A : Option Addr) (cap : Nat) (ns : List Nd) (w : World) (hl : LmOk w L) (hn : NdsAt w A ns) (hc1 : ns.length ≤ cap) (hc : cap ≤ maxLen) (r : Int) (h : textErr L.li ns = r) :
    Calls Tryz.prog 69 #[.agg #[.int .i64 L.per, .slice L.A L.ms.length L.cap], .agg #[.slice A ns.length cap]] w fun e w' => e = .returned (.int .i64 r) ∧ Below w.heap.size w w' := by
  rw [← h]; exact gcheck_any L A cap ns w hl hn hc1 hc
structure MkAt (w : World) (b p : Nat) (m : Mk) : Prop where
  c0 : w.cell? ⟨b, p, none⟩ = some (.int .i64 m.sign)
  c1 : w.cell? ⟨b, p + 1, none⟩ = some (.int .i64 m.state)
  c2 : w.cell? ⟨b, p + 2, none⟩ = some (.int .i64 m.min)
  c3 : w.cell? ⟨b, p + 3, none⟩ = some (.int .i64 m.max)
def MksAt (w : World) (A : Option Addr) (ms : List Mk) : Prop := ∀ k m, ms[k]? = some m → ∃ b o, A = some ⟨b, o, none⟩ ∧ b < w.heap.size ∧ MkAt w b (o + k * 4) m
theorem MksAt.below {w w' : World} {A : Option Addr} {ms : List Mk} (h : MksAt w A ms) (hb : Below w.heap.size w w') : MksAt w' A ms := fun k m hk => by
  obtain ⟨b, o, e, hlt, hv⟩ := h k m hk
  exact ⟨b, o, e, Nat.lt_of_lt_of_le hlt hb.size, ⟨(hb.cell (p := ⟨b, _, none⟩) hlt).trans hv.c0, (hb.cell (p := ⟨b, _, none⟩) hlt).trans hv.c1, (hb.cell (p := ⟨b, _, none⟩) hlt).trans hv.c2, (hb.cell (p := ⟨b, _, none⟩) hlt).trans hv.c3⟩⟩
end Go.Proofs.YtmiokllpdmmfhaaGreat
