/-
  Texts and papers: the specification's Copy and Same of texts; what the laws make of a paper.
-/
import Derived.Test.YtbfedahonfjpfaaGLin
import Derived.Test.YtbfedahonfjpfaaGVi2
import Derived.Test.YtbfedahonfjpfaaSameA
import Derived.Deep.RegionHeld3
namespace Go.Proofs.Ytbfedahonfjpfaa
open Go.RowKit

def ndEq (u v : Nd) : Bool := u.kind == v.kind && u.depth == v.depth && u.sign == v.sign && u.turn == v.turn && u.mirror == v.mirror && u.state == v.state && u.min == v.min && u.max == v.max
theorem ndEq_refl (u : Nd) : ndEq u u = true := by simp [ndEq]
theorem ndEq_eq {u v : Nd} (h : ndEq u v = true) : u = v := by
  obtain ⟨a, b, c, d, e, f, g, i⟩ := u
  obtain ⟨a', b', c', d', e', f', g', i'⟩ := v
  simp [ndEq] at h
  obtain ⟨⟨⟨⟨⟨⟨⟨h1, h2⟩, h3⟩, h4⟩, h5⟩, h6⟩, h7⟩, h8⟩ := h
  subst h1 h2 h3 h4 h5 h6 h7 h8; rfl
theorem eqNd (k k2 d d2 s s2 t t2 st st2 mn mn2 mx mx2 : Int) (m m2 : Bool) (w : World) :
    (binOp .neq 78 (.agg #[.int .i64 k, .int .i64 d, .int .i64 s, .int .i64 t, .bool m, .int .i64 st, .int .i64 mn, .int .i64 mx]) (.agg #[.int .i64 k2, .int .i64 d2, .int .i64 s2, .int .i64 t2, .bool m2, .int .i64 st2, .int .i64 mn2, .int .i64 mx2])).run Try.prog w =
      .ok (.bool (!(ndEq ⟨k, d, s, t, m, st, mn, mx⟩ ⟨k2, d2, s2, t2, m2, st2, mn2, mx2⟩))) w := by
  rw [run_neq_struct]
  simp [go_sem]
  by_cases h1 : k = k2
  case neg => simp [h1, ndEq]
  by_cases h2 : d = d2
  case neg => simp [h1, h2, ndEq]
  by_cases h3 : s = s2
  case neg => simp [h1, h2, h3, ndEq]
  by_cases h4 : t = t2
  case neg => simp [h1, h2, h3, h4, ndEq]
  by_cases h5 : m = m2
  case neg => simp [h1, h2, h3, h4, h5, ndEq]
  by_cases h6 : st = st2
  case neg => simp [h1, h2, h3, h4, h5, h6, ndEq]
  by_cases h7 : mn = mn2
  case neg => simp [h1, h2, h3, h4, h5, h6, h7, ndEq]
  by_cases h8 : mx = mx2 <;> simp [h1, h2, h3, h4, h5, h6, h7, h8, ndEq]

theorem nds_none {w : World} {A : Option Addr} {ns : List Nd} (h : NdsAt w A ns) : A = none → ns.length = 0 := by
  intro hA
  cases ns with
  | nil => rfl
  | cons x r => obtain ⟨b, o, e, _⟩ := h 0 x rfl; rw [hA] at e; cases e
theorem split8 (j : Nat) : ∃ k i, i < 8 ∧ j = k * 8 + i := ⟨j / 8, j % 8, Nat.mod_lt _ (by omega), by omega⟩
/-- the cells of a slice of nodes, as append reads them -/
theorem nds_cells {w : World} {A : Option Addr} {ns : List Nd} (h : NdsAt w A ns) : ∀ ad, A = some ad → ∀ j u, (ns.flatMap Nd.cells)[j]? = some u → w.cell? (ad.add j) = some u := by
  intro ad hA j u hj
  obtain ⟨k, i, hi, rfl⟩ := split8 j
  have hlt := (List.getElem?_eq_some_iff.1 hj).1
  rw [flat_len (c := 8) (fun _ => rfl)] at hlt
  have hk : k < ns.length := by omega
  have hg : ns[k]? = some ns[k] := List.getElem?_eq_getElem hk
  obtain ⟨b, o, e, _, hv⟩ := h k _ hg
  rw [hA] at e; injection e with e; subst e
  rw [flat_at (c := 8) (fun _ => rfl) _ _ _ hg i hi] at hj
  rw [addr_add]
  match i, hi, hj with
  | 0, _, hj => simp [Nd.cells] at hj; subst hj; exact hv.c0
  | 1, _, hj => simp [Nd.cells] at hj; subst hj; rw [show o + (k * 8 + 1) = o + k * 8 + 1 by omega]; exact hv.c1
  | 2, _, hj => simp [Nd.cells] at hj; subst hj; rw [show o + (k * 8 + 2) = o + k * 8 + 2 by omega]; exact hv.c2
  | 3, _, hj => simp [Nd.cells] at hj; subst hj; rw [show o + (k * 8 + 3) = o + k * 8 + 3 by omega]; exact hv.c3
  | 4, _, hj => simp [Nd.cells] at hj; subst hj; rw [show o + (k * 8 + 4) = o + k * 8 + 4 by omega]; exact hv.c4
  | 5, _, hj => simp [Nd.cells] at hj; subst hj; rw [show o + (k * 8 + 5) = o + k * 8 + 5 by omega]; exact hv.c5
  | 6, _, hj => simp [Nd.cells] at hj; subst hj; rw [show o + (k * 8 + 6) = o + k * 8 + 6 by omega]; exact hv.c6
  | 7, _, hj => simp [Nd.cells] at hj; subst hj; rw [show o + (k * 8 + 7) = o + k * 8 + 7 by omega]; exact hv.c7
theorem nds_one {ns : List Nd} : ∀ u ∈ ns.flatMap Nd.cells, u.oneCell' = true := by
  intro u hu
  obtain ⟨v, _, hv⟩ := List.mem_flatMap.1 hu
  exact nd_one v u hv

/-- a text that was made -/
def GotText (w : World) (ns : List Nd) (e : Ending) (w' : World) : Prop :=
  ∃ A c, e = .returned (.agg #[.slice A ns.length c]) ∧ w'.ownsRow w.heap.size 78 8 (.slice A ns.length c) ns.length (ns.flatMap Nd.cells) ∧ Below w.heap.size w w'

set_option maxHeartbeats 3200000 in
set_option maxRecDepth 100000 in
theorem rcopyT_any (A : Option Addr) (cap : Nat) (ns : List Nd) (w : World) (hn : NdsAt w A ns) (hc1 : ns.length ≤ cap) (hc : cap ≤ maxLen) (hsm : ns.length ≤ 1000000) :
    Calls Try.prog 42 #[.agg #[.slice A ns.length cap]] w (GotText w ns) := by
  have HNS := Lib.hid hn
  obtain ⟨N, hN⟩ : ∃ N, N = ns.length := ⟨_, rfl⟩
  have HN := Lib.hid hN
  have HG := Lib.hid (fun e w' (h : ∃ A c, e = Ending.returned (.agg #[.slice A N c]) ∧ w'.ownsRow w.heap.size 78 8 (.slice A N c) N (ns.flatMap Nd.cells) ∧ Below w.heap.size w w') => show GotText w ns e w' by
    rw [HN.out] at h; exact h)
  rw [← hN] at hc1 hsm ⊢
  obtain ⟨cells, hcs⟩ : ∃ c, c = ns.flatMap Nd.cells := ⟨_, rfl⟩
  have HC := Lib.hid (show cells.length = N * 8 by rw [hcs, HN.out]; exact flat_len (f := Nd.cells) (fun _ => rfl) _)
  have HC0 := Lib.hid (fun (h : A = none) => show N = 0 by rw [HN.out]; exact nds_none HNS.out h)
  have HC1 := Lib.hid (show ∀ u ∈ cells, u.oneCell' = true by rw [hcs]; exact nds_one)
  have HC2 := Lib.hid (fun wx (hb : Below w.heap.size w wx) => show ∀ ad, A = some ad → ∀ j u, cells[j]? = some u → wx.cell? (ad.add j) = some u by rw [hcs]; exact nds_cells (HNS.out.below hb))
  rw [← hcs] at HG
  unfold maxLen at hc
  clear hn hN hcs
  have HSM := Lib.hid hsm
  obtain ⟨iv, hiv, hzv, hsv, hbv⟩ := info_hid infoNd
  go_enter Try.func42, Try.ntmps42
  go_wp2_with (first
    | (at_builtin; refine wpList_append_src _ rfl (.tmp 3) (.tmp 5) 25 rfl (w.heap.size + 1 + 1) 78 iv (.agg #[.int .i64 0, .int .i64 0, .int .i64 0, .int .i64 0, .bool false, .int .i64 0, .int .i64 0, .int .i64 0]) 8 64 Try.underlying25 hiv.out hzv.out hsv.out hbv.out rfl (by decide) (.slice (some ⟨w.heap.size + 1 + 1, 0, none⟩) 0 0) 0 [] rfl ?own1 A N cap cells rfl HC.out HC0.out ?c1 HC1.out ?m1 ?b1 ?s1 N (Nat.zero_add _).symm ?_))
  case own1 => simpa using own_empty ((w.alloc (.cells #[.slice A N cap] 27)).alloc (.cells #[.slice none 0 0] 27)) 78 8
  case c1 => exact HC2.out _ ((((Below.refl _ _).alloc (Nat.le_refl _) _).alloc (by simp) _).alloc (by simp; omega) _)
  case m1 => have := HSM.out; unfold maxLen; omega
  case b1 => have := HSM.out; omega
  case s1 => simp
  · intro A1 c1 w1 own1 hg1 _
    have hg1 : (((w.alloc (.cells #[.slice A N cap] 27)).alloc (.cells #[.slice none 0 0] 27)).alloc (.cells #[] 78)).grownBy w1 (some (w.heap.size + 1 + 1)) := hg1
    have s1 : w.heap.size + 1 + 1 + 1 ≤ w1.heap.size := by have := hg1.size; simpa using this
    have kb : w1.heap[w.heap.size + 1]? = some (.cells #[.slice none 0 0] 27 (0, 0)) := by
      rw [hg1.block _ (by simp) (by intro e; injection e with e; omega), heap_alloc_other _ _ _ (by simp)]
      have := heap_alloc_new (w.alloc (.cells #[.slice A N cap] 27)) (.cells #[.slice none 0 0] 27); simpa using this
    have q0 := cell_of_blk kb 0
    have q1 := free_of_blk kb 0
    simp at q0
    have hlt2 : w.heap.size + 1 < w1.heap.size := by omega
    have OWN := Lib.hid (show (w1.setCell ⟨w.heap.size + 1, 0, none⟩ (.slice A1 N c1)).ownsRow w.heap.size 78 8 (.slice A1 N c1) N cells from
      own_base (ownsRow_of_block (by simpa using own1) (fun g hg => heap_setCell_other _ _ _ _ (by have := (own1.lt g hg).1; dsimp only; omega))) (by omega))
    have HB := Lib.hid (show Below w.heap.size w (w1.setCell ⟨w.heap.size + 1, 0, none⟩ (.slice A1 N c1)) from
      (((((Below.refl _ _).alloc (Nat.le_refl _) _).alloc (by simp) _).alloc (by simp; omega) _).grown hg1 (by simp; omega) (by intro g hg; injection hg with hg; omega)).setCell (by dsimp only; omega) _)
    have HS1 := Lib.hid s1
    clear own1 hg1 kb s1
    go_wp2
    refine bodyPost_ret (v := .agg #[.slice A1 N c1]) (by simp [results, Try.results42, go_sem, q0]) rfl (HG.out _ _ ⟨A1, c1, rfl, OWN.out, HB.out⟩)

set_option maxHeartbeats 1600000 in
set_option maxRecDepth 100000 in
theorem rsameT_any (A B : Option Addr) (ca cb : Nat) (ns ms : List Nd) (w : World) (hA : NdsAt w A ns) (hB : NdsAt w B ms) (hz : ns.length ≤ 1000000) (hz2 : ms.length ≤ 1000000) :
    Calls Try.prog 22 #[.agg #[.slice A ns.length ca], .agg #[.slice B ms.length cb]] w fun e w' => e = .returned (.bool (eqUp ndEq ns ms)) ∧ Below w.heap.size w w' := by
  have HB0 := Lib.hid (fun o1 o2 => show Below w.heap.size w ((w.alloc o1).alloc o2) from ((Below.refl _ _).alloc (Nat.le_refl _) _).alloc (by simp) _)
  by_cases hlen : ns.length = ms.length
  case neg =>
    have HF := Lib.hid (eqUp_len ndEq ns ms hlen)
    generalize ns.length = n at hlen hz ⊢
    generalize ms.length = m at hlen hz2 ⊢
    have hne : ((n : Int) == (m : Int)) = false := by rw [beq_eq_false_iff_ne]; omega
    go_enter Try.func22, Try.ntmps22
    go_wp2
    go_ret
    exact ⟨of_bool HF.out.symm, HB0.out _ _⟩
  obtain ⟨n, hn⟩ : ∃ n, n = ns.length := ⟨_, rfl⟩
  have HT := Lib.hid (fun k (hk : k = n) h0 => eqUp_true ndEq ns ms k hlen (hk.trans hn) h0)
  have HX := Lib.hid (fun k u v h1 h2 h => eqUp_false ndEq ns ms k u v h1 h2 h)
  rw [← hlen, ← hn]
  rw [← hn] at hz
  have HN := Lib.hid hn
  have HN2 := Lib.hid (hn.trans hlen)
  generalize eqUp ndEq ns ms = R at HT HX ⊢
  clear hn hlen hz2
  obtain ⟨W, hW⟩ : ∃ W, W = (w.alloc (.cells #[.slice A n ca] 27)).alloc (.cells #[.slice B n cb] 27) := ⟨_, rfl⟩
  have HB := Lib.hid (show Below w.heap.size w W from hW ▸ two_under _ _ _)
  have C0 := Lib.hid (show W.heap[w.heap.size]? = some (.cells #[.slice A n ca] 27 (0, 0)) by rw [hW, heap_alloc_other _ _ _ (by simp)]; exact heap_alloc_new _ _)
  have C1 := Lib.hid (show W.heap[w.heap.size + 1]? = some (.cells #[.slice B n cb] 27 (0, 0)) by
    rw [hW]; have := heap_alloc_new (w.alloc (.cells #[.slice A n ca] 27)) (.cells #[.slice B n cb] 27); simpa using this)
  have HNA := Lib.hid (hA.below HB.out)
  have HNB := Lib.hid (hB.below HB.out)
  clear hA hB
  go_enter Try.func22, Try.ntmps22
  go_wp2
  rw [← hW]
  clear hW
  go_loopw [5] (fun i wr => ∃ k : Nat, k ≤ n ∧ i = .int .i64 k ∧ Hid (Below W.heap.size W wr) ∧ Hid (((ns.zip ms).take k).all (fun p => ndEq p.1 p.2) = true)) (fun i _ => n - (intOf i).toNat)
  case atStart => exact ⟨0, Nat.zero_le _, rfl, Lib.hid (Below.refl _ _), Lib.hid (by simp)⟩
  case round =>
    obtain ⟨k, hk, rfl, hb, hall⟩ := hrel
    have D0 := Lib.hid (blk_keep hb.out C0.out)
    have D1 := Lib.hid (blk_keep hb.out C1.out)
    have x0 := cell_of_blk D0.out 0
    have x1 := cell_of_blk D1.out 0
    have hx0 := (Array.getElem?_eq_some_iff.1 D0.out).1
    have hx1 := (Array.getElem?_eq_some_iff.1 D1.out).1
    simp at x0 x1
    by_cases hlt : k < n
    · have hget : ns[k]? = some (ns[k]'(by have := HN.out; omega)) := List.getElem?_eq_getElem _
      obtain ⟨u, hu⟩ : ∃ u, u = ns[k]'(by have := HN.out; omega) := ⟨_, rfl⟩
      rw [← hu] at hget
      have hget2 : ms[k]? = some (ms[k]'(by have := HN2.out; omega)) := List.getElem?_eq_getElem _
      obtain ⟨v, hv⟩ : ∃ v, v = ms[k]'(by have := HN2.out; omega) := ⟨_, rfl⟩
      rw [← hv] at hget2
      obtain ⟨b, o, e1, hb1, hva⟩ := (HNA.out.below hb.out) k u hget
      obtain ⟨b', o', e1', hb1', hva'⟩ := (HNB.out.below hb.out) k v hget2
      subst e1 e1'
      have GET := Lib.hid hget
      have GET2 := Lib.hid hget2
      obtain ⟨y0, y1, y2, y3, y4, y5, y6, y7⟩ := hva
      obtain ⟨z0, z1, z2, z3, z4, z5, z6, z7⟩ := hva'
      obtain ⟨uk, ud, us, ut, um, ust, umn, umx⟩ := u
      obtain ⟨vk, vd, vs, vt, vm, vst, vmn, vmx⟩ := v
      dsimp only at y0 y1 y2 y3 y4 y5 y6 y7 z0 z1 z2 z3 z4 z5 z6 z7
      clear hu hv hget hget2
      have he := fun w => eqNd uk vk ud vd us vs ut vt ust vst umn vmn umx vmx um vm w
      obtain ⟨Q, hQ⟩ : ∃ Q, (ndEq ⟨uk, ud, us, ut, um, ust, umn, umx⟩ ⟨vk, vd, vs, vt, vm, vst, vmn, vmx⟩) = Q := ⟨_, rfl⟩
      rw [hQ] at he
      have HQ := Lib.hid hQ
      clear hQ
      cases Q with
      | true =>
        simp only [Bool.not_true] at he
        go_wp2
        refine wp_region_later (by kernel_rfl) (by kernel_rfl) ?_; (repeat (first | go_big_quiet_step (fail) | quiet_step (fail))); refine wpQuiet_nil ?_; rintro _ ⟨s, rfl⟩
        go_wp2
        go_roundw
        case rel => exact ⟨k + 1, by omega, by go_num, Lib.hid (hb.out.trans (s.below.mono hb.out.size)), Lib.hid (allz_step _ _ k (_, _) (zip_at GET.out GET2.out) hall.out HQ.out)⟩
        case measure => simp [intOf]; omega
      | false =>
        simp only [Bool.not_false] at he
        have HR := Lib.hid (HX.out k _ _ GET.out GET2.out HQ.out)
        go_wp2
        refine wp_region_later (by kernel_rfl) (by kernel_rfl) ?_; (repeat (first | go_big_quiet_step (fail) | quiet_step (fail))); refine wpQuiet_nil ?_; rintro _ ⟨s, rfl⟩
        go_wp2
        go_ret
        exact ⟨of_bool HR.out.symm, below_more HB.out (hb.out.trans (s.below.mono hb.out.size))⟩
    · obtain rfl : k = n := by omega
      have HR := Lib.hid (HT.out k rfl hall.out)
      go_wp2
      go_ret
      exact ⟨of_bool HR.out.symm, below_more HB.out hb.out⟩

end Go.Proofs.Ytbfedahonfjpfaa
