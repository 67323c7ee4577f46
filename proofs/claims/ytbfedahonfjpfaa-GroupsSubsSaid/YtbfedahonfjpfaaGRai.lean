/-
  Copies of nodes (slices.Clone) whose depths are changed in place (raise, atDepth).
-/
import Derived.Test.YtbfedahonfjpfaaGPap
import Derived.StillTailTactics
namespace Go.Proofs.Ytbfedahonfjpfaa
open Go.RowKit

/-- an owned row, one of its cells written -/
theorem own_set {w : World} {base : Nat} {e : TypeId} {size : Nat} {v : Value} {n : Nat} {xs : List Value} (h : w.ownsRow base e size v n xs) {g : Nat} (hv : v.ownBlock = some g) (j : Nat) (u : Value) : (w.setCell ⟨g, j, none⟩ u).ownsRow base e size v n (xs.set j u) := by
  refine ⟨by rw [List.length_set]; exact h.1, ?_⟩
  rcases h.2 with ⟨rfl, _⟩ | ⟨g', cap, cur, rfl, hb, hg, hn, hc, hsz, htk⟩
  · cases hv
  · injection hv with hv
    have hv : g' = g := hv
    subst hv
    refine .inr ⟨g', cap, cur.setIfInBounds j u, rfl, hb, heap_setCell_same _ _ _ _ _ _ hg, hn, hc, by simpa using hsz, ?_⟩
    rw [Array.toList_setIfInBounds, List.take_set, htk]
/-- an owned row that is not empty, written out -/
theorem own_open {w : World} {base : Nat} {e : TypeId} {size : Nat} {A : Option Addr} {n c : Nat} {xs : List Value} (h : w.ownsRow base e size (.slice A n c) n xs) (h0 : 0 < n) :
    ∃ g, A = some ⟨g, 0, none⟩ ∧ base ≤ g ∧ g < w.heap.size ∧ n ≤ c ∧ c ≤ maxLen ∧ (∀ j u, xs[j]? = some u → w.cell? ⟨g, j, none⟩ = some u) ∧ ∀ o, w.frozen? ⟨g, o, none⟩ = false := by
  obtain ⟨A2, c2, hv, h1, h2, h3, h4⟩ := own_slice h
  injection hv with e1 e2 e3
  subst e1 e3
  cases A with
  | none => have := h4 rfl; omega
  | some ad =>
    obtain ⟨g, rfl, hb, hg, hc⟩ := h3 ad rfl
    refine ⟨g, rfl, hb, hg, h1, h2, hc, fun o => ?_⟩
    rcases h.2 with ⟨hv, _⟩ | ⟨g', cap, cur, hv, _, hg', _⟩
    · cases hv
    · injection hv with e1 e2 e3
      injection e1 with e1
      injection e1 with e1 _ _
      subst e1
      exact free_of_blk hg' o

theorem flat_set {α : Type} {f : α → List Value} {c : Nat} (hf : ∀ x, (f x).length = c) : ∀ (l : List α) (k : Nat) (x y : α) (j : Nat) (u : Value), l[k]? = some x → j < c → f y = (f x).set j u → (l.flatMap f).set (k * c + j) u = (l.set k y).flatMap f
  | [], _, _, _, _, _, h, _, _ => by simp at h
  | z :: r, 0, x, y, j, u, h, hj, e => by
    simp at h; subst h
    rw [List.flatMap_cons, List.set_cons_zero, List.flatMap_cons, Nat.zero_mul, Nat.zero_add, List.set_append_left _ _ (by rw [hf]; exact hj), e]
  | z :: r, k + 1, x, y, j, u, h, hj, e => by
    rw [List.flatMap_cons, List.set_cons_succ, List.flatMap_cons, List.set_append_right _ _ (by rw [hf, Nat.succ_mul]; omega), hf, show (k + 1) * c + j - c = k * c + j by rw [Nat.succ_mul]; omega]
    rw [flat_set hf r k x y j u (by simpa using h) hj e]

/-- a node with another depth -/
def Nd.atD (n : Nd) (d : Int) : Nd := { n with depth := d }
theorem Nd.atD_cells (n : Nd) (d : Int) : (n.atD d).cells = n.cells.set 1 (.int .i64 d) := rfl
def lowerN (d : Int) (n : Nd) : Nd := n.atD (n.depth - d)
theorem map_set {α : Type} (f : α → α) {l : List α} {k : Nat} {x : α} (h : l[k]? = some x) : ((l.take k).map f ++ l.drop k).set k (f x) = (l.take (k + 1)).map f ++ l.drop (k + 1) := by
  obtain ⟨hk, e⟩ := List.getElem?_eq_some_iff.1 h
  have h1 : ((l.take k).map f).length = k := by rw [List.length_map, List.length_take]; omega
  rw [List.set_append_right _ _ (by omega), h1, Nat.sub_self, List.drop_eq_getElem_cons hk, List.set_cons_zero, List.take_succ_eq_append_getElem hk, e]
  simp
theorem map_at {α : Type} (f : α → α) {l : List α} {k : Nat} {x : α} (h : l[k]? = some x) : ((l.take k).map f ++ l.drop k)[k]? = some x := by
  obtain ⟨hk, e⟩ := List.getElem?_eq_some_iff.1 h
  have h1 : ((l.take k).map f).length = k := by rw [List.length_map, List.length_take]; omega
  rw [List.getElem?_append_right (by omega), h1, Nat.sub_self, List.getElem?_drop, Nat.add_zero, h]

theorem eq_nil_in {P : Program} (w : World) (d : Nat) (t e : TypeId) (A : Option Addr) (n c : Nat) (h : P.underlying t = some (.slice e)) :
    (Op.equalIn (d + 1) t (.slice A n c) (.slice none 0 0)).run P w = .ok A.isNone w := by
  cases A <;> simp [Op.equalIn, run_underlying h]
theorem eq_nil_equal {P : Program} (w : World) (t : TypeId) (A : Option Addr) (n c : Nat) {e : TypeId} (h : P.underlying t = some (.slice e)) :
    (Op.equal t (.slice A n c) (.slice none 0 0)).run P w = .ok A.isNone w := eq_nil_in w 9999 t e A n c h
theorem eq_nil_nds (A : Option Addr) (n c : Nat) (w : World) : (binOp .eql 25 (.slice A n c) (.slice none 0 0)).run Try.prog w = .ok (.bool A.isNone) w := by
  simp only [binOp]
  simp [eq_nil_equal _ _ _ _ _ Try.underlying25]
set_option maxRecDepth 100000 in
theorem cloneN_any (A : Option Addr) (cap : Nat) (ns : List Nd) (w : World) (hn : NdsAt w A ns) (hc1 : ns.length ≤ cap) (hc : cap ≤ maxLen) (hsm : ns.length ≤ 1000000) :
    Calls Try.prog 74 #[.slice A ns.length cap] w (GotRow w 78 8 ns.length (ns.flatMap Nd.cells)) := by
  have HNS := Lib.hid hn
  obtain ⟨N, hN⟩ : ∃ N, N = ns.length := ⟨_, rfl⟩
  have HN := Lib.hid hN
  rw [← hN] at hc1 hsm ⊢
  obtain ⟨cells, hcs⟩ : ∃ c, c = ns.flatMap Nd.cells := ⟨_, rfl⟩
  have HC := Lib.hid (show cells.length = N * 8 by rw [hcs, HN.out]; exact flat_len (f := Nd.cells) (fun _ => rfl) _)
  have HC0 := Lib.hid (fun (h : A = none) => show N = 0 by rw [HN.out]; exact nds_none HNS.out h)
  have HC1 := Lib.hid (show ∀ u ∈ cells, u.oneCell' = true by rw [hcs]; exact nds_one)
  have HC2 := Lib.hid (fun wx (hb : Below w.heap.size w wx) => show ∀ ad, A = some ad → ∀ j u, cells[j]? = some u → wx.cell? (ad.add j) = some u by rw [hcs]; exact nds_cells (HNS.out.below hb))
  rw [← hcs]
  unfold maxLen at hc
  clear hn hN hcs
  have HSM := Lib.hid hsm
  obtain ⟨iv, hiv, hzv, hsv, hbv⟩ := info_hid infoNd
  cases A with
  | none =>
    obtain rfl : N = 0 := HC0.out rfl
    have hnil := fun w => eq_nil_nds none 0 cap w
    rw [show (none : Option Addr).isNone = true from rfl] at hnil
    have HE := Lib.hid (show cells = [] from List.eq_nil_of_length_eq_zero (by have := HC.out; omega))
    go_enter Try.func74, Try.ntmps74
    go_wp2
    go_ret
    rw [HE.out]
    exact ⟨none, 0, rfl, World.ownsRow_nil _ _ _ _, Below.refl _ _⟩
  | some ad =>
    have hnil := fun w => eq_nil_nds (some ad) N cap w
    rw [show (some ad : Option Addr).isNone = false from rfl] at hnil
    go_enter Try.func74, Try.ntmps74
    go_wp2_with (first
      | (at_builtin; refine wpList_append_src _ rfl (.tmp 5) (.tmp 6) 25 rfl w.heap.size 78 iv (.agg #[.int .i64 0, .int .i64 0, .int .i64 0, .int .i64 0, .bool false, .int .i64 0, .int .i64 0, .int .i64 0]) 8 64 Try.underlying25 hiv.out hzv.out hsv.out hbv.out rfl (by decide) (.slice (some ⟨w.heap.size, 0, none⟩) 0 0) 0 [] rfl ?own1 (some ad) N cap cells rfl HC.out HC0.out ?c1 HC1.out ?m1 ?b1 ?s1 N (Nat.zero_add _).symm ?_))
    case own1 => exact own_empty w 78 8
    case c1 => exact HC2.out _ (below_alloc _ _)
    case m1 => have := HSM.out; unfold maxLen; omega
    case b1 => have := HSM.out; omega
    case s1 => simp
    · intro A1 c1 w1 own1 hg1 _
      have HO := Lib.hid (show w1.ownsRow w.heap.size 78 8 (.slice A1 N c1) N cells by simpa using own1)
      have hg1 : (w.alloc (.cells #[] 78)).grownBy w1 (some w.heap.size) := hg1
      have HB := Lib.hid (show Below w.heap.size w w1 from (below_alloc w (.cells #[] 78)).grown hg1 (by simp) (by intro g hg; injection hg with hg; omega))
      clear own1 hg1
      go_wp2
      go_ret
      exact ⟨A1, c1, rfl, HO.out, HB.out⟩

set_option maxRecDepth 100000 in
set_option maxHeartbeats 4000000 in
theorem raise_any (A : Option Addr) (cap : Nat) (ns : List Nd) (d : Int) (w : World) (hn : NdsAt w A ns) (hc1 : ns.length ≤ cap) (hc : cap ≤ maxLen) (hsm : ns.length ≤ 1000000) (hd : 0 ≤ d ∧ d ≤ 4) (hdp : ∀ x ∈ ns, 0 ≤ x.depth ∧ x.depth ≤ 4) :
    Calls Try.prog 78 #[.slice A ns.length cap, .int .i64 d] w (GotRow w 78 8 ns.length ((ns.map (lowerN d)).flatMap Nd.cells)) := by
  have HCL := Lib.hid (cloneN_any A cap ns w hn hc1 hc hsm)
  have HDP := Lib.hid hdp
  obtain ⟨N, hN⟩ : ∃ N, N = ns.length := ⟨_, rfl⟩
  have HN := Lib.hid hN
  rw [← hN] at hsm HCL ⊢
  obtain ⟨hd0, hd4⟩ := hd
  clear hn hc1 hc hN hdp
  go_enter Try.func78, Try.ntmps78
  go_wp2_with fail
  refine HCL.out.mono ?_; rintro e w1 ⟨A1, c1, rfl, hown, hb⟩
  have HB1 := Lib.hid hb
  have HO1 := Lib.hid hown
  have hol := own_len hown
  have hcm := hol.1
  have hmm := hol.2.1
  unfold maxLen at hmm
  clear hown hb HCL hol
  go_wp2_with fail
  go_loopw [6, 11] (fun _ i wr => ∃ k : Nat, k ≤ N ∧ i = .int .i64 k ∧ Hid (wr.ownsRow w.heap.size 78 8 (.slice A1 N c1) N (((ns.take k).map (lowerN d) ++ ns.drop k).flatMap Nd.cells)) ∧ Hid (Below w.heap.size w wr)) (fun _ i _ => N - (intOf i).toNat)
  case atStart => exact ⟨0, Nat.zero_le _, rfl, by simpa using HO1, HB1⟩
  case round =>
    obtain ⟨k, hk, rfl, hown, hbw⟩ := hrel
    have HOW := Lib.hid hown.out
    have HBW := Lib.hid hbw.out
    clear hown hbw
    by_cases hlt : k < N
    · obtain ⟨x, hx⟩ : ∃ x, ns[k]? = some x := ⟨_, List.getElem?_eq_getElem (by have := HN.out; omega)⟩
      have hxd := HDP.out x (List.mem_of_getElem? hx)
      obtain ⟨g, rfl, hbg, hg, -, -, hcell, hfr⟩ := own_open HOW.out (by omega)
      have y1 : wr.cell? ⟨g, k * 8 + 1, none⟩ = some (.int .i64 x.depth) := hcell _ _ (by
        rw [flat_at (c := 8) (fun _ => rfl) _ _ _ (map_at (lowerN d) hx) 1 (by omega)]; rfl)
      have f1 := hfr (k * 8 + 1)
      have HO2 := Lib.hid (show (wr.setCell ⟨g, k * 8 + 1, none⟩ (.int .i64 (x.depth - d))).ownsRow w.heap.size 78 8 (.slice (some ⟨g, 0, none⟩) N c1) N (((ns.take (k + 1)).map (lowerN d) ++ ns.drop (k + 1)).flatMap Nd.cells) by
        have h1 := own_set HOW.out (g := g) rfl (k * 8 + 1) (.int .i64 (x.depth - d))
        rw [flat_set (c := 8) (fun _ => rfl) _ k x (lowerN d x) 1 _ (map_at (lowerN d) hx) (by omega) (Nd.atD_cells _ _), map_set (lowerN d) hx] at h1
        exact h1)
      have HB2 := Lib.hid (show Below w.heap.size w (wr.setCell ⟨g, k * 8 + 1, none⟩ (.int .i64 (x.depth - d))) from HBW.out.setCell hbg _)
      obtain ⟨dx, hdx⟩ : ∃ dx, dx = x.depth := ⟨_, rfl⟩
      rw [← hdx] at hxd y1 HO2 HB2
      have hwr : IntKind.i64.wrap (dx - d) = dx - d := IntWalk.i64_in _ (by omega)
      clear hx hcell hfr hdx
      go_wp2_with fail
      go_roundw
      case rel => exact ⟨k + 1, by omega, by go_num, HO2, HB2⟩
      case measure => simp [intOf]; omega
    · obtain rfl : k = N := by omega
      have HT := Lib.hid (show (ns.take k).map (lowerN d) ++ ns.drop k = ns.map (lowerN d) by rw [HN.out, List.take_length, List.drop_length, List.append_nil])
      go_wp2_with fail
      go_ret
      rw [← HT.out]
      exact ⟨A1, c1, rfl, HOW.out, HBW.out⟩

end Go.Proofs.Ytbfedahonfjpfaa
