/-
  Kids and Groups, the program's and the specification's.
-/
import Derived.Test.YtbfedahonfjpfaaGRch
import Derived.Test.YtbfedahonfjpfaaGOrd
namespace Go.Proofs.Ytbfedahonfjpfaa
open Go.RowKit

theorem intsV_Z (l : List Nat) : intsV l = intsZ (l.map fun (j : Nat) => (j : Int)) := by unfold intsV intsZ; rw [List.map_map]; rfl
def placeErr (l : Li) (ns : List Nd) (node : Int) : Int :=
  if textErr l ns ≠ 0 then textErr l ns else if node < 0 ∨ (ns.length : Int) ≤ node then 1 else 0
def kidsQ (l : Li) (ns : List Nd) (node : Int) : List Int × Int :=
  if placeErr l ns node ≠ 0 then ([], placeErr l ns node) else ((kidsL ns node.toNat).map fun (j : Nat) => (j : Int), 0)
def topsL (ns : List Nd) : List Nat := (List.range ns.length).filter (atD ns 0)
def groupsQ (l : Li) (ns : List Nd) : List Int × Int :=
  if textErr l ns ≠ 0 then ([], textErr l ns) else ((topsL ns).map fun (j : Nat) => (j : Int), 0)

theorem rgcheck_is (L : Lm) (A : Option Addr) (cap : Nat) (ns : List Nd) (w : World) (hl : LmOk w L) (hn : NdsAt w A ns) (hc1 : ns.length ≤ cap) (hc : cap ≤ maxLen) (r : Int) (h : textErr L.li ns = r) :
    Calls Try.prog 20 #[.agg #[.int .i64 L.per, .slice L.A L.ms.length L.cap], .agg #[.slice A ns.length cap]] w fun e w' => e = .returned (.int .i64 r) ∧ Below w.heap.size w w' := by
  rw [← h]; exact rgcheck_any L A cap ns w hl hn hc1 hc

theorem place_ok {l : Li} {ns : List Nd} {node : Int} (h : placeErr l ns node = 0) : textErr l ns = 0 ∧ 0 ≤ node ∧ node < ns.length := by
  unfold placeErr at h
  split at h
  · rename_i h1; exact absurd h h1
  · rename_i h1
    split at h
    · omega
    · exact ⟨by simpa using h1, by omega, by omega⟩

set_option maxRecDepth 100000 in
theorem place_any (L : Lm) (A : Option Addr) (cap : Nat) (ns : List Nd) (node : Int) (w : World) (hl : LmOk w L) (hn : NdsAt w A ns) (hc1 : ns.length ≤ cap) (hc : cap ≤ maxLen) (r : Int) (hr : placeErr L.li ns node = r) :
    Calls Try.prog 65 #[.agg #[.int .i64 L.per, .slice L.A L.ms.length L.cap], .agg #[.slice A ns.length cap], .int .i64 node] w fun e w' => e = .returned (.int .i64 r) ∧ Below w.heap.size w w' := by
  obtain ⟨E, hE⟩ : ∃ E, textErr L.li ns = E := ⟨_, rfl⟩
  have HE := Lib.hid (show r = if E ≠ 0 then E else if node < 0 ∨ (ns.length : Int) ≤ node then 1 else 0 by rw [← hr, ← hE]; rfl)
  obtain ⟨N, hN⟩ : ∃ N, N = ns.length := ⟨_, rfl⟩
  have HCK := Lib.hid (fun wx (hb : Below w.heap.size w wx) => gcheck_is L A cap ns wx (hl.below hb) (hn.below hb) hc1 hc E hE)
  rw [← hN] at HE HCK hc1 ⊢
  unfold maxLen at hc
  obtain ⟨W, hW⟩ : ∃ W, W = (w.alloc (.cells #[.int .i64 L.per, .slice L.A L.ms.length L.cap] 24)).alloc (.cells #[.slice A N cap] 27) := ⟨_, rfl⟩
  have HB := Lib.hid (show Below w.heap.size w W from hW ▸ two_under _ _ _)
  have HX1 := Lib.hid (show W.heap[w.heap.size + 1]? = some (.cells #[.slice A N cap] 27 (0, 0)) by
    rw [hW]; have := heap_alloc_new (w.alloc (.cells #[.int .i64 L.per, .slice L.A L.ms.length L.cap] 24)) (.cells #[.slice A N cap] 27); simpa using this)
  clear hl hn hE hN hr
  go_enter Try.func65, Try.ntmps65
  go_wp2_with fail
  rw [← hW]
  refine (HCK.out W HB.out).mono ?_; rintro e w1 ⟨rfl, hb⟩
  have HB1 := Lib.hid (below_more HB.out hb)
  have x0 := cell_of_blk (blk_keep hb HX1.out) 0
  simp at x0
  clear hb hW HX1 HCK HB
  by_cases h0 : E = 0
  case neg =>
    have hbE : (E != 0) = true := by simpa using h0
    have HF := Lib.hid (show r = E by rw [HE.out, if_pos h0])
    clear h0 HE
    go_wp2_with fail
    go_ret
    exact ⟨of_int HF.out.symm, HB1.out⟩
  subst h0
  by_cases h1 : node < 0
  · have HF := Lib.hid (show r = 1 by rw [HE.out, if_neg (by simp), if_pos (.inl h1)])
    clear HE
    go_wp2_with fail
    go_ret
    exact ⟨of_int HF.out.symm, HB1.out⟩
  have hd1 : decide (node < 0) = false := decide_eq_false h1
  by_cases h2 : (N : Int) ≤ node
  · have HF := Lib.hid (show r = 1 by rw [HE.out, if_neg (by simp), if_pos (.inr h2)])
    clear HE
    go_wp2_with fail
    go_ret
    exact ⟨of_int HF.out.symm, HB1.out⟩
  · have HF := Lib.hid (show r = 0 by rw [HE.out, if_neg (by simp), if_neg (by omega)])
    have hd2 : decide ((N : Int) ≤ node) = false := decide_eq_false h2
    clear HE
    go_wp2_with fail
    go_ret
    exact ⟨of_int HF.out.symm, HB1.out⟩

set_option maxRecDepth 100000 in
theorem kidsP_any (L : Lm) (A : Option Addr) (cap : Nat) (ns : List Nd) (node : Int) (w : World) (hl : LmOk w L) (hn : NdsAt w A ns) (hc1 : ns.length ≤ cap) (hc : cap ≤ maxLen) :
    Calls Try.prog 23 #[.agg #[.int .i64 L.per, .slice L.A L.ms.length L.cap], .agg #[.slice A ns.length cap], .int .i64 node] w (GotIntsE w (kidsQ L.li ns node)) := by
  obtain ⟨E, hE⟩ : ∃ E, placeErr L.li ns node = E := ⟨_, rfl⟩
  obtain ⟨R, hR⟩ : ∃ R, R = kidsQ L.li ns node := ⟨_, rfl⟩
  have HE := Lib.hid (show R = if E ≠ 0 then ([], E) else ((kidsL ns node.toNat).map fun (j : Nat) => (j : Int), 0) by rw [hR, ← hE]; rfl)
  have HOK := Lib.hid (fun (h : E = 0) => place_ok (hE.trans h))
  have HNS := Lib.hid hn
  have HCM := Lib.hid hc
  obtain ⟨N, hN⟩ : ∃ N, N = ns.length := ⟨_, rfl⟩
  have HN := Lib.hid hN
  have HCK := Lib.hid (fun wx (hb : Below w.heap.size w wx) => place_any L A cap ns node wx (hl.below hb) (hn.below hb) hc1 hc E hE)
  rw [← hR]
  rw [← hN] at HCK hc1 HOK ⊢
  unfold maxLen at hc
  obtain ⟨W, hW⟩ : ∃ W, W = (w.alloc (.cells #[.int .i64 L.per, .slice L.A L.ms.length L.cap] 24)).alloc (.cells #[.slice A N cap] 27) := ⟨_, rfl⟩
  have HB := Lib.hid (show Below w.heap.size w W from hW ▸ two_under _ _ _)
  have HX1 := Lib.hid (show W.heap[w.heap.size + 1]? = some (.cells #[.slice A N cap] 27 (0, 0)) by
    rw [hW]; have := heap_alloc_new (w.alloc (.cells #[.int .i64 L.per, .slice L.A L.ms.length L.cap] 24)) (.cells #[.slice A N cap] 27); simpa using this)
  clear hl hn hE hN hR
  go_enter Try.func23, Try.ntmps23
  go_wp2_with fail
  rw [← hW]
  refine (HCK.out W HB.out).mono ?_; rintro e w1 ⟨rfl, hb⟩
  have HB1 := Lib.hid (below_more HB.out hb)
  have x0 := cell_of_blk (blk_keep hb HX1.out) 0
  simp at x0
  clear hb hW HX1 HCK HB
  by_cases h0 : E = 0
  case neg =>
    have hbE : (E != 0) = true := by simpa using h0
    have HF := Lib.hid (show R = ([], E) by rw [HE.out, if_pos h0])
    clear h0 HE
    go_wp2_with fail
    go_ret2
    rw [HF.out]
    exact ⟨none, 0, rfl, World.ownsRow_nil _ _ _ _, HB1.out⟩
  subst h0
  obtain ⟨ht, hn0, hn1⟩ := HOK.out rfl
  obtain ⟨i, rfl⟩ : ∃ i : Nat, node = i := ⟨node.toNat, by omega⟩
  obtain ⟨u, hu⟩ : ∃ u, ns[i]? = some u := ⟨_, List.getElem?_eq_getElem (by have := HN.out; omega)⟩
  obtain ⟨-, hk2, -, -, hk5, -⟩ := text_ok ht
  have hdu := hk5 u (List.mem_of_getElem? hu)
  obtain ⟨ks, hks⟩ : ∃ ks, ks = kidsL ns i := ⟨_, rfl⟩
  have HKO := Lib.hid (show Calls Try.prog 66 #[.slice A N cap, .int .i64 i] w1 (GotRow w1 3 1 ks.length (intsV ks)) by
    have := kidsOf_any A cap i ns u hu (by rw [← HN.out]; exact hc1) HCM.out (by omega) (by omega) w1 (HNS.out.below HB1.out)
    rw [← HN.out, ← hks] at this; exact this)
  have HF := Lib.hid (show R = (ks.map fun (j : Nat) => (j : Int), 0) by rw [HE.out, if_neg (by simp), hks]; simp)
  clear HE HOK hks hu hdu hk2 hk5 ht hn0 hn1
  go_wp2_with fail
  refine HKO.out.mono ?_; rintro e w2 ⟨A2, c2, rfl, hown, hb⟩
  have HOW := Lib.hid hown
  have HB2 := Lib.hid (below_more HB1.out hb)
  have hsz := HB1.out.size
  obtain ⟨n, hn⟩ : ∃ n, n = ks.length := ⟨_, rfl⟩
  have HNK := Lib.hid hn
  rw [← hn] at HOW ⊢
  clear hown hb hn x0
  go_wp2_with fail
  go_ret2
  rw [HF.out]
  refine ⟨A2, c2, by rw [List.length_map, ← HNK.out]; rfl, ?_, HB2.out⟩
  rw [List.length_map, ← HNK.out, ← intsV_Z]
  exact own_base HOW.out hsz

set_option maxRecDepth 100000 in
theorem rkidsOf_any (L : Lm) (A : Option Addr) (cap : Nat) (ns : List Nd) (node : Int) (w : World) (hl : LmOk w L) (hn : NdsAt w A ns) (hc1 : ns.length ≤ cap) (hc : cap ≤ maxLen) :
    Calls Try.prog 24 #[.agg #[.int .i64 L.per, .slice L.A L.ms.length L.cap], .agg #[.slice A ns.length cap], .int .i64 node] w (GotIntsE w (kidsQ L.li ns node)) := by
  obtain ⟨E, hE⟩ : ∃ E, textErr L.li ns = E := ⟨_, rfl⟩
  obtain ⟨R, hR⟩ : ∃ R, R = kidsQ L.li ns node := ⟨_, rfl⟩
  have HE1 := Lib.hid (show E ≠ 0 → R = ([], E) by rw [hR]; intro h; unfold kidsQ placeErr; rw [hE, if_pos h, if_pos h])
  have HE2 := Lib.hid (show E = 0 → (node < 0 ∨ (ns.length : Int) ≤ node) → R = ([], 1) by rw [hR]; intro h h2; unfold kidsQ placeErr; rw [if_neg (show ¬ textErr L.li ns ≠ 0 by simp [hE, h]), if_pos h2, if_pos (by simp)])
  have HE3 := Lib.hid (show E = 0 → ¬ (node < 0 ∨ (ns.length : Int) ≤ node) → R = ((kidsL ns node.toNat).map fun (j : Nat) => (j : Int), 0) by rw [hR]; intro h h2; unfold kidsQ placeErr; rw [if_neg (show ¬ textErr L.li ns ≠ 0 by simp [hE, h]), if_neg h2, if_neg (by simp)])
  have HEE := Lib.hid hE
  have HNS := Lib.hid hn
  have HCM := Lib.hid hc
  obtain ⟨N, hN⟩ : ∃ N, N = ns.length := ⟨_, rfl⟩
  have HN := Lib.hid hN
  have HCK := Lib.hid (fun wx (hb : Below w.heap.size w wx) => rgcheck_is L A cap ns wx (hl.below hb) (hn.below hb) hc1 hc E hE)
  rw [← hR]
  rw [← hN] at HCK hc1 HE2 HE3 ⊢
  unfold maxLen at hc
  obtain ⟨W, hW⟩ : ∃ W, W = (w.alloc (.cells #[.int .i64 L.per, .slice L.A L.ms.length L.cap] 24)).alloc (.cells #[.slice A N cap] 27) := ⟨_, rfl⟩
  have HB := Lib.hid (show Below w.heap.size w W from hW ▸ two_under _ _ _)
  have HX1 := Lib.hid (show W.heap[w.heap.size + 1]? = some (.cells #[.slice A N cap] 27 (0, 0)) by
    rw [hW]; have := heap_alloc_new (w.alloc (.cells #[.int .i64 L.per, .slice L.A L.ms.length L.cap] 24)) (.cells #[.slice A N cap] 27); simpa using this)
  clear hl hn hE hN hR
  go_enter Try.func24, Try.ntmps24
  go_wp2_with fail
  rw [← hW]
  refine (HCK.out W HB.out).mono ?_; rintro e w1 ⟨rfl, hb⟩
  have HB1 := Lib.hid (below_more HB.out hb)
  have x0 := cell_of_blk (blk_keep hb HX1.out) 0
  simp at x0
  clear hb hW HX1 HCK HB
  by_cases h0 : E = 0
  case neg =>
    have hbE : (E != 0) = true := by simpa using h0
    have HF := Lib.hid (HE1.out h0)
    clear h0 HE1 HE2 HE3
    go_wp2_with fail
    go_ret2
    rw [HF.out]
    exact ⟨none, 0, rfl, World.ownsRow_nil _ _ _ _, HB1.out⟩
  subst h0
  by_cases h1 : node < 0
  · have HF := Lib.hid (HE2.out rfl (.inl h1))
    clear HE1 HE2 HE3
    go_wp2_with fail
    go_ret2
    rw [HF.out]
    exact ⟨none, 0, rfl, World.ownsRow_nil _ _ _ _, HB1.out⟩
  have hd1 : decide (node < 0) = false := decide_eq_false h1
  by_cases h2 : (N : Int) ≤ node
  · have HF := Lib.hid (HE2.out rfl (.inr h2))
    clear HE1 HE2 HE3
    go_wp2_with fail
    go_ret2
    rw [HF.out]
    exact ⟨none, 0, rfl, World.ownsRow_nil _ _ _ _, HB1.out⟩
  have hd2 : decide ((N : Int) ≤ node) = false := decide_eq_false h2
  obtain ⟨i, rfl⟩ : ∃ i : Nat, node = i := ⟨node.toNat, by omega⟩
  obtain ⟨u, hu⟩ : ∃ u, ns[i]? = some u := ⟨_, List.getElem?_eq_getElem (by have := HN.out; omega)⟩
  obtain ⟨-, hk2, -, -, hk5, -⟩ := text_ok HEE.out
  have hdu := hk5 u (List.mem_of_getElem? hu)
  obtain ⟨ks, hks⟩ : ∃ ks, ks = kidsL ns i := ⟨_, rfl⟩
  have HKO := Lib.hid (fun wx (hb : Below w1.heap.size w1 wx) => show Calls Try.prog 67 #[.agg #[.slice A N cap], .int .i64 i] wx (GotRow wx 3 1 ks.length (intsV ks)) by
    have := rkids_any A cap ns i (u.depth + 1) (i + 1) wx (HNS.out.below (below_more HB1.out hb)) (by rw [← HN.out]; exact hc1) HCM.out (by omega) (.inl ⟨i, u, rfl, hu, rfl, rfl, by omega, by omega⟩)
    rw [kidsG_is hu, ← HN.out, ← hks] at this; exact this)
  have HF := Lib.hid (show R = (ks.map fun (j : Nat) => (j : Int), 0) by rw [HE3.out rfl (by omega), hks]; simp)
  clear HE1 HE2 HE3 hks hu hdu hk2 hk5
  go_wp2_with fail
  refine (HKO.out _ (Below.refl _ _)).mono ?_; rintro e w2 ⟨A2, c2, rfl, hown, hb⟩
  have HOW := Lib.hid hown
  have HB2 := Lib.hid (below_more HB1.out hb)
  have hsz := HB1.out.size
  obtain ⟨n, hn⟩ : ∃ n, n = ks.length := ⟨_, rfl⟩
  have HNK := Lib.hid hn
  rw [← hn] at HOW ⊢
  clear hown hb hn x0
  go_wp2_with fail
  go_ret2
  rw [HF.out]
  refine ⟨A2, c2, by rw [List.length_map, ← HNK.out]; rfl, ?_, HB2.out⟩
  rw [List.length_map, ← HNK.out, ← intsV_Z]
  exact own_base HOW.out hsz

theorem tw_all {α : Type} {p : α → Bool} : ∀ l : List α, (∀ x ∈ l, p x = true) → l.takeWhile p = l
  | [], _ => rfl
  | x :: r, h => by rw [List.takeWhile_cons, h x (List.mem_cons_self ..), if_pos rfl, tw_all r (fun y hy => h y (List.mem_cons_of_mem _ hy))]
theorem tops_kids {ns : List Nd} (hd : ∀ x ∈ ns, 0 ≤ x.depth) : kidsG ns 0 0 = topsL ns := by
  have h : runN ns 0 0 = ns.length := by
    unfold runN
    rw [List.drop_zero, tw_all _ (fun x hx => by simpa using hd x hx)]
  unfold kidsG topsL
  rw [h, List.range_eq_range']

set_option maxRecDepth 100000 in
theorem rgroups_any (L : Lm) (A : Option Addr) (cap : Nat) (ns : List Nd) (w : World) (hl : LmOk w L) (hn : NdsAt w A ns) (hc1 : ns.length ≤ cap) (hc : cap ≤ maxLen) :
    Calls Try.prog 26 #[.agg #[.int .i64 L.per, .slice L.A L.ms.length L.cap], .agg #[.slice A ns.length cap]] w (GotIntsE w (groupsQ L.li ns)) := by
  obtain ⟨E, hE⟩ : ∃ E, textErr L.li ns = E := ⟨_, rfl⟩
  obtain ⟨R, hR⟩ : ∃ R, R = groupsQ L.li ns := ⟨_, rfl⟩
  have HE := Lib.hid (show R = if E ≠ 0 then ([], E) else ((topsL ns).map fun (j : Nat) => (j : Int), 0) by rw [hR, ← hE]; rfl)
  have HEE := Lib.hid hE
  have HNS := Lib.hid hn
  have HCM := Lib.hid hc
  obtain ⟨N, hN⟩ : ∃ N, N = ns.length := ⟨_, rfl⟩
  have HN := Lib.hid hN
  have HCK := Lib.hid (fun wx (hb : Below w.heap.size w wx) => rgcheck_is L A cap ns wx (hl.below hb) (hn.below hb) hc1 hc E hE)
  rw [← hR]
  rw [← hN] at HCK hc1 ⊢
  unfold maxLen at hc
  obtain ⟨W, hW⟩ : ∃ W, W = (w.alloc (.cells #[.int .i64 L.per, .slice L.A L.ms.length L.cap] 24)).alloc (.cells #[.slice A N cap] 27) := ⟨_, rfl⟩
  have HB := Lib.hid (show Below w.heap.size w W from hW ▸ two_under _ _ _)
  have HX1 := Lib.hid (show W.heap[w.heap.size + 1]? = some (.cells #[.slice A N cap] 27 (0, 0)) by
    rw [hW]; have := heap_alloc_new (w.alloc (.cells #[.int .i64 L.per, .slice L.A L.ms.length L.cap] 24)) (.cells #[.slice A N cap] 27); simpa using this)
  clear hl hn hE hN hR
  go_enter Try.func26, Try.ntmps26
  go_wp2_with fail
  rw [← hW]
  refine (HCK.out W HB.out).mono ?_; rintro e w1 ⟨rfl, hb⟩
  have HB1 := Lib.hid (below_more HB.out hb)
  have x0 := cell_of_blk (blk_keep hb HX1.out) 0
  simp at x0
  clear hb hW HX1 HCK HB
  by_cases h0 : E = 0
  case neg =>
    have hbE : (E != 0) = true := by simpa using h0
    have HF := Lib.hid (show R = ([], E) by rw [HE.out, if_pos h0])
    clear h0 HE
    go_wp2_with fail
    go_ret2
    rw [HF.out]
    exact ⟨none, 0, rfl, World.ownsRow_nil _ _ _ _, HB1.out⟩
  subst h0
  obtain ⟨-, hk2, -, -, hk5, -⟩ := text_ok HEE.out
  obtain ⟨ks, hks⟩ : ∃ ks, ks = topsL ns := ⟨_, rfl⟩
  have HKO := Lib.hid (show Calls Try.prog 67 #[.agg #[.slice A N cap], .int .i64 (-1)] w1 (GotRow w1 3 1 ks.length (intsV ks)) by
    have := rkids_any A cap ns (-1) 0 0 w1 (HNS.out.below HB1.out) (by rw [← HN.out]; exact hc1) HCM.out (by omega) (.inr ⟨rfl, rfl, rfl⟩)
    rw [tops_kids (fun x hx => (hk5 x hx).1), ← HN.out, ← hks] at this; exact this)
  have HF := Lib.hid (show R = (ks.map fun (j : Nat) => (j : Int), 0) by rw [HE.out, if_neg (by simp), hks])
  clear HE hks hk2 hk5
  go_wp2_with fail
  refine HKO.out.mono ?_; rintro e w2 ⟨A2, c2, rfl, hown, hb⟩
  have HOW := Lib.hid hown
  have HB2 := Lib.hid (below_more HB1.out hb)
  have hsz := HB1.out.size
  obtain ⟨n, hn⟩ : ∃ n, n = ks.length := ⟨_, rfl⟩
  have HNK := Lib.hid hn
  rw [← hn] at HOW ⊢
  clear hown hb hn x0
  go_wp2_with fail
  go_ret2
  rw [HF.out]
  refine ⟨A2, c2, by rw [List.length_map, ← HNK.out]; rfl, ?_, HB2.out⟩
  rw [List.length_map, ← HNK.out, ← intsV_Z]
  exact own_base HOW.out hsz

theorem tops_step {ns : List Nd} {k : Nat} : (List.range (k + 1)).filter (atD ns 0) = (List.range k).filter (atD ns 0) ++ (if atD ns 0 k then [k] else []) := by
  rw [List.range_succ, List.filter_append]; cases h : atD ns 0 k <;> simp [h]

set_option maxRecDepth 100000 in
set_option maxHeartbeats 8000000 in
theorem groupsP_any (L : Lm) (A : Option Addr) (cap : Nat) (ns : List Nd) (w : World) (hl : LmOk w L) (hn : NdsAt w A ns) (hc1 : ns.length ≤ cap) (hc : cap ≤ maxLen) :
    Calls Try.prog 25 #[.agg #[.int .i64 L.per, .slice L.A L.ms.length L.cap], .agg #[.slice A ns.length cap]] w (GotIntsE w (groupsQ L.li ns)) := by
  obtain ⟨E, hE⟩ : ∃ E, textErr L.li ns = E := ⟨_, rfl⟩
  obtain ⟨R, hR⟩ : ∃ R, R = groupsQ L.li ns := ⟨_, rfl⟩
  have HE := Lib.hid (show R = if E ≠ 0 then ([], E) else ((topsL ns).map fun (j : Nat) => (j : Int), 0) by rw [hR, ← hE]; rfl)
  have HEE := Lib.hid hE
  have HNS := Lib.hid hn
  obtain ⟨N, hN⟩ : ∃ N, N = ns.length := ⟨_, rfl⟩
  have HN := Lib.hid hN
  have HCK := Lib.hid (fun wx (hb : Below w.heap.size w wx) => gcheck_is L A cap ns wx (hl.below hb) (hn.below hb) hc1 hc E hE)
  rw [← hR]
  rw [← hN] at HCK hc1 ⊢
  unfold maxLen at hc
  obtain ⟨W, hW⟩ : ∃ W, W = (w.alloc (.cells #[.int .i64 L.per, .slice L.A L.ms.length L.cap] 24)).alloc (.cells #[.slice A N cap] 27) := ⟨_, rfl⟩
  have HB := Lib.hid (show Below w.heap.size w W from hW ▸ two_under _ _ _)
  have HX1 := Lib.hid (show W.heap[w.heap.size + 1]? = some (.cells #[.slice A N cap] 27 (0, 0)) by
    rw [hW]; have := heap_alloc_new (w.alloc (.cells #[.int .i64 L.per, .slice L.A L.ms.length L.cap] 24)) (.cells #[.slice A N cap] 27); simpa using this)
  obtain ⟨iv, hiv, hzv, hsv, hbv⟩ := info_hid infoInt
  clear hl hn hE hN hR
  go_enter Try.func25, Try.ntmps25
  go_wp2_with fail
  rw [← hW]
  refine (HCK.out W HB.out).mono ?_; rintro e w1 ⟨rfl, hb⟩
  have HB1 := Lib.hid (below_more HB.out hb)
  have x0 := cell_of_blk (blk_keep hb HX1.out) 0
  simp at x0
  clear hb hW HX1 HCK HB
  by_cases h0 : E = 0
  case neg =>
    have hbE : (E != 0) = true := by simpa using h0
    have HF := Lib.hid (show R = ([], E) by rw [HE.out, if_pos h0])
    clear h0 HE
    go_wp2_with fail
    go_ret2
    rw [HF.out]
    exact ⟨none, 0, rfl, World.ownsRow_nil _ _ _ _, HB1.out⟩
  subst h0
  obtain ⟨-, hk2, -, -, hk5, -⟩ := text_ok HEE.out
  have HF := Lib.hid (show R = ((topsL ns).map fun (j : Nat) => (j : Int), 0) by rw [HE.out, if_neg (by simp)])
  have hNs : N ≤ 200 := by have := HN.out; omega
  have HDP := Lib.hid hk5
  clear HE hk2 hk5
  have hsz := HB1.out.size
  go_wp2_with fail
  go_loopw [7, 8, 9, 19] (fun v _ _ i wr => ∃ (k c : Nat), k ≤ N ∧ c ≤ k ∧ i = .int .i64 k ∧ Hid (c = ((List.range k).filter (atD ns 0)).length) ∧ Hid (wr.ownsRow w1.heap.size 3 1 v c (intsV ((List.range k).filter (atD ns 0)))) ∧ Hid (Below w1.heap.size w1 wr)) (fun _ _ _ i _ => N - (intOf i).toNat)
  case atStart => exact ⟨0, 0, Nat.zero_le _, Nat.zero_le _, rfl, Lib.hid (by simp), Lib.hid (World.ownsRow_nil _ _ _ _), Lib.hid (Below.refl _ _)⟩
  case round =>
    obtain ⟨k, c, hk, hck, rfl, hcl, hown, hbw⟩ := hrel
    have HBW := Lib.hid hbw.out
    have HCL := Lib.hid hcl.out
    have HOW := Lib.hid hown.out
    clear hbw hcl hown
    by_cases hlt : k < N
    · obtain ⟨m, hm⟩ : ∃ m, ns[k]? = some m := ⟨_, List.getElem?_eq_getElem (by have := HN.out; omega)⟩
      obtain ⟨b, o, hA, hblt, hva⟩ := (HNS.out.below (below_more HB1.out HBW.out)) k m hm
      subst hA
      obtain ⟨y0, y1, y2, y3, y4, y5, y6, y7⟩ := hva
      have hST := tops_step (ns := ns) (k := k)
      have hat : atD ns 0 k = (m.depth == 0) := by unfold atD; rw [hm]; rfl
      rw [hat] at hST
      have HST := Lib.hid hST
      obtain ⟨mk, md, ms, mt, mm, mst, mn, mx⟩ := m
      dsimp only at y0 y1 y2 y3 y4 y5 y6 y7 HST
      have hsw := HBW.out.size
      clear hm hST hat
      by_cases hd : md = 0
      · have hdb : (md == 0) = true := by simpa using hd
        have HS2 := Lib.hid (show intsV ((List.range (k + 1)).filter (atD ns 0)) = intsV ((List.range k).filter (atD ns 0)) ++ [.int .i64 k] ∧ c + 1 = ((List.range (k + 1)).filter (atD ns 0)).length by
          rw [HST.out, hdb]; simp [intsV, HCL.out])
        obtain ⟨xs, hxs⟩ : ∃ xs, xs = intsV ((List.range k).filter (atD ns 0)) := ⟨_, rfl⟩
        rw [← hxs] at HOW HS2
        obtain ⟨Av, cv, hv, -, -, -, -⟩ := own_slice HOW.out
        subst hv
        clear hxs hd
        go_wp2_with (first
          | (at_builtin; refine wpList_append_src _ rfl (.tmp 27) (.tmp 29) 38 rfl w1.heap.size 3 iv (.int .i64 0) 1 8 Try.underlying38 hiv.out hzv.out hsv.out hbv.out rfl (by decide) (.slice Av c cv) c xs rfl ?own2 (some ⟨wr.heap.size + 1, 0, none⟩) 1 1 [.int .i64 k] rfl ?l2 ?n2 ?c2 ?o2 ?m2 ?b2 ?s2 (c + 1) rfl ?_))
        case own2 => exact (HOW.out.alloc _).alloc _
        case l2 => rfl
        case n2 => intro h; cases h
        case c2 =>
          intro ad had j u' hj
          injection had with had
          subst had
          have := new_one (wr.alloc (.cells #[.int .i64 mk, .int .i64 md, .int .i64 ms, .int .i64 mt, .bool mm, .int .i64 mst, .int .i64 mn, .int .i64 mx] 78)) (.int .i64 k) 3 j u' hj
          rw [addr_add, Nat.zero_add]; simpa using this
        case o2 => intro u hu; simp at hu; subst hu; rfl
        case m2 => unfold maxLen; omega
        case b2 => omega
        case s2 => simp; omega
        intro A3 c3 w3 own3 hg3 _
        have HB3 := Lib.hid (((HBW.out.alloc hsw _).alloc (by rw [World.size_alloc]; omega) _).grown hg3 (by rw [World.size_alloc, World.size_alloc]; omega) (fun g hg => (HOW.out.lt g hg).1))
        have HO3 := Lib.hid own3
        clear own3 hg3
        go_wp2_with fail
        go_roundw
        case rel => exact ⟨k + 1, c + 1, by omega, by omega, by go_num, Lib.hid HS2.out.2, Lib.hid (by rw [HS2.out.1]; exact HO3.out), HB3⟩
        case measure => simp [intOf]; omega
      · have hdb : (md == 0) = false := by simpa using hd
        have HS2 := Lib.hid (show (List.range (k + 1)).filter (atD ns 0) = (List.range k).filter (atD ns 0) by rw [HST.out, hdb]; simp)
        clear hd
        go_wp2_with fail
        go_roundw
        case rel => exact ⟨k + 1, c, by omega, by omega, by go_num, Lib.hid (by rw [HS2.out]; exact HCL.out), Lib.hid (by rw [HS2.out]; exact HOW.out.alloc _), Lib.hid (HBW.out.alloc hsw _)⟩
        case measure => simp [intOf]; omega
    · obtain rfl : k = N := by omega
      have HT := Lib.hid (show (List.range k).filter (atD ns 0) = topsL ns by unfold topsL; rw [HN.out])
      have h1 := HOW.out
      rw [HT.out] at h1
      obtain ⟨Av, cv, hv, -, -, -, -⟩ := own_slice h1
      subst hv
      have HO3 := Lib.hid h1
      clear h1
      go_wp2_with fail
      go_ret2
      rw [HF.out]
      refine ⟨Av, cv, ?_, own_base ?_ hsz, below_more HB1.out HBW.out⟩
      · rw [List.length_map, ← HT.out, ← HCL.out]; rfl
      · rw [List.length_map, ← intsV_Z, ← HT.out, ← HCL.out, HT.out]; exact HO3.out

end Go.Proofs.Ytbfedahonfjpfaa
